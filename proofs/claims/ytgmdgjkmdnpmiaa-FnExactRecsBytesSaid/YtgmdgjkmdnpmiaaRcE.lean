/- Two arrays of six numbers compared. -/
import Derived.Test.YtgmdgjkmdnpmiaaRcN
import Derived.Laws.StructEq
namespace Go.Proofs.Ytgmdgjkmdnpmiaa
open Go Go.RowKit
set_option linter.unusedVariables false
set_option linter.unusedSimpArgs false

theorem eqArr6 {P : Program} (w : World) (d : Nat) (t e : TypeId) (k : IntKind) (xs ys : Array Value) (a b : Nat → Int) (ht : P.underlying t = some (.array 6 e)) (he : P.underlying e = some (.int k)) (hs : (sizeOf e).run P w = .ok 1 w)
    (hx : ∀ i, i < 6 → (part e xs i).run P w = .ok (.int k (a i)) w) (hy : ∀ i, i < 6 → (part e ys i).run P w = .ok (.int k (b i)) w) :
    (Op.equalIn (d + 1 + 1) t (.agg xs) (.agg ys)).run P w = .ok (a 0 == b 0 && (a 1 == b 1 && (a 2 == b 2 && (a 3 == b 3 && (a 4 == b 4 && a 5 == b 5))))) w := by
  have one : ∀ i, i < 6 → (Op.equalIn (d + 1) e (.int k (a i)) (.int k (b i))).run P w = .ok (a i == b i) w := fun i _ => run_equalIn_int w d e k k (a i) (b i) he
  generalize hE : Op.equalIn (d + 1) = E at one
  rw [Op.equalIn]
  rw [hE]
  simp only [Sem.run_bind, run_underlying ht, Result.andThen_ok, hs]
  rw [Std.Legacy.Range.forIn_eq_forIn_range']
  simp only [show List.range' 0 (Std.Legacy.Range.size ⟨0, 6, 1, by decide⟩) 1 = [0, 1, 2, 3, 4, 5] from rfl]
  simp only [List.forIn_cons, List.forIn_nil, Sem.run_bind, Nat.mul_one, Result.andThen_ok, Sem.run_ite, Sem.run_pure]
  have o0 := one 0 (by decide)
  generalize (a 0 == b 0) = q0 at o0 ⊢
  have o1 := one 1 (by decide)
  generalize (a 1 == b 1) = q1 at o1 ⊢
  have o2 := one 2 (by decide)
  generalize (a 2 == b 2) = q2 at o2 ⊢
  have o3 := one 3 (by decide)
  generalize (a 3 == b 3) = q3 at o3 ⊢
  have o4 := one 4 (by decide)
  generalize (a 4 == b 4) = q4 at o4 ⊢
  have o5 := one 5 (by decide)
  generalize (a 5 == b 5) = q5 at o5 ⊢
  cases q0 <;> cases q1 <;> cases q2 <;> cases q3 <;> cases q4 <;> cases q5 <;> simp [hx 0 (by decide), hy 0 (by decide), o0, hx 1 (by decide), hy 1 (by decide), o1, hx 2 (by decide), hy 2 (by decide), o2, hx 3 (by decide), hy 3 (by decide), o3, hx 4 (by decide), hy 4 (by decide), o4, hx 5 (by decide), hy 5 (by decide), o5]
def at6 (l : List Int) (i : Nat) : Int := l.getD i 0
set_option maxRecDepth 100000 in
theorem part6 (x1 x2 x3 x4 x5 x6 : Int) (w : World) (i : Nat) (hi : i < 6) : (part 2 #[.int .i64 x1, .int .i64 x2, .int .i64 x3, .int .i64 x4, .int .i64 x5, .int .i64 x6] i).run Try.prog w = .ok (.int .i64 (at6 [x1, x2, x3, x4, x5, x6] i)) w :=
  match i, hi with
  | 0, _ => by kernel_rfl
  | 1, _ => by kernel_rfl
  | 2, _ => by kernel_rfl
  | 3, _ => by kernel_rfl
  | 4, _ => by kernel_rfl
  | 5, _ => by kernel_rfl
theorem arr_eq (y1 y2 y3 y4 y5 y6 x1 x2 x3 x4 x5 x6 : Int) (w : World) : (Op.equalIn 10000 39 (.agg #[.int .i64 y1, .int .i64 y2, .int .i64 y3, .int .i64 y4, .int .i64 y5, .int .i64 y6]) (.agg #[.int .i64 x1, .int .i64 x2, .int .i64 x3, .int .i64 x4, .int .i64 x5, .int .i64 x6])).run Try.prog w = .ok (y1 == x1 && (y2 == x2 && (y3 == x3 && (y4 == x4 && (y5 == x5 && y6 == x6))))) w :=
  eqArr6 w 9998 39 2 .i64 _ _ (at6 [y1, y2, y3, y4, y5, y6]) (at6 [x1, x2, x3, x4, x5, x6]) (by kernel_rfl) (by kernel_rfl) (by kernel_rfl) (part6 _ _ _ _ _ _ w) (part6 _ _ _ _ _ _ w)
end Go.Proofs.Ytgmdgjkmdnpmiaa
