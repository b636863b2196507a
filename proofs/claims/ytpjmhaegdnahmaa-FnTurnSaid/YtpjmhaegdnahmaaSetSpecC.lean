/- The contracts of chapter 3's specification: a set with a number. -/
import Derived.Test.YtpjmhaegdnahmaaSetSpecB
namespace Go.Proofs.Ytpjmhaegdnahmaa
open Go Go.RowKit
set_option linter.unusedVariables false

theorem NumRow.take {w : World} {b off : Nat} {l : List Int} (h : NumRow w (some ⟨b, off, none⟩) l) (k : Nat) : NumRow w (some ⟨b, off, none⟩) (l.take k) := by
  rcases h with h | ⟨b', off', e, hlt, hc⟩
  · exact .inl (by rw [h]; simp)
  · simp only [Option.some.injEq, Addr.mk.injEq, and_true] at e
    obtain ⟨rfl, rfl⟩ := e
    exact .inr ⟨_, _, rfl, hlt, fun i hi => by rw [hc i (by rw [List.length_take] at hi; omega)]; simp⟩
theorem NumRow.drop {w : World} {b off : Nat} {l : List Int} (h : NumRow w (some ⟨b, off, none⟩) l) (k : Nat) : NumRow w (some ⟨b, off + k, none⟩) (l.drop k) := by
  rcases h with h | ⟨b', off', e, hlt, hc⟩
  · exact .inl (by rw [h]; simp)
  · simp only [Option.some.injEq, Addr.mk.injEq, and_true] at e
    obtain ⟨rfl, rfl⟩ := e
    exact .inr ⟨_, _, rfl, hlt, fun i hi => by rw [Nat.add_assoc, hc (k + i) (by rw [List.length_drop] at hi; omega)]; simp⟩
theorem append_numsM {w : World} {ops : Array Oper} {rest : List Oper} {o : Oper} {act : Act} {Q : Exit → Act → World → Prop} (hgd : o.guard = none) (s x : Operand)
    (ho : o.op = .call { callee := .builtin .append, args := #[s, x], argTypes := #[23, 23] }) (base : Nat) (v : Value) (n : Nat) (xs : List Value) (hs : act.eval s = v) (hown : w.ownsRow base 2 1 v n xs)
    (a : Addr) (m cap : Nat) (l : List Int) (hm : l.length = m) (hx : act.eval x = .slice (some a) m cap) (hrow : NumRow w (some a) l) (h63 : n + m ≤ 2000000) (hbase : base ≤ w.heap.size)
    (h : ∀ v' w', w'.ownsRow base 2 1 v' (n + m) (xs ++ numsV l) → w.grownBy w' v.ownBlock → wpList Try.prog ops Q rest (act.put o.dst v') w') : wpList Try.prog ops Q (o :: rest) act w := by
  subst hm
  exact append_nums hgd s x ho base v n xs hs hown (some a) cap l hx (fun e => by cases e) hrow h63 hbase h

theorem own_eq {w : World} {base e : Nat} {v : Value} {n n' : Nat} {xs xs' : List Value} (h : w.ownsRow base e 1 v n xs) (hn : n = n') (hx : xs = xs') : w.ownsRow base e 1 v n' xs' := by
  subst hn hx; exact h
theorem one_row (n : Int) (w : World) : NumRow (w.alloc (.cells #[.int .i64 n] 2)) (some ⟨w.heap.size, 0, none⟩) [n] := by
  refine .inr ⟨w.heap.size, 0, rfl, by simp, fun i hi => ?_⟩
  simp only [List.length_singleton] at hi
  obtain rfl : i = 0 := by omega
  rw [World.cell?_alloc_at _ _ _ _ rfl]
  rfl

/-- SetPut. -/
def setPutL (l : List Int) (n : Int) : List Int := if 400 < (l.length : Int) then [] else if rightL l ∧ (l.length : Int) < 400 then insL l n else l
end Go.Proofs.Ytpjmhaegdnahmaa
