/- Copies into a block that is known whole, of elements of whatever size; what is spliced. No program. -/
import Derived.Test.YtmdcankfjmkkeaaKeep
import Derived.Maps.AppendAt
import Derived.Laws.CopyOwn
import Derived.Lib.AppendZerosOnto
import Derived.Lib.Overlaps
namespace Go.Proofs.Ytmdcankfjmkkeaa
open Go Go.RowKit
set_option linter.unusedVariables false

theorem splice_two {X Y Z A B : List Value} (hY : Y.length = A.length + B.length) : splice (splice (X ++ (Y ++ Z)) X.length A) (X.length + A.length) B = X ++ (A ++ (B ++ Z)) := by
  unfold splice
  rw [List.take_left, List.drop_length_add_append]
  have e1 : (X ++ (A ++ (Y ++ Z).drop A.length)).take (X.length + A.length) = X ++ A := by
    rw [List.take_length_add_append, List.take_left]
  have e2 : (X ++ (A ++ (Y ++ Z).drop A.length)).drop (X.length + A.length + B.length) = Z := by
    rw [Nat.add_assoc, List.drop_length_add_append, List.drop_length_add_append, List.drop_drop, ← hY, List.drop_left]
  rw [e1, e2, List.append_assoc]
theorem splice_back {X D Z A : List Value} (hA : A.length ≤ Z.length) : splice (splice (X ++ (D ++ Z)) (X.length + A.length) D) X.length A = X ++ (A ++ (D ++ Z.drop A.length)) := by
  unfold splice
  have e1 : (X ++ (D ++ Z)).take (X.length + A.length) = X ++ (D ++ Z).take A.length := by rw [List.take_length_add_append]
  have e2 : (X ++ (D ++ Z)).drop (X.length + A.length + D.length) = Z.drop A.length := by
    rw [Nat.add_assoc, List.drop_length_add_append, Nat.add_comm, List.drop_length_add_append]
  have hl : ((D ++ Z).take A.length).length = A.length := by rw [List.length_take, List.length_append]; omega
  rw [e1, e2, List.append_assoc, List.take_left, List.drop_length_add_append]
  have e3 : ((D ++ Z).take A.length ++ (D ++ Z.drop A.length)).drop A.length = D ++ Z.drop A.length := by
    have := List.drop_left (l₁ := (D ++ Z).take A.length) (l₂ := D ++ Z.drop A.length)
    rwa [hl] at this
  rw [e3]
theorem run_copy_blk {P : Program} (w : World) (dT sT ty elem : TypeId) (size g off n dLen dCap : Nat) (a : Addr) (sLen sCap : Nat) (L cs : List Value) (t : TypeId)
    (hu : P.underlying dT = some (.slice elem)) (hs : (P.info? elem).map (·.size) = some size) (hg : w.heap[g]? = some (.cells L.toArray t (0, 0))) (hn : cs.length = n * size) (hmin : Nat.min sLen dLen = n)
    (hsrc : ∀ j v, cs[j]? = some v → w.cell? (a.add j) = some v) (hfit : off + cs.length ≤ L.length) (h1 : ∀ v ∈ cs, v.oneCell' = true) :
    ∃ w', (Builtin.copy_ #[dT, sT] ty #[.slice (some ⟨g, off, none⟩) dLen dCap, .slice (some a) sLen sCap]).run P w = .ok (goInt n) w' ∧ w'.heap[g]? = some (.cells (splice L off cs).toArray t (0, 0)) ∧ w.grownBy w' (some g) := by
  have hl := run_loadCells_list (P := P) w a cs hsrc
  have hst := run_storeCells_at P g off t cs 0 L.toArray w hg (by simpa using hfit) h1
  have e : (L.toArray.toList.take (off + 0) ++ cs ++ L.toArray.toList.drop (off + 0 + cs.length)) = splice L off cs := by
    unfold splice
    simp
  rw [e] at hst
  refine ⟨w.setRow g (splice L off cs).toArray, ?_, setRow_heap _ _ _ _ _ _ hg, ⟨rfl, rfl, rfl, by simp [World.setRow], fun i _ hi => ?_⟩⟩
  · cases hq : P.info? elem with
    | none => simp [hq] at hs
    | some i =>
      have hi : i.size = size := by simpa [hq] using hs
      simp [Builtin.copy_, run_underlying hu, Builtin.lenOf, Builtin.firstCells, sizeOf, typeInfo, hq, hi, hmin, ← hn, hl, hst]
  · simp only [World.setRow, Array.getElem?_modify]
    rw [if_neg (fun e => hi (by rw [e]))]
theorem exec_copy {P : Program} {w w' : World} {o : Oper} {a : Act} (d s : Operand) (t t' : TypeId) (ho : o.op = .call { callee := .builtin .copy, args := #[d, s], argTypes := #[t, t'] }) (v u : Value) (hd : a.eval d = v) (hs : a.eval s = u) {v' : Value}
    (hr : (Builtin.copy_ #[t, t'] o.type #[v, u]).run P w = .ok v' w') : (execOp a.eval o).run P w = .ok (.value v') w' := by
  unfold execOp
  simp only [ho, resolve, invoke, builtin, Sem.run_bind, Sem.run_pure, Result.andThen_ok, List.map_toArray, List.map_cons, List.map_nil, hd, hs, hr]
theorem wpList_copy_run {P : Program} {w : World} {ops : Array Oper} {rest : List Oper} {o : Oper} {a : Act} {Q : Exit → Act → World → Prop} (hgd : o.guard = none) (d s : Operand) (t t' : TypeId)
    (ho : o.op = .call { callee := .builtin .copy, args := #[d, s], argTypes := #[t, t'] }) (v u : Value) (hd : a.eval d = v) (hs : a.eval s = u) {v' : Value} {w' : World}
    (hr : (Builtin.copy_ #[t, t'] o.type #[v, u]).run P w = .ok v' w') (h : wpList P ops Q rest (a.put o.dst v') w') : wpList P ops Q (o :: rest) a w :=
  wpList_plain hgd fun _ hK => by
    unfold Oper.wp
    rw [exec_copy d s t t' ho v u hd hs hr]
    exact hK _ _ h
theorem exec_append {P : Program} {w w' : World} {o : Oper} {a : Act} (d s : Operand) (t t' : TypeId) (ho : o.op = .call { callee := .builtin .append, args := #[d, s], argTypes := #[t, t'] }) (v u : Value) (hd : a.eval d = v) (hs : a.eval s = u) {v' : Value}
    (hr : (Builtin.append_ #[t, t'] o.type #[v, u]).run P w = .ok v' w') : (execOp a.eval o).run P w = .ok (.value v') w' := by
  unfold execOp
  simp only [ho, resolve, invoke, builtin, Sem.run_bind, Sem.run_pure, Result.andThen_ok, List.map_toArray, List.map_cons, List.map_nil, hd, hs, hr]
end Go.Proofs.Ytmdcankfjmkkeaa
