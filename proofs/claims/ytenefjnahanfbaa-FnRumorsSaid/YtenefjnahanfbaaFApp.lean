/- Facts appended to a row of the call's own, as laws of the walk. -/
import Derived.Test.YtenefjnahanfbaaSlc
import Derived.Test.YtenefjnahanfbaaFInsert
import Derived.Test.YtenefjnahanfbaaVOut
namespace Go.Proofs.Ytenefjnahanfbaa
open Go Go.RowKit
set_option linter.unusedVariables false

theorem CellRow.takeF {w : World} {b off : Nat} {l : List FactV} (h : CellRow w (some ⟨b, off, none⟩) (cellsOf FactV.cells l)) (k : Nat) (hk : k ≤ l.length) : CellRow w (some ⟨b, off, none⟩) (cellsOf FactV.cells (l.take k)) := by
  rw [← cellsOf_take FactV.cells_len l k hk]
  rcases h with h | ⟨b', off', e, hlt, hc⟩
  · exact .inl (by rw [h]; simp)
  · simp only [Option.some.injEq, Addr.mk.injEq, and_true] at e
    obtain ⟨rfl, rfl⟩ := e
    exact .inr ⟨_, _, rfl, hlt, fun i hi => by rw [hc i (by rw [List.length_take] at hi; omega)]; simp⟩
theorem CellRow.dropF {w : World} {b off : Nat} {l : List FactV} (h : CellRow w (some ⟨b, off, none⟩) (cellsOf FactV.cells l)) (k : Nat) (hk : k ≤ l.length) : CellRow w (some ⟨b, off + k * 3, none⟩) (cellsOf FactV.cells (l.drop k)) := by
  rw [← cellsOf_drop FactV.cells_len l k hk]
  rcases h with h | ⟨b', off', e, hlt, hc⟩
  · exact .inl (by rw [h]; simp)
  · simp only [Option.some.injEq, Addr.mk.injEq, and_true] at e
    obtain ⟨rfl, rfl⟩ := e
    exact .inr ⟨_, _, rfl, hlt, fun i hi => by rw [Nat.add_assoc, hc (k * 3 + i) (by rw [List.length_drop] at hi; omega)]; simp⟩
theorem run_append_facts {w : World} (base : Nat) (v : Value) (n : Nat) (xs : List Value) (hown : w.ownsRow base 25 3 v n xs) (ad : Addr) (m cap : Nat) (l : List FactV) (hm : l.length = m) (hrow : CellRow w (some ad) (cellsOf FactV.cells l)) (h63 : n + m ≤ 2000000) (hbase : base ≤ w.heap.size) :
    ∃ v' w', (Builtin.append_ #[28, 28] 28 #[v, .slice (some ad) m cap]).run Try.prog w = .ok v' w' ∧ w'.ownsRow base 25 3 v' (n + m) (xs ++ cellsOf FactV.cells l) ∧ w.grownBy w' v.ownBlock ∧ (v'.ownBlock = v.ownBlock ∨ v'.ownBlock = some w.heap.size) := by
  subst hm
  obtain ⟨i0, hi0, hz0, hzs, hzb⟩ := info_partsF
  obtain ⟨v', w', hr, h2, h3, _, h5⟩ := run_append_own_at (P := Try.prog) w base 28 28 25 i0 _ 3 24 Try.underlying28 hi0 hz0 hzs hzb rfl (by omega) v n xs hown ad l.length cap (cellsOf FactV.cells l) (cellsOf_length FactV.cells_len l) hrow.reads (cellsOf_one l) (by unfold maxLen; omega) (by omega) hbase
  exact ⟨v', w', hr, h2, h3, h5⟩
theorem append_factsL {w : World} {ops : Array Oper} {rest : List Oper} {o : Oper} {act : Act} {Q : Exit → Act → World → Prop} (hgd : o.guard = none) (hty : o.type = 28) (s x : Operand)
    (ho : o.op = .call { callee := .builtin .append, args := #[s, x], argTypes := #[28, 28] }) (base : Nat) (v : Value) (n : Nat) (xs : List Value) (hs : act.eval s = v) (hown : w.ownsRow base 25 3 v n xs)
    (ad : Addr) (m cap : Nat) (l : List FactV) (hm : l.length = m) (hx : act.eval x = .slice (some ad) m cap) (hrow : CellRow w (some ad) (cellsOf FactV.cells l)) (h63 : n + m ≤ 2000000) (hbase : base ≤ w.heap.size)
    (h : ∀ v' w', w'.ownsRow base 25 3 v' (n + m) (xs ++ cellsOf FactV.cells l) → w.grownBy w' v.ownBlock → (v'.ownBlock = v.ownBlock ∨ v'.ownBlock = some w.heap.size) → wpList Try.prog ops Q rest (act.put o.dst v') w') : wpList Try.prog ops Q (o :: rest) act w :=
  wpList_plain hgd fun _ hK => by
    obtain ⟨v', w', hr, h2, h3, h5⟩ := run_append_facts base v n xs hown ad m cap l hm hrow h63 hbase
    unfold Oper.wp
    rw [exec_append s x _ _ ho v _ hs hx (by rw [hty]; exact hr)]
    exact hK _ _ (h v' w' h2 h3 h5)
theorem oneRowF (w : World) (d : FactV) : CellRow (w.alloc (.cells #[.int .i64 d.node, .int .i64 d.inc, .int .i64 d.st] 25)) (some ⟨w.heap.size, 0, none⟩) (cellsOf FactV.cells [d]) := by
  have h := BlkIs.new w 25 #[.int .i64 d.node, .int .i64 d.inc, .int .i64 d.st]
  refine .inr ⟨w.heap.size, 0, rfl, h.lt, fun i hi => ?_⟩
  have e : cellsOf FactV.cells [d] = d.cells := by simp [cellsOf]
  rw [Nat.zero_add, h.cell]
  have hi3 : i < 3 := by rw [e] at hi; exact hi
  match i, hi3 with
  | 0, _ => rfl
  | 1, _ => rfl
  | 2, _ => rfl
theorem own_eqF {w : World} {base e : Nat} {v : Value} {n n' : Nat} {xs xs' : List Value} (h : w.ownsRow base e 3 v n xs) (hn : n = n') (hx : xs = xs') : w.ownsRow base e 3 v n' xs' := by
  subst hn hx; exact h
theorem FAt.row {w : World} {b off : Nat} {x : FactV} (h : FAt w b off x) : CellRow w (some ⟨b, off, none⟩) (cellsOf FactV.cells [x]) := by
  refine .inr ⟨b, off, rfl, h.lt, fun i hi => ?_⟩
  have e : cellsOf FactV.cells [x] = x.cells := by simp [cellsOf]
  have hi3 : i < 3 := by rw [e] at hi; exact hi
  match i, hi3 with
  | 0, _ => exact h.c0
  | 1, _ => exact h.c1
  | 2, _ => exact h.c2
end Go.Proofs.Ytenefjnahanfbaa
