/- Dues appended to a row of the call's own, as laws of the walk. -/
import Derived.Test.YtlnkcbojoaoehaaHeapC
import Derived.Test.YtlnkcbojoaoehaaQSpecD
namespace Go.Proofs.Ytlnkcbojoaoehaa
open Go Go.RowKit
set_option linter.unusedVariables false

theorem CellRow.takeD {w : World} {b off : Nat} {l : List DueV} (h : CellRow w (some ⟨b, off, none⟩) (cellsOf DueV.cells l)) (k : Nat) (hk : k ≤ l.length) : CellRow w (some ⟨b, off, none⟩) (cellsOf DueV.cells (l.take k)) := by
  rw [← cellsOf_take DueV.cells_len l k hk]
  rcases h with h | ⟨b', off', e, hlt, hc⟩
  · exact .inl (by rw [h]; simp)
  · simp only [Option.some.injEq, Addr.mk.injEq, and_true] at e
    obtain ⟨rfl, rfl⟩ := e
    exact .inr ⟨_, _, rfl, hlt, fun i hi => by rw [hc i (by rw [List.length_take] at hi; omega)]; simp⟩
theorem CellRow.dropD {w : World} {b off : Nat} {l : List DueV} (h : CellRow w (some ⟨b, off, none⟩) (cellsOf DueV.cells l)) (k : Nat) (hk : k ≤ l.length) : CellRow w (some ⟨b, off + k * 4, none⟩) (cellsOf DueV.cells (l.drop k)) := by
  rw [← cellsOf_drop DueV.cells_len l k hk]
  rcases h with h | ⟨b', off', e, hlt, hc⟩
  · exact .inl (by rw [h]; simp)
  · simp only [Option.some.injEq, Addr.mk.injEq, and_true] at e
    obtain ⟨rfl, rfl⟩ := e
    exact .inr ⟨_, _, rfl, hlt, fun i hi => by rw [Nat.add_assoc, hc (k * 4 + i) (by rw [List.length_drop] at hi; omega)]; simp⟩
theorem CellRow.reads {w : World} {ad : Addr} {cs : List Value} (h : CellRow w (some ad) cs) : ∀ j u, cs[j]? = some u → w.cell? (ad.add j) = some u := by
  intro j u hj
  obtain ⟨hlt, hv⟩ := List.getElem?_eq_some_iff.1 hj
  rcases h with h | ⟨b, off, e, _, hc⟩
  · rw [h] at hlt; simp at hlt
  · obtain rfl := Option.some.inj e
    have e2 : (⟨b, off, none⟩ : Addr).add j = ⟨b, off + j, none⟩ := by by_cases e0 : j = 0 <;> simp [Addr.add, e0]
    rw [e2, hc j hlt, hv]
/-- append(own, dues...). -/
theorem append_dues {w : World} {o : Oper} {act : Act} {K : Act → World → Prop} {Q : Exit → Act → World → Prop} (s x : Operand)
    (ho : o.op = .call { callee := .builtin .append, args := #[s, x], argTypes := #[23, 23] }) (base : Nat) (v : Value) (n : Nat) (xs : List Value) (hs : act.eval s = v) (hown : w.ownsRow base 25 4 v n xs)
    (ad : Addr) (m cap : Nat) (l : List DueV) (hm : l.length = m) (hx : act.eval x = .slice (some ad) m cap) (hrow : CellRow w (some ad) (cellsOf DueV.cells l)) (h63 : n + m ≤ 2000000) (hbase : base ≤ w.heap.size)
    (h : ∀ v' w', w'.ownsRow base 25 4 v' (n + m) (xs ++ cellsOf DueV.cells l) → w.grownBy w' v.ownBlock → K (act.put o.dst v') w') : o.wp Try.prog act w K Q := by
  subst hm
  obtain ⟨i0, hi0, hz⟩ := Option.map_eq_some_iff.1 Try.infoDue
  simp only [Prod.mk.injEq] at hz
  exact wp_append_at s x 23 ho base 25 i0 _ 4 40 Try.underlying23 hi0 hz.1 hz.2.1 hz.2.2 rfl (by omega) v n xs hs hown ad l.length cap (cellsOf DueV.cells l) hx (cellsOf_length DueV.cells_len l) hrow.reads (cellsOf_one l) (by unfold maxLen; omega) (by omega) hbase (fun v' w' h1 h2 _ => h v' w' h1 h2)
theorem append_duesL {w : World} {ops : Array Oper} {rest : List Oper} {o : Oper} {act : Act} {Q : Exit → Act → World → Prop} (hgd : o.guard = none) (s x : Operand)
    (ho : o.op = .call { callee := .builtin .append, args := #[s, x], argTypes := #[23, 23] }) (base : Nat) (v : Value) (n : Nat) (xs : List Value) (hs : act.eval s = v) (hown : w.ownsRow base 25 4 v n xs)
    (ad : Addr) (m cap : Nat) (l : List DueV) (hm : l.length = m) (hx : act.eval x = .slice (some ad) m cap) (hrow : CellRow w (some ad) (cellsOf DueV.cells l)) (h63 : n + m ≤ 2000000) (hbase : base ≤ w.heap.size)
    (h : ∀ v' w', w'.ownsRow base 25 4 v' (n + m) (xs ++ cellsOf DueV.cells l) → w.grownBy w' v.ownBlock → wpList Try.prog ops Q rest (act.put o.dst v') w') : wpList Try.prog ops Q (o :: rest) act w :=
  wpList_plain hgd fun _ hK => append_dues s x ho base v n xs hs hown ad m cap l hm hx hrow h63 hbase fun v' w' h2 h3 => hK _ _ (h v' w' h2 h3)
/-- A slice's rest. -/
def restOff (off cap k : Nat) : Nat := if cap = k then off else off + k * 4
theorem restOff_row {w : World} {b off cap : Nat} {l : List DueV} (h : CellRow w (some ⟨b, off, none⟩) (cellsOf DueV.cells l)) (k : Nat) (hk : k ≤ l.length) (hc : l.length ≤ cap) : CellRow w (some ⟨b, restOff off cap k, none⟩) (cellsOf DueV.cells (l.drop k)) := by
  unfold restOff
  by_cases e : cap = k
  · exact .inl (by rw [List.drop_eq_nil_of_le (by omega)]; rfl)
  · rw [if_neg e]
    exact h.dropD k hk
end Go.Proofs.Ytlnkcbojoaoehaa
