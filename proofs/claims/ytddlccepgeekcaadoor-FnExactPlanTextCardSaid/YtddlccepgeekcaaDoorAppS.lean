/- Texts appended to a row of the call's own. -/
import Derived.Test.YtddlccepgeekcaaDoorKeep
import Derived.WalkKit
import Derived.WalkLawsBesides
import Derived.Laws.AppendOwn
import Derived.Laws.OwnMore
namespace Go.Proofs.YtddlccepgeekcaaDoor
open Go Go.RowKit
set_option linter.unusedVariables false

def strV (l : List ByteArray) : List Value := l.map Value.string
theorem strV_length (l : List ByteArray) : (strV l).length = l.length := by simp [strV]
theorem strV_append (l m : List ByteArray) : strV (l ++ m) = strV l ++ strV m := by simp [strV]
theorem Tryd.infoStr : (Tryd.prog.info? 9).map (fun i => (i.zero, i.size, i.bytes)) = some (some (.string ⟨#[]⟩), 1, 16) := by kernel_rfl
theorem append_strs {w : World} {ops : Array Oper} {rest : List Oper} {o : Oper} {act : Act} {Q : Exit → Act → World → Prop} (hgd : o.guard = none) (s x : Operand)
    (ho : o.op = .call { callee := .builtin .append, args := #[s, x], argTypes := #[36, 36] }) (base : Nat) (v : Value) (n : Nat) (xs : List Value) (hs : act.eval s = v) (hown : w.ownsRow base 9 1 v n xs)
    (b cap : Nat) (l : List ByteArray) (m : Nat) (hm : l.length = m) (hx : act.eval x = .slice (some ⟨b, 0, none⟩) m cap) {t : Nat} (hrow : BlkIs w b t (strV l).toArray) (h63 : n + m ≤ 2000000) (hbase : base ≤ w.heap.size)
    (h : ∀ v' w', w'.ownsRow base 9 1 v' (n + m) (xs ++ strV l) → w.grownBy w' v.ownBlock → wpList Tryd.prog ops Q rest (act.put o.dst v') w') : wpList Tryd.prog ops Q (o :: rest) act w := by
  subst hm
  obtain ⟨i0, hi, hz⟩ := Option.map_eq_some_iff.1 Tryd.infoStr
  simp only [Prod.mk.injEq] at hz
  refine wpList_append_own w hgd s x 36 ho base 9 i0 (.string ⟨#[]⟩) 1 16 Tryd.underlying36 hi hz.1 hz.2.1 hz.2.2 rfl (by decide) v n xs hs hown ⟨b, 0, none⟩ l.length cap (strV l) hx (by simp [strV]) ?_ ?_ (by unfold maxLen; omega) (by omega) hbase (fun v' w' h1 h2 _ => h v' w' h1 h2)
  · intro j u hj
    have e : (⟨b, 0, none⟩ : Addr).add j = ⟨b, j, none⟩ := by by_cases e0 : j = 0 <;> simp [Addr.add, e0]
    rw [e, hrow.cell j]
    simpa using hj
  · intro u hu
    obtain ⟨q, _, rfl⟩ := List.mem_map.1 hu
    rfl
theorem strs_cell {w : World} {base : Nat} {v : Value} {l : List ByteArray} (h : w.ownsRow base 9 1 v l.length (strV l)) (hp : 0 < l.length) : ∃ b cap, v = .slice (some ⟨b, 0, none⟩) l.length cap ∧ base ≤ b ∧ b < w.heap.size ∧ ∀ j (hj : j < l.length), w.cell? ⟨b, j, none⟩ = some (.string l[j]) := by
  have h' := h
  rcases h.2 with ⟨hv, hn⟩ | ⟨g, cap, cur, hv, hb, hg, hnc, hcm, hcs, ht⟩
  · omega
  · subst hv
    refine ⟨g, cap, rfl, hb, (h'.lt g rfl).2, fun j hj => ?_⟩
    rw [h'.cellAt j (by omega), strV, List.getElem?_map, List.getElem?_eq_getElem hj]
    rfl
end Go.Proofs.YtddlccepgeekcaaDoor
