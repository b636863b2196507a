/- The contract of slices.Delete over rumors: one is taken out, in place. -/
import Derived.Test.YtenefjnahanfbaaRumEq
import Derived.Shelf.RegionOpenPlain
import Derived.Deep.RegionLaw
import Derived.Lib.SliceRun
import Derived.Lib.AppendZerosOnto
import Derived.Lib.LazyBuf
namespace Go.Proofs.Ytenefjnahanfbaa
open Go Go.RowKit
set_option linter.unusedVariables false
set_option linter.unusedSimpArgs false

theorem splice_consR {L : List Value} {o : Nat} {v : Value} {r : List Value} (h : o < L.length) : splice (L.set o v) (o + 1) r = splice L o (v :: r) := by
  unfold splice
  rw [List.take_set, List.take_succ_eq_append_getElem h, List.set_append_right _ _ (by rw [List.length_take]; exact Nat.min_le_left _ _), List.drop_set_of_lt (by omega)]
  have e : o - (L.take o).length = 0 := by simp; omega
  rw [e]
  simp
  rw [show o + 1 + r.length = o + (r.length + 1) by omega]
theorem blkR_setCells {g t : Nat} : ∀ (vs : List Value) (o : Nat) (L : List Value) (w : World), w.heap[g]? = some (.cells L.toArray t (0, 0)) → o + vs.length ≤ L.length → (w.setCells g o vs).heap[g]? = some (.cells (splice L o vs).toArray t (0, 0))
  | [], o, L, w, h, _ => by simpa [World.setCells, splice] using h
  | v :: r, o, L, w, h, hl => by
    have h1 := heap_setCell_same w g o _ t v h
    have hs : (L.toArray.setIfInBounds o v) = (L.set o v).toArray := by simp
    rw [hs] at h1
    simp only [List.length_cons] at hl
    have := blkR_setCells r (o + 1) (L.set o v) _ h1 (by rw [List.length_set]; omega)
    rw [splice_consR (by omega)] at this
    exact this
theorem keeps_cells {G : Nat → Prop} {g : Nat} {a : World} (hg : ¬ G g) : ∀ (vs : List Value) (o : Nat) (w : World), Keeps G a w → Keeps G a (w.setCells g o vs)
  | [], o, w, h => h
  | v :: r, o, w, h => keeps_cells hg r (o + 1) _ (h.setCell (p := ⟨g, o, none⟩) hg v)
theorem zeroR (w : World) : (zeroValue 39).run Try.prog w = .ok (.agg #[.int .i64 0, .int .i64 0, .int .i64 0, .int .i64 0]) w := by
  obtain ⟨i, hi, hz, _, _⟩ := info_partsR
  simp [zeroValue, typeInfo, hi, hz]
def zero4 : List Value := [.int .i64 0, .int .i64 0, .int .i64 0, .int .i64 0]
theorem run_clearR (w : World) (ty : TypeId) (b o c : Nat) (hc : ∀ j, j < 4 → (w.cell? ⟨b, o + j, none⟩).isSome = true) (hf : ∀ j, j < 4 → w.frozen? ⟨b, o + j, none⟩ = false) :
    (Builtin.clear_ #[23] ty #[.slice (some ⟨b, o, none⟩) 1 c]).run Try.prog w = .ok (.tuple #[]) (w.setCells b o zero4) := by
  have hzc : (Builtin.zeroCells (Value.agg #[.int .i64 0, .int .i64 0, .int .i64 0, .int .i64 0]).cells 1).toList = zero4 := by kernel_rfl
  have hst := run_storeCells_cells (P := Try.prog) b o zero4 0 w (by simpa [zero4] using hc) (by simpa [zero4] using hf) (by intro v hv'; unfold zero4 at hv'; simp only [List.mem_cons, List.not_mem_nil, or_false] at hv'; rcases hv' with rfl | rfl | rfl | rfl <;> rfl)
  simp only [Nat.add_zero] at hst
  simp [Builtin.clear_, run_underlying Try.underlying23, zeroR, hzc, hst]
theorem addr_offR (g o j : Nat) : (⟨g, o, none⟩ : Addr).add j = ⟨g, o + j, none⟩ := by by_cases e0 : j = 0 <;> simp [Addr.add, e0]
/-- What a Delete answers. -/
def DelPost (base : Nat) (v : Value) (l : List RumV) (w : World) (e : Ending) (w' : World) : Prop := ∃ v', e = .returned v' ∧ w'.ownsRow base 39 4 v' l.length (cellsOf RumV.cells l) ∧ v'.ownBlock = v.ownBlock ∧ Keeps (fun q => v.ownBlock ≠ some q) w w'
set_option maxHeartbeats 4000000 in
set_option maxRecDepth 100000 in
theorem deleteR_any (v : Value) (i j : Nat) (l : List RumV) (base : Nat) (w : World) (hl : l.length ≤ 1000) (hi : i < l.length) (hj : j = i + 1) (ho : w.ownsRow base 39 4 v l.length (cellsOf RumV.cells l)) :
    Calls Try.prog 57 #[v, .int .i64 i, .int .i64 j] w (DelPost base v (l.take i ++ l.drop (i + 1)) w) := by
  obtain ⟨i0, hi0, hz0, hz1, hz2⟩ := info_partsR
  rcases ho.2 with ⟨_, hn⟩ | ⟨g, cap, cur, rfl, hbg, hcur, hcap, hcm, hcs, htk⟩
  · omega
  obtain ⟨L, rfl⟩ : ∃ L : List Value, cur = L.toArray := ⟨cur.toList, by simp⟩
  have hLl : L.length = cap * 4 := by simpa using hcs
  have htk' : L.take (l.length * 4) = cellsOf RumV.cells l := by simpa using htk
  have hcl4 := cellsOf_length RumV.cells_len l
  obtain ⟨news, hnews⟩ : ∃ news, news = cellsOf RumV.cells (l.drop (i + 1)) := ⟨_, rfl⟩
  have hlen : news.length = (l.length - (i + 1)) * 4 := by rw [hnews, cellsOf_length RumV.cells_len, List.length_drop]
  have hbw : w.drew.heap[g]? = some (.cells L.toArray 39 (0, 0)) := hcur
  have hcel : ∀ q, q < l.length * 4 → w.drew.cell? ⟨g, q, none⟩ = (cellsOf RumV.cells l)[q]? := fun q hq => by
    have : w.drew.cell? ⟨g, q, none⟩ = L[q]? := by simp [World.cell?, hbw]
    rw [this, ← htk', List.getElem?_take, if_pos hq]
  have hfz : ∀ q, w.drew.frozen? ⟨g, q, none⟩ = false := fun q => frozen_of_row _ _ _ _ _ hbw
  obtain ⟨A, hA, hsrc⟩ : ∃ A : Addr, (if cap = i + 1 then some (⟨g, 0, none⟩ : Addr) else some ⟨g, (i + 1) * 4, none⟩) = some A ∧ Hid (∀ t u, news[t]? = some u → w.drew.cell? (A.add t) = some u) := by
    by_cases h : cap = i + 1
    · refine ⟨⟨g, 0, none⟩, by simp [h], fun t u hu => ?_⟩
      rw [List.eq_nil_of_length_eq_zero (by omega : news.length = 0)] at hu
      simp at hu
    · refine ⟨⟨g, (i + 1) * 4, none⟩, by simp [h], fun t u hu => ?_⟩
      have ht : t < (l.length - (i + 1)) * 4 := by
        have := (List.getElem?_eq_some_iff.1 hu).1
        rwa [hlen] at this
      rw [addr_offR, hcel _ (by omega)]
      rw [hnews, ← cellsOf_drop RumV.cells_len l (i + 1) (by omega), List.getElem?_drop] at hu
      exact hu
  have s1 : Hid (news.length = (l.length - (i + 1)) * 4) := hlen
  have s2 : Hid (∀ u ∈ news, u.oneCell' = true) := by rw [hnews]; exact cellsOf_oneR _
  have s3 : Hid (∀ t, t < news.length → (w.drew.cell? ⟨g, 0 + i * 4 + t, none⟩).isSome = true ∧ w.drew.frozen? ⟨g, 0 + i * 4 + t, none⟩ = false) := by
    intro t ht
    rw [hlen] at ht
    refine ⟨?_, hfz _⟩
    rw [hcel _ (by omega), List.getElem?_eq_getElem (by omega)]
    rfl
  obtain ⟨W1, hW1⟩ : ∃ W1, W1 = w.drew.setCells g (0 + i * 4) news := ⟨_, rfl⟩
  have hB1 : W1.heap[g]? = some (.cells (splice L (i * 4) news).toArray 39 (0, 0)) := by
    rw [hW1, show 0 + i * 4 = i * 4 by omega]
    exact blkR_setCells news (i * 4) L w.drew hbw (by omega)
  have hsl : (splice L (i * 4) news).length = cap * 4 := by rw [length_splice _ _ _ (by omega), hLl]
  have hcl : ∀ ty, (Builtin.clear_ #[23] ty #[.slice (some ⟨g, (l.length - 1) * 4, none⟩) 1 (cap - (l.length - 1))]).run Try.prog W1 = .ok (.tuple #[]) (W1.setCells g ((l.length - 1) * 4) zero4) :=
    fun ty => run_clearR W1 ty g _ _ (fun t ht => by simp [World.cell?, hB1]; omega) (fun t ht => frozen_of_row _ _ _ _ _ hB1)
  have HB : Hid ((W1.setCells g ((l.length - 1) * 4) zero4).ownsRow base 39 4 (.slice (some ⟨g, 0, none⟩) (l.length - 1) cap) (l.take i ++ l.drop (i + 1)).length (cellsOf RumV.cells (l.take i ++ l.drop (i + 1)))) := by
    have h := blkR_setCells zero4 ((l.length - 1) * 4) _ W1 hB1 (by rw [hsl]; simp [zero4]; omega)
    have hll : (l.take i ++ l.drop (i + 1)).length = l.length - 1 := by rw [List.length_append, List.length_take, List.length_drop]; omega
    refine ⟨cellsOf_length RumV.cells_len _, .inr ⟨g, cap, _, by rw [hll], hbg, h, by rw [hll]; omega, hcm, ?_, ?_⟩⟩
    · rw [List.size_toArray, length_splice _ _ _ (by rw [hsl]; simp [zero4]; omega), hsl]
    · rw [hll, List.toList_toArray]
      have e1 : (splice (splice L (i * 4) news) ((l.length - 1) * 4) zero4).take ((l.length - 1) * 4) = (splice L (i * 4) news).take ((l.length - 1) * 4) := by
        unfold splice
        rw [List.take_append_of_le_length (by rw [List.length_take]; rw [show ((L.take (i * 4)) ++ (news ++ L.drop (i * 4 + news.length))).length = cap * 4 from hsl]; omega), List.take_take, Nat.min_self]
      rw [e1]
      unfold splice
      have e2 : (L.take (i * 4)).length = i * 4 := by rw [List.length_take]; omega
      have e3 : L.take (i * 4) = cellsOf RumV.cells (l.take i) := by
        rw [← cellsOf_take RumV.cells_len l i (by omega), ← htk', List.take_take, Nat.min_eq_left (by omega)]
      have e4 : (l.length - 1) * 4 = i * 4 + news.length := by rw [hlen]; omega
      rw [e4, ← List.append_assoc, List.take_append_of_le_length (by rw [List.length_append, e2]; exact Nat.le_refl _), List.take_of_length_le (by rw [List.length_append, e2]; exact Nat.le_refl _), e3, hnews, cellsOf_append]
  have HK : Hid (Keeps (fun q => Value.ownBlock (.slice (some ⟨g, 0, none⟩) l.length cap) ≠ some q) w (W1.setCells g ((l.length - 1) * 4) zero4)) := by
    have hg : ¬ (Value.ownBlock (.slice (some ⟨g, 0, none⟩) l.length cap) ≠ some g) := fun h => h rfl
    refine keeps_cells hg _ _ _ ?_
    rw [hW1]
    exact keeps_cells hg _ _ _ (Keeps.refl _ _).drew
  have hW : Hid (W1 = w.drew.setCells g (0 + i * 4) news) := hW1
  rw [← hj] at hA s1
  have h1 : ¬ ((i : Int) = (j : Int)) := by omega
  have hij : i ≤ j := by omega
  have hjl : j ≤ l.length := by omega
  have hil : i ≤ l.length := by omega
  have hic : i ≤ cap := by omega
  have hjc : j ≤ cap := by omega
  have h5 : i + (l.length - j) = l.length - 1 := by omega
  have h6 : l.length - (l.length - 1) = 1 := by omega
  have h7 : ¬ (cap = l.length - 1) := by omega
  have hroom : i + (l.length - j) ≤ cap := by omega
  have hcmI : (cap : Int) ≤ 9223372036854775807 := by unfold maxLen at hcm; omega
  clear hW1 hB1 hsl hbw hnews hlen hcur hj hi hcel hfz htk' htk hcs hLl hcl4 ho
  go_enter Try.func57, Try.ntmps57
  go_wp2_with fail
  go_region_law (refine step_append_room rfl (.tmp 22) (.tmp 25) 23 rfl 39 i0 4 Try.underlying23 hi0 hz1 g 0 i cap (by simp [Act.eval, Act.put]) A (l.length - j) (cap - j) news (by simp [Act.eval, Act.put]) s1.out hsrc.out s2.out hroom s3.out ?_; rw [← hW.out])
  go_wp2
  go_ret
  exact ⟨_, rfl, HB.out, rfl, HK.out⟩
end Go.Proofs.Ytenefjnahanfbaa
