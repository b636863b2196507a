/- The contracts of slices.Delete and slices.Insert over a whole block of numbers, and of the program's SetDrop and SetPut. -/
import Derived.Test.YtndflppphhofkaaSetImpl
import Derived.Shelf.RegionOpenPlain
import Derived.Deep.RegionLaw
import Derived.Lib.SliceRun
import Derived.Lib.AppendZerosOnto
import Derived.Lib.LazyBuf
namespace Go.Proofs.Ytndflppphhofkaa
open Go Go.RowKit
set_option linter.unusedVariables false

theorem splice_cons {L : List Value} {o : Nat} {v : Value} {r : List Value} (h : o < L.length) : splice (L.set o v) (o + 1) r = splice L o (v :: r) := by
  unfold splice
  rw [List.take_set, List.take_succ_eq_append_getElem h, List.set_append_right _ _ (by rw [List.length_take]; exact Nat.min_le_left _ _), List.drop_set_of_lt (by omega)]
  have e : o - (L.take o).length = 0 := by simp; omega
  rw [e]
  simp
  rw [show o + 1 + r.length = o + (r.length + 1) by omega]
theorem blk_setCells {g t : Nat} : ∀ (vs : List Value) (o : Nat) (L : List Value) (w : World), w.heap[g]? = some (.cells L.toArray t (0, 0)) → o + vs.length ≤ L.length → (w.setCells g o vs).heap[g]? = some (.cells (splice L o vs).toArray t (0, 0))
  | [], o, L, w, h, _ => by simpa [World.setCells, splice] using h
  | v :: r, o, L, w, h, hl => by
    have h1 := heap_setCell_same w g o _ t v h
    have hs : (L.toArray.setIfInBounds o v) = (L.set o v).toArray := by simp
    rw [hs] at h1
    simp only [List.length_cons] at hl
    have := blk_setCells r (o + 1) (L.set o v) _ h1 (by rw [List.length_set]; omega)
    rw [splice_cons (by omega)] at this
    exact this
theorem below_cells {B g : Nat} {a : World} (hb : B ≤ g) (vs : List Value) (o : Nat) (w : World) (h : Below B a w) : Below B a (w.setCells g o vs) := Go.below_setCells hb vs o w h
theorem NumBlk.cell {w : World} {g : Nat} {l : List Int} (h : NumBlk w g l) {i : Nat} (hi : i < l.length) : w.cell? ⟨g, i, none⟩ = some (.int .i64 l[i]) := by
  have h' : w.heap[g]? = some (.cells (numsV l).toArray 2 (0, 0)) := h
  simp [World.cell?, h', numsV, List.getElem?_eq_getElem hi]
theorem NumBlk.frozen {w : World} {g : Nat} {l : List Int} (h : NumBlk w g l) (i : Nat) : w.frozen? ⟨g, i, none⟩ = false := frozen_of_row w g i _ _ h
theorem NumBlk.row {w : World} {g : Nat} {l : List Int} (h : NumBlk w g l) : NumRow w (some ⟨g, 0, none⟩) l := .inr ⟨g, 0, rfl, h.lt, fun i hi => by rw [Nat.zero_add]; exact h.cell hi⟩
theorem drop_one (l : List Int) (i : Nat) (hi : i < l.length) : splice (splice (numsV l) i (numsV (l.drop (i + 1)))) (l.length - 1) [.int .i64 0] = numsV (l.take i ++ l.drop (i + 1) ++ [0]) := by
  have e1 : splice (numsV l) i (numsV (l.drop (i + 1))) = numsV (l.take i ++ l.drop (i + 1)) ++ (numsV l).drop (l.length - 1) := by
    unfold splice
    rw [numsV_length, List.length_drop, show i + (l.length - (i + 1)) = l.length - 1 by omega, numsV_append, List.append_assoc]
    simp [numsV, List.map_take]
  have hl : (numsV (l.take i ++ l.drop (i + 1))).length = l.length - 1 := by rw [numsV_length, List.length_append, List.length_take, List.length_drop]; omega
  rw [e1]
  unfold splice
  have hd : (numsV (l.take i ++ l.drop (i + 1)) ++ (numsV l).drop (l.length - 1)).drop (l.length - 1 + [Value.int .i64 0].length) = [] :=
    List.drop_eq_nil_of_le (by rw [List.length_append, hl, List.length_drop, numsV_length]; simp; omega)
  rw [hd, List.take_append_of_le_length (by omega), List.take_of_length_le (by omega), numsV_append (l.take i ++ l.drop (i + 1)) [0]]
  rfl
theorem zeroI (w : World) : (zeroValue 2).run Try.prog w = .ok (.int .i64 0) w := by
  obtain ⟨i, hi, hz, _, _⟩ := info_partsI
  simp [zeroValue, typeInfo, hi, hz]
set_option maxHeartbeats 2000000 in
set_option maxRecDepth 100000 in
theorem delete_nat (g i j : Nat) (l : List Int) (w : World) (hl : l.length ≤ 1048576) (hi : i < l.length) (hj : j = i + 1) (hb : NumBlk w g l) :
    Calls Try.prog 47 #[.slice (some ⟨g, 0, none⟩) l.length l.length, .int .i64 i, .int .i64 j] w fun e w' => e = .returned (.slice (some ⟨g, 0, none⟩) (l.length - 1) l.length) ∧ NumBlk w' g (l.take i ++ l.drop (i + 1) ++ [0]) ∧ Below g w w' := by
  obtain ⟨i0, hi0, hz0, hz1, hz2⟩ := info_partsI
  have hbw : w.drew.heap[g]? = some (.cells (numsV l).toArray 2 (0, 0)) := hb
  obtain ⟨news, hnews⟩ : ∃ news, news = numsV (l.drop (i + 1)) := ⟨_, rfl⟩
  have hlen : news.length = l.length - (i + 1) := by rw [hnews, numsV_length, List.length_drop]
  obtain ⟨A, hA, hsrc⟩ : ∃ A : Addr, (if l.length = i + 1 then some (⟨g, 0, none⟩ : Addr) else some ⟨g, i + 1, none⟩) = some A ∧ Hid (∀ t u, news[t]? = some u → w.drew.cell? (A.add t) = some u) := by
    by_cases h : l.length = i + 1
    · refine ⟨⟨g, 0, none⟩, by simp [h], fun t u hu => ?_⟩
      rw [List.eq_nil_of_length_eq_zero (by omega : news.length = 0)] at hu
      simp at hu
    · refine ⟨⟨g, i + 1, none⟩, by simp [h], fun t u hu => ?_⟩
      have ht : t < l.length - (i + 1) := by
        have := (List.getElem?_eq_some_iff.1 hu).1
        rwa [hlen] at this
      rw [addr_off]
      show w.cell? _ = _
      rw [hb.cell (by omega)]
      rw [hnews, numsV, List.getElem?_map, List.getElem?_drop, List.getElem?_eq_getElem (by omega)] at hu
      exact hu
  have s1 : Hid (news.length = (l.length - (i + 1)) * 1) := by rw [Nat.mul_one]; exact hlen
  have s2 : Hid (∀ u ∈ news, u.oneCell' = true) := by rw [hnews]; exact numsV_one
  have s3 : Hid (∀ t, t < news.length → (w.drew.cell? ⟨g, 0 + i * 1 + t, none⟩).isSome = true ∧ w.drew.frozen? ⟨g, 0 + i * 1 + t, none⟩ = false) := by
    intro t ht
    rw [hlen] at ht
    rw [Nat.mul_one, Nat.zero_add]
    exact ⟨by show (w.cell? _).isSome = true; rw [hb.cell (by omega)]; rfl, hb.frozen _⟩
  obtain ⟨W1, hW1⟩ : ∃ W1, W1 = w.drew.setCells g (0 + i * 1) news := ⟨_, rfl⟩
  have hB1 : W1.heap[g]? = some (.cells (splice (numsV l) i news).toArray 2 (0, 0)) := by
    rw [hW1, show 0 + i * 1 = i by omega]
    exact blk_setCells news i (numsV l) w.drew hbw (by rw [numsV_length]; omega)
  have hsl : (splice (numsV l) i news).length = l.length := by rw [length_splice _ _ _ (by rw [numsV_length]; omega), numsV_length]
  have hcl : ∀ ty, (Builtin.clear_ #[28] ty #[.slice (some ⟨g, l.length - 1, none⟩) 1 1]).run Try.prog W1 = .ok (.tuple #[]) (W1.setCells g (l.length - 1) (List.replicate 1 (.int .i64 0))) :=
    fun ty => Go.Lib.run_clear_slice W1 _ _ ty _ Try.underlying28 zeroI rfl rfl g (l.length - 1) 1 1 (by omega) (fun t ht => by simp [World.cell?, hB1]; omega) (fun t ht => frozen_of_row _ _ _ _ _ hB1)
  have HB : Hid (NumBlk (W1.setCells g (l.length - 1) (List.replicate 1 (.int .i64 0))) g (l.take i ++ l.drop (i + 1) ++ [0])) := by
    have h := blk_setCells (List.replicate 1 (Value.int .i64 0)) (l.length - 1) _ W1 hB1 (by rw [hsl]; simp; omega)
    rw [hnews] at h
    have e : List.replicate 1 (Value.int .i64 0) = [.int .i64 0] := rfl
    rw [e, drop_one l i hi] at h
    exact h
  have HL : Hid (Below g w (W1.setCells g (l.length - 1) (List.replicate 1 (.int .i64 0)))) := below_cells (Nat.le_refl _) _ _ _ (by rw [hW1]; exact below_cells (Nat.le_refl _) _ _ _ (Below.refl _ _).drew)
  have hW : Hid (W1 = w.drew.setCells g (0 + i * 1) news) := hW1
  rw [← hj] at hA s1
  have h1 : ¬ ((i : Int) = (j : Int)) := by omega
  have hij : i ≤ j := by omega
  have hjl : j ≤ l.length := by omega
  have hil : i ≤ l.length := by omega
  have h5 : i + (l.length - j) = l.length - 1 := by omega
  have h6 : l.length - (l.length - 1) = 1 := by omega
  have h7 : ¬ (l.length = l.length - 1) := by omega
  have hroom : i + (l.length - j) ≤ l.length := by omega
  clear hW1 hB1 hsl hbw hnews hlen hb hj hi
  go_enter Try.func47, Try.ntmps47
  go_wp2_with fail
  go_region_law (refine step_append_room rfl (.tmp 22) (.tmp 25) 28 rfl 2 i0 1 Try.underlying28 hi0 hz1 g 0 i l.length (by simp [Act.eval, Act.put]) A (l.length - j) (l.length - j) news (by simp [Act.eval, Act.put]) s1.out hsrc.out s2.out hroom s3.out ?_; rw [← hW.out])
  go_wp2
  go_ret
  exact ⟨rfl, HB.out, HL.out⟩
theorem splice_mid {X Y Z Y' : List Value} {k : Nat} (hk : X.length = k) (h : Y'.length = Y.length) : splice (X ++ (Y ++ Z)) k Y' = X ++ (Y' ++ Z) := by
  subst hk
  unfold splice
  have e : (X ++ (Y ++ Z)).drop (X.length + Y'.length) = Z := by
    rw [h, ← List.append_assoc]
    have e2 : (X ++ Y).length = X.length + Y.length := by simp
    rw [← e2, List.drop_left]
  rw [e, List.take_left]
theorem put_one (l : List Int) (n : Int) (i k : Nat) (hi : i < l.length) :
    splice (splice (numsV (l.take i) ++ List.replicate (l.length + 1 - i) (Value.int .i64 0) ++ List.replicate k (Value.int .i64 0)) i [.int .i64 n]) (i + 1) (numsV (l.drop i)) = numsV (l.take i ++ n :: l.drop i) ++ List.replicate k (.int .i64 0) := by
  have e0 : (numsV (l.take i)).length = i := by rw [numsV_length, List.length_take]; omega
  have e1 : List.replicate (l.length + 1 - i) (Value.int .i64 0) = [.int .i64 0] ++ List.replicate (l.length - i) (.int .i64 0) := by rw [show l.length + 1 - i = (l.length - i) + 1 by omega, List.replicate_succ]; rfl
  have e2 := splice_mid (X := numsV (l.take i)) (Y := [.int .i64 0]) (Y' := [.int .i64 n]) (Z := List.replicate (l.length - i) (.int .i64 0) ++ List.replicate k (.int .i64 0)) e0 rfl
  have e3 := splice_mid (X := numsV (l.take i) ++ [.int .i64 n]) (Y := List.replicate (l.length - i) (.int .i64 0)) (Y' := numsV (l.drop i)) (Z := List.replicate k (.int .i64 0)) (k := i + 1) (by rw [List.length_append, e0]; rfl) (by rw [numsV_length, List.length_drop, List.length_replicate])
  rw [e1, List.append_assoc, List.append_assoc, e2, ← List.append_assoc, e3]
  simp [numsV]
set_option maxHeartbeats 2000000 in
set_option maxRecDepth 100000 in
/-- Put into the midst: new memory. -/
theorem insert_mid (g vb i : Nat) (l : List Int) (n : Int) (base : Nat) (w : World) (hl : l.length ≤ 1000) (hi : i < l.length) (hb : NumBlk w g l) (hv : NumRow w (some ⟨vb, 0, none⟩) [n]) (hbase : base ≤ w.heap.size) :
    Calls Try.prog 46 #[.slice (some ⟨g, 0, none⟩) l.length l.length, .int .i64 i, .slice (some ⟨vb, 0, none⟩) 1 1] w fun e w' => ∃ v, e = .returned v ∧ w'.ownsRow base 2 1 v (l.length + 1) (numsV (l.take i ++ n :: l.drop i)) ∧ Below base w w' := by
  obtain ⟨i0, hi0, hz0, hzs, hzb⟩ := info_partsI
  have hold : (Builtin.firstCells i0.size i (.slice (some ⟨g, 0, none⟩) i l.length)).run Try.prog w.drew = .ok (numsV (l.take i)).toArray w.drew := by
    rw [hzs]
    exact run_firstCells_some w.drew 1 i ⟨g, 0, none⟩ i l.length (numsV (l.take i)) (by rw [numsV_length, List.length_take]; omega) (fun j v hj => by
      have hji : j < i := by
        have := (List.getElem?_eq_some_iff.1 hj).1
        rw [numsV_length, List.length_take] at this
        omega
      rw [addr_off]
      show w.cell? _ = _
      rw [Nat.zero_add, hb.cell (by omega)]
      rw [numsV, List.getElem?_map, List.getElem?_take, if_pos hji, List.getElem?_eq_getElem (by omega)] at hj
      exact hj)
  obtain ⟨G, hG⟩ : ∃ G, G = grownCap w (l.length + 1) l.length 2 := ⟨_, rfl⟩
  have hGn : l.length + 1 ≤ G := by rw [hG]; exact grownCap_ge w _ _ _
  have hGm : G ≤ maxLen := by rw [hG]; exact grownCap_le_maxLen w _ _ _ (by unfold maxLen; omega)
  obtain ⟨W1, hW1⟩ : ∃ W1, W1 = w.drew.alloc (.cells ((numsV (l.take i)).toArray ++ Builtin.zeroCells (Value.int .i64 0).cells (l.length + 1 - i) ++ Builtin.zeroCells (Value.int .i64 0).cells (G - (l.length + 1))) 2) := ⟨_, rfl⟩
  have hrz : ∀ ty, (Builtin.append_ #[28, 3] ty #[.slice (some ⟨g, 0, none⟩) i l.length, .int .i64 ((l.length : Int) + 1 - (i : Int))]).run Try.prog w =
      .ok (.slice (some ⟨w.heap.size, 0, none⟩) (l.length + 1) G) W1 := fun ty => by
    have h := Lib.run_append_grow_zeros w 28 3 ty 2 i0 _ .i64 .i64 Try.underlying28 Try.underlying3 hi0 hz0 (some ⟨g, 0, none⟩) i l.length (numsV (l.take i)) hold (l.length + 1 - i) (by omega) (by omega) (by omega) (by omega) (by rw [hzb]; omega) (by rw [hzb, show i + (l.length + 1 - i) = l.length + 1 by omega]; exact growslice_fits (by omega) (by omega))
    rw [show i + (l.length + 1 - i) = l.length + 1 by omega, ← hG, ← hW1] at h
    rw [show (l.length : Int) + 1 - (i : Int) = ((l.length + 1 - i : Nat) : Int) by omega]
    exact h
  have hB1 : W1.heap[w.heap.size]? = some (.cells (numsV (l.take i) ++ List.replicate (l.length + 1 - i) (Value.int .i64 0) ++ List.replicate (G - (l.length + 1)) (Value.int .i64 0)).toArray 2 (0, 0)) := by
    have hz : ∀ k, Builtin.zeroCells (Value.int .i64 0).cells k = (List.replicate k (Value.int .i64 0)).toArray := fun k => by
      apply Array.ext'
      have hsz := size_zeroCells (Value.int .i64 0).cells k
      apply List.ext_getElem?
      intro j
      by_cases hj : j < k
      · simp [Builtin.zeroCells, Value.cells, Nat.mod_one, hj]
      · simp [Builtin.zeroCells, Value.cells, Nat.mod_one, hj]
    have e : (numsV (l.take i)).toArray ++ (List.replicate (l.length + 1 - i) (Value.int .i64 0)).toArray ++ (List.replicate (G - (l.length + 1)) (Value.int .i64 0)).toArray = (numsV (l.take i) ++ List.replicate (l.length + 1 - i) (Value.int .i64 0) ++ List.replicate (G - (l.length + 1)) (Value.int .i64 0)).toArray := by
      apply Array.ext'; simp
    rw [hW1, hz, hz, e]
    exact heap_alloc_new w.drew _
  have bW1 : Below w.heap.size w W1 := by rw [hW1]; exact (Below.refl _ _).drew.alloc (Nat.le_refl _) _
  have hlen1 : (numsV (l.take i) ++ List.replicate (l.length + 1 - i) (Value.int .i64 0) ++ List.replicate (G - (l.length + 1)) (Value.int .i64 0)).length = G := by
    simp [numsV]; omega
  obtain ⟨L1, hL1⟩ : ∃ L1, L1 = numsV (l.take i) ++ List.replicate (l.length + 1 - i) (Value.int .i64 0) ++ List.replicate (G - (l.length + 1)) (Value.int .i64 0) := ⟨_, rfl⟩
  rw [← hL1] at hB1 hlen1
  have hv1 := hv.keep bW1
  have hsv : ∃ ad, some (⟨vb, 0, none⟩ : Addr) = some ad ∧ ∀ j v, ([Value.int .i64 n] : List Value)[j]? = some v → W1.cell? (ad.add j) = some v := hv1.src (by simp)
  have hdl : (numsV (l.drop i)).length = l.length - i := by rw [numsV_length, List.length_drop]
  have hrow := hb.row
  have HP : Hid (splice (splice L1 i [.int .i64 n]) (i + 1) (numsV (l.drop i)) = numsV (l.take i ++ n :: l.drop i) ++ List.replicate (G - (l.length + 1)) (.int .i64 0)) := by
    rw [hL1]; exact put_one l n i _ hi
  have hl2 : (splice L1 i [Value.int .i64 n]).length = G := by rw [length_splice _ _ _ (by rw [hlen1]; simp; omega), hlen1]
  have h1 : ((i : Int) == (l.length : Int)) = false := beq_eq_false_iff_ne.2 (by omega)
  have hci : ¬ (l.length = i) := by omega
  have hGi : ¬ (G = i) := by omega
  have hGi1 : ¬ (G = i + 1) := by omega
  have hil : i ≤ l.length := by omega
  have hil1 : i ≤ l.length + 1 := by omega
  have m1 : ([Value.int .i64 n]).length = Nat.min 1 (l.length + 1 - i) := by simp [Nat.min_def]; omega
  have f1 : i + ([Value.int .i64 n]).length ≤ L1.length := by rw [hlen1]; simp; omega
  have o1 : ∀ v ∈ [Value.int .i64 n], v.oneCell' = true := by intro v hv; simp at hv; subst hv; rfl
  have hpos1 : 0 < ([Value.int .i64 n]).length → (some (⟨w.heap.size, i, none⟩ : Addr)) = some ⟨w.heap.size, i, none⟩ ∧ ∃ ad, some (⟨vb, 0, none⟩ : Addr) = some ad ∧ ∀ j v, ([Value.int .i64 n] : List Value)[j]? = some v → W1.cell? (ad.add j) = some v := fun _ => ⟨rfl, hsv⟩
  clear hold hW1 hG hv hL1 hsv
  go_enter Try.func46, Try.ntmps46
  go_wp2_with (first
    | (at_builtin; refine Lib.wpList_append_run _ rfl _ _ _ _ rfl _ _ rfl rfl _ _ (hrz _) ?_)
    | (refine wpList_copy_splice rfl _ _ 28 28 rfl 2 Try.underlying28 size1I (some ⟨w.heap.size, i, none⟩) (some ⟨vb, 0, none⟩) (l.length + 1 - i) (G - i) 1 1 rfl rfl w.heap.size i L1 2 hB1 [.int .i64 n] m1 hpos1 f1 o1 w.heap.size w bW1 (Nat.le_refl _) ?_))
  intro w2 hg2 hb2
  have hg2' := hg2.out
  have hrow2 := (hrow.keep hb2).drop i
  obtain ⟨L2, hL2⟩ : ∃ L2, L2 = splice L1 i [.int .i64 n] := ⟨_, rfl⟩
  rw [← hL2] at hg2' hl2 HP
  have hb2' : Below w.heap.size w w2.drew := hb2.drew
  have hg3 : w2.drew.heap[w.heap.size]? = some (.cells L2.toArray 2 (0, 0)) := hg2'
  have hs3 : Hid (∃ ad, some (⟨g, i, none⟩ : Addr) = some ad ∧ ∀ j v, (numsV (l.drop i))[j]? = some v → w2.drew.cell? (ad.add j) = some v) := by
    have := hrow2.src (by rw [List.length_drop]; omega)
    rw [Nat.zero_add] at this
    exact this
  have m2 : Hid ((numsV (l.drop i)).length = Nat.min (l.length - i) (l.length + 1 - (i + 1))) := by show _ = _; rw [hdl, show l.length + 1 - (i + 1) = l.length - i by omega]; exact (Nat.min_self _).symm
  have f2 : Hid (i + 1 + (numsV (l.drop i)).length ≤ L2.length) := by show _ ≤ _; rw [hl2, hdl]; omega
  have HO : Hid (∀ w4 : World, w4.heap[w.heap.size]? = some (.cells (splice L2 (i + 1) (numsV (l.drop i))).toArray 2 (0, 0)) → w4.ownsRow base 2 1 (.slice (some ⟨w.heap.size, 0, none⟩) (l.length + 1) G) (l.length + 1) (numsV (l.take i ++ n :: l.drop i))) := by
    intro w4 h4
    have hln : (numsV (l.take i ++ n :: l.drop i)).length = l.length + 1 := by rw [numsV_length, List.length_append, List.length_take, List.length_cons, List.length_drop]; omega
    refine ⟨by omega, .inr ⟨w.heap.size, G, _, rfl, hbase, h4, hGn, hGm, ?_, ?_⟩⟩
    · rw [List.size_toArray, length_splice _ _ _ f2.out, hl2]; omega
    · rw [HP.out, List.toList_toArray, Nat.mul_one, List.take_append_of_le_length (by omega), List.take_of_length_le (by omega)]
  have hw1 : IntKind.i64.wrap ((i : Int) + 1) = (i : Int) + 1 := by rw [IntKind.wrap_i64]; omega
  have hw2 : (0 : Int) ≤ (i : Int) + 1 := by omega
  have hw3 : (i : Int) + 1 ≤ (l.length : Int) + 1 := by omega
  have hw4 : ((i : Int) + 1).toNat = i + 1 := by omega
  have hw5 : (i : Int) ≤ (l.length : Int) := by omega
  clear hb2 hg2 hg2' hrow2 hL2 HP hrow hrz hB1 bW1 hpos1 m1 f1 o1
  go_wp2
  go_region_law (refine step_copy_splice rfl (.tmp 50) (.tmp 53) 28 28 rfl 2 Try.underlying28 size1I (some ⟨w.heap.size, i + 1, none⟩) (some ⟨g, i, none⟩) (l.length + 1 - (i + 1)) (G - (i + 1)) (l.length - i) (l.length - i) (by simp [Act.eval, Act.put]) (by simp [Act.eval, Act.put]) w.heap.size (i + 1) L2 2 hg3 (numsV (l.drop i)) m2.out (fun _ => ⟨rfl, hs3.out⟩) f2.out numsV_one w.heap.size w hb2' (Nat.le_refl _) ?_; intro w4 hg4 hb4)
  go_wp2
  go_ret
  exact ⟨_, rfl, HO.out _ hg4.out, hb4.mono hbase⟩
set_option maxHeartbeats 1000000 in
set_option maxRecDepth 100000 in
/-- Put behind the last one. -/
theorem insert_end (v : Value) (vb : Nat) (l : List Int) (n : Int) (base : Nat) (w : World) (hl : l.length ≤ 1000) (ho : w.ownsRow base 2 1 v l.length (numsV l)) (hv : NumRow w (some ⟨vb, 0, none⟩) [n]) (hbase : base ≤ w.heap.size) :
    Calls Try.prog 46 #[v, .int .i64 l.length, .slice (some ⟨vb, 0, none⟩) 1 1] w fun e w' => ∃ v, e = .returned v ∧ w'.ownsRow base 2 1 v (l.length + 1) (numsV (l ++ [n])) ∧ Below base w w' := by
  have h1 : ((l.length : Int) == (l.length : Int)) = true := by simp
  obtain ⟨a, cap, hva, hcap, hnil⟩ : ∃ a cap, v = .slice a l.length cap ∧ l.length ≤ cap ∧ (cap : Int) ≤ 9223372036854775807 := by
    rcases ho.2 with ⟨hv, hn⟩ | ⟨g, cap, cur, hv, _, _, hc, hm, _⟩
    · exact ⟨none, 0, by rw [hv, hn], by omega, by omega⟩
    · exact ⟨_, cap, hv, hc, by unfold maxLen at hm; omega⟩
  subst hva
  have HB : Hid (∀ w' c, w.grownBy w' (Value.ownBlock (.slice a l.length c)) → Below base w w') := fun w' c hg => (Below.refl _ _).grown hg hbase (fun g hg => (ho.lt g (by cases a <;> exact hg)).1)
  go_enter Try.func46, Try.ntmps46
  go_wp2_with (at_builtin; refine append_numsM rfl _ _ rfl base _ l.length (numsV l) rfl ho ⟨vb, 0, none⟩ 1 1 [n] rfl rfl hv (by omega) hbase ?_)
  all_goals
    intro v' w2 own2 g2
    have HO : Hid (w2.ownsRow base 2 1 v' (l.length + 1) (numsV (l ++ [n]))) := by rw [numsV_append]; exact own2
    have HB2 := HB.out _ _ g2
    clear own2 g2 ho
    go_wp2
    go_ret
    exact ⟨v', rfl, HO.out, HB2⟩
end Go.Proofs.Ytndflppphhofkaa
