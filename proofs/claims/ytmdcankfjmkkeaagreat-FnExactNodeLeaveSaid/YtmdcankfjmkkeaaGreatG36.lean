/- The contracts of slices.Delete and slices.Insert over a whole block of numbers, and of the program's SetDrop and SetPut. -/
import Derived.Test.YtmdcankfjmkkeaaGreatSetImpl
import Derived.Shelf.RegionOpenPlain
import Derived.Deep.RegionLaw
import Derived.Lib.SliceRun
import Derived.Lib.AppendZerosOnto
import Derived.Lib.LazyBuf
namespace Go.Proofs.YtmdcankfjmkkeaaGreat
open Go Go.RowKit
set_option linter.unusedVariables false

theorem splice_cons {L : List Value} {o : Nat} {v : Value} {r : List Value} (h : o < L.length) : splice (L.set o v) (o + 1) r = splice L o (v :: r) := by
  unfold splice
  rw [List.take_set, List.take_succ_eq_append_getElem h, List.set_append_right _ _ (by rw [List.length_take]; exact Nat.min_le_left _ _), List.drop_set_of_lt (by omega)]
  have e : o - (L.take o).length = 0 := by simp; omega
  rw [e]
  simp
  rw [show o + 1 + r.length = o + (r.length + 1) by omega]
theorem blk_setCells {g t : Nat} : ∀ (vs : List Value) (o : Nat) (L : List Value) (w : World), w.heap[g]? = some (.cells L.toArray t (0, 0)) → o + vs.length ≤ L.length → (w.setCells g o vs).heap[g]? = some (.cells (splice L o vs).toArray t (0, 0))
  | [], o, L, w, h, _ => by simpa [World.setCells, splice] using h
  | v :: r, o, L, w, h, hl => by
    have h1 := heap_setCell_same w g o _ t v h
    have hs : (L.toArray.setIfInBounds o v) = (L.set o v).toArray := by simp
    rw [hs] at h1
    simp only [List.length_cons] at hl
    have := blk_setCells r (o + 1) (L.set o v) _ h1 (by rw [List.length_set]; omega)
    rw [splice_cons (by omega)] at this
    exact this
theorem below_cells {B g : Nat} {a : World} (hb : B ≤ g) (vs : List Value) (o : Nat) (w : World) (h : Below B a w) : Below B a (w.setCells g o vs) := Go.below_setCells hb vs o w h
theorem NumBlk.cell {w : World} {g : Nat} {l : List Int} (h : NumBlk w g l) {i : Nat} (hi : i < l.length) : w.cell? ⟨g, i, none⟩ = some (.int .i64 l[i]) := by
  have h' : w.heap[g]? = some (.cells (numsV l).toArray 2 (0, 0)) := h
  simp [World.cell?, h', numsV, List.getElem?_eq_getElem hi]
theorem NumBlk.frozen {w : World} {g : Nat} {l : List Int} (h : NumBlk w g l) (i : Nat) : w.frozen? ⟨g, i, none⟩ = false := frozen_of_row w g i _ _ h
theorem NumBlk.row {w : World} {g : Nat} {l : List Int} (h : NumBlk w g l) : NumRow w (some ⟨g, 0, none⟩) l := .inr ⟨g, 0, rfl, h.lt, fun i hi => by rw [Nat.zero_add]; exact h.cell hi⟩
theorem drop_one (l : List Int) (i : Nat) (hi : i < l.length) : splice (splice (numsV l) i (numsV (l.drop (i + 1)))) (l.length - 1) [.int .i64 0] = numsV (l.take i ++ l.drop (i + 1) ++ [0]) := by
  have e1 : splice (numsV l) i (numsV (l.drop (i + 1))) = numsV (l.take i ++ l.drop (i + 1)) ++ (numsV l).drop (l.length - 1) := by
    unfold splice
    rw [numsV_length, List.length_drop, show i + (l.length - (i + 1)) = l.length - 1 by omega, numsV_append, List.append_assoc]
    simp [numsV, List.map_take]
  have hl : (numsV (l.take i ++ l.drop (i + 1))).length = l.length - 1 := by rw [numsV_length, List.length_append, List.length_take, List.length_drop]; omega
  rw [e1]
  unfold splice
  have hd : (numsV (l.take i ++ l.drop (i + 1)) ++ (numsV l).drop (l.length - 1)).drop (l.length - 1 + [Value.int .i64 0].length) = [] :=
    List.drop_eq_nil_of_le (by rw [List.length_append, hl, List.length_drop, numsV_length]; simp; omega)
  rw [hd, List.take_append_of_le_length (by omega), List.take_of_length_le (by omega), numsV_append (l.take i ++ l.drop (i + 1)) [0]]
  rfl
theorem zeroI (w : World) : (zeroValue 2).run Tryz.prog w = .ok (.int .i64 0) w := by
  obtain ⟨i, hi, hz, _, _⟩ := info_partsI
  simp [zeroValue, typeInfo, hi, hz]
set_option maxHeartbeats 2000000 in
set_option maxRecDepth 100000 in
theorem delete_nat (g i j : Nat) (l : List Int) (w : World) (hl : l.length ≤ 1048576) (hi : i < l.length) (hj : j = i + 1) (hb : NumBlk w g l) :
    Calls Tryz.prog 185 #[.slice (some ⟨g, 0, none⟩) l.length l.length, .int .i64 i, .int .i64 j] w fun e w' => e = .returned (.slice (some ⟨g, 0, none⟩) (l.length - 1) l.length) ∧ NumBlk w' g (l.take i ++ l.drop (i + 1) ++ [0]) ∧ Below g w w' := by
  obtain ⟨i0, hi0, hz0, hz1, hz2⟩ := info_partsI
  have hbw : w.drew.heap[g]? = some (.cells (numsV l).toArray 2 (0, 0)) := hb
  obtain ⟨news, hnews⟩ : ∃ news, news = numsV (l.drop (i + 1)) := ⟨_, rfl⟩
  have hlen : news.length = l.length - (i + 1) := by rw [hnews, numsV_length, List.length_drop]
  obtain ⟨A, hA, hsrc⟩ : ∃ A : Addr, (if l.length = i + 1 then some (⟨g, 0, none⟩ : Addr) else some ⟨g, i + 1, none⟩) = some A ∧ Hid (∀ t u, news[t]? = some u → w.drew.cell? (A.add t) = some u) := by
    by_cases h : l.length = i + 1
    · refine ⟨⟨g, 0, none⟩, by simp [h], fun t u hu => ?_⟩
      rw [List.eq_nil_of_length_eq_zero (by omega : news.length = 0)] at hu
      simp at hu
    · refine ⟨⟨g, i + 1, none⟩, by simp [h], fun t u hu => ?_⟩
      have ht : t < l.length - (i + 1) := by
        have := (List.getElem?_eq_some_iff.1 hu).1
        rwa [hlen] at this
      rw [addr_off]
      show w.cell? _ = _
      rw [hb.cell (by omega)]
      rw [hnews, numsV, List.getElem?_map, List.getElem?_drop, List.getElem?_eq_getElem (by omega)] at hu
      exact hu
  have s1 : Hid (news.length = (l.length - (i + 1)) * 1) := by rw [Nat.mul_one]; exact hlen
  have s2 : Hid (∀ u ∈ news, u.oneCell' = true) := by rw [hnews]; exact numsV_one
  have s3 : Hid (∀ t, t < news.length → (w.drew.cell? ⟨g, 0 + i * 1 + t, none⟩).isSome = true ∧ w.drew.frozen? ⟨g, 0 + i * 1 + t, none⟩ = false) := by
    intro t ht
    rw [hlen] at ht
    rw [Nat.mul_one, Nat.zero_add]
    exact ⟨by show (w.cell? _).isSome = true; rw [hb.cell (by omega)]; rfl, hb.frozen _⟩
  obtain ⟨W1, hW1⟩ : ∃ W1, W1 = w.drew.setCells g (0 + i * 1) news := ⟨_, rfl⟩
  have hB1 : W1.heap[g]? = some (.cells (splice (numsV l) i news).toArray 2 (0, 0)) := by
    rw [hW1, show 0 + i * 1 = i by omega]
    exact blk_setCells news i (numsV l) w.drew hbw (by rw [numsV_length]; omega)
  have hsl : (splice (numsV l) i news).length = l.length := by rw [length_splice _ _ _ (by rw [numsV_length]; omega), numsV_length]
  have hcl : ∀ ty, (Builtin.clear_ #[25] ty #[.slice (some ⟨g, l.length - 1, none⟩) 1 1]).run Tryz.prog W1 = .ok (.tuple #[]) (W1.setCells g (l.length - 1) (List.replicate 1 (.int .i64 0))) :=
    fun ty => Go.Lib.run_clear_slice W1 _ _ ty _ Tryz.underlying25 zeroI rfl rfl g (l.length - 1) 1 1 (by omega) (fun t ht => by simp [World.cell?, hB1]; omega) (fun t ht => frozen_of_row _ _ _ _ _ hB1)
  have HB : Hid (NumBlk (W1.setCells g (l.length - 1) (List.replicate 1 (.int .i64 0))) g (l.take i ++ l.drop (i + 1) ++ [0])) := by
    have h := blk_setCells (List.replicate 1 (Value.int .i64 0)) (l.length - 1) _ W1 hB1 (by rw [hsl]; simp; omega)
    rw [hnews] at h
    have e : List.replicate 1 (Value.int .i64 0) = [.int .i64 0] := rfl
    rw [e, drop_one l i hi] at h
    exact h
  have HL : Hid (Below g w (W1.setCells g (l.length - 1) (List.replicate 1 (.int .i64 0)))) := below_cells (Nat.le_refl _) _ _ _ (by rw [hW1]; exact below_cells (Nat.le_refl _) _ _ _ (Below.refl _ _).drew)
  have hW : Hid (W1 = w.drew.setCells g (0 + i * 1) news) := hW1
  rw [← hj] at hA s1
  have h1 : ¬ ((i : Int) = (j : Int)) := by omega
  have hij : i ≤ j := by omega
  have hjl : j ≤ l.length := by omega
  have hil : i ≤ l.length := by omega
  have h5 : i + (l.length - j) = l.length - 1 := by omega
  have h6 : l.length - (l.length - 1) = 1 := by omega
  have h7 : ¬ (l.length = l.length - 1) := by omega
  have hroom : i + (l.length - j) ≤ l.length := by omega
  clear hW1 hB1 hsl hbw hnews hlen hb hj hi
  go_enter Tryz.func185, Tryz.ntmps185
  go_wp2_with fail
  go_region_law (refine step_append_room rfl (.tmp 22) (.tmp 25) 25 rfl 2 i0 1 Tryz.underlying25 hi0 hz1 g 0 i l.length (by simp [Act.eval, Act.put]) A (l.length - j) (l.length - j) news (by simp [Act.eval, Act.put]) s1.out hsrc.out s2.out hroom s3.out ?_; rw [← hW.out])
  go_wp2
  go_ret
  exact ⟨rfl, HB.out, HL.out⟩
end Go.Proofs.YtmdcankfjmkkeaaGreat
/- The contracts of the program's SetHas, SetDrop and SetPut: they answer as the specification's. -/
namespace Go.Proofs.YtmdcankfjmkkeaaGreat
open Go Go.RowKit
set_option linter.unusedVariables false

theorem has_set {l : List Int} {n : Int} {k : Nat} (hs : rises l → standsAt l n k) : (decide (l[k]? = some n) && decide (rightL l)) = decide (rightL l ∧ n ∈ l) := by
  by_cases hr : rightL l
  · rw [stands_has hr.2 (hs hr.2)]; simp [hr]
  · simp [hr]
theorem drop_found {l : List Int} {n : Int} {k : Nat} (hr : rises l) (h : l[k]? = some n) : dropL l n = l.take k ++ l.drop (k + 1) := by
  obtain ⟨hk, e⟩ := List.getElem?_eq_some_iff.1 h
  have hl : l = l.take k ++ (n :: l.drop (k + 1)) := by rw [← e, ← List.drop_eq_getElem_cons hk, List.take_append_drop]
  have hp := hr
  rw [hl] at hp
  obtain ⟨h1, h2, h3⟩ := List.pairwise_append.1 hp
  obtain ⟨h4, h5⟩ := List.pairwise_cons.1 h2
  have ha : dropL (l.take k) n = l.take k := dropL_out (fun q => by have := h3 n q n List.mem_cons_self; omega)
  have hb : dropL (l.drop (k + 1)) n = l.drop (k + 1) := dropL_out (fun q => by have := h4 n q; omega)
  have hd : dropL l n = dropL (l.take k) n ++ dropL (n :: l.drop (k + 1)) n := by
    conv => lhs; rw [hl]
    unfold dropL
    rw [List.filter_append]
  rw [hd, ha]
  have hc : dropL (n :: l.drop (k + 1)) n = dropL (l.drop (k + 1)) n := by unfold dropL; rw [List.filter_cons_of_neg (by simp)]
  rw [hc, hb]
theorem drop_not {l : List Int} {n : Int} {k : Nat} (hs : rises l → standsAt l n k) (h : decide (l[k]? = some n) = false) (h1 : ¬ 400 < (l.length : Int)) : setDropL l n = l := by
  unfold setDropL
  rw [if_neg h1]
  by_cases hr : rightL l
  · rw [if_pos hr]
    rw [stands_has hr.2 (hs hr.2), decide_eq_false_iff_not] at h
    exact dropL_out h
  · rw [if_neg hr]
theorem drop_wrong {l : List Int} {n : Int} (h : ¬ rightL l) (h1 : ¬ 400 < (l.length : Int)) : setDropL l n = l := by
  unfold setDropL; rw [if_neg h1, if_neg h]
theorem NumBlk.owns_first {w : World} {g base : Nat} {l m : List Int} {z : Int} (h : NumBlk w g (m ++ [z])) (hb : base ≤ g) (hm : m.length = l.length - 1) (hp : 0 < l.length) (hl : l.length ≤ 1048576) : w.ownsRow base 2 1 (.slice (some ⟨g, 0, none⟩) (l.length - 1) l.length) m.length (numsV m) := by
  refine ⟨by rw [numsV_length]; omega, .inr ⟨g, l.length, (numsV (m ++ [z])).toArray, by rw [hm], hb, h, by omega, by unfold maxLen; omega, by rw [List.size_toArray, numsV_length, List.length_append]; simp; omega, ?_⟩⟩
  rw [List.toList_toArray, Nat.mul_one, numsV_append, List.take_append_of_le_length (by rw [numsV_length]; exact Nat.le_refl _), List.take_of_length_le (by rw [numsV_length]; exact Nat.le_refl _)]
set_option maxHeartbeats 1000000 in
set_option maxRecDepth 100000 in
theorem implDrop_any (a : Option Addr) (cap : Nat) (l : List Int) (n : Int) (w : World) (hl : l.length ≤ 1048576) (hrow : NumRow w a l) :
    Calls Tryz.prog 129 #[.slice a l.length cap, .int .i64 n] w fun e w' => ∃ v, e = .returned v ∧ w'.ownsRow w.heap.size 2 1 v (setDropL l n).length (numsV (setDropL l n)) ∧ Below w.heap.size w w' := by
  by_cases h1 : 400 < (l.length : Int)
  · have HE : Hid (setDropL l n = []) := if_pos h1
    go_enter Tryz.func129, Tryz.ntmps129
    go_wp2
    go_ret
    exact ⟨_, rfl, by rw [HE.out]; exact World.ownsRow_nil _ _ _ _, Below.refl _ _⟩
  go_enter Tryz.func129, Tryz.ntmps129
  go_wp2_with fail
  refine (bsearch_any a cap l n _ hl hrow).mono ?_
  rintro e x1 ⟨k, hk, rfl, hst, rfl⟩
  have HS : Hid (rises l → standsAt l n k) := hst
  clear hst
  cases ht : decide (l[k]? = some n) with
  | false =>
    have HE : Hid (setDropL l n = l) := drop_not HS.out ht (by omega)
    clear ht
    go_wp2_with fail
    refine (copied_own a cap l _ hl hrow).mono ?_
    rintro e x2 ⟨v, rfl, own2, b2⟩
    have HO : Hid (x2.ownsRow x1.heap.size 2 1 v l.length (numsV l)) := own2
    clear own2
    go_wp2
    go_ret
    exact ⟨v, rfl, by rw [HE.out]; exact HO.out, b2⟩
  | true =>
    have HT : Hid (l[k]? = some n) := by show _ = _; exact of_decide_eq_true ht
    have hkl : k < l.length := (List.getElem?_eq_some_iff.1 HT.out).1
    clear ht
    by_cases hr : rightL l
    · have HD : Hid (decide (rightL l) = true) := decide_eq_true hr
      have HE : Hid (setDropL l n = l.take k ++ l.drop (k + 1)) := by show _ = _; unfold setDropL; rw [if_neg (by omega), if_pos hr]; exact drop_found hr.2 HT.out
      clear hr
      go_wp2_with fail
      refine (implRight_any a cap l _ hl hrow).mono ?_
      rintro e x2 ⟨rfl, b2⟩
      rw [HD.out]
      have hrow2 := hrow.keep b2
      go_wp2_with fail
      refine (copied_any a cap l _ hl (by omega) hrow2).mono ?_
      rintro e x3 ⟨rfl, nb3, b3⟩
      have hw1 : IntKind.i64.wrap ((k : Int) + 1) = ((k + 1 : Nat) : Int) := by rw [IntKind.wrap_i64]; omega
      go_wp2_with fail
      refine (delete_nat x2.heap.size k (k + 1) l _ hl hkl rfl nb3).mono ?_
      rintro e x4 ⟨rfl, nb4, b4⟩
      have hb : Below x1.heap.size x1 x4 := (b2.trans (b3.mono b2.size)).trans (b4.mono b2.size)
      have HO : Hid (x4.ownsRow x1.heap.size 2 1 (.slice (some ⟨x2.heap.size, 0, none⟩) (l.length - 1) l.length) (setDropL l n).length (numsV (setDropL l n))) := by
        rw [HE.out]
        exact nb4.owns_first b2.size (by rw [List.length_append, List.length_take, List.length_drop]; omega) (by omega) hl
      clear nb3 nb4
      go_wp2
      go_ret
      exact ⟨_, rfl, HO.out, hb⟩
    · have HD : Hid (decide (rightL l) = false) := decide_eq_false hr
      have HE : Hid (setDropL l n = l) := drop_wrong hr (by omega)
      clear hr
      go_wp2_with fail
      refine (implRight_any a cap l _ hl hrow).mono ?_
      rintro e x2 ⟨rfl, b2⟩
      rw [HD.out]
      have hrow2 := hrow.keep b2
      go_wp2_with fail
      refine (copied_own a cap l _ hl hrow2).mono ?_
      rintro e x3 ⟨v, rfl, own3, b3⟩
      have HO : Hid (x3.ownsRow x1.heap.size 2 1 v l.length (numsV l)) := own_mono own3 b2.size
      have hb : Below x1.heap.size x1 x3 := b2.trans (b3.mono b2.size)
      clear own3
      go_wp2
      go_ret
      exact ⟨v, rfl, by rw [HE.out]; exact HO.out, hb⟩

theorem put_there {l : List Int} {n : Int} {k : Nat} (hs : rises l → standsAt l n k) (h : decide (l[k]? = some n) = true) (h1 : ¬ 400 < (l.length : Int)) : setPutL l n = l := by
  unfold setPutL
  rw [if_neg h1]
  by_cases hr : rightL l ∧ (l.length : Int) < 400
  · rw [if_pos hr]
    rw [stands_has hr.1.2 (hs hr.1.2), decide_eq_true_eq] at h
    exact ins_has hr.1.2 h
  · rw [if_neg hr]
theorem put_wrong {l : List Int} {n : Int} (h : ¬ (rightL l ∧ (l.length : Int) < 400)) (h1 : ¬ 400 < (l.length : Int)) : setPutL l n = l := by
  unfold setPutL; rw [if_neg h1, if_neg h]
theorem put_new {l : List Int} {n : Int} {k : Nat} (hr : rightL l) (hl : (l.length : Int) < 400) (hk : k ≤ l.length) (hs : rises l → standsAt l n k) (h : decide (l[k]? = some n) = false) : setPutL l n = l.take k ++ n :: l.drop k := by
  unfold setPutL
  rw [if_neg (by omega), if_pos ⟨hr, hl⟩]
  have h2 := hs hr.2
  rw [stands_has hr.2 h2, decide_eq_false_iff_not] at h
  exact ins_at h hk h2.1 (fun hk => by have := h2.2 k hk (Nat.le_refl _); omega)
end Go.Proofs.YtmdcankfjmkkeaaGreat
