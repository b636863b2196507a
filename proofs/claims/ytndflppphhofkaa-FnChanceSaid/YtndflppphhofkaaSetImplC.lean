/- The contracts of the program's SetHas, SetDrop and SetPut: they answer as the specification's. -/
import Derived.Test.YtndflppphhofkaaSetImplB
namespace Go.Proofs.Ytndflppphhofkaa
open Go Go.RowKit
set_option linter.unusedVariables false

theorem has_set {l : List Int} {n : Int} {k : Nat} (hs : rises l → standsAt l n k) : (decide (l[k]? = some n) && decide (rightL l)) = decide (rightL l ∧ n ∈ l) := by
  by_cases hr : rightL l
  · rw [stands_has hr.2 (hs hr.2)]; simp [hr]
  · simp [hr]
set_option maxHeartbeats 1000000 in
set_option maxRecDepth 100000 in
theorem implHas_any (a : Option Addr) (cap : Nat) (l : List Int) (n : Int) (w : World) (hl : l.length ≤ 1048576) (hrow : NumRow w a l) :
    Calls Try.prog 22 #[.slice a l.length cap, .int .i64 n] w fun e w' => e = .returned (.bool (decide (rightL l ∧ n ∈ l))) ∧ Below w.heap.size w w' := by
  go_enter Try.func22, Try.ntmps22
  go_wp2_with fail
  refine (bsearch_any a cap l n _ hl hrow).mono ?_
  rintro e x1 ⟨k, hk, rfl, hst, rfl⟩
  have HS : Hid (rises l → standsAt l n k) := hst
  clear hst
  have HE := has_set HS.out
  cases ht : decide (l[k]? = some n) with
  | false =>
    rw [ht] at HE
    have HE' : Hid (decide (rightL l ∧ n ∈ l) = false) := by show _ = _; rw [← HE]; rfl
    clear HE ht
    go_wp2
    go_ret
    exact ⟨ret_boolE HE'.out.symm, Below.refl _ _⟩
  | true =>
    rw [ht] at HE
    obtain ⟨r, hr⟩ : ∃ r, decide (rightL l) = r := ⟨_, rfl⟩
    have HE' : Hid (decide (rightL l ∧ n ∈ l) = r) := by show _ = _; rw [← HE, hr, Bool.true_and]
    have HR : Hid (decide (rightL l) = r) := hr
    clear HE ht hr
    go_wp2_with fail
    refine (implRight_any a cap l _ hl hrow).mono ?_
    rintro e x2 ⟨rfl, b2⟩
    rw [HR.out]
    go_wp2
    go_ret
    exact ⟨ret_boolE HE'.out.symm, b2⟩

theorem drop_found {l : List Int} {n : Int} {k : Nat} (hr : rises l) (h : l[k]? = some n) : dropL l n = l.take k ++ l.drop (k + 1) := by
  obtain ⟨hk, e⟩ := List.getElem?_eq_some_iff.1 h
  have hl : l = l.take k ++ (n :: l.drop (k + 1)) := by rw [← e, ← List.drop_eq_getElem_cons hk, List.take_append_drop]
  have hp := hr
  rw [hl] at hp
  obtain ⟨h1, h2, h3⟩ := List.pairwise_append.1 hp
  obtain ⟨h4, h5⟩ := List.pairwise_cons.1 h2
  have ha : dropL (l.take k) n = l.take k := dropL_out (fun q => by have := h3 n q n List.mem_cons_self; omega)
  have hb : dropL (l.drop (k + 1)) n = l.drop (k + 1) := dropL_out (fun q => by have := h4 n q; omega)
  have hd : dropL l n = dropL (l.take k) n ++ dropL (n :: l.drop (k + 1)) n := by
    conv => lhs; rw [hl]
    unfold dropL
    rw [List.filter_append]
  rw [hd, ha]
  have hc : dropL (n :: l.drop (k + 1)) n = dropL (l.drop (k + 1)) n := by unfold dropL; rw [List.filter_cons_of_neg (by simp)]
  rw [hc, hb]
theorem drop_not {l : List Int} {n : Int} {k : Nat} (hs : rises l → standsAt l n k) (h : decide (l[k]? = some n) = false) (h1 : ¬ 400 < (l.length : Int)) : setDropL l n = l := by
  unfold setDropL
  rw [if_neg h1]
  by_cases hr : rightL l
  · rw [if_pos hr]
    rw [stands_has hr.2 (hs hr.2), decide_eq_false_iff_not] at h
    exact dropL_out h
  · rw [if_neg hr]
theorem drop_wrong {l : List Int} {n : Int} (h : ¬ rightL l) (h1 : ¬ 400 < (l.length : Int)) : setDropL l n = l := by
  unfold setDropL; rw [if_neg h1, if_neg h]
theorem NumBlk.owns_first {w : World} {g base : Nat} {l m : List Int} {z : Int} (h : NumBlk w g (m ++ [z])) (hb : base ≤ g) (hm : m.length = l.length - 1) (hp : 0 < l.length) (hl : l.length ≤ 1048576) : w.ownsRow base 2 1 (.slice (some ⟨g, 0, none⟩) (l.length - 1) l.length) m.length (numsV m) := by
  refine ⟨by rw [numsV_length]; omega, .inr ⟨g, l.length, (numsV (m ++ [z])).toArray, by rw [hm], hb, h, by omega, by unfold maxLen; omega, by rw [List.size_toArray, numsV_length, List.length_append]; simp; omega, ?_⟩⟩
  rw [List.toList_toArray, Nat.mul_one, numsV_append, List.take_append_of_le_length (by rw [numsV_length]; exact Nat.le_refl _), List.take_of_length_le (by rw [numsV_length]; exact Nat.le_refl _)]
set_option maxHeartbeats 1000000 in
set_option maxRecDepth 100000 in
theorem implDrop_any (a : Option Addr) (cap : Nat) (l : List Int) (n : Int) (w : World) (hl : l.length ≤ 1048576) (hrow : NumRow w a l) :
    Calls Try.prog 17 #[.slice a l.length cap, .int .i64 n] w fun e w' => ∃ v, e = .returned v ∧ w'.ownsRow w.heap.size 2 1 v (setDropL l n).length (numsV (setDropL l n)) ∧ Below w.heap.size w w' := by
  by_cases h1 : 400 < (l.length : Int)
  · have HE : Hid (setDropL l n = []) := if_pos h1
    go_enter Try.func17, Try.ntmps17
    go_wp2
    go_ret
    exact ⟨_, rfl, by rw [HE.out]; exact World.ownsRow_nil _ _ _ _, Below.refl _ _⟩
  go_enter Try.func17, Try.ntmps17
  go_wp2_with fail
  refine (bsearch_any a cap l n _ hl hrow).mono ?_
  rintro e x1 ⟨k, hk, rfl, hst, rfl⟩
  have HS : Hid (rises l → standsAt l n k) := hst
  clear hst
  cases ht : decide (l[k]? = some n) with
  | false =>
    have HE : Hid (setDropL l n = l) := drop_not HS.out ht (by omega)
    clear ht
    go_wp2_with fail
    refine (copied_own a cap l _ hl hrow).mono ?_
    rintro e x2 ⟨v, rfl, own2, b2⟩
    have HO : Hid (x2.ownsRow x1.heap.size 2 1 v l.length (numsV l)) := own2
    clear own2
    go_wp2
    go_ret
    exact ⟨v, rfl, by rw [HE.out]; exact HO.out, b2⟩
  | true =>
    have HT : Hid (l[k]? = some n) := by show _ = _; exact of_decide_eq_true ht
    have hkl : k < l.length := (List.getElem?_eq_some_iff.1 HT.out).1
    clear ht
    by_cases hr : rightL l
    · have HD : Hid (decide (rightL l) = true) := decide_eq_true hr
      have HE : Hid (setDropL l n = l.take k ++ l.drop (k + 1)) := by show _ = _; unfold setDropL; rw [if_neg (by omega), if_pos hr]; exact drop_found hr.2 HT.out
      clear hr
      go_wp2_with fail
      refine (implRight_any a cap l _ hl hrow).mono ?_
      rintro e x2 ⟨rfl, b2⟩
      rw [HD.out]
      have hrow2 := hrow.keep b2
      go_wp2_with fail
      refine (copied_any a cap l _ hl (by omega) hrow2).mono ?_
      rintro e x3 ⟨rfl, nb3, b3⟩
      have hw1 : IntKind.i64.wrap ((k : Int) + 1) = ((k + 1 : Nat) : Int) := by rw [IntKind.wrap_i64]; omega
      go_wp2_with fail
      refine (delete_nat x2.heap.size k (k + 1) l _ hl hkl rfl nb3).mono ?_
      rintro e x4 ⟨rfl, nb4, b4⟩
      have hb : Below x1.heap.size x1 x4 := (b2.trans (b3.mono b2.size)).trans (b4.mono b2.size)
      have HO : Hid (x4.ownsRow x1.heap.size 2 1 (.slice (some ⟨x2.heap.size, 0, none⟩) (l.length - 1) l.length) (setDropL l n).length (numsV (setDropL l n))) := by
        rw [HE.out]
        exact nb4.owns_first b2.size (by rw [List.length_append, List.length_take, List.length_drop]; omega) (by omega) hl
      clear nb3 nb4
      go_wp2
      go_ret
      exact ⟨_, rfl, HO.out, hb⟩
    · have HD : Hid (decide (rightL l) = false) := decide_eq_false hr
      have HE : Hid (setDropL l n = l) := drop_wrong hr (by omega)
      clear hr
      go_wp2_with fail
      refine (implRight_any a cap l _ hl hrow).mono ?_
      rintro e x2 ⟨rfl, b2⟩
      rw [HD.out]
      have hrow2 := hrow.keep b2
      go_wp2_with fail
      refine (copied_own a cap l _ hl hrow2).mono ?_
      rintro e x3 ⟨v, rfl, own3, b3⟩
      have HO : Hid (x3.ownsRow x1.heap.size 2 1 v l.length (numsV l)) := own_mono own3 b2.size
      have hb : Below x1.heap.size x1 x3 := b2.trans (b3.mono b2.size)
      clear own3
      go_wp2
      go_ret
      exact ⟨v, rfl, by rw [HE.out]; exact HO.out, hb⟩

theorem put_there {l : List Int} {n : Int} {k : Nat} (hs : rises l → standsAt l n k) (h : decide (l[k]? = some n) = true) (h1 : ¬ 400 < (l.length : Int)) : setPutL l n = l := by
  unfold setPutL
  rw [if_neg h1]
  by_cases hr : rightL l ∧ (l.length : Int) < 400
  · rw [if_pos hr]
    rw [stands_has hr.1.2 (hs hr.1.2), decide_eq_true_eq] at h
    exact ins_has hr.1.2 h
  · rw [if_neg hr]
theorem put_wrong {l : List Int} {n : Int} (h : ¬ (rightL l ∧ (l.length : Int) < 400)) (h1 : ¬ 400 < (l.length : Int)) : setPutL l n = l := by
  unfold setPutL; rw [if_neg h1, if_neg h]
theorem put_new {l : List Int} {n : Int} {k : Nat} (hr : rightL l) (hl : (l.length : Int) < 400) (hk : k ≤ l.length) (hs : rises l → standsAt l n k) (h : decide (l[k]? = some n) = false) : setPutL l n = l.take k ++ n :: l.drop k := by
  unfold setPutL
  rw [if_neg (by omega), if_pos ⟨hr, hl⟩]
  have h2 := hs hr.2
  rw [stands_has hr.2 h2, decide_eq_false_iff_not] at h
  exact ins_at h hk h2.1 (fun hk => by have := h2.2 k hk (Nat.le_refl _); omega)
set_option maxHeartbeats 1000000 in
set_option maxRecDepth 100000 in
theorem implPut_any (a : Option Addr) (cap : Nat) (l : List Int) (n : Int) (w : World) (hl : l.length ≤ 1048576) (hrow : NumRow w a l) :
    Calls Try.prog 16 #[.slice a l.length cap, .int .i64 n] w fun e w' => ∃ v, e = .returned v ∧ w'.ownsRow w.heap.size 2 1 v (setPutL l n).length (numsV (setPutL l n)) ∧ Below w.heap.size w w' := by
  by_cases h1 : 400 < (l.length : Int)
  · have HE : Hid (setPutL l n = []) := if_pos h1
    go_enter Try.func16, Try.ntmps16
    go_wp2
    go_ret
    exact ⟨_, rfl, by rw [HE.out]; exact World.ownsRow_nil _ _ _ _, Below.refl _ _⟩
  go_enter Try.func16, Try.ntmps16
  go_wp2_with fail
  refine (bsearch_any a cap l n _ hl hrow).mono ?_
  rintro e x1 ⟨k, hk, rfl, hst, rfl⟩
  have HS : Hid (rises l → standsAt l n k) := hst
  clear hst
  cases ht : decide (l[k]? = some n) with
  | true =>
    have HE : Hid (setPutL l n = l) := put_there HS.out ht (by omega)
    clear ht
    go_wp2_with fail
    refine (copied_own a cap l _ hl hrow).mono ?_
    rintro e x2 ⟨v, rfl, own2, b2⟩
    have HO : Hid (x2.ownsRow x1.heap.size 2 1 v l.length (numsV l)) := own2
    clear own2
    go_wp2
    go_ret
    exact ⟨v, rfl, by rw [HE.out]; exact HO.out, b2⟩
  | false =>
    have HT : Hid (decide (l[k]? = some n) = false) := ht
    clear ht
    by_cases h4 : (l.length : Int) = 400
    · have HE : Hid (setPutL l n = l) := put_wrong (fun h => by have := h.2; omega) (by omega)
      have h4b : ((l.length : Int) == 400) = true := by simp [h4]
      go_wp2_with fail
      refine (copied_own a cap l _ hl hrow).mono ?_
      rintro e x2 ⟨v, rfl, own2, b2⟩
      have HO : Hid (x2.ownsRow x1.heap.size 2 1 v l.length (numsV l)) := own2
      clear own2
      go_wp2
      go_ret
      exact ⟨v, rfl, by rw [HE.out]; exact HO.out, b2⟩
    have h4b : ((l.length : Int) == 400) = false := beq_eq_false_iff_ne.2 h4
    by_cases hr : rightL l
    · have HD : Hid (decide (rightL l) = true) := decide_eq_true hr
      have HE : Hid (setPutL l n = l.take k ++ n :: l.drop k) := put_new hr (by omega) hk HS.out HT.out
      have HN : Hid ((setPutL l n).length = l.length + 1) := by show _ = _; rw [HE.out, List.length_append, List.length_take, List.length_cons, List.length_drop]; omega
      clear hr
      go_wp2_with fail
      refine (implRight_any a cap l _ hl hrow).mono ?_
      rintro e x2 ⟨rfl, b2⟩
      rw [HD.out]
      have hrow2 := hrow.keep b2
      by_cases hkl : k < l.length
      · go_wp2_with fail
        refine (copied_any a cap l _ hl (by omega) hrow2).mono ?_
        rintro e x3 ⟨rfl, nb3, b3⟩
        have b3a := b3.alloc b3.size (.cells #[.int .i64 n] 2)
        have nb3a := nb3.keep ((Below.refl _ _).alloc (Nat.le_refl _) (.cells #[.int .i64 n] 2))
        have hn3 := one_row n x3
        go_wp2_with fail
        refine (insert_mid x2.heap.size x3.heap.size k l n x1.heap.size _ (by omega) hkl nb3a hn3 (by have := b2.size; have := b3a.size; omega)).mono ?_
        rintro e x4 ⟨v, rfl, own4, b4⟩
        have hb : Below x1.heap.size x1 x4 := (b2.trans (b3a.mono b2.size)).trans b4
        have HO : Hid (x4.ownsRow x1.heap.size 2 1 v (setPutL l n).length (numsV (setPutL l n))) := by rw [HN.out, HE.out]; exact own4
        clear own4
        go_wp2
        go_ret
        exact ⟨v, rfl, HO.out, hb⟩
      · obtain rfl : k = l.length := by omega
        have HE2 : Hid (setPutL l n = l ++ [n]) := by have := HE.out; rwa [List.take_length, List.drop_length] at this
        go_wp2_with fail
        refine (copied_own a cap l _ hl hrow2).mono ?_
        rintro e x3 ⟨v3, rfl, own3, b3⟩
        have b3a := b3.alloc b3.size (.cells #[.int .i64 n] 2)
        have own3a := (own_mono own3 b2.size).alloc (.cells #[.int .i64 n] 2)
        have hn3 := one_row n x3
        go_wp2_with fail
        refine (insert_end v3 x3.heap.size l n x1.heap.size _ (by omega) own3a hn3 (by have := b2.size; have := b3a.size; omega)).mono ?_
        rintro e x4 ⟨v, rfl, own4, b4⟩
        have hb : Below x1.heap.size x1 x4 := (b2.trans (b3a.mono b2.size)).trans b4
        have HO : Hid (x4.ownsRow x1.heap.size 2 1 v (setPutL l n).length (numsV (setPutL l n))) := by rw [HN.out, HE2.out]; exact own4
        clear own4 own3 own3a
        go_wp2
        go_ret
        exact ⟨v, rfl, HO.out, hb⟩
    · have HD : Hid (decide (rightL l) = false) := decide_eq_false hr
      have HE : Hid (setPutL l n = l) := put_wrong (fun h => hr h.1) (by omega)
      clear hr
      go_wp2_with fail
      refine (implRight_any a cap l _ hl hrow).mono ?_
      rintro e x2 ⟨rfl, b2⟩
      rw [HD.out]
      have hrow2 := hrow.keep b2
      go_wp2_with fail
      refine (copied_own a cap l _ hl hrow2).mono ?_
      rintro e x3 ⟨v, rfl, own3, b3⟩
      have HO : Hid (x3.ownsRow x1.heap.size 2 1 v l.length (numsV l)) := own_mono own3 b2.size
      have hb : Below x1.heap.size x1 x3 := b2.trans (b3.mono b2.size)
      clear own3
      go_wp2
      go_ret
      exact ⟨v, rfl, by rw [HE.out]; exact HO.out, hb⟩
end Go.Proofs.Ytndflppphhofkaa
