/- The contracts of the program's sets: a copy, what is right, where a number stands, what is in it. -/
import Derived.Test.YtmdcankfjmkkeaaGreatG10
import Derived.Laws.CopyOwn
namespace Go.Proofs.YtmdcankfjmkkeaaGreat
open Go Go.RowKit
set_option linter.unusedVariables false

theorem size1I : (Tryz.prog.info? 2).map (·.size) = some 1 := by
  obtain ⟨i, hi, _, hs, _⟩ := info_partsI
  rw [hi]; simp [hs]
/-- A whole block of numbers. -/
def NumBlk (w : World) (g : Nat) (l : List Int) : Prop := w.heap[g]? = some (.cells (numsV l).toArray 2 (0, 0))
theorem NumBlk.lt {w : World} {g : Nat} {l : List Int} (h : NumBlk w g l) : g < w.heap.size := by
  rcases Nat.lt_or_ge g w.heap.size with k | k
  · exact k
  · unfold NumBlk at h
    rw [Array.getElem?_eq_none k] at h
    cases h
theorem NumBlk.keep {w w' : World} {g : Nat} {l : List Int} (h : NumBlk w g l) (hb : Below w.heap.size w w') : NumBlk w' g l := (hb.block g h.lt).trans h
theorem NumBlk.owns {w : World} {g base : Nat} {l : List Int} (h : NumBlk w g l) (hb : base ≤ g) (hl : l.length ≤ 1048576) : w.ownsRow base 2 1 (.slice (some ⟨g, 0, none⟩) l.length l.length) l.length (numsV l) := by
  refine ⟨by rw [numsV_length]; omega, .inr ⟨g, l.length, (numsV l).toArray, rfl, hb, h, Nat.le_refl _, by unfold maxLen; omega, by simp [numsV], ?_⟩⟩
  rw [List.toList_toArray, Nat.mul_one, List.take_of_length_le (by rw [numsV_length]; exact Nat.le_refl _)]
theorem numsV_one {l : List Int} : ∀ v ∈ numsV l, v.oneCell' = true := by
  intro v hv
  obtain ⟨q, _, rfl⟩ := List.mem_map.1 hv
  rfl
theorem splice_all {L M : List Value} (h : M.length = L.length) : splice M 0 L = L := by simp [splice, h]
theorem NumRow.src {w : World} {a : Option Addr} {l : List Int} (h : NumRow w a l) (hne : 0 < l.length) : ∃ ad, a = some ad ∧ ∀ j v, (numsV l)[j]? = some v → w.cell? (ad.add j) = some v := by
  rcases h with h | ⟨b, off, e, hlt, hc⟩
  · rw [h] at hne; simp at hne
  · refine ⟨_, e, fun j v hj => ?_⟩
    have hjl : j < l.length := by
      have := (List.getElem?_eq_some_iff.1 hj).1
      rwa [numsV_length] at this
    rw [addr_off, hc j hjl]
    rw [numsV, List.getElem?_map, List.getElem?_eq_getElem hjl] at hj
    exact hj

set_option maxHeartbeats 1000000 in
set_option maxRecDepth 100000 in
/-- A copy: new memory, whole. -/
theorem copied_any (a : Option Addr) (cap : Nat) (l : List Int) (w : World) (hl : l.length ≤ 1048576) (hne : 0 < l.length) (hrow : NumRow w a l) :
    Calls Tryz.prog 126 #[.slice a l.length cap] w fun e w' => e = .returned (.slice (some ⟨w.heap.size, 0, none⟩) l.length l.length) ∧ NumBlk w' w.heap.size l ∧ Below w.heap.size w w' := by
  have hmk := run_make_row' (P := Tryz.prog) 25 2 (.int .i64 0) 8 Tryz.underlying25 Tryz.infoI64 rfl .i64 .i64 l.length (by omega) (by omega)
  have hb0 : Below w.heap.size w (w.alloc (.cells (madeCells #[.int .i64 0] l.length) 2)) := (Below.refl _ _).alloc (Nat.le_refl _) _
  have hg0 : (w.alloc (.cells (madeCells #[.int .i64 0] l.length) 2)).heap[w.heap.size]? = some (.cells (List.replicate l.length (.int .i64 0)).toArray 2 (0, 0)) := by
    rw [heap_alloc_new, ← toList_madeCells_one, Array.toArray_toList]
  have hrow1 := hrow.keep hb0
  have hm : (numsV l).length = Nat.min l.length l.length := by rw [numsV_length]; exact (Nat.min_self _).symm
  have hfit : 0 + (numsV l).length ≤ (List.replicate l.length (Value.int .i64 0)).length := by rw [numsV_length]; simp
  have hz : ((l.length : Int) == 0) = false := beq_eq_false_iff_ne.2 (by omega)
  go_enter Tryz.func126, Tryz.ntmps126
  go_wp2_with (refine wpList_copy_splice rfl _ _ 25 25 rfl 2 Tryz.underlying25 size1I (some ⟨w.heap.size, 0, none⟩) a l.length l.length l.length cap rfl rfl w.heap.size 0 (List.replicate l.length (.int .i64 0)) 2 hg0 (numsV l) hm (fun _ => ⟨rfl, hrow1.src hne⟩) hfit numsV_one w.heap.size w hb0 (Nat.le_refl _) ?_)
  intro w2 hg2 hb2
  have HG : Hid (NumBlk w2 w.heap.size l) := by
    have := hg2.out
    rw [splice_all (by rw [numsV_length]; simp)] at this
    exact this
  clear hg2 hg0
  go_wp2
  go_ret
  exact ⟨rfl, HG.out, hb2⟩
set_option maxRecDepth 100000 in
theorem copied_nil (a : Option Addr) (cap : Nat) (w : World) :
    Calls Tryz.prog 126 #[.slice a 0 cap] w fun e w' => e = .returned (.slice none 0 0) ∧ w' = w := by
  go_enter Tryz.func126, Tryz.ntmps126
  go_wp2
  go_ret
  exact ⟨rfl, rfl⟩
/-- A copy, in the words of a row of one's own. -/
theorem copied_own (a : Option Addr) (cap : Nat) (l : List Int) (w : World) (hl : l.length ≤ 1048576) (hrow : NumRow w a l) :
    Calls Tryz.prog 126 #[.slice a l.length cap] w fun e w' => ∃ v, e = .returned v ∧ w'.ownsRow w.heap.size 2 1 v l.length (numsV l) ∧ Below w.heap.size w w' := by
  by_cases h0 : l.length = 0
  · obtain rfl : l = [] := List.eq_nil_of_length_eq_zero h0
    refine (copied_nil a cap w).mono ?_
    rintro e w' ⟨rfl, rfl⟩
    exact ⟨_, rfl, World.ownsRow_nil _ _ _ _, Below.refl _ _⟩
  · refine (copied_any a cap l w hl (by omega) hrow).mono ?_
    rintro e w' ⟨rfl, hb, hbl⟩
    exact ⟨_, rfl, hb.owns (Nat.le_refl _) hl, hbl⟩

set_option maxHeartbeats 1000000 in
set_option maxRecDepth 100000 in
theorem implRight_any (a : Option Addr) (cap : Nat) (l : List Int) (w : World) (hl : l.length ≤ 1048576) (hrow : NumRow w a l) :
    Calls Tryz.prog 184 #[.slice a l.length cap] w fun e w' => e = .returned (.bool (decide (rightL l))) ∧ Below w.heap.size w w' := by
  by_cases h1 : 400 < (l.length : Int)
  · have HN : Hid (decide (rightL l) = false) := decide_eq_false (fun h => by have := h.1; omega)
    go_enter Tryz.func184, Tryz.ntmps184
    go_wp2
    go_ret
    exact ⟨ret_boolE HN.out.symm, Below.refl _ _⟩
  go_enter Tryz.func184, Tryz.ntmps184
  go_wp2
  go_loopw [3] (fun i wr => ∃ k : Nat, 1 ≤ k ∧ (k ≤ l.length ∨ k = 1) ∧ i = .int .i64 k ∧ (∀ j (h : j + 1 < l.length), j + 1 < k → l[j] < l[j + 1]) ∧ Below w.heap.size w wr) (fun i _ => l.length - (intOf i).toNat)
  case atStart => exact ⟨1, by omega, .inr rfl, rfl, fun j _ h => by omega, Below.refl _ _⟩
  case round =>
    obtain ⟨k, hk1, hk2, rfl, hup, hb⟩ := hrel
    have HU : Hid (∀ j (h : j + 1 < l.length), j + 1 < k → l[j] < l[j + 1]) := hup
    clear hup
    by_cases hx : k < l.length
    · rcases hrow.keep hb with h | ⟨b, off, rfl, hlt, hc⟩
      · have : l.length = 0 := by rw [h]; rfl
        omega
      obtain ⟨q, rfl⟩ : ∃ q, k = q + 1 := ⟨k - 1, by omega⟩
      have h2 := hc (q + 1) hx
      have h3 := hc q (by omega)
      obtain ⟨x, hxx⟩ : ∃ x, l[q] = x := ⟨_, rfl⟩
      obtain ⟨y, hyy⟩ : ∃ y, l[q + 1] = y := ⟨_, rfl⟩
      rw [hyy] at h2
      rw [hxx] at h3
      have HX : Hid (l[q] = x) := hxx
      have HY : Hid (l[q + 1] = y) := hyy
      have ew : (((q + 1 : Nat) : Int) - 1) = (q : Int) := by omega
      have eww : IntKind.i64.wrap (((q + 1 : Nat) : Int) - 1) = (q : Int) := by rw [IntKind.wrap_i64]; omega
      clear hc hxx hyy
      by_cases e : x < y
      · have ed : decide (y ≤ x) = false := decide_eq_false (by omega)
        go_wp2
        go_region
        go_wp2
        go_roundw
        case rel => exact ⟨q + 2, by omega, .inl (by omega), by go_num, fun j hj hjk => by
          by_cases ej : j = q
          · subst ej; rw [HX.out, HY.out]; exact e
          · exact HU.out j hj (by omega), hb.drew⟩
        case measure => simp [intOf]; omega
      · have ed : decide (y ≤ x) = true := decide_eq_true (by omega)
        have HN : Hid (decide (rightL l) = false) := decide_eq_false (fun h => by
          have := rises_next.1 h.2 q hx
          rw [HX.out, HY.out] at this
          exact e this)
        go_wp2
        go_region
        go_wp2
        go_ret
        exact ⟨ret_boolE HN.out.symm, hb.drew⟩
    · have HD : Hid (decide (rightL l) = true) := decide_eq_true ⟨by omega, rises_next.2 fun j hj => HU.out j hj (by omega)⟩
      go_wp2
      go_ret
      exact ⟨ret_boolE HD.out.symm, hb⟩

theorem cmpNaN_any (x : Int) (w : World) : Calls Tryz.prog 205 #[.int .i64 x] w fun e w' => e = .returned (.bool false) ∧ w' = w := by
  go_enter Tryz.func205, Tryz.ntmps205
  go_wp2
  go_ret
  exact ⟨by simp, rfl⟩
theorem slNaN_any (x : Int) (w : World) : Calls Tryz.prog 209 #[.int .i64 x] w fun e w' => e = .returned (.bool false) ∧ w' = w := by
  go_enter Tryz.func209, Tryz.ntmps209
  go_wp2
  go_ret
  exact ⟨by simp, rfl⟩
theorem cmpLess_any (x y : Int) (w : World) : Calls Tryz.prog 208 #[.int .i64 x, .int .i64 y] w fun e w' => e = .returned (.bool (decide (x < y))) ∧ w' = w := by
  go_enter Tryz.func208, Tryz.ntmps208
  go_wp2_with (go_at_call 205; refine (cmpNaN_any _ _).mono ?_; rintro e w' ⟨rfl, rfl⟩)
  go_ret
  exact ⟨rfl, rfl⟩

/-- Where a number stands, or would stand. -/
def standsAt (l : List Int) (n : Int) (k : Nat) : Prop := (∀ j (h : j < l.length), j < k → l[j] < n) ∧ ∀ j (h : j < l.length), k ≤ j → n ≤ l[j]
theorem rises_le {l : List Int} (h : rises l) {i j : Nat} (hij : i ≤ j) (hj : j < l.length) : l[i]'(by omega) ≤ l[j] := by
  rcases Nat.lt_or_ge i j with k | k
  · exact Int.le_of_lt (List.pairwise_iff_getElem.1 h i j (by omega) hj k)
  · obtain rfl : i = j := by omega
    exact Int.le_refl _
theorem stands_has {l : List Int} {n : Int} {k : Nat} (hr : rises l) (h : standsAt l n k) : decide (l[k]? = some n) = decide (n ∈ l) := by
  by_cases hm : n ∈ l
  · rw [decide_eq_true hm, decide_eq_true_eq]
    obtain ⟨j, hj, e⟩ := List.getElem_of_mem hm
    rcases Nat.lt_or_ge j k with q | q
    · have := h.1 j hj q; omega
    · rcases Nat.lt_or_ge k j with q2 | q2
      · have h1 := h.2 k (by omega) (Nat.le_refl _)
        have h2 := List.pairwise_iff_getElem.1 hr k j (by omega) hj q2
        omega
      · obtain rfl : j = k := by omega
        rw [List.getElem?_eq_getElem hj, e]
  · rw [decide_eq_false hm, decide_eq_false_iff_not]
    intro e
    exact hm (List.mem_of_getElem? e)
set_option maxHeartbeats 1000000 in
set_option maxRecDepth 100000 in
theorem bsearch_any (a : Option Addr) (cap : Nat) (l : List Int) (n : Int) (w : World) (hl : l.length ≤ 1048576) (hrow : NumRow w a l) :
    Calls Tryz.prog 183 #[.slice a l.length cap, .int .i64 n] w fun e w' => ∃ k : Nat, k ≤ l.length ∧ e = .returned (.tuple #[.int .i64 k, .bool (decide (l[k]? = some n))]) ∧ (rises l → standsAt l n k) ∧ w' = w := by
  go_enter Tryz.func183, Tryz.ntmps183
  go_wp2
  go_loop [7, 8] (fun s7 s8 => ∃ lo hi : Nat, s7 = .int .i64 lo ∧ s8 = .int .i64 hi ∧ lo ≤ hi ∧ hi ≤ l.length ∧ (rises l → ∀ j (h : j < l.length), j < lo → l[j] < n) ∧ (rises l → ∀ j (h : j < l.length), hi ≤ j → n ≤ l[j])) (fun s7 s8 => (intOf s8).toNat - (intOf s7).toNat)
  case atStart => exact ⟨0, l.length, rfl, rfl, Nat.zero_le _, Nat.le_refl _, fun _ j _ h => by omega, fun _ j h h2 => by omega⟩
  case round =>
    obtain ⟨lo, hi, rfl, rfl, hlh, hin, h1, h2⟩ := hrel
    have H1 : Hid (rises l → ∀ j (h : j < l.length), j < lo → l[j] < n) := h1
    have H2 : Hid (rises l → ∀ j (h : j < l.length), hi ≤ j → n ≤ l[j]) := h2
    clear h1 h2
    by_cases hlt : lo < hi
    · rcases hrow with h | ⟨b, off, rfl, hbl, hc⟩
      · have : l.length = 0 := by rw [h]; rfl
        omega
      have hml : (lo + hi) / 2 < l.length := by omega
      have cm := hc ((lo + hi) / 2) hml
      obtain ⟨x, hxx⟩ : ∃ x, l[(lo + hi) / 2] = x := ⟨_, rfl⟩
      rw [hxx] at cm
      have HX : Hid (l[(lo + hi) / 2] = x) := hxx
      clear hc hxx
      by_cases e : x < n
      · go_wp2_with (first | (go_at_call 208; refine (cmpLess_any _ _ _).mono ?_; rintro e w' ⟨rfl, rfl⟩) | (go_at_call 209; refine (slNaN_any _ _).mono ?_; rintro e w' ⟨rfl, rfl⟩))
        go_round
        case rel => exact ⟨(lo + hi) / 2 + 1, hi, by go_num, rfl, by omega, hin, fun hr j hj hjl => by
          have := rises_le hr (i := j) (j := (lo + hi) / 2) (by omega) hml
          rw [HX.out] at this
          omega, H2.out⟩
        case measure => simp [intOf]; omega
      · go_wp2_with (first | (go_at_call 208; refine (cmpLess_any _ _ _).mono ?_; rintro e w' ⟨rfl, rfl⟩) | (go_at_call 209; refine (slNaN_any _ _).mono ?_; rintro e w' ⟨rfl, rfl⟩))
        go_round
        case rel => exact ⟨lo, (lo + hi) / 2, rfl, by go_num, by omega, by omega, H1.out, fun hr j hj hjl => by
          have := rises_le hr (i := (lo + hi) / 2) (j := j) hjl hj
          rw [HX.out] at this
          omega⟩
        case measure => simp [intOf]; omega
    · obtain rfl : hi = lo := by omega
      have HS : Hid (rises l → standsAt l n hi) := fun hr => ⟨H1.out hr, H2.out hr⟩
      by_cases hn : hi < l.length
      · rcases hrow with h | ⟨b, off, rfl, hbl, hc⟩
        · have : l.length = 0 := by rw [h]; rfl
          omega
        have cm := hc hi hn
        obtain ⟨x, hxx⟩ : ∃ x, l[hi] = x := ⟨_, rfl⟩
        rw [hxx] at cm
        have HD : Hid (decide (l[hi]? = some n) = decide (x = n)) := by
          show _ = _
          rw [List.getElem?_eq_getElem hn, hxx]
          simp
        clear hc hxx
        by_cases e : x = n
        · subst e
          have HE : Hid (decide (x = x) = true) := decide_eq_true rfl
          go_wp2_with (first | (go_at_call 208; refine (cmpLess_any _ _ _).mono ?_; rintro e w' ⟨rfl, rfl⟩) | (go_at_call 209; refine (slNaN_any _ _).mono ?_; rintro e w' ⟨rfl, rfl⟩))
          go_ret2
          exact ⟨hi, hin, by rw [HD.out, HE.out]; rfl, HS.out, rfl⟩
        · have eb : (x == n) = false := by simp [e]
          have HE : Hid (decide (x = n) = false) := decide_eq_false e
          clear e
          go_wp2_with (first | (go_at_call 208; refine (cmpLess_any _ _ _).mono ?_; rintro e w' ⟨rfl, rfl⟩) | (go_at_call 209; refine (slNaN_any _ _).mono ?_; rintro e w' ⟨rfl, rfl⟩))
          go_ret2
          exact ⟨hi, hin, by rw [HD.out, HE.out]; rfl, HS.out, rfl⟩
      · have HD : Hid (decide (l[hi]? = some n) = false) := by
          show _ = _
          rw [List.getElem?_eq_none (by omega)]
          rfl
        go_wp2_with (first | (go_at_call 208; refine (cmpLess_any _ _ _).mono ?_; rintro e w' ⟨rfl, rfl⟩) | (go_at_call 209; refine (slNaN_any _ _).mono ?_; rintro e w' ⟨rfl, rfl⟩))
        go_ret2
        exact ⟨hi, hin, by rw [HD.out]; rfl, HS.out, rfl⟩
end Go.Proofs.YtmdcankfjmkkeaaGreat
