/- The contracts of RecRight, the program's and the specification's. -/
import Derived.Test.YtgmdgjkmdnpmiaaRcE
namespace Go.Proofs.Ytgmdgjkmdnpmiaa
open Go Go.RowKit
set_option linter.unusedVariables false
set_option linter.unusedSimpArgs false

theorem near_is {lo hi x : Int} (h : lo ≤ hi) : near lo hi x = x ↔ lo ≤ x ∧ x ≤ hi := by
  unfold near
  by_cases h1 : hi < x
  · rw [if_pos h1]
    split <;> omega
  · rw [if_neg h1]
    split <;> omega
set_option maxHeartbeats 2000000 in
set_option maxRecDepth 100000 in
theorem implRec_of (x1 x2 x3 x4 x5 x6 y1 y2 y3 y4 y5 y6 : Int) (w : World) (hn : ∀ w, Calls Try.prog 19 #[.agg #[.int .i64 x1, .int .i64 x2, .int .i64 x3, .int .i64 x4, .int .i64 x5, .int .i64 x6]] w fun e w' => e = .returned (.agg #[.int .i64 y1, .int .i64 y2, .int .i64 y3, .int .i64 y4, .int .i64 y5, .int .i64 y6]) ∧ Below w.heap.size w w') :
    Calls Try.prog 8 #[.agg #[.int .i64 x1, .int .i64 x2, .int .i64 x3, .int .i64 x4, .int .i64 x5, .int .i64 x6]] w fun e w' => Tells (y1 = x1 ∧ y2 = x2 ∧ y3 = x3 ∧ y4 = x4 ∧ y5 = x5 ∧ y6 = x6) e ∧ Below w.heap.size w w' := by
  have B0 := (Below.refl w.heap.size w).alloc (Nat.le_refl _) (.cells #[.int .i64 x1, .int .i64 x2, .int .i64 x3, .int .i64 x4, .int .i64 x5, .int .i64 x6] 25)
  have P0 := BlkIs.new w 25 #[.int .i64 x1, .int .i64 x2, .int .i64 x3, .int .i64 x4, .int .i64 x5, .int .i64 x6]
  obtain ⟨W, hW⟩ : ∃ W, w.alloc (.cells #[.int .i64 x1, .int .i64 x2, .int .i64 x3, .int .i64 x4, .int .i64 x5, .int .i64 x6] 25) = W := ⟨_, rfl⟩
  rw [hW] at B0 P0
  have HW : Hid (_ = W) := hW
  have HN : Hid (∀ w, Calls Try.prog 19 #[.agg #[.int .i64 x1, .int .i64 x2, .int .i64 x3, .int .i64 x4, .int .i64 x5, .int .i64 x6]] w fun e w' => e = .returned (.agg #[.int .i64 y1, .int .i64 y2, .int .i64 y3, .int .i64 y4, .int .i64 y5, .int .i64 y6]) ∧ Below w.heap.size w w') := hn
  clear hn hW
  have hq := fun w => arr_eq y1 y2 y3 y4 y5 y6 x1 x2 x3 x4 x5 x6 w
  go_enter Try.func8, Try.ntmps8
  go_upto_region 1 with fail
  rw [HW.out]
  clear HW
  have c0 : W.cell? ⟨w.heap.size, 0, none⟩ = some (.int .i64 x1) := P0.cell 0
  have c1 : W.cell? ⟨w.heap.size, 1, none⟩ = some (.int .i64 x2) := P0.cell 1
  have c2 : W.cell? ⟨w.heap.size, 2, none⟩ = some (.int .i64 x3) := P0.cell 2
  have c3 : W.cell? ⟨w.heap.size, 3, none⟩ = some (.int .i64 x4) := P0.cell 3
  have c4 : W.cell? ⟨w.heap.size, 4, none⟩ = some (.int .i64 x5) := P0.cell 4
  have c5 : W.cell? ⟨w.heap.size, 5, none⟩ = some (.int .i64 x6) := P0.cell 5
  go_region_with (first
    | (go_at_call 19; refine (HN.out _).mono ?_; rintro e w1 ⟨rfl, b1⟩; have d0 : w1.cell? ⟨w.heap.size, 0, none⟩ = some (.int .i64 x1) := (BlkIs.keep (w := W.drew) P0 b1).cell 0; have d1 : w1.cell? ⟨w.heap.size, 1, none⟩ = some (.int .i64 x2) := (BlkIs.keep (w := W.drew) P0 b1).cell 1; have d2 : w1.cell? ⟨w.heap.size, 2, none⟩ = some (.int .i64 x3) := (BlkIs.keep (w := W.drew) P0 b1).cell 2; have d3 : w1.cell? ⟨w.heap.size, 3, none⟩ = some (.int .i64 x4) := (BlkIs.keep (w := W.drew) P0 b1).cell 3; have d4 : w1.cell? ⟨w.heap.size, 4, none⟩ = some (.int .i64 x5) := (BlkIs.keep (w := W.drew) P0 b1).cell 4; have d5 : w1.cell? ⟨w.heap.size, 5, none⟩ = some (.int .i64 x6) := (BlkIs.keep (w := W.drew) P0 b1).cell 5)
    | (go_at_call 20; refine (numsOf_any x1 x2 x3 x4 x5 x6 _).mono ?_; rintro e w2 ⟨rfl, b2⟩))
  all_goals
    replace B0 := (B0.drew.trans (b1.mono B0.size)).trans (b2.mono (Nat.le_trans B0.size b1.size))
    go_wp2
    go_ret
    exact ⟨⟨_, rfl, by simp⟩, B0⟩
set_option maxRecDepth 100000 in
theorem implRec_any (d : RecV) (w : World) : Calls Try.prog 8 #[d.val] w fun e w' => Tells d.ok e ∧ Below w.heap.size w w' := by
  obtain ⟨x1, x2, x3, x4, x5, x6⟩ := d
  unfold RecV.val
  have ok : ∀ p q : Prop, (p ↔ q) → ∀ e w', (Tells p e ∧ Below w.heap.size w w') → Tells q e ∧ Below w.heap.size w w' := fun p q h e w' t => ⟨t.1.iff h, t.2⟩
  by_cases h1 : x3 = 1
  · subst h1
    refine (implRec_of _ _ _ _ _ _ _ _ _ _ _ _ w (fun w => nearest_of x1 x2 1 x4 x5 x6 0 1000000 1 6 1 6 0 1000000 0 0 0 0 w (spansOf_1 ·))).mono (ok _ _ ?_)
    rw [near_is (x := x1) (show (0 : Int) ≤ 1000000 by decide), near_is (x := x2) (show (1 : Int) ≤ 6 by decide), near_is (x := 1) (show (1 : Int) ≤ 6 by decide), near_is (x := x4) (show (0 : Int) ≤ 1000000 by decide), near_is (x := x5) (show (0 : Int) ≤ 0 by decide), near_is (x := x6) (show (0 : Int) ≤ 0 by decide)]
    unfold RecV.ok RecV.rest tmR ndR
    dsimp only
    omega
  by_cases h2 : x3 = 2
  · subst h2
    refine (implRec_of _ _ _ _ _ _ _ _ _ _ _ _ w (fun w => nearest_of x1 x2 2 x4 x5 x6 0 1000000 1 6 1 6 0 0 0 0 0 0 w (spansOf_none · 2 (by decide) (by decide) (by decide) (by decide) (by decide)))).mono (ok _ _ ?_)
    rw [near_is (x := x1) (show (0 : Int) ≤ 1000000 by decide), near_is (x := x2) (show (1 : Int) ≤ 6 by decide), near_is (x := 2) (show (1 : Int) ≤ 6 by decide), near_is (x := x4) (show (0 : Int) ≤ 0 by decide), near_is (x := x5) (show (0 : Int) ≤ 0 by decide), near_is (x := x6) (show (0 : Int) ≤ 0 by decide)]
    unfold RecV.ok RecV.rest tmR ndR
    dsimp only
    omega
  by_cases h3 : x3 = 3
  · subst h3
    refine (implRec_of _ _ _ _ _ _ _ _ _ _ _ _ w (fun w => nearest_of x1 x2 3 x4 x5 x6 0 1000000 1 6 1 6 0 1000000 1 6 0 0 w (spansOf_3 ·))).mono (ok _ _ ?_)
    rw [near_is (x := x1) (show (0 : Int) ≤ 1000000 by decide), near_is (x := x2) (show (1 : Int) ≤ 6 by decide), near_is (x := 3) (show (1 : Int) ≤ 6 by decide), near_is (x := x4) (show (0 : Int) ≤ 1000000 by decide), near_is (x := x5) (show (1 : Int) ≤ 6 by decide), near_is (x := x6) (show (0 : Int) ≤ 0 by decide)]
    unfold RecV.ok RecV.rest tmR ndR
    dsimp only
    omega
  by_cases h4 : x3 = 4
  · subst h4
    refine (implRec_of _ _ _ _ _ _ _ _ _ _ _ _ w (fun w => nearest_of x1 x2 4 x4 x5 x6 0 1000000 1 6 1 6 0 1000000 1 6 0 0 w (spansOf_4 ·))).mono (ok _ _ ?_)
    rw [near_is (x := x1) (show (0 : Int) ≤ 1000000 by decide), near_is (x := x2) (show (1 : Int) ≤ 6 by decide), near_is (x := 4) (show (1 : Int) ≤ 6 by decide), near_is (x := x4) (show (0 : Int) ≤ 1000000 by decide), near_is (x := x5) (show (1 : Int) ≤ 6 by decide), near_is (x := x6) (show (0 : Int) ≤ 0 by decide)]
    unfold RecV.ok RecV.rest tmR ndR
    dsimp only
    omega
  by_cases h5 : x3 = 5
  · subst h5
    refine (implRec_of _ _ _ _ _ _ _ _ _ _ _ _ w (fun w => nearest_of x1 x2 5 x4 x5 x6 0 1000000 1 6 1 6 1 6 0 1000000 1 3 w (spansOf_5 ·))).mono (ok _ _ ?_)
    rw [near_is (x := x1) (show (0 : Int) ≤ 1000000 by decide), near_is (x := x2) (show (1 : Int) ≤ 6 by decide), near_is (x := 5) (show (1 : Int) ≤ 6 by decide), near_is (x := x4) (show (1 : Int) ≤ 6 by decide), near_is (x := x5) (show (0 : Int) ≤ 1000000 by decide), near_is (x := x6) (show (1 : Int) ≤ 3 by decide)]
    unfold RecV.ok RecV.rest tmR ndR
    dsimp only
    omega
  by_cases h6 : x3 = 6
  · subst h6
    refine (implRec_of _ _ _ _ _ _ _ _ _ _ _ _ w (fun w => nearest_of x1 x2 6 x4 x5 x6 0 1000000 1 6 1 6 1 6 0 0 0 0 w (spansOf_6 ·))).mono (ok _ _ ?_)
    rw [near_is (x := x1) (show (0 : Int) ≤ 1000000 by decide), near_is (x := x2) (show (1 : Int) ≤ 6 by decide), near_is (x := 6) (show (1 : Int) ≤ 6 by decide), near_is (x := x4) (show (1 : Int) ≤ 6 by decide), near_is (x := x5) (show (0 : Int) ≤ 0 by decide), near_is (x := x6) (show (0 : Int) ≤ 0 by decide)]
    unfold RecV.ok RecV.rest tmR ndR
    dsimp only
    omega
  refine (implRec_of _ _ _ _ _ _ _ _ _ _ _ _ w (fun w => nearest_of x1 x2 x3 x4 x5 x6 0 1000000 1 6 1 6 0 0 0 0 0 0 w (spansOf_none · x3 h1 h3 h4 h5 h6))).mono (ok _ _ ?_)
  rw [near_is (x := x1) (show (0 : Int) ≤ 1000000 by decide), near_is (x := x2) (show (1 : Int) ≤ 6 by decide), near_is (x := x3) (show (1 : Int) ≤ 6 by decide), near_is (x := x4) (show (0 : Int) ≤ 0 by decide), near_is (x := x5) (show (0 : Int) ≤ 0 by decide), near_is (x := x6) (show (0 : Int) ≤ 0 by decide)]
  unfold RecV.ok RecV.rest tmR ndR
  dsimp only
  omega
theorem implRec_is (d : RecV) (w : World) (r : Bool) (hr : r = true ↔ d.ok) : Calls Try.prog 8 #[d.val] w fun e w' => e = .returned (.bool r) ∧ Below w.heap.size w w' :=
  (implRec_any d w).mono fun e w' h => ⟨h.1.is hr, h.2⟩
/-- Between two numbers. -/
def btwR (n lo hi : Int) : Prop := lo ≤ n ∧ n ≤ hi
theorem specIs3_any (n lo hi : Int) (w : World) : Calls Try.prog 18 #[.int .i64 n, .int .i64 lo, .int .i64 hi] w fun e w' => Tells (btwR n lo hi) e ∧ w = w' := by
  by_cases h0 : lo ≤ n
  · by_cases h1 : n ≤ hi
    · have HR : Hid (btwR n lo hi) := ⟨h0, h1⟩
      go_enter Try.func18, Try.ntmps18
      go_wp2
      go_ret
      exact ⟨.yes HR.out, rfl⟩
    · have HR : Hid (¬ btwR n lo hi) := fun h => h1 h.2
      go_enter Try.func18, Try.ntmps18
      go_wp2
      go_ret
      exact ⟨.no HR.out, rfl⟩
  · have HR : Hid (¬ btwR n lo hi) := fun h => h0 h.1
    go_enter Try.func18, Try.ntmps18
    go_wp2
    go_ret
    exact ⟨.no HR.out, rfl⟩
theorem specNd_any (n : Int) (w : World) : Calls Try.prog 17 #[.int .i64 n] w fun e w' => Tells (ndR n) e ∧ w = w' := by
  go_enter Try.func17, Try.ntmps17
  go_wp2_with fail
  refine (specIs3_any n 1 6 _).mono ?_
  rintro e w' ⟨⟨r, rfl, hr⟩, rfl⟩
  have HR : Hid (r = true ↔ ndR n) := hr
  clear hr
  go_wp2
  go_ret
  exact ⟨⟨r, rfl, HR.out⟩, rfl⟩
theorem specTm_any (n : Int) (w : World) : Calls Try.prog 16 #[.int .i64 n] w fun e w' => Tells (tmR n) e ∧ w = w' :=
  (specTime_any n w).mono fun e w' h => h
theorem Tells.isY {p : Prop} {e : Ending} (h : Tells p e) (q : p) : e = .returned (.bool true) := h.is (by simp [q])
theorem Tells.isN {p : Prop} {e : Ending} (h : Tells p e) (q : ¬ p) : e = .returned (.bool false) := h.is (by simp [q])
theorem isTm_y (n : Int) (w : World) (h : tmR n) : Calls Try.prog 16 #[.int .i64 n] w fun e w' => e = .returned (.bool true) ∧ w = w' := (specTm_any n w).mono fun e w' k => ⟨k.1.isY h, k.2⟩
theorem isTm_n (n : Int) (w : World) (h : ¬ tmR n) : Calls Try.prog 16 #[.int .i64 n] w fun e w' => e = .returned (.bool false) ∧ w = w' := (specTm_any n w).mono fun e w' k => ⟨k.1.isN h, k.2⟩
theorem isNd_y (n : Int) (w : World) (h : ndR n) : Calls Try.prog 17 #[.int .i64 n] w fun e w' => e = .returned (.bool true) ∧ w = w' := (specNd_any n w).mono fun e w' k => ⟨k.1.isY h, k.2⟩
theorem isNd_n (n : Int) (w : World) (h : ¬ ndR n) : Calls Try.prog 17 #[.int .i64 n] w fun e w' => e = .returned (.bool false) ∧ w = w' := (specNd_any n w).mono fun e w' k => ⟨k.1.isN h, k.2⟩
theorem isBt_y (n lo hi : Int) (w : World) (h : btwR n lo hi) : Calls Try.prog 18 #[.int .i64 n, .int .i64 lo, .int .i64 hi] w fun e w' => e = .returned (.bool true) ∧ w = w' := (specIs3_any n lo hi w).mono fun e w' k => ⟨k.1.isY h, k.2⟩
theorem isBt_n (n lo hi : Int) (w : World) (h : ¬ btwR n lo hi) : Calls Try.prog 18 #[.int .i64 n, .int .i64 lo, .int .i64 hi] w fun e w' => e = .returned (.bool false) ∧ w = w' := (specIs3_any n lo hi w).mono fun e w' k => ⟨k.1.isN h, k.2⟩
theorem rest_1 (x1 x2 x4 x5 x6 : Int) : RecV.rest ⟨x1, x2, 1, x4, x5, x6⟩ ↔ tmR x4 ∧ x5 = 0 ∧ x6 = 0 := by
  simp [RecV.rest, btwR]
set_option maxHeartbeats 4000000 in
set_option maxRecDepth 100000 in
theorem specRec_1 (x1 x2 x4 x5 x6 : Int) (w : World) (ht : tmR x1) (hd : ndR x2) : Calls Try.prog 6 #[.agg #[.int .i64 x1, .int .i64 x2, .int .i64 1, .int .i64 x4, .int .i64 x5, .int .i64 x6]] w fun e w' => Tells (RecV.rest ⟨x1, x2, 1, x4, x5, x6⟩) e ∧ Below w.heap.size w w' := by
  by_cases q0 : tmR x4
  rotate_left
  · have HR : Hid (¬ RecV.rest ⟨x1, x2, 1, x4, x5, x6⟩) := fun h => q0 (by have h := (rest_1 x1 x2 x4 x5 x6).1 h; exact h.1)
    go_enter Try.func6, Try.ntmps6
    go_wp2_with (first | (go_at_call 16; (first | refine (isTm_y _ _ (by assumption)).mono ?_ | refine (isTm_n _ _ (by assumption)).mono ?_); rintro e w1 ⟨rfl, rfl⟩) | (go_at_call 17; (first | refine (isNd_y _ _ (by assumption)).mono ?_ | refine (isNd_n _ _ (by assumption)).mono ?_); rintro e w1 ⟨rfl, rfl⟩) | (go_at_call 18; (first | refine (isBt_y _ _ _ _ (by assumption)).mono ?_ | refine (isBt_n _ _ _ _ (by assumption)).mono ?_); rintro e w1 ⟨rfl, rfl⟩))
    go_ret
    exact ⟨.no HR.out, (Below.refl _ _).alloc (Nat.le_refl _) _⟩
  by_cases q1 : x5 = 0
  rotate_left
  · have HR : Hid (¬ RecV.rest ⟨x1, x2, 1, x4, x5, x6⟩) := fun h => q1 (by have h := (rest_1 x1 x2 x4 x5 x6).1 h; exact h.2.1)
    have e1 : (x5 == 0) = false := by simp [q1]
    go_enter Try.func6, Try.ntmps6
    go_wp2_with (first | (go_at_call 16; (first | refine (isTm_y _ _ (by assumption)).mono ?_ | refine (isTm_n _ _ (by assumption)).mono ?_); rintro e w1 ⟨rfl, rfl⟩) | (go_at_call 17; (first | refine (isNd_y _ _ (by assumption)).mono ?_ | refine (isNd_n _ _ (by assumption)).mono ?_); rintro e w1 ⟨rfl, rfl⟩) | (go_at_call 18; (first | refine (isBt_y _ _ _ _ (by assumption)).mono ?_ | refine (isBt_n _ _ _ _ (by assumption)).mono ?_); rintro e w1 ⟨rfl, rfl⟩))
    go_ret
    exact ⟨.no HR.out, (Below.refl _ _).alloc (Nat.le_refl _) _⟩
  by_cases q2 : x6 = 0
  rotate_left
  · have HR : Hid (¬ RecV.rest ⟨x1, x2, 1, x4, x5, x6⟩) := fun h => q2 (by have h := (rest_1 x1 x2 x4 x5 x6).1 h; exact h.2.2)
    have e2 : (x6 == 0) = false := by simp [q2]
    go_enter Try.func6, Try.ntmps6
    go_wp2_with (first | (go_at_call 16; (first | refine (isTm_y _ _ (by assumption)).mono ?_ | refine (isTm_n _ _ (by assumption)).mono ?_); rintro e w1 ⟨rfl, rfl⟩) | (go_at_call 17; (first | refine (isNd_y _ _ (by assumption)).mono ?_ | refine (isNd_n _ _ (by assumption)).mono ?_); rintro e w1 ⟨rfl, rfl⟩) | (go_at_call 18; (first | refine (isBt_y _ _ _ _ (by assumption)).mono ?_ | refine (isBt_n _ _ _ _ (by assumption)).mono ?_); rintro e w1 ⟨rfl, rfl⟩))
    go_ret
    exact ⟨.no HR.out, (Below.refl _ _).alloc (Nat.le_refl _) _⟩
  have HR : Hid (RecV.rest ⟨x1, x2, 1, x4, x5, x6⟩) := (rest_1 x1 x2 x4 x5 x6).2 ⟨q0, q1, q2⟩
  go_enter Try.func6, Try.ntmps6
  go_wp2_with (first | (go_at_call 16; (first | refine (isTm_y _ _ (by assumption)).mono ?_ | refine (isTm_n _ _ (by assumption)).mono ?_); rintro e w1 ⟨rfl, rfl⟩) | (go_at_call 17; (first | refine (isNd_y _ _ (by assumption)).mono ?_ | refine (isNd_n _ _ (by assumption)).mono ?_); rintro e w1 ⟨rfl, rfl⟩) | (go_at_call 18; (first | refine (isBt_y _ _ _ _ (by assumption)).mono ?_ | refine (isBt_n _ _ _ _ (by assumption)).mono ?_); rintro e w1 ⟨rfl, rfl⟩))
  go_ret
  exact ⟨.yes HR.out, (Below.refl _ _).alloc (Nat.le_refl _) _⟩
theorem rest_2 (x1 x2 x4 x5 x6 : Int) : RecV.rest ⟨x1, x2, 2, x4, x5, x6⟩ ↔ x4 = 0 ∧ x5 = 0 ∧ x6 = 0 := by
  simp [RecV.rest, btwR]
set_option maxHeartbeats 4000000 in
set_option maxRecDepth 100000 in
theorem specRec_2 (x1 x2 x4 x5 x6 : Int) (w : World) (ht : tmR x1) (hd : ndR x2) : Calls Try.prog 6 #[.agg #[.int .i64 x1, .int .i64 x2, .int .i64 2, .int .i64 x4, .int .i64 x5, .int .i64 x6]] w fun e w' => Tells (RecV.rest ⟨x1, x2, 2, x4, x5, x6⟩) e ∧ Below w.heap.size w w' := by
  by_cases q0 : x4 = 0
  rotate_left
  · have HR : Hid (¬ RecV.rest ⟨x1, x2, 2, x4, x5, x6⟩) := fun h => q0 (by have h := (rest_2 x1 x2 x4 x5 x6).1 h; exact h.1)
    have e0 : (x4 == 0) = false := by simp [q0]
    go_enter Try.func6, Try.ntmps6
    go_wp2_with (first | (go_at_call 16; (first | refine (isTm_y _ _ (by assumption)).mono ?_ | refine (isTm_n _ _ (by assumption)).mono ?_); rintro e w1 ⟨rfl, rfl⟩) | (go_at_call 17; (first | refine (isNd_y _ _ (by assumption)).mono ?_ | refine (isNd_n _ _ (by assumption)).mono ?_); rintro e w1 ⟨rfl, rfl⟩) | (go_at_call 18; (first | refine (isBt_y _ _ _ _ (by assumption)).mono ?_ | refine (isBt_n _ _ _ _ (by assumption)).mono ?_); rintro e w1 ⟨rfl, rfl⟩))
    go_ret
    exact ⟨.no HR.out, (Below.refl _ _).alloc (Nat.le_refl _) _⟩
  by_cases q1 : x5 = 0
  rotate_left
  · have HR : Hid (¬ RecV.rest ⟨x1, x2, 2, x4, x5, x6⟩) := fun h => q1 (by have h := (rest_2 x1 x2 x4 x5 x6).1 h; exact h.2.1)
    have e1 : (x5 == 0) = false := by simp [q1]
    go_enter Try.func6, Try.ntmps6
    go_wp2_with (first | (go_at_call 16; (first | refine (isTm_y _ _ (by assumption)).mono ?_ | refine (isTm_n _ _ (by assumption)).mono ?_); rintro e w1 ⟨rfl, rfl⟩) | (go_at_call 17; (first | refine (isNd_y _ _ (by assumption)).mono ?_ | refine (isNd_n _ _ (by assumption)).mono ?_); rintro e w1 ⟨rfl, rfl⟩) | (go_at_call 18; (first | refine (isBt_y _ _ _ _ (by assumption)).mono ?_ | refine (isBt_n _ _ _ _ (by assumption)).mono ?_); rintro e w1 ⟨rfl, rfl⟩))
    go_ret
    exact ⟨.no HR.out, (Below.refl _ _).alloc (Nat.le_refl _) _⟩
  by_cases q2 : x6 = 0
  rotate_left
  · have HR : Hid (¬ RecV.rest ⟨x1, x2, 2, x4, x5, x6⟩) := fun h => q2 (by have h := (rest_2 x1 x2 x4 x5 x6).1 h; exact h.2.2)
    have e2 : (x6 == 0) = false := by simp [q2]
    go_enter Try.func6, Try.ntmps6
    go_wp2_with (first | (go_at_call 16; (first | refine (isTm_y _ _ (by assumption)).mono ?_ | refine (isTm_n _ _ (by assumption)).mono ?_); rintro e w1 ⟨rfl, rfl⟩) | (go_at_call 17; (first | refine (isNd_y _ _ (by assumption)).mono ?_ | refine (isNd_n _ _ (by assumption)).mono ?_); rintro e w1 ⟨rfl, rfl⟩) | (go_at_call 18; (first | refine (isBt_y _ _ _ _ (by assumption)).mono ?_ | refine (isBt_n _ _ _ _ (by assumption)).mono ?_); rintro e w1 ⟨rfl, rfl⟩))
    go_ret
    exact ⟨.no HR.out, (Below.refl _ _).alloc (Nat.le_refl _) _⟩
  have HR : Hid (RecV.rest ⟨x1, x2, 2, x4, x5, x6⟩) := (rest_2 x1 x2 x4 x5 x6).2 ⟨q0, q1, q2⟩
  go_enter Try.func6, Try.ntmps6
  go_wp2_with (first | (go_at_call 16; (first | refine (isTm_y _ _ (by assumption)).mono ?_ | refine (isTm_n _ _ (by assumption)).mono ?_); rintro e w1 ⟨rfl, rfl⟩) | (go_at_call 17; (first | refine (isNd_y _ _ (by assumption)).mono ?_ | refine (isNd_n _ _ (by assumption)).mono ?_); rintro e w1 ⟨rfl, rfl⟩) | (go_at_call 18; (first | refine (isBt_y _ _ _ _ (by assumption)).mono ?_ | refine (isBt_n _ _ _ _ (by assumption)).mono ?_); rintro e w1 ⟨rfl, rfl⟩))
  go_ret
  exact ⟨.yes HR.out, (Below.refl _ _).alloc (Nat.le_refl _) _⟩
theorem rest_3 (x1 x2 x4 x5 x6 : Int) : RecV.rest ⟨x1, x2, 3, x4, x5, x6⟩ ↔ tmR x4 ∧ ndR x5 ∧ x6 = 0 := by
  simp [RecV.rest, btwR]
set_option maxHeartbeats 4000000 in
set_option maxRecDepth 100000 in
theorem specRec_3 (x1 x2 x4 x5 x6 : Int) (w : World) (ht : tmR x1) (hd : ndR x2) : Calls Try.prog 6 #[.agg #[.int .i64 x1, .int .i64 x2, .int .i64 3, .int .i64 x4, .int .i64 x5, .int .i64 x6]] w fun e w' => Tells (RecV.rest ⟨x1, x2, 3, x4, x5, x6⟩) e ∧ Below w.heap.size w w' := by
  by_cases q0 : tmR x4
  rotate_left
  · have HR : Hid (¬ RecV.rest ⟨x1, x2, 3, x4, x5, x6⟩) := fun h => q0 (by have h := (rest_3 x1 x2 x4 x5 x6).1 h; exact h.1)
    go_enter Try.func6, Try.ntmps6
    go_wp2_with (first | (go_at_call 16; (first | refine (isTm_y _ _ (by assumption)).mono ?_ | refine (isTm_n _ _ (by assumption)).mono ?_); rintro e w1 ⟨rfl, rfl⟩) | (go_at_call 17; (first | refine (isNd_y _ _ (by assumption)).mono ?_ | refine (isNd_n _ _ (by assumption)).mono ?_); rintro e w1 ⟨rfl, rfl⟩) | (go_at_call 18; (first | refine (isBt_y _ _ _ _ (by assumption)).mono ?_ | refine (isBt_n _ _ _ _ (by assumption)).mono ?_); rintro e w1 ⟨rfl, rfl⟩))
    go_ret
    exact ⟨.no HR.out, (Below.refl _ _).alloc (Nat.le_refl _) _⟩
  by_cases q1 : ndR x5
  rotate_left
  · have HR : Hid (¬ RecV.rest ⟨x1, x2, 3, x4, x5, x6⟩) := fun h => q1 (by have h := (rest_3 x1 x2 x4 x5 x6).1 h; exact h.2.1)
    go_enter Try.func6, Try.ntmps6
    go_wp2_with (first | (go_at_call 16; (first | refine (isTm_y _ _ (by assumption)).mono ?_ | refine (isTm_n _ _ (by assumption)).mono ?_); rintro e w1 ⟨rfl, rfl⟩) | (go_at_call 17; (first | refine (isNd_y _ _ (by assumption)).mono ?_ | refine (isNd_n _ _ (by assumption)).mono ?_); rintro e w1 ⟨rfl, rfl⟩) | (go_at_call 18; (first | refine (isBt_y _ _ _ _ (by assumption)).mono ?_ | refine (isBt_n _ _ _ _ (by assumption)).mono ?_); rintro e w1 ⟨rfl, rfl⟩))
    go_ret
    exact ⟨.no HR.out, (Below.refl _ _).alloc (Nat.le_refl _) _⟩
  by_cases q2 : x6 = 0
  rotate_left
  · have HR : Hid (¬ RecV.rest ⟨x1, x2, 3, x4, x5, x6⟩) := fun h => q2 (by have h := (rest_3 x1 x2 x4 x5 x6).1 h; exact h.2.2)
    have e2 : (x6 == 0) = false := by simp [q2]
    go_enter Try.func6, Try.ntmps6
    go_wp2_with (first | (go_at_call 16; (first | refine (isTm_y _ _ (by assumption)).mono ?_ | refine (isTm_n _ _ (by assumption)).mono ?_); rintro e w1 ⟨rfl, rfl⟩) | (go_at_call 17; (first | refine (isNd_y _ _ (by assumption)).mono ?_ | refine (isNd_n _ _ (by assumption)).mono ?_); rintro e w1 ⟨rfl, rfl⟩) | (go_at_call 18; (first | refine (isBt_y _ _ _ _ (by assumption)).mono ?_ | refine (isBt_n _ _ _ _ (by assumption)).mono ?_); rintro e w1 ⟨rfl, rfl⟩))
    go_ret
    exact ⟨.no HR.out, (Below.refl _ _).alloc (Nat.le_refl _) _⟩
  have HR : Hid (RecV.rest ⟨x1, x2, 3, x4, x5, x6⟩) := (rest_3 x1 x2 x4 x5 x6).2 ⟨q0, q1, q2⟩
  go_enter Try.func6, Try.ntmps6
  go_wp2_with (first | (go_at_call 16; (first | refine (isTm_y _ _ (by assumption)).mono ?_ | refine (isTm_n _ _ (by assumption)).mono ?_); rintro e w1 ⟨rfl, rfl⟩) | (go_at_call 17; (first | refine (isNd_y _ _ (by assumption)).mono ?_ | refine (isNd_n _ _ (by assumption)).mono ?_); rintro e w1 ⟨rfl, rfl⟩) | (go_at_call 18; (first | refine (isBt_y _ _ _ _ (by assumption)).mono ?_ | refine (isBt_n _ _ _ _ (by assumption)).mono ?_); rintro e w1 ⟨rfl, rfl⟩))
  go_ret
  exact ⟨.yes HR.out, (Below.refl _ _).alloc (Nat.le_refl _) _⟩
theorem rest_4 (x1 x2 x4 x5 x6 : Int) : RecV.rest ⟨x1, x2, 4, x4, x5, x6⟩ ↔ tmR x4 ∧ ndR x5 ∧ x6 = 0 := by
  simp [RecV.rest, btwR]
set_option maxHeartbeats 4000000 in
set_option maxRecDepth 100000 in
theorem specRec_4 (x1 x2 x4 x5 x6 : Int) (w : World) (ht : tmR x1) (hd : ndR x2) : Calls Try.prog 6 #[.agg #[.int .i64 x1, .int .i64 x2, .int .i64 4, .int .i64 x4, .int .i64 x5, .int .i64 x6]] w fun e w' => Tells (RecV.rest ⟨x1, x2, 4, x4, x5, x6⟩) e ∧ Below w.heap.size w w' := by
  by_cases q0 : tmR x4
  rotate_left
  · have HR : Hid (¬ RecV.rest ⟨x1, x2, 4, x4, x5, x6⟩) := fun h => q0 (by have h := (rest_4 x1 x2 x4 x5 x6).1 h; exact h.1)
    go_enter Try.func6, Try.ntmps6
    go_wp2_with (first | (go_at_call 16; (first | refine (isTm_y _ _ (by assumption)).mono ?_ | refine (isTm_n _ _ (by assumption)).mono ?_); rintro e w1 ⟨rfl, rfl⟩) | (go_at_call 17; (first | refine (isNd_y _ _ (by assumption)).mono ?_ | refine (isNd_n _ _ (by assumption)).mono ?_); rintro e w1 ⟨rfl, rfl⟩) | (go_at_call 18; (first | refine (isBt_y _ _ _ _ (by assumption)).mono ?_ | refine (isBt_n _ _ _ _ (by assumption)).mono ?_); rintro e w1 ⟨rfl, rfl⟩))
    go_ret
    exact ⟨.no HR.out, (Below.refl _ _).alloc (Nat.le_refl _) _⟩
  by_cases q1 : ndR x5
  rotate_left
  · have HR : Hid (¬ RecV.rest ⟨x1, x2, 4, x4, x5, x6⟩) := fun h => q1 (by have h := (rest_4 x1 x2 x4 x5 x6).1 h; exact h.2.1)
    go_enter Try.func6, Try.ntmps6
    go_wp2_with (first | (go_at_call 16; (first | refine (isTm_y _ _ (by assumption)).mono ?_ | refine (isTm_n _ _ (by assumption)).mono ?_); rintro e w1 ⟨rfl, rfl⟩) | (go_at_call 17; (first | refine (isNd_y _ _ (by assumption)).mono ?_ | refine (isNd_n _ _ (by assumption)).mono ?_); rintro e w1 ⟨rfl, rfl⟩) | (go_at_call 18; (first | refine (isBt_y _ _ _ _ (by assumption)).mono ?_ | refine (isBt_n _ _ _ _ (by assumption)).mono ?_); rintro e w1 ⟨rfl, rfl⟩))
    go_ret
    exact ⟨.no HR.out, (Below.refl _ _).alloc (Nat.le_refl _) _⟩
  by_cases q2 : x6 = 0
  rotate_left
  · have HR : Hid (¬ RecV.rest ⟨x1, x2, 4, x4, x5, x6⟩) := fun h => q2 (by have h := (rest_4 x1 x2 x4 x5 x6).1 h; exact h.2.2)
    have e2 : (x6 == 0) = false := by simp [q2]
    go_enter Try.func6, Try.ntmps6
    go_wp2_with (first | (go_at_call 16; (first | refine (isTm_y _ _ (by assumption)).mono ?_ | refine (isTm_n _ _ (by assumption)).mono ?_); rintro e w1 ⟨rfl, rfl⟩) | (go_at_call 17; (first | refine (isNd_y _ _ (by assumption)).mono ?_ | refine (isNd_n _ _ (by assumption)).mono ?_); rintro e w1 ⟨rfl, rfl⟩) | (go_at_call 18; (first | refine (isBt_y _ _ _ _ (by assumption)).mono ?_ | refine (isBt_n _ _ _ _ (by assumption)).mono ?_); rintro e w1 ⟨rfl, rfl⟩))
    go_ret
    exact ⟨.no HR.out, (Below.refl _ _).alloc (Nat.le_refl _) _⟩
  have HR : Hid (RecV.rest ⟨x1, x2, 4, x4, x5, x6⟩) := (rest_4 x1 x2 x4 x5 x6).2 ⟨q0, q1, q2⟩
  go_enter Try.func6, Try.ntmps6
  go_wp2_with (first | (go_at_call 16; (first | refine (isTm_y _ _ (by assumption)).mono ?_ | refine (isTm_n _ _ (by assumption)).mono ?_); rintro e w1 ⟨rfl, rfl⟩) | (go_at_call 17; (first | refine (isNd_y _ _ (by assumption)).mono ?_ | refine (isNd_n _ _ (by assumption)).mono ?_); rintro e w1 ⟨rfl, rfl⟩) | (go_at_call 18; (first | refine (isBt_y _ _ _ _ (by assumption)).mono ?_ | refine (isBt_n _ _ _ _ (by assumption)).mono ?_); rintro e w1 ⟨rfl, rfl⟩))
  go_ret
  exact ⟨.yes HR.out, (Below.refl _ _).alloc (Nat.le_refl _) _⟩
theorem rest_5 (x1 x2 x4 x5 x6 : Int) : RecV.rest ⟨x1, x2, 5, x4, x5, x6⟩ ↔ ndR x4 ∧ tmR x5 ∧ btwR x6 1 3 := by
  simp [RecV.rest, btwR]
set_option maxHeartbeats 4000000 in
set_option maxRecDepth 100000 in
theorem specRec_5 (x1 x2 x4 x5 x6 : Int) (w : World) (ht : tmR x1) (hd : ndR x2) : Calls Try.prog 6 #[.agg #[.int .i64 x1, .int .i64 x2, .int .i64 5, .int .i64 x4, .int .i64 x5, .int .i64 x6]] w fun e w' => Tells (RecV.rest ⟨x1, x2, 5, x4, x5, x6⟩) e ∧ Below w.heap.size w w' := by
  by_cases q0 : ndR x4
  rotate_left
  · have HR : Hid (¬ RecV.rest ⟨x1, x2, 5, x4, x5, x6⟩) := fun h => q0 (by have h := (rest_5 x1 x2 x4 x5 x6).1 h; exact h.1)
    go_enter Try.func6, Try.ntmps6
    go_wp2_with (first | (go_at_call 16; (first | refine (isTm_y _ _ (by assumption)).mono ?_ | refine (isTm_n _ _ (by assumption)).mono ?_); rintro e w1 ⟨rfl, rfl⟩) | (go_at_call 17; (first | refine (isNd_y _ _ (by assumption)).mono ?_ | refine (isNd_n _ _ (by assumption)).mono ?_); rintro e w1 ⟨rfl, rfl⟩) | (go_at_call 18; (first | refine (isBt_y _ _ _ _ (by assumption)).mono ?_ | refine (isBt_n _ _ _ _ (by assumption)).mono ?_); rintro e w1 ⟨rfl, rfl⟩))
    go_ret
    exact ⟨.no HR.out, (Below.refl _ _).alloc (Nat.le_refl _) _⟩
  by_cases q1 : tmR x5
  rotate_left
  · have HR : Hid (¬ RecV.rest ⟨x1, x2, 5, x4, x5, x6⟩) := fun h => q1 (by have h := (rest_5 x1 x2 x4 x5 x6).1 h; exact h.2.1)
    go_enter Try.func6, Try.ntmps6
    go_wp2_with (first | (go_at_call 16; (first | refine (isTm_y _ _ (by assumption)).mono ?_ | refine (isTm_n _ _ (by assumption)).mono ?_); rintro e w1 ⟨rfl, rfl⟩) | (go_at_call 17; (first | refine (isNd_y _ _ (by assumption)).mono ?_ | refine (isNd_n _ _ (by assumption)).mono ?_); rintro e w1 ⟨rfl, rfl⟩) | (go_at_call 18; (first | refine (isBt_y _ _ _ _ (by assumption)).mono ?_ | refine (isBt_n _ _ _ _ (by assumption)).mono ?_); rintro e w1 ⟨rfl, rfl⟩))
    go_ret
    exact ⟨.no HR.out, (Below.refl _ _).alloc (Nat.le_refl _) _⟩
  by_cases q2 : btwR x6 1 3
  rotate_left
  · have HR : Hid (¬ RecV.rest ⟨x1, x2, 5, x4, x5, x6⟩) := fun h => q2 (by have h := (rest_5 x1 x2 x4 x5 x6).1 h; exact h.2.2)
    go_enter Try.func6, Try.ntmps6
    go_wp2_with (first | (go_at_call 16; (first | refine (isTm_y _ _ (by assumption)).mono ?_ | refine (isTm_n _ _ (by assumption)).mono ?_); rintro e w1 ⟨rfl, rfl⟩) | (go_at_call 17; (first | refine (isNd_y _ _ (by assumption)).mono ?_ | refine (isNd_n _ _ (by assumption)).mono ?_); rintro e w1 ⟨rfl, rfl⟩) | (go_at_call 18; (first | refine (isBt_y _ _ _ _ (by assumption)).mono ?_ | refine (isBt_n _ _ _ _ (by assumption)).mono ?_); rintro e w1 ⟨rfl, rfl⟩))
    go_ret
    exact ⟨.no HR.out, (Below.refl _ _).alloc (Nat.le_refl _) _⟩
  have HR : Hid (RecV.rest ⟨x1, x2, 5, x4, x5, x6⟩) := (rest_5 x1 x2 x4 x5 x6).2 ⟨q0, q1, q2⟩
  go_enter Try.func6, Try.ntmps6
  go_wp2_with (first | (go_at_call 16; (first | refine (isTm_y _ _ (by assumption)).mono ?_ | refine (isTm_n _ _ (by assumption)).mono ?_); rintro e w1 ⟨rfl, rfl⟩) | (go_at_call 17; (first | refine (isNd_y _ _ (by assumption)).mono ?_ | refine (isNd_n _ _ (by assumption)).mono ?_); rintro e w1 ⟨rfl, rfl⟩) | (go_at_call 18; (first | refine (isBt_y _ _ _ _ (by assumption)).mono ?_ | refine (isBt_n _ _ _ _ (by assumption)).mono ?_); rintro e w1 ⟨rfl, rfl⟩))
  go_ret
  exact ⟨.yes HR.out, (Below.refl _ _).alloc (Nat.le_refl _) _⟩
theorem rest_6 (x1 x2 x4 x5 x6 : Int) : RecV.rest ⟨x1, x2, 6, x4, x5, x6⟩ ↔ ndR x4 ∧ x5 = 0 ∧ x6 = 0 := by
  simp [RecV.rest, btwR]
set_option maxHeartbeats 4000000 in
set_option maxRecDepth 100000 in
theorem specRec_6 (x1 x2 x4 x5 x6 : Int) (w : World) (ht : tmR x1) (hd : ndR x2) : Calls Try.prog 6 #[.agg #[.int .i64 x1, .int .i64 x2, .int .i64 6, .int .i64 x4, .int .i64 x5, .int .i64 x6]] w fun e w' => Tells (RecV.rest ⟨x1, x2, 6, x4, x5, x6⟩) e ∧ Below w.heap.size w w' := by
  by_cases q0 : ndR x4
  rotate_left
  · have HR : Hid (¬ RecV.rest ⟨x1, x2, 6, x4, x5, x6⟩) := fun h => q0 (by have h := (rest_6 x1 x2 x4 x5 x6).1 h; exact h.1)
    go_enter Try.func6, Try.ntmps6
    go_wp2_with (first | (go_at_call 16; (first | refine (isTm_y _ _ (by assumption)).mono ?_ | refine (isTm_n _ _ (by assumption)).mono ?_); rintro e w1 ⟨rfl, rfl⟩) | (go_at_call 17; (first | refine (isNd_y _ _ (by assumption)).mono ?_ | refine (isNd_n _ _ (by assumption)).mono ?_); rintro e w1 ⟨rfl, rfl⟩) | (go_at_call 18; (first | refine (isBt_y _ _ _ _ (by assumption)).mono ?_ | refine (isBt_n _ _ _ _ (by assumption)).mono ?_); rintro e w1 ⟨rfl, rfl⟩))
    go_ret
    exact ⟨.no HR.out, (Below.refl _ _).alloc (Nat.le_refl _) _⟩
  by_cases q1 : x5 = 0
  rotate_left
  · have HR : Hid (¬ RecV.rest ⟨x1, x2, 6, x4, x5, x6⟩) := fun h => q1 (by have h := (rest_6 x1 x2 x4 x5 x6).1 h; exact h.2.1)
    have e1 : (x5 == 0) = false := by simp [q1]
    go_enter Try.func6, Try.ntmps6
    go_wp2_with (first | (go_at_call 16; (first | refine (isTm_y _ _ (by assumption)).mono ?_ | refine (isTm_n _ _ (by assumption)).mono ?_); rintro e w1 ⟨rfl, rfl⟩) | (go_at_call 17; (first | refine (isNd_y _ _ (by assumption)).mono ?_ | refine (isNd_n _ _ (by assumption)).mono ?_); rintro e w1 ⟨rfl, rfl⟩) | (go_at_call 18; (first | refine (isBt_y _ _ _ _ (by assumption)).mono ?_ | refine (isBt_n _ _ _ _ (by assumption)).mono ?_); rintro e w1 ⟨rfl, rfl⟩))
    go_ret
    exact ⟨.no HR.out, (Below.refl _ _).alloc (Nat.le_refl _) _⟩
  by_cases q2 : x6 = 0
  rotate_left
  · have HR : Hid (¬ RecV.rest ⟨x1, x2, 6, x4, x5, x6⟩) := fun h => q2 (by have h := (rest_6 x1 x2 x4 x5 x6).1 h; exact h.2.2)
    have e2 : (x6 == 0) = false := by simp [q2]
    go_enter Try.func6, Try.ntmps6
    go_wp2_with (first | (go_at_call 16; (first | refine (isTm_y _ _ (by assumption)).mono ?_ | refine (isTm_n _ _ (by assumption)).mono ?_); rintro e w1 ⟨rfl, rfl⟩) | (go_at_call 17; (first | refine (isNd_y _ _ (by assumption)).mono ?_ | refine (isNd_n _ _ (by assumption)).mono ?_); rintro e w1 ⟨rfl, rfl⟩) | (go_at_call 18; (first | refine (isBt_y _ _ _ _ (by assumption)).mono ?_ | refine (isBt_n _ _ _ _ (by assumption)).mono ?_); rintro e w1 ⟨rfl, rfl⟩))
    go_ret
    exact ⟨.no HR.out, (Below.refl _ _).alloc (Nat.le_refl _) _⟩
  have HR : Hid (RecV.rest ⟨x1, x2, 6, x4, x5, x6⟩) := (rest_6 x1 x2 x4 x5 x6).2 ⟨q0, q1, q2⟩
  go_enter Try.func6, Try.ntmps6
  go_wp2_with (first | (go_at_call 16; (first | refine (isTm_y _ _ (by assumption)).mono ?_ | refine (isTm_n _ _ (by assumption)).mono ?_); rintro e w1 ⟨rfl, rfl⟩) | (go_at_call 17; (first | refine (isNd_y _ _ (by assumption)).mono ?_ | refine (isNd_n _ _ (by assumption)).mono ?_); rintro e w1 ⟨rfl, rfl⟩) | (go_at_call 18; (first | refine (isBt_y _ _ _ _ (by assumption)).mono ?_ | refine (isBt_n _ _ _ _ (by assumption)).mono ?_); rintro e w1 ⟨rfl, rfl⟩))
  go_ret
  exact ⟨.yes HR.out, (Below.refl _ _).alloc (Nat.le_refl _) _⟩
set_option maxHeartbeats 4000000 in
set_option maxRecDepth 100000 in
theorem specRec_none (x1 x2 x3 x4 x5 x6 : Int) (h1 : x3 ≠ 1) (h2 : x3 ≠ 2) (h3 : x3 ≠ 3) (h4 : x3 ≠ 4) (h5 : x3 ≠ 5) (h6 : x3 ≠ 6) (w : World) (ht : tmR x1) (hd : ndR x2) : Calls Try.prog 6 #[.agg #[.int .i64 x1, .int .i64 x2, .int .i64 x3, .int .i64 x4, .int .i64 x5, .int .i64 x6]] w fun e w' => Tells (RecV.rest ⟨x1, x2, x3, x4, x5, x6⟩) e ∧ Below w.heap.size w w' := by
  have HR : Hid (¬ RecV.rest ⟨x1, x2, x3, x4, x5, x6⟩) := fun h => by
    unfold RecV.rest at h
    dsimp only at h
    omega
  go_enter Try.func6, Try.ntmps6
  go_wp2_with (first | (go_at_call 16; (first | refine (isTm_y _ _ (by assumption)).mono ?_ | refine (isTm_n _ _ (by assumption)).mono ?_); rintro e w1 ⟨rfl, rfl⟩) | (go_at_call 17; (first | refine (isNd_y _ _ (by assumption)).mono ?_ | refine (isNd_n _ _ (by assumption)).mono ?_); rintro e w1 ⟨rfl, rfl⟩) | (go_at_call 18; (first | refine (isBt_y _ _ _ _ (by assumption)).mono ?_ | refine (isBt_n _ _ _ _ (by assumption)).mono ?_); rintro e w1 ⟨rfl, rfl⟩))
  go_ret
  exact ⟨.no HR.out, (Below.refl _ _).alloc (Nat.le_refl _) _⟩
set_option maxHeartbeats 4000000 in
set_option maxRecDepth 100000 in
theorem specRec_early (x1 x2 x3 x4 x5 x6 : Int) (w : World) (h : ¬ (tmR x1 ∧ ndR x2)) : Calls Try.prog 6 #[.agg #[.int .i64 x1, .int .i64 x2, .int .i64 x3, .int .i64 x4, .int .i64 x5, .int .i64 x6]] w fun e w' => e = .returned (.bool false) ∧ Below w.heap.size w w' := by
  have HT : Hid (¬ (tmR x1 ∧ ndR x2)) := h
  clear h
  go_enter Try.func6, Try.ntmps6
  go_wp2_with fail
  refine (specTm_any x1 _).mono ?_
  rintro e w1 ⟨⟨r, rfl, hr⟩, rfl⟩
  have HR : Hid (r = true ↔ tmR x1) := hr
  clear hr
  cases r with
  | false =>
    go_wp2
    go_ret
    exact ⟨rfl, (Below.refl _ _).alloc (Nat.le_refl _) _⟩
  | true =>
    go_wp2_with fail
    refine (specNd_any x2 _).mono ?_
    rintro e w1 ⟨⟨r, rfl, hr⟩, rfl⟩
    obtain rfl : r = false := by
      cases r with
      | false => rfl
      | true => exact absurd ⟨by simpa using HR.out, hr.1 rfl⟩ HT.out
    clear hr HR HT
    go_wp2
    go_ret
    exact ⟨rfl, (Below.refl _ _).alloc (Nat.le_refl _) _⟩
theorem specRec_any (d : RecV) (w : World) : Calls Try.prog 6 #[d.val] w fun e w' => Tells d.ok e ∧ Below w.heap.size w w' := by
  obtain ⟨x1, x2, x3, x4, x5, x6⟩ := d
  unfold RecV.val
  by_cases h : tmR x1 ∧ ndR x2
  · have ok : ∀ e w', (Tells (RecV.rest ⟨x1, x2, x3, x4, x5, x6⟩) e ∧ Below w.heap.size w w') → Tells (RecV.ok ⟨x1, x2, x3, x4, x5, x6⟩) e ∧ Below w.heap.size w w' := fun e w' t => ⟨t.1.iff ⟨fun q => ⟨h.1, h.2, q⟩, fun q => q.2.2⟩, t.2⟩
    by_cases h1 : x3 = 1
    · subst h1; exact (specRec_1 x1 x2 x4 x5 x6 w h.1 h.2).mono ok
    by_cases h2 : x3 = 2
    · subst h2; exact (specRec_2 x1 x2 x4 x5 x6 w h.1 h.2).mono ok
    by_cases h3 : x3 = 3
    · subst h3; exact (specRec_3 x1 x2 x4 x5 x6 w h.1 h.2).mono ok
    by_cases h4 : x3 = 4
    · subst h4; exact (specRec_4 x1 x2 x4 x5 x6 w h.1 h.2).mono ok
    by_cases h5 : x3 = 5
    · subst h5; exact (specRec_5 x1 x2 x4 x5 x6 w h.1 h.2).mono ok
    by_cases h6 : x3 = 6
    · subst h6; exact (specRec_6 x1 x2 x4 x5 x6 w h.1 h.2).mono ok
    exact (specRec_none x1 x2 x3 x4 x5 x6 h1 h2 h3 h4 h5 h6 w h.1 h.2).mono ok
  · exact (specRec_early x1 x2 x3 x4 x5 x6 w h).mono fun e w' t => ⟨by rw [t.1]; exact .no (fun q => h ⟨q.1, q.2.1⟩), t.2⟩
theorem specRec_is (d : RecV) (w : World) (r : Bool) (hr : r = true ↔ d.ok) : Calls Try.prog 6 #[d.val] w fun e w' => e = .returned (.bool r) ∧ Below w.heap.size w w' :=
  (specRec_any d w).mono fun e w' h => ⟨h.1.is hr, h.2⟩
end Go.Proofs.Ytgmdgjkmdnpmiaa
