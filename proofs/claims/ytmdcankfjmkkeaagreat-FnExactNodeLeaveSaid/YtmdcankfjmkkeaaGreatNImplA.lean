/- The contracts of the program's tests of a node, of NodeRight and WakeAt. -/
import Derived.Test.YtmdcankfjmkkeaaGreatG42
import Derived.Test.YtmdcankfjmkkeaaGreatVRightI
import Derived.Test.YtmdcankfjmkkeaaGreatVAt
import Derived.Test.YtmdcankfjmkkeaaGreatRRight
import Derived.Test.YtmdcankfjmkkeaaGreatG43
namespace Go.Proofs.YtmdcankfjmkkeaaGreat
open Go Go.RowKit
set_option linter.unusedVariables false
set_option linter.unusedSimpArgs false

theorem inode_is (n : Int) (r : Bool) (w : World) (hr : r = true ↔ nodeR n) : Calls Tryz.prog 79 #[.int .i64 n] w fun e w' => e = .returned (.bool r) ∧ w' = w := by
  refine (implNode_any n w).mono ?_
  rintro e w' ⟨rfl, h⟩
  refine ⟨ret_boolE ?_, h⟩
  unfold nodeR at hr
  cases r with
  | true => have := hr.1 rfl; simp [this.1, this.2]
  | false =>
    have : ¬ (1 ≤ n ∧ n ≤ 6) := fun h => by have := hr.2 h; cases this
    simp only [Bool.and_eq_false_iff, decide_eq_false_iff_not]
    omega
theorem itime_is (n : Int) (r : Bool) (w : World) (hr : r = true ↔ timeR n) : Calls Tryz.prog 80 #[.int .i64 n] w fun e w' => e = .returned (.bool r) ∧ w' = w := by
  refine (timeRight_any n w).mono ?_
  rintro e w' ⟨h, rfl⟩
  exact ⟨tells_is h hr, rfl⟩
theorem iseed_is (n : Int) (r : Bool) (w : World) (hr : r = true ↔ seedR n) : Calls Tryz.prog 81 #[.int .i64 n] w fun e w' => e = .returned (.bool r) ∧ w' = w := by
  have HR : Hid (r = true ↔ seedR n) := hr
  clear hr
  by_cases h0 : 0 ≤ n
  · by_cases h1 : n ≤ 2147483647
    · have ht : r = true := HR.out.2 ⟨h0, h1⟩
      subst ht
      go_enter Tryz.func81, Tryz.ntmps81
      go_wp2
      go_ret
      exact ⟨by first | rfl | exact ret_boolE (by simp [h1]), rfl⟩
    · have hf : r = false := by
        cases r with
        | false => rfl
        | true => exact absurd (HR.out.1 rfl).2 h1
      subst hf
      go_enter Tryz.func81, Tryz.ntmps81
      go_wp2
      go_ret
      exact ⟨by first | rfl | exact ret_boolE (by simp [h1]), rfl⟩
  · have hf : r = false := by
      cases r with
      | false => rfl
      | true => exact absurd (HR.out.1 rfl).1 h0
    subst hf
    go_enter Tryz.func81, Tryz.ntmps81
    go_wp2
    go_ret
    exact ⟨by first | rfl | exact ret_boolE (by simp [h0]), rfl⟩
/-- A node, and another one. -/
def otherR (x id : Int) : Prop := nodeR x ∧ x ≠ id
theorem iother_is (x id : Int) (r : Bool) (w : World) (hr : r = true ↔ otherR x id) : Calls Tryz.prog 72 #[.int .i64 x, .int .i64 id] w fun e w' => e = .returned (.bool r) ∧ w' = w := by
  have HR : Hid (r = true ↔ otherR x id) := hr
  clear hr
  obtain ⟨q, hq⟩ := tells_bool (nodeR x)
  have HQ : Hid (q = true ↔ nodeR x) := hq
  clear hq
  go_enter Tryz.func72, Tryz.ntmps72
  go_wp2_with fail
  refine (inode_is x q _ HQ.out).mono ?_
  rintro e w' ⟨rfl, hz⟩
  replace hz := hz.symm
  subst hz
  cases q with
  | false =>
    have hf : r = false := by
      cases r with
      | false => rfl
      | true => have := HQ.out.2 (HR.out.1 rfl).1; cases this
    subst hf
    go_wp2
    go_ret
    exact ⟨rfl, rfl⟩
  | true =>
  have HRR : Hid (decide (x ≠ id) = r) := by
    show _ = _
    by_cases e : x = id
    · rw [decide_eq_false (fun h => h e)]
      cases r with
      | false => rfl
      | true => exact absurd e (HR.out.1 rfl).2
    · rw [decide_eq_true e]
      exact (HR.out.2 ⟨HQ.out.1 rfl, e⟩).symm
  by_cases e : x = id
  · have hf : r = false := by rw [← HRR.out]; simp [e]
    subst hf
    clear HRR HR
    subst e
    go_wp2
    go_ret
    exact ⟨by first | rfl | exact ret_boolE (by simp), rfl⟩
  · have ht : r = true := by rw [← HRR.out]; simp [e]
    subst ht
    clear HRR HR
    have eb : (x == id) = false := beq_eq_false_iff_ne.2 e
    go_wp2
    go_ret
    exact ⟨by first | rfl | exact ret_boolE (by simp [e]), rfl⟩
/-- Doubts that rise are no more than six. -/
theorem doubts_few {l : List FactV} {id : Int} (h : ∀ i, i < l.length → okDb l id i) : doubtsR l id := by
  refine ⟨?_, h⟩
  have low : ∀ i (hi : i < l.length), (i : Int) + 1 ≤ (l[i]).node := by
    intro i
    induction i with
    | zero => intro hi; obtain ⟨_, h1, _⟩ := h 0 hi; have := h1.1.1; omega
    | succ i ih =>
      intro hi
      obtain ⟨_, _, h2⟩ := h (i + 1) hi
      have h3 := h2 (by omega)
      simp only [Nat.add_sub_cancel] at h3
      have := ih (by omega)
      push_cast
      omega
  by_cases h6 : l.length ≤ 6
  · exact h6
  · have h7 := low 6 (by omega)
    obtain ⟨_, h1, _⟩ := h 6 (by omega)
    have := h1.1.2
    omega
set_option maxHeartbeats 4000000 in
set_option maxRecDepth 100000 in
theorem implDoubts_is (a : Option Addr) (cap : Nat) (l : List FactV) (id : Int) (w : World) (r : Bool) (hr : r = true ↔ doubtsR l id) (hl : l.length ≤ 1048576) (hrow : CellRow w a (cellsOf FactV.cells l)) :
    Calls Tryz.prog 89 #[.slice a l.length cap, .int .i64 id] w fun e w' => e = .returned (.bool r) ∧ Below w.heap.size w w' := by
  have HR : Hid (r = true ↔ doubtsR l id) := hr
  clear hr
  have HNO : Hid (¬ doubtsR l id → r = false) := fun h => by
    cases r with
    | false => rfl
    | true => exact absurd (HR.out.1 rfl) h
  go_enter Tryz.func89, Tryz.ntmps89
  go_wp2
  go_loopw [9] (fun i wr => ∃ k : Nat, k ≤ l.length ∧ i = .int .i64 k ∧ (∀ j, j < k → okDb l id j) ∧ Below w.heap.size w wr) (fun i _ => l.length - (intOf i).toNat)
  case atStart => exact ⟨0, Nat.zero_le _, rfl, fun j hj => absurd hj (by omega), Below.refl _ _⟩
  case round =>
    obtain ⟨k, hk, rfl, hok, hb⟩ := hrel
    have HK : Hid (∀ j, j < k → okDb l id j) := hok
    clear hok
    by_cases hk2 : k < l.length
    · obtain ⟨b, off, rfl⟩ := hrow.addr (by rw [cellsOf_length FactV.cells_len]; omega)
      obtain ⟨x, hlx⟩ : ∃ x, l[k] = x := ⟨_, rfl⟩
      obtain ⟨x1, x2, x3⟩ := x
      have d0 := (hrow.keep hb).fact hk2 hlx
      have hk' : (k : Int) < (l.length : Int) := by omega
      rcases k with _ | j
      · simp only [Nat.zero_mul, Nat.add_zero] at d0
        clear HK
        have bA : Below wr.heap.size wr (wr.alloc (.cells #[.int .i64 x1, .int .i64 x2, .int .i64 x3] 112)) := (Below.refl _ _).alloc (Nat.le_refl _) _
        have P := BlkIs.new wr 112 #[.int .i64 x1, .int .i64 x2, .int .i64 x3]
        have hb1 := hb.trans (bA.mono hb.size)

        obtain ⟨Z, hZ⟩ : ∃ y, wr.alloc (.cells #[.int .i64 x1, .int .i64 x2, .int .i64 x3] 112) = y := ⟨_, rfl⟩
        obtain ⟨kb, hkb⟩ : ∃ k, wr.heap.size = k := ⟨_, rfl⟩
        rw [hZ] at P hb1
        rw [hkb] at P
        have HZ : Hid (_ = Z) := hZ
        clear bA hZ
        obtain ⟨_, s0, s1, s2⟩ := d0
        dsimp only at s0 s1 s2
        go_upto_region 4 with fail
        rw [HZ.out]
        clear HZ hkb s0 s1 s2
        have f0 : Z.cell? ⟨kb, 0, none⟩ = some (.int .i64 x1) := P.cell 0
        have f1 : Z.cell? ⟨kb, 1, none⟩ = some (.int .i64 x2) := P.cell 1
        have f2 : Z.cell? ⟨kb, 2, none⟩ = some (.int .i64 x3) := P.cell 2
        obtain ⟨q1, hq1⟩ := tells_bool (otherR x1 id)
        have HQ1 : Hid (q1 = true ↔ otherR x1 id) := hq1
        clear hq1
        go_wp2_with fail
        refine (iother_is x1 id q1 _ HQ1.out).mono ?_
        rintro e X1 ⟨rfl, hz⟩
        replace hz := hz.symm
        subst hz
        cases q1 with
        | false =>
          have hf : r = false := HNO.out (fun h => by
            obtain ⟨_, h1, h2⟩ := h.2 (0) hk2
            rw [hlx] at h1
            have := HQ1.out.2 ⟨h1.1, h1.2.1⟩
            cases this)
          subst hf
          clear hlx
          go_wp2
          go_ret
          exact ⟨rfl, hb1⟩
        | true =>
        have L1 : Hid (otherR x1 id) := HQ1.out.1 rfl
        clear HQ1
        obtain ⟨q2, hq2⟩ := tells_bool (timeR x2)
        have HQ2 : Hid (q2 = true ↔ timeR x2) := hq2
        clear hq2
        go_wp2_with fail
        refine (itime_is x2 q2 _ HQ2.out).mono ?_
        rintro e X2 ⟨rfl, hz⟩
        replace hz := hz.symm
        subst hz
        cases q2 with
        | false =>
          have hf : r = false := HNO.out (fun h => by
            obtain ⟨_, h1, h2⟩ := h.2 (0) hk2
            rw [hlx] at h1
            have := HQ2.out.2 h1.2.2.1
            cases this)
          subst hf
          clear hlx
          go_wp2
          go_ret
          exact ⟨rfl, hb1⟩
        | true =>
        have L2 : Hid (timeR x2) := HQ2.out.1 rfl
        clear HQ2
        obtain ⟨q3, hq3⟩ := tells_bool (timeR x3)
        have HQ3 : Hid (q3 = true ↔ timeR x3) := hq3
        clear hq3
        go_wp2_with fail
        refine (itime_is x3 q3 _ HQ3.out).mono ?_
        rintro e X3 ⟨rfl, hz⟩
        replace hz := hz.symm
        subst hz
        cases q3 with
        | false =>
          have hf : r = false := HNO.out (fun h => by
            obtain ⟨_, h1, h2⟩ := h.2 (0) hk2
            rw [hlx] at h1
            have := HQ3.out.2 h1.2.2.2
            cases this)
          subst hf
          clear hlx
          go_wp2
          go_ret
          exact ⟨rfl, hb1⟩
        | true =>
        have L3 : Hid (timeR x3) := HQ3.out.1 rfl
        clear HQ3
        have HN : Hid (∀ i, i < 0 + 1 → okDb l id i) := fun i hi => by
          obtain rfl : i = 0 := by omega
          exact ⟨hk2, by rw [hlx]; exact ⟨L1.out.1, L1.out.2, L2.out, L3.out⟩, fun h => absurd h (by omega)⟩
        clear hlx
        go_upto_region 6 with fail
        refine wp_region_held_drew (S := fun w' => Below Z.heap.size Z w') (by kernel_rfl) ?hS0 (fun hHeld => ?_)
        case hS0 => exact (Below.refl _ _).drew
        refine takeG 0 (v := .int .i64 0) rfl (by kernel_rfl) (by kernel_rfl) (by kernel_rfl) (by kernel_rfl) (fun _ _ _ h => h) ?hy (by assumption) ?_
        case hy => (intro w' hSw; go_simp)
        try simp only [List.setIfInBounds_toArray, List.set_cons_zero, List.set_cons_succ]
        refine takeG 1 (v := .bool false) rfl (by kernel_rfl) (by kernel_rfl) (by kernel_rfl) (by kernel_rfl) (fun _ _ _ h => h) ?hy (by assumption) ?_
        case hy => (intro w' hSw; go_simp)
        try simp only [List.setIfInBounds_toArray, List.set_cons_zero, List.set_cons_succ]
        refine takeG 2 (v := .bool false) rfl (by kernel_rfl) (by kernel_rfl) (by kernel_rfl) (by kernel_rfl) (fun _ _ _ h => h) ?hy (by assumption) ?_
        case hy => (intro w' hSw; go_simp)
        try simp only [List.setIfInBounds_toArray, List.set_cons_zero, List.set_cons_succ]
        refine skipG 3 rfl (by kernel_rfl) (by kernel_rfl) (by kernel_rfl) (by kernel_rfl) (fun _ _ _ h => h) (by assumption) ?_
        try simp only [List.setIfInBounds_toArray, List.set_cons_zero, List.set_cons_succ]
        refine skipG 4 rfl (by kernel_rfl) (by kernel_rfl) (by kernel_rfl) (by kernel_rfl) (fun _ _ _ h => h) (by assumption) ?_
        try simp only [List.setIfInBounds_toArray, List.set_cons_zero, List.set_cons_succ]
        refine skipG 5 rfl (by kernel_rfl) (by kernel_rfl) (by kernel_rfl) (by kernel_rfl) (fun _ _ _ h => h) (by assumption) ?_
        try simp only [List.setIfInBounds_toArray, List.set_cons_zero, List.set_cons_succ]
        refine skipG 6 rfl (by kernel_rfl) (by kernel_rfl) (by kernel_rfl) (by kernel_rfl) (fun _ _ _ h => h) (by assumption) ?_
        try simp only [List.setIfInBounds_toArray, List.set_cons_zero, List.set_cons_succ]
        refine skipG 7 rfl (by kernel_rfl) (by kernel_rfl) (by kernel_rfl) (by kernel_rfl) (fun _ _ _ h => h) (by assumption) ?_
        try simp only [List.setIfInBounds_toArray, List.set_cons_zero, List.set_cons_succ]
        refine skipG 8 rfl (by kernel_rfl) (by kernel_rfl) (by kernel_rfl) (by kernel_rfl) (fun _ _ _ h => h) (by assumption) ?_
        try simp only [List.setIfInBounds_toArray, List.set_cons_zero, List.set_cons_succ]
        refine skipG 9 rfl (by kernel_rfl) (by kernel_rfl) (by kernel_rfl) (by kernel_rfl) (fun _ _ _ h => h) (by assumption) ?_
        try simp only [List.setIfInBounds_toArray, List.set_cons_zero, List.set_cons_succ]
        refine skipG 10 rfl (by kernel_rfl) (by kernel_rfl) (by kernel_rfl) (by kernel_rfl) (fun _ _ _ h => h) (by assumption) ?_
        try simp only [List.setIfInBounds_toArray, List.set_cons_zero, List.set_cons_succ]
        refine skipG 11 rfl (by kernel_rfl) (by kernel_rfl) (by kernel_rfl) (by kernel_rfl) (fun _ _ _ h => h) (by assumption) ?_
        try simp only [List.setIfInBounds_toArray, List.set_cons_zero, List.set_cons_succ]
        refine takeG 12 (v := .bool false) rfl (by kernel_rfl) (by kernel_rfl) (by kernel_rfl) (by kernel_rfl) (fun _ _ _ h => h) ?hy (by assumption) ?_
        case hy => (intro w' hSw; go_simp)
        try simp only [List.setIfInBounds_toArray, List.set_cons_zero, List.set_cons_succ]
        refine wpAnyH_done (by kernel_rfl) ?_ _
        replace hb1 := hb1.drew
        go_wp2
        go_roundw
        case rel => exact ⟨0 + 1, by omega, by go_num, HN.out, hb1⟩
        case measure => simp [intOf]; omega
      · obtain ⟨y, hly⟩ : ∃ y, l[j] = y := ⟨_, rfl⟩
        obtain ⟨y1, y2, y3⟩ := y
        have e0 := (hrow.keep hb).fact (show j < l.length by omega) hly
        have hd1 : decide (0 < (j : Int) + 1) = true := decide_eq_true (by omega)
        have hj1 : (j : Int) < (l.length : Int) := by omega
        have hj2 : ¬ (j : Int) + 1 < 0 := by omega
        have hwj : IntKind.i64.wrap (j : Int) = (j : Int) := by rw [IntKind.wrap_i64]; omega
        have bA : Below wr.heap.size wr (wr.alloc (.cells #[.int .i64 x1, .int .i64 x2, .int .i64 x3] 112)) := (Below.refl _ _).alloc (Nat.le_refl _) _
        have P := BlkIs.new wr 112 #[.int .i64 x1, .int .i64 x2, .int .i64 x3]
        have hb1 := hb.trans (bA.mono hb.size)
        replace e0 := (hrow.keep hb1).fact (show j < l.length by omega) hly
        obtain ⟨Z, hZ⟩ : ∃ y, wr.alloc (.cells #[.int .i64 x1, .int .i64 x2, .int .i64 x3] 112) = y := ⟨_, rfl⟩
        obtain ⟨kb, hkb⟩ : ∃ k, wr.heap.size = k := ⟨_, rfl⟩
        rw [hZ] at P hb1 e0
        rw [hkb] at P
        have HZ : Hid (_ = Z) := hZ
        clear bA hZ
        obtain ⟨_, s0, s1, s2⟩ := d0
        dsimp only at s0 s1 s2
        go_upto_region 4 with fail
        rw [HZ.out]
        clear HZ hkb s0 s1 s2
        have f0 : Z.cell? ⟨kb, 0, none⟩ = some (.int .i64 x1) := P.cell 0
        have f1 : Z.cell? ⟨kb, 1, none⟩ = some (.int .i64 x2) := P.cell 1
        have f2 : Z.cell? ⟨kb, 2, none⟩ = some (.int .i64 x3) := P.cell 2
        obtain ⟨q1, hq1⟩ := tells_bool (otherR x1 id)
        have HQ1 : Hid (q1 = true ↔ otherR x1 id) := hq1
        clear hq1
        go_wp2_with fail
        refine (iother_is x1 id q1 _ HQ1.out).mono ?_
        rintro e X1 ⟨rfl, hz⟩
        replace hz := hz.symm
        subst hz
        cases q1 with
        | false =>
          have hf : r = false := HNO.out (fun h => by
            obtain ⟨_, h1, h2⟩ := h.2 (j + 1) hk2
            rw [hlx] at h1
            have := HQ1.out.2 ⟨h1.1, h1.2.1⟩
            cases this)
          subst hf
          clear hlx
          go_wp2
          go_ret
          exact ⟨rfl, hb1⟩
        | true =>
        have L1 : Hid (otherR x1 id) := HQ1.out.1 rfl
        clear HQ1
        obtain ⟨q2, hq2⟩ := tells_bool (timeR x2)
        have HQ2 : Hid (q2 = true ↔ timeR x2) := hq2
        clear hq2
        go_wp2_with fail
        refine (itime_is x2 q2 _ HQ2.out).mono ?_
        rintro e X2 ⟨rfl, hz⟩
        replace hz := hz.symm
        subst hz
        cases q2 with
        | false =>
          have hf : r = false := HNO.out (fun h => by
            obtain ⟨_, h1, h2⟩ := h.2 (j + 1) hk2
            rw [hlx] at h1
            have := HQ2.out.2 h1.2.2.1
            cases this)
          subst hf
          clear hlx
          go_wp2
          go_ret
          exact ⟨rfl, hb1⟩
        | true =>
        have L2 : Hid (timeR x2) := HQ2.out.1 rfl
        clear HQ2
        obtain ⟨q3, hq3⟩ := tells_bool (timeR x3)
        have HQ3 : Hid (q3 = true ↔ timeR x3) := hq3
        clear hq3
        go_wp2_with fail
        refine (itime_is x3 q3 _ HQ3.out).mono ?_
        rintro e X3 ⟨rfl, hz⟩
        replace hz := hz.symm
        subst hz
        cases q3 with
        | false =>
          have hf : r = false := HNO.out (fun h => by
            obtain ⟨_, h1, h2⟩ := h.2 (j + 1) hk2
            rw [hlx] at h1
            have := HQ3.out.2 h1.2.2.2
            cases this)
          subst hf
          clear hlx
          go_wp2
          go_ret
          exact ⟨rfl, hb1⟩
        | true =>
        have L3 : Hid (timeR x3) := HQ3.out.1 rfl
        clear HQ3
        by_cases q5 : y1 < x1
        case neg =>
          have hf : r = false := HNO.out (fun h => by
            obtain ⟨_, h1, h2⟩ := h.2 (j + 1) hk2
            have h3 := h2 (by omega)
            rw [hlx] at h3
            simp only [Nat.add_sub_cancel] at h3
            rw [hly] at h3
            exact q5 h3)
          subst hf
          have q5b : decide (x1 ≤ y1) = true := decide_eq_true (by omega)
          clear hlx hly
          go_upto_region 6 with fail
          refine wp_region_held_drew (S := fun w' => Below Z.heap.size Z w') (by kernel_rfl) ?hS0 (fun hHeld => ?_)
          case hS0 => exact (Below.refl _ _).drew
          refine takeG 0 (v := .int .i64 ((j : Int) + 1)) rfl (by kernel_rfl) (by kernel_rfl) (by kernel_rfl) (by kernel_rfl) (fun _ _ _ h => h) ?hy (by assumption) ?_
          case hy => (intro w' hSw; go_simp)
          try simp only [List.setIfInBounds_toArray, List.set_cons_zero, List.set_cons_succ]
          refine takeG 1 (v := .bool true) rfl (by kernel_rfl) (by kernel_rfl) (by kernel_rfl) (by kernel_rfl) (fun _ _ _ h => h) ?hy (by assumption) ?_
          case hy => (intro w' hSw; go_simp)
          try simp only [List.setIfInBounds_toArray, List.set_cons_zero, List.set_cons_succ]
          refine takeG 2 (v := .bool true) rfl (by kernel_rfl) (by kernel_rfl) (by kernel_rfl) (by kernel_rfl) (fun _ _ _ h => h) ?hy (by assumption) ?_
          case hy => (intro w' hSw; go_simp)
          try simp only [List.setIfInBounds_toArray, List.set_cons_zero, List.set_cons_succ]
          refine takeG 3 (v := .slice (some ⟨b, off, none⟩) l.length cap) rfl (by kernel_rfl) (by kernel_rfl) (by kernel_rfl) (by kernel_rfl) (fun _ _ _ h => h) ?hy (by assumption) ?_
          case hy => (intro w' hSw; go_simp)
          try simp only [List.setIfInBounds_toArray, List.set_cons_zero, List.set_cons_succ]
          refine takeG 4 (v := .int .i64 ((j : Int) + 1)) rfl (by kernel_rfl) (by kernel_rfl) (by kernel_rfl) (by kernel_rfl) (fun _ _ _ h => h) ?hy (by assumption) ?_
          case hy => (intro w' hSw; go_simp)
          try simp only [List.setIfInBounds_toArray, List.set_cons_zero, List.set_cons_succ]
          refine takeG 5 (v := .int .i64 (j : Int)) rfl (by kernel_rfl) (by kernel_rfl) (by kernel_rfl) (by kernel_rfl) (fun _ _ _ h => h) ?hy (by assumption) ?_
          case hy => (intro w' hSw; go_simp)
          try simp only [List.setIfInBounds_toArray, List.set_cons_zero, List.set_cons_succ]
          refine takeG 6 (v := .pointer (some ⟨b, off + j * 3, none⟩)) rfl (by kernel_rfl) (by kernel_rfl) (by kernel_rfl) (by kernel_rfl) (fun _ _ _ h => h) ?hy (by assumption) ?_
          case hy => (intro w' hSw; go_simp)
          try simp only [List.setIfInBounds_toArray, List.set_cons_zero, List.set_cons_succ]
          refine takeG 7 (v := .pointer (some ⟨b, off + j * 3, none⟩)) rfl (by kernel_rfl) (by kernel_rfl) (by kernel_rfl) (by kernel_rfl) (fun _ _ _ h => h) ?hy (by assumption) ?_
          case hy => (intro w' hSw; go_simp)
          try simp only [List.setIfInBounds_toArray, List.set_cons_zero, List.set_cons_succ]
          refine takeG 8 (v := .int .i64 y1) rfl (by kernel_rfl) (by kernel_rfl) (by kernel_rfl) (by kernel_rfl) (fun _ _ _ h => h) ?hy (by assumption) ?_
          case hy => (intro w' hSw; obtain ⟨_, s0, s1, s2⟩ := (e0).keep hSw; dsimp only at s0 s1 s2; go_simp)
          try simp only [List.setIfInBounds_toArray, List.set_cons_zero, List.set_cons_succ]
          refine takeG 9 (v := .pointer (some ⟨kb, 0, none⟩)) rfl (by kernel_rfl) (by kernel_rfl) (by kernel_rfl) (by kernel_rfl) (fun _ _ _ h => h) ?hy (by assumption) ?_
          case hy => (intro w' hSw; go_simp)
          try simp only [List.setIfInBounds_toArray, List.set_cons_zero, List.set_cons_succ]
          refine takeG 10 (v := .int .i64 x1) rfl (by kernel_rfl) (by kernel_rfl) (by kernel_rfl) (by kernel_rfl) (fun _ _ _ h => h) ?hy (by assumption) ?_
          case hy => (intro w' hSw; have s0 := show w'.cell? ⟨kb, 0, none⟩ = some (.int .i64 x1) from (P.keep hSw).cell 0; (try dsimp only at s0); go_simp)
          try simp only [List.setIfInBounds_toArray, List.set_cons_zero, List.set_cons_succ]
          refine takeG 11 (v := .bool true) rfl (by kernel_rfl) (by kernel_rfl) (by kernel_rfl) (by kernel_rfl) (fun _ _ _ h => h) ?hy (by assumption) ?_
          case hy => (intro w' hSw; go_simp)
          try simp only [List.setIfInBounds_toArray, List.set_cons_zero, List.set_cons_succ]
          refine takeG 12 (v := .bool true) rfl (by kernel_rfl) (by kernel_rfl) (by kernel_rfl) (by kernel_rfl) (fun _ _ _ h => h) ?hy (by assumption) ?_
          case hy => (intro w' hSw; go_simp)
          try simp only [List.setIfInBounds_toArray, List.set_cons_zero, List.set_cons_succ]
          refine wpAnyH_done (by kernel_rfl) ?_ _
          replace hb1 := hb1.drew
          go_wp2
          go_ret
          exact ⟨rfl, hb1⟩
        have q5b : decide (x1 ≤ y1) = false := decide_eq_false (by omega)
        have HN : Hid (∀ i, i < j + 1 + 1 → okDb l id i) := fun i hi => by
          by_cases e : i < j + 1
          · exact HK.out i e
          · obtain rfl : i = j + 1 := by omega
            exact ⟨hk2, by rw [hlx]; exact ⟨L1.out.1, L1.out.2, L2.out, L3.out⟩, fun _ => by rw [hlx]; simp only [Nat.add_sub_cancel]; rw [hly]; exact q5⟩
        clear hlx hly
        go_upto_region 6 with fail
        refine wp_region_held_drew (S := fun w' => Below Z.heap.size Z w') (by kernel_rfl) ?hS0 (fun hHeld => ?_)
        case hS0 => exact (Below.refl _ _).drew
        refine takeG 0 (v := .int .i64 ((j : Int) + 1)) rfl (by kernel_rfl) (by kernel_rfl) (by kernel_rfl) (by kernel_rfl) (fun _ _ _ h => h) ?hy (by assumption) ?_
        case hy => (intro w' hSw; go_simp)
        try simp only [List.setIfInBounds_toArray, List.set_cons_zero, List.set_cons_succ]
        refine takeG 1 (v := .bool true) rfl (by kernel_rfl) (by kernel_rfl) (by kernel_rfl) (by kernel_rfl) (fun _ _ _ h => h) ?hy (by assumption) ?_
        case hy => (intro w' hSw; go_simp)
        try simp only [List.setIfInBounds_toArray, List.set_cons_zero, List.set_cons_succ]
        refine takeG 2 (v := .bool true) rfl (by kernel_rfl) (by kernel_rfl) (by kernel_rfl) (by kernel_rfl) (fun _ _ _ h => h) ?hy (by assumption) ?_
        case hy => (intro w' hSw; go_simp)
        try simp only [List.setIfInBounds_toArray, List.set_cons_zero, List.set_cons_succ]
        refine takeG 3 (v := .slice (some ⟨b, off, none⟩) l.length cap) rfl (by kernel_rfl) (by kernel_rfl) (by kernel_rfl) (by kernel_rfl) (fun _ _ _ h => h) ?hy (by assumption) ?_
        case hy => (intro w' hSw; go_simp)
        try simp only [List.setIfInBounds_toArray, List.set_cons_zero, List.set_cons_succ]
        refine takeG 4 (v := .int .i64 ((j : Int) + 1)) rfl (by kernel_rfl) (by kernel_rfl) (by kernel_rfl) (by kernel_rfl) (fun _ _ _ h => h) ?hy (by assumption) ?_
        case hy => (intro w' hSw; go_simp)
        try simp only [List.setIfInBounds_toArray, List.set_cons_zero, List.set_cons_succ]
        refine takeG 5 (v := .int .i64 (j : Int)) rfl (by kernel_rfl) (by kernel_rfl) (by kernel_rfl) (by kernel_rfl) (fun _ _ _ h => h) ?hy (by assumption) ?_
        case hy => (intro w' hSw; go_simp)
        try simp only [List.setIfInBounds_toArray, List.set_cons_zero, List.set_cons_succ]
        refine takeG 6 (v := .pointer (some ⟨b, off + j * 3, none⟩)) rfl (by kernel_rfl) (by kernel_rfl) (by kernel_rfl) (by kernel_rfl) (fun _ _ _ h => h) ?hy (by assumption) ?_
        case hy => (intro w' hSw; go_simp)
        try simp only [List.setIfInBounds_toArray, List.set_cons_zero, List.set_cons_succ]
        refine takeG 7 (v := .pointer (some ⟨b, off + j * 3, none⟩)) rfl (by kernel_rfl) (by kernel_rfl) (by kernel_rfl) (by kernel_rfl) (fun _ _ _ h => h) ?hy (by assumption) ?_
        case hy => (intro w' hSw; go_simp)
        try simp only [List.setIfInBounds_toArray, List.set_cons_zero, List.set_cons_succ]
        refine takeG 8 (v := .int .i64 y1) rfl (by kernel_rfl) (by kernel_rfl) (by kernel_rfl) (by kernel_rfl) (fun _ _ _ h => h) ?hy (by assumption) ?_
        case hy => (intro w' hSw; obtain ⟨_, s0, s1, s2⟩ := (e0).keep hSw; dsimp only at s0 s1 s2; go_simp)
        try simp only [List.setIfInBounds_toArray, List.set_cons_zero, List.set_cons_succ]
        refine takeG 9 (v := .pointer (some ⟨kb, 0, none⟩)) rfl (by kernel_rfl) (by kernel_rfl) (by kernel_rfl) (by kernel_rfl) (fun _ _ _ h => h) ?hy (by assumption) ?_
        case hy => (intro w' hSw; go_simp)
        try simp only [List.setIfInBounds_toArray, List.set_cons_zero, List.set_cons_succ]
        refine takeG 10 (v := .int .i64 x1) rfl (by kernel_rfl) (by kernel_rfl) (by kernel_rfl) (by kernel_rfl) (fun _ _ _ h => h) ?hy (by assumption) ?_
        case hy => (intro w' hSw; have s0 := show w'.cell? ⟨kb, 0, none⟩ = some (.int .i64 x1) from (P.keep hSw).cell 0; (try dsimp only at s0); go_simp)
        try simp only [List.setIfInBounds_toArray, List.set_cons_zero, List.set_cons_succ]
        refine takeG 11 (v := .bool false) rfl (by kernel_rfl) (by kernel_rfl) (by kernel_rfl) (by kernel_rfl) (fun _ _ _ h => h) ?hy (by assumption) ?_
        case hy => (intro w' hSw; go_simp)
        try simp only [List.setIfInBounds_toArray, List.set_cons_zero, List.set_cons_succ]
        refine takeG 12 (v := .bool false) rfl (by kernel_rfl) (by kernel_rfl) (by kernel_rfl) (by kernel_rfl) (fun _ _ _ h => h) ?hy (by assumption) ?_
        case hy => (intro w' hSw; go_simp)
        try simp only [List.setIfInBounds_toArray, List.set_cons_zero, List.set_cons_succ]
        refine wpAnyH_done (by kernel_rfl) ?_ _
        replace hb1 := hb1.drew
        go_wp2
        go_roundw
        case rel => exact ⟨j + 1 + 1, by omega, by go_num, HN.out, hb1⟩
        case measure => simp [intOf]; omega
    · obtain rfl : k = l.length := by omega
      have ht : r = true := HR.out.2 (doubts_few fun i hi => HK.out i hi)
      subst ht
      clear HK HNO HR
      go_wp2
      go_ret
      exact ⟨rfl, hb⟩
end Go.Proofs.YtmdcankfjmkkeaaGreat
