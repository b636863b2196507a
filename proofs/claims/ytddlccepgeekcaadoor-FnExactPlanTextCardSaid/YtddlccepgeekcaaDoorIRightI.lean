/- The contracts of the program's ItemRight, and of how deep loops stand. -/
import Derived.Test.YtddlccepgeekcaaDoorItBlk
import Derived.Test.YtddlccepgeekcaaDoorReg
namespace Go.Proofs.YtddlccepgeekcaaDoor
open Go Go.RowKit
set_option linter.unusedVariables false
set_option linter.unusedSimpArgs false

theorem upTo_any (n m : Int) (w : World) : Calls Tryd.prog 25 #[.int .i64 n, .int .i64 m] w fun e w' => Tells (upR n m) e ∧ w = w' := by
  by_cases h0 : 0 ≤ n
  · by_cases h1 : n ≤ m
    · have HR : Hid (upR n m) := ⟨h0, h1⟩
      go_enter Tryd.func25, Tryd.ntmps25
      go_wp2
      go_ret
      exact ⟨.yes HR.out, rfl⟩
    · have HR : Hid (¬ (upR n m)) := fun h => h1 h.2
      go_enter Tryd.func25, Tryd.ntmps25
      go_wp2
      go_ret
      exact ⟨.no HR.out, rfl⟩
  · have HR : Hid (¬ (upR n m)) := fun h => h0 h.1
    go_enter Tryd.func25, Tryd.ntmps25
    go_wp2
    go_ret
    exact ⟨.no HR.out, rfl⟩
theorem nodeRI_any (n : Int) (w : World) : Calls Tryd.prog 30 #[.int .i64 n] w fun e w' => Tells (nodR n) e ∧ w = w' := by
  by_cases h0 : 1 ≤ n
  · by_cases h1 : n ≤ 6
    · have HR : Hid (nodR n) := ⟨h0, h1⟩
      go_enter Tryd.func30, Tryd.ntmps30
      go_wp2
      go_ret
      exact ⟨.yes HR.out, rfl⟩
    · have HR : Hid (¬ (nodR n)) := fun h => h1 h.2
      go_enter Tryd.func30, Tryd.ntmps30
      go_wp2
      go_ret
      exact ⟨.no HR.out, rfl⟩
  · have HR : Hid (¬ (nodR n)) := fun h => h0 h.1
    go_enter Tryd.func30, Tryd.ntmps30
    go_wp2
    go_ret
    exact ⟨.no HR.out, rfl⟩
set_option maxHeartbeats 2000000 in
set_option maxRecDepth 100000 in
theorem aRight_any (d : ItemV) (w : World) : Calls Tryd.prog 26 #[d.val] w fun e w' => Tells d.aR e ∧ Below w.heap.size w w' := by
  obtain ⟨x1, x2, x3, x4⟩ := d
  have B0 := (Below.refl w.heap.size w).alloc (Nat.le_refl _) (.cells #[.int .i64 x1, .int .i64 x2, .int .i64 x3, .int .i64 x4] 32)
  unfold ItemV.val
  go_enter Tryd.func26, Tryd.ntmps26
  go_wp2_with (first | (go_at_call 30; refine (nodeRI_any _ _).mono ?_; rintro e w' ⟨⟨r, rfl, hr⟩, rfl⟩) | (go_at_call 25; refine (upTo_any _ _ _).mono ?_; rintro e w' ⟨⟨r, rfl, hr⟩, rfl⟩))
  all_goals
    go_ret
    refine ⟨⟨_, rfl, ?_⟩, (Below.refl _ _).alloc (Nat.le_refl _) _⟩
    clear B0
    simp only [upR, nodR, ItemV.aR, ItemV.bR, beq_iff_eq, decide_eq_true_eq, beq_eq_false_iff_ne, ne_eq, Bool.not_eq_true, reduceCtorEq, false_iff, Bool.and_eq_true, bne_iff_ne] at *
    first | omega | (rw [hr]; omega) | (trace_state; omega)
set_option maxHeartbeats 2000000 in
set_option maxRecDepth 100000 in
theorem bRight_any (d : ItemV) (w : World) : Calls Tryd.prog 27 #[d.val] w fun e w' => Tells d.bR e ∧ Below w.heap.size w w' := by
  obtain ⟨x1, x2, x3, x4⟩ := d
  have B0 := (Below.refl w.heap.size w).alloc (Nat.le_refl _) (.cells #[.int .i64 x1, .int .i64 x2, .int .i64 x3, .int .i64 x4] 32)
  unfold ItemV.val
  go_enter Tryd.func27, Tryd.ntmps27
  go_wp2_with (first | (go_at_call 25; refine (upTo_any _ _ _).mono ?_; rintro e w' ⟨⟨r, rfl, hr⟩, rfl⟩))
  all_goals
    go_ret
    refine ⟨⟨_, rfl, ?_⟩, (Below.refl _ _).alloc (Nat.le_refl _) _⟩
    clear B0
    simp only [upR, nodR, ItemV.aR, ItemV.bR, beq_iff_eq, decide_eq_true_eq, beq_eq_false_iff_ne, ne_eq, Bool.not_eq_true, reduceCtorEq, false_iff, Bool.and_eq_true, bne_iff_ne] at *
    first | omega | (rw [hr]; omega) | (trace_state; omega)
set_option maxHeartbeats 2000000 in
set_option maxRecDepth 100000 in
theorem implItem_any (d : ItemV) (w : World) : Calls Tryd.prog 20 #[d.val] w fun e w' => Tells d.ok e ∧ Below w.heap.size w w' := by
  obtain ⟨x1, x2, x3, x4⟩ := d
  have P0 := BlkIs.new w 32 #[.int .i64 x1, .int .i64 x2, .int .i64 x3, .int .i64 x4]
  have B0 := (Below.refl w.heap.size w).alloc (Nat.le_refl _) (.cells #[.int .i64 x1, .int .i64 x2, .int .i64 x3, .int .i64 x4] 32)
  unfold ItemV.val
  by_cases h9 : x1 = 9
  · subst h9
    clear P0 B0
    have HK : Hid (ItemV.ok ⟨9, x2, x3, x4⟩ ↔ x2 = 0 ∧ x3 = 0 ∧ x4 = 0) := by
      show _ ↔ _
      unfold ItemV.ok
      simp
    go_enter Tryd.func20, Tryd.ntmps20
    go_wp2
    all_goals
      go_ret
      refine ⟨⟨_, rfl, ?_⟩, (Below.refl _ _).alloc (Nat.le_refl _) _⟩
      rw [HK.out]
      simp_all
  · obtain ⟨W, hW⟩ : ∃ W, w.alloc (.cells #[.int .i64 x1, .int .i64 x2, .int .i64 x3, .int .i64 x4] 32) = W := ⟨_, rfl⟩
    rw [hW] at P0 B0
    have HO : Hid (ItemV.ok ⟨x1, x2, x3, x4⟩ ↔ upR x2 2000 ∧ ItemV.aR ⟨x1, x2, x3, x4⟩ ∧ ItemV.bR ⟨x1, x2, x3, x4⟩) := by
      show _ ↔ _
      unfold ItemV.ok upR
      dsimp only
      constructor
      · rintro (h | ⟨_, h1, h2, h3, h4⟩)
        · exact absurd h.1 h9
        · exact ⟨⟨h1, h2⟩, h3, h4⟩
      · rintro ⟨⟨h1, h2⟩, h3, h4⟩
        exact .inr ⟨h9, h1, h2, h3, h4⟩
    have c1 : W.cell? ⟨w.heap.size, 1, none⟩ = some (.int .i64 x2) := P0.cell 1
    have HW : Hid (_ = W) := hW
    clear hW
    go_enter Tryd.func20, Tryd.ntmps20
    go_upto_region 3 with fail
    rw [HW.out]
    clear HW
    go_wp2_with fail
    refine (upTo_any x2 2000 _).mono ?_
    rintro e w1 ⟨⟨r1, rfl, h1⟩, rfl⟩
    have H1 : Hid (r1 = true ↔ upR x2 2000) := h1
    clear h1 c1
    cases r1 with
    | false =>
      go_wp2
      go_ret
      exact ⟨.no (fun h => by have := H1.out.2 (HO.out.1 h).1; cases this), B0⟩
    | true =>
    have T1 : Hid (upR x2 2000) := H1.out.1 rfl
    clear H1
    have c0 : W.cell? ⟨w.heap.size, 0, none⟩ = some (.int .i64 x1) := P0.cell 0
    have c1 : W.cell? ⟨w.heap.size, 1, none⟩ = some (.int .i64 x2) := P0.cell 1
    have c2 : W.cell? ⟨w.heap.size, 2, none⟩ = some (.int .i64 x3) := P0.cell 2
    have c3 : W.cell? ⟨w.heap.size, 3, none⟩ = some (.int .i64 x4) := P0.cell 3
    go_wp2_with fail
    refine (aRight_any ⟨x1, x2, x3, x4⟩ _).mono ?_
    rintro e w2 ⟨⟨r2, rfl, h2⟩, b2⟩
    have H2 : Hid (r2 = true ↔ ItemV.aR ⟨x1, x2, x3, x4⟩) := h2
    replace P0 := P0.keep b2
    replace B0 := B0.trans (b2.mono B0.size)
    clear h2 c0 c1 c2 c3 b2
    cases r2 with
    | false =>
      go_wp2
      go_ret
      exact ⟨.no (fun h => by have := H2.out.2 (HO.out.1 h).2.1; cases this), B0⟩
    | true =>
    have T2 : Hid (ItemV.aR ⟨x1, x2, x3, x4⟩) := H2.out.1 rfl
    clear H2
    have c0 : w2.cell? ⟨w.heap.size, 0, none⟩ = some (.int .i64 x1) := P0.cell 0
    have c1 : w2.cell? ⟨w.heap.size, 1, none⟩ = some (.int .i64 x2) := P0.cell 1
    have c2 : w2.cell? ⟨w.heap.size, 2, none⟩ = some (.int .i64 x3) := P0.cell 2
    have c3 : w2.cell? ⟨w.heap.size, 3, none⟩ = some (.int .i64 x4) := P0.cell 3
    go_wp2_with fail
    refine (bRight_any ⟨x1, x2, x3, x4⟩ _).mono ?_
    rintro e w3 ⟨⟨r3, rfl, h3⟩, b3⟩
    have H3 : Hid (r3 = true ↔ ItemV.bR ⟨x1, x2, x3, x4⟩) := h3
    replace B0 := B0.trans (b3.mono B0.size)
    clear h3 c0 c1 c2 c3 b3 P0
    go_wp2
    go_ret
    exact ⟨⟨r3, rfl, by rw [HO.out, H3.out]; exact ⟨fun h => ⟨T1.out, T2.out, h⟩, fun h => h.2.2⟩⟩, B0⟩
theorem implItem_is (d : ItemV) (w : World) (r : Bool) (hr : r = true ↔ d.ok) : Calls Tryd.prog 20 #[d.val] w fun e w' => e = .returned (.bool r) ∧ Below w.heap.size w w' :=
  (implItem_any d w).mono fun e w' ⟨h, hb⟩ => ⟨h.is hr, hb⟩
set_option maxHeartbeats 2000000 in
set_option maxRecDepth 100000 in
theorem openBehind_any (d : ItemV) (n : Int) (w : World) (h0 : 0 ≤ n) (h1 : n ≤ 3) : Calls Tryd.prog 13 #[d.val, .int .i64 n] w fun e w' => e = .returned (.int .i64 (d.deep n)) ∧ Below w.heap.size w w' := by
  have hp : IntKind.i64.wrap (n + 1) = n + 1 := by rw [IntKind.wrap_i64]; omega
  have hm : IntKind.i64.wrap (n - 1) = n - 1 := by rw [IntKind.wrap_i64]; omega
  have HE : Hid (d.kind = 8 → d.deep n = n + 1) := ItemV.deep_loop
  have HF : Hid (d.kind = 9 → d.deep n = n - 1) := ItemV.deep_end
  have HG : Hid (¬ d.kind = 8 → ¬ d.kind = 9 → d.deep n = n) := ItemV.deep_same
  obtain ⟨x1, x2, x3, x4⟩ := d
  have B0 := (Below.refl w.heap.size w).alloc (Nat.le_refl _) (.cells #[.int .i64 x1, .int .i64 x2, .int .i64 x3, .int .i64 x4] 32)
  unfold ItemV.val
  by_cases h8 : x1 = 8
  · subst h8
    have HZ : Hid (ItemV.deep ⟨8, x2, x3, x4⟩ n = n + 1) := HE.out rfl
    clear HE HF HG
    go_enter Tryd.func13, Tryd.ntmps13
    go_wp2
    go_ret
    exact ⟨by rw [HZ.out]; rfl, B0⟩
  · by_cases h9 : x1 = 9
    · subst h9
      have HZ : Hid (ItemV.deep ⟨9, x2, x3, x4⟩ n = n - 1) := HF.out rfl
      clear HE HF HG
      go_enter Tryd.func13, Tryd.ntmps13
      go_wp2
      go_ret
      exact ⟨by rw [HZ.out]; rfl, B0⟩
    · have e8 : (x1 == 8) = false := beq_eq_false_iff_ne.2 h8
      have e9 : (x1 == 9) = false := beq_eq_false_iff_ne.2 h9
      have HZ : Hid (ItemV.deep ⟨x1, x2, x3, x4⟩ n = n) := HG.out h8 h9
      clear h8 h9 HE HF HG
      go_enter Tryd.func13, Tryd.ntmps13
      go_wp2
      go_ret
      exact ⟨by rw [HZ.out]; rfl, B0⟩
theorem openRight_any (n : Int) (w : World) : Calls Tryd.prog 21 #[.int .i64 n] w fun e w' => Tells (upR n 3) e ∧ w = w' := by
  by_cases h0 : 0 ≤ n
  · by_cases h1 : n ≤ 3
    · have HR : Hid (upR n 3) := ⟨h0, h1⟩
      go_enter Tryd.func21, Tryd.ntmps21
      go_wp2
      go_ret
      exact ⟨.yes HR.out, rfl⟩
    · have HR : Hid (¬ (upR n 3)) := fun h => h1 h.2
      go_enter Tryd.func21, Tryd.ntmps21
      go_wp2
      go_ret
      exact ⟨.no HR.out, rfl⟩
  · have HR : Hid (¬ (upR n 3)) := fun h => h0 h.1
    go_enter Tryd.func21, Tryd.ntmps21
    go_wp2
    go_ret
    exact ⟨.no HR.out, rfl⟩
end Go.Proofs.YtddlccepgeekcaaDoor
