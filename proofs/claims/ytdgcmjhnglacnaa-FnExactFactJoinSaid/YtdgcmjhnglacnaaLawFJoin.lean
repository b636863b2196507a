/- Proved: laws.FnExactFactJoin answers true at every two facts: FactJoin of the program and of the specification are one function. No condition. -/
import Derived.Test.YtdgcmjhnglacnaaRows
import Derived.WalkKit
import Derived.ProofKit
import Derived.OpenShut
import Derived.ShutString
import Derived.ChangeOld
import Derived.Below
import Derived.Test.YtdgcmjhnglacnaaFactArgs
import Derived.Test.YtdgcmjhnglacnaaFactJ
import Derived.Test.YtdgcmjhnglacnaaRegL
namespace Go.Proofs.Ytdgcmjhnglacnaa
open Go Go.ChangeShapes Go.WideShapes Go.ChangeAt Go.RowKit
open Go.ChangeMaps (open_string shut_string)
set_option linter.unusedVariables false

theorem two_blksL (w : World) (x y : FactV) : ∃ W, (w.alloc (.cells #[.int .i64 x.node, .int .i64 x.inc, .int .i64 x.st] 47)).alloc (.cells #[.int .i64 y.node, .int .i64 y.inc, .int .i64 y.st] 47) = W ∧ FBlk W w.heap.size x ∧ FBlk W (w.heap.size + 1) y ∧ Below w.heap.size w W := by
  refine ⟨_, rfl, (BlkIs3.newL w x).keep ((Below.refl _ _).alloc (Nat.le_refl _) _), ?_, ((Below.refl _ _).alloc (Nat.le_refl _) _).alloc (by simp) _⟩
  have := BlkIs3.newL (w.alloc (.cells #[.int .i64 x.node, .int .i64 x.inc, .int .i64 x.st] 47)) y
  rwa [World.size_alloc] at this
set_option maxHeartbeats 4000000 in
set_option maxRecDepth 100000 in
theorem FnExactFactJoin_walk (a0 a1 : FactV) (w : World) (w0 : True) (w1 : True) :
    Calls Try.prog 6 #[a0.val, a1.val] w fun e w' => e = .returned (.bool true) ∧ Below w.heap.size w w' := by
  obtain ⟨W, hW, pa, pb, B0⟩ := two_blksL w a0 a1
  obtain ⟨m, hm⟩ := joinFIs_ex a0 a1
  obtain ⟨x1, x2, x3⟩ := a0
  obtain ⟨y1, y2, y3⟩ := a1
  obtain ⟨m1, m2, m3⟩ := m
  have HM : Hid (JoinFIs ⟨x1, x2, x3⟩ ⟨y1, y2, y3⟩ ⟨m1, m2, m3⟩) := hm
  have HW : Hid (_ = W) := hW
  clear hW hm
  unfold FactV.val
  go_enter Try.func6, Try.ntmps6
  go_upto_region 1 with fail
  rw [HW.out]
  clear HW
  go_cut [5] (fun vc wc => ∃ k, vc = .pointer (some ⟨k, 0, none⟩) ∧ BlkIs wc k 24 #[.int .i64 m1, .int .i64 m2, .int .i64 m3] ∧ W.heap.size ≤ k ∧ Below W.heap.size W wc)
  case first =>
    refine wp_region_any (by kernel_rfl) ?_
    refine wpAny_box 6 (fun i => [7, 8, 9, 10, 11, 5].getD i 0) (fun k v wq => match k with | 0 => v = .agg #[.int .i64 x1, .int .i64 x2, .int .i64 x3] | 1 => v = .agg #[.int .i64 x1, .int .i64 x2, .int .i64 x3] | 2 => v = .agg #[.int .i64 y1, .int .i64 y2, .int .i64 y3] | 3 => v = .agg #[.int .i64 y1, .int .i64 y2, .int .i64 y3] | 4 => v = .agg #[.int .i64 m1, .int .i64 m2, .int .i64 m3] | 5 => ∃ k, v = .pointer (some ⟨k, 0, none⟩) ∧ BlkIs wq k 24 #[.int .i64 0, .int .i64 0, .int .i64 0] ∧ W.heap.size ≤ k | _ => True) _ W (by kernel_rfl) ?inj ?stab ?step ?last _ _ _ _ (List.range 7) (by kernel_rfl) (Nat.le_refl 7) ?un (by kernel_rfl) ?down ⟨rfl, rfl, fun _ _ => rfl⟩ (Below.refl _ _).drew ?none
    case inj => exact (show ∀ i, i < 6 → ∀ j, j < 6 → [7, 8, 9, 10, 11, 5].getD i 0 = [7, 8, 9, 10, 11, 5].getD j 0 → i = j by decide)
    case un => exact fun i hi _ => List.mem_range.2 hi
    case down =>
      intro j hj
      exfalso
      by_cases hi : j < 7
      · simp [hi] at hj
      · simp [hi] at hj
    case none =>
      intro i hi hj
      exfalso
      have hi2 : i < 7 := by omega
      simp [hi2] at hj
    case stab =>
      intro k u wa wb h hB
      match k, h with
      | 0, h => exact h
      | 1, h => exact h
      | 2, h => exact h
      | 3, h => exact h
      | 4, h => exact h
      | 5, h => exact (show ∃ k, u = _ ∧ BlkIs wb k 24 #[.int .i64 0, .int .i64 0, .int .i64 0] ∧ W.heap.size ≤ k from by obtain ⟨k, h1, h2, h3⟩ := h; exact ⟨k, h1, h2.keep hB, h3⟩)
      | _ + 6, _ => exact trivial
    case step =>
      intro i o hin ho fa fw hF hJ hpre
      obtain rfl | rfl | rfl | rfl | rfl | rfl : i = 0 ∨ i = 1 ∨ i = 2 ∨ i = 3 ∨ i = 4 ∨ i = 5 := by omega
      all_goals (obtain rfl := Option.some.inj ho)
      · have hs2 : fa.tmps[2]?.getD undef = .pointer (some ⟨w.heap.size, 0, none⟩) := by
          have := hF.2.2 2 (show ∀ i, i < 6 → [7, 8, 9, 10, 11, 5].getD i 0 ≠ 2 by decide)
          simpa using this
        obtain ⟨_, c0, c1, c2⟩ := pa.keep hJ
        dsimp only at c0 c1 c2
        exact step_val (v := .agg #[.int .i64 x1, .int .i64 x2, .int .i64 x3]) (w' := fw) (by go_simp) ⟨_, rfl, rfl, Below.refl _ _⟩
      · have hd0 : fa.tmps[7]?.getD undef = .agg #[.int .i64 x1, .int .i64 x2, .int .i64 x3] := by simpa using (hpre ⟨0, .data⟩ (by simp) rfl : fa.tmps.getD 7 undef = .agg #[.int .i64 x1, .int .i64 x2, .int .i64 x3])
        go_simp
        refine (toFact_any ⟨x1, x2, x3⟩ _).mono ?_
        rintro e w3 ⟨rfl, b3⟩
        exact ⟨_, rfl, rfl, b3⟩
      · have hs3 : fa.tmps[3]?.getD undef = .pointer (some ⟨w.heap.size + 1, 0, none⟩) := by
          have := hF.2.2 3 (show ∀ i, i < 6 → [7, 8, 9, 10, 11, 5].getD i 0 ≠ 3 by decide)
          simpa using this
        obtain ⟨_, c0, c1, c2⟩ := pb.keep hJ
        dsimp only at c0 c1 c2
        exact step_val (v := .agg #[.int .i64 y1, .int .i64 y2, .int .i64 y3]) (w' := fw) (by go_simp) ⟨_, rfl, rfl, Below.refl _ _⟩
      · have hd2 : fa.tmps[9]?.getD undef = .agg #[.int .i64 y1, .int .i64 y2, .int .i64 y3] := by simpa using (hpre ⟨2, .data⟩ (by simp) rfl : fa.tmps.getD 9 undef = .agg #[.int .i64 y1, .int .i64 y2, .int .i64 y3])
        go_simp
        refine (toFact_any ⟨y1, y2, y3⟩ _).mono ?_
        rintro e w3 ⟨rfl, b3⟩
        exact ⟨_, rfl, rfl, b3⟩
      · have hd1 : fa.tmps[8]?.getD undef = .agg #[.int .i64 x1, .int .i64 x2, .int .i64 x3] := by simpa using (hpre ⟨1, .data⟩ (by simp) rfl : fa.tmps.getD 8 undef = .agg #[.int .i64 x1, .int .i64 x2, .int .i64 x3])
        have hd3 : fa.tmps[10]?.getD undef = .agg #[.int .i64 y1, .int .i64 y2, .int .i64 y3] := by simpa using (hpre ⟨3, .data⟩ (by simp) rfl : fa.tmps.getD 10 undef = .agg #[.int .i64 y1, .int .i64 y2, .int .i64 y3])
        go_simp
        refine (specFactJoin_any ⟨x1, x2, x3⟩ ⟨y1, y2, y3⟩ ⟨m1, m2, m3⟩ HM.out _).mono ?_
        rintro e w3 ⟨rfl, b3⟩
        exact ⟨_, rfl, rfl, b3⟩
      · exact step_val (v := .pointer (some ⟨fw.heap.size, 0, none⟩)) (w' := fw.alloc (.cells #[.int .i64 0, .int .i64 0, .int .i64 0] 24)) (by go_simp) ⟨_, rfl, ⟨fw.heap.size, rfl, BlkIs.new _ _ _, hJ.size⟩, (Below.refl _ _).alloc (Nat.le_refl _) _⟩
    case last =>
      intro o ho fa fw hF hJ hφ
      obtain rfl := Option.some.inj ho
      have hd4 : fa.tmps[11]?.getD undef = .agg #[.int .i64 m1, .int .i64 m2, .int .i64 m3] := by simpa using (hφ 4 (by decide) : fa.tmps.getD 11 undef = .agg #[.int .i64 m1, .int .i64 m2, .int .i64 m3])
      obtain ⟨kb, q5, hblk, hkb⟩ := (hφ 5 (by decide) : ∃ k, fa.tmps.getD 5 undef = .pointer (some ⟨k, 0, none⟩) ∧ BlkIs fw k 24 #[.int .i64 0, .int .i64 0, .int .i64 0] ∧ W.heap.size ≤ k)
      have hd5 : fa.tmps[5]?.getD undef = .pointer (some ⟨kb, 0, none⟩) := by simpa using q5
      have g0 : fw.cell? ⟨kb, 0, none⟩ = some (.int .i64 0) := hblk.cell 0
      have z0 := hblk.fz 0
      have g1 : fw.cell? ⟨kb, 1, none⟩ = some (.int .i64 0) := hblk.cell 1
      have z1 := hblk.fz 1
      have g2 : fw.cell? ⟨kb, 2, none⟩ = some (.int .i64 0) := hblk.cell 2
      have z2 := hblk.fz 2
      have hnew : BlkIs (((fw.setCell ⟨kb, 0, none⟩ (.int .i64 m1)).setCell ⟨kb, 1, none⟩ (.int .i64 m2)).setCell ⟨kb, 2, none⟩ (.int .i64 m3)) kb 24 #[.int .i64 m1, .int .i64 m2, .int .i64 m3] := by simpa using (((hblk.put 0 (.int .i64 m1)).put 1 (.int .i64 m2)).put 2 (.int .i64 m3))
      have hbn : Below W.heap.size W (((fw.setCell ⟨kb, 0, none⟩ (.int .i64 m1)).setCell ⟨kb, 1, none⟩ (.int .i64 m2)).setCell ⟨kb, 2, none⟩ (.int .i64 m3)) := (((hJ.setCell (p := ⟨kb, 0, none⟩) hkb (.int .i64 m1)).setCell (p := ⟨kb, 1, none⟩) hkb (.int .i64 m2)).setCell (p := ⟨kb, 2, none⟩) hkb (.int .i64 m3))
      refine step_skip (w' := (((fw.setCell ⟨kb, 0, none⟩ (.int .i64 m1)).setCell ⟨kb, 1, none⟩ (.int .i64 m2)).setCell ⟨kb, 2, none⟩ (.int .i64 m3))) (by go_simp) ?_
      obtain ⟨wn, hwn⟩ : ∃ wn, (((fw.setCell ⟨kb, 0, none⟩ (.int .i64 m1)).setCell ⟨kb, 1, none⟩ (.int .i64 m2)).setCell ⟨kb, 2, none⟩ (.int .i64 m3)) = wn := ⟨_, rfl⟩
      rw [hwn] at hnew hbn ⊢
      clear hwn g0 z0 g1 z1 g2 z2 hblk
      obtain ⟨ft, fd⟩ := fa
      obtain ⟨hd, hz, hs⟩ := hF
      have e := tmps_slots ft 21 hz
      simp only [List.range, List.range.loop, List.map] at e
      have hu : ∀ s, (∀ i, i < 6 → [7, 8, 9, 10, 11, 5].getD i 0 ≠ s) → ft.getD s undef = _ := hs
      rw [hu 0 (by decide), hu 1 (by decide), hu 2 (by decide), hu 3 (by decide), hu 4 (by decide), hu 6 (by decide), hu 12 (by decide), hu 13 (by decide), hu 14 (by decide), hu 15 (by decide), hu 16 (by decide), hu 17 (by decide), hu 18 (by decide), hu 19 (by decide), hu 20 (by decide)] at e
      obtain ⟨y7, hy7⟩ : ∃ z, ft.getD 7 undef = z := ⟨_, rfl⟩
      obtain ⟨y8, hy8⟩ : ∃ z, ft.getD 8 undef = z := ⟨_, rfl⟩
      obtain ⟨y9, hy9⟩ : ∃ z, ft.getD 9 undef = z := ⟨_, rfl⟩
      obtain ⟨y10, hy10⟩ : ∃ z, ft.getD 10 undef = z := ⟨_, rfl⟩
      obtain ⟨y11, hy11⟩ : ∃ z, ft.getD 11 undef = z := ⟨_, rfl⟩
      obtain ⟨y5, hy5⟩ : ∃ z, ft.getD 5 undef = z := ⟨_, rfl⟩
      rw [hy7, hy8, hy9, hy10, hy11, hy5] at e
      have hyb : y5 = .pointer (some ⟨kb, 0, none⟩) := by rw [← hy5]; exact q5
      clear hy7 hy8 hy9 hy10 hy11 hy5 hu hs hz hφ hd5 q5 hd4
      subst e
      subst hyb
      obtain rfl : fd = [] := hd
      go_wp2_with fail
      go_meet
      case rel => exact ⟨kb, rfl, hnew, hkb, hbn⟩
  case rest =>
    obtain ⟨k5, rfl, P5, hk5, bW⟩ := hcut
    have pa1 := pa.keep bW
    have pb1 := pb.keep bW
    have B1 := B0.trans (bW.mono B0.size)
    clear pa pb B0
    have pa := pa1
    have pb := pb1
    clear pa1 pb1 bW hk5
    obtain ⟨V, rfl⟩ : ∃ V, V = wc := ⟨wc, rfl⟩
    go_upto_region 2 with fail
    go_cut [6] (fun vc wc => ∃ k, vc = .pointer (some ⟨k, 0, none⟩) ∧ BlkIs wc k 24 #[.int .i64 m1, .int .i64 m2, .int .i64 m3] ∧ V.heap.size ≤ k ∧ Below V.heap.size V wc)
    case first =>
      refine wp_region_any (by kernel_rfl) ?_
      refine wpAny_box 6 (fun i => [12, 13, 14, 15, 16, 6].getD i 0) (fun k v wq => match k with | 0 => v = .agg #[.int .i64 x1, .int .i64 x2, .int .i64 x3] | 1 => v = .agg #[.int .i64 x1, .int .i64 x2, .int .i64 x3] | 2 => v = .agg #[.int .i64 y1, .int .i64 y2, .int .i64 y3] | 3 => v = .agg #[.int .i64 y1, .int .i64 y2, .int .i64 y3] | 4 => v = .agg #[.int .i64 m1, .int .i64 m2, .int .i64 m3] | 5 => ∃ k, v = .pointer (some ⟨k, 0, none⟩) ∧ BlkIs wq k 24 #[.int .i64 0, .int .i64 0, .int .i64 0] ∧ V.heap.size ≤ k | _ => True) _ V (by kernel_rfl) ?inj ?stab ?step ?last _ _ _ _ (List.range 7) (by kernel_rfl) (Nat.le_refl 7) ?un (by kernel_rfl) ?down ⟨rfl, rfl, fun _ _ => rfl⟩ (Below.refl _ _).drew ?none
      case inj => exact (show ∀ i, i < 6 → ∀ j, j < 6 → [12, 13, 14, 15, 16, 6].getD i 0 = [12, 13, 14, 15, 16, 6].getD j 0 → i = j by decide)
      case un => exact fun i hi _ => List.mem_range.2 hi
      case down =>
        intro j hj
        exfalso
        by_cases hi : j < 7
        · simp [hi] at hj
        · simp [hi] at hj
      case none =>
        intro i hi hj
        exfalso
        have hi2 : i < 7 := by omega
        simp [hi2] at hj
      case stab =>
        intro k u wa wb h hB
        match k, h with
        | 0, h => exact h
        | 1, h => exact h
        | 2, h => exact h
        | 3, h => exact h
        | 4, h => exact h
        | 5, h => exact (show ∃ k, u = _ ∧ BlkIs wb k 24 #[.int .i64 0, .int .i64 0, .int .i64 0] ∧ V.heap.size ≤ k from by obtain ⟨k, h1, h2, h3⟩ := h; exact ⟨k, h1, h2.keep hB, h3⟩)
        | _ + 6, _ => exact trivial
      case step =>
        intro i o hin ho fa fw hF hJ hpre
        obtain rfl | rfl | rfl | rfl | rfl | rfl : i = 0 ∨ i = 1 ∨ i = 2 ∨ i = 3 ∨ i = 4 ∨ i = 5 := by omega
        all_goals (obtain rfl := Option.some.inj ho)
        · have hs2 : fa.tmps[2]?.getD undef = .pointer (some ⟨w.heap.size, 0, none⟩) := by
            have := hF.2.2 2 (show ∀ i, i < 6 → [12, 13, 14, 15, 16, 6].getD i 0 ≠ 2 by decide)
            simpa using this
          obtain ⟨_, c0, c1, c2⟩ := pa.keep hJ
          dsimp only at c0 c1 c2
          exact step_val (v := .agg #[.int .i64 x1, .int .i64 x2, .int .i64 x3]) (w' := fw) (by go_simp) ⟨_, rfl, rfl, Below.refl _ _⟩
        · have hd0 : fa.tmps[12]?.getD undef = .agg #[.int .i64 x1, .int .i64 x2, .int .i64 x3] := by simpa using (hpre ⟨0, .data⟩ (by simp) rfl : fa.tmps.getD 12 undef = .agg #[.int .i64 x1, .int .i64 x2, .int .i64 x3])
          go_simp
          refine (toFact_any ⟨x1, x2, x3⟩ _).mono ?_
          rintro e w3 ⟨rfl, b3⟩
          exact ⟨_, rfl, rfl, b3⟩
        · have hs3 : fa.tmps[3]?.getD undef = .pointer (some ⟨w.heap.size + 1, 0, none⟩) := by
            have := hF.2.2 3 (show ∀ i, i < 6 → [12, 13, 14, 15, 16, 6].getD i 0 ≠ 3 by decide)
            simpa using this
          obtain ⟨_, c0, c1, c2⟩ := pb.keep hJ
          dsimp only at c0 c1 c2
          exact step_val (v := .agg #[.int .i64 y1, .int .i64 y2, .int .i64 y3]) (w' := fw) (by go_simp) ⟨_, rfl, rfl, Below.refl _ _⟩
        · have hd2 : fa.tmps[14]?.getD undef = .agg #[.int .i64 y1, .int .i64 y2, .int .i64 y3] := by simpa using (hpre ⟨2, .data⟩ (by simp) rfl : fa.tmps.getD 14 undef = .agg #[.int .i64 y1, .int .i64 y2, .int .i64 y3])
          go_simp
          refine (toFact_any ⟨y1, y2, y3⟩ _).mono ?_
          rintro e w3 ⟨rfl, b3⟩
          exact ⟨_, rfl, rfl, b3⟩
        · have hd1 : fa.tmps[13]?.getD undef = .agg #[.int .i64 x1, .int .i64 x2, .int .i64 x3] := by simpa using (hpre ⟨1, .data⟩ (by simp) rfl : fa.tmps.getD 13 undef = .agg #[.int .i64 x1, .int .i64 x2, .int .i64 x3])
          have hd3 : fa.tmps[15]?.getD undef = .agg #[.int .i64 y1, .int .i64 y2, .int .i64 y3] := by simpa using (hpre ⟨3, .data⟩ (by simp) rfl : fa.tmps.getD 15 undef = .agg #[.int .i64 y1, .int .i64 y2, .int .i64 y3])
          go_simp
          refine (factJoin_any ⟨x1, x2, x3⟩ ⟨y1, y2, y3⟩ ⟨m1, m2, m3⟩ HM.out _).mono ?_
          rintro e w3 ⟨rfl, b3⟩
          exact ⟨_, rfl, rfl, b3⟩
        · exact step_val (v := .pointer (some ⟨fw.heap.size, 0, none⟩)) (w' := fw.alloc (.cells #[.int .i64 0, .int .i64 0, .int .i64 0] 24)) (by go_simp) ⟨_, rfl, ⟨fw.heap.size, rfl, BlkIs.new _ _ _, hJ.size⟩, (Below.refl _ _).alloc (Nat.le_refl _) _⟩
      case last =>
        intro o ho fa fw hF hJ hφ
        obtain rfl := Option.some.inj ho
        have hd4 : fa.tmps[16]?.getD undef = .agg #[.int .i64 m1, .int .i64 m2, .int .i64 m3] := by simpa using (hφ 4 (by decide) : fa.tmps.getD 16 undef = .agg #[.int .i64 m1, .int .i64 m2, .int .i64 m3])
        obtain ⟨kb, q5, hblk, hkb⟩ := (hφ 5 (by decide) : ∃ k, fa.tmps.getD 6 undef = .pointer (some ⟨k, 0, none⟩) ∧ BlkIs fw k 24 #[.int .i64 0, .int .i64 0, .int .i64 0] ∧ V.heap.size ≤ k)
        have hd5 : fa.tmps[6]?.getD undef = .pointer (some ⟨kb, 0, none⟩) := by simpa using q5
        have g0 : fw.cell? ⟨kb, 0, none⟩ = some (.int .i64 0) := hblk.cell 0
        have z0 := hblk.fz 0
        have g1 : fw.cell? ⟨kb, 1, none⟩ = some (.int .i64 0) := hblk.cell 1
        have z1 := hblk.fz 1
        have g2 : fw.cell? ⟨kb, 2, none⟩ = some (.int .i64 0) := hblk.cell 2
        have z2 := hblk.fz 2
        have hnew : BlkIs (((fw.setCell ⟨kb, 0, none⟩ (.int .i64 m1)).setCell ⟨kb, 1, none⟩ (.int .i64 m2)).setCell ⟨kb, 2, none⟩ (.int .i64 m3)) kb 24 #[.int .i64 m1, .int .i64 m2, .int .i64 m3] := by simpa using (((hblk.put 0 (.int .i64 m1)).put 1 (.int .i64 m2)).put 2 (.int .i64 m3))
        have hbn : Below V.heap.size V (((fw.setCell ⟨kb, 0, none⟩ (.int .i64 m1)).setCell ⟨kb, 1, none⟩ (.int .i64 m2)).setCell ⟨kb, 2, none⟩ (.int .i64 m3)) := (((hJ.setCell (p := ⟨kb, 0, none⟩) hkb (.int .i64 m1)).setCell (p := ⟨kb, 1, none⟩) hkb (.int .i64 m2)).setCell (p := ⟨kb, 2, none⟩) hkb (.int .i64 m3))
        refine step_skip (w' := (((fw.setCell ⟨kb, 0, none⟩ (.int .i64 m1)).setCell ⟨kb, 1, none⟩ (.int .i64 m2)).setCell ⟨kb, 2, none⟩ (.int .i64 m3))) (by go_simp) ?_
        obtain ⟨wn, hwn⟩ : ∃ wn, (((fw.setCell ⟨kb, 0, none⟩ (.int .i64 m1)).setCell ⟨kb, 1, none⟩ (.int .i64 m2)).setCell ⟨kb, 2, none⟩ (.int .i64 m3)) = wn := ⟨_, rfl⟩
        rw [hwn] at hnew hbn ⊢
        clear hwn g0 z0 g1 z1 g2 z2 hblk
        obtain ⟨ft, fd⟩ := fa
        obtain ⟨hd, hz, hs⟩ := hF
        have e := tmps_slots ft 21 hz
        simp only [List.range, List.range.loop, List.map] at e
        have hu : ∀ s, (∀ i, i < 6 → [12, 13, 14, 15, 16, 6].getD i 0 ≠ s) → ft.getD s undef = _ := hs
        rw [hu 0 (by decide), hu 1 (by decide), hu 2 (by decide), hu 3 (by decide), hu 4 (by decide), hu 5 (by decide), hu 7 (by decide), hu 8 (by decide), hu 9 (by decide), hu 10 (by decide), hu 11 (by decide), hu 17 (by decide), hu 18 (by decide), hu 19 (by decide), hu 20 (by decide)] at e
        obtain ⟨y12, hy12⟩ : ∃ z, ft.getD 12 undef = z := ⟨_, rfl⟩
        obtain ⟨y13, hy13⟩ : ∃ z, ft.getD 13 undef = z := ⟨_, rfl⟩
        obtain ⟨y14, hy14⟩ : ∃ z, ft.getD 14 undef = z := ⟨_, rfl⟩
        obtain ⟨y15, hy15⟩ : ∃ z, ft.getD 15 undef = z := ⟨_, rfl⟩
        obtain ⟨y16, hy16⟩ : ∃ z, ft.getD 16 undef = z := ⟨_, rfl⟩
        obtain ⟨y6, hy6⟩ : ∃ z, ft.getD 6 undef = z := ⟨_, rfl⟩
        rw [hy12, hy13, hy14, hy15, hy16, hy6] at e
        have hyb : y6 = .pointer (some ⟨kb, 0, none⟩) := by rw [← hy6]; exact q5
        clear hy12 hy13 hy14 hy15 hy16 hy6 hu hs hz hφ hd5 q5 hd4
        subst e
        subst hyb
        obtain rfl : fd = [] := hd
        go_wp2_with fail
        go_meet
        case rel => exact ⟨kb, rfl, hnew, hkb, hbn⟩
    case rest =>
      obtain ⟨k6, rfl, P6, hk6, bV⟩ := hcut
      have P5' := P5.keep bV
      have c0 := P5'.cell 0
      have c1 := P5'.cell 1
      have c2 := P5'.cell 2
      have d0 := P6.cell 0
      have d1 := P6.cell 1
      have d2 := P6.cell 2
      have B2 := B1.trans (bV.mono B1.size)
      clear P5 P5' P6 pa pb B1 bV
      go_wp2_with fail
      refine (eqFact_same ⟨m1, m2, m3⟩ _).mono ?_
      rintro e z4 ⟨rfl, b4⟩
      have B4 := B2.trans (b4.mono B2.size)
      clear B2 b4 HM
      go_wp2
      go_ret
      exact ⟨rfl, B4⟩

set_option maxRecDepth 100000 in
theorem FnExactFactJoin_lifted (os : Os) (started : os.Started) (H : Type) (enc : TypeId × Value → H) :
    ReturnsInHanded {} Try.checked os 6 .any (Rows.fnExactFactJoinSpec.pre6 enc Try.prog Try.f6 Rows.fnExactFactJoinRow.domain false) (Rows.fnExactFactJoinSpec.post enc Try.prog Try.f6 false true false false) := by
  refine returnsInHanded_of_change (C := Try.checked) (by kernel_rfl) started (by kernel_rfl) Try.func6
    (ChangeSpec.witness6 (enc := enc) (C := Try.checked) false ⟨#[], #[.agg #[.int .i64 0, .int .i64 0, .int .i64 0], .agg #[.int .i64 0, .int .i64 0, .int .i64 0]], []⟩ 8 (by kernel_rfl) (by kernel_rfl) (by kernel_rfl) (by kernel_rfl)) ?_
  intro W base args ds gs before hval0 hW hcnd _
  have hval : ∀ (j : Nat) t v, Try.f6.params[j]? = some t → args[j]? = some v → Value.okWide Try.prog W .any base t v := hval0
  have hW' := hW
  obtain ⟨p, q, hA0, hV, rfl, hfz, hnd⟩ := hW
  have hA : DataW.TrodAll enc Try.prog W 0 (fun _ => true) true Try.f6.params.toList args.toList ds p := hA0
  rw [Try.params6] at hA hval
  obtain ⟨v0, vs0, d0, ds0, p0, q0, hargs, rfl, rfl, h0, r0⟩ := trodAll_cons hA
  obtain ⟨v1, vs1, d1, ds1, p1, q1, rfl, rfl, rfl, h1, r1⟩ := trodAll_cons r0
  obtain ⟨rfl, rfl, rfl⟩ := trodAll_nil r1
  obtain rfl : args = #[v0, v1] := by cases args; simp_all
  obtain ⟨rfl, rfl⟩ := trodVars_none hV
  have k0 := h0
  have lt0 : ∀ x ∈ p0, x.block < W.heap.size := by obtain ⟨m, hm⟩ := k0; exact DataW.trod_lt m _ _ _ hm
  obtain ⟨a0, rfl, w0⟩ := factVal_open (hval 0 47 v0 rfl rfl) h0
  have k1 := h1
  have lt1 : ∀ x ∈ p1, x.block < W.heap.size := by obtain ⟨m, hm⟩ := k1; exact DataW.trod_lt m _ _ _ hm
  obtain ⟨a1, rfl, w1⟩ := factVal_open (hval 1 47 v1 rfl rfl) h1
  clear hA0 hval0
  refine (FnExactFactJoin_walk a0 a1 W w0 w1).mono fun e W' ⟨he, bel⟩ => ?_
  subst he
  exact ⟨_, rfl, _, _, _, [], _, [], hW', trodAll_mk1 (shut_bool Try.underlying4 _), (trodAll_cons_mk (Below.trod (show laidOutB Try.prog = true by kernel_rfl) (by kernel_rfl) (of_decide_eq_true (by kernel_rfl)) k0 bel lt0) (trodAll_cons_mk (Below.trod (show laidOutB Try.prog = true by kernel_rfl) (by kernel_rfl) (of_decide_eq_true (by kernel_rfl)) k1 bel lt1) trodAll_mk0)), rfl, bel.frame _, fun h => by cases h⟩
/-- The statement. -/
theorem FnExactFactJoin_holds : Rows.FnExactFactJoinSaid :=
  OpenClaim.holds_of_wide 6 Try.f6 rfl rfl rfl rfl rfl rfl rfl ⟨rfl, rfl, rfl, rfl, rfl⟩ rfl rfl rfl rfl rfl (by kernel_rfl) Try.func6 (by kernel_rfl)
    (of_decide_eq_true (by kernel_rfl)) (by unfold Func.isWrapper; first | (rw [if_pos (by decide +kernel)]; kernel_rfl) | (rw [if_neg (by decide +kernel)]; exact ⟨rfl, rfl⟩))
    (fun os started H enc _ => FnExactFactJoin_lifted os started H enc)
#print axioms FnExactFactJoin_holds

end Go.Proofs.Ytdgcmjhnglacnaa
