/- Proved: laws.FnExactRumorPut answers true at every list of rumors and every fact: RumorPut of the program and of the specification are one function; it writes into no argument, and its answer owns its memory. No condition. -/
import Derived.Test.YtenefjnahanfbaaRows
import Derived.WalkKit
import Derived.ProofKit
import Derived.OpenShut
import Derived.ShutString
import Derived.ChangeOld
import Derived.Below
import Derived.Test.YtenefjnahanfbaaRumArgs
import Derived.Test.YtenefjnahanfbaaRumEq
import Derived.Test.YtenefjnahanfbaaRPut
import Derived.Test.YtenefjnahanfbaaRegL
import Derived.Test.YtenefjnahanfbaaWithFact
namespace Go.Proofs.Ytenefjnahanfbaa
open Go Go.ChangeShapes Go.WideShapes Go.ChangeAt Go.RowKit
open Go.ChangeMaps (open_string shut_string)
set_option linter.unusedVariables false

theorem specRPut_fs (a : Option Addr) (cap : Nat) (l : List RumV) (f : FactV) (c : Int) (m : List RumV) (fs : List FactV) (w : World) (hP : PutRIs l f c m) (hfs : fs = []) (hl : l.length ≤ 1048576) (hrow : CellRow w a (cellsOf RumV.cells l)) :
    Calls Try.prog 12 #[.slice a l.length cap, f.val] w (ROutPost c m fs w) := by subst hfs; exact specRPut_any a cap l f c m w hP hl hrow
theorem implRPut_fs (a : Option Addr) (cap : Nat) (l : List RumV) (f : FactV) (c : Int) (m : List RumV) (fs : List FactV) (w : World) (hP : PutRIs l f c m) (hfs : fs = []) (hl : l.length ≤ 1048576) (hrow : CellRow w a (cellsOf RumV.cells l)) :
    Calls Try.prog 8 #[.slice a l.length cap, f.val] w (ROutPost c m fs w) := by subst hfs; exact implRPut_any a cap l f c m w hP hl hrow
set_option maxHeartbeats 8000000 in
set_option maxRecDepth 100000 in
theorem FnExactRumorPut_walk (a0 : Option Addr) (cap0 : Nat) (l : List RumV) (a1 : FactV) (w : World) (w0 : RumorArg w a0 cap0 l) (w1 : True) :
    Calls Try.prog 5 #[.slice a0 l.length cap0, a1.val] w fun e w' => e = .returned (.bool true) ∧ Below w.heap.size w w' := by
  have hrow0 := w0.1
  have hlm : l.length ≤ 9223372036854775807 := Nat.le_trans w0.2.1 (by unfold maxLen; omega)
  obtain ⟨c, m, hP⟩ := putR_ex l a1
  have hml : m.length ≤ 6 := putR_len hP
  obtain ⟨fs, hfs⟩ : ∃ fs : List FactV, fs = [] := ⟨_, rfl⟩
  have HFS : Hid (fs = []) := hfs
  have hfl : fs.length ≤ 6 := by rw [hfs]; simp
  have pf := BlkIs3.newL w a1
  have B := (Below.refl w.heap.size w).alloc (Nat.le_refl _) (.cells #[.int .i64 a1.node, .int .i64 a1.inc, .int .i64 a1.st] 46)
  obtain ⟨f1, f2, f3⟩ := a1
  have HP : Hid (PutRIs l ⟨f1, f2, f3⟩ c m) := hP
  have hrow := hrow0.keep B
  obtain ⟨W, hW⟩ : ∃ W, w.alloc (.cells #[.int .i64 f1, .int .i64 f2, .int .i64 f3] 46) = W := ⟨_, rfl⟩
  dsimp only at pf B hrow
  rw [hW] at pf B hrow
  have HW : Hid (_ = W) := hW
  have hWs : w.heap.size < W.heap.size := pf.lt
  clear hP w0 hW hfs
  unfold FactV.val
  go_enter Try.func5, Try.ntmps5
  go_wp2_with fail
  rw [HW.out]
  clear HW
  refine (szRums_any a0 cap0 l.length 1048576 _ (by omega) (by omega) hlm).mono ?_
  rintro e xz ⟨rfl, rfl⟩
  by_cases hsl : (1048576 : Int) < ((l.length : Nat) : Int)
  · have e1 : leftOf 1048576 l.length = -1 := if_pos hsl
    rw [e1]
    clear e1
    go_wp2
    go_ret
    exact ⟨rfl, B⟩
  obtain ⟨ql, hql⟩ : ∃ q : Int, leftOf 1048576 l.length = q := ⟨_, rfl⟩
  have hq0l : ¬ ql < 0 := by rw [← hql]; unfold leftOf; rw [if_neg hsl]; omega
  rw [hql]
  have hll : l.length ≤ 1048576 := by omega
  clear hql hsl hlm
  go_upto_region 5 with fail
  go_cut [6] (fun vc wc => ∃ sa sn sc ta tn tc kx, vc = .pointer (some ⟨kx, 0, none⟩) ∧ BlkIs wc kx 30 #[.slice sa sn sc, .slice ta tn tc, .int .i64 c] ∧ W.heap.size ≤ kx ∧ wc.ownsRow W.heap.size 39 4 (.slice sa sn sc) m.length (cellsOf RumV.cells m) ∧ wc.ownsRow W.heap.size 25 3 (.slice ta tn tc) fs.length (cellsOf FactV.cells fs) ∧ Below W.heap.size W wc)
  case first =>
    refine wp_region_any (by kernel_rfl) ?_
    refine wpAny_box 6 (fun i => [18, 19, 20, 21, 22, 6].getD i 0) (fun kq v wq => match kq with | 0 => v = .slice a0 l.length cap0 | 1 => ∃ kz, v = .slice (some ⟨kz, 0, none⟩) l.length l.length ∧ CellRow wq (some ⟨kz, 0, none⟩) (cellsOf RumV.cells l) | 2 => v = .agg #[.int .i64 f1, .int .i64 f2, .int .i64 f3] | 3 => v = .agg #[.int .i64 f1, .int .i64 f2, .int .i64 f3] | 4 => ∃ sa sn sc ta tn tc, v = .agg #[.slice sa sn sc, .slice ta tn tc, .int .i64 c] ∧ wq.ownsRow W.heap.size 39 4 (.slice sa sn sc) m.length (cellsOf RumV.cells m) ∧ wq.ownsRow W.heap.size 25 3 (.slice ta tn tc) fs.length (cellsOf FactV.cells fs) | 5 => ∃ kx, v = .pointer (some ⟨kx, 0, none⟩) ∧ BlkIs wq kx 30 #[.slice none 0 0, .slice none 0 0, .int .i64 0] ∧ W.heap.size ≤ kx | _ => True) _ W (by kernel_rfl) ?inj ?stab ?step ?last _ _ _ _ (List.range 7) (by kernel_rfl) (Nat.le_refl 7) ?un (by kernel_rfl) ?down ⟨rfl, rfl, fun _ _ => rfl⟩ (Below.refl _ _).drew ?none
    case inj => exact (show ∀ i, i < 6 → ∀ j, j < 6 → [18, 19, 20, 21, 22, 6].getD i 0 = [18, 19, 20, 21, 22, 6].getD j 0 → i = j by decide)
    case un => exact fun i hi _ => List.mem_range.2 hi
    case down =>
      intro j hj
      exfalso
      by_cases hi : j < 7
      · simp [hi] at hj
      · simp [hi] at hj
    case none =>
      intro i hi hj
      exfalso
      have hi2 : i < 7 := by omega
      simp [hi2] at hj
    case stab =>
      intro kq u wa wb h hB
      match kq, h with
      | 0, h => exact h
      | 1, h => exact (show ∃ kz, u = .slice (some ⟨kz, 0, none⟩) l.length l.length ∧ CellRow wb (some ⟨kz, 0, none⟩) (cellsOf RumV.cells l) from by obtain ⟨kz, h1, h2⟩ := h; exact ⟨kz, h1, h2.keep hB⟩)
      | 2, h => exact h
      | 3, h => exact h
      | 4, h => exact (show ∃ sa sn sc ta tn tc, u = .agg #[.slice sa sn sc, .slice ta tn tc, .int .i64 c] ∧ wb.ownsRow W.heap.size 39 4 (.slice sa sn sc) m.length (cellsOf RumV.cells m) ∧ wb.ownsRow W.heap.size 25 3 (.slice ta tn tc) fs.length (cellsOf FactV.cells fs) from by obtain ⟨sa, sn, sc, ta, tn, tc, h1, h2, h3⟩ := h; exact ⟨sa, sn, sc, ta, tn, tc, h1, rowBelow h2 hB, rowBelow h3 hB⟩)
      | 5, h => exact (show ∃ kx, u = _ ∧ BlkIs wb kx 30 #[.slice none 0 0, .slice none 0 0, .int .i64 0] ∧ W.heap.size ≤ kx from by obtain ⟨kx, h1, h2, h3⟩ := h; exact ⟨kx, h1, h2.keep hB, h3⟩)
      | _ + 6, _ => exact trivial
    case step =>
      intro i o hin ho fa fw hF hJ hpre
      obtain rfl | rfl | rfl | rfl | rfl | rfl : i = 0 ∨ i = 1 ∨ i = 2 ∨ i = 3 ∨ i = 4 ∨ i = 5 := by omega
      all_goals (obtain rfl := Option.some.inj ho)
      · have hs0 : fa.tmps[0]?.getD undef = .slice a0 l.length cap0 := by
          have := hF.2.2 0 (show ∀ i, i < 6 → [18, 19, 20, 21, 22, 6].getD i 0 ≠ 0 by decide)
          simpa using this
        exact step_val (v := .slice a0 l.length cap0) (w' := fw) (by go_simp) ⟨_, rfl, rfl, Below.refl _ _⟩
      · have hd0 : fa.tmps[18]?.getD undef = .slice a0 l.length cap0 := by simpa using (hpre ⟨0, .data⟩ (by simp) rfl : fa.tmps.getD 18 undef = .slice a0 l.length cap0)
        go_simp
        refine (toRums_any a0 cap0 l _ hll (hrow.keep hJ)).mono ?_
        rintro e w3 ⟨rfl, o3, b3⟩
        exact ⟨_, rfl, ⟨_, rfl, o3.row⟩, b3⟩
      · have hs3 : fa.tmps[3]?.getD undef = .pointer (some ⟨w.heap.size, 0, none⟩) := by
          have := hF.2.2 3 (show ∀ i, i < 6 → [18, 19, 20, 21, 22, 6].getD i 0 ≠ 3 by decide)
          simpa using this
        obtain ⟨_, c0, c1, c2⟩ := pf.keep hJ
        dsimp only at c0 c1 c2
        exact step_val (v := .agg #[.int .i64 f1, .int .i64 f2, .int .i64 f3]) (w' := fw) (by go_simp) ⟨_, rfl, rfl, Below.refl _ _⟩
      · have hd2 : fa.tmps[20]?.getD undef = .agg #[.int .i64 f1, .int .i64 f2, .int .i64 f3] := by simpa using (hpre ⟨2, .data⟩ (by simp) rfl : fa.tmps.getD 20 undef = .agg #[.int .i64 f1, .int .i64 f2, .int .i64 f3])
        go_simp
        refine (toFact_any ⟨f1, f2, f3⟩ _).mono ?_
        rintro e w3 ⟨rfl, b3⟩
        exact ⟨_, rfl, rfl, b3⟩
      · obtain ⟨kz, q1, hz⟩ := (hpre ⟨1, .data⟩ (by simp) rfl : ∃ kz, fa.tmps.getD 19 undef = .slice (some ⟨kz, 0, none⟩) l.length l.length ∧ CellRow fw (some ⟨kz, 0, none⟩) (cellsOf RumV.cells l))
        have hd1 : fa.tmps[19]?.getD undef = .slice (some ⟨kz, 0, none⟩) l.length l.length := by simpa using q1
        have hd3 : fa.tmps[21]?.getD undef = .agg #[.int .i64 f1, .int .i64 f2, .int .i64 f3] := by simpa using (hpre ⟨3, .data⟩ (by simp) rfl : fa.tmps.getD 21 undef = .agg #[.int .i64 f1, .int .i64 f2, .int .i64 f3])
        go_simp
        refine (specRPut_fs _ _ l ⟨f1, f2, f3⟩ c m fs _ HP.out HFS.out hll hz).mono ?_
        rintro e w3 ⟨v3, u3, rfl, own3, own4, b3⟩
        obtain ⟨sa, sn, sc, rfl⟩ := rowShape own3
        obtain ⟨ta, tn, tc, rfl⟩ := rowShape own4
        exact ⟨_, rfl, ⟨sa, sn, sc, ta, tn, tc, rfl, rowLe own3 hJ.size, rowLe own4 hJ.size⟩, b3⟩
      · exact step_val (v := .pointer (some ⟨fw.heap.size, 0, none⟩)) (w' := fw.alloc (.cells #[.slice none 0 0, .slice none 0 0, .int .i64 0] 30)) (by go_simp) ⟨_, rfl, ⟨fw.heap.size, rfl, BlkIs.new _ _ _, hJ.size⟩, (Below.refl _ _).alloc (Nat.le_refl _) _⟩
    case last =>
      intro o ho fa fw hF hJ hφ
      obtain rfl := Option.some.inj ho
      obtain ⟨sa, sn, sc, ta, tn, tc, q4, hrw, hrx⟩ := (hφ 4 (by decide) : ∃ sa sn sc ta tn tc, fa.tmps.getD 22 undef = .agg #[.slice sa sn sc, .slice ta tn tc, .int .i64 c] ∧ fw.ownsRow W.heap.size 39 4 (.slice sa sn sc) m.length (cellsOf RumV.cells m) ∧ fw.ownsRow W.heap.size 25 3 (.slice ta tn tc) fs.length (cellsOf FactV.cells fs))
      have hd4 : fa.tmps[22]?.getD undef = .agg #[.slice sa sn sc, .slice ta tn tc, .int .i64 c] := by simpa using q4
      obtain ⟨kbx, q5, hblk, hkb⟩ := (hφ 5 (by decide) : ∃ kx, fa.tmps.getD 6 undef = .pointer (some ⟨kx, 0, none⟩) ∧ BlkIs fw kx 30 #[.slice none 0 0, .slice none 0 0, .int .i64 0] ∧ W.heap.size ≤ kx)
      have hd5 : fa.tmps[6]?.getD undef = .pointer (some ⟨kbx, 0, none⟩) := by simpa using q5
      have g0 : fw.cell? ⟨kbx, 0, none⟩ = some (.slice none 0 0) := hblk.cell 0
      have z0 := hblk.fz 0
      have g1 : fw.cell? ⟨kbx, 1, none⟩ = some (.slice none 0 0) := hblk.cell 1
      have z1 := hblk.fz 1
      have g2 : fw.cell? ⟨kbx, 2, none⟩ = some (.int .i64 0) := hblk.cell 2
      have z2 := hblk.fz 2
      have hnew : BlkIs (((fw.setCell ⟨kbx, 0, none⟩ (.slice sa sn sc)).setCell ⟨kbx, 1, none⟩ (.slice ta tn tc)).setCell ⟨kbx, 2, none⟩ (.int .i64 c)) kbx 30 #[.slice sa sn sc, .slice ta tn tc, .int .i64 c] := by simpa using (((hblk.put 0 (.slice sa sn sc)).put 1 (.slice ta tn tc)).put 2 (.int .i64 c))
      have hbn : Below W.heap.size W (((fw.setCell ⟨kbx, 0, none⟩ (.slice sa sn sc)).setCell ⟨kbx, 1, none⟩ (.slice ta tn tc)).setCell ⟨kbx, 2, none⟩ (.int .i64 c)) := (((hJ.setCell (p := ⟨kbx, 0, none⟩) hkb (.slice sa sn sc)).setCell (p := ⟨kbx, 1, none⟩) hkb (.slice ta tn tc)).setCell (p := ⟨kbx, 2, none⟩) hkb (.int .i64 c))
      have hnr : Value.ownBlock (.slice sa sn sc) ≠ some kbx := hblk.not_row (by decide) hrw
      have hns : Value.ownBlock (.slice ta tn tc) ≠ some kbx := hblk.not_row (by decide) hrx
      have hrwn : (((fw.setCell ⟨kbx, 0, none⟩ (.slice sa sn sc)).setCell ⟨kbx, 1, none⟩ (.slice ta tn tc)).setCell ⟨kbx, 2, none⟩ (.int .i64 c)).ownsRow W.heap.size 39 4 (.slice sa sn sc) m.length (cellsOf RumV.cells m) := rowKeep hrw (keeps_three fw kbx (.slice sa sn sc) (.slice ta tn tc) (.int .i64 c)) (fun q hq e => hnr (by rw [hq, e]))
      have hrxn : (((fw.setCell ⟨kbx, 0, none⟩ (.slice sa sn sc)).setCell ⟨kbx, 1, none⟩ (.slice ta tn tc)).setCell ⟨kbx, 2, none⟩ (.int .i64 c)).ownsRow W.heap.size 25 3 (.slice ta tn tc) fs.length (cellsOf FactV.cells fs) := rowKeep hrx (keeps_three fw kbx (.slice sa sn sc) (.slice ta tn tc) (.int .i64 c)) (fun q hq e => hns (by rw [hq, e]))
      clear hrw hrx hnr hns
      refine step_skip (w' := (((fw.setCell ⟨kbx, 0, none⟩ (.slice sa sn sc)).setCell ⟨kbx, 1, none⟩ (.slice ta tn tc)).setCell ⟨kbx, 2, none⟩ (.int .i64 c))) (by go_simp) ?_
      obtain ⟨wn, hwn⟩ : ∃ wn, (((fw.setCell ⟨kbx, 0, none⟩ (.slice sa sn sc)).setCell ⟨kbx, 1, none⟩ (.slice ta tn tc)).setCell ⟨kbx, 2, none⟩ (.int .i64 c)) = wn := ⟨_, rfl⟩
      rw [hwn] at hnew hbn hrwn hrxn ⊢
      clear hwn g0 z0 g1 z1 g2 z2 hblk
      obtain ⟨ft, fd⟩ := fa
      obtain ⟨hd, hz, hs⟩ := hF
      have e := tmps_slots ft 77 hz
      simp only [List.range, List.range.loop, List.map] at e
      have hu : ∀ s, (∀ i, i < 6 → [18, 19, 20, 21, 22, 6].getD i 0 ≠ s) → ft.getD s undef = _ := hs
      rw [hu 0 (by decide), hu 1 (by decide), hu 2 (by decide), hu 3 (by decide), hu 4 (by decide), hu 5 (by decide), hu 7 (by decide), hu 8 (by decide), hu 9 (by decide), hu 10 (by decide), hu 11 (by decide), hu 12 (by decide), hu 13 (by decide), hu 14 (by decide), hu 15 (by decide), hu 16 (by decide), hu 17 (by decide), hu 23 (by decide), hu 24 (by decide), hu 25 (by decide), hu 26 (by decide), hu 27 (by decide), hu 28 (by decide), hu 29 (by decide), hu 30 (by decide), hu 31 (by decide), hu 32 (by decide), hu 33 (by decide), hu 34 (by decide), hu 35 (by decide), hu 36 (by decide), hu 37 (by decide), hu 38 (by decide), hu 39 (by decide), hu 40 (by decide), hu 41 (by decide), hu 42 (by decide), hu 43 (by decide), hu 44 (by decide), hu 45 (by decide), hu 46 (by decide), hu 47 (by decide), hu 48 (by decide), hu 49 (by decide), hu 50 (by decide), hu 51 (by decide), hu 52 (by decide), hu 53 (by decide), hu 54 (by decide), hu 55 (by decide), hu 56 (by decide), hu 57 (by decide), hu 58 (by decide), hu 59 (by decide), hu 60 (by decide), hu 61 (by decide), hu 62 (by decide), hu 63 (by decide), hu 64 (by decide), hu 65 (by decide), hu 66 (by decide), hu 67 (by decide), hu 68 (by decide), hu 69 (by decide), hu 70 (by decide), hu 71 (by decide), hu 72 (by decide), hu 73 (by decide), hu 74 (by decide), hu 75 (by decide), hu 76 (by decide)] at e
      obtain ⟨y18, hy18⟩ : ∃ z, ft.getD 18 undef = z := ⟨_, rfl⟩
      obtain ⟨y19, hy19⟩ : ∃ z, ft.getD 19 undef = z := ⟨_, rfl⟩
      obtain ⟨y20, hy20⟩ : ∃ z, ft.getD 20 undef = z := ⟨_, rfl⟩
      obtain ⟨y21, hy21⟩ : ∃ z, ft.getD 21 undef = z := ⟨_, rfl⟩
      obtain ⟨y22, hy22⟩ : ∃ z, ft.getD 22 undef = z := ⟨_, rfl⟩
      obtain ⟨y6, hy6⟩ : ∃ z, ft.getD 6 undef = z := ⟨_, rfl⟩
      rw [hy18, hy19, hy20, hy21, hy22, hy6] at e
      have hyb : y6 = .pointer (some ⟨kbx, 0, none⟩) := by rw [← hy6]; exact q5
      clear hy18 hy19 hy20 hy21 hy22 hy6 hu hs hz hφ hd5 q5 hd4
      subst e
      subst hyb
      obtain rfl : fd = [] := hd
      go_wp2_with fail
      go_meet
      case rel => exact ⟨sa, sn, sc, ta, tn, tc, kbx, rfl, hnew, hkb, hrwn, hrxn, hbn⟩
  case rest =>
    obtain ⟨p0, n0, c0, q0, k0, d0, k6, rfl, O6, hk6, own0, own0f, bX⟩ := hcut
    obtain ⟨x2, rfl⟩ : ∃ x2, x2 = wc := ⟨wc, rfl⟩
    replace pf := pf.keep bX
    replace hrow := hrow.keep bX
    replace B := B.trans (bX.mono B.size)
    clear bX
    have S0 := own_slR own0
    have T0 := own_sl own0f
    have HV0 : Hid (∀ g, Value.ownBlock (.slice p0 n0 c0) = some g → g < x2.heap.size) := fun g e => (own0.lt g e).2
    have HU0 : Hid (∀ g, Value.ownBlock (.slice q0 k0 d0) = some g → g < x2.heap.size) := fun g e => (own0f.lt g e).2
    have hn0 : n0 = m.length := by
      obtain ⟨a, cp, e, _⟩ := S0
      simp only [Value.slice.injEq] at e
      exact e.2.1
    have hk0 : k0 = fs.length := by
      obtain ⟨a, cp, e, _⟩ := T0
      simp only [Value.slice.injEq] at e
      exact e.2.1
    subst hn0
    subst hk0
    have hO6 := O6.lt
    have HS2 : Hid (W.heap.size ≤ x2.heap.size ∧ k6 < x2.heap.size) := ⟨by omega, hO6⟩
    clear own0 own0f hk6
    go_wp2_with fail
    refine (toRums_any a0 cap0 l _ hll hrow).mono ?_
    rintro e x3 ⟨rfl, ox3, b3⟩
    have hzb3 := b3.size
    replace pf := pf.keep b3
    replace hrow := hrow.keep b3
    replace O6 := O6.keep b3
    replace S0 := S0.keep b3
    replace T0 := T0.keep b3
    replace B := B.trans (b3.mono B.size)
    clear b3
    have hx3 : x2.heap.size < x3.heap.size ∨ l.length = 0 := own_ltR ox3
    have X3 : OwnSlR x3 x2.heap.size (.slice (some ⟨x2.heap.size, 0, none⟩) l.length l.length) l := ⟨_, _, rfl, ox3, .inr ⟨_, rfl⟩⟩
    have nx3 := ox3.row
    clear ox3
    have pf' := pf
    obtain ⟨_, t0, t1, t2⟩ := pf'
    dsimp only at t0 t1 t2
    go_wp2_with fail
    refine (toFact_any ⟨f1, f2, f3⟩ _).mono ?_
    rintro e x35 ⟨rfl, b35⟩
    have hzb35 := b35.size
    replace pf := pf.keep b35
    replace hrow := hrow.keep b35
    replace O6 := O6.keep b35
    replace S0 := S0.keep b35
    replace T0 := T0.keep b35
    replace X3 := X3.keep b35
    replace nx3 := nx3.keep b35
    replace B := B.trans (b35.mono B.size)
    clear b35
    clear t0 t1 t2
    unfold FactV.val
    go_wp2_with fail
    refine (implRPut_fs _ _ l ⟨f1, f2, f3⟩ c m fs _ HP.out HFS.out hll nx3).mono ?_
    rintro e x4 ⟨v1, u1, rfl, own1, own1f, b4⟩
    have hs34 := b4.size
    replace pf := pf.keep b4
    replace hrow := hrow.keep b4
    replace O6 := O6.keep b4
    replace S0 := S0.keep b4
    replace T0 := T0.keep b4
    replace X3 := X3.keep b4
    replace nx3 := nx3.keep b4
    replace B := B.trans (b4.mono B.size)
    clear b4
    have HV10 : Hid (∀ g, v1.ownBlock = some g → x35.heap.size ≤ g ∧ g < x4.heap.size) := fun g e => own1.lt g e
    have HU10 : Hid (∀ g, u1.ownBlock = some g → x35.heap.size ≤ g ∧ g < x4.heap.size) := fun g e => own1f.lt g e
    have s1 := own_slR own1
    have t1 := own_sl own1f
    have hap1 := rows_apart own1 own1f (by decide)
    obtain ⟨p1, c1, rfl, o1, z1⟩ := s1
    obtain ⟨q1, d1, rfl, o1f, z1f⟩ := t1
    have HAP1 : Hid (∀ g, Value.ownBlock (.slice q1 fs.length d1) = some g → Value.ownBlock (.slice p1 m.length c1) ≠ some g) := hap1
    have S1 : OwnSlR _ _ (.slice p1 m.length c1) m := ⟨p1, c1, rfl, o1, z1⟩
    have T1 : OwnSl _ _ (.slice q1 fs.length d1) fs := ⟨q1, d1, rfl, o1f, z1f⟩
    unfold outR
    have a1 := (Below.refl x4.heap.size x4).alloc (Nat.le_refl _) (.cells #[.slice p1 m.length c1, .slice q1 fs.length d1, .int .i64 c] 30)
    have O1 := BlkIs.new x4 30 #[.slice p1 m.length c1, .slice q1 fs.length d1, .int .i64 c]
    replace S1 := S1.keep a1
    replace T1 := T1.keep a1
    replace pf := pf.keep a1
    replace hrow := hrow.keep a1
    replace O6 := O6.keep a1
    replace S0 := S0.keep a1
    replace T0 := T0.keep a1
    replace X3 := X3.keep a1
    replace nx3 := nx3.keep a1
    replace B := B.trans (a1.mono B.size)
    have hxy1 : x4.heap.size < (x4.alloc (.cells #[.slice p1 m.length c1, .slice q1 fs.length d1, .int .i64 c] 30)).heap.size := by simp
    obtain ⟨y1, hy1⟩ : ∃ y, x4.alloc (.cells #[.slice p1 m.length c1, .slice q1 fs.length d1, .int .i64 c] 30) = y := ⟨_, rfl⟩
    rw [hy1] at S1 T1 O1 B hxy1 pf hrow O6 S0 T0 X3 nx3
    have HY1 : Hid (_ = y1) := hy1
    clear hy1 a1 o1 z1 o1f z1f own1 own1f hap1
    have HV1 : Hid (∀ g, Value.ownBlock (.slice p1 m.length c1) = some g → x35.heap.size ≤ g ∧ g < x4.heap.size) := HV10.out
    have HU1 : Hid (∀ g, Value.ownBlock (.slice q1 fs.length d1) = some g → x35.heap.size ≤ g ∧ g < x4.heap.size) := HU10.out
    clear HV10 HU10
    have g60 : _ = some (Value.slice p0 m.length c0) := O6.cell 0
    have g61 : _ = some (Value.slice q0 fs.length d0) := O6.cell 1
    have g62 : _ = some (Value.int .i64 c) := O6.cell 2
    have g80 : _ = some (Value.slice p1 m.length c1) := O1.cell 0
    have g81 : _ = some (Value.slice q1 fs.length d1) := O1.cell 1
    have g82 : _ = some (Value.int .i64 c) := O1.cell 2
    go_upto_region 8 with fail
    rw [HY1.out]
    clear HY1
    go_wp2_with fail
    refine (eqROut_same (.slice p1 m.length c1) (.slice q1 fs.length d1) (.slice p0 m.length c0) (.slice q0 fs.length d0) _ _ _ _ c m fs _ (by omega) (by omega) S1 T1 S0 T0).mono ?_
    rintro e x5 ⟨rfl, b5⟩
    clear g60 g61 g62 g80 g81 g82
    replace pf := pf.keep b5
    replace hrow := hrow.keep b5
    replace O6 := O6.keep b5
    replace S0 := S0.keep b5
    replace T0 := T0.keep b5
    replace X3 := X3.keep b5
    replace nx3 := nx3.keep b5
    replace O1 := O1.keep b5
    replace S1 := S1.keep b5
    replace T1 := T1.keep b5
    replace B := B.trans (b5.mono B.size)
    clear b5
    go_wp2_with fail
    refine (toRums_any a0 cap0 l _ hll hrow).mono ?_
    rintro e xe0 ⟨rfl, oe0, be0⟩
    replace pf := pf.keep be0
    replace hrow := hrow.keep be0
    replace O6 := O6.keep be0
    replace S0 := S0.keep be0
    replace T0 := T0.keep be0
    replace X3 := X3.keep be0
    replace nx3 := nx3.keep be0
    replace O1 := O1.keep be0
    replace S1 := S1.keep be0
    replace T1 := T1.keep be0
    replace B := B.trans (be0.mono B.size)
    clear be0
    have ne0 := oe0.row
    clear oe0
    go_wp2_with fail
    refine (eqRums_same _ _ _ _ l _ hll nx3 ne0).mono ?_
    rintro e xf0 ⟨rfl, bf0⟩
    clear ne0
    replace pf := pf.keep bf0
    replace hrow := hrow.keep bf0
    replace O6 := O6.keep bf0
    replace S0 := S0.keep bf0
    replace T0 := T0.keep bf0
    replace X3 := X3.keep bf0
    replace nx3 := nx3.keep bf0
    replace O1 := O1.keep bf0
    replace S1 := S1.keep bf0
    replace T1 := T1.keep bf0
    replace B := B.trans (bf0.mono B.size)
    clear bf0
    clear nx3
    go_wp2_with fail
    refine (markR_i x2.heap.size (.slice (some ⟨x2.heap.size, 0, none⟩) l.length l.length) l 1 _ hll (by omega) (by omega) X3).mono ?_
    rintro e xm0 ⟨rfl, _, km0⟩
    have HKX : Hid (∀ g, g ≠ x2.heap.size ∨ l.length = 0 → blkOf (.slice (some ⟨x2.heap.size, 0, none⟩) l.length l.length) l.length g) := blk_new _ _ _
    clear X3
    have kb0 : Below w.heap.size _ xm0 := km0.toBelow B.size (fun q hq => HKX.out q (by have := HS2.out; omega))
    replace B := B.trans kb0
    replace hrow := hrow0.keep B
    replace pf := pf.keepK km0 (HKX.out _ (by have := HS2.out; omega))
    replace O6 := O6.keepK km0 (HKX.out _ (by have := HS2.out; omega))
    replace S0 := S0.keepB km0 (fun g e => HKX.out g (by have := HV0.out g e; have := HS2.out; omega))
    replace T0 := T0.keepB km0 (fun g e => HKX.out g (by have := HU0.out g e; have := HS2.out; omega))
    replace O1 := O1.keepK km0 (HKX.out _ (by have := HS2.out; omega))
    replace S1 := S1.keepB km0 (fun g e => HKX.out g (by have := HV1.out g e; have := HS2.out; omega))
    replace T1 := T1.keepB km0 (fun g e => HKX.out g (by have := HU1.out g e; have := HS2.out; omega))
    clear km0 HKX
    have hm8 : ¬ ((1 + 4 * l.length : Nat) : Int) < 0 := by omega
    have g60 : _ = some (Value.slice p0 m.length c0) := O6.cell 0
    have g61 : _ = some (Value.slice q0 fs.length d0) := O6.cell 1
    have g62 : _ = some (Value.int .i64 c) := O6.cell 2
    have g80 : _ = some (Value.slice p1 m.length c1) := O1.cell 0
    have g81 : _ = some (Value.slice q1 fs.length d1) := O1.cell 1
    have g82 : _ = some (Value.int .i64 c) := O1.cell 2
    go_wp2_with fail
    refine (eqROut_same (.slice p1 m.length c1) (.slice q1 fs.length d1) (.slice p0 m.length c0) (.slice q0 fs.length d0) _ _ _ _ c m fs _ (by omega) (by omega) S1 T1 S0 T0).mono ?_
    rintro e x9 ⟨rfl, b9⟩
    clear g60 g61 g62 g80 g81 g82 hm8
    replace pf := pf.keep b9
    replace hrow := hrow.keep b9
    replace O6 := O6.keep b9
    replace S0 := S0.keep b9
    replace T0 := T0.keep b9
    replace O1 := O1.keep b9
    replace S1 := S1.keep b9
    replace T1 := T1.keep b9
    replace B := B.trans (b9.mono B.size)
    clear b9
    have g80 : _ = some (Value.slice p1 m.length c1) := O1.cell 0
    have g81 : _ = some (Value.slice q1 fs.length d1) := O1.cell 1
    have g82 : _ = some (Value.int .i64 c) := O1.cell 2
    go_wp2_with fail
    refine (markROut_i x35.heap.size x35.heap.size (.slice p1 m.length c1) (.slice q1 fs.length d1) c m fs _ (by omega) (by omega) S1 T1 HAP1.out).mono ?_
    rintro e x10 ⟨rfl, S1m, T1m, k10⟩
    have HKG : Hid (∀ g, g < x35.heap.size ∨ x4.heap.size ≤ g → blk2 (.slice p1 m.length c1) m.length (.slice q1 fs.length d1) fs.length g) := fun g hg => ⟨.inr (fun e => by have := HV1.out g e; omega), .inr (fun e => by have := HU1.out g e; omega)⟩
    clear S1 T1 g80 g81 g82
    have kb10 : Below w.heap.size _ x10 := k10.toBelow B.size (fun q hq => HKG.out q (by have := HS2.out; omega))
    replace B := B.trans kb10
    replace hrow := hrow0.keep B
    replace pf := pf.keepK k10 (HKG.out _ (by have := HS2.out; omega))
    replace O6 := O6.keepK k10 (HKG.out _ (by have := HS2.out; omega))
    replace S0 := S0.keepG k10 (fun g e => HKG.out g (by have := HV0.out g e; have := HS2.out; omega))
    replace T0 := T0.keepG k10 (fun g e => HKG.out g (by have := HU0.out g e; have := HS2.out; omega))
    replace O1 := O1.keepK k10 (HKG.out _ (by have := HS2.out; omega))
    have S1 := S1m
    have T1 := T1m
    clear S1m T1m k10 HKG
    have g80 : _ = some (Value.slice p1 m.length c1) := O1.cell 0
    have g81 : _ = some (Value.slice q1 fs.length d1) := O1.cell 1
    have g82 : _ = some (Value.int .i64 c) := O1.cell 2
    go_wp2_with fail
    refine (heldROut_i x35.heap.size x35.heap.size (.slice p1 m.length c1) (.slice q1 fs.length d1) c m.length fs.length _ (by omega) (by omega) S1 T1).mono ?_
    rintro e x11 ⟨rfl, b11⟩
    have hm11 : ¬ ((1 + 4 * m.length + 3 * fs.length : Nat) : Int) < 0 := by omega
    clear g80 g81 g82
    replace pf := pf.keep b11
    replace hrow := hrow.keep b11
    replace O6 := O6.keep b11
    replace S0 := S0.keep b11
    replace T0 := T0.keep b11
    replace O1 := O1.keep b11
    replace S1 := S1.keep b11
    replace T1 := T1.keep b11
    replace B := B.trans (b11.mono B.size)
    clear b11
    obtain ⟨V, rfl⟩ : ∃ V, V = x11 := ⟨x11, rfl⟩
    go_upto_region 24 with fail
    go_cut [12] (fun vc wc => ∃ sa sn sc ta tn tc kx, vc = .pointer (some ⟨kx, 0, none⟩) ∧ BlkIs wc kx 30 #[.slice sa sn sc, .slice ta tn tc, .int .i64 c] ∧ V.heap.size ≤ kx ∧ wc.ownsRow V.heap.size 39 4 (.slice sa sn sc) m.length (cellsOf RumV.cells m) ∧ wc.ownsRow V.heap.size 25 3 (.slice ta tn tc) fs.length (cellsOf FactV.cells fs) ∧ Below V.heap.size V wc)
    case first =>
      refine wp_region_any (by kernel_rfl) ?_
      refine wpAny_box 6 (fun i => [60, 61, 62, 63, 64, 12].getD i 0) (fun kq v wq => match kq with | 0 => v = .slice a0 l.length cap0 | 1 => ∃ kz, v = .slice (some ⟨kz, 0, none⟩) l.length l.length ∧ CellRow wq (some ⟨kz, 0, none⟩) (cellsOf RumV.cells l) | 2 => v = .agg #[.int .i64 f1, .int .i64 f2, .int .i64 f3] | 3 => v = .agg #[.int .i64 f1, .int .i64 f2, .int .i64 f3] | 4 => ∃ sa sn sc ta tn tc, v = .agg #[.slice sa sn sc, .slice ta tn tc, .int .i64 c] ∧ wq.ownsRow V.heap.size 39 4 (.slice sa sn sc) m.length (cellsOf RumV.cells m) ∧ wq.ownsRow V.heap.size 25 3 (.slice ta tn tc) fs.length (cellsOf FactV.cells fs) | 5 => ∃ kx, v = .pointer (some ⟨kx, 0, none⟩) ∧ BlkIs wq kx 30 #[.slice none 0 0, .slice none 0 0, .int .i64 0] ∧ V.heap.size ≤ kx | _ => True) _ V (by kernel_rfl) ?inj ?stab ?step ?last _ _ _ _ (List.range 7) (by kernel_rfl) (Nat.le_refl 7) ?un (by kernel_rfl) ?down ⟨rfl, rfl, fun _ _ => rfl⟩ (Below.refl _ _).drew ?none
      case inj => exact (show ∀ i, i < 6 → ∀ j, j < 6 → [60, 61, 62, 63, 64, 12].getD i 0 = [60, 61, 62, 63, 64, 12].getD j 0 → i = j by decide)
      case un => exact fun i hi _ => List.mem_range.2 hi
      case down =>
        intro j hj
        exfalso
        by_cases hi : j < 7
        · simp [hi] at hj
        · simp [hi] at hj
      case none =>
        intro i hi hj
        exfalso
        have hi2 : i < 7 := by omega
        simp [hi2] at hj
      case stab =>
        intro kq u wa wb h hB
        match kq, h with
        | 0, h => exact h
        | 1, h => exact (show ∃ kz, u = .slice (some ⟨kz, 0, none⟩) l.length l.length ∧ CellRow wb (some ⟨kz, 0, none⟩) (cellsOf RumV.cells l) from by obtain ⟨kz, h1, h2⟩ := h; exact ⟨kz, h1, h2.keep hB⟩)
        | 2, h => exact h
        | 3, h => exact h
        | 4, h => exact (show ∃ sa sn sc ta tn tc, u = .agg #[.slice sa sn sc, .slice ta tn tc, .int .i64 c] ∧ wb.ownsRow V.heap.size 39 4 (.slice sa sn sc) m.length (cellsOf RumV.cells m) ∧ wb.ownsRow V.heap.size 25 3 (.slice ta tn tc) fs.length (cellsOf FactV.cells fs) from by obtain ⟨sa, sn, sc, ta, tn, tc, h1, h2, h3⟩ := h; exact ⟨sa, sn, sc, ta, tn, tc, h1, rowBelow h2 hB, rowBelow h3 hB⟩)
        | 5, h => exact (show ∃ kx, u = _ ∧ BlkIs wb kx 30 #[.slice none 0 0, .slice none 0 0, .int .i64 0] ∧ V.heap.size ≤ kx from by obtain ⟨kx, h1, h2, h3⟩ := h; exact ⟨kx, h1, h2.keep hB, h3⟩)
        | _ + 6, _ => exact trivial
      case step =>
        intro i o hin ho fa fw hF hJ hpre
        obtain rfl | rfl | rfl | rfl | rfl | rfl : i = 0 ∨ i = 1 ∨ i = 2 ∨ i = 3 ∨ i = 4 ∨ i = 5 := by omega
        all_goals (obtain rfl := Option.some.inj ho)
        · have hs0 : fa.tmps[0]?.getD undef = .slice a0 l.length cap0 := by
            have := hF.2.2 0 (show ∀ i, i < 6 → [60, 61, 62, 63, 64, 12].getD i 0 ≠ 0 by decide)
            simpa using this
          exact step_val (v := .slice a0 l.length cap0) (w' := fw) (by go_simp) ⟨_, rfl, rfl, Below.refl _ _⟩
        · have hd0 : fa.tmps[60]?.getD undef = .slice a0 l.length cap0 := by simpa using (hpre ⟨0, .data⟩ (by simp) rfl : fa.tmps.getD 60 undef = .slice a0 l.length cap0)
          go_simp
          refine (toRums_any a0 cap0 l _ hll (hrow.keep hJ)).mono ?_
          rintro e w3 ⟨rfl, o3, b3⟩
          exact ⟨_, rfl, ⟨_, rfl, o3.row⟩, b3⟩
        · have hs3 : fa.tmps[3]?.getD undef = .pointer (some ⟨w.heap.size, 0, none⟩) := by
            have := hF.2.2 3 (show ∀ i, i < 6 → [60, 61, 62, 63, 64, 12].getD i 0 ≠ 3 by decide)
            simpa using this
          obtain ⟨_, c0, c1, c2⟩ := pf.keep hJ
          dsimp only at c0 c1 c2
          exact step_val (v := .agg #[.int .i64 f1, .int .i64 f2, .int .i64 f3]) (w' := fw) (by go_simp) ⟨_, rfl, rfl, Below.refl _ _⟩
        · have hd2 : fa.tmps[62]?.getD undef = .agg #[.int .i64 f1, .int .i64 f2, .int .i64 f3] := by simpa using (hpre ⟨2, .data⟩ (by simp) rfl : fa.tmps.getD 62 undef = .agg #[.int .i64 f1, .int .i64 f2, .int .i64 f3])
          go_simp
          refine (toFact_any ⟨f1, f2, f3⟩ _).mono ?_
          rintro e w3 ⟨rfl, b3⟩
          exact ⟨_, rfl, rfl, b3⟩
        · obtain ⟨kz, q1, hz⟩ := (hpre ⟨1, .data⟩ (by simp) rfl : ∃ kz, fa.tmps.getD 61 undef = .slice (some ⟨kz, 0, none⟩) l.length l.length ∧ CellRow fw (some ⟨kz, 0, none⟩) (cellsOf RumV.cells l))
          have hd1 : fa.tmps[61]?.getD undef = .slice (some ⟨kz, 0, none⟩) l.length l.length := by simpa using q1
          have hd3 : fa.tmps[63]?.getD undef = .agg #[.int .i64 f1, .int .i64 f2, .int .i64 f3] := by simpa using (hpre ⟨3, .data⟩ (by simp) rfl : fa.tmps.getD 63 undef = .agg #[.int .i64 f1, .int .i64 f2, .int .i64 f3])
          go_simp
          refine (implRPut_fs _ _ l ⟨f1, f2, f3⟩ c m fs _ HP.out HFS.out hll hz).mono ?_
          rintro e w3 ⟨v3, u3, rfl, own3, own4, b3⟩
          obtain ⟨sa, sn, sc, rfl⟩ := rowShape own3
          obtain ⟨ta, tn, tc, rfl⟩ := rowShape own4
          exact ⟨_, rfl, ⟨sa, sn, sc, ta, tn, tc, rfl, rowLe own3 hJ.size, rowLe own4 hJ.size⟩, b3⟩
        · exact step_val (v := .pointer (some ⟨fw.heap.size, 0, none⟩)) (w' := fw.alloc (.cells #[.slice none 0 0, .slice none 0 0, .int .i64 0] 30)) (by go_simp) ⟨_, rfl, ⟨fw.heap.size, rfl, BlkIs.new _ _ _, hJ.size⟩, (Below.refl _ _).alloc (Nat.le_refl _) _⟩
      case last =>
        intro o ho fa fw hF hJ hφ
        obtain rfl := Option.some.inj ho
        obtain ⟨sa, sn, sc, ta, tn, tc, q4, hrw, hrx⟩ := (hφ 4 (by decide) : ∃ sa sn sc ta tn tc, fa.tmps.getD 64 undef = .agg #[.slice sa sn sc, .slice ta tn tc, .int .i64 c] ∧ fw.ownsRow V.heap.size 39 4 (.slice sa sn sc) m.length (cellsOf RumV.cells m) ∧ fw.ownsRow V.heap.size 25 3 (.slice ta tn tc) fs.length (cellsOf FactV.cells fs))
        have hd4 : fa.tmps[64]?.getD undef = .agg #[.slice sa sn sc, .slice ta tn tc, .int .i64 c] := by simpa using q4
        obtain ⟨kbx, q5, hblk, hkb⟩ := (hφ 5 (by decide) : ∃ kx, fa.tmps.getD 12 undef = .pointer (some ⟨kx, 0, none⟩) ∧ BlkIs fw kx 30 #[.slice none 0 0, .slice none 0 0, .int .i64 0] ∧ V.heap.size ≤ kx)
        have hd5 : fa.tmps[12]?.getD undef = .pointer (some ⟨kbx, 0, none⟩) := by simpa using q5
        have g0 : fw.cell? ⟨kbx, 0, none⟩ = some (.slice none 0 0) := hblk.cell 0
        have z0 := hblk.fz 0
        have g1 : fw.cell? ⟨kbx, 1, none⟩ = some (.slice none 0 0) := hblk.cell 1
        have z1 := hblk.fz 1
        have g2 : fw.cell? ⟨kbx, 2, none⟩ = some (.int .i64 0) := hblk.cell 2
        have z2 := hblk.fz 2
        have hnew : BlkIs (((fw.setCell ⟨kbx, 0, none⟩ (.slice sa sn sc)).setCell ⟨kbx, 1, none⟩ (.slice ta tn tc)).setCell ⟨kbx, 2, none⟩ (.int .i64 c)) kbx 30 #[.slice sa sn sc, .slice ta tn tc, .int .i64 c] := by simpa using (((hblk.put 0 (.slice sa sn sc)).put 1 (.slice ta tn tc)).put 2 (.int .i64 c))
        have hbn : Below V.heap.size V (((fw.setCell ⟨kbx, 0, none⟩ (.slice sa sn sc)).setCell ⟨kbx, 1, none⟩ (.slice ta tn tc)).setCell ⟨kbx, 2, none⟩ (.int .i64 c)) := (((hJ.setCell (p := ⟨kbx, 0, none⟩) hkb (.slice sa sn sc)).setCell (p := ⟨kbx, 1, none⟩) hkb (.slice ta tn tc)).setCell (p := ⟨kbx, 2, none⟩) hkb (.int .i64 c))
        have hnr : Value.ownBlock (.slice sa sn sc) ≠ some kbx := hblk.not_row (by decide) hrw
        have hns : Value.ownBlock (.slice ta tn tc) ≠ some kbx := hblk.not_row (by decide) hrx
        have hrwn : (((fw.setCell ⟨kbx, 0, none⟩ (.slice sa sn sc)).setCell ⟨kbx, 1, none⟩ (.slice ta tn tc)).setCell ⟨kbx, 2, none⟩ (.int .i64 c)).ownsRow V.heap.size 39 4 (.slice sa sn sc) m.length (cellsOf RumV.cells m) := rowKeep hrw (keeps_three fw kbx (.slice sa sn sc) (.slice ta tn tc) (.int .i64 c)) (fun q hq e => hnr (by rw [hq, e]))
        have hrxn : (((fw.setCell ⟨kbx, 0, none⟩ (.slice sa sn sc)).setCell ⟨kbx, 1, none⟩ (.slice ta tn tc)).setCell ⟨kbx, 2, none⟩ (.int .i64 c)).ownsRow V.heap.size 25 3 (.slice ta tn tc) fs.length (cellsOf FactV.cells fs) := rowKeep hrx (keeps_three fw kbx (.slice sa sn sc) (.slice ta tn tc) (.int .i64 c)) (fun q hq e => hns (by rw [hq, e]))
        clear hrw hrx hnr hns
        refine step_skip (w' := (((fw.setCell ⟨kbx, 0, none⟩ (.slice sa sn sc)).setCell ⟨kbx, 1, none⟩ (.slice ta tn tc)).setCell ⟨kbx, 2, none⟩ (.int .i64 c))) (by go_simp) ?_
        obtain ⟨wn, hwn⟩ : ∃ wn, (((fw.setCell ⟨kbx, 0, none⟩ (.slice sa sn sc)).setCell ⟨kbx, 1, none⟩ (.slice ta tn tc)).setCell ⟨kbx, 2, none⟩ (.int .i64 c)) = wn := ⟨_, rfl⟩
        rw [hwn] at hnew hbn hrwn hrxn ⊢
        clear hwn g0 z0 g1 z1 g2 z2 hblk
        obtain ⟨ft, fd⟩ := fa
        obtain ⟨hd, hz, hs⟩ := hF
        have e := tmps_slots ft 77 hz
        simp only [List.range, List.range.loop, List.map] at e
        have hu : ∀ s, (∀ i, i < 6 → [60, 61, 62, 63, 64, 12].getD i 0 ≠ s) → ft.getD s undef = _ := hs
        rw [hu 0 (by decide), hu 1 (by decide), hu 2 (by decide), hu 3 (by decide), hu 4 (by decide), hu 5 (by decide), hu 6 (by decide), hu 7 (by decide), hu 8 (by decide), hu 9 (by decide), hu 10 (by decide), hu 11 (by decide), hu 13 (by decide), hu 14 (by decide), hu 15 (by decide), hu 16 (by decide), hu 17 (by decide), hu 18 (by decide), hu 19 (by decide), hu 20 (by decide), hu 21 (by decide), hu 22 (by decide), hu 23 (by decide), hu 24 (by decide), hu 25 (by decide), hu 26 (by decide), hu 27 (by decide), hu 28 (by decide), hu 29 (by decide), hu 30 (by decide), hu 31 (by decide), hu 32 (by decide), hu 33 (by decide), hu 34 (by decide), hu 35 (by decide), hu 36 (by decide), hu 37 (by decide), hu 38 (by decide), hu 39 (by decide), hu 40 (by decide), hu 41 (by decide), hu 42 (by decide), hu 43 (by decide), hu 44 (by decide), hu 45 (by decide), hu 46 (by decide), hu 47 (by decide), hu 48 (by decide), hu 49 (by decide), hu 50 (by decide), hu 51 (by decide), hu 52 (by decide), hu 53 (by decide), hu 54 (by decide), hu 55 (by decide), hu 56 (by decide), hu 57 (by decide), hu 58 (by decide), hu 59 (by decide), hu 65 (by decide), hu 66 (by decide), hu 67 (by decide), hu 68 (by decide), hu 69 (by decide), hu 70 (by decide), hu 71 (by decide), hu 72 (by decide), hu 73 (by decide), hu 74 (by decide), hu 75 (by decide), hu 76 (by decide)] at e
        obtain ⟨y60, hy60⟩ : ∃ z, ft.getD 60 undef = z := ⟨_, rfl⟩
        obtain ⟨y61, hy61⟩ : ∃ z, ft.getD 61 undef = z := ⟨_, rfl⟩
        obtain ⟨y62, hy62⟩ : ∃ z, ft.getD 62 undef = z := ⟨_, rfl⟩
        obtain ⟨y63, hy63⟩ : ∃ z, ft.getD 63 undef = z := ⟨_, rfl⟩
        obtain ⟨y64, hy64⟩ : ∃ z, ft.getD 64 undef = z := ⟨_, rfl⟩
        obtain ⟨y12, hy12⟩ : ∃ z, ft.getD 12 undef = z := ⟨_, rfl⟩
        rw [hy60, hy61, hy62, hy63, hy64, hy12] at e
        have hyb : y12 = .pointer (some ⟨kbx, 0, none⟩) := by rw [← hy12]; exact q5
        clear hy60 hy61 hy62 hy63 hy64 hy12 hu hs hz hφ hd5 q5 hd4
        subst e
        subst hyb
        obtain rfl : fd = [] := hd
        go_wp2_with fail
        go_meet
        case rel => exact ⟨sa, sn, sc, ta, tn, tc, kbx, rfl, hnew, hkb, hrwn, hrxn, hbn⟩
    case rest =>
      obtain ⟨p3, n3, c3, q3, k3, d3, k12, rfl, O3, hk12, own3, own3f, bV⟩ := hcut
      obtain ⟨x14, rfl⟩ : ∃ x14, x14 = wc := ⟨wc, rfl⟩
      replace pf := pf.keep bV
      replace hrow := hrow.keep bV
      replace O6 := O6.keep bV
      replace S0 := S0.keep bV
      replace T0 := T0.keep bV
      replace O1 := O1.keep bV
      replace S1 := S1.keep bV
      replace T1 := T1.keep bV
      replace B := B.trans (bV.mono B.size)
      clear bV
      have S3 := own_slR own3
      have T3 := own_sl own3f
      have hn3 : n3 = m.length := by
        obtain ⟨a, cp, e, _⟩ := S3
        simp only [Value.slice.injEq] at e
        exact e.2.1
      have hk3 : k3 = fs.length := by
        obtain ⟨a, cp, e, _⟩ := T3
        simp only [Value.slice.injEq] at e
        exact e.2.1
      subst hn3
      subst hk3
      clear own3 own3f hk12
      have g60 : _ = some (Value.slice p0 m.length c0) := O6.cell 0
      have g61 : _ = some (Value.slice q0 fs.length d0) := O6.cell 1
      have g62 : _ = some (Value.int .i64 c) := O6.cell 2
      have g90 : _ = some (Value.slice p3 m.length c3) := O3.cell 0
      have g91 : _ = some (Value.slice q3 fs.length d3) := O3.cell 1
      have g92 : _ = some (Value.int .i64 c) := O3.cell 2
      go_wp2_with fail
      refine (eqROut_same (.slice p3 m.length c3) (.slice q3 fs.length d3) (.slice p0 m.length c0) (.slice q0 fs.length d0) _ _ _ _ c m fs _ (by omega) (by omega) S3 T3 S0 T0).mono ?_
      rintro e x15 ⟨rfl, b15⟩
      clear g60 g61 g62 g90 g91 g92 O3 S3 T3
      replace pf := pf.keep b15
      replace hrow := hrow.keep b15
      replace O6 := O6.keep b15
      replace S0 := S0.keep b15
      replace T0 := T0.keep b15
      replace O1 := O1.keep b15
      replace S1 := S1.keep b15
      replace T1 := T1.keep b15
      replace B := B.trans (b15.mono B.size)
      clear b15
      have g80 : _ = some (Value.slice p1 m.length c1) := O1.cell 0
      have g81 : _ = some (Value.slice q1 fs.length d1) := O1.cell 1
      have g82 : _ = some (Value.int .i64 c) := O1.cell 2
      go_wp2_with fail
      refine (heldROut_i x35.heap.size x35.heap.size (.slice p1 m.length c1) (.slice q1 fs.length d1) c m.length fs.length _ (by omega) (by omega) S1 T1).mono ?_
      rintro e x16 ⟨rfl, b16⟩
      replace B := B.trans (b16.mono B.size)
      go_wp2
      go_ret
      exact ⟨rfl, B⟩

set_option maxRecDepth 100000 in
theorem FnExactRumorPut_lifted (os : Os) (started : os.Started) (H : Type) (enc : TypeId × Value → H) :
    ReturnsInHanded {} Try.checked os 5 .any (Rows.fnExactRumorPutSpec.pre6 enc Try.prog Try.f5 Rows.fnExactRumorPutRow.domain false) (Rows.fnExactRumorPutSpec.post enc Try.prog Try.f5 false true false false) := by
  refine returnsInHanded_of_change (C := Try.checked) (by kernel_rfl) started (by kernel_rfl) Try.func5
    (ChangeSpec.witness6 (enc := enc) (C := Try.checked) false ⟨#[], #[.slice none 0 0, .agg #[.int .i64 0, .int .i64 0, .int .i64 0]], []⟩ 8 (by kernel_rfl) (by kernel_rfl) (by kernel_rfl) (by kernel_rfl)) ?_
  intro W base args ds gs before hval0 hW hcnd _
  have hval : ∀ (j : Nat) t v, Try.f5.params[j]? = some t → args[j]? = some v → Value.okWide Try.prog W .any base t v := hval0
  have hW' := hW
  obtain ⟨p, q, hA0, hV, rfl, hfz, hnd⟩ := hW
  have hA : DataW.TrodAll enc Try.prog W 0 (fun _ => true) true Try.f5.params.toList args.toList ds p := hA0
  rw [Try.params5] at hA hval
  obtain ⟨v0, vs0, d0, ds0, p0, q0, hargs, rfl, rfl, h0, r0⟩ := trodAll_cons hA
  obtain ⟨v1, vs1, d1, ds1, p1, q1, rfl, rfl, rfl, h1, r1⟩ := trodAll_cons r0
  obtain ⟨rfl, rfl, rfl⟩ := trodAll_nil r1
  obtain rfl : args = #[v0, v1] := by cases args; simp_all
  obtain ⟨rfl, rfl⟩ := trodVars_none hV
  obtain ⟨a0, len0, cap0, rfl⟩ := okWide_slice Try.underlying41 (hval 0 41 v0 rfl rfl)
  have k0 := h0
  have lt0 : ∀ x ∈ p0, x.block < W.heap.size := by obtain ⟨m, hm⟩ := k0; exact DataW.trod_lt m _ _ _ hm
  obtain ⟨l0, el0, w0⟩ : ∃ l, len0 = l.length ∧ RumorArg W a0 cap0 l := by
    obtain ⟨fuel, hf⟩ := h0
    exact rumorArg_open (by simpa [Value.cells] using hf)
  subst el0
  have k1 := h1
  have lt1 : ∀ x ∈ p1, x.block < W.heap.size := by obtain ⟨m, hm⟩ := k1; exact DataW.trod_lt m _ _ _ hm
  obtain ⟨a1, rfl, w1⟩ := factVal_open (hval 1 46 v1 rfl rfl) h1
  clear hA0 hval0
  refine (FnExactRumorPut_walk a0 cap0 l0 a1 W w0 w1).mono fun e W' ⟨he, bel⟩ => ?_
  subst he
  exact ⟨_, rfl, _, _, _, [], _, [], hW', trodAll_mk1 (shut_bool Try.underlying4 _), (trodAll_cons_mk (Below.trod (show laidOutB Try.prog = true by kernel_rfl) (by kernel_rfl) (of_decide_eq_true (by kernel_rfl)) k0 bel lt0) (trodAll_cons_mk (Below.trod (show laidOutB Try.prog = true by kernel_rfl) (by kernel_rfl) (of_decide_eq_true (by kernel_rfl)) k1 bel lt1) trodAll_mk0)), rfl, bel.frame _, fun h => by cases h⟩
/-- The statement. -/
theorem FnExactRumorPut_holds : Rows.FnExactRumorPutSaid :=
  OpenClaim.holds_of_wide 5 Try.f5 rfl rfl rfl rfl rfl rfl rfl ⟨rfl, rfl, rfl, rfl, rfl⟩ rfl rfl rfl rfl rfl (by kernel_rfl) Try.func5 (by kernel_rfl)
    (of_decide_eq_true (by kernel_rfl)) (by unfold Func.isWrapper; first | (rw [if_pos (by decide +kernel)]; kernel_rfl) | (rw [if_neg (by decide +kernel)]; exact ⟨rfl, rfl⟩))
    (fun os started H enc _ => FnExactRumorPut_lifted os started H enc)
#print axioms FnExactRumorPut_holds

end Go.Proofs.Ytenefjnahanfbaa
