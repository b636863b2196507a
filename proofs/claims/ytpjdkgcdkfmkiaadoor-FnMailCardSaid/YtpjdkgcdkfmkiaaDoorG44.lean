/- The specification's reader: one number. -/
import Derived.Test.YtpjdkgcdkfmkiaaDoorG26
import Derived.Test.YtpjdkgcdkfmkiaaDoorMReadP
import Derived.Test.YtpjdkgcdkfmkiaaDoorG16
import Derived.Test.YtpjdkgcdkfmkiaaDoorG9
import Derived.Test.YtpjdkgcdkfmkiaaDoorG32
import Derived.Test.YtpjdkgcdkfmkiaaDoorMBytesI
namespace Go.Proofs.YtpjdkgcdkfmkiaaDoor
open Go Go.RowKit
set_option linter.unusedVariables false
set_option linter.unusedSimpArgs false

/-- One number is read: it, where the reader stands behind it, and whether it is spoiled. -/
def stepN (t : ByteArray) (a : Int) (bad : Bool) : Int × Int × Bool :=
  if bad = true ∨ (getN t a).2.2 ≠ 0 then (0, a, true) else ((getN t a).1, (getN t a).2.1, false)
/-- A reader. -/
def RdBlk (w : World) (b : Nat) (t : ByteArray) (a : Int) (bad : Bool) : Prop := BlkIs w b 58 #[.string t, .int .i64 a, .bool bad]
def NumPost (b : Nat) (t : ByteArray) (a : Int) (bad : Bool) (w : World) (e : Ending) (w' : World) : Prop :=
  e = .returned (.int .i64 (stepN t a bad).1) ∧ RdBlk w' b t (stepN t a bad).2.1 (stepN t a bad).2.2 ∧ Keeps (fun q => q ≠ b) w w'
theorem num_end {b : Nat} {t : ByteArray} {a : Int} {bad : Bool} {w w' : World} {x a' : Int} {bad' : Bool} (h : stepN t a bad = (x, a', bad')) (hB : RdBlk w' b t a' bad') (hk : Keeps (fun q => q ≠ b) w w') : NumPost b t a bad w (.returned (.int .i64 x)) w' := by
  unfold NumPost
  rw [h]
  exact ⟨rfl, hB, hk⟩
set_option maxHeartbeats 4000000 in
set_option maxRecDepth 100000 in
theorem num_any (b : Nat) (t : ByteArray) (a : Int) (bad : Bool) (w : World) (hB : RdBlk w b t a bad) : Calls Tryd.prog 30 #[.pointer (some ⟨b, 0, none⟩)] w (NumPost b t a bad w) := by
  have pB : BlkIs w b 58 #[.string t, .int .i64 a, .bool bad] := hB
  obtain ⟨r1, r2, r3, hG⟩ : ∃ r1 r2 r3, getN t a = (r1, r2, r3) := ⟨_, _, _, rfl⟩
  have HG : Hid (getN t a = (r1, r2, r3)) := hG
  clear hB hG
  go_enter Tryd.func30, Tryd.ntmps30
  go_upto_region 1 with fail
  go_cut [3] (fun vc wc => ∃ kx, vc = .pointer (some ⟨kx, 0, none⟩) ∧ BlkIs wc kx 93 #[.int .i64 r1, .int .i64 r2, .int .i64 r3] ∧ w.heap.size ≤ kx ∧ Below w.heap.size w wc)
  case first =>
    refine wp_region_any (by kernel_rfl) ?_
    refine wpAny_box 10 (fun i => [4, 5, 6, 7, 8, 9, 10, 11, 12, 3].getD i 0) (fun kq v wq => match kq with | 0 => v = .pointer (some ⟨b, 0, none⟩) | 1 => v = .pointer (some ⟨b, 0, none⟩) | 2 => v = .pointer (some ⟨b, 0, none⟩) | 3 => v = .string t | 4 => v = .pointer (some ⟨b, 0, none⟩) | 5 => v = .pointer (some ⟨b, 0, none⟩) | 6 => v = .pointer (some ⟨b, 1, none⟩) | 7 => v = .int .i64 a | 8 => v = .agg #[.int .i64 r1, .int .i64 r2, .int .i64 r3] | 9 => ∃ kx, v = .pointer (some ⟨kx, 0, none⟩) ∧ BlkIs wq kx 93 #[.int .i64 0, .int .i64 0, .int .i64 0] ∧ w.heap.size ≤ kx | _ => True) _ w (by kernel_rfl) ?inj ?stab ?step ?last _ _ _ _ (List.range 11) (by kernel_rfl) (Nat.le_refl 11) ?un (by kernel_rfl) ?down ⟨rfl, rfl, fun _ _ => rfl⟩ (Below.refl _ _).drew ?none
    case inj => exact (show ∀ i, i < 10 → ∀ j, j < 10 → [4, 5, 6, 7, 8, 9, 10, 11, 12, 3].getD i 0 = [4, 5, 6, 7, 8, 9, 10, 11, 12, 3].getD j 0 → i = j by decide)
    case un => exact fun i hi _ => List.mem_range.2 hi
    case down =>
      intro j hj
      exfalso
      by_cases hi : j < 11
      · simp [hi] at hj
      · simp [hi] at hj
    case none =>
      intro i hi hj
      exfalso
      have hi2 : i < 11 := by omega
      simp [hi2] at hj
    case stab =>
      intro kq u wa wb h hB
      match kq, h with
      | 0, h => exact h
      | 1, h => exact h
      | 2, h => exact h
      | 3, h => exact h
      | 4, h => exact h
      | 5, h => exact h
      | 6, h => exact h
      | 7, h => exact h
      | 8, h => exact h
      | 9, h => exact (show ∃ kx, u = _ ∧ BlkIs wb kx 93 #[.int .i64 0, .int .i64 0, .int .i64 0] ∧ w.heap.size ≤ kx from by obtain ⟨kx, h1, h2, h3⟩ := h; exact ⟨kx, h1, h2.keep hB, h3⟩)
      | _ + 10, _ => exact trivial
    case step =>
      intro i o hin ho fa fw hF hJ hpre
      obtain rfl | rfl | rfl | rfl | rfl | rfl | rfl | rfl | rfl | rfl : i = 0 ∨ i = 1 ∨ i = 2 ∨ i = 3 ∨ i = 4 ∨ i = 5 ∨ i = 6 ∨ i = 7 ∨ i = 8 ∨ i = 9 := by omega
      all_goals (obtain rfl := Option.some.inj ho)
      · have hs0 : fa.tmps[0]?.getD undef = .pointer (some ⟨b, 0, none⟩) := by
          have := hF.2.2 0 (show ∀ i, i < 10 → [4, 5, 6, 7, 8, 9, 10, 11, 12, 3].getD i 0 ≠ 0 by decide)
          simpa using this
        exact step_val (v := .pointer (some ⟨b, 0, none⟩)) (w' := fw) (by go_simp) ⟨_, rfl, rfl, Below.refl _ _⟩
      · have hd0 : fa.tmps[4]?.getD undef = .pointer (some ⟨b, 0, none⟩) := by simpa using (hpre ⟨0, .data⟩ (by simp) rfl : fa.tmps.getD 4 undef = .pointer (some ⟨b, 0, none⟩))
        exact step_val (v := .pointer (some ⟨b, 0, none⟩)) (w' := fw) (by go_simp) ⟨_, rfl, rfl, Below.refl _ _⟩
      · have hd1 : fa.tmps[5]?.getD undef = .pointer (some ⟨b, 0, none⟩) := by simpa using (hpre ⟨1, .data⟩ (by simp) rfl : fa.tmps.getD 5 undef = .pointer (some ⟨b, 0, none⟩))
        exact step_val (v := .pointer (some ⟨b, 0, none⟩)) (w' := fw) (by go_simp) ⟨_, rfl, rfl, Below.refl _ _⟩
      · have hd2 : fa.tmps[6]?.getD undef = .pointer (some ⟨b, 0, none⟩) := by simpa using (hpre ⟨2, .data⟩ (by simp) rfl : fa.tmps.getD 6 undef = .pointer (some ⟨b, 0, none⟩))
        have s0 := (pB.keep hJ).cell 0
        simp only [List.getElem?_toArray, List.getElem?_cons_zero] at s0
        exact step_val (v := .string t) (w' := fw) (by go_simp) ⟨_, rfl, rfl, Below.refl _ _⟩
      · have hs0 : fa.tmps[0]?.getD undef = .pointer (some ⟨b, 0, none⟩) := by
          have := hF.2.2 0 (show ∀ i, i < 10 → [4, 5, 6, 7, 8, 9, 10, 11, 12, 3].getD i 0 ≠ 0 by decide)
          simpa using this
        exact step_val (v := .pointer (some ⟨b, 0, none⟩)) (w' := fw) (by go_simp) ⟨_, rfl, rfl, Below.refl _ _⟩
      · have hd4 : fa.tmps[8]?.getD undef = .pointer (some ⟨b, 0, none⟩) := by simpa using (hpre ⟨4, .data⟩ (by simp) rfl : fa.tmps.getD 8 undef = .pointer (some ⟨b, 0, none⟩))
        exact step_val (v := .pointer (some ⟨b, 0, none⟩)) (w' := fw) (by go_simp) ⟨_, rfl, rfl, Below.refl _ _⟩
      · have hd5 : fa.tmps[9]?.getD undef = .pointer (some ⟨b, 0, none⟩) := by simpa using (hpre ⟨5, .data⟩ (by simp) rfl : fa.tmps.getD 9 undef = .pointer (some ⟨b, 0, none⟩))
        exact step_val (v := .pointer (some ⟨b, 1, none⟩)) (w' := fw) (by go_simp) ⟨_, rfl, rfl, Below.refl _ _⟩
      · have hd6 : fa.tmps[10]?.getD undef = .pointer (some ⟨b, 1, none⟩) := by simpa using (hpre ⟨6, .data⟩ (by simp) rfl : fa.tmps.getD 10 undef = .pointer (some ⟨b, 1, none⟩))
        have s1 := (pB.keep hJ).cell 1
        simp only [List.getElem?_toArray, List.getElem?_cons_zero, List.getElem?_cons_succ] at s1
        exact step_val (v := .int .i64 a) (w' := fw) (by go_simp) ⟨_, rfl, rfl, Below.refl _ _⟩
      · have hd3 : fa.tmps[7]?.getD undef = .string t := by simpa using (hpre ⟨3, .data⟩ (by simp) rfl : fa.tmps.getD 7 undef = .string t)
        have hd7 : fa.tmps[11]?.getD undef = .int .i64 a := by simpa using (hpre ⟨7, .data⟩ (by simp) rfl : fa.tmps.getD 11 undef = .int .i64 a)
        go_simp
        refine (specGetNum_any t a _).mono ?_
        rintro e w3 ⟨rfl, b3⟩
        rw [HG.out]
        exact ⟨_, rfl, rfl, b3⟩
      · exact step_val (v := .pointer (some ⟨fw.heap.size, 0, none⟩)) (w' := fw.alloc (.cells #[.int .i64 0, .int .i64 0, .int .i64 0] 93)) (by go_simp) ⟨_, rfl, ⟨fw.heap.size, rfl, BlkIs.new _ _ _, hJ.size⟩, (Below.refl _ _).alloc (Nat.le_refl _) _⟩
    case last =>
      intro o ho fa fw hF hJ hφ
      obtain rfl := Option.some.inj ho
      have hd8 : fa.tmps[12]?.getD undef = .agg #[.int .i64 r1, .int .i64 r2, .int .i64 r3] := by simpa using (hφ 8 (by decide) : fa.tmps.getD 12 undef = .agg #[.int .i64 r1, .int .i64 r2, .int .i64 r3])
      obtain ⟨kbx, q9, hblk, hkb⟩ := (hφ 9 (by decide) : ∃ kx, fa.tmps.getD 3 undef = .pointer (some ⟨kx, 0, none⟩) ∧ BlkIs fw kx 93 #[.int .i64 0, .int .i64 0, .int .i64 0] ∧ w.heap.size ≤ kx)
      have hd9 : fa.tmps[3]?.getD undef = .pointer (some ⟨kbx, 0, none⟩) := by simpa using q9
      have g0 : fw.cell? ⟨kbx, 0, none⟩ = some (.int .i64 0) := hblk.cell 0
      have z0 := hblk.fz 0
      have g1 : fw.cell? ⟨kbx, 1, none⟩ = some (.int .i64 0) := hblk.cell 1
      have z1 := hblk.fz 1
      have g2 : fw.cell? ⟨kbx, 2, none⟩ = some (.int .i64 0) := hblk.cell 2
      have z2 := hblk.fz 2
      have hnew : BlkIs (((fw.setCell ⟨kbx, 0, none⟩ (.int .i64 r1)).setCell ⟨kbx, 1, none⟩ (.int .i64 r2)).setCell ⟨kbx, 2, none⟩ (.int .i64 r3)) kbx 93 #[.int .i64 r1, .int .i64 r2, .int .i64 r3] := by simpa using (((hblk.put 0 (.int .i64 r1)).put 1 (.int .i64 r2)).put 2 (.int .i64 r3))
      have hbn : Below w.heap.size w (((fw.setCell ⟨kbx, 0, none⟩ (.int .i64 r1)).setCell ⟨kbx, 1, none⟩ (.int .i64 r2)).setCell ⟨kbx, 2, none⟩ (.int .i64 r3)) := (((hJ.setCell (p := ⟨kbx, 0, none⟩) hkb (.int .i64 r1)).setCell (p := ⟨kbx, 1, none⟩) hkb (.int .i64 r2)).setCell (p := ⟨kbx, 2, none⟩) hkb (.int .i64 r3))
      refine step_skip (w' := (((fw.setCell ⟨kbx, 0, none⟩ (.int .i64 r1)).setCell ⟨kbx, 1, none⟩ (.int .i64 r2)).setCell ⟨kbx, 2, none⟩ (.int .i64 r3))) (by go_simp) ?_
      obtain ⟨wn, hwn⟩ : ∃ wn, (((fw.setCell ⟨kbx, 0, none⟩ (.int .i64 r1)).setCell ⟨kbx, 1, none⟩ (.int .i64 r2)).setCell ⟨kbx, 2, none⟩ (.int .i64 r3)) = wn := ⟨_, rfl⟩
      rw [hwn] at hnew hbn ⊢
      clear hwn g0 z0 g1 z1 g2 z2 hblk
      obtain ⟨ft, fd⟩ := fa
      obtain ⟨hd, hz, hs⟩ := hF
      have e := tmps_slots ft 32 hz
      simp only [List.range, List.range.loop, List.map] at e
      have hu : ∀ s, (∀ i, i < 10 → [4, 5, 6, 7, 8, 9, 10, 11, 12, 3].getD i 0 ≠ s) → ft.getD s undef = _ := hs
      rw [hu 0 (by decide), hu 1 (by decide), hu 2 (by decide), hu 13 (by decide), hu 14 (by decide), hu 15 (by decide), hu 16 (by decide), hu 17 (by decide), hu 18 (by decide), hu 19 (by decide), hu 20 (by decide), hu 21 (by decide), hu 22 (by decide), hu 23 (by decide), hu 24 (by decide), hu 25 (by decide), hu 26 (by decide), hu 27 (by decide), hu 28 (by decide), hu 29 (by decide), hu 30 (by decide), hu 31 (by decide)] at e
      obtain ⟨y4, hy4⟩ : ∃ z, ft.getD 4 undef = z := ⟨_, rfl⟩
      obtain ⟨y5, hy5⟩ : ∃ z, ft.getD 5 undef = z := ⟨_, rfl⟩
      obtain ⟨y6, hy6⟩ : ∃ z, ft.getD 6 undef = z := ⟨_, rfl⟩
      obtain ⟨y7, hy7⟩ : ∃ z, ft.getD 7 undef = z := ⟨_, rfl⟩
      obtain ⟨y8, hy8⟩ : ∃ z, ft.getD 8 undef = z := ⟨_, rfl⟩
      obtain ⟨y9, hy9⟩ : ∃ z, ft.getD 9 undef = z := ⟨_, rfl⟩
      obtain ⟨y10, hy10⟩ : ∃ z, ft.getD 10 undef = z := ⟨_, rfl⟩
      obtain ⟨y11, hy11⟩ : ∃ z, ft.getD 11 undef = z := ⟨_, rfl⟩
      obtain ⟨y12, hy12⟩ : ∃ z, ft.getD 12 undef = z := ⟨_, rfl⟩
      obtain ⟨y3, hy3⟩ : ∃ z, ft.getD 3 undef = z := ⟨_, rfl⟩
      rw [hy4, hy5, hy6, hy7, hy8, hy9, hy10, hy11, hy12, hy3] at e
      have hyb : y3 = .pointer (some ⟨kbx, 0, none⟩) := by rw [← hy3]; exact q9
      clear hy4 hy5 hy6 hy7 hy8 hy9 hy10 hy11 hy12 hy3 hu hs hz hφ hd9 q9 hd8
      subst e
      subst hyb
      obtain rfl : fd = [] := hd
      go_wp2_with fail
      go_meet
      case rel => exact ⟨kbx, rfl, hnew, hkb, hbn⟩
  case rest =>
    obtain ⟨kb, rfl, P5, hkb, bW⟩ := hcut
    have p1 := pB.keep bW
    have hlt := pB.lt
    have hne : b ≠ kb := by omega
    have hne2 : ¬ kb = b := by omega
    have K0 : Keeps (fun q => q ≠ b) w wc := Keeps.ofBelow bW (fun _ hk _ => hk)
    have d0 := p1.cell 0
    have d1 := p1.cell 1
    have d2 := p1.cell 2
    have f1 := p1.fz 1
    have f2 := p1.fz 2
    have g0 := P5.cell 0
    have g1 := P5.cell 1
    have g2 := P5.cell 2
    simp only [List.getElem?_toArray, List.getElem?_cons_zero, List.getElem?_cons_succ] at d0 d1 d2 g0 g1 g2
    clear pB bW P5
    cases bad with
    | true =>
      go_wp2
      go_ret
      exact num_end (by unfold stepN; rw [if_pos (.inl rfl)]) (show BlkIs _ _ _ _ by simpa using p1.put 2 (.bool true)) (K0.setCell (fun h => h rfl) _)
    | false =>
      by_cases h3 : r3 = 0
      · subst h3
        go_wp2
        go_ret
        exact num_end (by unfold stepN; rw [HG.out, if_neg (by simp)]) (show BlkIs _ _ _ _ by simpa using p1.put 1 (.int .i64 r2)) (K0.setCell (fun h => h rfl) _)
      · have h3b : (r3 != 0) = true := by simpa using h3
        go_wp2
        go_ret
        exact num_end (by unfold stepN; rw [HG.out, if_pos (.inr h3)]) (show BlkIs _ _ _ _ by simpa using p1.put 2 (.bool true)) (K0.setCell (fun h => h rfl) _)
end Go.Proofs.YtpjdkgcdkfmkiaaDoor
/- The contract of readNums: a text that is numbers up to its end. -/
namespace Go.Proofs.YtpjdkgcdkfmkiaaDoor
open Go Go.RowKit
set_option linter.unusedVariables false

def ReadNumsPost (s : ByteArray) (w : World) (e : Ending) (w' : World) : Prop :=
  (∃ (l : List Int) (v : Value), WfL l ∧ numsB l = s.data.toList ∧ e = .returned (.tuple #[v, .nilIface]) ∧ w'.ownsRow w.heap.size 2 1 v l.length (numsV l) ∧ Below w.heap.size w w') ∨
  (∃ ps c, c ≠ 0 ∧ (∀ m, WfL m → numsB m ≠ s.data.toList) ∧ e = .returned (.tuple #[.slice none 0 0, errV ps c]) ∧ Below w.heap.size w w')
theorem cells_one (w : World) (t : TypeId) (u : Value) : ∀ (j : Nat) v, [u][j]? = some v → (w.alloc (.cells #[u] t)).cell? ((⟨w.heap.size, 0, none⟩ : Addr).add j) = some v := by
  intro j v h
  rw [addr_add, (BlkIs.new w t #[u]).cell j]
  simpa using h
set_option maxHeartbeats 1000000 in
set_option maxRecDepth 100000 in
theorem readNums_any (s : ByteArray) (w : World) (hs : s.size ≤ 8000) : Calls Tryd.prog 53 #[.string s] w (ReadNumsPost s w) := by
  obtain ⟨i0, hi, hz0, hz1, hz2⟩ := info_partsI
  go_enter Tryd.func53, Tryd.ntmps53
  go_wp2
  go_loopw [5, 4] (fun a v wr => ∃ (p : Nat) (l : List Int), a = .int .i64 p ∧ ReadTo s l p ∧ wr.ownsRow w.heap.size 2 1 v l.length (numsV l) ∧ Below w.heap.size w wr) (fun a _ _ => s.size - (intOf a).toNat)
  case atStart => exact ⟨0, [], rfl, ReadTo.zero s, World.ownsRow_nil _ _ _ _, Below.refl _ _⟩
  case round =>
    obtain ⟨p, l, rfl, hR, hown, hb⟩ := hrel
    have hle := hR.le
    have HR : Hid (ReadTo s l p) := hR
    clear hR
    by_cases hx : p < s.size
    · have hxI : (p : Int) < (s.size : Int) := by omega
      rcases getN_code s (p : Nat) with ⟨n, k, e⟩ | ⟨c, e, hc⟩
      · obtain ⟨q, rfl, hpq, hR2, hll⟩ := HR.out.more e
        have HR2 : Hid (ReadTo s (l ++ [n]) q) := hR2
        have HE : Hid (getN s (p : Nat) = (n, (q : Int), 0)) := e
        have HL : Hid (l.length ≤ s.size) := Nat.le_trans (numsB_ge l) (by rw [← HR.out.2.1]; exact hle)
        have hlen : l.length ≤ 8000 := Nat.le_trans HL.out hs
        have hqle := hR2.le
        have B1 := hb.alloc hb.size (.cells #[.int .i64 n] 2)
        have hown2 := hown.alloc (.cells #[.int .i64 n] 2)
        have HC : Hid (∀ (j : Nat) v, [Value.int .i64 n][j]? = some v → (wr.alloc (.cells #[.int .i64 n] 2)).cell? ((⟨wr.heap.size, 0, none⟩ : Addr).add j) = some v) := cells_one wr 2 (.int .i64 n)
        clear hR2 e hll
        go_wp2_with fail
        refine (readNum_any s _ _).mono ?_
        rintro e w' ⟨⟨ps, rfl⟩, rfl⟩
        rw [numV_ok' HE.out]
        go_wp2_with (at_builtin; refine wpList_append_own _ rfl _ _ 41 rfl w.heap.size 2 i0 (.int .i64 0) 1 8 Tryd.underlying41 hi hz0 hz1 hz2 rfl (by decide) _ _ _ rfl hown2 ⟨w'.heap.size, 0, none⟩ 1 1 [.int .i64 n] rfl rfl HC.out ?c2 ?c3 ?c4 ?c5 ?_)
        case c2 => intro u hu; simp at hu; rw [hu]; rfl
        case c3 => unfold maxLen; omega
        case c4 => omega
        case c5 => exact B1.size
        · intro v' w1 hown' hgrow _
          have hb2 : Below w.heap.size w w1 := B1.grown hgrow B1.size (fun g hg => (hown2.lt g hg).1)
          have ho : w1.ownsRow w.heap.size 2 1 v' (l ++ [n]).length (numsV (l ++ [n])) := by
            rw [numsV_append, List.length_append]
            exact hown'
          clear hown' hgrow hown hown2 B1 HC hb
          go_wp2
          go_roundw
          case rel => exact ⟨q, l ++ [n], rfl, HR2.out, ho, hb2⟩
          case measure => simp [intOf]; omega
      · have HE : Hid (getN s (p : Nat) = (0, 0, c)) := e
        have HN : Hid (∀ m, WfL m → numsB m ≠ s.data.toList) := HR.out.bad hs hx e hc
        clear e
        go_wp2_with fail
        refine (readNum_any s _ _).mono ?_
        rintro e w' ⟨⟨ps, rfl⟩, rfl⟩
        rw [numV_bad' HE.out hc]
        obtain ⟨ty, x, hx'⟩ := errV_iface ps c
        rw [hx']
        have HX : Hid (errV ps c = .iface ty x) := hx'
        clear hx'
        go_wp2
        go_ret2
        exact .inr ⟨ps, c, hc, HN.out, by rw [HX.out]; rfl, hb⟩
    · have hxI : (s.size : Int) ≤ (p : Int) := by omega
      have HA : Hid (numsB l = s.data.toList) := HR.out.all hx
      obtain ⟨aa, cc, rfl, _⟩ := own_nums hown
      go_wp2
      go_ret2
      exact .inl ⟨l, _, HR.out.1, HA.out, rfl, hown, hb⟩
end Go.Proofs.YtpjdkgcdkfmkiaaDoor
