/- The walk of promise 6's law. -/
import Derived.Test.YtpjdkgcdkfmkiaaDoorMDrawB
import Derived.Test.YtpjdkgcdkfmkiaaDoorMReadQ
import Derived.Test.YtpjdkgcdkfmkiaaDoorMBytesI
import Derived.Test.YtpjdkgcdkfmkiaaDoorMReadS
import Derived.Test.YtpjdkgcdkfmkiaaDoorG48
import Derived.Test.YtpjdkgcdkfmkiaaDoorG49
import Derived.Test.YtpjdkgcdkfmkiaaDoorMRight
import Derived.Test.YtpjdkgcdkfmkiaaDoorMRightS
namespace Go.Proofs.YtpjdkgcdkfmkiaaDoor
open Go Go.ChangeShapes Go.WideShapes Go.ChangeAt Go.RowKit
set_option linter.unusedVariables false
set_option linter.unusedSimpArgs false

theorem readIs_exM (s : ByteArray) : ∃ c m, ReadIs s c m := by
  rcases getU_code s with ⟨t, e⟩ | ⟨c, e, hc⟩
  · by_cases h : ∃ m : MailV, m.ok ∧ numsB m.nums = t.data.toList
    · obtain ⟨m, h1, h2⟩ := h
      exact ⟨0, m, .inr ⟨t, e, .inl ⟨h1, h2, rfl⟩⟩⟩
    · exact ⟨3, mailZ, .inr ⟨t, e, .inr ⟨fun m h1 h2 => h ⟨m, h1, h2⟩, rfl, rfl⟩⟩⟩
  · exact ⟨c, mailZ, .inl ⟨hc, e, rfl⟩⟩
theorem readIs_lenM {s : ByteArray} {c : Int} {m : MailV} (h : ReadIs s c m) : m.facts.length ≤ 6 := by
  rcases h with ⟨_, _, rfl⟩ | ⟨t, _, ⟨h, _, _⟩ | ⟨_, _, rfl⟩⟩
  · exact Nat.zero_le _
  · exact rightV_len h.2.2.1
  · exact Nat.zero_le _
/-- Of bytes that are read the mail has these. -/
theorem read_bytes {s : ByteArray} {m : MailV} (h : ReadIs s 0 m) : m.ok ∧ (⟨(m.out true).toArray⟩ : ByteArray) = s := by
  rcases h with ⟨h, _, _⟩ | ⟨t, hU, ⟨hm, hn, _⟩ | ⟨_, h, _⟩⟩
  · exact absurd rfl h
  · refine ⟨hm, ?_⟩
    obtain ⟨ht, hs⟩ := getU_le hU
    apply WideShapes.bytes_inj
    rw [← hs]
    show (sealB ⟨(numsB m.nums).toArray⟩).toArray.toList = _
    rw [List.toList_toArray]
    congr 1
    apply WideShapes.bytes_inj
    simpa using hn
  · exact absurd h (by omega)
/-- A right mail comes back from its bytes. -/
theorem mail_back {m : MailV} (h : m.ok) : ReadIs ⟨(m.bytes).toArray⟩ 0 m := by
  have hs := bytes_small h
  refine .inr ⟨⟨(numsB m.nums).toArray⟩, ?_, .inl ⟨h, by simp, rfl⟩⟩
  exact getU_seal hs
theorem mail_turned {m : MailV} (h : m.ok) (i : Nat) (d : UInt8) (hi : i < m.bytes.length) (hd : d ≠ m.bytes[i]) : ReadIs ⟨(m.bytes.set i d).toArray⟩ 5 mailZ :=
  .inl ⟨by omega, getU_turned (bytes_small h) i d hi hd, rfl⟩
theorem mail_bytes_len {m : MailV} (h : m.ok) : 4 ≤ m.bytes.length ∧ m.bytes.length ≤ 8000 := by
  have hs := bytes_small h
  have := sealB_len hs
  unfold MailV.bytes
  omega
theorem field_code (x0 x1 x2 x3 x4 x5 x6 x7 : Value) (w : World) : (Instr.field 30 (.agg #[x0, x1, x2, x3, x4, x5, x6, x7]) 1).run Tryd.prog w = .ok x7 w := by kernel_rfl
set_option maxHeartbeats 8000000 in
set_option maxRecDepth 100000 in
theorem FnMail_walk (a0 : Option Addr) (len0 cap0 : Nat) (z0 : List Int) (a1 : Option Addr) (len1 cap1 : Nat) (z1 : List Int) (w : World) (w0 : ByteRow w a0 len0 cap0 z0) (w1 : ByteRow w a1 len1 cap1 z1) (hg : errCell w) :
    Calls Tryd.prog 3 #[.slice a0 len0 cap0, .slice a1 len1 cap1] w fun e w' => e = .returned (.bool true) ∧ Below w.heap.size w w' := by
  by_cases hs0 : 1048576 < (len0 : Int)
  · go_enter Tryd.func3, Tryd.ntmps3
    go_wp2
    go_ret
    exact ⟨rfl, Below.refl _ _⟩
  by_cases hs1 : 1048576 < (len1 : Int)
  · go_enter Tryd.func3, Tryd.ntmps3
    go_wp2
    go_ret
    exact ⟨rfl, Below.refl _ _⟩
  go_enter Tryd.func3, Tryd.ntmps3
  go_wp2_with fail
  refine (drawMB_any a0 len0 cap0 z0 w (by omega) w0).mono ?_
  rintro e x1 ⟨⟨m0, m1, m2, m3, m4, m5, ml⟩, p, c, rfl, rwm, hl7, B⟩
  have rm : CellRow x1 p (cellsOf FactV.cells ml) := by
    obtain ⟨_, _, _, _, h⟩ := rwm
    exact h
  unfold mailVal
  dsimp only at hl7 ⊢
  have hml : ml.length ≤ 1048576 := by omega
  replace hg := hg.keep B
  replace w1 := w1.below B
  clear w0 rwm hl7
  obtain ⟨q, hq⟩ := tells_bool (MailV.ok ⟨m0, m1, m2, m3, m4, m5, ml⟩)
  have HQ : Hid (q = true ↔ MailV.ok ⟨m0, m1, m2, m3, m4, m5, ml⟩) := hq
  obtain ⟨T, hT⟩ : ∃ T, MailV.out ⟨m0, m1, m2, m3, m4, m5, ml⟩ q = T := ⟨_, rfl⟩
  have HT : Hid (MailV.out ⟨m0, m1, m2, m3, m4, m5, ml⟩ q = T) := hT
  clear hq hT
  go_upto_region 4 with fail
  have bA : Below x1.heap.size x1 (x1.alloc (.cells #[.int .i64 m0, .int .i64 m1, .int .i64 m2, .int .i64 m3, .int .i64 m4, .int .i64 m5, .slice p ml.length c] 25)) := (Below.refl _ _).alloc (Nat.le_refl _) _
  have P5 := BlkIs.new x1 25 #[.int .i64 m0, .int .i64 m1, .int .i64 m2, .int .i64 m3, .int .i64 m4, .int .i64 m5, .slice p ml.length c]
  replace B := B.trans (bA.mono B.size)
  replace rm := rm.keep bA
  replace hg := hg.keep bA
  replace w1 := w1.below bA
  clear bA
  generalize x1.alloc (.cells #[.int .i64 m0, .int .i64 m1, .int .i64 m2, .int .i64 m3, .int .i64 m4, .int .i64 m5, .slice p ml.length c] 25) = y1 at *
  obtain ⟨k5, hk5⟩ : ∃ k5, x1.heap.size = k5 := ⟨_, rfl⟩
  rw [hk5] at P5 ⊢
  clear hk5
  obtain ⟨g0, g1, g2, g3, g4, g5, g6⟩ := blk7_cells P5
  go_wp2_with fail
  refine (implMBytes_any m0 m1 m2 m3 m4 m5 p c ml y1 q HQ.out hml rm).mono ?_
  rintro e x2 ⟨rfl, bb⟩
  rw [HT.out]
  replace B := B.trans (bb.mono B.size)
  replace P5 := P5.keep bb
  replace rm := rm.keep bb
  replace hg := hg.keep bb
  replace w1 := w1.below bb
  clear bb g0 g1 g2 g3 g4 g5 g6
  go_wp2_with fail
  refine (drawMR_any a1 len1 cap1 z1 x2 (by omega) w1).mono ?_
  rintro e x3 ⟨u, rfl, hu, bb⟩
  replace B := B.trans (bb.mono B.size)
  replace P5 := P5.keep bb
  replace rm := rm.keep bb
  replace hg := hg.keep bb
  replace w1 := w1.below bb
  clear bb
  obtain ⟨cx, ⟨n0, n1, n2, n3, n4, n5, xl⟩, hR⟩ := readIs_exM u
  have hxl0 := readIs_lenM hR
  dsimp only at hxl0
  have hxl : xl.length ≤ 1048576 := by omega
  have HR : Hid (ReadIs u cx ⟨n0, n1, n2, n3, n4, n5, xl⟩) := hR
  clear hR hxl0
  go_wp2_with fail
  refine (implMRead_any u cx ⟨n0, n1, n2, n3, n4, n5, xl⟩ x3 HR.out hg).mono ?_
  rintro e x4 ⟨v8, rfl, own8, bb⟩
  dsimp only at own8
  obtain ⟨p8, c8, rfl, o8, _⟩ := own_sl own8
  have r8 := o8.row
  unfold mailOutV
  dsimp only
  replace B := B.trans (bb.mono B.size)
  replace P5 := P5.keep bb
  replace rm := rm.keep bb
  replace hg := hg.keep bb
  replace w1 := w1.below bb
  clear bb own8 o8
  go_upto_region 7 with fail
  have bA : Below x4.heap.size x4 (x4.alloc (.cells #[.int .i64 n0, .int .i64 n1, .int .i64 n2, .int .i64 n3, .int .i64 n4, .int .i64 n5, .slice p8 xl.length c8, .int .i64 cx] 30)) := (Below.refl _ _).alloc (Nat.le_refl _) _
  have P8 := BlkIs.new x4 30 #[.int .i64 n0, .int .i64 n1, .int .i64 n2, .int .i64 n3, .int .i64 n4, .int .i64 n5, .slice p8 xl.length c8, .int .i64 cx]
  replace B := B.trans (bA.mono B.size)
  replace P5 := P5.keep bA
  replace rm := rm.keep bA
  replace r8 := r8.keep bA
  replace hg := hg.keep bA
  replace w1 := w1.below bA
  clear bA
  generalize x4.alloc (.cells #[.int .i64 n0, .int .i64 n1, .int .i64 n2, .int .i64 n3, .int .i64 n4, .int .i64 n5, .slice p8 xl.length c8, .int .i64 cx] 30) = y4 at *
  obtain ⟨k8, hk8⟩ : ∃ k8, x4.heap.size = k8 := ⟨_, rfl⟩
  rw [hk8] at P8 ⊢
  clear hk8
  go_cut [44] (fun v wc => v = .bool false ∧ Below y4.heap.size y4 wc)
  case first =>
    as_aux_lemma =>
      refine wp_region_held_drew (S := fun x => Below y4.heap.size y4 x) (by kernel_rfl) (Below.refl _ _).drew (fun hHeld => ?_)
      refine takeG 0 (v := .string ⟨T.toArray⟩) rfl (by kernel_rfl) (by kernel_rfl) (by kernel_rfl) (by kernel_rfl) (fun _ _ _ h => h) ?hy (by assumption) ?_
      case hy => (intro w' hSw; go_simp)
      try simp only [List.setIfInBounds_toArray, List.set_cons_zero, List.set_cons_succ]
      refine takeG 1 (v := .agg #[.int .i64 m0, .int .i64 m1, .int .i64 m2, .int .i64 m3, .int .i64 m4, .int .i64 m5, .slice p ml.length c]) rfl (by kernel_rfl) (by kernel_rfl) (by kernel_rfl) (by kernel_rfl) (fun _ _ _ h => h) ?hy (by assumption) ?_
      case hy => (intro w' hSw; have i0 := (P5.keep hSw).cell 0; have i1 := (P5.keep hSw).cell 1; have i2 := (P5.keep hSw).cell 2; have i3 := (P5.keep hSw).cell 3; have i4 := (P5.keep hSw).cell 4; have i5 := (P5.keep hSw).cell 5; have i6 := (P5.keep hSw).cell 6; (simp only [List.getElem?_toArray, List.getElem?_cons_zero, List.getElem?_cons_succ] at i0 i1 i2 i3 i4 i5 i6); go_simp)
      try simp only [List.setIfInBounds_toArray, List.set_cons_zero, List.set_cons_succ]
      refine runG 2 (by kernel_rfl) rfl (by kernel_rfl) ?_
      go_simp
      refine (specMBytes_any m0 m1 m2 m3 m4 m5 p c ml _ q HQ.out hml (rm.keep hHeld)).mono ?_
      rintro e s1 ⟨rfl, bb⟩
      have hs1 : Below y4.heap.size y4 s1 := hHeld.trans (bb.mono hHeld.size)
      rw [HT.out]
      refine ⟨hs1, ?_⟩
      clear hHeld bb
      try simp only [List.setIfInBounds_toArray, List.set_cons_zero, List.set_cons_succ]
      refine takeG 3 (v := .bool false) rfl (by kernel_rfl) (by kernel_rfl) (by kernel_rfl) (by kernel_rfl) (fun _ _ _ h => h) ?hy (by assumption) ?_
      case hy => (intro w' hSw; go_simp)
      try simp only [List.setIfInBounds_toArray, List.set_cons_zero, List.set_cons_succ]
      refine takeG 4 (v := .bool false) rfl (by kernel_rfl) (by kernel_rfl) (by kernel_rfl) (by kernel_rfl) (fun _ _ _ h => h) ?hy (by assumption) ?_
      case hy => (intro w' hSw; go_simp)
      try simp only [List.setIfInBounds_toArray, List.set_cons_zero, List.set_cons_succ]
      refine takeG 5 (v := .agg #[.int .i64 n0, .int .i64 n1, .int .i64 n2, .int .i64 n3, .int .i64 n4, .int .i64 n5, .slice p8 xl.length c8, .int .i64 cx]) rfl (by kernel_rfl) (by kernel_rfl) (by kernel_rfl) (by kernel_rfl) (fun _ _ _ h => h) ?hy (by assumption) ?_
      case hy => (intro w' hSw; have i0 := (P8.keep hSw).cell 0; have i1 := (P8.keep hSw).cell 1; have i2 := (P8.keep hSw).cell 2; have i3 := (P8.keep hSw).cell 3; have i4 := (P8.keep hSw).cell 4; have i5 := (P8.keep hSw).cell 5; have i6 := (P8.keep hSw).cell 6; have i7 := (P8.keep hSw).cell 7; (simp only [List.getElem?_toArray, List.getElem?_cons_zero, List.getElem?_cons_succ] at i0 i1 i2 i3 i4 i5 i6 i7); go_simp)
      try simp only [List.setIfInBounds_toArray, List.set_cons_zero, List.set_cons_succ]
      refine takeG 6 (v := .string u) rfl (by kernel_rfl) (by kernel_rfl) (by kernel_rfl) (by kernel_rfl) (fun _ _ _ h => h) ?hy (by assumption) ?_
      case hy => (intro w' hSw; go_simp)
      try simp only [List.setIfInBounds_toArray, List.set_cons_zero, List.set_cons_succ]
      refine runG 7 (by kernel_rfl) rfl (by kernel_rfl) ?_
      go_simp
      refine (specMRead_any u cx ⟨n0, n1, n2, n3, n4, n5, xl⟩ _ HR.out).mono ?_
      rintro e s2 ⟨vs2, rfl, owns2, bb⟩
      have hs2 : Below y4.heap.size y4 s2 := hs1.trans (bb.mono hs1.size)
      dsimp only at owns2
      obtain ⟨ps2, cs2, rfl, os2, _⟩ := own_sl owns2
      have rs2 := os2.row
      unfold mailOutV
      dsimp only
      clear owns2 os2
      refine ⟨hs2, ?_⟩
      clear hs1 bb
      try simp only [List.setIfInBounds_toArray, List.set_cons_zero, List.set_cons_succ]
      refine runG 8 (by kernel_rfl) rfl (by kernel_rfl) ?_
      go_simp
      refine (lwMailOut_same n0 n1 n2 n3 n4 n5 cx p8 ps2 c8 cs2 xl _ hxl (r8.keep hs2) rs2).mono ?_
      rintro e s3 ⟨rfl, bb⟩
      have hs3 : Below y4.heap.size y4 s3 := hs2.trans (bb.mono hs2.size)
      refine ⟨hs3, ?_⟩
      clear hs2 bb
      try simp only [List.setIfInBounds_toArray, List.set_cons_zero, List.set_cons_succ]
      refine takeG 9 (v := .bool false) rfl (by kernel_rfl) (by kernel_rfl) (by kernel_rfl) (by kernel_rfl) (fun _ _ _ h => h) ?hy (by assumption) ?_
      case hy => (intro w' hSw; go_simp)
      try simp only [List.setIfInBounds_toArray, List.set_cons_zero, List.set_cons_succ]
      refine takeG 10 (v := .bool false) rfl (by kernel_rfl) (by kernel_rfl) (by kernel_rfl) (by kernel_rfl) (fun _ _ _ h => h) ?hy (by assumption) ?_
      case hy => (intro w' hSw; go_simp)
      try simp only [List.setIfInBounds_toArray, List.set_cons_zero, List.set_cons_succ]
      refine takeG 11 (v := .bool false) rfl (by kernel_rfl) (by kernel_rfl) (by kernel_rfl) (by kernel_rfl) (fun _ _ _ h => h) ?hy (by assumption) ?_
      case hy => (intro w' hSw; go_simp)
      try simp only [List.setIfInBounds_toArray, List.set_cons_zero, List.set_cons_succ]
      refine takeG 12 (v := .agg #[.int .i64 m0, .int .i64 m1, .int .i64 m2, .int .i64 m3, .int .i64 m4, .int .i64 m5, .slice p ml.length c]) rfl (by kernel_rfl) (by kernel_rfl) (by kernel_rfl) (by kernel_rfl) (fun _ _ _ h => h) ?hy (by assumption) ?_
      case hy => (intro w' hSw; have i0 := (P5.keep hSw).cell 0; have i1 := (P5.keep hSw).cell 1; have i2 := (P5.keep hSw).cell 2; have i3 := (P5.keep hSw).cell 3; have i4 := (P5.keep hSw).cell 4; have i5 := (P5.keep hSw).cell 5; have i6 := (P5.keep hSw).cell 6; (simp only [List.getElem?_toArray, List.getElem?_cons_zero, List.getElem?_cons_succ] at i0 i1 i2 i3 i4 i5 i6); go_simp)
      try simp only [List.setIfInBounds_toArray, List.set_cons_zero, List.set_cons_succ]
      refine takeG 14 (v := .agg #[.int .i64 m0, .int .i64 m1, .int .i64 m2, .int .i64 m3, .int .i64 m4, .int .i64 m5, .slice p ml.length c]) rfl (by kernel_rfl) (by kernel_rfl) (by kernel_rfl) (by kernel_rfl) (fun _ _ _ h => h) ?hy (by assumption) ?_
      case hy => (intro w' hSw; have i0 := (P5.keep hSw).cell 0; have i1 := (P5.keep hSw).cell 1; have i2 := (P5.keep hSw).cell 2; have i3 := (P5.keep hSw).cell 3; have i4 := (P5.keep hSw).cell 4; have i5 := (P5.keep hSw).cell 5; have i6 := (P5.keep hSw).cell 6; (simp only [List.getElem?_toArray, List.getElem?_cons_zero, List.getElem?_cons_succ] at i0 i1 i2 i3 i4 i5 i6); go_simp)
      try simp only [List.setIfInBounds_toArray, List.set_cons_zero, List.set_cons_succ]
      refine runG 13 (by kernel_rfl) rfl (by kernel_rfl) ?_
      go_simp
      refine (implMRight_is m0 m1 m2 m3 m4 m5 p c ml _ q HQ.out hml (rm.keep hs3)).mono ?_
      rintro e s4 ⟨rfl, bb⟩
      have hs4 : Below y4.heap.size y4 s4 := hs3.trans (bb.mono hs3.size)
      refine ⟨hs4, ?_⟩
      clear hs3 bb
      try simp only [List.setIfInBounds_toArray, List.set_cons_zero, List.set_cons_succ]
      refine runG 15 (by kernel_rfl) rfl (by kernel_rfl) ?_
      go_simp
      refine (specMRight_is m0 m1 m2 m3 m4 m5 p c ml _ q HQ.out hml (rm.keep hs4)).mono ?_
      rintro e s5 ⟨rfl, bb⟩
      have hs5 : Below y4.heap.size y4 s5 := hs4.trans (bb.mono hs4.size)
      refine ⟨hs5, ?_⟩
      clear hs4 bb
      try simp only [List.setIfInBounds_toArray, List.set_cons_zero, List.set_cons_succ]
      refine takeG 16 (v := .bool false) rfl (by kernel_rfl) (by kernel_rfl) (by kernel_rfl) (by kernel_rfl) (fun _ _ _ h => h) ?hy (by assumption) ?_
      case hy => (intro w' hSw; go_simp)
      try simp only [List.setIfInBounds_toArray, List.set_cons_zero, List.set_cons_succ]
      refine takeG 17 (v := .bool false) rfl (by kernel_rfl) (by kernel_rfl) (by kernel_rfl) (by kernel_rfl) (fun _ _ _ h => h) ?hy (by assumption) ?_
      case hy => (intro w' hSw; go_simp)
      try simp only [List.setIfInBounds_toArray, List.set_cons_zero, List.set_cons_succ]
      refine wpAnyH_done (by kernel_rfl) ?_ _
      go_wp2_with fail
      go_meet
      case rel => exact ⟨rfl, hs5⟩
  case rest =>
  obtain ⟨hv, bc⟩ := hcut
  subst hv
  have P8c := P8.keep bc
  have d7 := P8c.cell 7
  simp only [List.getElem?_toArray, List.getElem?_cons_zero, List.getElem?_cons_succ] at d7
  go_upto_region 9 with fail
  go_cut [54] (fun v wd => v = .bool false ∧ Below y4.heap.size y4 wd)
  case first =>
    by_cases hcx : cx = 0
    · subst hcx
      obtain ⟨hok, hby⟩ := read_bytes HR.out
      have HB : Hid ((⟨(MailV.out ⟨n0, n1, n2, n3, n4, n5, xl⟩ true).toArray⟩ : ByteArray) = u) := hby
      have HO : Hid (MailV.ok ⟨n0, n1, n2, n3, n4, n5, xl⟩) := hok
      clear hok hby
      obtain ⟨e0, e1, e2, e3, e4, e5, e6, e7⟩ := blk8_cells P8c
      go_wp2_with fail
      refine (implMBytes_any n0 n1 n2 n3 n4 n5 p8 c8 xl wc true ⟨fun _ => HO.out, fun _ => rfl⟩ hxl (r8.keep bc)).mono ?_
      rintro e z1 ⟨rfl, bb⟩
      rw [HB.out]
      have bd := bc.trans (bb.mono bc.size)
      clear bb bc
      go_wp2
      go_meet
      case rel => exact ⟨rfl, bd⟩
    · have hcb : (cx == 0) = false := by simpa using hcx
      go_wp2
      go_meet
      case rel => exact ⟨rfl, bc⟩
  case rest =>
  clear P8c d7 bc
  obtain ⟨hv, bd⟩ := hcut
  subst hv
  obtain ⟨wd, hwd0⟩ : ∃ y, y = wc := ⟨wc, rfl⟩
  rw [← hwd0] at bd ⊢
  clear hwd0
  cases q with
  | false =>
    obtain rfl : T = [] := HT.out.symm
    clear HQ HR
    go_wp2
    go_ret
    exact ⟨rfl, B.trans (bd.mono B.size)⟩
  | true =>
  have HO : Hid (MailV.ok ⟨m0, m1, m2, m3, m4, m5, ml⟩) := by
    have h : MailV.ok ⟨m0, m1, m2, m3, m4, m5, ml⟩ := by simpa using HQ.out
    exact h
  have hSl := mail_bytes_len HO.out
  have HS : Hid (MailV.bytes ⟨m0, m1, m2, m3, m4, m5, ml⟩ = T) := HT.out
  have HTU : Hid (∀ (i : Nat) (d : UInt8) (hi : i < T.length), d ≠ T[i] → ReadIs ⟨(T.set i d).toArray⟩ 5 mailZ) := by
    have e := HS.out
    subst e
    exact fun i d hi hd => mail_turned HO.out i d hi hd
  have HBK : Hid (ReadIs ⟨T.toArray⟩ 0 ⟨m0, m1, m2, m3, m4, m5, ml⟩) := by
    have e := HS.out
    subst e
    exact mail_back HO.out
  rw [HS.out] at hSl
  have hSn : ¬ T = [] := by intro h; rw [h] at hSl; simp at hSl
  have hSe : T.isEmpty = false := by cases T with | nil => simp at hSl | cons c r => rfl
  have hS1 : T.length ≤ 8000 := hSl.2
  have hS2 : 4 ≤ T.length := hSl.1
  clear hSl HQ HR HT HS HO P8 r8
  obtain ⟨capc, x5, hcv, hcell, hfz, b4, hx4⟩ := conv_bytes T wd
  have be := bd.trans (b4.mono bd.size)
  have w4 := w1.below be
  have hwd := bd.size
  go_wp2_with fail
  refine (lwAt_any a1 len1 cap1 z1 0 T.length _ (by omega) w4 (by omega) (by omega) (by omega)).mono ?_
  rintro e x6 ⟨r, rfl, hr0, hr1, rfl⟩
  obtain ⟨k, rfl⟩ := Int.eq_ofNat_of_zero_le hr0
  have hk : k < T.length := by have := hr1 (by omega); omega
  have hck := hcell k hk
  have hfk := hfz k hk
  obtain ⟨ch, hc⟩ : ∃ ch, T[k] = ch := ⟨_, rfl⟩
  rw [hc] at hck
  have HC : Hid (T[k] = ch) := hc
  obtain ⟨cb, hcb⟩ : ∃ cb, wd.heap.size = cb := ⟨_, rfl⟩
  rw [hcb] at hck hfk hcell hwd hx4 ⊢
  have HL : Hid (∀ j (hj : j < T.length), x6.cell? ⟨cb, j, none⟩ = some (.int .u8 (T[j].toNat : Int))) := hcell
  clear hc hcell hfz hr0 hr1 hcv hcb b4 bd
  go_upto_region 15 with fail
  go_cut [] (fun wc => ∃ d : UInt8, d ≠ ch ∧ (∀ j (hj : j < (T.set k d).length), wc.cell? ⟨cb, j, none⟩ = some (.int .u8 ((T.set k d)[j].toNat : Int))) ∧ Below y4.heap.size y4 wc ∧ cb < wc.heap.size)
  case first =>
    go_region_with (go_at_call 14; refine (lwAt_any a1 len1 cap1 z1 1 255 _ (by omega) (by exact w4) (by omega) (by omega) (by omega)).mono ?_; rintro e x7 ⟨r, rfl, hr0, hr1, rfl⟩)
    all_goals
      obtain ⟨d, hd, hx⟩ := turn_byte ch hr0 (hr1 (by omega))
      rw [wrap_turn hr0 (hr1 (by omega)), hx]
      go_wp2
      go_meet
      case rel => exact ⟨d, hd, set_cells hk HL.out, (be.setCell hwd _).drew, by show _ < (World.setCell _ _ _).heap.size; simp [World.setCell]; omega⟩
  case rest =>
  obtain ⟨z, hz0⟩ : ∃ y, y = wc := ⟨wc, rfl⟩
  rw [← hz0] at hcut ⊢
  clear hz0
  obtain ⟨d, hd, hcs, bz, hzl⟩ := hcut
  have HV : Hid (ReadIs ⟨(T.set k d).toArray⟩ 5 mailZ) := HTU.out k d hk (by rw [HC.out]; exact hd)
  have HCS : Hid (∀ j (hj : j < (T.set k d).length), z.cell? ⟨cb, j, none⟩ = some (.int .u8 ((T.set k d)[j].toNat : Int))) := hcs
  have PZ := P5.keep bz
  have rz := rm.keep bz
  have gz := hg.keep bz
  have BZ := B.trans (bz.mono B.size)
  have HLS : Hid ((T.set k d).length = T.length) := List.length_set
  obtain ⟨TS, hTS⟩ : ∃ TS, T.set k d = TS := ⟨_, rfl⟩
  rw [hTS] at HV HCS HLS
  have fc := field_code
  clear HL hck hfk w4 be HTU hcs hd HC hTS P5 rm hg B bz w1 hk hwd hx4
  go_upto_region 16 with fail
  refine wp_region_held_drew (S := fun x => Below z.heap.size z x) (by kernel_rfl) (Below.refl _ _).drew (fun hHeld => ?_)
  refine takeG 0 (v := .string ⟨T.toArray⟩) rfl (by kernel_rfl) (by kernel_rfl) (by kernel_rfl) (by kernel_rfl) (fun _ _ _ h => h) ?hy (by assumption) ?_
  case hy => (intro w' hSw; go_simp)
  try simp only [List.setIfInBounds_toArray, List.set_cons_zero, List.set_cons_succ]
  refine takeG 2 (v := .agg #[.int .i64 m0, .int .i64 m1, .int .i64 m2, .int .i64 m3, .int .i64 m4, .int .i64 m5, .slice p ml.length c]) rfl (by kernel_rfl) (by kernel_rfl) (by kernel_rfl) (by kernel_rfl) (fun _ _ _ h => h) ?hy (by assumption) ?_
  case hy => (intro w' hSw; have i0 := (PZ.keep hSw).cell 0; have i1 := (PZ.keep hSw).cell 1; have i2 := (PZ.keep hSw).cell 2; have i3 := (PZ.keep hSw).cell 3; have i4 := (PZ.keep hSw).cell 4; have i5 := (PZ.keep hSw).cell 5; have i6 := (PZ.keep hSw).cell 6; (simp only [List.getElem?_toArray, List.getElem?_cons_zero, List.getElem?_cons_succ] at i0 i1 i2 i3 i4 i5 i6); go_simp)
  try simp only [List.setIfInBounds_toArray, List.set_cons_zero, List.set_cons_succ]
  refine takeG 3 (v := .agg #[.int .i64 m0, .int .i64 m1, .int .i64 m2, .int .i64 m3, .int .i64 m4, .int .i64 m5, .slice p ml.length c, .int .i64 0]) rfl (by kernel_rfl) (by kernel_rfl) (by kernel_rfl) (by kernel_rfl) (fun _ _ _ h => h) ?hy (by assumption) ?_
  case hy => (intro w' hSw; go_simp)
  try simp only [List.setIfInBounds_toArray, List.set_cons_zero, List.set_cons_succ]
  refine runG 1 (by kernel_rfl) rfl (by kernel_rfl) ?_
  go_simp
  refine (implMRead_any ⟨T.toArray⟩ 0 ⟨m0, m1, m2, m3, m4, m5, ml⟩ _ HBK.out (gz.keep hHeld)).mono ?_
  rintro e v1 ⟨vv1, rfl, ownv1, bb⟩
  have hv1 : Below z.heap.size z v1 := hHeld.trans (bb.mono hHeld.size)
  dsimp only at ownv1
  obtain ⟨pv1, cv1, rfl, ov1, _⟩ := own_sl ownv1
  have rv1 := ov1.row
  unfold mailOutV
  dsimp only
  clear ownv1 ov1
  refine ⟨hv1, ?_⟩
  clear hHeld bb
  try simp only [List.setIfInBounds_toArray, List.set_cons_zero, List.set_cons_succ]
  refine runG 4 (by kernel_rfl) rfl (by kernel_rfl) ?_
  go_simp
  refine (lwMailOut_same m0 m1 m2 m3 m4 m5 0 pv1 p cv1 c ml _ hml rv1 (rz.keep hv1)).mono ?_
  rintro e v2 ⟨rfl, bb⟩
  have hv2 : Below z.heap.size z v2 := hv1.trans (bb.mono hv1.size)
  refine ⟨hv2, ?_⟩
  clear hv1 bb
  try simp only [List.setIfInBounds_toArray, List.set_cons_zero, List.set_cons_succ]
  refine takeG 5 (v := .bool true) rfl (by kernel_rfl) (by kernel_rfl) (by kernel_rfl) (by kernel_rfl) (fun _ _ _ h => h) ?hy (by assumption) ?_
  case hy => (intro w' hSw; go_simp)
  try simp only [List.setIfInBounds_toArray, List.set_cons_zero, List.set_cons_succ]
  refine takeG 6 (v := .slice (some ⟨cb, 0, none⟩) T.length capc) rfl (by kernel_rfl) (by kernel_rfl) (by kernel_rfl) (by kernel_rfl) (fun _ _ _ h => h) ?hy (by assumption) ?_
  case hy => (intro w' hSw; go_simp)
  try simp only [List.setIfInBounds_toArray, List.set_cons_zero, List.set_cons_succ]
  refine takeG 7 (v := .string ⟨TS.toArray⟩) rfl (by kernel_rfl) (by kernel_rfl) (by kernel_rfl) (by kernel_rfl) (fun _ _ _ h => h) ?hy (by assumption) ?_
  case hy =>
    intro w' hSw
    have hcv := run_convert_bytes_back (P := Tryd.prog) w' 22 9 5 ⟨cb, 0, none⟩ capc TS Tryd.underlying22 Tryd.underlying5 Tryd.underlying9 (fun j hj => by
      rw [addr_add, hSw.cell (p := ⟨cb, j, none⟩) hzl]
      exact HCS.out j hj)
    rw [HLS.out] at hcv
    go_simp
  try simp only [List.setIfInBounds_toArray, List.set_cons_zero, List.set_cons_succ]
  refine runG 8 (by kernel_rfl) rfl (by kernel_rfl) ?_
  go_simp
  refine (implMRead_any ⟨TS.toArray⟩ 5 mailZ _ HV.out (gz.keep hv2)).mono ?_
  rintro e v3 ⟨vv3, rfl, ownv3, bb⟩
  have hv3 : Below z.heap.size z v3 := hv2.trans (bb.mono hv2.size)
  obtain ⟨pv3, cv3, rfl, ov3, _⟩ := own_sl ownv3
  unfold mailOutV mailZ
  dsimp only
  clear ownv3 ov3
  refine ⟨hv3, ?_⟩
  clear hv2 bb
  try simp only [List.setIfInBounds_toArray, List.set_cons_zero, List.set_cons_succ]
  refine takeG 9 (v := .int .i64 5) rfl (by kernel_rfl) (by kernel_rfl) (by kernel_rfl) (by kernel_rfl) (fun _ _ _ h => h) ?hy (by assumption) ?_
  case hy => (intro w' hSw; go_simp)
  try simp only [List.setIfInBounds_toArray, List.set_cons_zero, List.set_cons_succ]
  refine takeG 10 (v := .bool true) rfl (by kernel_rfl) (by kernel_rfl) (by kernel_rfl) (by kernel_rfl) (fun _ _ _ h => h) ?hy (by assumption) ?_
  case hy => (intro w' hSw; go_simp)
  try simp only [List.setIfInBounds_toArray, List.set_cons_zero, List.set_cons_succ]
  refine takeG 11 (v := .bool true) rfl (by kernel_rfl) (by kernel_rfl) (by kernel_rfl) (by kernel_rfl) (fun _ _ _ h => h) ?hy (by assumption) ?_
  case hy => (intro w' hSw; go_simp)
  try simp only [List.setIfInBounds_toArray, List.set_cons_zero, List.set_cons_succ]
  refine takeG 12 (v := .bool true) rfl (by kernel_rfl) (by kernel_rfl) (by kernel_rfl) (by kernel_rfl) (fun _ _ _ h => h) ?hy (by assumption) ?_
  case hy => (intro w' hSw; go_simp)
  try simp only [List.setIfInBounds_toArray, List.set_cons_zero, List.set_cons_succ]
  refine wpAnyH_done (by kernel_rfl) ?_ _
  go_wp2
  go_ret
  exact ⟨rfl, BZ.trans (hv3.mono BZ.size)⟩
end Go.Proofs.YtpjdkgcdkfmkiaaDoor
