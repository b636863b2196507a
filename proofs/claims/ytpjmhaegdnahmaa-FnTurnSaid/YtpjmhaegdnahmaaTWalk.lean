/- The walk of promise 8's law. -/
import Derived.Test.YtpjmhaegdnahmaaTLw
namespace Go.Proofs.Ytpjmhaegdnahmaa
open Go Go.RowKit
set_option linter.unusedVariables false
set_option linter.unusedSimpArgs false

theorem some_once {nodes : List Int} {many seed : Int} {l : List Int} {s : Int} (h : SomeIs nodes many seed l s) (i : Nat) (hi : i < l.length) : manyL l l[i] = 1 ∧ manyL nodes l[i] = 1 := by
  rcases h with ⟨h, rfl, _⟩ | ⟨_, rfl, _⟩
  · have hp : (mixL (nodes.length - 1) nodes seed).1.Perm nodes := by
      by_cases hn : nodes = []
      · subst hn
        have : (mixL ([] : List Int).length [] seed).1.length = 0 := mixL_length _ _ _
        rw [show (mixL (([] : List Int).length - 1) [] seed).1 = [] from List.eq_nil_of_length_eq_zero (mixL_length _ _ _)]
      · exact mixL_perm _ nodes seed (by cases nodes with | nil => exact absurd rfl hn | cons _ _ => simp)
    have hnd : (someL nodes many seed).Pairwise (· ≠ ·) := ((hp.pairwise_iff (fun {a b} (q : a ≠ b) => q.symm)).2 h.1.1.2).sublist (List.take_sublist _ _)
    have hm := List.getElem_mem hi
    exact ⟨many_in hnd hm, many_in h.1.1.2 (hp.mem_iff.1 (List.take_subset _ _ hm))⟩
  · simp at hi
set_option maxHeartbeats 16000000 in
set_option maxRecDepth 100000 in
theorem FnTurn_walk (a0 : Option Addr) (len0 cap0 : Nat) (z0 : List Int) (a1 : Option Addr) (len1 cap1 : Nat) (z1 : List Int) (w : World) (w0 : ByteRow w a0 len0 cap0 z0) (w1 : ByteRow w a1 len1 cap1 z1) :
    Calls Try.prog 3 #[.slice a0 len0 cap0, .slice a1 len1 cap1] w fun e w' => e = .returned (.bool true) ∧ Below w.heap.size w w' := by
  by_cases hs0 : 1048576 < (len0 : Int)
  · go_enter Try.func3, Try.ntmps3
    go_wp2
    go_ret
    exact ⟨rfl, Below.refl _ _⟩
  by_cases hs1 : 1048576 < (len1 : Int)
  · go_enter Try.func3, Try.ntmps3
    go_wp2
    go_ret
    exact ⟨rfl, Below.refl _ _⟩
  go_enter Try.func3, Try.ntmps3
  go_wp2_with fail
  refine (drawTNext_any a0 len0 cap0 z0 w (by omega) w0).mono ?_
  rintro e x1 ⟨v1, l, at0, v2, nl, seed, rfl, hl7, OT, hnl, RN, B⟩
  have htc0 := @row_cap
  obtain ⟨ta, tc, rfl, rT0⟩ := own_nums OT
  have htc := row_cap OT
  have rT := rT0.row
  obtain ⟨own2, gn, gc, rfl⟩ := RN
  obtain ⟨_, _, e', rN0⟩ := own_nums own2
  simp only [Value.slice.injEq, true_and] at e'
  obtain ⟨rfl, rfl⟩ := e'
  have rN := rN0.row
  have hgc := row_cap own2
  have HGN : Hid (gn < x1.heap.size) := (own2.lt gn rfl).2
  replace w1 := w1.below B
  obtain ⟨o, hP⟩ := tnext_ex ⟨l, at0⟩ nl seed
  have ho6 := tnext_len hP
  obtain ⟨ol, oat, ond, osd, oc⟩ := o
  dsimp only at ho6
  have HP : Hid (TNextIs ⟨l, at0⟩ nl seed ⟨ol, oat, ond, osd, oc⟩) := hP
  unfold turnV
  clear w0 hP htc0 OT rT0 rN0 own2
  have bA : Below x1.heap.size x1 (x1.alloc (.cells #[.slice ta l.length tc, .int .i64 at0] 25)) := (Below.refl _ _).alloc (Nat.le_refl _) _
  have PT := BlkIs.new x1 25 #[.slice ta l.length tc, .int .i64 at0]
  replace w1 := w1.below bA
  replace rT := rT.keep bA
  replace rN := rN.keep bA
  replace B := B.trans (bA.mono B.size)
  obtain ⟨y1, hy1⟩ : ∃ y, x1.alloc (.cells #[.slice ta l.length tc, .int .i64 at0] 25) = y := ⟨_, rfl⟩
  obtain ⟨kt, hkt⟩ : ∃ k, x1.heap.size = k := ⟨_, rfl⟩
  rw [hy1] at PT B w1 rT rN
  rw [hkt] at PT
  have Hy1 : Hid (_ = y1) := hy1
  clear bA hy1
  have HGT : Hid (x1.heap.size = kt) := hkt
  go_upto_region 4 with fail
  rw [Hy1.out]
  clear Hy1 hkt
  have c0 : y1.cell? ⟨kt, 0, none⟩ = some (.slice ta l.length tc) := PT.cell 0
  have c1 : y1.cell? ⟨kt, 1, none⟩ = some (.int .i64 at0) := PT.cell 1
  go_wp2_with fail
  refine ((implTNext_any ta tc ⟨l, at0⟩ (some ⟨gn, 0, none⟩) gc nl seed ⟨ol, oat, ond, osd, oc⟩ _ HP.out (by dsimp only; omega) (by omega) htc rT rN).mono fun e w' h => h).mono ?_
  rintro e x2 ⟨v, rfl, ovx, b2⟩
  have hcx0 := ovx
  obtain ⟨px, cx, rfl, rX0⟩ := own_nums ovx
  have hcx : ol.length ≤ cx := row_cap hcx0
  have hbx : ∀ b off, px = some ⟨b, off, none⟩ → b < x2.heap.size := fun b off e => (ovx.lt b (by rw [e]; rfl)).2
  have HBX : Hid (∀ b off, px = some ⟨b, off, none⟩ → b < x2.heap.size) := hbx
  have rX := rX0.row
  dsimp only at rX ⊢
  clear c0 c1 ovx rX0 hcx0 hbx
  replace w1 := w1.below b2
  replace rT := rT.keep b2
  replace rN := rN.keep b2
  replace PT := PT.keep b2
  replace B := B.trans (b2.mono B.size)
  clear b2
  have HKT : Hid (kt < x2.heap.size) := PT.lt
  have HWX2 : Hid (w.heap.size ≤ x2.heap.size) := B.size
  have bA : Below x2.heap.size x2 (x2.alloc (.cells #[.slice px ol.length cx, .int .i64 oat, .int .i64 ond, .int .i64 osd, .int .i64 oc] 29)) := (Below.refl _ _).alloc (Nat.le_refl _) _
  have PX := BlkIs.new x2 29 #[.slice px ol.length cx, .int .i64 oat, .int .i64 ond, .int .i64 osd, .int .i64 oc]
  replace w1 := w1.below bA
  replace rT := rT.keep bA
  replace rN := rN.keep bA
  replace PT := PT.keep bA
  replace rX := rX.keep bA
  replace B := B.trans (bA.mono B.size)
  obtain ⟨y2, hy2⟩ : ∃ y, x2.alloc (.cells #[.slice px ol.length cx, .int .i64 oat, .int .i64 ond, .int .i64 osd, .int .i64 oc] 29) = y := ⟨_, rfl⟩
  obtain ⟨kX, hkX⟩ : ∃ k, x2.heap.size = k := ⟨_, rfl⟩
  rw [hy2] at PX B w1 rT rN PT rX
  rw [hkX] at PX
  have Hy2 : Hid (_ = y2) := hy2
  clear bA hy2
  have HXK : Hid (x2.heap.size = kX) := hkX
  have HNX : Hid (gn < kX) := by have h1 := HGN.out; have h2 := HGT.out; have h3 := HKT.out; have h4 := HXK.out; show gn < kX; omega
  have HWX : Hid (w.heap.size ≤ kX) := by have h2 := HWX2.out; have h4 := HXK.out; show w.heap.size ≤ kX; omega
  go_upto_region 5 with fail
  rw [Hy2.out]
  clear Hy2 hkX
  go_wp2_with fail
  refine (drawSome_any a1 len1 cap1 z1 _ (by omega) w1).mono ?_
  rintro e x3 ⟨v3, ml, many, s2, rfl, hml, RM, b3⟩
  obtain ⟨own3, gm, gmc, rfl⟩ := RM
  obtain ⟨_, _, e', rM0⟩ := own_nums own3
  simp only [Value.slice.injEq, true_and] at e'
  obtain ⟨rfl, rfl⟩ := e'
  have rM := rM0.row
  have hgmc := row_cap own3
  obtain ⟨yl, ys, hS⟩ := someIs_ex ml many s2
  have hyl := someIs_len hS
  have HS : Hid (SomeIs ml many s2 yl ys) := hS
  clear hS own3 rM0
  replace w1 := w1.below b3
  replace rT := rT.keep b3
  replace rN := rN.keep b3
  replace PT := PT.keep b3
  replace rX := rX.keep b3
  replace PX := PX.keep b3
  replace B := B.trans (b3.mono B.size)
  clear b3
  clear w1
  go_wp2_with fail
  refine (implSome_any (some ⟨gm, 0, none⟩) gmc ml many s2 yl ys _ HS.out (by omega) rM).mono ?_
  rintro e x4 ⟨py, cy, rfl, rY0, _, b4⟩
  have rY := rY0.row
  unfold shufOut
  clear rY0
  replace rT := rT.keep b4
  replace rN := rN.keep b4
  replace PT := PT.keep b4
  replace rX := rX.keep b4
  replace PX := PX.keep b4
  replace rM := rM.keep b4
  replace B := B.trans (b4.mono B.size)
  clear b4
  go_wp2_with fail
  refine (specSome_any (some ⟨gm, 0, none⟩) gmc ml many s2 yl ys _ HS.out (by omega) hgmc (fun e => by cases e) rM).mono ?_
  rintro e x5 ⟨v, rfl, ov, b5⟩
  obtain ⟨pw, cw, rfl, rW0⟩ := own_nums ov
  have rW := rW0.row
  unfold shufOut
  clear rW0 ov
  replace rT := rT.keep b5
  replace rN := rN.keep b5
  replace PT := PT.keep b5
  replace rX := rX.keep b5
  replace PX := PX.keep b5
  replace rM := rM.keep b5
  replace rY := rY.keep b5
  replace B := B.trans (b5.mono B.size)
  clear b5
  have bA : Below x5.heap.size x5 ((x5.alloc (.cells #[.int .i64 ys, .slice py yl.length cy] 34)).alloc (.cells #[.int .i64 ys, .slice pw yl.length cw] 34)) := ((Below.refl _ _).alloc (Nat.le_refl _) _).alloc (by simp) _
  have PY := (BlkIs.new x5 34 #[.int .i64 ys, .slice py yl.length cy]).keep ((Below.refl _ _).alloc (Nat.le_refl _) (.cells #[.int .i64 ys, .slice pw yl.length cw] 34))
  have PW := BlkIs.new (x5.alloc (.cells #[.int .i64 ys, .slice py yl.length cy] 34)) 34 #[.int .i64 ys, .slice pw yl.length cw]
  rw [World.size_alloc] at PW
  replace rT := rT.keep bA
  replace rN := rN.keep bA
  replace PT := PT.keep bA
  replace rX := rX.keep bA
  replace PX := PX.keep bA
  replace rM := rM.keep bA
  replace rY := rY.keep bA
  replace rW := rW.keep bA
  replace B := B.trans (bA.mono B.size)
  obtain ⟨X, hX⟩ : ∃ y, (x5.alloc (.cells #[.int .i64 ys, .slice py yl.length cy] 34)).alloc (.cells #[.int .i64 ys, .slice pw yl.length cw] 34) = y := ⟨_, rfl⟩
  obtain ⟨kY, hkY⟩ : ∃ k, x5.heap.size = k := ⟨_, rfl⟩
  rw [hX] at PY PW B rT rN PT rX PX rM rY rW
  rw [hkY] at PY PW
  have HX : Hid (_ = X) := hX
  clear bA hX
  go_upto_region 7 with fail
  rw [HX.out]
  clear HX hkY
  obtain ⟨qr, hqr⟩ := tells_bool (TurnV.ok ⟨l, at0⟩)
  have HQR : Hid (qr = true ↔ TurnV.ok ⟨l, at0⟩) := hqr
  clear hqr
  have HOK : Hid (oc = 0 → TurnV.ok ⟨ol, oat⟩ ∧ TurnV.ok ⟨l, at0⟩ ∧ askT nl seed ∧ nl ≠ []) := fun hc => by
    rcases HP.out with ⟨_, e⟩ | ⟨_, _, e⟩ | ⟨_, _, _, e⟩ | ⟨h1, h2, h3, _⟩ | ⟨h1, h2, h3, _⟩
    · cases e; cases hc
    · cases e; cases hc
    · cases e; cases hc
    · exact ⟨(tnext_goes h1 h2 h3 HP.out).1.1, h1, h2, h3⟩
    · exact ⟨(tnext_goes h1 h2 h3 HP.out).1.1, h1, h2, h3⟩
  go_cut [78] (fun v wc => v = .bool false ∧ Below X.heap.size X wc)
  case first =>
    as_aux_lemma =>
      refine wp_region_held_drew (S := fun w' => Below X.heap.size X w') (by kernel_rfl) ?hS0 (fun hHeld => ?_)
      case hS0 => exact (Below.refl _ _).drew
      refine takeG 0 (v := .agg #[.slice px ol.length cx, .int .i64 oat, .int .i64 ond, .int .i64 osd, .int .i64 oc]) rfl (by kernel_rfl) (by kernel_rfl) (by kernel_rfl) (by kernel_rfl) (fun _ _ _ h => h) ?hy (by assumption) ?_
      case hy => (intro w' hSw; have s0 := show w'.cell? ⟨kX, 0, none⟩ = some (.slice px ol.length cx) from (PX.keep hSw).cell 0; (try dsimp only at s0); have s1 := show w'.cell? ⟨kX, 1, none⟩ = some (.int .i64 oat) from (PX.keep hSw).cell 1; (try dsimp only at s1); have s2 := show w'.cell? ⟨kX, 2, none⟩ = some (.int .i64 ond) from (PX.keep hSw).cell 2; (try dsimp only at s2); have s3 := show w'.cell? ⟨kX, 3, none⟩ = some (.int .i64 osd) from (PX.keep hSw).cell 3; (try dsimp only at s3); have s4 := show w'.cell? ⟨kX, 4, none⟩ = some (.int .i64 oc) from (PX.keep hSw).cell 4; (try dsimp only at s4); go_simp)
      try simp only [List.setIfInBounds_toArray, List.set_cons_zero, List.set_cons_succ]
      refine takeG 1 (v := .agg #[.slice ta l.length tc, .int .i64 at0]) rfl (by kernel_rfl) (by kernel_rfl) (by kernel_rfl) (by kernel_rfl) (fun _ _ _ h => h) ?hy (by assumption) ?_
      case hy => (intro w' hSw; have s0 := show w'.cell? ⟨kt, 0, none⟩ = some (.slice ta l.length tc) from (PT.keep hSw).cell 0; (try dsimp only at s0); have s1 := show w'.cell? ⟨kt, 1, none⟩ = some (.int .i64 at0) from (PT.keep hSw).cell 1; (try dsimp only at s1); go_simp)
      try simp only [List.setIfInBounds_toArray, List.set_cons_zero, List.set_cons_succ]
      refine takeG 2 (v := .slice (some ⟨gn, 0, none⟩) nl.length gc) rfl (by kernel_rfl) (by kernel_rfl) (by kernel_rfl) (by kernel_rfl) (fun _ _ _ h => h) ?hy (by assumption) ?_
      case hy => (intro w' hSw; go_simp)
      try simp only [List.setIfInBounds_toArray, List.set_cons_zero, List.set_cons_succ]
      refine takeG 3 (v := .int .i64 seed) rfl (by kernel_rfl) (by kernel_rfl) (by kernel_rfl) (by kernel_rfl) (fun _ _ _ h => h) ?hy (by assumption) ?_
      case hy => (intro w' hSw; go_simp)
      try simp only [List.setIfInBounds_toArray, List.set_cons_zero, List.set_cons_succ]
      refine runG 4 (by kernel_rfl) rfl (by kernel_rfl) ?_
      go_simp
      refine (specTNext_any ta tc ⟨l, at0⟩ (some ⟨gn, 0, none⟩) gc nl seed ⟨ol, oat, ond, osd, oc⟩ _ HP.out (by dsimp only; omega) (by omega) htc hgc (fun e => by cases e) (rT.keep hHeld) (rN.keep hHeld)).mono ?_
      rintro e g1 ⟨vz, rfl, oz, bb⟩
      have hg1 : (fun z => Below X.heap.size X z) g1 := hHeld.trans (bb.mono hHeld.size)
      obtain ⟨pz, cz, rfl, rz0⟩ := own_nums oz
      have rz := rz0.row
      dsimp only at rz ⊢
      clear oz rz0
      refine ⟨hg1, ?_⟩
      clear hHeld bb
      try simp only [Act.put, List.setIfInBounds_toArray, List.set_cons_zero, List.set_cons_succ]
      refine runG 5 (by kernel_rfl) rfl (by kernel_rfl) ?_
      go_simp
      refine (lwTurn_same px pz cx cz ⟨ol, oat, ond, osd, oc⟩ _ ho6 hcx (rX.keep hg1) rz (fun hc => (HOK.out hc).1)).mono ?_
      rintro e g2 ⟨rfl, bb⟩
      have hg2 : (fun z => Below X.heap.size X z) g2 := hg1.trans (bb.mono hg1.size)
      clear rz
      refine ⟨hg2, ?_⟩
      clear hg1 bb
      try simp only [Act.put, List.setIfInBounds_toArray, List.set_cons_zero, List.set_cons_succ]
      refine takeG 6 (v := .bool false) rfl (by kernel_rfl) (by kernel_rfl) (by kernel_rfl) (by kernel_rfl) (fun _ _ _ h => h) ?hy (by assumption) ?_
      case hy => (intro w' hSw; go_simp)
      try simp only [List.setIfInBounds_toArray, List.set_cons_zero, List.set_cons_succ]
      refine takeG 7 (v := .bool false) rfl (by kernel_rfl) (by kernel_rfl) (by kernel_rfl) (by kernel_rfl) (fun _ _ _ h => h) ?hy (by assumption) ?_
      case hy => (intro w' hSw; go_simp)
      try simp only [List.setIfInBounds_toArray, List.set_cons_zero, List.set_cons_succ]
      refine takeG 8 (v := .pointer (some ⟨kY, 0, none⟩)) rfl (by kernel_rfl) (by kernel_rfl) (by kernel_rfl) (by kernel_rfl) (fun _ _ _ h => h) ?hy (by assumption) ?_
      case hy => (intro w' hSw; go_simp)
      try simp only [List.setIfInBounds_toArray, List.set_cons_zero, List.set_cons_succ]
      refine takeG 9 (v := .int .i64 ys) rfl (by kernel_rfl) (by kernel_rfl) (by kernel_rfl) (by kernel_rfl) (fun _ _ _ h => h) ?hy (by assumption) ?_
      case hy => (intro w' hSw; have s0 := show w'.cell? ⟨kY, 0, none⟩ = some (.int .i64 ys) from (PY.keep hSw).cell 0; (try dsimp only at s0); go_simp)
      try simp only [List.setIfInBounds_toArray, List.set_cons_zero, List.set_cons_succ]
      refine takeG 10 (v := .pointer (some ⟨kY + 1, 0, none⟩)) rfl (by kernel_rfl) (by kernel_rfl) (by kernel_rfl) (by kernel_rfl) (fun _ _ _ h => h) ?hy (by assumption) ?_
      case hy => (intro w' hSw; go_simp)
      try simp only [List.setIfInBounds_toArray, List.set_cons_zero, List.set_cons_succ]
      refine takeG 11 (v := .int .i64 ys) rfl (by kernel_rfl) (by kernel_rfl) (by kernel_rfl) (by kernel_rfl) (fun _ _ _ h => h) ?hy (by assumption) ?_
      case hy => (intro w' hSw; have s0 := show w'.cell? ⟨kY + 1, 0, none⟩ = some (.int .i64 ys) from (PW.keep hSw).cell 0; (try dsimp only at s0); go_simp)
      try simp only [List.setIfInBounds_toArray, List.set_cons_zero, List.set_cons_succ]
      refine takeG 12 (v := .bool false) rfl (by kernel_rfl) (by kernel_rfl) (by kernel_rfl) (by kernel_rfl) (fun _ _ _ h => h) ?hy (by assumption) ?_
      case hy => (intro w' hSw; go_simp)
      try simp only [List.setIfInBounds_toArray, List.set_cons_zero, List.set_cons_succ]
      refine takeG 13 (v := .bool false) rfl (by kernel_rfl) (by kernel_rfl) (by kernel_rfl) (by kernel_rfl) (fun _ _ _ h => h) ?hy (by assumption) ?_
      case hy => (intro w' hSw; go_simp)
      try simp only [List.setIfInBounds_toArray, List.set_cons_zero, List.set_cons_succ]
      refine takeG 14 (v := .bool false) rfl (by kernel_rfl) (by kernel_rfl) (by kernel_rfl) (by kernel_rfl) (fun _ _ _ h => h) ?hy (by assumption) ?_
      case hy => (intro w' hSw; go_simp)
      try simp only [List.setIfInBounds_toArray, List.set_cons_zero, List.set_cons_succ]
      refine takeG 15 (v := .pointer (some ⟨kY, 1, none⟩)) rfl (by kernel_rfl) (by kernel_rfl) (by kernel_rfl) (by kernel_rfl) (fun _ _ _ h => h) ?hy (by assumption) ?_
      case hy => (intro w' hSw; go_simp)
      try simp only [List.setIfInBounds_toArray, List.set_cons_zero, List.set_cons_succ]
      refine takeG 16 (v := .slice py yl.length cy) rfl (by kernel_rfl) (by kernel_rfl) (by kernel_rfl) (by kernel_rfl) (fun _ _ _ h => h) ?hy (by assumption) ?_
      case hy => (intro w' hSw; have s0 := show w'.cell? ⟨kY, 1, none⟩ = some (.slice py yl.length cy) from (PY.keep hSw).cell 1; (try dsimp only at s0); go_simp)
      try simp only [List.setIfInBounds_toArray, List.set_cons_zero, List.set_cons_succ]
      refine takeG 17 (v := .pointer (some ⟨kY + 1, 1, none⟩)) rfl (by kernel_rfl) (by kernel_rfl) (by kernel_rfl) (by kernel_rfl) (fun _ _ _ h => h) ?hy (by assumption) ?_
      case hy => (intro w' hSw; go_simp)
      try simp only [List.setIfInBounds_toArray, List.set_cons_zero, List.set_cons_succ]
      refine takeG 18 (v := .slice pw yl.length cw) rfl (by kernel_rfl) (by kernel_rfl) (by kernel_rfl) (by kernel_rfl) (fun _ _ _ h => h) ?hy (by assumption) ?_
      case hy => (intro w' hSw; have s0 := show w'.cell? ⟨kY + 1, 1, none⟩ = some (.slice pw yl.length cw) from (PW.keep hSw).cell 1; (try dsimp only at s0); go_simp)
      try simp only [List.setIfInBounds_toArray, List.set_cons_zero, List.set_cons_succ]
      refine runG 19 (by kernel_rfl) rfl (by kernel_rfl) ?_
      go_simp
      refine (lwNums_any py pw cy cw yl yl _ (by omega) (rY.keep hg2) (rW.keep hg2)).mono ?_
      rintro e g3 ⟨rfl, bb⟩
      have hg3 : (fun z => Below X.heap.size X z) g3 := hg2.trans (bb.mono hg2.size)
      rw [show decide (yl = yl) = true by simp]
      refine ⟨hg3, ?_⟩
      clear hg2 bb
      try simp only [Act.put, List.setIfInBounds_toArray, List.set_cons_zero, List.set_cons_succ]
      refine takeG 20 (v := .bool false) rfl (by kernel_rfl) (by kernel_rfl) (by kernel_rfl) (by kernel_rfl) (fun _ _ _ h => h) ?hy (by assumption) ?_
      case hy => (intro w' hSw; go_simp)
      try simp only [List.setIfInBounds_toArray, List.set_cons_zero, List.set_cons_succ]
      refine takeG 21 (v := .bool false) rfl (by kernel_rfl) (by kernel_rfl) (by kernel_rfl) (by kernel_rfl) (fun _ _ _ h => h) ?hy (by assumption) ?_
      case hy => (intro w' hSw; go_simp)
      try simp only [List.setIfInBounds_toArray, List.set_cons_zero, List.set_cons_succ]
      refine takeG 22 (v := .bool false) rfl (by kernel_rfl) (by kernel_rfl) (by kernel_rfl) (by kernel_rfl) (fun _ _ _ h => h) ?hy (by assumption) ?_
      case hy => (intro w' hSw; go_simp)
      try simp only [List.setIfInBounds_toArray, List.set_cons_zero, List.set_cons_succ]
      refine takeG 23 (v := .agg #[.slice ta l.length tc, .int .i64 at0]) rfl (by kernel_rfl) (by kernel_rfl) (by kernel_rfl) (by kernel_rfl) (fun _ _ _ h => h) ?hy (by assumption) ?_
      case hy => (intro w' hSw; have s0 := show w'.cell? ⟨kt, 0, none⟩ = some (.slice ta l.length tc) from (PT.keep hSw).cell 0; (try dsimp only at s0); have s1 := show w'.cell? ⟨kt, 1, none⟩ = some (.int .i64 at0) from (PT.keep hSw).cell 1; (try dsimp only at s1); go_simp)
      try simp only [List.setIfInBounds_toArray, List.set_cons_zero, List.set_cons_succ]
      refine takeG 25 (v := .agg #[.slice ta l.length tc, .int .i64 at0]) rfl (by kernel_rfl) (by kernel_rfl) (by kernel_rfl) (by kernel_rfl) (fun _ _ _ h => h) ?hy (by assumption) ?_
      case hy => (intro w' hSw; have s0 := show w'.cell? ⟨kt, 0, none⟩ = some (.slice ta l.length tc) from (PT.keep hSw).cell 0; (try dsimp only at s0); have s1 := show w'.cell? ⟨kt, 1, none⟩ = some (.int .i64 at0) from (PT.keep hSw).cell 1; (try dsimp only at s1); go_simp)
      try simp only [List.setIfInBounds_toArray, List.set_cons_zero, List.set_cons_succ]
      refine runG 24 (by kernel_rfl) rfl (by kernel_rfl) ?_
      go_simp
      refine (implTRight_is ta tc ⟨l, at0⟩ _ qr HQR.out (by dsimp only; omega) htc (rT.keep hg3)).mono ?_
      rintro e g4 ⟨rfl, bb⟩
      have hg4 : (fun z => Below X.heap.size X z) g4 := hg3.trans (bb.mono hg3.size)

      refine ⟨hg4, ?_⟩
      clear hg3 bb
      try simp only [Act.put, List.setIfInBounds_toArray, List.set_cons_zero, List.set_cons_succ]
      refine runG 26 (by kernel_rfl) rfl (by kernel_rfl) ?_
      go_simp
      refine (specTRight_is ta tc ⟨l, at0⟩ _ qr HQR.out (by dsimp only; omega) htc (rT.keep hg4)).mono ?_
      rintro e g5 ⟨rfl, bb⟩
      have hg5 : (fun z => Below X.heap.size X z) g5 := hg4.trans (bb.mono hg4.size)

      refine ⟨hg5, ?_⟩
      clear hg4 bb
      try simp only [Act.put, List.setIfInBounds_toArray, List.set_cons_zero, List.set_cons_succ]
      refine takeG 27 (v := .bool false) rfl (by kernel_rfl) (by kernel_rfl) (by kernel_rfl) (by kernel_rfl) (fun _ _ _ h => h) ?hy (by assumption) ?_
      case hy => (intro w' hSw; cases qr <;> go_simp)
      try simp only [List.setIfInBounds_toArray, List.set_cons_zero, List.set_cons_succ]
      refine takeG 28 (v := .bool false) rfl (by kernel_rfl) (by kernel_rfl) (by kernel_rfl) (by kernel_rfl) (fun _ _ _ h => h) ?hy (by assumption) ?_
      case hy => (intro w' hSw; go_simp)
      try simp only [List.setIfInBounds_toArray, List.set_cons_zero, List.set_cons_succ]
      refine wpAnyH_done (by kernel_rfl) ?_ _
      go_wp2_with fail
      go_meet
      case rel => exact ⟨rfl, hg5⟩
  case rest =>
    obtain ⟨rfl, bX⟩ := hcut
    obtain ⟨Y, rfl⟩ : ∃ Y, Y = wc := ⟨wc, rfl⟩
    replace rT := rT.keep bX
    replace rN := rN.keep bX
    replace PT := PT.keep bX
    replace rX := rX.keep bX
    replace PX := PX.keep bX
    replace rM := rM.keep bX
    replace rY := rY.keep bX
    replace rW := rW.keep bX
    replace PY := PY.keep bX
    replace PW := PW.keep bX
    replace B := B.trans (bX.mono B.size)
    clear bX
    have HSO : Hid (∀ (i : Nat) (h : i < yl.length), manyL yl yl[i] = 1 ∧ manyL ml yl[i] = 1) := some_once HS.out
    go_wp2
    go_loopw [14] (fun i wr => ∃ k : Nat, k ≤ yl.length ∧ i = .int .i64 k ∧ Below Y.heap.size Y wr) (fun i _ => yl.length - (intOf i).toNat)
    case atStart => exact ⟨0, Nat.zero_le _, rfl, Below.refl _ _⟩
    case round =>
      obtain ⟨k, hk, rfl, bk⟩ := hrel
      obtain ⟨wk, rfl⟩ : ∃ wk, wk = wr := ⟨wr, rfl⟩
      have q1 : wk.cell? ⟨kY, 1, none⟩ = some (.slice py yl.length cy) := (PY.keep bk).cell 1
      by_cases hx : k < yl.length
      · have hone := HSO.out k hx
        obtain ⟨b, off, rfl, hbl, hcell⟩ := rY.addrN (by omega)
        have ck := hcell k hx
        obtain ⟨x, hxx⟩ : ∃ x, yl[k] = x := ⟨_, rfl⟩
        rw [hxx] at ck hone
        have HO1 : Hid (manyL yl x = 1) := hone.1
        have HO2 : Hid (manyL ml x = 1) := hone.2
        have hkI : (k : Int) < (yl.length : Int) := by omega
        clear hone hxx hcell
        go_upto_region 12 with fail
        clear q1
        go_cut [104] (fun v wc => v = .bool false ∧ Below wk.heap.size wk wc)
        case first =>
          as_aux_lemma =>
            obtain ⟨V, hV⟩ : ∃ V, wk.drew = V := ⟨_, rfl⟩
            have bV : Below wk.heap.size wk V := by rw [← hV]; exact (Below.refl _ _).drew
            refine wp_region_held_drew (S := fun w' => Below wk.heap.size wk w') (by kernel_rfl) ?hS0 (fun hHeld => ?_)
            case hS0 => exact (Below.refl _ _).drew
            rw [hV] at hHeld ⊢
            clear hV
            refine takeG 0 (v := .pointer (some ⟨kY, 1, none⟩)) rfl (by kernel_rfl) (by kernel_rfl) (by kernel_rfl) (by kernel_rfl) (fun _ _ _ h => h) ?hy (by assumption) ?_
            case hy => (intro w' hSw; go_simp)
            try simp only [List.setIfInBounds_toArray, List.set_cons_zero, List.set_cons_succ]
            refine takeG 1 (v := .slice (some ⟨b, off, none⟩) yl.length cy) rfl (by kernel_rfl) (by kernel_rfl) (by kernel_rfl) (by kernel_rfl) (fun _ _ _ h => h) ?hy (by assumption) ?_
            case hy => (intro w' hSw; have s0 := show w'.cell? ⟨kY, 1, none⟩ = some (.slice (some ⟨b, off, none⟩) yl.length cy) from ((PY.keep bk).keep hSw).cell 1; (try dsimp only at s0); go_simp)
            try simp only [List.setIfInBounds_toArray, List.set_cons_zero, List.set_cons_succ]
            refine takeG 2 (v := .pointer (some ⟨kY, 1, none⟩)) rfl (by kernel_rfl) (by kernel_rfl) (by kernel_rfl) (by kernel_rfl) (fun _ _ _ h => h) ?hy (by assumption) ?_
            case hy => (intro w' hSw; go_simp)
            try simp only [List.setIfInBounds_toArray, List.set_cons_zero, List.set_cons_succ]
            refine takeG 3 (v := .slice (some ⟨b, off, none⟩) yl.length cy) rfl (by kernel_rfl) (by kernel_rfl) (by kernel_rfl) (by kernel_rfl) (fun _ _ _ h => h) ?hy (by assumption) ?_
            case hy => (intro w' hSw; have s0 := show w'.cell? ⟨kY, 1, none⟩ = some (.slice (some ⟨b, off, none⟩) yl.length cy) from ((PY.keep bk).keep hSw).cell 1; (try dsimp only at s0); go_simp)
            try simp only [List.setIfInBounds_toArray, List.set_cons_zero, List.set_cons_succ]
            refine takeG 4 (v := .int .i64 (k : Int)) rfl (by kernel_rfl) (by kernel_rfl) (by kernel_rfl) (by kernel_rfl) (fun _ _ _ h => h) ?hy (by assumption) ?_
            case hy => (intro w' hSw; go_simp)
            try simp only [List.setIfInBounds_toArray, List.set_cons_zero, List.set_cons_succ]
            refine takeG 5 (v := .pointer (some ⟨b, off + k, none⟩)) rfl (by kernel_rfl) (by kernel_rfl) (by kernel_rfl) (by kernel_rfl) (fun _ _ _ h => h) ?hy (by assumption) ?_
            case hy => (intro w' hSw; go_simp)
            try simp only [List.setIfInBounds_toArray, List.set_cons_zero, List.set_cons_succ]
            refine takeG 6 (v := .int .i64 x) rfl (by kernel_rfl) (by kernel_rfl) (by kernel_rfl) (by kernel_rfl) (fun _ _ _ h => h) ?hy (by assumption) ?_
            case hy => (intro w' hSw; have s0 := show w'.cell? ⟨b, off + k, none⟩ = some (.int .i64 x) from (hSw.cell (p := ⟨b, off + k, none⟩) (Nat.lt_of_lt_of_le hbl bk.size)).trans ((bk.cell (p := ⟨b, off + k, none⟩) hbl).trans ck); (try dsimp only at s0); go_simp)
            try simp only [List.setIfInBounds_toArray, List.set_cons_zero, List.set_cons_succ]
            refine runG 7 (by kernel_rfl) rfl (by kernel_rfl) ?_
            go_simp
            refine (lwMany_any (some ⟨b, off, none⟩) cy yl x _ (by omega) ((rY.keep bk).keep bV)).mono ?_
            rintro e gg ⟨rfl, hz7⟩
            replace hz7 := hz7.symm
            subst hz7
            rw [HO1.out]
            refine ⟨hHeld, ?_⟩
            try simp only [Act.put, List.setIfInBounds_toArray, List.set_cons_zero, List.set_cons_succ]
            refine takeG 8 (v := .bool false) rfl (by kernel_rfl) (by kernel_rfl) (by kernel_rfl) (by kernel_rfl) (fun _ _ _ h => h) ?hy (by assumption) ?_
            case hy => (intro w' hSw; go_simp)
            try simp only [List.setIfInBounds_toArray, List.set_cons_zero, List.set_cons_succ]
            refine takeG 9 (v := .bool false) rfl (by kernel_rfl) (by kernel_rfl) (by kernel_rfl) (by kernel_rfl) (fun _ _ _ h => h) ?hy (by assumption) ?_
            case hy => (intro w' hSw; go_simp)
            try simp only [List.setIfInBounds_toArray, List.set_cons_zero, List.set_cons_succ]
            refine takeG 10 (v := .slice (some ⟨gm, 0, none⟩) ml.length gmc) rfl (by kernel_rfl) (by kernel_rfl) (by kernel_rfl) (by kernel_rfl) (fun _ _ _ h => h) ?hy (by assumption) ?_
            case hy => (intro w' hSw; go_simp)
            try simp only [List.setIfInBounds_toArray, List.set_cons_zero, List.set_cons_succ]
            refine takeG 11 (v := .pointer (some ⟨kY, 1, none⟩)) rfl (by kernel_rfl) (by kernel_rfl) (by kernel_rfl) (by kernel_rfl) (fun _ _ _ h => h) ?hy (by assumption) ?_
            case hy => (intro w' hSw; go_simp)
            try simp only [List.setIfInBounds_toArray, List.set_cons_zero, List.set_cons_succ]
            refine takeG 12 (v := .slice (some ⟨b, off, none⟩) yl.length cy) rfl (by kernel_rfl) (by kernel_rfl) (by kernel_rfl) (by kernel_rfl) (fun _ _ _ h => h) ?hy (by assumption) ?_
            case hy => (intro w' hSw; have s0 := show w'.cell? ⟨kY, 1, none⟩ = some (.slice (some ⟨b, off, none⟩) yl.length cy) from ((PY.keep bk).keep hSw).cell 1; (try dsimp only at s0); go_simp)
            try simp only [List.setIfInBounds_toArray, List.set_cons_zero, List.set_cons_succ]
            refine takeG 13 (v := .int .i64 (k : Int)) rfl (by kernel_rfl) (by kernel_rfl) (by kernel_rfl) (by kernel_rfl) (fun _ _ _ h => h) ?hy (by assumption) ?_
            case hy => (intro w' hSw; go_simp)
            try simp only [List.setIfInBounds_toArray, List.set_cons_zero, List.set_cons_succ]
            refine takeG 14 (v := .pointer (some ⟨b, off + k, none⟩)) rfl (by kernel_rfl) (by kernel_rfl) (by kernel_rfl) (by kernel_rfl) (fun _ _ _ h => h) ?hy (by assumption) ?_
            case hy => (intro w' hSw; go_simp)
            try simp only [List.setIfInBounds_toArray, List.set_cons_zero, List.set_cons_succ]
            refine takeG 15 (v := .int .i64 x) rfl (by kernel_rfl) (by kernel_rfl) (by kernel_rfl) (by kernel_rfl) (fun _ _ _ h => h) ?hy (by assumption) ?_
            case hy => (intro w' hSw; have s0 := show w'.cell? ⟨b, off + k, none⟩ = some (.int .i64 x) from (hSw.cell (p := ⟨b, off + k, none⟩) (Nat.lt_of_lt_of_le hbl bk.size)).trans ((bk.cell (p := ⟨b, off + k, none⟩) hbl).trans ck); (try dsimp only at s0); go_simp)
            try simp only [List.setIfInBounds_toArray, List.set_cons_zero, List.set_cons_succ]
            refine runG 16 (by kernel_rfl) rfl (by kernel_rfl) ?_
            go_simp
            refine (lwMany_any (some ⟨gm, 0, none⟩) gmc ml x _ (by omega) ((rM.keep bk).keep bV)).mono ?_
            rintro e gg ⟨rfl, hz16⟩
            replace hz16 := hz16.symm
            subst hz16
            rw [HO2.out]
            refine ⟨hHeld, ?_⟩
            try simp only [Act.put, List.setIfInBounds_toArray, List.set_cons_zero, List.set_cons_succ]
            refine takeG 17 (v := .bool false) rfl (by kernel_rfl) (by kernel_rfl) (by kernel_rfl) (by kernel_rfl) (fun _ _ _ h => h) ?hy (by assumption) ?_
            case hy => (intro w' hSw; go_simp)
            try simp only [List.setIfInBounds_toArray, List.set_cons_zero, List.set_cons_succ]
            refine takeG 18 (v := .bool false) rfl (by kernel_rfl) (by kernel_rfl) (by kernel_rfl) (by kernel_rfl) (fun _ _ _ h => h) ?hy (by assumption) ?_
            case hy => (intro w' hSw; go_simp)
            try simp only [List.setIfInBounds_toArray, List.set_cons_zero, List.set_cons_succ]
            refine wpAnyH_done (by kernel_rfl) ?_ _
            go_wp2_with fail
            go_meet
            case rel => exact ⟨rfl, hHeld⟩
        case rest =>
          obtain ⟨rfl, bc⟩ := hcut
          obtain ⟨wq, rfl⟩ : ∃ wq, wq = wc := ⟨wc, rfl⟩
          have bq := bk.trans (bc.mono bk.size)
          clear bk bc ck
          go_wp2
          go_roundw
          case rel => exact ⟨k + 1, by omega, by go_num, bq⟩
          case measure => simp [intOf]; omega
      · obtain rfl : k = yl.length := by omega
        replace PX := PX.keep bk
        replace PT := PT.keep bk
        replace rN := rN.keep bk
        replace rX := rX.keep bk
        replace B := B.trans (bk.mono B.size)
        have hbxk : ∀ b off, px = some ⟨b, off, none⟩ → b < wk.heap.size := fun b off e => by have h1 := HBX.out b off e; have h2 := HXK.out; have h3 := PX.lt; omega
        have HBK : Hid (∀ b off, px = some ⟨b, off, none⟩ → b < wk.heap.size) := hbxk
        have u4 : wk.cell? ⟨kX, 4, none⟩ = some (.int .i64 oc) := PX.cell 4
        clear bk rT rM rY rW PY PW hbxk
        by_cases hoc : oc = 0
        case neg =>
          have hocb : (oc == 0) = false := beq_eq_false_iff_ne.2 hoc
          go_wp2
          go_ret
          exact ⟨rfl, B⟩
        subst hoc
        have HK0 : Hid (TurnV.ok ⟨l, at0⟩ ∧ askT nl seed ∧ nl ≠ []) := (HOK.out rfl).2
        have HG0 : Hid (GoesT nl ⟨ol, oat, ond, osd, 0⟩ ∧ ∃ b, ToldT nl [] (ond :: restT ⟨ol, oat⟩ nl) b) := ⟨(tnext_goes HK0.out.1 HK0.out.2.1 HK0.out.2.2 HP.out).1, told_0 HK0.out.1 HK0.out.2.1 HK0.out.2.2 HP.out⟩
        have HNL : Hid (nodesT nl ∧ rises nl ∧ nl ≠ []) := ⟨HK0.out.2.1.1, HK0.out.2.1.2.1, HK0.out.2.2⟩
        clear HK0 HOK
        have hkX := PX.lt
        have bN : Below wk.heap.size wk (wk.alloc (.cells #[] 2)) := (Below.refl _ _).alloc (Nat.le_refl _) _
        go_wp2
        clear u4 q1
        go_loopw [16, 15] (fun i q wr => ∃ (k : Nat) (told : List Int) (tg tcap : Nat) (o : TOutV) (pa : Option Addr) (ca b : Nat), k ≤ 3 * nl.length ∧ told.length = k ∧ i = .int .i64 k ∧ q = .slice (some ⟨tg, 0, none⟩) told.length tcap ∧ wr.ownsRow wk.heap.size 2 1 (.slice (some ⟨tg, 0, none⟩) told.length tcap) told.length (numsV told) ∧ BlkIs wr kX 29 #[.slice pa o.list.length ca, .int .i64 o.at0, .int .i64 o.node, .int .i64 o.seed, .int .i64 o.code] ∧ NumRow wr pa o.list ∧ o.list.length ≤ ca ∧ (∀ b off, pa = some ⟨b, off, none⟩ → b < wr.heap.size ∧ b ≠ tg) ∧ GoesT nl o ∧ ToldT nl told (o.node :: restT ⟨o.list, o.at0⟩ nl) b ∧ Keeps (fun q => q < wk.heap.size ∧ q ≠ kX) wk wr) (fun i _ _ => 3 * nl.length - (intOf i).toNat)
        case atStart =>
          obtain ⟨hg0, b0, ht0⟩ := HG0.out
          have hown := (rowSome_lit wk).1
          refine ⟨0, [], wk.heap.size, 0, ⟨ol, oat, ond, osd, 0⟩, px, cx, b0, Nat.zero_le _, rfl, rfl, rfl, hown, PX.keep bN, rX.keep bN, hcx, fun b off e => ?_, hg0, ht0, (Keeps.refl _ _).alloc _⟩
          have h1 := HBK.out b off e
          have h2 := bN.size
          omega
        case round =>
          obtain ⟨k, told, tg, tcap, o, pa, ca, bb, hk, htl, rfl, rfl, hown, PXr, rXr, hca, hpa, hgo, hto, KK⟩ := hrel
          obtain ⟨wp, rfl⟩ : ∃ wp, wp = wr := ⟨wr, rfl⟩
          obtain ⟨ol2, oat2, ond2, osd2, oc2⟩ := o
          dsimp only at PXr rXr hca
          have hoc2 : oc2 = 0 := hgo.2.2.1
          subst hoc2
          have hol2 : ol2.length ≤ 6 := nodesT_len hgo.1.1
          have HGO : Hid (GoesT nl ⟨ol2, oat2, ond2, osd2, 0⟩) := hgo
          have HTO : Hid (ToldT nl told (ond2 :: restT ⟨ol2, oat2⟩ nl) bb) := hto
          have HPA : Hid (∀ b off, pa = some ⟨b, off, none⟩ → b < wp.heap.size ∧ b ≠ tg) := hpa
          have HTL : Hid (told.length = k) := htl
          have htl2 : told.length ≤ 3 * nl.length := by omega
          clear hgo hto hpa htl
          have hwks := KK.size
          have hnl6 : nl.length ≤ 6 := hnl
          have rNp : NumRow wp (some ⟨gn, 0, none⟩) nl := by
            rcases rN with h | ⟨b, off, e, h1, h2⟩
            · exact .inl h
            · exact .inr ⟨b, off, e, Nat.lt_of_lt_of_le h1 hwks, fun i hi => (KK.cell (p := ⟨b, off + i, none⟩) h1 ⟨h1, show b ≠ kX from fun q => by simp only [Option.some.injEq, Addr.mk.injEq, and_true] at e; have := HNX.out; omega⟩).trans (h2 i hi)⟩
          have hw3 : IntKind.i64.wrap (3 * (nl.length : Int)) = 3 * (nl.length : Int) := by rw [IntKind.wrap_i64]; omega
          have htb : tg < wp.heap.size := (hown.lt tg rfl).2
          have htlo : wk.heap.size ≤ tg := (hown.lt tg rfl).1
          have htX : tg ≠ kX := by omega
          by_cases hx : k < 3 * nl.length
          · have hxI : (k : Int) < 3 * (nl.length : Int) := by omega
            have q1 : wp.cell? ⟨kX, 1, none⟩ = some (.int .i64 oat2) := PXr.cell 1
            have q2 : wp.cell? ⟨kX, 2, none⟩ = some (.int .i64 ond2) := PXr.cell 2
            have q4 : wp.cell? ⟨kX, 4, none⟩ = some (.int .i64 0) := PXr.cell 4
            have HM1 : Hid (manyL nl ond2 = 1) := many_in HNL.out.1.2 HGO.out.2.2.2
            go_wp2_with fail
            refine (lwMany_any (some ⟨gn, 0, none⟩) gc nl ond2 _ (by omega) rNp).mono ?_
            rintro e wp' ⟨rfl, hz⟩
            replace hz := hz.symm
            subst hz
            rw [HM1.out]
            go_wp2_with (at_builtin; refine append_oneT rfl rfl _ _ rfl wk.heap.size _ told ond2 rfl wp rfl hown rfl (by omega) hwks ?_)
            intro v' w2 hown' hgrow hwh
            obtain ⟨tg2, tcap2, rfl⟩ : ∃ g c, v' = .slice (some ⟨g, 0, none⟩) (told.length + 1) c := by
              rcases hown'.2 with ⟨_, h⟩ | ⟨g, c, cur, h, _⟩
              · simp at h
              · exact ⟨_, _, h⟩
            have htg2 : tg2 = tg ∨ tg2 = wp.heap.size + 1 := by
              rcases hwh with h | h
              · left; simpa [Value.ownBlock] using h
              · right; simpa [Value.ownBlock] using h
            have K2 : Keeps (fun q => q < wp.heap.size ∧ q ≠ tg) wp w2 := ((Keeps.refl _ _).alloc _).grown hgrow (fun g hg h => h.2 (by simpa [Value.ownBlock] using hg.symm))
            have hs2 := K2.size
            have PX2 := PXr.keepK K2 ⟨PXr.lt, fun e => htX e.symm⟩
            have rX2 : NumRow w2 pa ol2 := by
              rcases rXr with h | ⟨b, off, e, h1, h2⟩
              · exact .inl h
              · exact .inr ⟨b, off, e, Nat.lt_of_lt_of_le h1 hs2, fun i hi => (K2.cell (p := ⟨b, off + i, none⟩) h1 ⟨h1, (HPA.out b off e).2⟩).trans (h2 i hi)⟩
            have rN2 : NumRow w2 (some ⟨gn, 0, none⟩) nl := by
              rcases rNp with h | ⟨b, off, e, h1, h2⟩
              · exact .inl h
              · exact .inr ⟨b, off, e, Nat.lt_of_lt_of_le h1 hs2, fun i hi => (K2.cell (p := ⟨b, off + i, none⟩) h1 ⟨h1, show b ≠ tg from fun q => by simp only [Option.some.injEq, Addr.mk.injEq, and_true] at e; have := HNX.out; omega⟩).trans (h2 i hi)⟩
            have KK2 : Keeps (fun q => q < wk.heap.size ∧ q ≠ kX) wk w2 := KK.trans (K2.mono (fun q hq h => ⟨hq, by omega⟩))
            have HTG : Hid (tg2 < w2.heap.size) := (hown'.lt tg2 rfl).2
            obtain ⟨o3, hP3⟩ := tnext_ex ⟨ol2, oat2⟩ nl osd2
            have ho36 := tnext_len hP3
            have hne := HNL.out.2.2
            obtain ⟨hgo3, b3, hto3⟩ := told_next HNL.out.2.2 HNL.out.1 HNL.out.2.1 HGO.out HTO.out hP3
            obtain ⟨ol3, oat3, ond3, osd3, oc3⟩ := o3
            have HP3 : Hid (TNextIs ⟨ol2, oat2⟩ nl osd2 ⟨ol3, oat3, ond3, osd3, oc3⟩) := hP3
            have HGO3 : Hid (GoesT nl ⟨ol3, oat3, ond3, osd3, oc3⟩) := hgo3
            have HTO3 : Hid (ToldT nl (told ++ [ond2]) (ond3 :: restT ⟨ol3, oat3⟩ nl) b3) := hto3
            have HOW : Hid (w2.ownsRow wk.heap.size 2 1 (.slice (some ⟨tg2, 0, none⟩) (told.length + 1) tcap2) (told.length + 1) (numsV (told ++ [ond2]))) := hown'
            dsimp only at ho36
            have c0 : w2.cell? ⟨kX, 0, none⟩ = some (.slice pa ol2.length ca) := PX2.cell 0
            have c1 : w2.cell? ⟨kX, 1, none⟩ = some (.int .i64 oat2) := PX2.cell 1
            have c3 : w2.cell? ⟨kX, 3, none⟩ = some (.int .i64 osd2) := PX2.cell 3
            clear hown' hgrow hwh K2 hown PXr rXr rNp q1 q2 q4 hP3 hgo3 hto3 KK hne
            go_wp2_with fail
            refine (implTNext_any pa ca ⟨ol2, oat2⟩ (some ⟨gn, 0, none⟩) gc nl osd2 ⟨ol3, oat3, ond3, osd3, oc3⟩ _ HP3.out (by dsimp only; omega) (by omega) hca rX2 rN2).mono ?_
            rintro e w4 ⟨v4, rfl, ov4, b4⟩
            have hca4 := ov4
            obtain ⟨p4, c4, rfl, r40⟩ := own_nums ov4
            have hc4 : ol3.length ≤ c4 := row_cap hca4
            have hp4 : ∀ b off, p4 = some ⟨b, off, none⟩ → w2.heap.size ≤ b ∧ b < w4.heap.size := fun b off e => ov4.lt b (by rw [e]; rfl)
            have HP4 : Hid (∀ b off, p4 = some ⟨b, off, none⟩ → w2.heap.size ≤ b ∧ b < w4.heap.size) := hp4
            have r4 := r40.row
            have PX4 := PX2.keep b4
            have OW4 := rowBelow HOW.out b4
            have KK4 := KK2.below b4
            dsimp only at r4 ⊢
            have hlX := PX2.lt
            clear ov4 r40 hp4 b4 HOW PX2 rX2 rN2 KK2 c0 c1 c3 hca4
            have d0 : w4.cell? ⟨kX, 0, none⟩ = some (.slice pa ol2.length ca) := PX4.cell 0
            have f0 := PX4.fz 0
            have d1 : w4.cell? ⟨kX, 1, none⟩ = some (.int .i64 oat2) := PX4.cell 1
            have f1 := PX4.fz 1
            have d2 : w4.cell? ⟨kX, 2, none⟩ = some (.int .i64 ond2) := PX4.cell 2
            have f2 := PX4.fz 2
            have d3 : w4.cell? ⟨kX, 3, none⟩ = some (.int .i64 osd2) := PX4.cell 3
            have f3 := PX4.fz 3
            have d4 : w4.cell? ⟨kX, 4, none⟩ = some (.int .i64 0) := PX4.cell 4
            have f4 := PX4.fz 4
            have KZ : Keeps (fun q => q ≠ kX) w4 (((((w4.setCell ⟨kX, 0, none⟩ (.slice p4 ol3.length c4)).setCell ⟨kX, 1, none⟩ (.int .i64 oat3)).setCell ⟨kX, 2, none⟩ (.int .i64 ond3)).setCell ⟨kX, 3, none⟩ (.int .i64 osd3)).setCell ⟨kX, 4, none⟩ (.int .i64 oc3)) := keeps_five _ _ _ _ _ _ _
            have RZ : BlkIs (((((w4.setCell ⟨kX, 0, none⟩ (.slice p4 ol3.length c4)).setCell ⟨kX, 1, none⟩ (.int .i64 oat3)).setCell ⟨kX, 2, none⟩ (.int .i64 ond3)).setCell ⟨kX, 3, none⟩ (.int .i64 osd3)).setCell ⟨kX, 4, none⟩ (.int .i64 oc3)) kX 29 #[.slice p4 ol3.length c4, .int .i64 oat3, .int .i64 ond3, .int .i64 osd3, .int .i64 oc3] := blk_put5 PX4 _ _ _ _ _
            have rZ : NumRow (((((w4.setCell ⟨kX, 0, none⟩ (.slice p4 ol3.length c4)).setCell ⟨kX, 1, none⟩ (.int .i64 oat3)).setCell ⟨kX, 2, none⟩ (.int .i64 ond3)).setCell ⟨kX, 3, none⟩ (.int .i64 osd3)).setCell ⟨kX, 4, none⟩ (.int .i64 oc3)) p4 ol3 := by
              rcases r4 with h | ⟨b, off, e, h1, h2⟩
              · exact .inl h
              · exact .inr ⟨b, off, e, Nat.lt_of_lt_of_le h1 KZ.size, fun i hi => (KZ.cell (p := ⟨b, off + i, none⟩) h1 (by have := (HP4.out b off e).1; show b ≠ kX; omega)).trans (h2 i hi)⟩
            have OZ := rowKeep OW4 KZ (fun g hg e => PX4.not_row (by decide) OW4 (by rw [hg, e]))
            have KKZ : Keeps (fun q => q < wk.heap.size ∧ q ≠ kX) wk (((((w4.setCell ⟨kX, 0, none⟩ (.slice p4 ol3.length c4)).setCell ⟨kX, 1, none⟩ (.int .i64 oat3)).setCell ⟨kX, 2, none⟩ (.int .i64 ond3)).setCell ⟨kX, 3, none⟩ (.int .i64 osd3)).setCell ⟨kX, 4, none⟩ (.int .i64 oc3)) := KK4.trans (KZ.mono (fun q _ h => h.2))
            have HZS : Hid (w4.heap.size ≤ (((((w4.setCell ⟨kX, 0, none⟩ (.slice p4 ol3.length c4)).setCell ⟨kX, 1, none⟩ (.int .i64 oat3)).setCell ⟨kX, 2, none⟩ (.int .i64 ond3)).setCell ⟨kX, 3, none⟩ (.int .i64 osd3)).setCell ⟨kX, 4, none⟩ (.int .i64 oc3)).heap.size) := KZ.size
            have HLT : Hid ((told ++ [ond2]).length = told.length + 1) := by show _ = _; simp
            clear PX4 OW4 KK4 KZ r4
            go_wp2
            obtain ⟨Z, hZ⟩ : ∃ Z, (((((w4.setCell ⟨kX, 0, none⟩ (.slice p4 ol3.length c4)).setCell ⟨kX, 1, none⟩ (.int .i64 oat3)).setCell ⟨kX, 2, none⟩ (.int .i64 ond3)).setCell ⟨kX, 3, none⟩ (.int .i64 osd3)).setCell ⟨kX, 4, none⟩ (.int .i64 oc3)) = Z := ⟨_, rfl⟩
            rw [hZ] at RZ rZ OZ KKZ HZS ⊢
            clear hZ d0 f0 d1 f1 d2 f2 d3 f3 d4 f4
            go_roundw
            case rel =>
              refine ⟨k + 1, told ++ [ond2], tg2, tcap2, ⟨ol3, oat3, ond3, osd3, oc3⟩, p4, c4, b3, by omega, by rw [HLT.out, HTL.out], by go_num, by rw [HLT.out], by rw [HLT.out]; exact OZ, RZ, rZ, hc4, fun b off e => ?_, HGO3.out, HTO3.out, KKZ⟩
              have h1 := HP4.out b off e
              have h2 := HZS.out
              have h3 := HTG.out
              omega
            case measure => simp [intOf]; omega
          · obtain rfl : k = 3 * nl.length := by omega
            have HEND : Hid (∀ v ∈ nl, 2 ≤ manyL told v) := told_end HNL.out.2.2 HTO.out HTL.out
            have hxI : ¬ ((3 * nl.length : Nat) : Int) < 3 * (nl.length : Int) := by omega
            obtain ⟨_, _, e', rTd0⟩ := own_nums hown
            simp only [Value.slice.injEq, true_and] at e'
            obtain ⟨rfl, rfl⟩ := e'
            have rTd := rTd0.row
            replace B := B.trans (KK.toBelow (n := w.heap.size) B.size (fun q hq => by have := HWX.out; have := B.size; omega))
            clear rTd0 hown PXr rXr HGO HTO HPA KK
            go_wp2
            go_loopw [17] (fun i wr => ∃ k : Nat, k ≤ nl.length ∧ i = .int .i64 k ∧ SameW wp wr) (fun i _ => nl.length - (intOf i).toNat)
            case atStart => exact ⟨0, Nat.zero_le _, rfl, rfl⟩
            case round =>
              obtain ⟨k, hk2, rfl, hsame⟩ := hrel
              replace hsame : wp = wr := hsame
              subst hsame
              by_cases hx2 : k < nl.length
              · obtain ⟨b, off, e, hbl, hcell⟩ := rNp.addrN (by omega)
                have ck := hcell k hx2
                obtain ⟨x, hxx⟩ : ∃ x, nl[k] = x := ⟨_, rfl⟩
                rw [hxx] at ck
                simp only [Option.some.injEq, Addr.mk.injEq, and_true] at e
                obtain ⟨rfl, rfl⟩ := e
                rw [Nat.zero_add] at ck
                have HMT : Hid (2 ≤ manyL told x) := HEND.out x (by rw [← hxx]; exact List.getElem_mem hx2)
                have hkI : (k : Int) < (nl.length : Int) := by omega
                clear hxx hcell
                go_wp2_with fail
                refine (lwMany_any (some ⟨tg, 0, none⟩) tcap told x _ (by omega) rTd).mono ?_
                rintro e wq ⟨rfl, hz⟩
                replace hz := hz.symm
                subst hz
                obtain ⟨mm, hmm⟩ : ∃ mm, manyL told x = mm := ⟨_, rfl⟩
                rw [hmm]
                have hm2 : ¬ (mm : Int) < 2 := by have := HMT.out; omega
                clear hmm ck
                go_wp2
                go_roundw
                case rel => exact ⟨k + 1, by omega, by go_num, rfl⟩
                case measure => simp [intOf]; omega
              · obtain rfl : k = nl.length := by omega
                go_wp2
                go_ret
                exact ⟨rfl, B⟩
end Go.Proofs.Ytpjmhaegdnahmaa
