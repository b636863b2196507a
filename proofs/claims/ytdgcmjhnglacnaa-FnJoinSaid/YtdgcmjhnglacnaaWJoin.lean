/- The walk of promise 5's law. -/
import Derived.Test.YtdgcmjhnglacnaaRows
import Derived.WalkKit
import Derived.ProofKit
import Derived.OpenShut
import Derived.ShutString
import Derived.ChangeOld
import Derived.Below
import Derived.Test.YtdgcmjhnglacnaaWHelp
import Derived.Test.YtdgcmjhnglacnaaWPlain
import Derived.Test.YtdgcmjhnglacnaaVRightI
import Derived.Test.YtdgcmjhnglacnaaVRightS
import Derived.Test.YtdgcmjhnglacnaaFactJ
import Derived.Test.YtdgcmjhnglacnaaVPutI
import Derived.Test.YtdgcmjhnglacnaaVSpec
import Derived.Test.YtdgcmjhnglacnaaVAt
import Derived.Test.YtdgcmjhnglacnaaReg
namespace Go.Proofs.Ytdgcmjhnglacnaa
open Go Go.ChangeShapes Go.WideShapes Go.ChangeAt Go.RowKit
open Go.ChangeMaps (open_string shut_string)
set_option linter.unusedVariables false

theorem OwnSl.row {w : World} {base : Nat} {p : Option Addr} {q : Nat} {l : List FactV} (h : OwnSl w base (.slice p l.length q) l) : CellRow w p (cellsOf FactV.cells l) := by
  obtain ⟨a, c, e, o, _⟩ := h
  simp only [Value.slice.injEq, true_and] at e
  obtain ⟨rfl, rfl⟩ := e
  exact o.row
theorem field_view (x0 x1 x2 : Value) (w : World) : (Instr.field 33 (.agg #[x0, x1, x2]) 0).run Try.prog w = .ok x0 w := by kernel_rfl
theorem field_news (x0 x1 x2 : Value) (w : World) : (Instr.field 33 (.agg #[x0, x1, x2]) 1).run Try.prog w = .ok x1 w := by kernel_rfl
set_option maxHeartbeats 16000000 in
set_option maxRecDepth 100000 in
theorem FnJoin_walk (a0 : Option Addr) (len0 cap0 : Nat) (z0 : List Int) (a1 : Option Addr) (len1 cap1 : Nat) (z1 : List Int) (w : World) (w0 : ByteRow w a0 len0 cap0 z0) (w1 : ByteRow w a1 len1 cap1 z1) :
    Calls Try.prog 3 #[.slice a0 len0 cap0, .slice a1 len1 cap1] w fun e w' => e = .returned (.bool true) ∧ Below w.heap.size w w' := by
  by_cases h0 : 1048576 < (len0 : Int)
  · go_enter Try.func3, Try.ntmps3
    go_wp2
    go_ret
    exact ⟨rfl, Below.refl _ _⟩
  by_cases h1 : 1048576 < (len1 : Int)
  · go_enter Try.func3, Try.ntmps3
    go_wp2
    go_ret
    exact ⟨rfl, Below.refl _ _⟩
  have hl0 : len0 ≤ 1048576 := by omega
  have hl1 : len1 ≤ 1048576 := by omega
  clear h0 h1
  go_enter Try.func3, Try.ntmps3
  go_wp2_with fail
  refine (drawFactJoin_any a0 len0 cap0 z0 _ hl0 w0).mono ?_
  rintro e x1 ⟨f, g, rfl, b1⟩
  obtain ⟨f1, f2, f3⟩ := f
  obtain ⟨g1, g2, g3⟩ := g
  unfold FactV.val
  dsimp only
  have al1 := ((Below.refl x1.heap.size x1).alloc (Nat.le_refl _) (.cells #[.int .i64 f1, .int .i64 f2, .int .i64 f3] 24)).alloc (by simp) (.cells #[.int .i64 g1, .int .i64 g2, .int .i64 g3] 24)
  have PF := (BlkIs.new x1 24 #[.int .i64 f1, .int .i64 f2, .int .i64 f3]).keep ((Below.refl _ _).alloc (Nat.le_refl _) (.cells #[.int .i64 g1, .int .i64 g2, .int .i64 g3] 24))
  have PG := BlkIs.new (x1.alloc (.cells #[.int .i64 f1, .int .i64 f2, .int .i64 f3] 24)) 24 #[.int .i64 g1, .int .i64 g2, .int .i64 g3]
  rw [World.size_alloc] at PG
  have B1 := b1.trans (al1.mono b1.size)
  obtain ⟨y1, hy1⟩ : ∃ y, (x1.alloc (.cells #[.int .i64 f1, .int .i64 f2, .int .i64 f3] 24)).alloc (.cells #[.int .i64 g1, .int .i64 g2, .int .i64 g3] 24) = y := ⟨_, rfl⟩
  have HY1 : Hid ((x1.alloc (.cells #[.int .i64 f1, .int .i64 f2, .int .i64 f3] 24)).alloc (.cells #[.int .i64 g1, .int .i64 g2, .int .i64 g3] 24) = y1) := hy1
  rw [hy1] at PF PG B1
  clear al1 b1 hy1
  have w0_1 := w0.below B1
  go_wp2_with fail
  rw [HY1.out]
  clear HY1
  refine (drawViewJoin_any a0 len0 cap0 z0 _ hl0 w0_1).mono ?_
  rintro e x2 ⟨va, vb, a, b, rfl, hla, hlb, DA, DB, b2⟩
  obtain ⟨ga, qa, rfl, _, NA, _, _, _, _⟩ := DA.parts
  obtain ⟨gb, qb, rfl, _, NB, _, _, _, _⟩ := DB.parts
  have PF_1 := PF.keep b2
  have PG_1 := PG.keep b2
  have B2 := B1.trans (b2.mono B1.size)
  clear PF PG b2 B1 w0_1 DA DB
  have w1_2 := w1.below B2
  go_wp2_with fail
  refine (drawViewPut_any a1 len1 cap1 z1 _ hl1 w1_2).mono ?_
  rintro e x3 ⟨vc, c, h, rfl, hlc, DC, b3⟩
  obtain ⟨gc, qc, rfl, _, NC0, hcap, hcm, _, _⟩ := DC.parts
  obtain ⟨h1, h2, h3⟩ := h
  unfold FactV.val
  dsimp only
  have al3 := (Below.refl x3.heap.size x3).alloc (Nat.le_refl _) (.cells #[.int .i64 h1, .int .i64 h2, .int .i64 h3] 24)
  have ab3 := b3.trans (al3.mono b3.size)
  have PH := BlkIs.new x3 24 #[.int .i64 h1, .int .i64 h2, .int .i64 h3]
  have NC := NC0.keep al3
  have PF_2 := PF_1.keep ab3
  have PG_2 := PG_1.keep ab3
  have NA_2 := NA.keep ab3
  have NB_2 := NB.keep ab3
  have B3 := B2.trans (ab3.mono B2.size)
  obtain ⟨y3, hy3⟩ : ∃ y, x3.alloc (.cells #[.int .i64 h1, .int .i64 h2, .int .i64 h3] 24) = y := ⟨_, rfl⟩
  have HY3 : Hid (x3.alloc (.cells #[.int .i64 h1, .int .i64 h2, .int .i64 h3] 24) = y3) := hy3
  rw [hy3] at PF_2 PG_2 NA_2 NB_2 PH NC B3
  clear PF_1 PG_1 NA NB al3 ab3 b3 B2 w1_2 DC NC0 hy3
  obtain ⟨cx, X, rx, hX⟩ := joinV_ex a b
  obtain ⟨cy, Y, ry, hY⟩ := joinV_ex b a
  obtain ⟨cp, P, rp, hP⟩ := put_ex c ⟨h1, h2, h3⟩
  have hlX : X.length ≤ 1048576 := Nat.le_trans (joinV_len hX) (by omega)
  have hlY : Y.length ≤ 1048576 := Nat.le_trans (joinV_len hY) (by omega)
  have hlP : P.length ≤ 1048576 := Nat.le_trans (put_len hP) (by omega)
  have HX : Hid (JoinVIs a b cx X rx) := hX
  have HYY : Hid (JoinVIs b a cy Y ry) := hY
  have HP : Hid (PutIs c ⟨h1, h2, h3⟩ cp P rp) := hP
  clear hX hY hP
  have ha20 : a.length ≤ 1048576 := by omega
  have hb20 : b.length ≤ 1048576 := by omega
  have hc20 : c.length ≤ 1048576 := by omega
  clear hla hlb hlc
  go_wp2_with fail
  rw [HY3.out]
  clear HY3
  refine (implJoin_any (some ⟨ga, 0, none⟩) (some ⟨gb, 0, none⟩) qa qb a b cx X rx _ HX.out ha20 hb20 NA_2 NB_2).mono ?_
  rintro e x4 ⟨v4, rfl, own4, b4⟩
  have GX := own_sl own4
  obtain ⟨p4, q4, rfl, _, _⟩ := own_sl own4
  have PF_3 := PF_2.keep b4
  have PG_3 := PG_2.keep b4
  have NA_3 := NA_2.keep b4
  have NB_3 := NB_2.keep b4
  have PH_3 := PH.keep b4
  have NC_3 := NC.keep b4
  have B4 := B3.trans (b4.mono B3.size)
  unfold outV
  dsimp only
  clear PF_2 PG_2 NA_2 NB_2 PH NC b4 B3 own4
  go_wp2_with fail
  refine (implJoin_any (some ⟨gb, 0, none⟩) (some ⟨ga, 0, none⟩) qb qa b a cy Y ry _ HYY.out hb20 ha20 NB_3 NA_3).mono ?_
  rintro e x5 ⟨v5, rfl, own5, b5⟩
  have GY0 := own_sl own5
  obtain ⟨p5, q5, rfl, _, _⟩ := own_sl own5
  unfold outV
  dsimp only
  have al5 := ((Below.refl x5.heap.size x5).alloc (Nat.le_refl _) (.cells #[.slice p4 X.length q4, .bool rx, .int .i64 cx] 33)).alloc (by simp) (.cells #[.slice p5 Y.length q5, .bool ry, .int .i64 cy] 33)
  have ab5 := b5.trans (al5.mono b5.size)
  have GY := GY0.keep al5
  have OX := (BlkIs.new x5 33 #[.slice p4 X.length q4, .bool rx, .int .i64 cx]).keep ((Below.refl _ _).alloc (Nat.le_refl _) (.cells #[.slice p5 Y.length q5, .bool ry, .int .i64 cy] 33))
  have OY := BlkIs.new (x5.alloc (.cells #[.slice p4 X.length q4, .bool rx, .int .i64 cx] 33)) 33 #[.slice p5 Y.length q5, .bool ry, .int .i64 cy]
  rw [World.size_alloc] at OY
  have PF_4 := PF_3.keep ab5
  have PG_4 := PG_3.keep ab5
  have NA_4 := NA_3.keep ab5
  have NB_4 := NB_3.keep ab5
  have PH_4 := PH_3.keep ab5
  have NC_4 := NC_3.keep ab5
  have GX_4 := GX.keep ab5
  have B5 := B4.trans (ab5.mono B4.size)
  obtain ⟨y5, hy5⟩ : ∃ y, (x5.alloc (.cells #[.slice p4 X.length q4, .bool rx, .int .i64 cx] 33)).alloc (.cells #[.slice p5 Y.length q5, .bool ry, .int .i64 cy] 33) = y := ⟨_, rfl⟩
  have HY5 : Hid ((x5.alloc (.cells #[.slice p4 X.length q4, .bool rx, .int .i64 cx] 33)).alloc (.cells #[.slice p5 Y.length q5, .bool ry, .int .i64 cy] 33) = y5) := hy5
  rw [hy5] at PF_4 PG_4 NA_4 NB_4 PH_4 NC_4 GX_4 GY OX OY B5
  clear PF_3 PG_3 NA_3 NB_3 PH_3 NC_3 GX al5 ab5 b5 B4 own5 GY0 hy5
  have i0 := PH_4.cell 0
  have i1 := PH_4.cell 1
  have i2 := PH_4.cell 2
  (try dsimp only at i0 i1 i2)
  go_wp2_with (rw [HY5.out])
  clear HY5 i0 i1 i2
  refine (implPut_any (some ⟨gc, 0, none⟩) qc c ⟨h1, h2, h3⟩ cp P rp _ HP.out hc20 NC_4).mono ?_
  rintro e x6 ⟨v6, rfl, own6, b6⟩
  have GP0 := own_sl own6
  obtain ⟨p6, q6, rfl, _, _⟩ := own_sl own6
  unfold outV
  dsimp only
  have al6 := (Below.refl x6.heap.size x6).alloc (Nat.le_refl _) (.cells #[.slice p6 P.length q6, .bool rp, .int .i64 cp] 33)
  have ab6 := b6.trans (al6.mono b6.size)
  have GP := GP0.keep al6
  have OP := BlkIs.new x6 33 #[.slice p6 P.length q6, .bool rp, .int .i64 cp]
  have PF_5 := PF_4.keep ab6
  have PG_5 := PG_4.keep ab6
  have NA_5 := NA_4.keep ab6
  have NB_5 := NB_4.keep ab6
  have PH_5 := PH_4.keep ab6
  have NC_5 := NC_4.keep ab6
  have GX_5 := GX_4.keep ab6
  have GY_5 := GY.keep ab6
  have OX_5 := OX.keep ab6
  have OY_5 := OY.keep ab6
  have B6 := B5.trans (ab6.mono B5.size)
  obtain ⟨y6, hy6⟩ : ∃ y, x6.alloc (.cells #[.slice p6 P.length q6, .bool rp, .int .i64 cp] 33) = y := ⟨_, rfl⟩
  have HY6 : Hid (x6.alloc (.cells #[.slice p6 P.length q6, .bool rp, .int .i64 cp] 33) = y6) := hy6
  rw [hy6] at PF_5 PG_5 NA_5 NB_5 PH_5 NC_5 GX_5 GY_5 OX_5 OY_5 GP OP B6
  clear PF_4 PG_4 NA_4 NB_4 PH_4 NC_4 GX_4 GY OX OY al6 ab6 b6 B5 own6 GP0 hy6
  have PFz := PF_5
  have PGz := PG_5
  have NAz := NA_5
  have NBz := NB_5
  have PHz := PH_5
  have NCz := NC_5
  have GXz := GX_5
  have GYz := GY_5
  have OXz := OX_5
  have OYz := OY_5
  have GPz := GP
  have OPz := OP
  clear PF_5 PG_5 NA_5 NB_5 PH_5 NC_5 GX_5 GY_5 OX_5 OY_5 GP OP
  obtain ⟨mj, hmj⟩ := joinFIs_ex ⟨f1, f2, f3⟩ ⟨g1, g2, g3⟩
  obtain ⟨j1, j2, j3⟩ := mj
  have HMJ : Hid (JoinFIs ⟨f1, f2, f3⟩ ⟨g1, g2, g3⟩ ⟨j1, j2, j3⟩) := hmj
  obtain ⟨rl, hrl⟩ := tells_bool (lessF ⟨f1, f2, f3⟩ ⟨g1, g2, g3⟩)
  have HRL : Hid (rl = true ↔ lessF ⟨f1, f2, f3⟩ ⟨g1, g2, g3⟩) := hrl
  obtain ⟨ma, hma⟩ := atIs_ex c h1
  obtain ⟨t1, t2, t3⟩ := ma
  have HMA : Hid (AtIs c h1 ⟨t1, t2, t3⟩) := hma
  obtain ⟨nl, hnl⟩ := leftIs_ex c
  have HNL : Hid (LeftIs c nl) := hnl
  have hnl20 : nl.length ≤ 1048576 := Nat.le_trans (leftIs_len hnl) (by omega)
  obtain ⟨rf, hrf⟩ := tells_bool (FactV.ok ⟨f1, f2, f3⟩)
  have HRF : Hid (rf = true ↔ FactV.ok ⟨f1, f2, f3⟩) := hrf
  obtain ⟨ra, hra⟩ := tells_bool (rightV a)
  have HRA : Hid (ra = true ↔ rightV a) := hra
  clear hmj hrl hma hnl hrf hra
  have ffv := field_view
  have ffn := field_news
  have hgu := guardF
  have hnj : ∀ w : World, _ := fun w => eqF_q (m := ⟨j1, j2, j3⟩) (y := ⟨j1, j2, j3⟩) (q := true) (by simp) w
  have hnt : ∀ w : World, _ := fun w => eqF_q (m := ⟨t1, t2, t3⟩) (y := ⟨t1, t2, t3⟩) (q := true) (by simp) w
  dsimp only at hnj hnt
  go_upto_region 8 with fail
  rw [HY6.out]
  clear HY6
  go_cut [111] (fun v wc => v = .bool false ∧ Below y6.heap.size y6 wc)
  case first =>
    as_aux_lemma =>
      refine wp_region_held_drew (S := (fun w' => Below y6.heap.size y6 w')) (by kernel_rfl) ?hS0 (fun hHeld => ?_)
      case hS0 => exact (Below.refl _ _).drew
      refine takeG 0 (v := .agg #[.int .i64 f1, .int .i64 f2, .int .i64 f3]) rfl (by kernel_rfl) (by kernel_rfl) (by kernel_rfl) (by kernel_rfl) (fun _ _ _ h => h) ?hy0 (by assumption) ?_
      case hy0 => (intro w' hSw; have i0 := (PFz.keep hSw).cell 0; have i1 := (PFz.keep hSw).cell 1; have i2 := (PFz.keep hSw).cell 2; (try dsimp only at i0 i1 i2); go_simp)
      try simp only [List.setIfInBounds_toArray, List.set_cons_zero, List.set_cons_succ]
      refine takeG 1 (v := .agg #[.int .i64 g1, .int .i64 g2, .int .i64 g3]) rfl (by kernel_rfl) (by kernel_rfl) (by kernel_rfl) (by kernel_rfl) (fun _ _ _ h => h) ?hy1 (by assumption) ?_
      case hy1 => (intro w' hSw; have i0 := (PGz.keep hSw).cell 0; have i1 := (PGz.keep hSw).cell 1; have i2 := (PGz.keep hSw).cell 2; (try dsimp only at i0 i1 i2); go_simp)
      try simp only [List.setIfInBounds_toArray, List.set_cons_zero, List.set_cons_succ]
      refine takeG 3 (v := .agg #[.int .i64 f1, .int .i64 f2, .int .i64 f3]) rfl (by kernel_rfl) (by kernel_rfl) (by kernel_rfl) (by kernel_rfl) (fun _ _ _ h => h) ?hy3 (by assumption) ?_
      case hy3 => (intro w' hSw; have i0 := (PFz.keep hSw).cell 0; have i1 := (PFz.keep hSw).cell 1; have i2 := (PFz.keep hSw).cell 2; (try dsimp only at i0 i1 i2); go_simp)
      try simp only [List.setIfInBounds_toArray, List.set_cons_zero, List.set_cons_succ]
      refine takeG 4 (v := .agg #[.int .i64 g1, .int .i64 g2, .int .i64 g3]) rfl (by kernel_rfl) (by kernel_rfl) (by kernel_rfl) (by kernel_rfl) (fun _ _ _ h => h) ?hy4 (by assumption) ?_
      case hy4 => (intro w' hSw; have i0 := (PGz.keep hSw).cell 0; have i1 := (PGz.keep hSw).cell 1; have i2 := (PGz.keep hSw).cell 2; (try dsimp only at i0 i1 i2); go_simp)
      try simp only [List.setIfInBounds_toArray, List.set_cons_zero, List.set_cons_succ]
      refine runG 2 (by kernel_rfl) rfl (by kernel_rfl) ?_
      go_simp
      refine (factJoin_any ⟨f1, f2, f3⟩ ⟨g1, g2, g3⟩ ⟨j1, j2, j3⟩ HMJ.out _).mono ?_
      rintro e r1 ⟨rfl, bb⟩
      have hr1 : Below y6.heap.size y6 r1 := hHeld.trans (bb.mono hHeld.size)
      unfold FactV.val
      dsimp only
      refine ⟨hr1, ?_⟩
      clear hHeld bb
      try simp only [Act.put, List.setIfInBounds_toArray, List.set_cons_zero, List.set_cons_succ]
      refine runG 5 (by kernel_rfl) rfl (by kernel_rfl) ?_
      go_simp
      refine (specFactJoin_any ⟨f1, f2, f3⟩ ⟨g1, g2, g3⟩ ⟨j1, j2, j3⟩ HMJ.out _).mono ?_
      rintro e r2 ⟨rfl, bb⟩
      have hr2 : Below y6.heap.size y6 r2 := hr1.trans (bb.mono hr1.size)
      unfold FactV.val
      dsimp only
      refine ⟨hr2, ?_⟩
      clear hr1 bb
      try simp only [Act.put, List.setIfInBounds_toArray, List.set_cons_zero, List.set_cons_succ]
      refine takeG 6 (v := .bool false) rfl (by kernel_rfl) (by kernel_rfl) (by kernel_rfl) (by kernel_rfl) (fun _ _ _ h => h) ?hy (by assumption) ?_
      case hy => (intro w' hSw; go_simp)
      try simp only [List.setIfInBounds_toArray, List.set_cons_zero, List.set_cons_succ]
      refine takeG 7 (v := .bool false) rfl (by kernel_rfl) (by kernel_rfl) (by kernel_rfl) (by kernel_rfl) (fun _ _ _ h => h) ?hy (by assumption) ?_
      case hy => (intro w' hSw; go_simp)
      try simp only [List.setIfInBounds_toArray, List.set_cons_zero, List.set_cons_succ]
      refine takeG 8 (v := .agg #[.int .i64 f1, .int .i64 f2, .int .i64 f3]) rfl (by kernel_rfl) (by kernel_rfl) (by kernel_rfl) (by kernel_rfl) (fun _ _ _ h => h) ?hy8 (by assumption) ?_
      case hy8 => (intro w' hSw; have i0 := (PFz.keep hSw).cell 0; have i1 := (PFz.keep hSw).cell 1; have i2 := (PFz.keep hSw).cell 2; (try dsimp only at i0 i1 i2); go_simp)
      try simp only [List.setIfInBounds_toArray, List.set_cons_zero, List.set_cons_succ]
      refine takeG 9 (v := .agg #[.int .i64 g1, .int .i64 g2, .int .i64 g3]) rfl (by kernel_rfl) (by kernel_rfl) (by kernel_rfl) (by kernel_rfl) (fun _ _ _ h => h) ?hy9 (by assumption) ?_
      case hy9 => (intro w' hSw; have i0 := (PGz.keep hSw).cell 0; have i1 := (PGz.keep hSw).cell 1; have i2 := (PGz.keep hSw).cell 2; (try dsimp only at i0 i1 i2); go_simp)
      try simp only [List.setIfInBounds_toArray, List.set_cons_zero, List.set_cons_succ]
      refine takeG 11 (v := .agg #[.int .i64 f1, .int .i64 f2, .int .i64 f3]) rfl (by kernel_rfl) (by kernel_rfl) (by kernel_rfl) (by kernel_rfl) (fun _ _ _ h => h) ?hy11 (by assumption) ?_
      case hy11 => (intro w' hSw; have i0 := (PFz.keep hSw).cell 0; have i1 := (PFz.keep hSw).cell 1; have i2 := (PFz.keep hSw).cell 2; (try dsimp only at i0 i1 i2); go_simp)
      try simp only [List.setIfInBounds_toArray, List.set_cons_zero, List.set_cons_succ]
      refine takeG 12 (v := .agg #[.int .i64 g1, .int .i64 g2, .int .i64 g3]) rfl (by kernel_rfl) (by kernel_rfl) (by kernel_rfl) (by kernel_rfl) (fun _ _ _ h => h) ?hy12 (by assumption) ?_
      case hy12 => (intro w' hSw; have i0 := (PGz.keep hSw).cell 0; have i1 := (PGz.keep hSw).cell 1; have i2 := (PGz.keep hSw).cell 2; (try dsimp only at i0 i1 i2); go_simp)
      try simp only [List.setIfInBounds_toArray, List.set_cons_zero, List.set_cons_succ]
      refine runG 10 (by kernel_rfl) rfl (by kernel_rfl) ?_
      go_simp
      refine (factLess_is ⟨f1, f2, f3⟩ ⟨g1, g2, g3⟩ _ rl HRL.out).mono ?_
      rintro e r3 ⟨rfl, bb⟩
      have hr3 : Below y6.heap.size y6 r3 := hr2.trans (bb.mono hr2.size)
      refine ⟨hr3, ?_⟩
      clear hr2 bb
      try simp only [Act.put, List.setIfInBounds_toArray, List.set_cons_zero, List.set_cons_succ]
      refine runG 13 (by kernel_rfl) rfl (by kernel_rfl) ?_
      go_simp
      refine (specFactLess_is ⟨f1, f2, f3⟩ ⟨g1, g2, g3⟩ _ rl HRL.out).mono ?_
      rintro e r4 ⟨rfl, bb⟩
      have hr4 : Below y6.heap.size y6 r4 := hr3.trans (bb.mono hr3.size)
      refine ⟨hr4, ?_⟩
      clear hr3 bb
      try simp only [Act.put, List.setIfInBounds_toArray, List.set_cons_zero, List.set_cons_succ]
      refine takeG 14 (v := .bool false) rfl (by kernel_rfl) (by kernel_rfl) (by kernel_rfl) (by kernel_rfl) (fun _ _ _ h => h) ?hy (by assumption) ?_
      case hy => (intro w' hSw; go_simp)
      try simp only [List.setIfInBounds_toArray, List.set_cons_zero, List.set_cons_succ]
      refine takeG 15 (v := .bool false) rfl (by kernel_rfl) (by kernel_rfl) (by kernel_rfl) (by kernel_rfl) (fun _ _ _ h => h) ?hy (by assumption) ?_
      case hy => (intro w' hSw; go_simp)
      try simp only [List.setIfInBounds_toArray, List.set_cons_zero, List.set_cons_succ]
      refine takeG 16 (v := .bool false) rfl (by kernel_rfl) (by kernel_rfl) (by kernel_rfl) (by kernel_rfl) (fun _ _ _ h => h) ?hy (by assumption) ?_
      case hy => (intro w' hSw; go_simp)
      try simp only [List.setIfInBounds_toArray, List.set_cons_zero, List.set_cons_succ]
      refine takeG 17 (v := .agg #[.slice p4 X.length q4, .bool rx, .int .i64 cx]) rfl (by kernel_rfl) (by kernel_rfl) (by kernel_rfl) (by kernel_rfl) (fun _ _ _ h => h) ?hy17 (by assumption) ?_
      case hy17 => (intro w' hSw; have i0 := (OXz.keep hSw).cell 0; have i1 := (OXz.keep hSw).cell 1; have i2 := (OXz.keep hSw).cell 2; (try dsimp only at i0 i1 i2); go_simp)
      try simp only [List.setIfInBounds_toArray, List.set_cons_zero, List.set_cons_succ]
      refine takeG 18 (v := .slice (some ⟨ga, 0, none⟩) a.length qa) rfl (by kernel_rfl) (by kernel_rfl) (by kernel_rfl) (by kernel_rfl) (fun _ _ _ h => h) ?hy (by assumption) ?_
      case hy => (intro w' hSw; go_simp)
      try simp only [List.setIfInBounds_toArray, List.set_cons_zero, List.set_cons_succ]
      refine takeG 19 (v := .slice (some ⟨gb, 0, none⟩) b.length qb) rfl (by kernel_rfl) (by kernel_rfl) (by kernel_rfl) (by kernel_rfl) (fun _ _ _ h => h) ?hy (by assumption) ?_
      case hy => (intro w' hSw; go_simp)
      try simp only [List.setIfInBounds_toArray, List.set_cons_zero, List.set_cons_succ]
      refine runG 20 (by kernel_rfl) rfl (by kernel_rfl) ?_
      go_simp
      refine (specJoin2_any ga 0 qa gb 0 qb a b cx X rx _ HX.out ha20 hb20 (NAz.keep hr4) (NBz.keep hr4)).mono ?_
      rintro e r5 ⟨vr5, rfl, ownr5, bb⟩
      have hr5 : Below y6.heap.size y6 r5 := hr4.trans (bb.mono hr4.size)
      have Sr5 := own_sl ownr5
      obtain ⟨pr5, qr5, rfl, _, _⟩ := own_sl ownr5
      unfold outV
      dsimp only
      clear ownr5
      refine ⟨hr5, ?_⟩
      clear hr4 bb
      try simp only [Act.put, List.setIfInBounds_toArray, List.set_cons_zero, List.set_cons_succ]
      refine runG 21 (by kernel_rfl) rfl (by kernel_rfl) ?_
      go_simp
      refine (lwViews_same (.slice p4 X.length q4) (.slice pr5 X.length qr5) _ _ rx cx X _ hlX (GXz.keep hr5) Sr5 (fun e => by subst e; exact (joinV_right HX.out).2.2.1)).mono ?_
      rintro e r6 ⟨rfl, bb⟩
      have hr6 : Below y6.heap.size y6 r6 := hr5.trans (bb.mono hr5.size)
      refine ⟨hr6, ?_⟩
      clear hr5 bb
      try simp only [Act.put, List.setIfInBounds_toArray, List.set_cons_zero, List.set_cons_succ]
      refine takeG 22 (v := .bool false) rfl (by kernel_rfl) (by kernel_rfl) (by kernel_rfl) (by kernel_rfl) (fun _ _ _ h => h) ?hy (by assumption) ?_
      case hy => (intro w' hSw; go_simp)
      try simp only [List.setIfInBounds_toArray, List.set_cons_zero, List.set_cons_succ]
      refine takeG 23 (v := .bool false) rfl (by kernel_rfl) (by kernel_rfl) (by kernel_rfl) (by kernel_rfl) (fun _ _ _ h => h) ?hy (by assumption) ?_
      case hy => (intro w' hSw; go_simp)
      try simp only [List.setIfInBounds_toArray, List.set_cons_zero, List.set_cons_succ]
      refine takeG 24 (v := .bool false) rfl (by kernel_rfl) (by kernel_rfl) (by kernel_rfl) (by kernel_rfl) (fun _ _ _ h => h) ?hy (by assumption) ?_
      case hy => (intro w' hSw; go_simp)
      try simp only [List.setIfInBounds_toArray, List.set_cons_zero, List.set_cons_succ]
      refine takeG 25 (v := .agg #[.slice p6 P.length q6, .bool rp, .int .i64 cp]) rfl (by kernel_rfl) (by kernel_rfl) (by kernel_rfl) (by kernel_rfl) (fun _ _ _ h => h) ?hy25 (by assumption) ?_
      case hy25 => (intro w' hSw; have i0 := (OPz.keep hSw).cell 0; have i1 := (OPz.keep hSw).cell 1; have i2 := (OPz.keep hSw).cell 2; (try dsimp only at i0 i1 i2); go_simp)
      try simp only [List.setIfInBounds_toArray, List.set_cons_zero, List.set_cons_succ]
      refine takeG 26 (v := .slice (some ⟨gc, 0, none⟩) c.length qc) rfl (by kernel_rfl) (by kernel_rfl) (by kernel_rfl) (by kernel_rfl) (fun _ _ _ h => h) ?hy (by assumption) ?_
      case hy => (intro w' hSw; go_simp)
      try simp only [List.setIfInBounds_toArray, List.set_cons_zero, List.set_cons_succ]
      refine takeG 27 (v := .agg #[.int .i64 h1, .int .i64 h2, .int .i64 h3]) rfl (by kernel_rfl) (by kernel_rfl) (by kernel_rfl) (by kernel_rfl) (fun _ _ _ h => h) ?hy27 (by assumption) ?_
      case hy27 => (intro w' hSw; have i0 := (PHz.keep hSw).cell 0; have i1 := (PHz.keep hSw).cell 1; have i2 := (PHz.keep hSw).cell 2; (try dsimp only at i0 i1 i2); go_simp)
      try simp only [List.setIfInBounds_toArray, List.set_cons_zero, List.set_cons_succ]
      refine runG 28 (by kernel_rfl) rfl (by kernel_rfl) ?_
      go_simp
      refine (specPut_any gc 0 qc c ⟨h1, h2, h3⟩ cp P rp _ HP.out hc20 hcap hcm (NCz.keep hr6)).mono ?_
      rintro e r7 ⟨vr7, rfl, ownr7, bb⟩
      have hr7 : Below y6.heap.size y6 r7 := hr6.trans (bb.mono hr6.size)
      have Sr7 := own_sl ownr7
      obtain ⟨pr7, qr7, rfl, _, _⟩ := own_sl ownr7
      unfold outV
      dsimp only
      clear ownr7
      refine ⟨hr7, ?_⟩
      clear hr6 bb
      try simp only [Act.put, List.setIfInBounds_toArray, List.set_cons_zero, List.set_cons_succ]
      refine runG 29 (by kernel_rfl) rfl (by kernel_rfl) ?_
      go_simp
      refine (lwViews_same (.slice p6 P.length q6) (.slice pr7 P.length qr7) _ _ rp cp P _ hlP (GPz.keep hr7) Sr7 (fun e => by subst e; exact put_rightV HP.out)).mono ?_
      rintro e r8 ⟨rfl, bb⟩
      have hr8 : Below y6.heap.size y6 r8 := hr7.trans (bb.mono hr7.size)
      refine ⟨hr8, ?_⟩
      clear hr7 bb
      try simp only [Act.put, List.setIfInBounds_toArray, List.set_cons_zero, List.set_cons_succ]
      refine takeG 30 (v := .bool false) rfl (by kernel_rfl) (by kernel_rfl) (by kernel_rfl) (by kernel_rfl) (fun _ _ _ h => h) ?hy (by assumption) ?_
      case hy => (intro w' hSw; go_simp)
      try simp only [List.setIfInBounds_toArray, List.set_cons_zero, List.set_cons_succ]
      refine takeG 31 (v := .bool false) rfl (by kernel_rfl) (by kernel_rfl) (by kernel_rfl) (by kernel_rfl) (fun _ _ _ h => h) ?hy (by assumption) ?_
      case hy => (intro w' hSw; go_simp)
      try simp only [List.setIfInBounds_toArray, List.set_cons_zero, List.set_cons_succ]
      refine takeG 32 (v := .bool false) rfl (by kernel_rfl) (by kernel_rfl) (by kernel_rfl) (by kernel_rfl) (fun _ _ _ h => h) ?hy (by assumption) ?_
      case hy => (intro w' hSw; go_simp)
      try simp only [List.setIfInBounds_toArray, List.set_cons_zero, List.set_cons_succ]
      refine takeG 33 (v := .slice (some ⟨gc, 0, none⟩) c.length qc) rfl (by kernel_rfl) (by kernel_rfl) (by kernel_rfl) (by kernel_rfl) (fun _ _ _ h => h) ?hy (by assumption) ?_
      case hy => (intro w' hSw; go_simp)
      try simp only [List.setIfInBounds_toArray, List.set_cons_zero, List.set_cons_succ]
      refine takeG 34 (v := .pointer (some ⟨x3.heap.size, 0, none⟩)) rfl (by kernel_rfl) (by kernel_rfl) (by kernel_rfl) (by kernel_rfl) (fun _ _ _ h => h) ?hy (by assumption) ?_
      case hy => (intro w' hSw; go_simp)
      try simp only [List.setIfInBounds_toArray, List.set_cons_zero, List.set_cons_succ]
      refine takeG 35 (v := .int .i64 h1) rfl (by kernel_rfl) (by kernel_rfl) (by kernel_rfl) (by kernel_rfl) (fun _ _ _ h => h) ?hy35 (by assumption) ?_
      case hy35 => (intro w' hSw; have i0 := (PHz.keep hSw).cell 0; have i1 := (PHz.keep hSw).cell 1; have i2 := (PHz.keep hSw).cell 2; (try dsimp only at i0 i1 i2); go_simp)
      try simp only [List.setIfInBounds_toArray, List.set_cons_zero, List.set_cons_succ]
      refine takeG 37 (v := .slice (some ⟨gc, 0, none⟩) c.length qc) rfl (by kernel_rfl) (by kernel_rfl) (by kernel_rfl) (by kernel_rfl) (fun _ _ _ h => h) ?hy (by assumption) ?_
      case hy => (intro w' hSw; go_simp)
      try simp only [List.setIfInBounds_toArray, List.set_cons_zero, List.set_cons_succ]
      refine takeG 38 (v := .pointer (some ⟨x3.heap.size, 0, none⟩)) rfl (by kernel_rfl) (by kernel_rfl) (by kernel_rfl) (by kernel_rfl) (fun _ _ _ h => h) ?hy (by assumption) ?_
      case hy => (intro w' hSw; go_simp)
      try simp only [List.setIfInBounds_toArray, List.set_cons_zero, List.set_cons_succ]
      refine takeG 39 (v := .int .i64 h1) rfl (by kernel_rfl) (by kernel_rfl) (by kernel_rfl) (by kernel_rfl) (fun _ _ _ h => h) ?hy39 (by assumption) ?_
      case hy39 => (intro w' hSw; have i0 := (PHz.keep hSw).cell 0; have i1 := (PHz.keep hSw).cell 1; have i2 := (PHz.keep hSw).cell 2; (try dsimp only at i0 i1 i2); go_simp)
      try simp only [List.setIfInBounds_toArray, List.set_cons_zero, List.set_cons_succ]
      refine runG 36 (by kernel_rfl) rfl (by kernel_rfl) ?_
      go_simp
      refine (implAt_any (some ⟨gc, 0, none⟩) qc c h1 ⟨t1, t2, t3⟩ HMA.out _ hc20 (NCz.keep hr8)).mono ?_
      rintro e r9 ⟨rfl, bb⟩
      have hr9 : Below y6.heap.size y6 r9 := hr8.trans (bb.mono hr8.size)
      unfold FactV.val
      dsimp only
      refine ⟨hr9, ?_⟩
      clear hr8 bb
      try simp only [Act.put, List.setIfInBounds_toArray, List.set_cons_zero, List.set_cons_succ]
      refine runG 40 (by kernel_rfl) rfl (by kernel_rfl) ?_
      go_simp
      refine (specAt_any (some ⟨gc, 0, none⟩) qc c h1 ⟨t1, t2, t3⟩ HMA.out _ hc20 (NCz.keep hr9)).mono ?_
      rintro e r10 ⟨rfl, bb⟩
      have hr10 : Below y6.heap.size y6 r10 := hr9.trans (bb.mono hr9.size)
      unfold FactV.val
      dsimp only
      refine ⟨hr10, ?_⟩
      clear hr9 bb
      try simp only [Act.put, List.setIfInBounds_toArray, List.set_cons_zero, List.set_cons_succ]
      refine takeG 41 (v := .bool false) rfl (by kernel_rfl) (by kernel_rfl) (by kernel_rfl) (by kernel_rfl) (fun _ _ _ h => h) ?hy (by assumption) ?_
      case hy => (intro w' hSw; go_simp)
      try simp only [List.setIfInBounds_toArray, List.set_cons_zero, List.set_cons_succ]
      refine takeG 42 (v := .bool false) rfl (by kernel_rfl) (by kernel_rfl) (by kernel_rfl) (by kernel_rfl) (fun _ _ _ h => h) ?hy (by assumption) ?_
      case hy => (intro w' hSw; go_simp)
      try simp only [List.setIfInBounds_toArray, List.set_cons_zero, List.set_cons_succ]
      refine takeG 43 (v := .bool false) rfl (by kernel_rfl) (by kernel_rfl) (by kernel_rfl) (by kernel_rfl) (fun _ _ _ h => h) ?hy (by assumption) ?_
      case hy => (intro w' hSw; go_simp)
      try simp only [List.setIfInBounds_toArray, List.set_cons_zero, List.set_cons_succ]
      refine takeG 44 (v := .slice (some ⟨gc, 0, none⟩) c.length qc) rfl (by kernel_rfl) (by kernel_rfl) (by kernel_rfl) (by kernel_rfl) (fun _ _ _ h => h) ?hy (by assumption) ?_
      case hy => (intro w' hSw; go_simp)
      try simp only [List.setIfInBounds_toArray, List.set_cons_zero, List.set_cons_succ]
      refine takeG 46 (v := .slice (some ⟨gc, 0, none⟩) c.length qc) rfl (by kernel_rfl) (by kernel_rfl) (by kernel_rfl) (by kernel_rfl) (fun _ _ _ h => h) ?hy (by assumption) ?_
      case hy => (intro w' hSw; go_simp)
      try simp only [List.setIfInBounds_toArray, List.set_cons_zero, List.set_cons_succ]
      refine runG 45 (by kernel_rfl) rfl (by kernel_rfl) ?_
      go_simp
      refine (implLeft_any (some ⟨gc, 0, none⟩) qc c nl HNL.out _ hc20 (NCz.keep hr10)).mono ?_
      rintro e r11 ⟨vr11, rfl, ownr11, bb⟩
      have hr11 : Below y6.heap.size y6 r11 := hr10.trans (bb.mono hr10.size)
      obtain ⟨ar11, cr11, rfl, or11⟩ := own_nums ownr11
      have sr11 := or11.row
      clear ownr11 or11
      refine ⟨hr11, ?_⟩
      clear hr10 bb
      try simp only [Act.put, List.setIfInBounds_toArray, List.set_cons_zero, List.set_cons_succ]
      refine runG 47 (by kernel_rfl) rfl (by kernel_rfl) ?_
      go_simp
      refine (specLeft_any (some ⟨gc, 0, none⟩) qc c nl HNL.out _ hc20 (NCz.keep hr11)).mono ?_
      rintro e r12 ⟨vr12, rfl, ownr12, bb⟩
      have hr12 : Below y6.heap.size y6 r12 := hr11.trans (bb.mono hr11.size)
      have sr11k := sr11.keep bb
      obtain ⟨ar12, cr12, rfl, or12⟩ := own_nums ownr12
      have sr12 := or12.row
      clear ownr12 or12
      refine ⟨hr12, ?_⟩
      clear hr11 bb
      try simp only [Act.put, List.setIfInBounds_toArray, List.set_cons_zero, List.set_cons_succ]
      refine runG 48 (by kernel_rfl) rfl (by kernel_rfl) ?_
      go_simp
      refine (lwNums_same ar11 ar12 cr11 cr12 nl _ hnl20 sr11k sr12).mono ?_
      rintro e r13 ⟨rfl, bb⟩
      have hr13 : Below y6.heap.size y6 r13 := hr12.trans (bb.mono hr12.size)
      refine ⟨hr13, ?_⟩
      clear hr12 bb
      try simp only [Act.put, List.setIfInBounds_toArray, List.set_cons_zero, List.set_cons_succ]
      refine takeG 49 (v := .bool false) rfl (by kernel_rfl) (by kernel_rfl) (by kernel_rfl) (by kernel_rfl) (fun _ _ _ h => h) ?hy (by assumption) ?_
      case hy => (intro w' hSw; go_simp)
      try simp only [List.setIfInBounds_toArray, List.set_cons_zero, List.set_cons_succ]
      refine takeG 50 (v := .bool false) rfl (by kernel_rfl) (by kernel_rfl) (by kernel_rfl) (by kernel_rfl) (fun _ _ _ h => h) ?hy (by assumption) ?_
      case hy => (intro w' hSw; go_simp)
      try simp only [List.setIfInBounds_toArray, List.set_cons_zero, List.set_cons_succ]
      refine takeG 51 (v := .bool false) rfl (by kernel_rfl) (by kernel_rfl) (by kernel_rfl) (by kernel_rfl) (fun _ _ _ h => h) ?hy (by assumption) ?_
      case hy => (intro w' hSw; go_simp)
      try simp only [List.setIfInBounds_toArray, List.set_cons_zero, List.set_cons_succ]
      refine takeG 52 (v := .agg #[.int .i64 f1, .int .i64 f2, .int .i64 f3]) rfl (by kernel_rfl) (by kernel_rfl) (by kernel_rfl) (by kernel_rfl) (fun _ _ _ h => h) ?hy52 (by assumption) ?_
      case hy52 => (intro w' hSw; have i0 := (PFz.keep hSw).cell 0; have i1 := (PFz.keep hSw).cell 1; have i2 := (PFz.keep hSw).cell 2; (try dsimp only at i0 i1 i2); go_simp)
      try simp only [List.setIfInBounds_toArray, List.set_cons_zero, List.set_cons_succ]
      refine takeG 54 (v := .agg #[.int .i64 f1, .int .i64 f2, .int .i64 f3]) rfl (by kernel_rfl) (by kernel_rfl) (by kernel_rfl) (by kernel_rfl) (fun _ _ _ h => h) ?hy54 (by assumption) ?_
      case hy54 => (intro w' hSw; have i0 := (PFz.keep hSw).cell 0; have i1 := (PFz.keep hSw).cell 1; have i2 := (PFz.keep hSw).cell 2; (try dsimp only at i0 i1 i2); go_simp)
      try simp only [List.setIfInBounds_toArray, List.set_cons_zero, List.set_cons_succ]
      refine runG 53 (by kernel_rfl) rfl (by kernel_rfl) ?_
      go_simp
      refine (factRight_is ⟨f1, f2, f3⟩ _ rf HRF.out).mono ?_
      rintro e r14 ⟨rfl, bb⟩
      have hr14 : Below y6.heap.size y6 r14 := hr13.trans (bb.mono hr13.size)
      refine ⟨hr14, ?_⟩
      clear hr13 bb
      try simp only [Act.put, List.setIfInBounds_toArray, List.set_cons_zero, List.set_cons_succ]
      refine runG 55 (by kernel_rfl) rfl (by kernel_rfl) ?_
      go_simp
      refine (specFact_is ⟨f1, f2, f3⟩ _ rf HRF.out).mono ?_
      rintro e r15 ⟨rfl, bb⟩
      have hr15 : Below y6.heap.size y6 r15 := hr14.trans (bb.mono hr14.size)
      refine ⟨hr15, ?_⟩
      clear hr14 bb
      try simp only [Act.put, List.setIfInBounds_toArray, List.set_cons_zero, List.set_cons_succ]
      refine takeG 56 (v := .bool false) rfl (by kernel_rfl) (by kernel_rfl) (by kernel_rfl) (by kernel_rfl) (fun _ _ _ h => h) ?hy (by assumption) ?_
      case hy => (intro w' hSw; go_simp)
      try simp only [List.setIfInBounds_toArray, List.set_cons_zero, List.set_cons_succ]
      refine takeG 57 (v := .bool false) rfl (by kernel_rfl) (by kernel_rfl) (by kernel_rfl) (by kernel_rfl) (fun _ _ _ h => h) ?hy (by assumption) ?_
      case hy => (intro w' hSw; go_simp)
      try simp only [List.setIfInBounds_toArray, List.set_cons_zero, List.set_cons_succ]
      refine takeG 58 (v := .bool false) rfl (by kernel_rfl) (by kernel_rfl) (by kernel_rfl) (by kernel_rfl) (fun _ _ _ h => h) ?hy (by assumption) ?_
      case hy => (intro w' hSw; go_simp)
      try simp only [List.setIfInBounds_toArray, List.set_cons_zero, List.set_cons_succ]
      refine takeG 59 (v := .slice (some ⟨ga, 0, none⟩) a.length qa) rfl (by kernel_rfl) (by kernel_rfl) (by kernel_rfl) (by kernel_rfl) (fun _ _ _ h => h) ?hy (by assumption) ?_
      case hy => (intro w' hSw; go_simp)
      try simp only [List.setIfInBounds_toArray, List.set_cons_zero, List.set_cons_succ]
      refine takeG 61 (v := .slice (some ⟨ga, 0, none⟩) a.length qa) rfl (by kernel_rfl) (by kernel_rfl) (by kernel_rfl) (by kernel_rfl) (fun _ _ _ h => h) ?hy (by assumption) ?_
      case hy => (intro w' hSw; go_simp)
      try simp only [List.setIfInBounds_toArray, List.set_cons_zero, List.set_cons_succ]
      refine runG 60 (by kernel_rfl) rfl (by kernel_rfl) ?_
      go_simp
      refine (implVRight_is (some ⟨ga, 0, none⟩) qa a _ ra HRA.out ha20 (NAz.keep hr15)).mono ?_
      rintro e r16 ⟨rfl, bb⟩
      have hr16 : Below y6.heap.size y6 r16 := hr15.trans (bb.mono hr15.size)
      refine ⟨hr16, ?_⟩
      clear hr15 bb
      try simp only [Act.put, List.setIfInBounds_toArray, List.set_cons_zero, List.set_cons_succ]
      refine runG 62 (by kernel_rfl) rfl (by kernel_rfl) ?_
      go_simp
      refine (specVRight_is (some ⟨ga, 0, none⟩) qa a _ ra HRA.out ha20 (NAz.keep hr16)).mono ?_
      rintro e r17 ⟨rfl, bb⟩
      have hr17 : Below y6.heap.size y6 r17 := hr16.trans (bb.mono hr16.size)
      refine ⟨hr17, ?_⟩
      clear hr16 bb
      try simp only [Act.put, List.setIfInBounds_toArray, List.set_cons_zero, List.set_cons_succ]
      refine takeG 63 (v := .bool false) rfl (by kernel_rfl) (by kernel_rfl) (by kernel_rfl) (by kernel_rfl) (fun _ _ _ h => h) ?hy (by assumption) ?_
      case hy => (intro w' hSw; go_simp)
      try simp only [List.setIfInBounds_toArray, List.set_cons_zero, List.set_cons_succ]
      refine takeG 64 (v := .bool false) rfl (by kernel_rfl) (by kernel_rfl) (by kernel_rfl) (by kernel_rfl) (fun _ _ _ h => h) ?hy (by assumption) ?_
      case hy => (intro w' hSw; go_simp)
      try simp only [List.setIfInBounds_toArray, List.set_cons_zero, List.set_cons_succ]
      refine wpAnyH_done (by kernel_rfl) ?_ _
      go_wp2_with fail
      go_meet
      case rel => exact ⟨rfl, hr17⟩
  case rest =>
  obtain ⟨hv111, bc⟩ := hcut
  subst hv111
  obtain ⟨rg, hrg⟩ := tells_bool (FactV.ok ⟨g1, g2, g3⟩)
  have HRG : Hid (rg = true ↔ FactV.ok ⟨g1, g2, g3⟩) := hrg
  clear hrg
  go_upto_region 10 with fail
  go_cut [124] (fun v wd => ∃ t : Bool, v = .bool t ∧ (t = true → oneNode ⟨f1, f2, f3⟩ ⟨g1, g2, g3⟩) ∧ Below y6.heap.size y6 wd)
  case first =>
    as_aux_lemma =>
      have i0 := (PFz.keep bc).cell 0
      have i1 := (PFz.keep bc).cell 1
      have i2 := (PFz.keep bc).cell 2
      cases rf with
      | false =>
        go_wp2_with fail
        refine (specFact_is ⟨f1, f2, f3⟩ _ false (by simpa using HRF.out)).mono ?_
        rintro e v1 ⟨rfl, bb⟩
        have bd := bc.trans (bb.mono bc.size)
        clear i0 i1 i2 bb bc
        go_wp2
        go_meet
        case rel => exact ⟨false, rfl, (fun h => by cases h), bd⟩
      | true =>
        go_wp2_with fail
        refine (specFact_is ⟨f1, f2, f3⟩ _ true (by simpa using HRF.out)).mono ?_
        rintro e v1 ⟨rfl, bb⟩
        have bd := bc.trans (bb.mono bc.size)
        clear i0 i1 i2 bb bc
        have k0 := (PGz.keep bd).cell 0
        have k1 := (PGz.keep bd).cell 1
        have k2 := (PGz.keep bd).cell 2
        cases rg with
        | false =>
          go_wp2_with fail
          refine (specFact_is ⟨g1, g2, g3⟩ _ false (by simpa using HRG.out)).mono ?_
          rintro e v2 ⟨rfl, bb⟩
          have be := bd.trans (bb.mono bd.size)
          clear k0 k1 k2 bb bd
          go_wp2
          go_meet
          case rel => exact ⟨false, rfl, (fun h => by cases h), be⟩
        | true =>
          go_wp2_with fail
          refine (specFact_is ⟨g1, g2, g3⟩ _ true (by simpa using HRG.out)).mono ?_
          rintro e v2 ⟨rfl, bb⟩
          have be := bd.trans (bb.mono bd.size)
          clear k0 k1 k2 bb bd
          have i0 := (PFz.keep be).cell 0
          have i1 := (PFz.keep be).cell 1
          have i2 := (PFz.keep be).cell 2
          have k0 := (PGz.keep be).cell 0
          have k1 := (PGz.keep be).cell 1
          have k2 := (PGz.keep be).cell 2
          by_cases e : f1 = g1
          · have eb : (f1 == g1) = true := by simp [e]
            have HO : Hid (oneNode ⟨f1, f2, f3⟩ ⟨g1, g2, g3⟩) := ⟨by simpa using HRF.out, by simpa using HRG.out, e⟩
            clear e
            go_wp2
            go_meet
            case rel => exact ⟨true, rfl, fun _ => HO.out, be⟩
          · have eb : (f1 == g1) = false := by simp [e]
            go_wp2
            go_meet
            case rel => exact ⟨false, rfl, (fun h => by cases h), be⟩
  case rest =>
  clear bc
  obtain ⟨tb, hv124, htb, bd⟩ := hcut
  subst hv124
  go_upto_if 124 with fail
  go_cut [] (fun we => Below y6.heap.size y6 we)
  case first =>
    cases tb with
    | false =>
      go_wp2
      go_meet
      case rel => exact bd
    | true =>
      have HON : Hid (oneNode ⟨f1, f2, f3⟩ ⟨g1, g2, g3⟩) := htb rfl
      clear htb
      obtain ⟨rk, hrk⟩ := tells_bool (lessF ⟨g1, g2, g3⟩ ⟨f1, f2, f3⟩)
      have HRK : Hid (rk = true ↔ lessF ⟨g1, g2, g3⟩ ⟨f1, f2, f3⟩) := hrk
      have HMK : Hid (JoinFIs ⟨g1, g2, g3⟩ ⟨f1, f2, f3⟩ ⟨j1, j2, j3⟩) := by
        obtain ⟨mk, hmk⟩ := joinFIs_ex ⟨g1, g2, g3⟩ ⟨f1, f2, f3⟩
        have e := joinIs_comm HON.out HMJ.out hmk
        subst e
        exact hmk
      have HLJ : Hid (false = true ↔ lessF ⟨j1, j2, j3⟩ ⟨f1, f2, f3⟩) := ⟨fun h => (by cases h), fun h => absurd h (joinIs_ge HON.out HMJ.out)⟩
      clear hrk
      obtain ⟨qe, hqe⟩ := tells_bool ((⟨f1, f2, f3⟩ : FactV) = ⟨g1, g2, g3⟩)
      have hnq : ∀ w : World, _ := fun w => eqF_q hqe w
      dsimp only at hnq
      cases qe with
      | true =>
        clear hqe
        as_aux_lemma =>
          go_upto_region 11 with fail
          refine wp_region_held_drew (S := (fun w' => Below y6.heap.size y6 w')) (by kernel_rfl) ?hS0 (fun hHeld => ?_)
          case hS0 => exact bd.drew
          refine takeG 0 (v := .agg #[.int .i64 f1, .int .i64 f2, .int .i64 f3]) rfl (by kernel_rfl) (by kernel_rfl) (by kernel_rfl) (by kernel_rfl) (fun _ _ _ h => h) ?hy0 (by assumption) ?_
          case hy0 => (intro w' hSw; have i0 := (PFz.keep hSw).cell 0; have i1 := (PFz.keep hSw).cell 1; have i2 := (PFz.keep hSw).cell 2; (try dsimp only at i0 i1 i2); go_simp)
          try simp only [List.setIfInBounds_toArray, List.set_cons_zero, List.set_cons_succ]
          refine takeG 1 (v := .agg #[.int .i64 g1, .int .i64 g2, .int .i64 g3]) rfl (by kernel_rfl) (by kernel_rfl) (by kernel_rfl) (by kernel_rfl) (fun _ _ _ h => h) ?hy1 (by assumption) ?_
          case hy1 => (intro w' hSw; have i0 := (PGz.keep hSw).cell 0; have i1 := (PGz.keep hSw).cell 1; have i2 := (PGz.keep hSw).cell 2; (try dsimp only at i0 i1 i2); go_simp)
          try simp only [List.setIfInBounds_toArray, List.set_cons_zero, List.set_cons_succ]
          refine takeG 2 (v := .bool false) rfl (by kernel_rfl) (by kernel_rfl) (by kernel_rfl) (by kernel_rfl) (fun _ _ _ h => h) ?hy (by assumption) ?_
          case hy => (intro w' hSw; go_simp)
          try simp only [List.setIfInBounds_toArray, List.set_cons_zero, List.set_cons_succ]
          refine takeG 3 (v := .bool false) rfl (by kernel_rfl) (by kernel_rfl) (by kernel_rfl) (by kernel_rfl) (fun _ _ _ h => h) ?hy (by assumption) ?_
          case hy => (intro w' hSw; go_simp)
          try simp only [List.setIfInBounds_toArray, List.set_cons_zero, List.set_cons_succ]
          refine skipG 4 rfl (by kernel_rfl) (by kernel_rfl) (by kernel_rfl) (by kernel_rfl) (fun _ _ _ h => h) (by assumption) ?_
          try simp only [List.setIfInBounds_toArray, List.set_cons_zero, List.set_cons_succ]
          refine skipG 5 rfl (by kernel_rfl) (by kernel_rfl) (by kernel_rfl) (by kernel_rfl) (fun _ _ _ h => h) (by assumption) ?_
          try simp only [List.setIfInBounds_toArray, List.set_cons_zero, List.set_cons_succ]
          refine skipG 7 rfl (by kernel_rfl) (by kernel_rfl) (by kernel_rfl) (by kernel_rfl) (fun _ _ _ h => h) (by assumption) ?_
          try simp only [List.setIfInBounds_toArray, List.set_cons_zero, List.set_cons_succ]
          refine skipG 8 rfl (by kernel_rfl) (by kernel_rfl) (by kernel_rfl) (by kernel_rfl) (fun _ _ _ h => h) (by assumption) ?_
          try simp only [List.setIfInBounds_toArray, List.set_cons_zero, List.set_cons_succ]
          refine skipAloneG 6 (by kernel_rfl) rfl (by kernel_rfl) (by assumption) ?_
          try simp only [List.setIfInBounds_toArray, List.set_cons_zero, List.set_cons_succ]
          refine skipAloneG 9 (by kernel_rfl) rfl (by kernel_rfl) (by assumption) ?_
          try simp only [List.setIfInBounds_toArray, List.set_cons_zero, List.set_cons_succ]
          refine skipG 10 rfl (by kernel_rfl) (by kernel_rfl) (by kernel_rfl) (by kernel_rfl) (fun _ _ _ h => h) (by assumption) ?_
          try simp only [List.setIfInBounds_toArray, List.set_cons_zero, List.set_cons_succ]
          refine takeG 11 (v := .bool false) rfl (by kernel_rfl) (by kernel_rfl) (by kernel_rfl) (by kernel_rfl) (fun _ _ _ h => h) ?hy (by assumption) ?_
          case hy => (intro w' hSw; go_simp)
          try simp only [List.setIfInBounds_toArray, List.set_cons_zero, List.set_cons_succ]
          refine takeG 12 (v := .bool false) rfl (by kernel_rfl) (by kernel_rfl) (by kernel_rfl) (by kernel_rfl) (fun _ _ _ h => h) ?hy (by assumption) ?_
          case hy => (intro w' hSw; go_simp)
          try simp only [List.setIfInBounds_toArray, List.set_cons_zero, List.set_cons_succ]
          refine takeG 13 (v := .agg #[.int .i64 f1, .int .i64 f2, .int .i64 f3]) rfl (by kernel_rfl) (by kernel_rfl) (by kernel_rfl) (by kernel_rfl) (fun _ _ _ h => h) ?hy13 (by assumption) ?_
          case hy13 => (intro w' hSw; have i0 := (PFz.keep hSw).cell 0; have i1 := (PFz.keep hSw).cell 1; have i2 := (PFz.keep hSw).cell 2; (try dsimp only at i0 i1 i2); go_simp)
          try simp only [List.setIfInBounds_toArray, List.set_cons_zero, List.set_cons_succ]
          refine takeG 14 (v := .agg #[.int .i64 g1, .int .i64 g2, .int .i64 g3]) rfl (by kernel_rfl) (by kernel_rfl) (by kernel_rfl) (by kernel_rfl) (fun _ _ _ h => h) ?hy14 (by assumption) ?_
          case hy14 => (intro w' hSw; have i0 := (PGz.keep hSw).cell 0; have i1 := (PGz.keep hSw).cell 1; have i2 := (PGz.keep hSw).cell 2; (try dsimp only at i0 i1 i2); go_simp)
          try simp only [List.setIfInBounds_toArray, List.set_cons_zero, List.set_cons_succ]
          refine takeG 16 (v := .agg #[.int .i64 g1, .int .i64 g2, .int .i64 g3]) rfl (by kernel_rfl) (by kernel_rfl) (by kernel_rfl) (by kernel_rfl) (fun _ _ _ h => h) ?hy16 (by assumption) ?_
          case hy16 => (intro w' hSw; have i0 := (PGz.keep hSw).cell 0; have i1 := (PGz.keep hSw).cell 1; have i2 := (PGz.keep hSw).cell 2; (try dsimp only at i0 i1 i2); go_simp)
          try simp only [List.setIfInBounds_toArray, List.set_cons_zero, List.set_cons_succ]
          refine takeG 17 (v := .agg #[.int .i64 f1, .int .i64 f2, .int .i64 f3]) rfl (by kernel_rfl) (by kernel_rfl) (by kernel_rfl) (by kernel_rfl) (fun _ _ _ h => h) ?hy17 (by assumption) ?_
          case hy17 => (intro w' hSw; have i0 := (PFz.keep hSw).cell 0; have i1 := (PFz.keep hSw).cell 1; have i2 := (PFz.keep hSw).cell 2; (try dsimp only at i0 i1 i2); go_simp)
          try simp only [List.setIfInBounds_toArray, List.set_cons_zero, List.set_cons_succ]
          refine runG 15 (by kernel_rfl) rfl (by kernel_rfl) ?_
          go_simp
          refine (factJoin_any ⟨f1, f2, f3⟩ ⟨g1, g2, g3⟩ ⟨j1, j2, j3⟩ HMJ.out _).mono ?_
          rintro e s1 ⟨rfl, bb⟩
          have hs1 : Below y6.heap.size y6 s1 := hHeld.trans (bb.mono hHeld.size)
          unfold FactV.val
          dsimp only
          refine ⟨hs1, ?_⟩
          clear hHeld bb
          try simp only [Act.put, List.setIfInBounds_toArray, List.set_cons_zero, List.set_cons_succ]
          refine runG 18 (by kernel_rfl) rfl (by kernel_rfl) ?_
          go_simp
          refine (factJoin_any ⟨g1, g2, g3⟩ ⟨f1, f2, f3⟩ ⟨j1, j2, j3⟩ HMK.out _).mono ?_
          rintro e s2 ⟨rfl, bb⟩
          have hs2 : Below y6.heap.size y6 s2 := hs1.trans (bb.mono hs1.size)
          unfold FactV.val
          dsimp only
          refine ⟨hs2, ?_⟩
          clear hs1 bb
          try simp only [Act.put, List.setIfInBounds_toArray, List.set_cons_zero, List.set_cons_succ]
          refine takeG 19 (v := .bool false) rfl (by kernel_rfl) (by kernel_rfl) (by kernel_rfl) (by kernel_rfl) (fun _ _ _ h => h) ?hy (by assumption) ?_
          case hy => (intro w' hSw; go_simp)
          try simp only [List.setIfInBounds_toArray, List.set_cons_zero, List.set_cons_succ]
          refine takeG 20 (v := .bool false) rfl (by kernel_rfl) (by kernel_rfl) (by kernel_rfl) (by kernel_rfl) (fun _ _ _ h => h) ?hy (by assumption) ?_
          case hy => (intro w' hSw; go_simp)
          try simp only [List.setIfInBounds_toArray, List.set_cons_zero, List.set_cons_succ]
          refine takeG 21 (v := .bool false) rfl (by kernel_rfl) (by kernel_rfl) (by kernel_rfl) (by kernel_rfl) (fun _ _ _ h => h) ?hy (by assumption) ?_
          case hy => (intro w' hSw; go_simp)
          try simp only [List.setIfInBounds_toArray, List.set_cons_zero, List.set_cons_succ]
          refine takeG 22 (v := .agg #[.int .i64 f1, .int .i64 f2, .int .i64 f3]) rfl (by kernel_rfl) (by kernel_rfl) (by kernel_rfl) (by kernel_rfl) (fun _ _ _ h => h) ?hy22 (by assumption) ?_
          case hy22 => (intro w' hSw; have i0 := (PFz.keep hSw).cell 0; have i1 := (PFz.keep hSw).cell 1; have i2 := (PFz.keep hSw).cell 2; (try dsimp only at i0 i1 i2); go_simp)
          try simp only [List.setIfInBounds_toArray, List.set_cons_zero, List.set_cons_succ]
          refine takeG 23 (v := .agg #[.int .i64 g1, .int .i64 g2, .int .i64 g3]) rfl (by kernel_rfl) (by kernel_rfl) (by kernel_rfl) (by kernel_rfl) (fun _ _ _ h => h) ?hy23 (by assumption) ?_
          case hy23 => (intro w' hSw; have i0 := (PGz.keep hSw).cell 0; have i1 := (PGz.keep hSw).cell 1; have i2 := (PGz.keep hSw).cell 2; (try dsimp only at i0 i1 i2); go_simp)
          try simp only [List.setIfInBounds_toArray, List.set_cons_zero, List.set_cons_succ]
          refine takeG 25 (v := .agg #[.int .i64 f1, .int .i64 f2, .int .i64 f3]) rfl (by kernel_rfl) (by kernel_rfl) (by kernel_rfl) (by kernel_rfl) (fun _ _ _ h => h) ?hy25 (by assumption) ?_
          case hy25 => (intro w' hSw; have i0 := (PFz.keep hSw).cell 0; have i1 := (PFz.keep hSw).cell 1; have i2 := (PFz.keep hSw).cell 2; (try dsimp only at i0 i1 i2); go_simp)
          try simp only [List.setIfInBounds_toArray, List.set_cons_zero, List.set_cons_succ]
          refine runG 24 (by kernel_rfl) rfl (by kernel_rfl) ?_
          go_simp
          refine (factJoin_any ⟨f1, f2, f3⟩ ⟨g1, g2, g3⟩ ⟨j1, j2, j3⟩ HMJ.out _).mono ?_
          rintro e s3 ⟨rfl, bb⟩
          have hs3 : Below y6.heap.size y6 s3 := hs2.trans (bb.mono hs2.size)
          unfold FactV.val
          dsimp only
          refine ⟨hs3, ?_⟩
          clear hs2 bb
          try simp only [Act.put, List.setIfInBounds_toArray, List.set_cons_zero, List.set_cons_succ]
          refine runG 26 (by kernel_rfl) rfl (by kernel_rfl) ?_
          go_simp
          refine (factLess_is ⟨j1, j2, j3⟩ ⟨f1, f2, f3⟩ _ false (by simpa using HLJ.out)).mono ?_
          rintro e s4 ⟨rfl, bb⟩
          have hs4 : Below y6.heap.size y6 s4 := hs3.trans (bb.mono hs3.size)
          refine ⟨hs4, ?_⟩
          clear hs3 bb
          try simp only [Act.put, List.setIfInBounds_toArray, List.set_cons_zero, List.set_cons_succ]
          refine takeG 27 (v := .bool false) rfl (by kernel_rfl) (by kernel_rfl) (by kernel_rfl) (by kernel_rfl) (fun _ _ _ h => h) ?hy (by assumption) ?_
          case hy => (intro w' hSw; go_simp)
          try simp only [List.setIfInBounds_toArray, List.set_cons_zero, List.set_cons_succ]
          refine wpAnyH_done (by kernel_rfl) ?_ _
          go_wp2_with fail
          go_meet
          case rel => exact hs4
      | false =>
        have hne : (rl == rk) = false := less_one HON.out (fun e => by have := hqe.2 e; cases this) HRL.out HRK.out
        clear hqe
        as_aux_lemma =>
          go_upto_region 11 with fail
          refine wp_region_held_drew (S := (fun w' => Below y6.heap.size y6 w')) (by kernel_rfl) ?hS0 (fun hHeld => ?_)
          case hS0 => exact bd.drew
          refine takeG 0 (v := .agg #[.int .i64 f1, .int .i64 f2, .int .i64 f3]) rfl (by kernel_rfl) (by kernel_rfl) (by kernel_rfl) (by kernel_rfl) (fun _ _ _ h => h) ?hy0 (by assumption) ?_
          case hy0 => (intro w' hSw; have i0 := (PFz.keep hSw).cell 0; have i1 := (PFz.keep hSw).cell 1; have i2 := (PFz.keep hSw).cell 2; (try dsimp only at i0 i1 i2); go_simp)
          try simp only [List.setIfInBounds_toArray, List.set_cons_zero, List.set_cons_succ]
          refine takeG 1 (v := .agg #[.int .i64 g1, .int .i64 g2, .int .i64 g3]) rfl (by kernel_rfl) (by kernel_rfl) (by kernel_rfl) (by kernel_rfl) (fun _ _ _ h => h) ?hy1 (by assumption) ?_
          case hy1 => (intro w' hSw; have i0 := (PGz.keep hSw).cell 0; have i1 := (PGz.keep hSw).cell 1; have i2 := (PGz.keep hSw).cell 2; (try dsimp only at i0 i1 i2); go_simp)
          try simp only [List.setIfInBounds_toArray, List.set_cons_zero, List.set_cons_succ]
          refine takeG 2 (v := .bool true) rfl (by kernel_rfl) (by kernel_rfl) (by kernel_rfl) (by kernel_rfl) (fun _ _ _ h => h) ?hy (by assumption) ?_
          case hy => (intro w' hSw; go_simp)
          try simp only [List.setIfInBounds_toArray, List.set_cons_zero, List.set_cons_succ]
          refine takeG 3 (v := .bool true) rfl (by kernel_rfl) (by kernel_rfl) (by kernel_rfl) (by kernel_rfl) (fun _ _ _ h => h) ?hy (by assumption) ?_
          case hy => (intro w' hSw; go_simp)
          try simp only [List.setIfInBounds_toArray, List.set_cons_zero, List.set_cons_succ]
          refine takeG 4 (v := .agg #[.int .i64 f1, .int .i64 f2, .int .i64 f3]) rfl (by kernel_rfl) (by kernel_rfl) (by kernel_rfl) (by kernel_rfl) (fun _ _ _ h => h) ?hy4 (by assumption) ?_
          case hy4 => (intro w' hSw; have i0 := (PFz.keep hSw).cell 0; have i1 := (PFz.keep hSw).cell 1; have i2 := (PFz.keep hSw).cell 2; (try dsimp only at i0 i1 i2); go_simp)
          try simp only [List.setIfInBounds_toArray, List.set_cons_zero, List.set_cons_succ]
          refine takeG 5 (v := .agg #[.int .i64 g1, .int .i64 g2, .int .i64 g3]) rfl (by kernel_rfl) (by kernel_rfl) (by kernel_rfl) (by kernel_rfl) (fun _ _ _ h => h) ?hy5 (by assumption) ?_
          case hy5 => (intro w' hSw; have i0 := (PGz.keep hSw).cell 0; have i1 := (PGz.keep hSw).cell 1; have i2 := (PGz.keep hSw).cell 2; (try dsimp only at i0 i1 i2); go_simp)
          try simp only [List.setIfInBounds_toArray, List.set_cons_zero, List.set_cons_succ]
          refine takeG 7 (v := .agg #[.int .i64 g1, .int .i64 g2, .int .i64 g3]) rfl (by kernel_rfl) (by kernel_rfl) (by kernel_rfl) (by kernel_rfl) (fun _ _ _ h => h) ?hy7 (by assumption) ?_
          case hy7 => (intro w' hSw; have i0 := (PGz.keep hSw).cell 0; have i1 := (PGz.keep hSw).cell 1; have i2 := (PGz.keep hSw).cell 2; (try dsimp only at i0 i1 i2); go_simp)
          try simp only [List.setIfInBounds_toArray, List.set_cons_zero, List.set_cons_succ]
          refine takeG 8 (v := .agg #[.int .i64 f1, .int .i64 f2, .int .i64 f3]) rfl (by kernel_rfl) (by kernel_rfl) (by kernel_rfl) (by kernel_rfl) (fun _ _ _ h => h) ?hy8 (by assumption) ?_
          case hy8 => (intro w' hSw; have i0 := (PFz.keep hSw).cell 0; have i1 := (PFz.keep hSw).cell 1; have i2 := (PFz.keep hSw).cell 2; (try dsimp only at i0 i1 i2); go_simp)
          try simp only [List.setIfInBounds_toArray, List.set_cons_zero, List.set_cons_succ]
          refine runG 6 (by kernel_rfl) rfl (by kernel_rfl) ?_
          go_simp
          refine (factLess_is ⟨f1, f2, f3⟩ ⟨g1, g2, g3⟩ _ rl HRL.out).mono ?_
          rintro e s1 ⟨rfl, bb⟩
          have hs1 : Below y6.heap.size y6 s1 := hHeld.trans (bb.mono hHeld.size)
          refine ⟨hs1, ?_⟩
          clear hHeld bb
          try simp only [Act.put, List.setIfInBounds_toArray, List.set_cons_zero, List.set_cons_succ]
          refine runG 9 (by kernel_rfl) rfl (by kernel_rfl) ?_
          go_simp
          refine (factLess_is ⟨g1, g2, g3⟩ ⟨f1, f2, f3⟩ _ rk HRK.out).mono ?_
          rintro e s2 ⟨rfl, bb⟩
          have hs2 : Below y6.heap.size y6 s2 := hs1.trans (bb.mono hs1.size)
          refine ⟨hs2, ?_⟩
          clear hs1 bb
          try simp only [Act.put, List.setIfInBounds_toArray, List.set_cons_zero, List.set_cons_succ]
          refine takeG 10 (v := .bool false) rfl (by kernel_rfl) (by kernel_rfl) (by kernel_rfl) (by kernel_rfl) (fun _ _ _ h => h) ?hy (by assumption) ?_
          case hy => (intro w' hSw; go_simp)
          try simp only [List.setIfInBounds_toArray, List.set_cons_zero, List.set_cons_succ]
          refine takeG 11 (v := .bool false) rfl (by kernel_rfl) (by kernel_rfl) (by kernel_rfl) (by kernel_rfl) (fun _ _ _ h => h) ?hy (by assumption) ?_
          case hy => (intro w' hSw; go_simp)
          try simp only [List.setIfInBounds_toArray, List.set_cons_zero, List.set_cons_succ]
          refine takeG 12 (v := .bool false) rfl (by kernel_rfl) (by kernel_rfl) (by kernel_rfl) (by kernel_rfl) (fun _ _ _ h => h) ?hy (by assumption) ?_
          case hy => (intro w' hSw; go_simp)
          try simp only [List.setIfInBounds_toArray, List.set_cons_zero, List.set_cons_succ]
          refine takeG 13 (v := .agg #[.int .i64 f1, .int .i64 f2, .int .i64 f3]) rfl (by kernel_rfl) (by kernel_rfl) (by kernel_rfl) (by kernel_rfl) (fun _ _ _ h => h) ?hy13 (by assumption) ?_
          case hy13 => (intro w' hSw; have i0 := (PFz.keep hSw).cell 0; have i1 := (PFz.keep hSw).cell 1; have i2 := (PFz.keep hSw).cell 2; (try dsimp only at i0 i1 i2); go_simp)
          try simp only [List.setIfInBounds_toArray, List.set_cons_zero, List.set_cons_succ]
          refine takeG 14 (v := .agg #[.int .i64 g1, .int .i64 g2, .int .i64 g3]) rfl (by kernel_rfl) (by kernel_rfl) (by kernel_rfl) (by kernel_rfl) (fun _ _ _ h => h) ?hy14 (by assumption) ?_
          case hy14 => (intro w' hSw; have i0 := (PGz.keep hSw).cell 0; have i1 := (PGz.keep hSw).cell 1; have i2 := (PGz.keep hSw).cell 2; (try dsimp only at i0 i1 i2); go_simp)
          try simp only [List.setIfInBounds_toArray, List.set_cons_zero, List.set_cons_succ]
          refine takeG 16 (v := .agg #[.int .i64 g1, .int .i64 g2, .int .i64 g3]) rfl (by kernel_rfl) (by kernel_rfl) (by kernel_rfl) (by kernel_rfl) (fun _ _ _ h => h) ?hy16 (by assumption) ?_
          case hy16 => (intro w' hSw; have i0 := (PGz.keep hSw).cell 0; have i1 := (PGz.keep hSw).cell 1; have i2 := (PGz.keep hSw).cell 2; (try dsimp only at i0 i1 i2); go_simp)
          try simp only [List.setIfInBounds_toArray, List.set_cons_zero, List.set_cons_succ]
          refine takeG 17 (v := .agg #[.int .i64 f1, .int .i64 f2, .int .i64 f3]) rfl (by kernel_rfl) (by kernel_rfl) (by kernel_rfl) (by kernel_rfl) (fun _ _ _ h => h) ?hy17 (by assumption) ?_
          case hy17 => (intro w' hSw; have i0 := (PFz.keep hSw).cell 0; have i1 := (PFz.keep hSw).cell 1; have i2 := (PFz.keep hSw).cell 2; (try dsimp only at i0 i1 i2); go_simp)
          try simp only [List.setIfInBounds_toArray, List.set_cons_zero, List.set_cons_succ]
          refine runG 15 (by kernel_rfl) rfl (by kernel_rfl) ?_
          go_simp
          refine (factJoin_any ⟨f1, f2, f3⟩ ⟨g1, g2, g3⟩ ⟨j1, j2, j3⟩ HMJ.out _).mono ?_
          rintro e s3 ⟨rfl, bb⟩
          have hs3 : Below y6.heap.size y6 s3 := hs2.trans (bb.mono hs2.size)
          unfold FactV.val
          dsimp only
          refine ⟨hs3, ?_⟩
          clear hs2 bb
          try simp only [Act.put, List.setIfInBounds_toArray, List.set_cons_zero, List.set_cons_succ]
          refine runG 18 (by kernel_rfl) rfl (by kernel_rfl) ?_
          go_simp
          refine (factJoin_any ⟨g1, g2, g3⟩ ⟨f1, f2, f3⟩ ⟨j1, j2, j3⟩ HMK.out _).mono ?_
          rintro e s4 ⟨rfl, bb⟩
          have hs4 : Below y6.heap.size y6 s4 := hs3.trans (bb.mono hs3.size)
          unfold FactV.val
          dsimp only
          refine ⟨hs4, ?_⟩
          clear hs3 bb
          try simp only [Act.put, List.setIfInBounds_toArray, List.set_cons_zero, List.set_cons_succ]
          refine takeG 19 (v := .bool false) rfl (by kernel_rfl) (by kernel_rfl) (by kernel_rfl) (by kernel_rfl) (fun _ _ _ h => h) ?hy (by assumption) ?_
          case hy => (intro w' hSw; go_simp)
          try simp only [List.setIfInBounds_toArray, List.set_cons_zero, List.set_cons_succ]
          refine takeG 20 (v := .bool false) rfl (by kernel_rfl) (by kernel_rfl) (by kernel_rfl) (by kernel_rfl) (fun _ _ _ h => h) ?hy (by assumption) ?_
          case hy => (intro w' hSw; go_simp)
          try simp only [List.setIfInBounds_toArray, List.set_cons_zero, List.set_cons_succ]
          refine takeG 21 (v := .bool false) rfl (by kernel_rfl) (by kernel_rfl) (by kernel_rfl) (by kernel_rfl) (fun _ _ _ h => h) ?hy (by assumption) ?_
          case hy => (intro w' hSw; go_simp)
          try simp only [List.setIfInBounds_toArray, List.set_cons_zero, List.set_cons_succ]
          refine takeG 22 (v := .agg #[.int .i64 f1, .int .i64 f2, .int .i64 f3]) rfl (by kernel_rfl) (by kernel_rfl) (by kernel_rfl) (by kernel_rfl) (fun _ _ _ h => h) ?hy22 (by assumption) ?_
          case hy22 => (intro w' hSw; have i0 := (PFz.keep hSw).cell 0; have i1 := (PFz.keep hSw).cell 1; have i2 := (PFz.keep hSw).cell 2; (try dsimp only at i0 i1 i2); go_simp)
          try simp only [List.setIfInBounds_toArray, List.set_cons_zero, List.set_cons_succ]
          refine takeG 23 (v := .agg #[.int .i64 g1, .int .i64 g2, .int .i64 g3]) rfl (by kernel_rfl) (by kernel_rfl) (by kernel_rfl) (by kernel_rfl) (fun _ _ _ h => h) ?hy23 (by assumption) ?_
          case hy23 => (intro w' hSw; have i0 := (PGz.keep hSw).cell 0; have i1 := (PGz.keep hSw).cell 1; have i2 := (PGz.keep hSw).cell 2; (try dsimp only at i0 i1 i2); go_simp)
          try simp only [List.setIfInBounds_toArray, List.set_cons_zero, List.set_cons_succ]
          refine takeG 25 (v := .agg #[.int .i64 f1, .int .i64 f2, .int .i64 f3]) rfl (by kernel_rfl) (by kernel_rfl) (by kernel_rfl) (by kernel_rfl) (fun _ _ _ h => h) ?hy25 (by assumption) ?_
          case hy25 => (intro w' hSw; have i0 := (PFz.keep hSw).cell 0; have i1 := (PFz.keep hSw).cell 1; have i2 := (PFz.keep hSw).cell 2; (try dsimp only at i0 i1 i2); go_simp)
          try simp only [List.setIfInBounds_toArray, List.set_cons_zero, List.set_cons_succ]
          refine runG 24 (by kernel_rfl) rfl (by kernel_rfl) ?_
          go_simp
          refine (factJoin_any ⟨f1, f2, f3⟩ ⟨g1, g2, g3⟩ ⟨j1, j2, j3⟩ HMJ.out _).mono ?_
          rintro e s5 ⟨rfl, bb⟩
          have hs5 : Below y6.heap.size y6 s5 := hs4.trans (bb.mono hs4.size)
          unfold FactV.val
          dsimp only
          refine ⟨hs5, ?_⟩
          clear hs4 bb
          try simp only [Act.put, List.setIfInBounds_toArray, List.set_cons_zero, List.set_cons_succ]
          refine runG 26 (by kernel_rfl) rfl (by kernel_rfl) ?_
          go_simp
          refine (factLess_is ⟨j1, j2, j3⟩ ⟨f1, f2, f3⟩ _ false (by simpa using HLJ.out)).mono ?_
          rintro e s6 ⟨rfl, bb⟩
          have hs6 : Below y6.heap.size y6 s6 := hs5.trans (bb.mono hs5.size)
          refine ⟨hs6, ?_⟩
          clear hs5 bb
          try simp only [Act.put, List.setIfInBounds_toArray, List.set_cons_zero, List.set_cons_succ]
          refine takeG 27 (v := .bool false) rfl (by kernel_rfl) (by kernel_rfl) (by kernel_rfl) (by kernel_rfl) (fun _ _ _ h => h) ?hy (by assumption) ?_
          case hy => (intro w' hSw; go_simp)
          try simp only [List.setIfInBounds_toArray, List.set_cons_zero, List.set_cons_succ]
          refine wpAnyH_done (by kernel_rfl) ?_ _
          go_wp2_with fail
          go_meet
          case rel => exact hs6
  case rest =>
  clear bd htb
  have be := hcut
  clear hcut
  go_upto_region 13 with fail
  go_cut [174] (fun v wf => v = .bool false ∧ Below y6.heap.size y6 wf)
  case first =>
    by_cases hcp : cp = 0
    · subst hcp
      have HPC : Hid ((!rp) = true ↔ P = c) := by
        obtain ⟨q, hq⟩ := tells_bool (P = c)
        have e := put_says HP.out hq
        subst e
        show _ ↔ _
        simpa using hq
      obtain ⟨ms, hms⟩ := atIs_ex P h1
      have hls := put_at HP.out hms
      obtain ⟨s1, s2, s3⟩ := ms
      have HAT : Hid (AtIs P h1 ⟨s1, s2, s3⟩) := hms
      have HLS : Hid (false = true ↔ lessF ⟨s1, s2, s3⟩ ⟨h1, h2, h3⟩) := ⟨fun h => (by cases h), fun h => absurd h hls⟩
      clear hms hls
      as_aux_lemma =>
        refine wp_region_held_drew (S := (fun w' => Below y6.heap.size y6 w')) (by kernel_rfl) ?hS0 (fun hHeld => ?_)
        case hS0 => exact be.drew
        refine takeG 0 (v := .pointer (some ⟨x6.heap.size, 2, none⟩)) rfl (by kernel_rfl) (by kernel_rfl) (by kernel_rfl) (by kernel_rfl) (fun _ _ _ h => h) ?hy (by assumption) ?_
        case hy => (intro w' hSw; go_simp)
        try simp only [List.setIfInBounds_toArray, List.set_cons_zero, List.set_cons_succ]
        refine takeG 1 (v := .int .i64 0) rfl (by kernel_rfl) (by kernel_rfl) (by kernel_rfl) (by kernel_rfl) (fun _ _ _ h => h) ?hy1 (by assumption) ?_
        case hy1 => (intro w' hSw; have i0 := (OPz.keep hSw).cell 0; have i1 := (OPz.keep hSw).cell 1; have i2 := (OPz.keep hSw).cell 2; (try dsimp only at i0 i1 i2); go_simp)
        try simp only [List.setIfInBounds_toArray, List.set_cons_zero, List.set_cons_succ]
        refine takeG 2 (v := .bool true) rfl (by kernel_rfl) (by kernel_rfl) (by kernel_rfl) (by kernel_rfl) (fun _ _ _ h => h) ?hy (by assumption) ?_
        case hy => (intro w' hSw; go_simp)
        try simp only [List.setIfInBounds_toArray, List.set_cons_zero, List.set_cons_succ]
        refine takeG 3 (v := .bool true) rfl (by kernel_rfl) (by kernel_rfl) (by kernel_rfl) (by kernel_rfl) (fun _ _ _ h => h) ?hy (by assumption) ?_
        case hy => (intro w' hSw; go_simp)
        try simp only [List.setIfInBounds_toArray, List.set_cons_zero, List.set_cons_succ]
        refine takeG 4 (v := .pointer (some ⟨x6.heap.size, 1, none⟩)) rfl (by kernel_rfl) (by kernel_rfl) (by kernel_rfl) (by kernel_rfl) (fun _ _ _ h => h) ?hy (by assumption) ?_
        case hy => (intro w' hSw; go_simp)
        try simp only [List.setIfInBounds_toArray, List.set_cons_zero, List.set_cons_succ]
        refine takeG 5 (v := .bool rp) rfl (by kernel_rfl) (by kernel_rfl) (by kernel_rfl) (by kernel_rfl) (fun _ _ _ h => h) ?hy5 (by assumption) ?_
        case hy5 => (intro w' hSw; have i0 := (OPz.keep hSw).cell 0; have i1 := (OPz.keep hSw).cell 1; have i2 := (OPz.keep hSw).cell 2; (try dsimp only at i0 i1 i2); go_simp)
        try simp only [List.setIfInBounds_toArray, List.set_cons_zero, List.set_cons_succ]
        refine takeG 6 (v := .pointer (some ⟨x6.heap.size, 0, none⟩)) rfl (by kernel_rfl) (by kernel_rfl) (by kernel_rfl) (by kernel_rfl) (fun _ _ _ h => h) ?hy (by assumption) ?_
        case hy => (intro w' hSw; go_simp)
        try simp only [List.setIfInBounds_toArray, List.set_cons_zero, List.set_cons_succ]
        refine takeG 7 (v := .slice p6 P.length q6) rfl (by kernel_rfl) (by kernel_rfl) (by kernel_rfl) (by kernel_rfl) (fun _ _ _ h => h) ?hy7 (by assumption) ?_
        case hy7 => (intro w' hSw; have i0 := (OPz.keep hSw).cell 0; have i1 := (OPz.keep hSw).cell 1; have i2 := (OPz.keep hSw).cell 2; (try dsimp only at i0 i1 i2); go_simp)
        try simp only [List.setIfInBounds_toArray, List.set_cons_zero, List.set_cons_succ]
        refine takeG 8 (v := .slice (some ⟨gc, 0, none⟩) c.length qc) rfl (by kernel_rfl) (by kernel_rfl) (by kernel_rfl) (by kernel_rfl) (fun _ _ _ h => h) ?hy (by assumption) ?_
        case hy => (intro w' hSw; go_simp)
        try simp only [List.setIfInBounds_toArray, List.set_cons_zero, List.set_cons_succ]
        refine runG 9 (by kernel_rfl) rfl (by kernel_rfl) ?_
        go_simp
        refine (lwView_any p6 q6 (some ⟨gc, 0, none⟩) qc P c (!rp) (by simpa using HPC.out) _ hlP ((GPz.keep hHeld).row) (NCz.keep hHeld)).mono ?_
        rintro e t1 ⟨rfl, bb⟩
        have ht1 : Below y6.heap.size y6 t1 := hHeld.trans (bb.mono hHeld.size)
        refine ⟨ht1, ?_⟩
        clear hHeld bb
        try simp only [Act.put, List.setIfInBounds_toArray, List.set_cons_zero, List.set_cons_succ]
        refine takeG 10 (v := .bool rp) rfl (by kernel_rfl) (by kernel_rfl) (by kernel_rfl) (by kernel_rfl) (fun _ _ _ h => h) ?hy (by assumption) ?_
        case hy => (intro w' hSw; go_simp)
        try simp only [List.setIfInBounds_toArray, List.set_cons_zero, List.set_cons_succ]
        refine takeG 11 (v := .bool false) rfl (by kernel_rfl) (by kernel_rfl) (by kernel_rfl) (by kernel_rfl) (fun _ _ _ h => h) ?hy (by assumption) ?_
        case hy => (intro w' hSw; go_simp)
        try simp only [List.setIfInBounds_toArray, List.set_cons_zero, List.set_cons_succ]
        refine takeG 12 (v := .bool false) rfl (by kernel_rfl) (by kernel_rfl) (by kernel_rfl) (by kernel_rfl) (fun _ _ _ h => h) ?hy (by assumption) ?_
        case hy => (intro w' hSw; go_simp)
        try simp only [List.setIfInBounds_toArray, List.set_cons_zero, List.set_cons_succ]
        refine takeG 13 (v := .pointer (some ⟨x6.heap.size, 0, none⟩)) rfl (by kernel_rfl) (by kernel_rfl) (by kernel_rfl) (by kernel_rfl) (fun _ _ _ h => h) ?hy (by assumption) ?_
        case hy => (intro w' hSw; go_simp)
        try simp only [List.setIfInBounds_toArray, List.set_cons_zero, List.set_cons_succ]
        refine takeG 14 (v := .slice p6 P.length q6) rfl (by kernel_rfl) (by kernel_rfl) (by kernel_rfl) (by kernel_rfl) (fun _ _ _ h => h) ?hy14 (by assumption) ?_
        case hy14 => (intro w' hSw; have i0 := (OPz.keep hSw).cell 0; have i1 := (OPz.keep hSw).cell 1; have i2 := (OPz.keep hSw).cell 2; (try dsimp only at i0 i1 i2); go_simp)
        try simp only [List.setIfInBounds_toArray, List.set_cons_zero, List.set_cons_succ]
        refine takeG 15 (v := .pointer (some ⟨x3.heap.size, 0, none⟩)) rfl (by kernel_rfl) (by kernel_rfl) (by kernel_rfl) (by kernel_rfl) (fun _ _ _ h => h) ?hy (by assumption) ?_
        case hy => (intro w' hSw; go_simp)
        try simp only [List.setIfInBounds_toArray, List.set_cons_zero, List.set_cons_succ]
        refine takeG 16 (v := .int .i64 h1) rfl (by kernel_rfl) (by kernel_rfl) (by kernel_rfl) (by kernel_rfl) (fun _ _ _ h => h) ?hy16 (by assumption) ?_
        case hy16 => (intro w' hSw; have i0 := (PHz.keep hSw).cell 0; have i1 := (PHz.keep hSw).cell 1; have i2 := (PHz.keep hSw).cell 2; (try dsimp only at i0 i1 i2); go_simp)
        try simp only [List.setIfInBounds_toArray, List.set_cons_zero, List.set_cons_succ]
        refine takeG 18 (v := .agg #[.int .i64 h1, .int .i64 h2, .int .i64 h3]) rfl (by kernel_rfl) (by kernel_rfl) (by kernel_rfl) (by kernel_rfl) (fun _ _ _ h => h) ?hy18 (by assumption) ?_
        case hy18 => (intro w' hSw; have i0 := (PHz.keep hSw).cell 0; have i1 := (PHz.keep hSw).cell 1; have i2 := (PHz.keep hSw).cell 2; (try dsimp only at i0 i1 i2); go_simp)
        try simp only [List.setIfInBounds_toArray, List.set_cons_zero, List.set_cons_succ]
        refine runG 17 (by kernel_rfl) rfl (by kernel_rfl) ?_
        go_simp
        refine (implAt_any p6 q6 P h1 ⟨s1, s2, s3⟩ HAT.out _ hlP ((GPz.keep ht1).row)).mono ?_
        rintro e t2 ⟨rfl, bb⟩
        have ht2 : Below y6.heap.size y6 t2 := ht1.trans (bb.mono ht1.size)
        unfold FactV.val
        dsimp only
        refine ⟨ht2, ?_⟩
        clear ht1 bb
        try simp only [Act.put, List.setIfInBounds_toArray, List.set_cons_zero, List.set_cons_succ]
        refine runG 19 (by kernel_rfl) rfl (by kernel_rfl) ?_
        go_simp
        refine (factLess_is ⟨s1, s2, s3⟩ ⟨h1, h2, h3⟩ _ false (by simpa using HLS.out)).mono ?_
        rintro e t3 ⟨rfl, bb⟩
        have ht3 : Below y6.heap.size y6 t3 := ht2.trans (bb.mono ht2.size)
        refine ⟨ht3, ?_⟩
        clear ht2 bb
        try simp only [Act.put, List.setIfInBounds_toArray, List.set_cons_zero, List.set_cons_succ]
        refine takeG 20 (v := .bool false) rfl (by kernel_rfl) (by kernel_rfl) (by kernel_rfl) (by kernel_rfl) (fun _ _ _ h => h) ?hy (by assumption) ?_
        case hy => (intro w' hSw; go_simp)
        try simp only [List.setIfInBounds_toArray, List.set_cons_zero, List.set_cons_succ]
        refine takeG 21 (v := .bool false) rfl (by kernel_rfl) (by kernel_rfl) (by kernel_rfl) (by kernel_rfl) (fun _ _ _ h => h) ?hy (by assumption) ?_
        case hy => (intro w' hSw; go_simp)
        try simp only [List.setIfInBounds_toArray, List.set_cons_zero, List.set_cons_succ]
        refine wpAnyH_done (by kernel_rfl) ?_ _
        go_wp2_with fail
        go_meet
        case rel => exact ⟨rfl, ht3⟩
    · have hcb : (cp == 0) = false := by simp [hcp]
      as_aux_lemma =>
        refine wp_region_held_drew (S := (fun w' => Below y6.heap.size y6 w')) (by kernel_rfl) ?hS0 (fun hHeld => ?_)
        case hS0 => exact be.drew
        refine takeG 0 (v := .pointer (some ⟨x6.heap.size, 2, none⟩)) rfl (by kernel_rfl) (by kernel_rfl) (by kernel_rfl) (by kernel_rfl) (fun _ _ _ h => h) ?hy (by assumption) ?_
        case hy => (intro w' hSw; go_simp)
        try simp only [List.setIfInBounds_toArray, List.set_cons_zero, List.set_cons_succ]
        refine takeG 1 (v := .int .i64 cp) rfl (by kernel_rfl) (by kernel_rfl) (by kernel_rfl) (by kernel_rfl) (fun _ _ _ h => h) ?hy1 (by assumption) ?_
        case hy1 => (intro w' hSw; have i0 := (OPz.keep hSw).cell 0; have i1 := (OPz.keep hSw).cell 1; have i2 := (OPz.keep hSw).cell 2; (try dsimp only at i0 i1 i2); go_simp)
        try simp only [List.setIfInBounds_toArray, List.set_cons_zero, List.set_cons_succ]
        refine takeG 2 (v := .bool false) rfl (by kernel_rfl) (by kernel_rfl) (by kernel_rfl) (by kernel_rfl) (fun _ _ _ h => h) ?hy (by assumption) ?_
        case hy => (intro w' hSw; go_simp)
        try simp only [List.setIfInBounds_toArray, List.set_cons_zero, List.set_cons_succ]
        refine takeG 3 (v := .bool false) rfl (by kernel_rfl) (by kernel_rfl) (by kernel_rfl) (by kernel_rfl) (fun _ _ _ h => h) ?hy (by assumption) ?_
        case hy => (intro w' hSw; go_simp)
        try simp only [List.setIfInBounds_toArray, List.set_cons_zero, List.set_cons_succ]
        refine skipG 4 rfl (by kernel_rfl) (by kernel_rfl) (by kernel_rfl) (by kernel_rfl) (fun _ _ _ h => h) (by assumption) ?_
        try simp only [List.setIfInBounds_toArray, List.set_cons_zero, List.set_cons_succ]
        refine skipG 5 rfl (by kernel_rfl) (by kernel_rfl) (by kernel_rfl) (by kernel_rfl) (fun _ _ _ h => h) (by assumption) ?_
        try simp only [List.setIfInBounds_toArray, List.set_cons_zero, List.set_cons_succ]
        refine skipG 6 rfl (by kernel_rfl) (by kernel_rfl) (by kernel_rfl) (by kernel_rfl) (fun _ _ _ h => h) (by assumption) ?_
        try simp only [List.setIfInBounds_toArray, List.set_cons_zero, List.set_cons_succ]
        refine skipG 7 rfl (by kernel_rfl) (by kernel_rfl) (by kernel_rfl) (by kernel_rfl) (fun _ _ _ h => h) (by assumption) ?_
        try simp only [List.setIfInBounds_toArray, List.set_cons_zero, List.set_cons_succ]
        refine skipG 8 rfl (by kernel_rfl) (by kernel_rfl) (by kernel_rfl) (by kernel_rfl) (fun _ _ _ h => h) (by assumption) ?_
        try simp only [List.setIfInBounds_toArray, List.set_cons_zero, List.set_cons_succ]
        refine skipAloneG 9 (by kernel_rfl) rfl (by kernel_rfl) (by assumption) ?_
        try simp only [List.setIfInBounds_toArray, List.set_cons_zero, List.set_cons_succ]
        refine skipG 10 rfl (by kernel_rfl) (by kernel_rfl) (by kernel_rfl) (by kernel_rfl) (fun _ _ _ h => h) (by assumption) ?_
        try simp only [List.setIfInBounds_toArray, List.set_cons_zero, List.set_cons_succ]
        refine skipG 11 rfl (by kernel_rfl) (by kernel_rfl) (by kernel_rfl) (by kernel_rfl) (fun _ _ _ h => h) (by assumption) ?_
        try simp only [List.setIfInBounds_toArray, List.set_cons_zero, List.set_cons_succ]
        refine skipG 12 rfl (by kernel_rfl) (by kernel_rfl) (by kernel_rfl) (by kernel_rfl) (fun _ _ _ h => h) (by assumption) ?_
        try simp only [List.setIfInBounds_toArray, List.set_cons_zero, List.set_cons_succ]
        refine skipG 13 rfl (by kernel_rfl) (by kernel_rfl) (by kernel_rfl) (by kernel_rfl) (fun _ _ _ h => h) (by assumption) ?_
        try simp only [List.setIfInBounds_toArray, List.set_cons_zero, List.set_cons_succ]
        refine skipG 14 rfl (by kernel_rfl) (by kernel_rfl) (by kernel_rfl) (by kernel_rfl) (fun _ _ _ h => h) (by assumption) ?_
        try simp only [List.setIfInBounds_toArray, List.set_cons_zero, List.set_cons_succ]
        refine skipG 15 rfl (by kernel_rfl) (by kernel_rfl) (by kernel_rfl) (by kernel_rfl) (fun _ _ _ h => h) (by assumption) ?_
        try simp only [List.setIfInBounds_toArray, List.set_cons_zero, List.set_cons_succ]
        refine skipG 16 rfl (by kernel_rfl) (by kernel_rfl) (by kernel_rfl) (by kernel_rfl) (fun _ _ _ h => h) (by assumption) ?_
        try simp only [List.setIfInBounds_toArray, List.set_cons_zero, List.set_cons_succ]
        refine skipG 18 rfl (by kernel_rfl) (by kernel_rfl) (by kernel_rfl) (by kernel_rfl) (fun _ _ _ h => h) (by assumption) ?_
        try simp only [List.setIfInBounds_toArray, List.set_cons_zero, List.set_cons_succ]
        refine skipAloneG 17 (by kernel_rfl) rfl (by kernel_rfl) (by assumption) ?_
        try simp only [List.setIfInBounds_toArray, List.set_cons_zero, List.set_cons_succ]
        refine skipAloneG 19 (by kernel_rfl) rfl (by kernel_rfl) (by assumption) ?_
        try simp only [List.setIfInBounds_toArray, List.set_cons_zero, List.set_cons_succ]
        refine skipG 20 rfl (by kernel_rfl) (by kernel_rfl) (by kernel_rfl) (by kernel_rfl) (fun _ _ _ h => h) (by assumption) ?_
        try simp only [List.setIfInBounds_toArray, List.set_cons_zero, List.set_cons_succ]
        refine takeG 21 (v := .bool false) rfl (by kernel_rfl) (by kernel_rfl) (by kernel_rfl) (by kernel_rfl) (fun _ _ _ h => h) ?hy (by assumption) ?_
        case hy => (intro w' hSw; go_simp)
        try simp only [List.setIfInBounds_toArray, List.set_cons_zero, List.set_cons_succ]
        refine wpAnyH_done (by kernel_rfl) ?_ _
        go_wp2_with fail
        go_meet
        case rel => exact ⟨rfl, hHeld⟩
  case rest =>
  clear be
  obtain ⟨hv174, bf⟩ := hcut
  subst hv174
  have i0 := (OXz.keep bf).cell 0
  have i1 := (OXz.keep bf).cell 1
  have i2 := (OXz.keep bf).cell 2
  by_cases hcx : cx = 0
  · subst hcx
    have HXY : Hid (true = true ↔ X = Y) := ⟨fun _ => (join_turn HX.out HYY.out).symm, fun _ => rfl⟩
    obtain ⟨rc, hrc⟩ := tells_bool (rightV c)
    have HRC : Hid (rc = true ↔ rightV c) := hrc
    clear hrc
    go_wp2_with fail
    refine (specVRight_is (some ⟨gc, 0, none⟩) qc c _ rc HRC.out hc20 (NCz.keep bf)).mono ?_
    rintro e wg ⟨rfl, bb⟩
    have bg := bf.trans (bb.mono bf.size)
    clear bb bf i0 i1 i2
    cases rc with
    | false =>
      go_wp2
      go_ret
      exact ⟨rfl, B6.trans (bg.mono B6.size)⟩
    | true =>
      have HXB : Hid (JoinVIs X b 0 X false) := join_again HX.out
      obtain ⟨o1, r1, o2, r2, r3, ho1, ho2, ho3⟩ := join_assocV HX.out (by simpa using HRC.out)
      have hlo1 : o1.length ≤ 1048576 := Nat.le_trans (joinV_len ho1) (by omega)
      have hlo2 : o2.length ≤ 1048576 := Nat.le_trans (joinV_len ho2) (by omega)
      have HO1 : Hid (JoinVIs X c 0 o1 r1) := ho1
      have HO2 : Hid (JoinVIs b c 0 o2 r2) := ho2
      have HO3 : Hid (JoinVIs a o2 0 o1 r3) := ho3
      clear ho1 ho2 ho3
      go_wp2
      go_loopw [14] (fun i wr => ∃ k : Nat, k ≤ a.length ∧ i = .int .i64 k ∧ Below y6.heap.size y6 wr) (fun i _ => a.length - (intOf i).toNat)
      case atStart => exact ⟨0, Nat.zero_le _, rfl, bg⟩
      case round =>
        obtain ⟨k, hk, rfl, br⟩ := hrel
        clear bg
        by_cases hx : k < a.length
        · obtain ⟨uu, hlu⟩ : ∃ uu, a[k] = uu := ⟨_, rfl⟩
          obtain ⟨ms, hms⟩ := atIs_ex X uu.node
          have hls := join_at HX.out hx hlu hms
          have dm := NAz.fact hx hlu
          obtain ⟨u1, u2, u3⟩ := uu
          obtain ⟨s1, s2, s3⟩ := ms
          have HAT : Hid (AtIs X u1 ⟨s1, s2, s3⟩) := hms
          have HLS : Hid (false = true ↔ lessF ⟨s1, s2, s3⟩ ⟨u1, u2, u3⟩) := ⟨fun h => (by cases h), fun h => absurd h hls⟩
          clear hms hls hlu
          rw [Nat.zero_add] at dm
          have hxI : (k : Int) < (a.length : Int) := by omega
          as_aux_lemma =>
            go_upto_region 20 with fail
            refine wp_region_held_drew (S := (fun w' => Below y6.heap.size y6 w')) (by kernel_rfl) ?hS0 (fun hHeld => ?_)
            case hS0 => exact br.drew
            refine takeG 0 (v := .pointer (some ⟨x5.heap.size, 0, none⟩)) rfl (by kernel_rfl) (by kernel_rfl) (by kernel_rfl) (by kernel_rfl) (fun _ _ _ h => h) ?hy (by assumption) ?_
            case hy => (intro w' hSw; go_simp)
            try simp only [List.setIfInBounds_toArray, List.set_cons_zero, List.set_cons_succ]
            refine takeG 1 (v := .slice p4 X.length q4) rfl (by kernel_rfl) (by kernel_rfl) (by kernel_rfl) (by kernel_rfl) (fun _ _ _ h => h) ?hy1 (by assumption) ?_
            case hy1 => (intro w' hSw; have i0 := (OXz.keep hSw).cell 0; have i1 := (OXz.keep hSw).cell 1; have i2 := (OXz.keep hSw).cell 2; (try dsimp only at i0 i1 i2); go_simp)
            try simp only [List.setIfInBounds_toArray, List.set_cons_zero, List.set_cons_succ]
            refine takeG 2 (v := .slice (some ⟨ga, 0, none⟩) a.length qa) rfl (by kernel_rfl) (by kernel_rfl) (by kernel_rfl) (by kernel_rfl) (fun _ _ _ h => h) ?hy (by assumption) ?_
            case hy => (intro w' hSw; go_simp)
            try simp only [List.setIfInBounds_toArray, List.set_cons_zero, List.set_cons_succ]
            refine takeG 3 (v := .int .i64 (k : Int)) rfl (by kernel_rfl) (by kernel_rfl) (by kernel_rfl) (by kernel_rfl) (fun _ _ _ h => h) ?hy (by assumption) ?_
            case hy => (intro w' hSw; go_simp)
            try simp only [List.setIfInBounds_toArray, List.set_cons_zero, List.set_cons_succ]
            refine takeG 4 (v := .pointer (some ⟨ga, k * 3, none⟩)) rfl (by kernel_rfl) (by kernel_rfl) (by kernel_rfl) (by kernel_rfl) (fun _ _ _ h => h) ?hy (by assumption) ?_
            case hy => (intro w' hSw; go_simp)
            try simp only [List.setIfInBounds_toArray, List.set_cons_zero, List.set_cons_succ]
            refine takeG 5 (v := .pointer (some ⟨ga, k * 3, none⟩)) rfl (by kernel_rfl) (by kernel_rfl) (by kernel_rfl) (by kernel_rfl) (fun _ _ _ h => h) ?hy (by assumption) ?_
            case hy => (intro w' hSw; go_simp)
            try simp only [List.setIfInBounds_toArray, List.set_cons_zero, List.set_cons_succ]
            refine takeG 6 (v := .int .i64 u1) rfl (by kernel_rfl) (by kernel_rfl) (by kernel_rfl) (by kernel_rfl) (fun _ _ _ h => h) ?hy (by assumption) ?_
            case hy => (intro w' hSw; obtain ⟨_, s0, s1, s2⟩ := (dm).keep hSw; dsimp only at s0 s1 s2; go_simp)
            try simp only [List.setIfInBounds_toArray, List.set_cons_zero, List.set_cons_succ]
            refine takeG 8 (v := .slice (some ⟨ga, 0, none⟩) a.length qa) rfl (by kernel_rfl) (by kernel_rfl) (by kernel_rfl) (by kernel_rfl) (fun _ _ _ h => h) ?hy (by assumption) ?_
            case hy => (intro w' hSw; go_simp)
            try simp only [List.setIfInBounds_toArray, List.set_cons_zero, List.set_cons_succ]
            refine takeG 9 (v := .int .i64 (k : Int)) rfl (by kernel_rfl) (by kernel_rfl) (by kernel_rfl) (by kernel_rfl) (fun _ _ _ h => h) ?hy (by assumption) ?_
            case hy => (intro w' hSw; go_simp)
            try simp only [List.setIfInBounds_toArray, List.set_cons_zero, List.set_cons_succ]
            refine takeG 10 (v := .pointer (some ⟨ga, k * 3, none⟩)) rfl (by kernel_rfl) (by kernel_rfl) (by kernel_rfl) (by kernel_rfl) (fun _ _ _ h => h) ?hy (by assumption) ?_
            case hy => (intro w' hSw; go_simp)
            try simp only [List.setIfInBounds_toArray, List.set_cons_zero, List.set_cons_succ]
            refine takeG 11 (v := .agg #[.int .i64 u1, .int .i64 u2, .int .i64 u3]) rfl (by kernel_rfl) (by kernel_rfl) (by kernel_rfl) (by kernel_rfl) (fun _ _ _ h => h) ?hy (by assumption) ?_
            case hy => (intro w' hSw; obtain ⟨_, s0, s1, s2⟩ := (dm).keep hSw; dsimp only at s0 s1 s2; go_simp)
            try simp only [List.setIfInBounds_toArray, List.set_cons_zero, List.set_cons_succ]
            refine runG 7 (by kernel_rfl) rfl (by kernel_rfl) ?_
            go_simp
            refine (implAt_any p4 q4 X u1 ⟨s1, s2, s3⟩ HAT.out _ hlX ((GXz.keep hHeld).row)).mono ?_
            rintro e n1 ⟨rfl, bb⟩
            have hn1 : Below y6.heap.size y6 n1 := hHeld.trans (bb.mono hHeld.size)
            unfold FactV.val
            dsimp only
            refine ⟨hn1, ?_⟩
            clear hHeld bb
            try simp only [Act.put, List.setIfInBounds_toArray, List.set_cons_zero, List.set_cons_succ]
            refine runG 12 (by kernel_rfl) rfl (by kernel_rfl) ?_
            go_simp
            refine (factLess_is ⟨s1, s2, s3⟩ ⟨u1, u2, u3⟩ _ false (by simpa using HLS.out)).mono ?_
            rintro e n2 ⟨rfl, bb⟩
            have hn2 : Below y6.heap.size y6 n2 := hn1.trans (bb.mono hn1.size)
            refine ⟨hn2, ?_⟩
            clear hn1 bb
            try simp only [Act.put, List.setIfInBounds_toArray, List.set_cons_zero, List.set_cons_succ]
            refine wpAnyH_done (by kernel_rfl) ?_ _
            go_wp2
            go_roundw
            case rel => exact ⟨k + 1, by omega, by go_num, hn2⟩
            case measure => simp [intOf]; omega
        · obtain rfl : k = a.length := by omega
          clear hx hk
          as_aux_lemma =>
            go_upto_region 22 with fail
            refine wp_region_held_drew (S := (fun w' => Below y6.heap.size y6 w')) (by kernel_rfl) ?hS0 (fun hHeld => ?_)
            case hS0 => exact br.drew
            refine takeG 0 (v := .pointer (some ⟨x5.heap.size, 0, none⟩)) rfl (by kernel_rfl) (by kernel_rfl) (by kernel_rfl) (by kernel_rfl) (fun _ _ _ h => h) ?hy (by assumption) ?_
            case hy => (intro w' hSw; go_simp)
            try simp only [List.setIfInBounds_toArray, List.set_cons_zero, List.set_cons_succ]
            refine takeG 1 (v := .slice p4 X.length q4) rfl (by kernel_rfl) (by kernel_rfl) (by kernel_rfl) (by kernel_rfl) (fun _ _ _ h => h) ?hy1 (by assumption) ?_
            case hy1 => (intro w' hSw; have i0 := (OXz.keep hSw).cell 0; have i1 := (OXz.keep hSw).cell 1; have i2 := (OXz.keep hSw).cell 2; (try dsimp only at i0 i1 i2); go_simp)
            try simp only [List.setIfInBounds_toArray, List.set_cons_zero, List.set_cons_succ]
            refine takeG 2 (v := .pointer (some ⟨x5.heap.size + 1, 0, none⟩)) rfl (by kernel_rfl) (by kernel_rfl) (by kernel_rfl) (by kernel_rfl) (fun _ _ _ h => h) ?hy (by assumption) ?_
            case hy => (intro w' hSw; go_simp)
            try simp only [List.setIfInBounds_toArray, List.set_cons_zero, List.set_cons_succ]
            refine takeG 3 (v := .slice p5 Y.length q5) rfl (by kernel_rfl) (by kernel_rfl) (by kernel_rfl) (by kernel_rfl) (fun _ _ _ h => h) ?hy3 (by assumption) ?_
            case hy3 => (intro w' hSw; have i0 := (OYz.keep hSw).cell 0; have i1 := (OYz.keep hSw).cell 1; have i2 := (OYz.keep hSw).cell 2; (try dsimp only at i0 i1 i2); go_simp)
            try simp only [List.setIfInBounds_toArray, List.set_cons_zero, List.set_cons_succ]
            refine runG 4 (by kernel_rfl) rfl (by kernel_rfl) ?_
            go_simp
            refine (lwView_any p4 q4 p5 q5 X Y true (by simpa using HXY.out) _ hlX ((GXz.keep hHeld).row) ((GYz.keep hHeld).row)).mono ?_
            rintro e m1 ⟨rfl, bb⟩
            have hm1 : Below y6.heap.size y6 m1 := hHeld.trans (bb.mono hHeld.size)
            refine ⟨hm1, ?_⟩
            clear hHeld bb
            try simp only [Act.put, List.setIfInBounds_toArray, List.set_cons_zero, List.set_cons_succ]
            refine takeG 5 (v := .bool true) rfl (by kernel_rfl) (by kernel_rfl) (by kernel_rfl) (by kernel_rfl) (fun _ _ _ h => h) ?hy (by assumption) ?_
            case hy => (intro w' hSw; go_simp)
            try simp only [List.setIfInBounds_toArray, List.set_cons_zero, List.set_cons_succ]
            refine takeG 6 (v := .pointer (some ⟨x5.heap.size, 0, none⟩)) rfl (by kernel_rfl) (by kernel_rfl) (by kernel_rfl) (by kernel_rfl) (fun _ _ _ h => h) ?hy (by assumption) ?_
            case hy => (intro w' hSw; go_simp)
            try simp only [List.setIfInBounds_toArray, List.set_cons_zero, List.set_cons_succ]
            refine takeG 7 (v := .slice p4 X.length q4) rfl (by kernel_rfl) (by kernel_rfl) (by kernel_rfl) (by kernel_rfl) (fun _ _ _ h => h) ?hy7 (by assumption) ?_
            case hy7 => (intro w' hSw; have i0 := (OXz.keep hSw).cell 0; have i1 := (OXz.keep hSw).cell 1; have i2 := (OXz.keep hSw).cell 2; (try dsimp only at i0 i1 i2); go_simp)
            try simp only [List.setIfInBounds_toArray, List.set_cons_zero, List.set_cons_succ]
            refine takeG 8 (v := .slice (some ⟨gb, 0, none⟩) b.length qb) rfl (by kernel_rfl) (by kernel_rfl) (by kernel_rfl) (by kernel_rfl) (fun _ _ _ h => h) ?hy (by assumption) ?_
            case hy => (intro w' hSw; go_simp)
            try simp only [List.setIfInBounds_toArray, List.set_cons_zero, List.set_cons_succ]
            refine takeG 11 (v := .pointer (some ⟨x5.heap.size, 0, none⟩)) rfl (by kernel_rfl) (by kernel_rfl) (by kernel_rfl) (by kernel_rfl) (fun _ _ _ h => h) ?hy (by assumption) ?_
            case hy => (intro w' hSw; go_simp)
            try simp only [List.setIfInBounds_toArray, List.set_cons_zero, List.set_cons_succ]
            refine takeG 12 (v := .slice p4 X.length q4) rfl (by kernel_rfl) (by kernel_rfl) (by kernel_rfl) (by kernel_rfl) (fun _ _ _ h => h) ?hy12 (by assumption) ?_
            case hy12 => (intro w' hSw; have i0 := (OXz.keep hSw).cell 0; have i1 := (OXz.keep hSw).cell 1; have i2 := (OXz.keep hSw).cell 2; (try dsimp only at i0 i1 i2); go_simp)
            try simp only [List.setIfInBounds_toArray, List.set_cons_zero, List.set_cons_succ]
            refine runG 9 (by kernel_rfl) rfl (by kernel_rfl) ?_
            go_simp
            refine (implJoin_any p4 (some ⟨gb, 0, none⟩) q4 qb X b 0 X false _ HXB.out hlX hb20 ((GXz.keep hm1).row) (NBz.keep hm1)).mono ?_
            rintro e m2 ⟨vm2, rfl, ownm2, bb⟩
            have hm2 : Below y6.heap.size y6 m2 := hm1.trans (bb.mono hm1.size)
            have Sm2 := own_sl ownm2
            obtain ⟨pm2, qm2, rfl, _, _⟩ := own_sl ownm2
            unfold outV
            dsimp only
            clear ownm2
            refine ⟨hm2, ?_⟩
            clear hm1 bb
            try simp only [Act.put, List.setIfInBounds_toArray, List.set_cons_zero, List.set_cons_succ]
            refine takeG 10 (v := .slice pm2 X.length qm2) rfl (by kernel_rfl) (by kernel_rfl) (by kernel_rfl) (by kernel_rfl) (fun _ _ _ h => h) ?hy (by assumption) ?_
            case hy => (intro w' hSw; go_simp)
            try simp only [List.setIfInBounds_toArray, List.set_cons_zero, List.set_cons_succ]
            refine runG 13 (by kernel_rfl) rfl (by kernel_rfl) ?_
            go_simp
            refine (lwView_any pm2 qm2 p4 q4 X X true (by simp) _ hlX Sm2.row ((GXz.keep hm2).row)).mono ?_
            rintro e m3 ⟨rfl, bb⟩
            have hm3 : Below y6.heap.size y6 m3 := hm2.trans (bb.mono hm2.size)
            refine ⟨hm3, ?_⟩
            clear hm2 bb
            try simp only [Act.put, List.setIfInBounds_toArray, List.set_cons_zero, List.set_cons_succ]
            refine takeG 14 (v := .bool true) rfl (by kernel_rfl) (by kernel_rfl) (by kernel_rfl) (by kernel_rfl) (fun _ _ _ h => h) ?hy (by assumption) ?_
            case hy => (intro w' hSw; go_simp)
            try simp only [List.setIfInBounds_toArray, List.set_cons_zero, List.set_cons_succ]
            refine takeG 15 (v := .bool true) rfl (by kernel_rfl) (by kernel_rfl) (by kernel_rfl) (by kernel_rfl) (fun _ _ _ h => h) ?hy (by assumption) ?_
            case hy => (intro w' hSw; go_simp)
            try simp only [List.setIfInBounds_toArray, List.set_cons_zero, List.set_cons_succ]
            refine takeG 16 (v := .pointer (some ⟨x5.heap.size, 0, none⟩)) rfl (by kernel_rfl) (by kernel_rfl) (by kernel_rfl) (by kernel_rfl) (fun _ _ _ h => h) ?hy (by assumption) ?_
            case hy => (intro w' hSw; go_simp)
            try simp only [List.setIfInBounds_toArray, List.set_cons_zero, List.set_cons_succ]
            refine takeG 17 (v := .slice p4 X.length q4) rfl (by kernel_rfl) (by kernel_rfl) (by kernel_rfl) (by kernel_rfl) (fun _ _ _ h => h) ?hy17 (by assumption) ?_
            case hy17 => (intro w' hSw; have i0 := (OXz.keep hSw).cell 0; have i1 := (OXz.keep hSw).cell 1; have i2 := (OXz.keep hSw).cell 2; (try dsimp only at i0 i1 i2); go_simp)
            try simp only [List.setIfInBounds_toArray, List.set_cons_zero, List.set_cons_succ]
            refine takeG 18 (v := .slice (some ⟨gb, 0, none⟩) b.length qb) rfl (by kernel_rfl) (by kernel_rfl) (by kernel_rfl) (by kernel_rfl) (fun _ _ _ h => h) ?hy (by assumption) ?_
            case hy => (intro w' hSw; go_simp)
            try simp only [List.setIfInBounds_toArray, List.set_cons_zero, List.set_cons_succ]
            refine runG 19 (by kernel_rfl) rfl (by kernel_rfl) ?_
            go_simp
            refine (implJoin_any p4 (some ⟨gb, 0, none⟩) q4 qb X b 0 X false _ HXB.out hlX hb20 ((GXz.keep hm3).row) (NBz.keep hm3)).mono ?_
            rintro e m4 ⟨vm4, rfl, ownm4, bb⟩
            have hm4 : Below y6.heap.size y6 m4 := hm3.trans (bb.mono hm3.size)
            have Sm4 := own_sl ownm4
            obtain ⟨pm4, qm4, rfl, _, _⟩ := own_sl ownm4
            unfold outV
            dsimp only
            clear ownm4
            refine ⟨hm4, ?_⟩
            clear hm3 bb
            try simp only [Act.put, List.setIfInBounds_toArray, List.set_cons_zero, List.set_cons_succ]
            refine takeG 20 (v := .bool false) rfl (by kernel_rfl) (by kernel_rfl) (by kernel_rfl) (by kernel_rfl) (fun _ _ _ h => h) ?hy (by assumption) ?_
            case hy => (intro w' hSw; go_simp)
            try simp only [List.setIfInBounds_toArray, List.set_cons_zero, List.set_cons_succ]
            refine takeG 21 (v := .bool true) rfl (by kernel_rfl) (by kernel_rfl) (by kernel_rfl) (by kernel_rfl) (fun _ _ _ h => h) ?hy (by assumption) ?_
            case hy => (intro w' hSw; go_simp)
            try simp only [List.setIfInBounds_toArray, List.set_cons_zero, List.set_cons_succ]
            refine takeG 22 (v := .bool true) rfl (by kernel_rfl) (by kernel_rfl) (by kernel_rfl) (by kernel_rfl) (fun _ _ _ h => h) ?hy (by assumption) ?_
            case hy => (intro w' hSw; go_simp)
            try simp only [List.setIfInBounds_toArray, List.set_cons_zero, List.set_cons_succ]
            refine takeG 23 (v := .bool true) rfl (by kernel_rfl) (by kernel_rfl) (by kernel_rfl) (by kernel_rfl) (fun _ _ _ h => h) ?hy (by assumption) ?_
            case hy => (intro w' hSw; go_simp)
            try simp only [List.setIfInBounds_toArray, List.set_cons_zero, List.set_cons_succ]
            refine takeG 24 (v := .pointer (some ⟨x5.heap.size, 0, none⟩)) rfl (by kernel_rfl) (by kernel_rfl) (by kernel_rfl) (by kernel_rfl) (fun _ _ _ h => h) ?hy (by assumption) ?_
            case hy => (intro w' hSw; go_simp)
            try simp only [List.setIfInBounds_toArray, List.set_cons_zero, List.set_cons_succ]
            refine takeG 25 (v := .slice p4 X.length q4) rfl (by kernel_rfl) (by kernel_rfl) (by kernel_rfl) (by kernel_rfl) (fun _ _ _ h => h) ?hy25 (by assumption) ?_
            case hy25 => (intro w' hSw; have i0 := (OXz.keep hSw).cell 0; have i1 := (OXz.keep hSw).cell 1; have i2 := (OXz.keep hSw).cell 2; (try dsimp only at i0 i1 i2); go_simp)
            try simp only [List.setIfInBounds_toArray, List.set_cons_zero, List.set_cons_succ]
            refine takeG 26 (v := .slice (some ⟨gc, 0, none⟩) c.length qc) rfl (by kernel_rfl) (by kernel_rfl) (by kernel_rfl) (by kernel_rfl) (fun _ _ _ h => h) ?hy (by assumption) ?_
            case hy => (intro w' hSw; go_simp)
            try simp only [List.setIfInBounds_toArray, List.set_cons_zero, List.set_cons_succ]
            refine takeG 29 (v := .slice (some ⟨ga, 0, none⟩) a.length qa) rfl (by kernel_rfl) (by kernel_rfl) (by kernel_rfl) (by kernel_rfl) (fun _ _ _ h => h) ?hy (by assumption) ?_
            case hy => (intro w' hSw; go_simp)
            try simp only [List.setIfInBounds_toArray, List.set_cons_zero, List.set_cons_succ]
            refine takeG 30 (v := .slice (some ⟨gb, 0, none⟩) b.length qb) rfl (by kernel_rfl) (by kernel_rfl) (by kernel_rfl) (by kernel_rfl) (fun _ _ _ h => h) ?hy (by assumption) ?_
            case hy => (intro w' hSw; go_simp)
            try simp only [List.setIfInBounds_toArray, List.set_cons_zero, List.set_cons_succ]
            refine takeG 31 (v := .slice (some ⟨gc, 0, none⟩) c.length qc) rfl (by kernel_rfl) (by kernel_rfl) (by kernel_rfl) (by kernel_rfl) (fun _ _ _ h => h) ?hy (by assumption) ?_
            case hy => (intro w' hSw; go_simp)
            try simp only [List.setIfInBounds_toArray, List.set_cons_zero, List.set_cons_succ]
            refine runG 27 (by kernel_rfl) rfl (by kernel_rfl) ?_
            go_simp
            refine (implJoin_any p4 (some ⟨gc, 0, none⟩) q4 qc X c 0 o1 r1 _ HO1.out hlX hc20 ((GXz.keep hm4).row) (NCz.keep hm4)).mono ?_
            rintro e m5 ⟨vm5, rfl, ownm5, bb⟩
            have hm5 : Below y6.heap.size y6 m5 := hm4.trans (bb.mono hm4.size)
            have Sm5 := own_sl ownm5
            obtain ⟨pm5, qm5, rfl, _, _⟩ := own_sl ownm5
            unfold outV
            dsimp only
            clear ownm5
            refine ⟨hm5, ?_⟩
            clear hm4 bb
            try simp only [Act.put, List.setIfInBounds_toArray, List.set_cons_zero, List.set_cons_succ]
            refine takeG 28 (v := .slice pm5 o1.length qm5) rfl (by kernel_rfl) (by kernel_rfl) (by kernel_rfl) (by kernel_rfl) (fun _ _ _ h => h) ?hy (by assumption) ?_
            case hy => (intro w' hSw; go_simp)
            try simp only [List.setIfInBounds_toArray, List.set_cons_zero, List.set_cons_succ]
            refine runG 32 (by kernel_rfl) rfl (by kernel_rfl) ?_
            go_simp
            refine (implJoin_any (some ⟨gb, 0, none⟩) (some ⟨gc, 0, none⟩) qb qc b c 0 o2 r2 _ HO2.out hb20 hc20 (NBz.keep hm5) (NCz.keep hm5)).mono ?_
            rintro e m6 ⟨vm6, rfl, ownm6, bb⟩
            have hm6 : Below y6.heap.size y6 m6 := hm5.trans (bb.mono hm5.size)
            have T1 := Sm5.keep bb
            have Sm6 := own_sl ownm6
            obtain ⟨pm6, qm6, rfl, _, _⟩ := own_sl ownm6
            unfold outV
            dsimp only
            clear ownm6
            refine ⟨hm6, ?_⟩
            clear hm5 bb
            try simp only [Act.put, List.setIfInBounds_toArray, List.set_cons_zero, List.set_cons_succ]
            refine takeG 33 (v := .slice pm6 o2.length qm6) rfl (by kernel_rfl) (by kernel_rfl) (by kernel_rfl) (by kernel_rfl) (fun _ _ _ h => h) ?hy (by assumption) ?_
            case hy => (intro w' hSw; go_simp)
            try simp only [List.setIfInBounds_toArray, List.set_cons_zero, List.set_cons_succ]
            refine runG 34 (by kernel_rfl) rfl (by kernel_rfl) ?_
            go_simp
            refine (implJoin_any (some ⟨ga, 0, none⟩) pm6 qa qm6 a o2 0 o1 r3 _ HO3.out ha20 hlo2 (NAz.keep hm6) Sm6.row).mono ?_
            rintro e m7 ⟨vm7, rfl, ownm7, bb⟩
            have hm7 : Below y6.heap.size y6 m7 := hm6.trans (bb.mono hm6.size)
            have T2 := T1.keep bb
            have Sm7 := own_sl ownm7
            obtain ⟨pm7, qm7, rfl, _, _⟩ := own_sl ownm7
            unfold outV
            dsimp only
            clear ownm7
            refine ⟨hm7, ?_⟩
            clear hm6 bb
            try simp only [Act.put, List.setIfInBounds_toArray, List.set_cons_zero, List.set_cons_succ]
            refine takeG 35 (v := .slice pm7 o1.length qm7) rfl (by kernel_rfl) (by kernel_rfl) (by kernel_rfl) (by kernel_rfl) (fun _ _ _ h => h) ?hy (by assumption) ?_
            case hy => (intro w' hSw; go_simp)
            try simp only [List.setIfInBounds_toArray, List.set_cons_zero, List.set_cons_succ]
            refine runG 36 (by kernel_rfl) rfl (by kernel_rfl) ?_
            go_simp
            refine (lwView_any pm5 qm5 pm7 qm7 o1 o1 true (by simp) _ hlo1 T2.row Sm7.row).mono ?_
            rintro e m8 ⟨rfl, bb⟩
            have hm8 : Below y6.heap.size y6 m8 := hm7.trans (bb.mono hm7.size)
            refine ⟨hm8, ?_⟩
            clear hm7 bb
            try simp only [Act.put, List.setIfInBounds_toArray, List.set_cons_zero, List.set_cons_succ]
            refine takeG 37 (v := .bool true) rfl (by kernel_rfl) (by kernel_rfl) (by kernel_rfl) (by kernel_rfl) (fun _ _ _ h => h) ?hy (by assumption) ?_
            case hy => (intro w' hSw; go_simp)
            try simp only [List.setIfInBounds_toArray, List.set_cons_zero, List.set_cons_succ]
            refine takeG 38 (v := .bool true) rfl (by kernel_rfl) (by kernel_rfl) (by kernel_rfl) (by kernel_rfl) (fun _ _ _ h => h) ?hy (by assumption) ?_
            case hy => (intro w' hSw; go_simp)
            try simp only [List.setIfInBounds_toArray, List.set_cons_zero, List.set_cons_succ]
            refine wpAnyH_done (by kernel_rfl) ?_ _
            go_wp2
            go_ret
            exact ⟨rfl, B6.trans (hm8.mono B6.size)⟩
  · have hcxb : (cx == 0) = false := by simp [hcx]
    go_wp2
    go_ret
    exact ⟨rfl, B6.trans (bf.mono B6.size)⟩
end Go.Proofs.Ytdgcmjhnglacnaa
