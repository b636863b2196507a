/- The contract of the specification's NodeMeet. -/
import Derived.Test.YtmdcankfjmkkeaaGreatNMeetI
import Derived.Test.YtmdcankfjmkkeaaGreatG39
namespace Go.Proofs.YtmdcankfjmkkeaaGreat
open Go Go.RowKit
set_option linter.unusedVariables false
set_option linter.unusedSimpArgs false

set_option maxHeartbeats 2000000 in
set_option maxRecDepth 100000 in
theorem specMeet_any (a : NodeM) (n : NodeV) (other : Int) (x : NOutV) (w : World) (hx : MeetIs n other x) (hl : NodeLen n 1048576) (hroom : NodeRoom a n) (hnil : NilOk a) (hrow : NodeRows w a n) :
    Calls Tryz.prog 21 #[nodeVal a n, .int .i64 other] w fun e w' => NPost w.heap.size x w e w' := by
  have HX : Hid (MeetIs n other x) := hx
  clear hx
  obtain ⟨q0, hq0⟩ := tells_bool (n.ok)
  have HQ0 : Hid (q0 = true ↔ n.ok) := hq0
  clear hq0
  obtain ⟨q1, hq1⟩ := tells_bool (nodeR other)
  have HQ1 : Hid (q1 = true ↔ nodeR other) := hq1
  clear hq1
  obtain ⟨q2, hq2⟩ := tells_bool (other ≠ n.id)
  have HQ2 : Hid (q2 = true ↔ other ≠ n.id) := hq2
  clear hq2
  obtain ⟨okb, hokb⟩ := tells_bool (n.ok ∧ nodeR other ∧ other ≠ n.id)
  have HOK : Hid (okb = true ↔ n.ok ∧ nodeR other ∧ other ≠ n.id) := hokb
  clear hokb
  have HNO : Hid (¬ (n.ok ∧ nodeR other ∧ other ≠ n.id) → okb = false) := fun h => by
    cases okb with
    | false => rfl
    | true => exact absurd (HOK.out.1 rfl) h

  clear HQ2
  unfold nodeVal nodeCells
  have p0 := (BlkIs.new w 32 #[.int .i64 n.id, .int .i64 n.inc, .int .i64 n.num, .int .i64 n.seed, .int .i64 n.next, .slice a.va n.view.length a.vc, .slice a.ra n.rum.length a.rc, .slice a.ta n.tl.length a.tc, .int .i64 n.at0, .int .i64 n.pb.node, .int .i64 n.pb.num, .int .i64 n.pb.due, .bool n.pb.asked, .slice a.da n.db.length a.dc]).keep ((Below.refl _ _).alloc (Nat.le_refl _) (.cells #[.int .i64 0, .int .i64 0, .int .i64 0, .int .i64 0, .int .i64 0, .slice none 0 0, .slice none 0 0, .slice none 0 0, .int .i64 0, .int .i64 0, .int .i64 0, .int .i64 0, .bool false, .slice none 0 0, .slice none 0 0, .int .i64 0, .int .i64 0] 37))
  have B := ((Below.refl w.heap.size w).alloc (Nat.le_refl _) (.cells #[.int .i64 n.id, .int .i64 n.inc, .int .i64 n.num, .int .i64 n.seed, .int .i64 n.next, .slice a.va n.view.length a.vc, .slice a.ra n.rum.length a.rc, .slice a.ta n.tl.length a.tc, .int .i64 n.at0, .int .i64 n.pb.node, .int .i64 n.pb.num, .int .i64 n.pb.due, .bool n.pb.asked, .slice a.da n.db.length a.dc] 32)).alloc (by simp) (.cells #[.int .i64 0, .int .i64 0, .int .i64 0, .int .i64 0, .int .i64 0, .slice none 0 0, .slice none 0 0, .slice none 0 0, .int .i64 0, .int .i64 0, .int .i64 0, .int .i64 0, .bool false, .slice none 0 0, .slice none 0 0, .int .i64 0, .int .i64 0] 37)
  have O := BlkIs.new (w.alloc (.cells #[.int .i64 n.id, .int .i64 n.inc, .int .i64 n.num, .int .i64 n.seed, .int .i64 n.next, .slice a.va n.view.length a.vc, .slice a.ra n.rum.length a.rc, .slice a.ta n.tl.length a.tc, .int .i64 n.at0, .int .i64 n.pb.node, .int .i64 n.pb.num, .int .i64 n.pb.due, .bool n.pb.asked, .slice a.da n.db.length a.dc] 32)) 37 #[.int .i64 0, .int .i64 0, .int .i64 0, .int .i64 0, .int .i64 0, .slice none 0 0, .slice none 0 0, .slice none 0 0, .int .i64 0, .int .i64 0, .int .i64 0, .int .i64 0, .bool false, .slice none 0 0, .slice none 0 0, .int .i64 0, .int .i64 0]
  go_enter Tryz.func21, Tryz.ntmps21
  go_upto_region 1 with fail
  rw [World.size_alloc] at O
  obtain ⟨X, hX⟩ : ∃ W, (w.alloc (.cells #[.int .i64 n.id, .int .i64 n.inc, .int .i64 n.num, .int .i64 n.seed, .int .i64 n.next, .slice a.va n.view.length a.vc, .slice a.ra n.rum.length a.rc, .slice a.ta n.tl.length a.tc, .int .i64 n.at0, .int .i64 n.pb.node, .int .i64 n.pb.num, .int .i64 n.pb.due, .bool n.pb.asked, .slice a.da n.db.length a.dc] 32)).alloc (.cells #[.int .i64 0, .int .i64 0, .int .i64 0, .int .i64 0, .int .i64 0, .slice none 0 0, .slice none 0 0, .slice none 0 0, .int .i64 0, .int .i64 0, .int .i64 0, .int .i64 0, .bool false, .slice none 0 0, .slice none 0 0, .int .i64 0, .int .i64 0] 37) = W := ⟨_, rfl⟩
  rw [hX] at p0 O B ⊢
  clear hX
  obtain ⟨kp, hkp⟩ : ∃ k, w.heap.size = k := ⟨_, rfl⟩
  obtain ⟨kr, hkr⟩ : ∃ k, w.heap.size + 1 = k := ⟨_, rfl⟩
  have hpr : kp < kr := by omega
  have hwp : w.heap.size ≤ kp := by omega
  rw [hkp] at p0
  rw [hkr] at O
  rw [hkp]
  rw [show kp + 1 = kr by omega]
  go_upto_region 1 with fail
  go_cut [19] (fun vc wc => vc = .bool (!okb) ∧ Below X.heap.size X wc)
  case first =>
    as_aux_lemma =>
      have bz := Below.refl X.heap.size X
      have d0 : X.cell? ⟨kp, 0, none⟩ = some (.int .i64 n.id) := (p0.keep bz).cell 0
      have d1 : X.cell? ⟨kp, 1, none⟩ = some (.int .i64 n.inc) := (p0.keep bz).cell 1
      have d2 : X.cell? ⟨kp, 2, none⟩ = some (.int .i64 n.num) := (p0.keep bz).cell 2
      have d3 : X.cell? ⟨kp, 3, none⟩ = some (.int .i64 n.seed) := (p0.keep bz).cell 3
      have d4 : X.cell? ⟨kp, 4, none⟩ = some (.int .i64 n.next) := (p0.keep bz).cell 4
      have d5 : X.cell? ⟨kp, 5, none⟩ = some (.slice a.va n.view.length a.vc) := (p0.keep bz).cell 5
      have d6 : X.cell? ⟨kp, 6, none⟩ = some (.slice a.ra n.rum.length a.rc) := (p0.keep bz).cell 6
      have d7 : X.cell? ⟨kp, 7, none⟩ = some (.slice a.ta n.tl.length a.tc) := (p0.keep bz).cell 7
      have d8 : X.cell? ⟨kp, 8, none⟩ = some (.int .i64 n.at0) := (p0.keep bz).cell 8
      have d9 : X.cell? ⟨kp, 9, none⟩ = some (.int .i64 n.pb.node) := (p0.keep bz).cell 9
      have d10 : X.cell? ⟨kp, 10, none⟩ = some (.int .i64 n.pb.num) := (p0.keep bz).cell 10
      have d11 : X.cell? ⟨kp, 11, none⟩ = some (.int .i64 n.pb.due) := (p0.keep bz).cell 11
      have d12 : X.cell? ⟨kp, 12, none⟩ = some (.bool n.pb.asked) := (p0.keep bz).cell 12
      have d13 : X.cell? ⟨kp, 13, none⟩ = some (.slice a.da n.db.length a.dc) := (p0.keep bz).cell 13
      go_wp2_with fail
      refine (specNRight_is a n _ q0 HQ0.out hl hroom (hrow.keep (B.trans (bz.mono B.size)))).mono ?_
      rintro e Z0 ⟨rfl, bx⟩
      replace bz := bz.trans (bx.mono bz.size)
      clear bx d0 d1 d2 d3 d4 d5 d6 d7 d8 d9 d10 d11 d12 d13
      cases q0 with
      | false =>
        obtain rfl : okb = false := HNO.out (fun h => by have := HQ0.out.2 h.1; cases this)
        go_wp2_with fail
        go_meet
        case rel => exact ⟨rfl, bz⟩
      | true =>
      have K0 : Hid (n.ok) := HQ0.out.1 rfl
      clear HQ0
      have d0 : Z0.cell? ⟨kp, 0, none⟩ = some (.int .i64 n.id) := (p0.keep bz).cell 0
      go_wp2_with fail
      refine (node_is other q1 _ HQ1.out).mono ?_
      rintro e Z1 ⟨rfl, hz⟩
      replace hz := hz.symm
      subst hz
      clear d0
      cases q1 with
      | false =>
        obtain rfl : okb = false := HNO.out (fun h => by have := HQ1.out.2 h.2.1; cases this)
        go_wp2_with fail
        go_meet
        case rel => exact ⟨rfl, bz⟩
      | true =>
      have K1 : Hid (nodeR other) := HQ1.out.1 rfl
      clear HQ1
      have d0 : Z0.cell? ⟨kp, 0, none⟩ = some (.int .i64 n.id) := (p0.keep bz).cell 0
      by_cases e9 : other = n.id
      · obtain rfl : okb = false := HNO.out (fun h => h.2.2 e9)
        have e9b : (other == n.id) = true := by simp [e9]
        clear e9
        go_wp2_with fail
        go_meet
        case rel => exact ⟨rfl, bz⟩
      · obtain rfl : okb = true := HOK.out.2 ⟨K0.out, K1.out, e9⟩
        have e9b : (other == n.id) = false := beq_eq_false_iff_ne.2 e9
        clear e9
        go_wp2_with fail
        go_meet
        case rel => exact ⟨rfl, bz⟩
  case rest =>
  obtain ⟨rfl, bz⟩ := hcut
  obtain ⟨V, hV⟩ : ∃ y, y = wc := ⟨wc, rfl⟩
  rw [← hV] at bz ⊢
  clear hV
  replace p0 := p0.keep bz
  replace O := O.keep bz
  replace B := B.trans (bz.mono B.size)

  cases okb with
  | false =>
   as_aux_lemma =>
    obtain rfl : x = illN 1 := by
      rcases HX.out with ⟨h, _⟩ | ⟨_, h⟩
      · have := HOK.out.2 h; cases this
      · exact h
    clear HX HOK HNO HQ0 HQ1
    go_wp2_with (first
      | (go_at_call 68; refine (specIll_any 1 _).mono ?_; rintro e Y ⟨rfl, bx⟩; have O2 := O.keep bx)
      | (refine store_blk O2 rfl 37 _ _ rfl rfl rfl (by kernel_rfl) rfl (by kernel_rfl) ?_; intro U P K))
    exact ret_blk P Tryz.results21 rfl _ Tryz.underlying37 (by kernel_rfl) rfl (ill_post 1 _ w U ((B.trans (bx.mono B.size)).trans (K.belowNe (by omega) (B.trans (bx.mono B.size)).size)))
  | true =>
  obtain ⟨hok, hxv⟩ : (n.ok ∧ otherR other n.id) ∧ x = meetM n other := by
    rcases HX.out with h | ⟨h, _⟩
    · exact h
    · exact absurd (HOK.out.1 rfl) h
  subst hxv
  have hwr := wrap_num hok.1.1.2.2.1
  have hv6 : n.view.length ≤ 6 := rightV_len hok.1.1.2.2.2.2.2.1
  clear HX HOK HNO HQ0 HQ1 hok
  have hkV := O.lt
  go_upto_region 4 with (first
    | (refine load_blk p0 rfl 32 _ rfl rfl _ Tryz.underlying32 (by kernel_rfl) ?_)
    | (go_at_call 74; refine (specCopy_any a n _ hl hnil (hrow.keep B)).mono ?_; rintro e Y ⟨a2, rfl, H, by1⟩; unfold nodeVal nodeCells)
    | (refine store_blk (BlkIs.new _ _ _) rfl 32 _ _ rfl rfl rfl (by kernel_rfl) rfl (by kernel_rfl) ?_; intro U Q ku))
  have bu : Below Y.heap.size Y U := ((Below.refl _ _).alloc (Nat.le_refl _) _).trans (ku.belowNe (Nat.le_refl _) (by simp))
  obtain ⟨kc, hkc⟩ : ∃ k, Y.heap.size = k := ⟨_, rfl⟩
  have hrc : kr < kc := by have := by1.size; omega
  have hlo2 : w.heap.size ≤ V.heap.size := B.size
  replace p0 := (p0.keep by1).keep bu
  replace O := (O.keep by1).keep bu
  replace B := (B.trans (by1.mono B.size)).trans (bu.mono (B.trans (by1.mono B.size)).size)
  have RW : StRows U w.heap.size a2 n := (⟨rowLe H.v hlo2, rowLe H.r hlo2, rowLe H.t hlo2, rowLe H.d hlo2⟩ : StRows Y w.heap.size a2 n).keep bu
  rw [hkc] at Q ⊢
  clear ku bu by1 hkc H
  have e2 : U.cell? ⟨kp, 2, none⟩ = some (.int .i64 n.num) := p0.cell 2
  go_upto_region 5 with (refine store_cell Q rfl _ _ _ rfl 2 (.int .i64 (n.num + 1)) rfl (by first | rfl | (simp [hwr])) (show 2 < 14 by decide) (by kernel_rfl) rfl ?_; intro G QG kg)
  try simp only [Act.put]
  have R2 := RW.keepB Q notEl_node kg
  replace p0 := p0.keepK kg (show kp ≠ kc by omega)
  replace O := O.keepK kg (show kr ≠ kc by omega)
  replace B := B.trans (kg.belowNe (by omega) B.size)
  replace Q : BlkIs G kc 32 #[.int .i64 n.id, .int .i64 n.inc, .int .i64 (n.num + 1), .int .i64 n.seed, .int .i64 n.next, .slice a2.va n.view.length a2.vc, .slice a2.ra n.rum.length a2.rc, .slice a2.ta n.tl.length a2.tc, .int .i64 n.at0, .int .i64 n.pb.node, .int .i64 n.pb.num, .int .i64 n.pb.due, .bool n.pb.asked, .slice a2.da n.db.length a2.dc] := QG
  clear QG kg RW e2
  have hGk : kr < G.heap.size := O.lt
  refine wp_region_held_drew (S := fun w' => Keeps (fun q => q < G.heap.size ∧ q ≠ kr) G w') (by kernel_rfl) ?hS0 (fun hHeld => ?_)
  case hS0 => exact (Keeps.refl _ _).drew
  refine takeG 0 (v := .agg #[.int .i64 n.id, .int .i64 n.inc, .int .i64 (n.num + 1), .int .i64 n.seed, .int .i64 n.next, .slice a2.va n.view.length a2.vc, .slice a2.ra n.rum.length a2.rc, .slice a2.ta n.tl.length a2.tc, .int .i64 n.at0, .int .i64 n.pb.node, .int .i64 n.pb.num, .int .i64 n.pb.due, .bool n.pb.asked, .slice a2.da n.db.length a2.dc]) rfl (by kernel_rfl) (by kernel_rfl) (by kernel_rfl) (by kernel_rfl) (fun _ _ _ h => h) ?hy (by assumption) ?_
  case hy => (intro w' hSw; have s0 := (show w'.cell? ⟨kc, 0, none⟩ = some (.int .i64 n.id) from (Q.keepK hSw ⟨Q.lt, by omega⟩).cell 0); (try dsimp only at s0); have s1 := (show w'.cell? ⟨kc, 1, none⟩ = some (.int .i64 n.inc) from (Q.keepK hSw ⟨Q.lt, by omega⟩).cell 1); (try dsimp only at s1); have s2 := (show w'.cell? ⟨kc, 2, none⟩ = some (.int .i64 (n.num + 1)) from (Q.keepK hSw ⟨Q.lt, by omega⟩).cell 2); (try dsimp only at s2); have s3 := (show w'.cell? ⟨kc, 3, none⟩ = some (.int .i64 n.seed) from (Q.keepK hSw ⟨Q.lt, by omega⟩).cell 3); (try dsimp only at s3); have s4 := (show w'.cell? ⟨kc, 4, none⟩ = some (.int .i64 n.next) from (Q.keepK hSw ⟨Q.lt, by omega⟩).cell 4); (try dsimp only at s4); have s5 := (show w'.cell? ⟨kc, 5, none⟩ = some (.slice a2.va n.view.length a2.vc) from (Q.keepK hSw ⟨Q.lt, by omega⟩).cell 5); (try dsimp only at s5); have s6 := (show w'.cell? ⟨kc, 6, none⟩ = some (.slice a2.ra n.rum.length a2.rc) from (Q.keepK hSw ⟨Q.lt, by omega⟩).cell 6); (try dsimp only at s6); have s7 := (show w'.cell? ⟨kc, 7, none⟩ = some (.slice a2.ta n.tl.length a2.tc) from (Q.keepK hSw ⟨Q.lt, by omega⟩).cell 7); (try dsimp only at s7); have s8 := (show w'.cell? ⟨kc, 8, none⟩ = some (.int .i64 n.at0) from (Q.keepK hSw ⟨Q.lt, by omega⟩).cell 8); (try dsimp only at s8); have s9 := (show w'.cell? ⟨kc, 9, none⟩ = some (.int .i64 n.pb.node) from (Q.keepK hSw ⟨Q.lt, by omega⟩).cell 9); (try dsimp only at s9); have s10 := (show w'.cell? ⟨kc, 10, none⟩ = some (.int .i64 n.pb.num) from (Q.keepK hSw ⟨Q.lt, by omega⟩).cell 10); (try dsimp only at s10); have s11 := (show w'.cell? ⟨kc, 11, none⟩ = some (.int .i64 n.pb.due) from (Q.keepK hSw ⟨Q.lt, by omega⟩).cell 11); (try dsimp only at s11); have s12 := (show w'.cell? ⟨kc, 12, none⟩ = some (.bool n.pb.asked) from (Q.keepK hSw ⟨Q.lt, by omega⟩).cell 12); (try dsimp only at s12); have s13 := (show w'.cell? ⟨kc, 13, none⟩ = some (.slice a2.da n.db.length a2.dc) from (Q.keepK hSw ⟨Q.lt, by omega⟩).cell 13); (try dsimp only at s13); go_simp)
  try simp only [List.setIfInBounds_toArray, List.set_cons_zero, List.set_cons_succ]
  refine takeG 1 (v := .pointer (some ⟨kp, 0, none⟩)) rfl (by kernel_rfl) (by kernel_rfl) (by kernel_rfl) (by kernel_rfl) (fun _ _ _ h => h) ?hy (by assumption) ?_
  case hy => (intro w' hSw; go_simp)
  try simp only [List.setIfInBounds_toArray, List.set_cons_zero, List.set_cons_succ]
  refine takeG 2 (v := .int .i64 n.id) rfl (by kernel_rfl) (by kernel_rfl) (by kernel_rfl) (by kernel_rfl) (fun _ _ _ h => h) ?hy (by assumption) ?_
  case hy => (intro w' hSw; have s0 := (show w'.cell? ⟨kp, 0, none⟩ = some (.int .i64 n.id) from (p0.keepK hSw ⟨p0.lt, by omega⟩).cell 0); (try dsimp only at s0); go_simp)
  try simp only [List.setIfInBounds_toArray, List.set_cons_zero, List.set_cons_succ]
  refine takeG 3 (v := .int .i64 other) rfl (by kernel_rfl) (by kernel_rfl) (by kernel_rfl) (by kernel_rfl) (fun _ _ _ h => h) ?hy (by assumption) ?_
  case hy => (intro w' hSw; go_simp)
  try simp only [List.setIfInBounds_toArray, List.set_cons_zero, List.set_cons_succ]
  refine takeG 4 (v := .pointer (some ⟨kc, 2, none⟩)) rfl (by kernel_rfl) (by kernel_rfl) (by kernel_rfl) (by kernel_rfl) (fun _ _ _ h => h) ?hy (by assumption) ?_
  case hy => (intro w' hSw; go_simp)
  try simp only [List.setIfInBounds_toArray, List.set_cons_zero, List.set_cons_succ]
  refine takeG 5 (v := .int .i64 (n.num + 1)) rfl (by kernel_rfl) (by kernel_rfl) (by kernel_rfl) (by kernel_rfl) (fun _ _ _ h => h) ?hy (by assumption) ?_
  case hy => (intro w' hSw; have s0 := (show w'.cell? ⟨kc, 2, none⟩ = some (.int .i64 (n.num + 1)) from (Q.keepK hSw ⟨Q.lt, by omega⟩).cell 2); (try dsimp only at s0); go_simp)
  try simp only [List.setIfInBounds_toArray, List.set_cons_zero, List.set_cons_succ]
  refine takeG 7 (v := .pointer (some ⟨kp, 5, none⟩)) rfl (by kernel_rfl) (by kernel_rfl) (by kernel_rfl) (by kernel_rfl) (fun _ _ _ h => h) ?hy (by assumption) ?_
  case hy => (intro w' hSw; go_simp)
  try simp only [List.setIfInBounds_toArray, List.set_cons_zero, List.set_cons_succ]
  refine takeG 8 (v := .slice a.va n.view.length a.vc) rfl (by kernel_rfl) (by kernel_rfl) (by kernel_rfl) (by kernel_rfl) (fun _ _ _ h => h) ?hy (by assumption) ?_
  case hy => (intro w' hSw; have s0 := (show w'.cell? ⟨kp, 5, none⟩ = some (.slice a.va n.view.length a.vc) from (p0.keepK hSw ⟨p0.lt, by omega⟩).cell 5); (try dsimp only at s0); go_simp)
  try simp only [List.setIfInBounds_toArray, List.set_cons_zero, List.set_cons_succ]
  refine runG 6 (by kernel_rfl) rfl (by kernel_rfl) ?_
  refine step_val (v := .slice (some ⟨G.drew.heap.size, 0, none⟩) 0 0) (w' := G.drew.alloc (.cells #[] 54)) (by go_simp) ?_
  refine ⟨hHeld.alloc _, ?_⟩
  have hrow5 : CellRow (G.drew.alloc (.cells #[] 54)) a.va (cellsOf FactV.cells n.view) := hrow.v.keep (B.drew.alloc B.size _)
  obtain ⟨ke, hke⟩ : ∃ k, G.drew.heap.size = k := ⟨_, rfl⟩
  have lit := World.ownsRow_lit (base := ke) (e := 54) (size := 3) G.drew #[] 0 (Nat.le_of_eq hke.symm) (by simp [maxLen]) rfl
  have hgk : G.heap.size = ke := hke
  rw [hke] at lit ⊢
  have O1 := O.keep ((Below.refl _ _).drew.alloc (Nat.le_refl _) (.cells #[] 54))
  have hza : (G.drew.alloc (.cells #[] 54)).heap.size = ke + 1 := by rw [World.size_alloc, hke]
  try simp only [Act.put, List.setIfInBounds_toArray, List.set_cons_zero, List.set_cons_succ]
  refine runG 9 (by kernel_rfl) rfl (by kernel_rfl) ?_
  refine appF rfl _ _ rfl ke _ 0 [] rfl lit a.va n.view.length a.vc hnil.v n.view rfl rfl hrow5 (by omega) (by omega) ?_
  intro v1 G2 row1 g2 _
  replace row1 := rowCast row1 (Nat.zero_add _) (List.nil_append _)
  obtain ⟨s1, k1, rfl⟩ := rowSlice row1
  have hK2 : Keeps (fun q => q < G.heap.size ∧ q ≠ kr) G G2 := (hHeld.alloc (.cells #[] 54)).grown g2 (fun q hq h => by have e : ke = q := Option.some.inj hq; have := h.1; omega)
  have O2 := O1.keepK ((Keeps.refl (fun q => q ≠ ke) _).grown g2 (fun q hq h => h (Option.some.inj hq).symm)) (show kr ≠ ke by omega)
  refine ⟨hK2, ?_⟩
  try simp only [Act.put, List.setIfInBounds_toArray, List.set_cons_zero, List.set_cons_succ]
  refine takeG 10 (v := .agg #[.int .i64 4, .int .i64 n.id, .int .i64 other, .int .i64 (n.num + 1), .int .i64 0, .int .i64 0, .slice s1 n.view.length k1]) rfl (by kernel_rfl) (by kernel_rfl) (by kernel_rfl) (by kernel_rfl) (fun _ _ _ h => h) ?hy (by assumption) ?_
  case hy => (intro w' hSw; go_simp)
  try simp only [List.setIfInBounds_toArray, List.set_cons_zero, List.set_cons_succ]
  refine runG 11 (by kernel_rfl) rfl (by kernel_rfl) ?_
  refine step_val (v := .slice (some ⟨G2.heap.size, 0, none⟩) 1 1) (w' := G2.alloc (.cells #[.int .i64 4, .int .i64 n.id, .int .i64 other, .int .i64 (n.num + 1), .int .i64 0, .int .i64 0, .slice s1 n.view.length k1] 40)) (by go_simp) ?_
  have hK3 := hK2.alloc (.cells #[.int .i64 4, .int .i64 n.id, .int .i64 other, .int .i64 (n.num + 1), .int .i64 0, .int .i64 0, .slice s1 n.view.length k1] 40)
  refine ⟨hK3, ?_⟩
  have rowm := World.ownsRow_lit (base := w.heap.size) (e := 40) (size := 7) G2 #[.int .i64 4, .int .i64 n.id, .int .i64 other, .int .i64 (n.num + 1), .int .i64 0, .int .i64 0, .slice s1 n.view.length k1] 1 (Nat.le_trans B.size hK2.size) (by simp [maxLen]) rfl
  have row3 := rowBelow row1 ((Below.refl G2.heap.size G2).alloc (Nat.le_refl _) (.cells #[.int .i64 4, .int .i64 n.id, .int .i64 other, .int .i64 (n.num + 1), .int .i64 0, .int .i64 0, .slice s1 n.view.length k1] 40))
  have O3 := O2.keep ((Below.refl G2.heap.size G2).alloc (Nat.le_refl _) (.cells #[.int .i64 4, .int .i64 n.id, .int .i64 other, .int .i64 (n.num + 1), .int .i64 0, .int .i64 0, .slice s1 n.view.length k1] 40))
  obtain ⟨km, hkm⟩ : ∃ k, G2.heap.size = k := ⟨_, rfl⟩
  rw [hkm] at rowm ⊢
  obtain ⟨G3, hG3⟩ : ∃ y, G2.alloc (.cells #[.int .i64 4, .int .i64 n.id, .int .i64 other, .int .i64 (n.num + 1), .int .i64 0, .int .i64 0, .slice s1 n.view.length k1] 40) = y := ⟨_, rfl⟩
  rw [hG3] at rowm row3 hK3 O3 ⊢
  clear hG3 lit hrow5 hza
  try simp only [Act.put, List.setIfInBounds_toArray, List.set_cons_zero, List.set_cons_succ]
  refine takeG 12 (v := .agg #[.int .i64 n.id, .int .i64 n.inc, .int .i64 (n.num + 1), .int .i64 n.seed, .int .i64 n.next, .slice a2.va n.view.length a2.vc, .slice a2.ra n.rum.length a2.rc, .slice a2.ta n.tl.length a2.tc, .int .i64 n.at0, .int .i64 n.pb.node, .int .i64 n.pb.num, .int .i64 n.pb.due, .bool n.pb.asked, .slice a2.da n.db.length a2.dc, .slice (some ⟨km, 0, none⟩) 1 1, .int .i64 0, .int .i64 0]) rfl (by kernel_rfl) (by kernel_rfl) (by kernel_rfl) (by kernel_rfl) (fun _ _ _ h => h) ?hy (by assumption) ?_
  case hy => (intro w' hSw; go_simp)
  try simp only [List.setIfInBounds_toArray, List.set_cons_zero, List.set_cons_succ]
  have hFK := keeps_setRow G3 kr #[.int .i64 n.id, .int .i64 n.inc, .int .i64 (n.num + 1), .int .i64 n.seed, .int .i64 n.next, .slice a2.va n.view.length a2.vc, .slice a2.ra n.rum.length a2.rc, .slice a2.ta n.tl.length a2.tc, .int .i64 n.at0, .int .i64 n.pb.node, .int .i64 n.pb.num, .int .i64 n.pb.due, .bool n.pb.asked, .slice a2.da n.db.length a2.dc, .slice (some ⟨km, 0, none⟩) 1 1, .int .i64 0, .int .i64 0]
  have hK4 : Keeps (fun q => q < G.heap.size ∧ q ≠ kr) G (G3.setRow kr #[.int .i64 n.id, .int .i64 n.inc, .int .i64 (n.num + 1), .int .i64 n.seed, .int .i64 n.next, .slice a2.va n.view.length a2.vc, .slice a2.ra n.rum.length a2.rc, .slice a2.ta n.tl.length a2.tc, .int .i64 n.at0, .int .i64 n.pb.node, .int .i64 n.pb.num, .int .i64 n.pb.due, .bool n.pb.asked, .slice a2.da n.db.length a2.dc, .slice (some ⟨km, 0, none⟩) 1 1, .int .i64 0, .int .i64 0]) := hK3.trans (hFK.mono (fun k _ h => h.2))
  have hnew : BlkIs (G3.setRow kr #[.int .i64 n.id, .int .i64 n.inc, .int .i64 (n.num + 1), .int .i64 n.seed, .int .i64 n.next, .slice a2.va n.view.length a2.vc, .slice a2.ra n.rum.length a2.rc, .slice a2.ta n.tl.length a2.tc, .int .i64 n.at0, .int .i64 n.pb.node, .int .i64 n.pb.num, .int .i64 n.pb.due, .bool n.pb.asked, .slice a2.da n.db.length a2.dc, .slice (some ⟨km, 0, none⟩) 1 1, .int .i64 0, .int .i64 0]) kr 37 #[.int .i64 n.id, .int .i64 n.inc, .int .i64 (n.num + 1), .int .i64 n.seed, .int .i64 n.next, .slice a2.va n.view.length a2.vc, .slice a2.ra n.rum.length a2.rc, .slice a2.ta n.tl.length a2.tc, .int .i64 n.at0, .int .i64 n.pb.node, .int .i64 n.pb.num, .int .i64 n.pb.due, .bool n.pb.asked, .slice a2.da n.db.length a2.dc, .slice (some ⟨km, 0, none⟩) 1 1, .int .i64 0, .int .i64 0] := setRow_heap _ _ _ _ _ _ O3
  refine runG 13 (by kernel_rfl) rfl (by kernel_rfl) ?_
  refine step_skip (exec_store_blk O3 _ _ _ rfl rfl rfl (by kernel_rfl) rfl (by kernel_rfl)) ?_
  refine ⟨hK4, ?_⟩
  refine wpAnyH_done (by kernel_rfl) ?_ _
  obtain ⟨F, hF⟩ : ∃ y, G3.setRow kr #[.int .i64 n.id, .int .i64 n.inc, .int .i64 (n.num + 1), .int .i64 n.seed, .int .i64 n.next, .slice a2.va n.view.length a2.vc, .slice a2.ra n.rum.length a2.rc, .slice a2.ta n.tl.length a2.tc, .int .i64 n.at0, .int .i64 n.pb.node, .int .i64 n.pb.num, .int .i64 n.pb.due, .bool n.pb.asked, .slice a2.da n.db.length a2.dc, .slice (some ⟨km, 0, none⟩) 1 1, .int .i64 0, .int .i64 0] = y := ⟨_, rfl⟩
  rw [hF] at hFK hK4 hnew ⊢
  clear hF
  have RF : StRows F w.heap.size a2 { n with num := n.num + 1 } := ⟨rowKeep R2.v hK4 (fun g e => ⟨(R2.v.lt g e).2, fun h => O.not_row notEl_out.f R2.v (h ▸ e)⟩), rowKeep R2.r hK4 (fun g e => ⟨(R2.r.lt g e).2, fun h => O.not_row notEl_out.r R2.r (h ▸ e)⟩), rowKeep R2.t hK4 (fun g e => ⟨(R2.t.lt g e).2, fun h => O.not_row notEl_out.i R2.t (h ▸ e)⟩), rowKeep R2.d hK4 (fun g e => ⟨(R2.d.lt g e).2, fun h => O.not_row notEl_out.d R2.d (h ▸ e)⟩)⟩
  have MF : MRows F w.heap.size a2.va n.view.length a2.vc (some ⟨km, 0, none⟩) 1 [⟨4, n.id, other, n.num + 1, 0, 0, s1, k1, n.view⟩] :=
    ⟨rowKeep rowm hFK (fun g e h => O3.not_row (by decide) rowm (h ▸ e)), fun i hi => by
      obtain rfl : i = 0 := by simp at hi; omega
      exact rowLe (rowKeep row3 hFK (fun g e h => O3.not_row (by decide) row3 (h ▸ e))) (by have := B.size; omega), fun i hi g e e2 => by
      obtain rfl : i = 0 := by simp at hi; omega
      have h1 := (row3.lt g e).1
      have h2 := (R2.v.lt g e2).2
      omega, fun i j hi hj hij => absurd (show i = j by simp at hi hj; omega) hij⟩
  have BF : Below w.heap.size w F := B.trans (hK4.toBelow B.size (fun k hk => ⟨Nat.lt_of_lt_of_le hk B.size, by omega⟩))
  clear R2 rowm row3 hFK hK4 O3 hK3
  go_wp2_with fail
  refine ret_blk hnew Tryz.results21 rfl _ Tryz.underlying37 (by kernel_rfl) rfl ?_
  exact out_post (a := a2) (n := { n with num := n.num + 1 }) (ms := [⟨4, n.id, other, n.num + 1, 0, 0, s1, k1, n.view⟩]) 0 RF MF rfl BF
end Go.Proofs.YtmdcankfjmkkeaaGreat
