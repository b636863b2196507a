/- The contract of the specification's NodeLeave. -/
import Derived.Test.YtmdcankfjmkkeaaGreatG49
import Derived.Test.YtmdcankfjmkkeaaGreatG40
namespace Go.Proofs.YtmdcankfjmkkeaaGreat
open Go Go.RowKit
set_option linter.unusedVariables false
set_option linter.unusedSimpArgs false

set_option maxHeartbeats 4000000 in
set_option maxRecDepth 100000 in
theorem specLeave_any (a : NodeM) (n : NodeV) (x : NOutV) (w : World) (hx : LeaveIs n x) (hl : NodeLen n 1048576) (hroom : NodeRoom a n) (hnil : NilOk a) (hrow : NodeRows w a n) :
    Calls Tryz.prog 22 #[nodeVal a n] w fun e w' => NPost w.heap.size x w e w' := by
  have HX : Hid (LeaveIs n x) := hx
  clear hx
  obtain ⟨q0, hq0⟩ := tells_bool (n.ok)
  have HQ0 : Hid (q0 = true ↔ n.ok) := hq0
  clear hq0
  obtain ⟨okb, hokb⟩ := tells_bool (n.ok)
  have HOK : Hid (okb = true ↔ n.ok) := hokb
  clear hokb
  have HNO : Hid (¬ (n.ok) → okb = false) := fun h => by
    cases okb with
    | false => rfl
    | true => exact absurd (HOK.out.1 rfl) h

  unfold nodeVal nodeCells
  have p0 := (BlkIs.new w 32 #[.int .i64 n.id, .int .i64 n.inc, .int .i64 n.num, .int .i64 n.seed, .int .i64 n.next, .slice a.va n.view.length a.vc, .slice a.ra n.rum.length a.rc, .slice a.ta n.tl.length a.tc, .int .i64 n.at0, .int .i64 n.pb.node, .int .i64 n.pb.num, .int .i64 n.pb.due, .bool n.pb.asked, .slice a.da n.db.length a.dc]).keep ((Below.refl _ _).alloc (Nat.le_refl _) (.cells #[.int .i64 0, .int .i64 0, .int .i64 0, .int .i64 0, .int .i64 0, .slice none 0 0, .slice none 0 0, .slice none 0 0, .int .i64 0, .int .i64 0, .int .i64 0, .int .i64 0, .bool false, .slice none 0 0, .slice none 0 0, .int .i64 0, .int .i64 0] 37))
  have B := ((Below.refl w.heap.size w).alloc (Nat.le_refl _) (.cells #[.int .i64 n.id, .int .i64 n.inc, .int .i64 n.num, .int .i64 n.seed, .int .i64 n.next, .slice a.va n.view.length a.vc, .slice a.ra n.rum.length a.rc, .slice a.ta n.tl.length a.tc, .int .i64 n.at0, .int .i64 n.pb.node, .int .i64 n.pb.num, .int .i64 n.pb.due, .bool n.pb.asked, .slice a.da n.db.length a.dc] 32)).alloc (by simp) (.cells #[.int .i64 0, .int .i64 0, .int .i64 0, .int .i64 0, .int .i64 0, .slice none 0 0, .slice none 0 0, .slice none 0 0, .int .i64 0, .int .i64 0, .int .i64 0, .int .i64 0, .bool false, .slice none 0 0, .slice none 0 0, .int .i64 0, .int .i64 0] 37)
  have O := BlkIs.new (w.alloc (.cells #[.int .i64 n.id, .int .i64 n.inc, .int .i64 n.num, .int .i64 n.seed, .int .i64 n.next, .slice a.va n.view.length a.vc, .slice a.ra n.rum.length a.rc, .slice a.ta n.tl.length a.tc, .int .i64 n.at0, .int .i64 n.pb.node, .int .i64 n.pb.num, .int .i64 n.pb.due, .bool n.pb.asked, .slice a.da n.db.length a.dc] 32)) 37 #[.int .i64 0, .int .i64 0, .int .i64 0, .int .i64 0, .int .i64 0, .slice none 0 0, .slice none 0 0, .slice none 0 0, .int .i64 0, .int .i64 0, .int .i64 0, .int .i64 0, .bool false, .slice none 0 0, .slice none 0 0, .int .i64 0, .int .i64 0]
  go_enter Tryz.func22, Tryz.ntmps22
  go_upto_region 1 with fail
  rw [World.size_alloc] at O
  obtain ⟨X, hX⟩ : ∃ W, (w.alloc (.cells #[.int .i64 n.id, .int .i64 n.inc, .int .i64 n.num, .int .i64 n.seed, .int .i64 n.next, .slice a.va n.view.length a.vc, .slice a.ra n.rum.length a.rc, .slice a.ta n.tl.length a.tc, .int .i64 n.at0, .int .i64 n.pb.node, .int .i64 n.pb.num, .int .i64 n.pb.due, .bool n.pb.asked, .slice a.da n.db.length a.dc] 32)).alloc (.cells #[.int .i64 0, .int .i64 0, .int .i64 0, .int .i64 0, .int .i64 0, .slice none 0 0, .slice none 0 0, .slice none 0 0, .int .i64 0, .int .i64 0, .int .i64 0, .int .i64 0, .bool false, .slice none 0 0, .slice none 0 0, .int .i64 0, .int .i64 0] 37) = W := ⟨_, rfl⟩
  rw [hX] at p0 O B ⊢
  clear hX
  obtain ⟨kp, hkp⟩ : ∃ k, w.heap.size = k := ⟨_, rfl⟩
  obtain ⟨kr, hkr⟩ : ∃ k, w.heap.size + 1 = k := ⟨_, rfl⟩
  have hpr : kp < kr := by omega
  have hwp : w.heap.size ≤ kp := by omega
  rw [hkp] at p0
  rw [hkr] at O
  rw [hkp]
  rw [show kp + 1 = kr by omega]
  go_upto_region 1 with fail
  go_cut [9] (fun vc wc => vc = .bool (!okb) ∧ Below X.heap.size X wc)
  case first =>
    as_aux_lemma =>
      have bz := Below.refl X.heap.size X
      have d0 : X.cell? ⟨kp, 0, none⟩ = some (.int .i64 n.id) := (p0.keep bz).cell 0
      have d1 : X.cell? ⟨kp, 1, none⟩ = some (.int .i64 n.inc) := (p0.keep bz).cell 1
      have d2 : X.cell? ⟨kp, 2, none⟩ = some (.int .i64 n.num) := (p0.keep bz).cell 2
      have d3 : X.cell? ⟨kp, 3, none⟩ = some (.int .i64 n.seed) := (p0.keep bz).cell 3
      have d4 : X.cell? ⟨kp, 4, none⟩ = some (.int .i64 n.next) := (p0.keep bz).cell 4
      have d5 : X.cell? ⟨kp, 5, none⟩ = some (.slice a.va n.view.length a.vc) := (p0.keep bz).cell 5
      have d6 : X.cell? ⟨kp, 6, none⟩ = some (.slice a.ra n.rum.length a.rc) := (p0.keep bz).cell 6
      have d7 : X.cell? ⟨kp, 7, none⟩ = some (.slice a.ta n.tl.length a.tc) := (p0.keep bz).cell 7
      have d8 : X.cell? ⟨kp, 8, none⟩ = some (.int .i64 n.at0) := (p0.keep bz).cell 8
      have d9 : X.cell? ⟨kp, 9, none⟩ = some (.int .i64 n.pb.node) := (p0.keep bz).cell 9
      have d10 : X.cell? ⟨kp, 10, none⟩ = some (.int .i64 n.pb.num) := (p0.keep bz).cell 10
      have d11 : X.cell? ⟨kp, 11, none⟩ = some (.int .i64 n.pb.due) := (p0.keep bz).cell 11
      have d12 : X.cell? ⟨kp, 12, none⟩ = some (.bool n.pb.asked) := (p0.keep bz).cell 12
      have d13 : X.cell? ⟨kp, 13, none⟩ = some (.slice a.da n.db.length a.dc) := (p0.keep bz).cell 13
      go_wp2_with fail
      refine (specNRight_is a n _ q0 HQ0.out hl hroom (hrow.keep (B.trans (bz.mono B.size)))).mono ?_
      rintro e Z0 ⟨rfl, bx⟩
      replace bz := bz.trans (bx.mono bz.size)
      clear bx d0 d1 d2 d3 d4 d5 d6 d7 d8 d9 d10 d11 d12 d13
      cases q0 with
      | false =>
        obtain rfl : okb = false := HNO.out (fun h => by have := HQ0.out.2 h; cases this)
        go_wp2_with fail
        go_meet
        case rel => exact ⟨rfl, bz⟩
      | true =>
      have K0 : Hid (n.ok) := HQ0.out.1 rfl
      clear HQ0
      obtain rfl : okb = true := HOK.out.2 K0.out
      go_wp2_with fail
      go_meet
      case rel => exact ⟨rfl, bz⟩
  case rest =>
  obtain ⟨rfl, bz⟩ := hcut
  obtain ⟨V, hV⟩ : ∃ y, y = wc := ⟨wc, rfl⟩
  rw [← hV] at bz ⊢
  clear hV
  replace p0 := p0.keep bz
  replace O := O.keep bz
  replace B := B.trans (bz.mono B.size)

  cases okb with
  | false =>
   as_aux_lemma =>
    obtain rfl : x = illN 1 := by
      rcases HX.out with ⟨h, _⟩ | ⟨h, _⟩ | ⟨_, h⟩
      · have := HOK.out.2 h; cases this
      · have := HOK.out.2 h; cases this
      · exact h
    clear HX HOK HNO HQ0
    go_wp2_with (first
      | (go_at_call 68; refine (specIll_any 1 _).mono ?_; rintro e Y ⟨rfl, bx⟩; have O2 := O.keep bx)
      | (refine store_blk O2 rfl 37 _ _ rfl rfl rfl (by kernel_rfl) rfl (by kernel_rfl) ?_; intro U P K))
    exact ret_blk P Tryz.results22 rfl _ Tryz.underlying37 (by kernel_rfl) rfl (ill_post 1 _ w U ((B.trans (bx.mono B.size)).trans (K.belowNe (by omega) (B.trans (bx.mono B.size)).size)))
  | true =>
  have hok : n.ok := HOK.out.1 rfl
  have HXX : Hid ((goneN n ∧ x = illN 10) ∨ (¬ goneN n ∧ x = leaveM n)) := by
    rcases HX.out with ⟨_, h, k⟩ | ⟨_, h, k⟩ | ⟨h, _⟩
    · exact .inr ⟨h, k⟩
    · exact .inl ⟨h, k⟩
    · exact absurd hok h
  have hwr := wrap_num hok.1.2.2.1
  have HRV : Hid (rightV n.view) := hok.1.2.2.2.2.2.1
  have HF : Hid ((⟨n.id, n.inc, 3⟩ : FactV).ok) := ⟨hok.1.1, hok.1.2.1, (by show (1 : Int) ≤ 3; omega), (by show (3 : Int) ≤ 3; omega)⟩
  have hv6 := rightV_len HRV.out
  have hvp := own_there hok.2.1
  clear HX HOK HNO HQ0 hok
  have hkV := O.lt
  obtain ⟨q, hq⟩ := tells_bool (goneN n)
  have HQ : Hid (q = true ↔ goneN n) := hq
  clear hq
  go_upto_region 3 with fail
  go_cut [12] (fun vc wc => vc = .bool q ∧ Below V.heap.size V wc)
  case first =>
    as_aux_lemma =>
      go_wp2_with (first
        | (go_at_call 75; refine (specGone_any a n q _ HQ.out hl.v (hrow.v.keep B)).mono ?_; rintro e Y2 ⟨rfl, bx⟩)
        | (refine load_blk p0 rfl 32 _ rfl rfl _ Tryz.underlying32 (by kernel_rfl) ?_))
      go_meet
      case rel => exact ⟨rfl, bx⟩
  case rest =>
  obtain ⟨rfl, bz⟩ := hcut
  obtain ⟨V2, hV2⟩ : ∃ y, y = wc := ⟨wc, rfl⟩
  rw [← hV2] at bz ⊢
  clear hV2
  replace p0 := p0.keep bz
  replace O := O.keep bz
  replace B := B.trans (bz.mono B.size)
  replace hkV := O.lt
  clear bz
  cases q with
  | true =>
   as_aux_lemma =>
    obtain rfl : x = illN 10 := by
      rcases HXX.out with ⟨_, h⟩ | ⟨h, _⟩
      · exact h
      · exact absurd (HQ.out.1 rfl) h
    clear HXX
    go_wp2_with (first
      | (go_at_call 68; refine (specIll_any 10 _).mono ?_; rintro e Y ⟨rfl, bx⟩; have O2 := O.keep bx)
      | (refine store_blk O2 rfl 37 _ _ rfl rfl rfl (by kernel_rfl) rfl (by kernel_rfl) ?_; intro U P K))
    exact ret_blk P Tryz.results22 rfl _ Tryz.underlying37 (by kernel_rfl) rfl (ill_post 10 _ w U ((B.trans (bx.mono B.size)).trans (K.belowNe (by omega) (B.trans (bx.mono B.size)).size)))
  | false =>
  obtain rfl : x = leaveM n := by
    rcases HXX.out with ⟨h, _⟩ | ⟨_, h⟩
    · have := HQ.out.2 h; cases this
    · exact h
  clear HXX HQ
  go_upto_region 6 with (first
    | (refine load_blk p0 rfl 32 _ rfl rfl _ Tryz.underlying32 (by kernel_rfl) ?_)
    | (go_at_call 74; refine (specCopy_any a n _ hl hnil (hrow.keep B)).mono ?_; rintro e Y ⟨a2, rfl, H, by1⟩; unfold nodeVal nodeCells)
    | (refine store_blk (BlkIs.new _ _ _) rfl 37 _ _ rfl rfl rfl (by kernel_rfl) rfl (by kernel_rfl) ?_; intro U Q ku))
  have bu : Below Y.heap.size Y U := ((Below.refl _ _).alloc (Nat.le_refl _) _).trans (ku.belowNe (Nat.le_refl _) (by simp))
  obtain ⟨kc, hkc⟩ : ∃ k, Y.heap.size = k := ⟨_, rfl⟩
  have hrc : kr < kc := by have := by1.size; omega
  have hlo2 : w.heap.size ≤ V2.heap.size := B.size
  replace p0 := (p0.keep by1).keep bu
  replace O := (O.keep by1).keep bu
  replace B := (B.trans (by1.mono B.size)).trans (bu.mono (B.trans (by1.mono B.size)).size)
  have RW : StRows U w.heap.size a2 n := (⟨rowLe H.v hlo2, rowLe H.r hlo2, rowLe H.t hlo2, rowLe H.d hlo2⟩ : StRows Y w.heap.size a2 n).keep bu
  rw [hkc] at Q ⊢
  clear ku bu by1 hkc H
  try simp only [Act.put]
  replace Q : BlkIs U kc 37 #[.int .i64 n.id, .int .i64 n.inc, .int .i64 n.num, .int .i64 n.seed, .int .i64 n.next, .slice a2.va n.view.length a2.vc, .slice a2.ra n.rum.length a2.rc, .slice a2.ta n.tl.length a2.tc, .int .i64 n.at0, .int .i64 n.pb.node, .int .i64 n.pb.num, .int .i64 n.pb.due, .bool n.pb.asked, .slice a2.da n.db.length a2.dc, .slice none 0 0, .int .i64 0, .int .i64 0] := Q
  obtain ⟨gv, hgv⟩ := row_some RW.v hvp
  have HGV : Hid (a2.va = some ⟨gv, 0, none⟩) := hgv
  clear hgv
  have hvcap := row_room RW.v
  have hvrow := RW.nodeRows.v
  obtain ⟨rn, hrn0⟩ := tells_bool (newsAt n.view ⟨n.id, n.inc, 3⟩ (placeN n.view n.id))
  have HRN0 : Hid (rn = true ↔ newsAt n.view ⟨n.id, n.inc, 3⟩ (placeN n.view n.id)) := hrn0
  clear hrn0
  go_upto_region 7 with fail
  obtain ⟨V7, hV7⟩ : ∃ y, y = U := ⟨_, rfl⟩
  rw [← hV7] at p0 O B RW Q hvrow ⊢
  clear hV7
  have BS := B.size
  go_upto_region 7 with fail
  go_cut [] (fun wc => ∃ va vc, BlkIs wc kc 37 #[.int .i64 n.id, .int .i64 n.inc, .int .i64 n.num, .int .i64 n.seed, .int .i64 n.next, .slice va (addF n.view ⟨n.id, n.inc, 3⟩).length vc, .slice a2.ra n.rum.length a2.rc, .slice a2.ta n.tl.length a2.tc, .int .i64 n.at0, .int .i64 n.pb.node, .int .i64 n.pb.num, .int .i64 n.pb.due, .bool n.pb.asked, .slice a2.da n.db.length a2.dc, .slice none 0 0, .int .i64 0, .int .i64 0] ∧ StRows wc w.heap.size { a2 with va := va, vc := vc } { n with view := addF n.view ⟨n.id, n.inc, 3⟩ } ∧ Keeps (fun q => q ≠ kc) V7 wc)
  case first =>
    as_aux_lemma =>
      refine wp_region_any (by kernel_rfl) ?_
      refine wpAny_box 14 (fun i => [18, 19, 20, 21, 22, 23, 24, 25, 26, 27, 28, 29, 30, 31].getD i 0) (fun kq v wq => match kq with | 0 => v = .pointer (some ⟨kc, 0, none⟩) | 1 => v = .pointer (some ⟨kc, 0, none⟩) | 2 => v = .pointer (some ⟨kc, 0, none⟩) | 3 => v = .pointer (some ⟨kc, 5, none⟩) | 4 => v = .slice a2.va n.view.length a2.vc | 5 => v = .pointer (some ⟨kp, 0, none⟩) | 6 => v = .int .i64 n.id | 7 => v = .pointer (some ⟨kp, 1, none⟩) | 8 => v = .int .i64 n.inc | 9 => v = .agg #[.int .i64 n.id, .int .i64 n.inc, .int .i64 3] | 10 => RowOutV V7.heap.size (addF n.view ⟨n.id, n.inc, 3⟩) rn v wq | 11 => RowV V7.heap.size (addF n.view ⟨n.id, n.inc, 3⟩) v wq | 12 => v = .pointer (some ⟨kc, 0, none⟩) | 13 => v = .pointer (some ⟨kc, 5, none⟩) | _ => True) _ V7 (by kernel_rfl) ?inj ?stab ?step ?last _ _ _ _ (List.range 15) (by kernel_rfl) (Nat.le_refl 15) ?un (by kernel_rfl) ?down ⟨rfl, rfl, fun _ _ => rfl⟩ (Below.refl _ _).drew ?none
      case inj => exact (show ∀ i, i < 14 → ∀ j, j < 14 → [18, 19, 20, 21, 22, 23, 24, 25, 26, 27, 28, 29, 30, 31].getD i 0 = [18, 19, 20, 21, 22, 23, 24, 25, 26, 27, 28, 29, 30, 31].getD j 0 → i = j by decide)
      case un => exact fun i hi _ => List.mem_range.2 hi
      case down =>
        intro j hj
        exfalso
        by_cases hi : j < 15
        · simp [hi] at hj
        · simp [hi] at hj
      case none =>
        intro i hi hj
        exfalso
        have hi2 : i < 15 := by omega
        simp [hi2] at hj
      case stab =>
        intro kq u wa wb h hB
        match kq, h with
        | 0, h => exact h
        | 1, h => exact h
        | 2, h => exact h
        | 3, h => exact h
        | 4, h => exact h
        | 5, h => exact h
        | 6, h => exact h
        | 7, h => exact h
        | 8, h => exact h
        | 9, h => exact h
        | 10, h => exact (show RowOutV V7.heap.size (addF n.view ⟨n.id, n.inc, 3⟩) rn u wb from RowOutV.keep h hB)
        | 11, h => exact (show RowV V7.heap.size (addF n.view ⟨n.id, n.inc, 3⟩) u wb from RowV.keep h hB)
        | 12, h => exact h
        | 13, h => exact h
        | _ + 14, _ => exact trivial
      case step =>
        intro i o hin ho fa fw hF hJ hpre
        obtain rfl | rfl | rfl | rfl | rfl | rfl | rfl | rfl | rfl | rfl | rfl | rfl | rfl | rfl : i = 0 ∨ i = 1 ∨ i = 2 ∨ i = 3 ∨ i = 4 ∨ i = 5 ∨ i = 6 ∨ i = 7 ∨ i = 8 ∨ i = 9 ∨ i = 10 ∨ i = 11 ∨ i = 12 ∨ i = 13 := by omega
        all_goals (obtain rfl := Option.some.inj ho)
        · have hs4 : fa.tmps[4]?.getD undef = .pointer (some ⟨kc, 0, none⟩) := by
            have := hF.2.2 4 (show ∀ i, i < 14 → [18, 19, 20, 21, 22, 23, 24, 25, 26, 27, 28, 29, 30, 31].getD i 0 ≠ 4 by decide)
            simpa using this
          exact step_val (v := .pointer (some ⟨kc, 0, none⟩)) (w' := fw) (by go_simp) ⟨_, rfl, rfl, Below.refl _ _⟩
        · have hs4 : fa.tmps[4]?.getD undef = .pointer (some ⟨kc, 0, none⟩) := by
            have := hF.2.2 4 (show ∀ i, i < 14 → [18, 19, 20, 21, 22, 23, 24, 25, 26, 27, 28, 29, 30, 31].getD i 0 ≠ 4 by decide)
            simpa using this
          exact step_val (v := .pointer (some ⟨kc, 0, none⟩)) (w' := fw) (by go_simp) ⟨_, rfl, rfl, Below.refl _ _⟩
        · have hd1 : fa.tmps[19]?.getD undef = .pointer (some ⟨kc, 0, none⟩) := by simpa using (hpre ⟨1, .data⟩ (by simp) rfl : fa.tmps.getD 19 undef = .pointer (some ⟨kc, 0, none⟩))
          exact step_val (v := .pointer (some ⟨kc, 0, none⟩)) (w' := fw) (by go_simp) ⟨_, rfl, rfl, Below.refl _ _⟩
        · have hd2 : fa.tmps[20]?.getD undef = .pointer (some ⟨kc, 0, none⟩) := by simpa using (hpre ⟨2, .data⟩ (by simp) rfl : fa.tmps.getD 20 undef = .pointer (some ⟨kc, 0, none⟩))
          exact step_val (v := .pointer (some ⟨kc, 5, none⟩)) (w' := fw) (by go_simp) ⟨_, rfl, rfl, Below.refl _ _⟩
        · have hd3 : fa.tmps[21]?.getD undef = .pointer (some ⟨kc, 5, none⟩) := by simpa using (hpre ⟨3, .data⟩ (by simp) rfl : fa.tmps.getD 21 undef = .pointer (some ⟨kc, 5, none⟩))
          have m0 := (show fw.cell? ⟨kc, 5, none⟩ = some (.slice a2.va n.view.length a2.vc) from (Q.keep hJ).cell 5)
          try dsimp only at m0
          exact step_val (v := .slice a2.va n.view.length a2.vc) (w' := fw) (by go_simp) ⟨_, rfl, rfl, Below.refl _ _⟩
        · have hs1 : fa.tmps[1]?.getD undef = .pointer (some ⟨kp, 0, none⟩) := by
            have := hF.2.2 1 (show ∀ i, i < 14 → [18, 19, 20, 21, 22, 23, 24, 25, 26, 27, 28, 29, 30, 31].getD i 0 ≠ 1 by decide)
            simpa using this
          exact step_val (v := .pointer (some ⟨kp, 0, none⟩)) (w' := fw) (by go_simp) ⟨_, rfl, rfl, Below.refl _ _⟩
        · have hd5 : fa.tmps[23]?.getD undef = .pointer (some ⟨kp, 0, none⟩) := by simpa using (hpre ⟨5, .data⟩ (by simp) rfl : fa.tmps.getD 23 undef = .pointer (some ⟨kp, 0, none⟩))
          have m0 := (show fw.cell? ⟨kp, 0, none⟩ = some (.int .i64 n.id) from (p0.keep hJ).cell 0)
          try dsimp only at m0
          exact step_val (v := .int .i64 n.id) (w' := fw) (by go_simp) ⟨_, rfl, rfl, Below.refl _ _⟩
        · have hs1 : fa.tmps[1]?.getD undef = .pointer (some ⟨kp, 0, none⟩) := by
            have := hF.2.2 1 (show ∀ i, i < 14 → [18, 19, 20, 21, 22, 23, 24, 25, 26, 27, 28, 29, 30, 31].getD i 0 ≠ 1 by decide)
            simpa using this
          exact step_val (v := .pointer (some ⟨kp, 1, none⟩)) (w' := fw) (by go_simp) ⟨_, rfl, rfl, Below.refl _ _⟩
        · have hd7 : fa.tmps[25]?.getD undef = .pointer (some ⟨kp, 1, none⟩) := by simpa using (hpre ⟨7, .data⟩ (by simp) rfl : fa.tmps.getD 25 undef = .pointer (some ⟨kp, 1, none⟩))
          have m0 := (show fw.cell? ⟨kp, 1, none⟩ = some (.int .i64 n.inc) from (p0.keep hJ).cell 1)
          try dsimp only at m0
          exact step_val (v := .int .i64 n.inc) (w' := fw) (by go_simp) ⟨_, rfl, rfl, Below.refl _ _⟩
        · have hd6 : fa.tmps[24]?.getD undef = .int .i64 n.id := by simpa using (hpre ⟨6, .data⟩ (by simp) rfl : fa.tmps.getD 24 undef = .int .i64 n.id)
          have hd8 : fa.tmps[26]?.getD undef = .int .i64 n.inc := by simpa using (hpre ⟨8, .data⟩ (by simp) rfl : fa.tmps.getD 26 undef = .int .i64 n.inc)
          exact step_val (v := .agg #[.int .i64 n.id, .int .i64 n.inc, .int .i64 3]) (w' := fw) (by go_simp) ⟨_, rfl, rfl, Below.refl _ _⟩
        · have hd4 : fa.tmps[22]?.getD undef = .slice a2.va n.view.length a2.vc := by simpa using (hpre ⟨4, .data⟩ (by simp) rfl : fa.tmps.getD 22 undef = .slice a2.va n.view.length a2.vc)
          have hd9 : fa.tmps[27]?.getD undef = .agg #[.int .i64 n.id, .int .i64 n.inc, .int .i64 3] := by simpa using (hpre ⟨9, .data⟩ (by simp) rfl : fa.tmps.getD 27 undef = .agg #[.int .i64 n.id, .int .i64 n.inc, .int .i64 3])
          go_simp
          refine (specL04PutA_any a2.va gv a2.vc (placeN n.view n.id) n.view ⟨n.id, n.inc, 3⟩ rn _ HGV.out (by omega) (rightV_rise HRV.out) (placeN_is (rightV_rise HRV.out) n.id) HRN0.out hvcap.1 hvcap.2 (hvrow.keep hJ)).mono ?_
          rintro e wy ⟨v, rfl, row, bb⟩
          obtain ⟨va, vc, rfl⟩ := rowSlice row
          exact ⟨_, rfl, ⟨va, vc, rfl, rowLe row hJ.size⟩, bb⟩
        · obtain ⟨va, vc, q10, hrow10⟩ := (hpre ⟨10, .data⟩ (by simp) rfl : RowOutV V7.heap.size (addF n.view ⟨n.id, n.inc, 3⟩) rn (fa.tmps.getD 28 undef) fw)
          have hd10 : fa.tmps[28]?.getD undef = outV (.slice va (addF n.view ⟨n.id, n.inc, 3⟩).length vc) rn 0 := by simpa using q10
          go_simp
          exact ⟨_, rfl, ⟨va, vc, rfl, hrow10⟩, Below.refl _ _⟩
        · have hd0 : fa.tmps[18]?.getD undef = .pointer (some ⟨kc, 0, none⟩) := by simpa using (hpre ⟨0, .data⟩ (by simp) rfl : fa.tmps.getD 18 undef = .pointer (some ⟨kc, 0, none⟩))
          exact step_val (v := .pointer (some ⟨kc, 0, none⟩)) (w' := fw) (by go_simp) ⟨_, rfl, rfl, Below.refl _ _⟩
        · have hd12 : fa.tmps[30]?.getD undef = .pointer (some ⟨kc, 0, none⟩) := by simpa using (hpre ⟨12, .data⟩ (by simp) rfl : fa.tmps.getD 30 undef = .pointer (some ⟨kc, 0, none⟩))
          exact step_val (v := .pointer (some ⟨kc, 5, none⟩)) (w' := fw) (by go_simp) ⟨_, rfl, rfl, Below.refl _ _⟩
      case last =>
        intro o ho fa fw hF hJ hφ
        obtain rfl := Option.some.inj ho
        have hd13 : fa.tmps[31]?.getD undef = .pointer (some ⟨kc, 5, none⟩) := by simpa using (hφ 13 (by decide) : fa.tmps.getD 31 undef = .pointer (some ⟨kc, 5, none⟩))
        obtain ⟨va, vc, q11, hrow11⟩ := (hφ 11 (by decide) : RowV V7.heap.size (addF n.view ⟨n.id, n.inc, 3⟩) (fa.tmps.getD 29 undef) fw)
        have hd11 : fa.tmps[29]?.getD undef = .slice va (addF n.view ⟨n.id, n.inc, 3⟩).length vc := by simpa using q11
        have hO := Q.keep hJ
        have hnew : BlkIs (fw.setCell ⟨kc, 5, none⟩ (.slice va (addF n.view ⟨n.id, n.inc, 3⟩).length vc)) kc 37 #[.int .i64 n.id, .int .i64 n.inc, .int .i64 n.num, .int .i64 n.seed, .int .i64 n.next, .slice va (addF n.view ⟨n.id, n.inc, 3⟩).length vc, .slice a2.ra n.rum.length a2.rc, .slice a2.ta n.tl.length a2.tc, .int .i64 n.at0, .int .i64 n.pb.node, .int .i64 n.pb.num, .int .i64 n.pb.due, .bool n.pb.asked, .slice a2.da n.db.length a2.dc, .slice none 0 0, .int .i64 0, .int .i64 0] := hO.put 5 (.slice va (addF n.view ⟨n.id, n.inc, 3⟩).length vc)
        have hkz := keeps_setCell fw kc 5 (.slice va (addF n.view ⟨n.id, n.inc, 3⟩).length vc)
        have hr0 : StRows fw w.heap.size { a2 with va := va, vc := vc } { n with view := addF n.view ⟨n.id, n.inc, 3⟩ } := ⟨rowLe hrow11 BS, (RW.keep hJ).r, (RW.keep hJ).t, (RW.keep hJ).d⟩
        have hrn := hr0.keepB hO notEl_out hkz
        have hkn : Keeps (fun q => q ≠ kc) V7 (fw.setCell ⟨kc, 5, none⟩ (.slice va (addF n.view ⟨n.id, n.inc, 3⟩).length vc)) := (Keeps.ofBelow hJ (fun k hk _ => hk)).trans (hkz.mono (fun k _ h => h))
        refine step_skip (w' := fw.setCell ⟨kc, 5, none⟩ (.slice va (addF n.view ⟨n.id, n.inc, 3⟩).length vc)) (exec_store_cell hO _ _ _ rfl (show fa.tmps.getD 31 undef = _ by simpa using hd13) (show fa.tmps.getD 29 undef = _ by simpa using hd11) (show 5 < 17 by decide) (by kernel_rfl) rfl) ?_
        obtain ⟨wn, hwn⟩ : ∃ wn, fw.setCell ⟨kc, 5, none⟩ (.slice va (addF n.view ⟨n.id, n.inc, 3⟩).length vc) = wn := ⟨_, rfl⟩
        rw [hwn] at hnew hrn hkn ⊢
        clear hwn hO hkz hr0
        obtain ⟨ft, fd⟩ := fa
        obtain ⟨hd, hz, hs⟩ := hF
        have e := tmps_slots ft 77 hz
        simp only [List.range, List.range.loop, List.map] at e
        have hu : ∀ s, (∀ i, i < 14 → [18, 19, 20, 21, 22, 23, 24, 25, 26, 27, 28, 29, 30, 31].getD i 0 ≠ s) → ft.getD s undef = _ := hs
        rw [hu 0 (by decide), hu 1 (by decide), hu 2 (by decide), hu 3 (by decide), hu 4 (by decide), hu 5 (by decide), hu 6 (by decide), hu 7 (by decide), hu 8 (by decide), hu 9 (by decide), hu 10 (by decide), hu 11 (by decide), hu 12 (by decide), hu 13 (by decide), hu 14 (by decide), hu 15 (by decide), hu 16 (by decide), hu 17 (by decide), hu 32 (by decide), hu 33 (by decide), hu 34 (by decide), hu 35 (by decide), hu 36 (by decide), hu 37 (by decide), hu 38 (by decide), hu 39 (by decide), hu 40 (by decide), hu 41 (by decide), hu 42 (by decide), hu 43 (by decide), hu 44 (by decide), hu 45 (by decide), hu 46 (by decide), hu 47 (by decide), hu 48 (by decide), hu 49 (by decide), hu 50 (by decide), hu 51 (by decide), hu 52 (by decide), hu 53 (by decide), hu 54 (by decide), hu 55 (by decide), hu 56 (by decide), hu 57 (by decide), hu 58 (by decide), hu 59 (by decide), hu 60 (by decide), hu 61 (by decide), hu 62 (by decide), hu 63 (by decide), hu 64 (by decide), hu 65 (by decide), hu 66 (by decide), hu 67 (by decide), hu 68 (by decide), hu 69 (by decide), hu 70 (by decide), hu 71 (by decide), hu 72 (by decide), hu 73 (by decide), hu 74 (by decide), hu 75 (by decide), hu 76 (by decide)] at e
        obtain ⟨y18, hy18⟩ : ∃ z, ft.getD 18 undef = z := ⟨_, rfl⟩
        obtain ⟨y19, hy19⟩ : ∃ z, ft.getD 19 undef = z := ⟨_, rfl⟩
        obtain ⟨y20, hy20⟩ : ∃ z, ft.getD 20 undef = z := ⟨_, rfl⟩
        obtain ⟨y21, hy21⟩ : ∃ z, ft.getD 21 undef = z := ⟨_, rfl⟩
        obtain ⟨y22, hy22⟩ : ∃ z, ft.getD 22 undef = z := ⟨_, rfl⟩
        obtain ⟨y23, hy23⟩ : ∃ z, ft.getD 23 undef = z := ⟨_, rfl⟩
        obtain ⟨y24, hy24⟩ : ∃ z, ft.getD 24 undef = z := ⟨_, rfl⟩
        obtain ⟨y25, hy25⟩ : ∃ z, ft.getD 25 undef = z := ⟨_, rfl⟩
        obtain ⟨y26, hy26⟩ : ∃ z, ft.getD 26 undef = z := ⟨_, rfl⟩
        obtain ⟨y27, hy27⟩ : ∃ z, ft.getD 27 undef = z := ⟨_, rfl⟩
        obtain ⟨y28, hy28⟩ : ∃ z, ft.getD 28 undef = z := ⟨_, rfl⟩
        obtain ⟨y29, hy29⟩ : ∃ z, ft.getD 29 undef = z := ⟨_, rfl⟩
        obtain ⟨y30, hy30⟩ : ∃ z, ft.getD 30 undef = z := ⟨_, rfl⟩
        obtain ⟨y31, hy31⟩ : ∃ z, ft.getD 31 undef = z := ⟨_, rfl⟩
        rw [hy18, hy19, hy20, hy21, hy22, hy23, hy24, hy25, hy26, hy27, hy28, hy29, hy30, hy31] at e
        clear hy18 hy19 hy20 hy21 hy22 hy23 hy24 hy25 hy26 hy27 hy28 hy29 hy30 hy31 hu hs hz hφ hd13 hd11 q11
        subst e
        obtain rfl : fd = [] := hd
        go_wp2_with fail
        go_meet
        case rel => exact ⟨va, vc, hnew, hrn, hkn⟩
  case rest =>
  obtain ⟨va, vc, HO, HR7, k7⟩ := hcut
  obtain ⟨V8, hV8⟩ : ∃ y, y = wc := ⟨wc, rfl⟩
  rw [← hV8] at HO HR7 k7 ⊢
  clear hV8
  replace p0 := p0.keepK k7 (show kp ≠ kc by omega)
  replace O := O.keepK k7 (show kr ≠ kc by omega)
  replace B := B.trans (k7.belowNe (by omega) B.size)
  obtain ⟨a3, ha3⟩ : ∃ q : NodeM, ({ a2 with va := va, vc := vc } : NodeM) = q := ⟨_, rfl⟩
  obtain ⟨n3, hn3⟩ : ∃ q : NodeV, ({ n with view := addF n.view ⟨n.id, n.inc, 3⟩ } : NodeV) = q := ⟨_, rfl⟩
  have h3num : n3.num = n.num := by rw [← hn3]
  have HID3 : Hid (n3.id = n.id) := by show _ = _; rw [← hn3]
  have HL : Hid (leaveV n = { n3 with num := n3.num + 1 }) := by show _ = _; rw [← hn3]; rfl
  have HV3 : Hid ((leaveV n).view = n3.view) := by show _ = _; rw [← hn3]; rfl
  have HI3 : Hid ((leaveV n).id = n.id) := rfl
  replace HO : NodeSt 37 V8 w.heap.size kc a3 n3 (.slice none 0 0) (.int .i64 0) (.int .i64 0) := by rw [← ha3, ← hn3]; exact ⟨HO, by omega, HR7⟩
  rw [← h3num] at hwr
  obtain ⟨hv6, hrv, hm6⟩ := leave_len n HRV.out HF.out
  have HVP : Hid (0 < (leaveV n).view.length) := List.length_pos_iff.2 (addF_ne _ _)
  have HRN : Hid (rightV (leaveV n).view) := hrv
  obtain ⟨m, hm⟩ : ∃ m, dropL (goneL n3.view) n.id = m := ⟨_, rfl⟩
  have HM : Hid (dropL (goneL n3.view) n.id = m) := hm
  have HMM : Hid (othersM (leaveV n) = m) := by show _ = _; rw [others_drop _ hrv, HV3.out, HI3.out, hm]
  rw [HMM.out] at hm6
  have hl36 : n3.view.length ≤ 6 := by rw [← HV3.out]; exact hv6
  have hvN := HO.rows.nodeRows.v
  have HB : BlkIs V8 kc 37 #[.int .i64 n3.id, .int .i64 n3.inc, .int .i64 n3.num, .int .i64 n3.seed, .int .i64 n3.next, .slice a3.va n3.view.length a3.vc, .slice a3.ra n3.rum.length a3.rc, .slice a3.ta n3.tl.length a3.tc, .int .i64 n3.at0, .int .i64 n3.pb.node, .int .i64 n3.pb.num, .int .i64 n3.pb.due, .bool n3.pb.asked, .slice a3.da n3.db.length a3.dc, .slice none 0 0, .int .i64 0, .int .i64 0] := HO.blk
  clear HR7 ha3 hn3 h3num k7 Q RW hvrow HRN0 hvcap hrv hm HRV HF hv6
  go_upto_region 8 with fail
  refine wp_region_held_drew (S := (fun w' => Below V8.heap.size V8 w')) (by kernel_rfl) ?hS0 (fun hHeld => ?_)
  case hS0 => exact (Below.refl _ _).drew
  refine takeG 0 (v := .pointer (some ⟨kc, 0, none⟩)) rfl (by kernel_rfl) (by kernel_rfl) (by kernel_rfl) (by kernel_rfl) (fun _ _ _ h => h) ?hy (by assumption) ?_
  case hy => (intro w' hSw; go_simp)
  try simp only [List.setIfInBounds_toArray, List.set_cons_zero, List.set_cons_succ]
  refine takeG 1 (v := .pointer (some ⟨kc, 0, none⟩)) rfl (by kernel_rfl) (by kernel_rfl) (by kernel_rfl) (by kernel_rfl) (fun _ _ _ h => h) ?hy (by assumption) ?_
  case hy => (intro w' hSw; go_simp)
  try simp only [List.setIfInBounds_toArray, List.set_cons_zero, List.set_cons_succ]
  refine takeG 2 (v := .pointer (some ⟨kc, 5, none⟩)) rfl (by kernel_rfl) (by kernel_rfl) (by kernel_rfl) (by kernel_rfl) (fun _ _ _ h => h) ?hy (by assumption) ?_
  case hy => (intro w' hSw; go_simp)
  try simp only [List.setIfInBounds_toArray, List.set_cons_zero, List.set_cons_succ]
  refine takeG 3 (v := .slice a3.va n3.view.length a3.vc) rfl (by kernel_rfl) (by kernel_rfl) (by kernel_rfl) (by kernel_rfl) (fun _ _ _ h => h) ?hy (by assumption) ?_
  case hy => (intro w' hSw; have s0 := (show w'.cell? ⟨kc, 5, none⟩ = some (.slice a3.va n3.view.length a3.vc) from (HB.keep hSw).cell 5); (try dsimp only at s0); go_simp)
  try simp only [List.setIfInBounds_toArray, List.set_cons_zero, List.set_cons_succ]
  refine takeG 5 (v := .pointer (some ⟨kp, 0, none⟩)) rfl (by kernel_rfl) (by kernel_rfl) (by kernel_rfl) (by kernel_rfl) (fun _ _ _ h => h) ?hy (by assumption) ?_
  case hy => (intro w' hSw; go_simp)
  try simp only [List.setIfInBounds_toArray, List.set_cons_zero, List.set_cons_succ]
  refine takeG 6 (v := .int .i64 n.id) rfl (by kernel_rfl) (by kernel_rfl) (by kernel_rfl) (by kernel_rfl) (fun _ _ _ h => h) ?hy (by assumption) ?_
  case hy => (intro w' hSw; have s0 := (show w'.cell? ⟨kp, 0, none⟩ = some (.int .i64 n.id) from (p0.keep hSw).cell 0); (try dsimp only at s0); go_simp)
  try simp only [List.setIfInBounds_toArray, List.set_cons_zero, List.set_cons_succ]
  refine runG 4 (by kernel_rfl) rfl (by kernel_rfl) ?_
  go_simp
  refine (specL04Left_any a3.va a3.vc n3.view _ (by omega) (hvN.keep hHeld)).mono ?_
  rintro e z ⟨v1, rfl, o1, bz1⟩
  obtain ⟨a1, c1, rfl, r1⟩ := own_nums o1
  have hH2 := hHeld.trans (bz1.mono hHeld.size)
  refine ⟨hH2, ?_⟩
  try simp only [Act.put, List.setIfInBounds_toArray, List.set_cons_zero, List.set_cons_succ]
  refine runG 7 (by kernel_rfl) rfl (by kernel_rfl) ?_
  go_simp
  refine (l02Drop_any a1 c1 (goneL n3.view) n.id _ (by have := goneL_len n3.view; omega) r1.row).mono ?_
  rintro e z2 ⟨v2, rfl, o2, bz2⟩
  rw [HM.out] at o2
  obtain ⟨sa, sc, rfl, _⟩ := own_nums o2
  have hH3 := hH2.trans (bz2.mono hH2.size)
  refine ⟨hH3, ?_⟩
  try simp only [Act.put, List.setIfInBounds_toArray, List.set_cons_zero, List.set_cons_succ]
  refine takeG 8 (v := .slice sa m.length sc) rfl (by kernel_rfl) (by kernel_rfl) (by kernel_rfl) (by kernel_rfl) (fun _ _ _ h => h) ?hy (by assumption) ?_
  case hy => (intro w' hSw; go_simp)
  try simp only [List.setIfInBounds_toArray, List.set_cons_zero, List.set_cons_succ]
  refine wpAnyH_done (by kernel_rfl) ?_ _
  replace p0 := p0.keep hH3
  replace O := O.keep hH3
  replace HO := HO.keep hH3
  replace o2 : z2.ownsRow w.heap.size 2 1 (.slice sa m.length sc) m.length (numsV m) := rowLe o2 (Nat.le_trans B.size hH2.size)
  replace B := B.trans (hH3.mono B.size)
  clear HB hvN r1 o1 bz1 bz2 hHeld hH2 hH3
  have HB : BlkIs z2 kc 37 #[.int .i64 n3.id, .int .i64 n3.inc, .int .i64 n3.num, .int .i64 n3.seed, .int .i64 n3.next, .slice a3.va n3.view.length a3.vc, .slice a3.ra n3.rum.length a3.rc, .slice a3.ta n3.tl.length a3.tc, .int .i64 n3.at0, .int .i64 n3.pb.node, .int .i64 n3.pb.num, .int .i64 n3.pb.due, .bool n3.pb.asked, .slice a3.da n3.db.length a3.dc, .slice none 0 0, .int .i64 0, .int .i64 0] := HO.blk
  have e2 : z2.cell? ⟨kc, 2, none⟩ = some (.int .i64 n3.num) := HB.cell 2
  go_upto_region 10 with (refine store_cell HB rfl _ _ _ rfl 2 (.int .i64 (n3.num + 1)) rfl (by first | rfl | (simp [hwr])) (show 2 < 17 by decide) (by kernel_rfl) rfl ?_; intro U2 HU ku)
  try simp only [Act.put]
  replace HU : NodeSt 37 U2 w.heap.size kc a3 { n3 with num := n3.num + 1 } (.slice none 0 0) (.int .i64 0) (.int .i64 0) := ⟨HU, HO.lo, (fun (h : StRows U2 w.heap.size a3 n3) => (⟨h.v, h.r, h.t, h.d⟩ : StRows U2 w.heap.size a3 { n3 with num := n3.num + 1 })) (HO.rows.keepB HB notEl_out ku)⟩
  replace p0 := p0.keepK ku (show kp ≠ kc by omega)
  replace O := O.keepK ku (show kr ≠ kc by omega)
  replace o2 := rowKeep o2 ku (fun g e hg => HB.not_row notEl_out.i o2 (hg ▸ e))
  replace B := B.trans (ku.belowNe (by omega) B.size)
  rw [← HL.out] at HU
  clear e2 HO HB ku HL hwr HV3 HID3 HM hl36
  obtain ⟨N, hN⟩ : ∃ q, leaveV n = q := ⟨_, rfl⟩
  have hv6 : (leaveV n).view.length ≤ 6 := rightV_len HRN.out
  have hvpos : 0 < (leaveV n).view.length := HVP.out
  rw [hN] at HU hv6 hvpos
  have HNN : Hid (leaveV n = N) := hN
  have HID : Hid (N.id = n.id) := by show _ = _; rw [← hN]; rfl
  have HMN : Hid (othersM N = m) := by show _ = _; rw [← hN]; exact HMM.out
  obtain ⟨gv3, hva⟩ := row_some HU.rows.v hvpos
  clear hN HVP HRN HI3 HMM
  obtain ⟨c, hc⟩ : ∃ c, w.heap.size = c := ⟨_, rfl⟩
  rw [hc] at HU B hwp o2
  go_wp2_with fail
  go_loopw [6] (fun i wr => ∃ (k : Nat) (ma : Option Addr) (mc : Nat) (ms : List MailA) (ml : Nat), k ≤ m.length ∧ i = .int .i64 k ∧ ms.length = ml ∧ NodeSt 37 wr c kc a3 N (.slice ma ml mc) (.int .i64 0) (.int .i64 0) ∧ MRows wr c a3.va N.view.length a3.vc ma mc ms ∧ ms.map MailA.v = (m.take k).map (leaveMail N) ∧ wr.ownsRow c 2 1 (.slice sa m.length sc) m.length (numsV m) ∧ BlkIs wr kr 37 #[.int .i64 0, .int .i64 0, .int .i64 0, .int .i64 0, .int .i64 0, .slice none 0 0, .slice none 0 0, .slice none 0 0, .int .i64 0, .int .i64 0, .int .i64 0, .int .i64 0, .bool false, .slice none 0 0, .slice none 0 0, .int .i64 0, .int .i64 0] ∧ BlkIs wr kp 32 #[.int .i64 n.id, .int .i64 n.inc, .int .i64 n.num, .int .i64 n.seed, .int .i64 n.next, .slice a.va n.view.length a.vc, .slice a.ra n.rum.length a.rc, .slice a.ta n.tl.length a.tc, .int .i64 n.at0, .int .i64 n.pb.node, .int .i64 n.pb.num, .int .i64 n.pb.due, .bool n.pb.asked, .slice a.da n.db.length a.dc] ∧ Below c w wr) (fun i _ => m.length - (intOf i).toNat)
  case atStart => exact ⟨0, none, 0, [], 0, Nat.zero_le _, rfl, rfl, HU, MRows.nil _ _ _ _ _, rfl, o2, O, p0, B⟩
  case round =>
    obtain ⟨k, ma, mc, ms, ml, hk, rfl, rfl, HS, HR, hms, hor, hO, hp, hB⟩ := hrel
    clear HU o2 O B p0
    have p0 := hp
    have HMS : Hid (ms.map MailA.v = (m.take k).map (leaveMail N)) := hms
    have HLM : Hid (ms.length = k) := by
      show _ = _
      have h := congrArg List.length hms
      rw [List.length_map, List.length_map, List.length_take, Nat.min_eq_left hk] at h
      exact h
    clear hms hp
    by_cases hk2 : k < m.length
    · obtain ⟨_, _, es, ns⟩ := own_nums hor
      obtain ⟨bs, os, hsa, hbs, hcs⟩ := ns.row.addrN (by omega)
      simp only [Value.slice.injEq, true_and] at es
      obtain ⟨rfl, rfl⟩ := es
      subst hsa
      obtain ⟨tk, htk⟩ : ∃ t, m[k] = t := ⟨_, rfl⟩
      have ck := hcs k hk2
      rw [htk] at ck
      have hk' : (k : Int) < (m.length : Int) := by omega
      have HT : Hid (m.take (k + 1) = m.take k ++ [tk]) := by show _ = _; rw [List.take_succ_eq_append_getElem hk2, htk]
      clear hcs ns htk
      obtain ⟨V, hVV⟩ : ∃ y, y = wr := ⟨wr, rfl⟩
      rw [← hVV] at HS HR hor hO p0 hB ck hbs ⊢
      clear hVV
      have hlo : c ≤ kc := HS.lo
      have hcv : c ≤ V.heap.size := Nat.le_trans (by omega) hB.size
      have RS := HR.m
      have hml6 : ms.length ≤ 6 := by have := HLM.out; omega
      have hnkc : (Value.slice ma ms.length mc).ownBlock ≠ some kc := HS.blk.not_row (by decide) RS
      have hnkp : (Value.slice ma ms.length mc).ownBlock ≠ some kp := p0.not_row (by decide) RS
      have hnbs : (Value.slice ma ms.length mc).ownBlock ≠ some bs := fun e => row_ap RS hor (by decide) e rfl
      have hck : ∀ fw, Keeps (fun q => (Value.slice ma ms.length mc).ownBlock ≠ some q) V fw → fw.cell? ⟨bs, os + k, none⟩ = some (.int .i64 tk) := fun fw h => by
        rw [← ck]
        unfold World.cell?
        rw [h.block bs hbs hnbs]
      try simp only [Act.put]
      go_upto_region 13 with fail
      refine wp_region_any (by kernel_rfl) ?_
      refine wpAny_boxJ 22 20 (by decide) (fun i => [54, 55, 56, 57, 58, 59, 60, 61, 62, 63, 64, 65, 66, 67, 68, 69, 70, 71, 72, 73, 74, 75].getD i 0) (fun kq v wq => match kq with | 0 => v = .pointer (some ⟨kc, 14, none⟩) | 1 => v = .slice ma ms.length mc | 2 => v = .pointer (some ⟨kp, 0, none⟩) | 3 => v = .int .i64 n.id | 4 => v = .slice (some ⟨bs, os, none⟩) m.length sc | 5 => v = .int .i64 (k : Int) | 6 => v = .pointer (some ⟨bs, os + k, none⟩) | 7 => v = .int .i64 tk | 8 => v = .pointer (some ⟨kc, 0, none⟩) | 9 => v = .pointer (some ⟨kc, 0, none⟩) | 10 => v = .pointer (some ⟨kc, 2, none⟩) | 11 => v = .int .i64 N.num | 12 => ∃ ke, v = .slice (some ⟨ke, 0, none⟩) 0 0 | 13 => v = .pointer (some ⟨kc, 0, none⟩) | 14 => v = .pointer (some ⟨kc, 0, none⟩) | 15 => v = .pointer (some ⟨kc, 5, none⟩) | 16 => v = .slice a3.va N.view.length a3.vc | 17 => ∃ s1 k1, v = .slice s1 N.view.length k1 ∧ wq.ownsRow V.heap.size 54 3 (.slice s1 N.view.length k1) N.view.length (cellsOf FactV.cells N.view) | 18 => ∃ s1 k1, v = .agg #[.int .i64 5, .int .i64 n.id, .int .i64 tk, .int .i64 N.num, .int .i64 0, .int .i64 0, .slice s1 N.view.length k1] ∧ wq.ownsRow V.heap.size 54 3 (.slice s1 N.view.length k1) N.view.length (cellsOf FactV.cells N.view) | 19 => ∃ kb, v = .slice (some ⟨kb, 0, none⟩) 1 1 ∧ ∃ s1 k1, BlkIs wq kb 40 #[.int .i64 5, .int .i64 n.id, .int .i64 tk, .int .i64 N.num, .int .i64 0, .int .i64 0, .slice s1 N.view.length k1] ∧ V.heap.size ≤ kb ∧ wq.ownsRow V.heap.size 54 3 (.slice s1 N.view.length k1) N.view.length (cellsOf FactV.cells N.view) | 20 => ∃ ma2 mc2 s1 k1, v = .slice ma2 (ms.length + 1) mc2 ∧ wq.ownsRow c 40 7 (.slice ma2 (ms.length + 1) mc2) (ms.length + 1) (cellsOf MailA.cells ms ++ cellsOf MailA.cells [⟨5, n.id, tk, N.num, 0, 0, s1, k1, N.view⟩]) ∧ wq.ownsRow V.heap.size 54 3 (.slice s1 N.view.length k1) N.view.length (cellsOf FactV.cells N.view) | 21 => v = .pointer (some ⟨kc, 14, none⟩) | _ => True) _ (fun wp wq => Keeps (fun q => (Value.slice ma ms.length mc).ownBlock ≠ some q) wp wq) (fun fw => BlkIs fw kc 37 #[.int .i64 N.id, .int .i64 N.inc, .int .i64 N.num, .int .i64 N.seed, .int .i64 N.next, .slice a3.va N.view.length a3.vc, .slice a3.ra N.rum.length a3.rc, .slice a3.ta N.tl.length a3.tc, .int .i64 N.at0, .int .i64 N.pb.node, .int .i64 N.pb.num, .int .i64 N.pb.due, .bool N.pb.asked, .slice a3.da N.db.length a3.dc, .slice ma ms.length mc, .int .i64 0, .int .i64 0] ∧ V.heap.size ≤ fw.heap.size ∧ fw.ownsRow c 40 7 (.slice ma ms.length mc) ms.length (cellsOf MailA.cells ms) ∧ Keeps (fun q => (Value.slice ma ms.length mc).ownBlock ≠ some q) V fw) (fun fw => BlkIs fw kc 37 #[.int .i64 N.id, .int .i64 N.inc, .int .i64 N.num, .int .i64 N.seed, .int .i64 N.next, .slice a3.va N.view.length a3.vc, .slice a3.ra N.rum.length a3.rc, .slice a3.ta N.tl.length a3.tc, .int .i64 N.at0, .int .i64 N.pb.node, .int .i64 N.pb.num, .int .i64 N.pb.due, .bool N.pb.asked, .slice a3.da N.db.length a3.dc, .slice ma ms.length mc, .int .i64 0, .int .i64 0] ∧ V.heap.size ≤ fw.heap.size ∧ True ∧ Keeps (fun q => (Value.slice ma ms.length mc).ownBlock ≠ some q) V fw) (by kernel_rfl) ?inj ?stab ?stab1 ?hJ0 ?hJ1 ?step ?spec ?last _ _ _ _ (List.range 23) (by kernel_rfl) (Nat.le_refl 23) ?un (by kernel_rfl) ?down ⟨rfl, rfl, fun _ _ => rfl⟩ ⟨fun _ => ⟨HS.blk.keep (Below.refl _ _).drew, Nat.le_refl _, rowBelow RS (Below.refl _ _).drew, (Keeps.refl _ _).drew⟩, fun h => absurd h (by decide)⟩ ?none
      case inj => exact (show ∀ i, i < 22 → ∀ j, j < 22 → [54, 55, 56, 57, 58, 59, 60, 61, 62, 63, 64, 65, 66, 67, 68, 69, 70, 71, 72, 73, 74, 75].getD i 0 = [54, 55, 56, 57, 58, 59, 60, 61, 62, 63, 64, 65, 66, 67, 68, 69, 70, 71, 72, 73, 74, 75].getD j 0 → i = j by decide)
      case un => exact fun i hi _ => List.mem_range.2 hi
      case down =>
        intro j hj
        exfalso
        by_cases hi : j < 23
        · simp [hi] at hj
        · simp [hi] at hj
      case none =>
        intro i hi hj
        exfalso
        have hi2 : i < 23 := by omega
        simp [hi2] at hj
      case stab =>
        intro kq u wa wb h hB
        match kq, h with
        | 0, h => exact h
        | 1, h => exact h
        | 2, h => exact h
        | 3, h => exact h
        | 4, h => exact h
        | 5, h => exact h
        | 6, h => exact h
        | 7, h => exact h
        | 8, h => exact h
        | 9, h => exact h
        | 10, h => exact h
        | 11, h => exact h
        | 12, h => exact h
        | 13, h => exact h
        | 14, h => exact h
        | 15, h => exact h
        | 16, h => exact h
        | 17, h => exact (show ∃ s1 k1, u = .slice s1 N.view.length k1 ∧ wb.ownsRow V.heap.size 54 3 (.slice s1 N.view.length k1) N.view.length (cellsOf FactV.cells N.view) from by obtain ⟨s1, k1, h1, hf⟩ := h; exact ⟨s1, k1, h1, rowBelow hf hB⟩)
        | 18, h => exact (show ∃ s1 k1, u = .agg #[.int .i64 5, .int .i64 n.id, .int .i64 tk, .int .i64 N.num, .int .i64 0, .int .i64 0, .slice s1 N.view.length k1] ∧ wb.ownsRow V.heap.size 54 3 (.slice s1 N.view.length k1) N.view.length (cellsOf FactV.cells N.view) from by obtain ⟨s1, k1, h1, hf⟩ := h; exact ⟨s1, k1, h1, rowBelow hf hB⟩)
        | 19, h => exact (show ∃ kb, u = .slice (some ⟨kb, 0, none⟩) 1 1 ∧ ∃ s1 k1, BlkIs wb kb 40 #[.int .i64 5, .int .i64 n.id, .int .i64 tk, .int .i64 N.num, .int .i64 0, .int .i64 0, .slice s1 N.view.length k1] ∧ V.heap.size ≤ kb ∧ wb.ownsRow V.heap.size 54 3 (.slice s1 N.view.length k1) N.view.length (cellsOf FactV.cells N.view) from by obtain ⟨kb, h1, s1, k1, h2, h3, hf⟩ := h; exact ⟨kb, h1, s1, k1, h2.keep hB, h3, rowBelow hf hB⟩)
        | 20, h => exact (show ∃ ma2 mc2 s1 k1, u = .slice ma2 (ms.length + 1) mc2 ∧ wb.ownsRow c 40 7 (.slice ma2 (ms.length + 1) mc2) (ms.length + 1) (cellsOf MailA.cells ms ++ cellsOf MailA.cells [⟨5, n.id, tk, N.num, 0, 0, s1, k1, N.view⟩]) ∧ wb.ownsRow V.heap.size 54 3 (.slice s1 N.view.length k1) N.view.length (cellsOf FactV.cells N.view) from by obtain ⟨ma2, mc2, s1, k1, h1, h2, hf⟩ := h; exact ⟨ma2, mc2, s1, k1, h1, rowBelow h2 hB, rowBelow hf hB⟩)
        | 21, h => exact h
        | _ + 22, _ => exact trivial
      case stab1 =>
        intro kq u wa wb hk h hR
        match kq, hk, h with
        | 0, hk, h => exact h
        | 1, hk, h => exact h
        | 2, hk, h => exact h
        | 3, hk, h => exact h
        | 4, hk, h => exact h
        | 5, hk, h => exact h
        | 6, hk, h => exact h
        | 7, hk, h => exact h
        | 8, hk, h => exact h
        | 9, hk, h => exact h
        | 10, hk, h => exact h
        | 11, hk, h => exact h
        | 12, hk, h => exact h
        | 13, hk, h => exact h
        | 14, hk, h => exact h
        | 15, hk, h => exact h
        | 16, hk, h => exact h
        | 17, hk, h => exact (show ∃ s1 k1, u = .slice s1 N.view.length k1 ∧ wb.ownsRow V.heap.size 54 3 (.slice s1 N.view.length k1) N.view.length (cellsOf FactV.cells N.view) from by obtain ⟨s1, k1, h1, hf⟩ := h; exact ⟨s1, k1, h1, rowKeep hf hR (fun g e e2 => by have := (RS.lt g e2).2; have := (hf.lt g e).1; omega)⟩)
        | 18, hk, h => exact (show ∃ s1 k1, u = .agg #[.int .i64 5, .int .i64 n.id, .int .i64 tk, .int .i64 N.num, .int .i64 0, .int .i64 0, .slice s1 N.view.length k1] ∧ wb.ownsRow V.heap.size 54 3 (.slice s1 N.view.length k1) N.view.length (cellsOf FactV.cells N.view) from by obtain ⟨s1, k1, h1, hf⟩ := h; exact ⟨s1, k1, h1, rowKeep hf hR (fun g e e2 => by have := (RS.lt g e2).2; have := (hf.lt g e).1; omega)⟩)
        | 19, hk, h => exact (show ∃ kb, u = .slice (some ⟨kb, 0, none⟩) 1 1 ∧ ∃ s1 k1, BlkIs wb kb 40 #[.int .i64 5, .int .i64 n.id, .int .i64 tk, .int .i64 N.num, .int .i64 0, .int .i64 0, .slice s1 N.view.length k1] ∧ V.heap.size ≤ kb ∧ wb.ownsRow V.heap.size 54 3 (.slice s1 N.view.length k1) N.view.length (cellsOf FactV.cells N.view) from by obtain ⟨kb, h1, s1, k1, h2, h3, hf⟩ := h; exact ⟨kb, h1, s1, k1, h2.keepK hR (fun e => by have := (RS.lt kb e).2; omega), h3, rowKeep hf hR (fun g e e2 => by have := (RS.lt g e2).2; have := (hf.lt g e).1; omega)⟩)
        | 20, hk, h => exact absurd rfl hk
        | 21, hk, h => exact h
        | _ + 22, _, _ => exact trivial
      case hJ0 => exact (fun w w' h k => ⟨h.1.keep k, Nat.le_trans h.2.1 k.size, rowBelow h.2.2.1 k, h.2.2.2.below k⟩)
      case hJ1 => exact (fun w w' h k => ⟨h.1.keep k, Nat.le_trans h.2.1 k.size, trivial, h.2.2.2.below k⟩)
      case spec =>
        intro o ho fa fw hF hJ hpre
        obtain rfl := Option.some.inj ho
        have hd1 : fa.tmps[55]?.getD undef = .slice ma ms.length mc := by simpa using (hpre ⟨1, .data⟩ (by simp) rfl : fa.tmps.getD 55 undef = .slice ma ms.length mc)
        obtain ⟨kb, q19, s1, k1, hb19, hkb19, hf19⟩ := (hpre ⟨19, .data⟩ (by simp) rfl : ∃ kb, (fa.tmps.getD 73 undef) = .slice (some ⟨kb, 0, none⟩) 1 1 ∧ ∃ s1 k1, BlkIs fw kb 40 #[.int .i64 5, .int .i64 n.id, .int .i64 tk, .int .i64 N.num, .int .i64 0, .int .i64 0, .slice s1 N.view.length k1] ∧ V.heap.size ≤ kb ∧ fw.ownsRow V.heap.size 54 3 (.slice s1 N.view.length k1) N.view.length (cellsOf FactV.cells N.view))
        have hd19 : fa.tmps[73]?.getD undef = .slice (some ⟨kb, 0, none⟩) 1 1 := by simpa using q19
        refine appM rfl _ _ rfl c (.slice ma ms.length mc) ms.length (cellsOf MailA.cells ms) (show fa.tmps.getD 55 undef = _ by simpa using hd1) hJ.2.2.1 (some ⟨kb, 0, none⟩) 1 1 (fun e => by cases e) [⟨5, n.id, tk, N.num, 0, 0, s1, k1, N.view⟩] rfl (show fa.tmps.getD 73 undef = _ by simpa using hd19) (rowOneM (d := ⟨5, n.id, tk, N.num, 0, 0, s1, k1, N.view⟩) hb19) (by omega) (Nat.le_trans hcv hJ.2.1) ?_
        intro u U hu hgr hbl
        obtain ⟨ma2, mc2, rfl⟩ := rowSlice hu
        have kg : Keeps (fun q => (Value.slice ma ms.length mc).ownBlock ≠ some q) fw U := (Keeps.refl _ _).grown hgr (fun k e hk => hk e)
        have hf := hf19
        have hR := kg
        exact ⟨_, rfl, ⟨ma2, mc2, s1, k1, rfl, hu, rowKeep hf hR (fun g e e2 => by have := (RS.lt g e2).2; have := (hf.lt g e).1; omega)⟩, kg, hJ.1.keepK kg hnkc, Nat.le_trans hJ.2.1 kg.size, trivial, hJ.2.2.2.trans kg⟩
      case step =>
        intro i o hin hne ho fa fw hF hJ hpre
        obtain rfl | rfl | rfl | rfl | rfl | rfl | rfl | rfl | rfl | rfl | rfl | rfl | rfl | rfl | rfl | rfl | rfl | rfl | rfl | rfl | rfl : i = 0 ∨ i = 1 ∨ i = 2 ∨ i = 3 ∨ i = 4 ∨ i = 5 ∨ i = 6 ∨ i = 7 ∨ i = 8 ∨ i = 9 ∨ i = 10 ∨ i = 11 ∨ i = 12 ∨ i = 13 ∨ i = 14 ∨ i = 15 ∨ i = 16 ∨ i = 17 ∨ i = 18 ∨ i = 19 ∨ i = 21 := by omega
        all_goals (obtain rfl := Option.some.inj ho)
        · have hs3 : fa.tmps[3]?.getD undef = .pointer (some ⟨kc, 0, none⟩) := by
            have := hF.2.2 3 (show ∀ i, i < 22 → [54, 55, 56, 57, 58, 59, 60, 61, 62, 63, 64, 65, 66, 67, 68, 69, 70, 71, 72, 73, 74, 75].getD i 0 ≠ 3 by decide)
            simpa using this
          exact step_val (v := .pointer (some ⟨kc, 14, none⟩)) (w' := fw) (by go_simp) ⟨_, rfl, rfl, Below.refl _ _⟩
        · have hd0 : fa.tmps[54]?.getD undef = .pointer (some ⟨kc, 14, none⟩) := by simpa using (hpre ⟨0, .data⟩ (by simp) rfl : fa.tmps.getD 54 undef = .pointer (some ⟨kc, 14, none⟩))
          have m0 := (show fw.cell? ⟨kc, 14, none⟩ = some (.slice ma ms.length mc) from (hJ.elim (fun h => h.1) (fun h => h.1) : BlkIs fw kc 37 #[.int .i64 N.id, .int .i64 N.inc, .int .i64 N.num, .int .i64 N.seed, .int .i64 N.next, .slice a3.va N.view.length a3.vc, .slice a3.ra N.rum.length a3.rc, .slice a3.ta N.tl.length a3.tc, .int .i64 N.at0, .int .i64 N.pb.node, .int .i64 N.pb.num, .int .i64 N.pb.due, .bool N.pb.asked, .slice a3.da N.db.length a3.dc, .slice ma ms.length mc, .int .i64 0, .int .i64 0]).cell 14)
          try dsimp only at m0
          exact step_val (v := .slice ma ms.length mc) (w' := fw) (by go_simp) ⟨_, rfl, rfl, Below.refl _ _⟩
        · have hs1 : fa.tmps[1]?.getD undef = .pointer (some ⟨kp, 0, none⟩) := by
            have := hF.2.2 1 (show ∀ i, i < 22 → [54, 55, 56, 57, 58, 59, 60, 61, 62, 63, 64, 65, 66, 67, 68, 69, 70, 71, 72, 73, 74, 75].getD i 0 ≠ 1 by decide)
            simpa using this
          exact step_val (v := .pointer (some ⟨kp, 0, none⟩)) (w' := fw) (by go_simp) ⟨_, rfl, rfl, Below.refl _ _⟩
        · have hd2 : fa.tmps[56]?.getD undef = .pointer (some ⟨kp, 0, none⟩) := by simpa using (hpre ⟨2, .data⟩ (by simp) rfl : fa.tmps.getD 56 undef = .pointer (some ⟨kp, 0, none⟩))
          have m0 := (show fw.cell? ⟨kp, 0, none⟩ = some (.int .i64 n.id) from (p0.keepK (hJ.elim (fun h => h.2.2.2) (fun h => h.2.2.2) : Keeps (fun q => (Value.slice ma ms.length mc).ownBlock ≠ some q) V fw) hnkp).cell 0)
          try dsimp only at m0
          exact step_val (v := .int .i64 n.id) (w' := fw) (by go_simp) ⟨_, rfl, rfl, Below.refl _ _⟩
        · have hs5 : fa.tmps[5]?.getD undef = .slice (some ⟨bs, os, none⟩) m.length sc := by
            have := hF.2.2 5 (show ∀ i, i < 22 → [54, 55, 56, 57, 58, 59, 60, 61, 62, 63, 64, 65, 66, 67, 68, 69, 70, 71, 72, 73, 74, 75].getD i 0 ≠ 5 by decide)
            simpa using this
          exact step_val (v := .slice (some ⟨bs, os, none⟩) m.length sc) (w' := fw) (by go_simp) ⟨_, rfl, rfl, Below.refl _ _⟩
        · have hs6 : fa.tmps[6]?.getD undef = .int .i64 (k : Int) := by
            have := hF.2.2 6 (show ∀ i, i < 22 → [54, 55, 56, 57, 58, 59, 60, 61, 62, 63, 64, 65, 66, 67, 68, 69, 70, 71, 72, 73, 74, 75].getD i 0 ≠ 6 by decide)
            simpa using this
          exact step_val (v := .int .i64 (k : Int)) (w' := fw) (by go_simp) ⟨_, rfl, rfl, Below.refl _ _⟩
        · have hd4 : fa.tmps[58]?.getD undef = .slice (some ⟨bs, os, none⟩) m.length sc := by simpa using (hpre ⟨4, .data⟩ (by simp) rfl : fa.tmps.getD 58 undef = .slice (some ⟨bs, os, none⟩) m.length sc)
          have hd5 : fa.tmps[59]?.getD undef = .int .i64 (k : Int) := by simpa using (hpre ⟨5, .data⟩ (by simp) rfl : fa.tmps.getD 59 undef = .int .i64 (k : Int))
          exact step_val (v := .pointer (some ⟨bs, os + k, none⟩)) (w' := fw) (by go_simp) ⟨_, rfl, rfl, Below.refl _ _⟩
        · have hd6 : fa.tmps[60]?.getD undef = .pointer (some ⟨bs, os + k, none⟩) := by simpa using (hpre ⟨6, .data⟩ (by simp) rfl : fa.tmps.getD 60 undef = .pointer (some ⟨bs, os + k, none⟩))
          have m0 := (hck fw (hJ.elim (fun h => h.2.2.2) (fun h => h.2.2.2) : Keeps (fun q => (Value.slice ma ms.length mc).ownBlock ≠ some q) V fw))
          try dsimp only at m0
          exact step_val (v := .int .i64 tk) (w' := fw) (by go_simp) ⟨_, rfl, rfl, Below.refl _ _⟩
        · have hs4 : fa.tmps[4]?.getD undef = .pointer (some ⟨kc, 0, none⟩) := by
            have := hF.2.2 4 (show ∀ i, i < 22 → [54, 55, 56, 57, 58, 59, 60, 61, 62, 63, 64, 65, 66, 67, 68, 69, 70, 71, 72, 73, 74, 75].getD i 0 ≠ 4 by decide)
            simpa using this
          exact step_val (v := .pointer (some ⟨kc, 0, none⟩)) (w' := fw) (by go_simp) ⟨_, rfl, rfl, Below.refl _ _⟩
        · have hd8 : fa.tmps[62]?.getD undef = .pointer (some ⟨kc, 0, none⟩) := by simpa using (hpre ⟨8, .data⟩ (by simp) rfl : fa.tmps.getD 62 undef = .pointer (some ⟨kc, 0, none⟩))
          exact step_val (v := .pointer (some ⟨kc, 0, none⟩)) (w' := fw) (by go_simp) ⟨_, rfl, rfl, Below.refl _ _⟩
        · have hd9 : fa.tmps[63]?.getD undef = .pointer (some ⟨kc, 0, none⟩) := by simpa using (hpre ⟨9, .data⟩ (by simp) rfl : fa.tmps.getD 63 undef = .pointer (some ⟨kc, 0, none⟩))
          exact step_val (v := .pointer (some ⟨kc, 2, none⟩)) (w' := fw) (by go_simp) ⟨_, rfl, rfl, Below.refl _ _⟩
        · have hd10 : fa.tmps[64]?.getD undef = .pointer (some ⟨kc, 2, none⟩) := by simpa using (hpre ⟨10, .data⟩ (by simp) rfl : fa.tmps.getD 64 undef = .pointer (some ⟨kc, 2, none⟩))
          have m0 := (show fw.cell? ⟨kc, 2, none⟩ = some (.int .i64 N.num) from (hJ.elim (fun h => h.1) (fun h => h.1) : BlkIs fw kc 37 #[.int .i64 N.id, .int .i64 N.inc, .int .i64 N.num, .int .i64 N.seed, .int .i64 N.next, .slice a3.va N.view.length a3.vc, .slice a3.ra N.rum.length a3.rc, .slice a3.ta N.tl.length a3.tc, .int .i64 N.at0, .int .i64 N.pb.node, .int .i64 N.pb.num, .int .i64 N.pb.due, .bool N.pb.asked, .slice a3.da N.db.length a3.dc, .slice ma ms.length mc, .int .i64 0, .int .i64 0]).cell 2)
          try dsimp only at m0
          exact step_val (v := .int .i64 N.num) (w' := fw) (by go_simp) ⟨_, rfl, rfl, Below.refl _ _⟩
        · go_simp
          exact ⟨_, rfl, ⟨fw.heap.size, rfl⟩, (Below.refl _ _).alloc (Nat.le_refl _) _⟩
        · have hs4 : fa.tmps[4]?.getD undef = .pointer (some ⟨kc, 0, none⟩) := by
            have := hF.2.2 4 (show ∀ i, i < 22 → [54, 55, 56, 57, 58, 59, 60, 61, 62, 63, 64, 65, 66, 67, 68, 69, 70, 71, 72, 73, 74, 75].getD i 0 ≠ 4 by decide)
            simpa using this
          exact step_val (v := .pointer (some ⟨kc, 0, none⟩)) (w' := fw) (by go_simp) ⟨_, rfl, rfl, Below.refl _ _⟩
        · have hd13 : fa.tmps[67]?.getD undef = .pointer (some ⟨kc, 0, none⟩) := by simpa using (hpre ⟨13, .data⟩ (by simp) rfl : fa.tmps.getD 67 undef = .pointer (some ⟨kc, 0, none⟩))
          exact step_val (v := .pointer (some ⟨kc, 0, none⟩)) (w' := fw) (by go_simp) ⟨_, rfl, rfl, Below.refl _ _⟩
        · have hd14 : fa.tmps[68]?.getD undef = .pointer (some ⟨kc, 0, none⟩) := by simpa using (hpre ⟨14, .data⟩ (by simp) rfl : fa.tmps.getD 68 undef = .pointer (some ⟨kc, 0, none⟩))
          exact step_val (v := .pointer (some ⟨kc, 5, none⟩)) (w' := fw) (by go_simp) ⟨_, rfl, rfl, Below.refl _ _⟩
        · have hd15 : fa.tmps[69]?.getD undef = .pointer (some ⟨kc, 5, none⟩) := by simpa using (hpre ⟨15, .data⟩ (by simp) rfl : fa.tmps.getD 69 undef = .pointer (some ⟨kc, 5, none⟩))
          have m0 := (show fw.cell? ⟨kc, 5, none⟩ = some (.slice a3.va N.view.length a3.vc) from (hJ.elim (fun h => h.1) (fun h => h.1) : BlkIs fw kc 37 #[.int .i64 N.id, .int .i64 N.inc, .int .i64 N.num, .int .i64 N.seed, .int .i64 N.next, .slice a3.va N.view.length a3.vc, .slice a3.ra N.rum.length a3.rc, .slice a3.ta N.tl.length a3.tc, .int .i64 N.at0, .int .i64 N.pb.node, .int .i64 N.pb.num, .int .i64 N.pb.due, .bool N.pb.asked, .slice a3.da N.db.length a3.dc, .slice ma ms.length mc, .int .i64 0, .int .i64 0]).cell 5)
          try dsimp only at m0
          exact step_val (v := .slice a3.va N.view.length a3.vc) (w' := fw) (by go_simp) ⟨_, rfl, rfl, Below.refl _ _⟩
        · obtain ⟨ke, q12⟩ := (hpre ⟨12, .data⟩ (by simp) rfl : ∃ ke, (fa.tmps.getD 66 undef) = .slice (some ⟨ke, 0, none⟩) 0 0)
          have hd12 : fa.tmps[66]?.getD undef = .slice (some ⟨ke, 0, none⟩) 0 0 := by simpa using q12
          have hd16 : fa.tmps[70]?.getD undef = .slice a3.va N.view.length a3.vc := by simpa using (hpre ⟨16, .data⟩ (by simp) rfl : fa.tmps.getD 70 undef = .slice a3.va N.view.length a3.vc)
          have hvr : CellRow fw a3.va (cellsOf FactV.cells N.view) := by
            obtain ⟨_, _, e1, r1⟩ := OwnsRow.cellRow (rowKeep HS.rows.v (hJ.elim (fun h => h.2.2.2) (fun h => h.2.2.2) : Keeps (fun q => (Value.slice ma ms.length mc).ownBlock ≠ some q) V fw) (fun g e e2 => row_ap HS.rows.v RS (by decide) e e2))
            simp only [Value.slice.injEq, true_and] at e1
            obtain ⟨rfl, rfl⟩ := e1
            exact r1
          refine appFG rfl _ _ rfl ke (show fa.tmps.getD 66 undef = _ by simpa using hd12) a3.va ⟨gv3, 0, none⟩ hva N.view.length a3.vc N.view rfl hvpos (show fa.tmps.getD 70 undef = _ by simpa using hd16) hvr (by omega) ?_
          intro s1 k1 U hu hb
          exact ⟨_, rfl, ⟨s1, k1, rfl, rowLe hu (hJ.elim (fun h => h.2.1) (fun h => h.2.1))⟩, hb⟩
        · have hd3 : fa.tmps[57]?.getD undef = .int .i64 n.id := by simpa using (hpre ⟨3, .data⟩ (by simp) rfl : fa.tmps.getD 57 undef = .int .i64 n.id)
          have hd7 : fa.tmps[61]?.getD undef = .int .i64 tk := by simpa using (hpre ⟨7, .data⟩ (by simp) rfl : fa.tmps.getD 61 undef = .int .i64 tk)
          have hd11 : fa.tmps[65]?.getD undef = .int .i64 N.num := by simpa using (hpre ⟨11, .data⟩ (by simp) rfl : fa.tmps.getD 65 undef = .int .i64 N.num)
          obtain ⟨s1, k1, q17, hf17⟩ := (hpre ⟨17, .data⟩ (by simp) rfl : ∃ s1 k1, (fa.tmps.getD 71 undef) = .slice s1 N.view.length k1 ∧ fw.ownsRow V.heap.size 54 3 (.slice s1 N.view.length k1) N.view.length (cellsOf FactV.cells N.view))
          have hd17 : fa.tmps[71]?.getD undef = .slice s1 N.view.length k1 := by simpa using q17
          go_simp
          exact ⟨_, rfl, ⟨s1, k1, rfl, hf17⟩, Below.refl _ _⟩
        · obtain ⟨s1, k1, q18, hf18⟩ := (hpre ⟨18, .data⟩ (by simp) rfl : ∃ s1 k1, (fa.tmps.getD 72 undef) = .agg #[.int .i64 5, .int .i64 n.id, .int .i64 tk, .int .i64 N.num, .int .i64 0, .int .i64 0, .slice s1 N.view.length k1] ∧ fw.ownsRow V.heap.size 54 3 (.slice s1 N.view.length k1) N.view.length (cellsOf FactV.cells N.view))
          have hd18 : fa.tmps[72]?.getD undef = .agg #[.int .i64 5, .int .i64 n.id, .int .i64 tk, .int .i64 N.num, .int .i64 0, .int .i64 0, .slice s1 N.view.length k1] := by simpa using q18
          go_simp
          exact ⟨_, rfl, ⟨fw.heap.size, rfl, s1, k1, BlkIs.new _ _ _, (hJ.elim (fun h => h.2.1) (fun h => h.2.1)), rowBelow hf18 ((Below.refl _ _).alloc (Nat.le_refl _) _)⟩, (Below.refl _ _).alloc (Nat.le_refl _) _⟩
        · have hs3 : fa.tmps[3]?.getD undef = .pointer (some ⟨kc, 0, none⟩) := by
            have := hF.2.2 3 (show ∀ i, i < 22 → [54, 55, 56, 57, 58, 59, 60, 61, 62, 63, 64, 65, 66, 67, 68, 69, 70, 71, 72, 73, 74, 75].getD i 0 ≠ 3 by decide)
            simpa using this
          exact step_val (v := .pointer (some ⟨kc, 14, none⟩)) (w' := fw) (by go_simp) ⟨_, rfl, rfl, Below.refl _ _⟩
      case last =>
        intro o ho fa fw hF hJ hφ
        obtain rfl := Option.some.inj ho
        have hd21 : fa.tmps[75]?.getD undef = .pointer (some ⟨kc, 14, none⟩) := by simpa using (hφ 21 (by decide) : fa.tmps.getD 75 undef = .pointer (some ⟨kc, 14, none⟩))
        obtain ⟨ma2, mc2, s1, k1, q20, hrow, hfr⟩ := (hφ 20 (by decide) : ∃ ma2 mc2 s1 k1, (fa.tmps.getD 74 undef) = .slice ma2 (ms.length + 1) mc2 ∧ fw.ownsRow c 40 7 (.slice ma2 (ms.length + 1) mc2) (ms.length + 1) (cellsOf MailA.cells ms ++ cellsOf MailA.cells [⟨5, n.id, tk, N.num, 0, 0, s1, k1, N.view⟩]) ∧ fw.ownsRow V.heap.size 54 3 (.slice s1 N.view.length k1) N.view.length (cellsOf FactV.cells N.view))
        have hd20 : fa.tmps[74]?.getD undef = .slice ma2 (ms.length + 1) mc2 := by simpa using q20
        have hb1 := hJ.1
        have hKV := hJ.2.2.2
        have hnew : BlkIs (fw.setCell ⟨kc, 14, none⟩ (.slice ma2 (ms.length + 1) mc2)) kc 37 #[.int .i64 N.id, .int .i64 N.inc, .int .i64 N.num, .int .i64 N.seed, .int .i64 N.next, .slice a3.va N.view.length a3.vc, .slice a3.ra N.rum.length a3.rc, .slice a3.ta N.tl.length a3.tc, .int .i64 N.at0, .int .i64 N.pb.node, .int .i64 N.pb.num, .int .i64 N.pb.due, .bool N.pb.asked, .slice a3.da N.db.length a3.dc, .slice ma2 (ms.length + 1) mc2, .int .i64 0, .int .i64 0] := hb1.put 14 (.slice ma2 (ms.length + 1) mc2)
        have hk2 := keeps_setCell fw kc 14 (.slice ma2 (ms.length + 1) mc2)
        have hst : StRows fw c a3 N := ⟨rowKeep HS.rows.v hKV (fun g e e2 => row_ap HS.rows.v RS (by decide) e e2), rowKeep HS.rows.r hKV (fun g e e2 => row_ap HS.rows.r RS (by decide) e e2), rowKeep HS.rows.t hKV (fun g e e2 => row_ap HS.rows.t RS (by decide) e e2), rowKeep HS.rows.d hKV (fun g e e2 => row_ap HS.rows.d RS (by decide) e e2)⟩
        have hst2 := hst.keepB hb1 notEl_out hk2
        have hf0 : ∀ i (hi : i < ms.length), fw.ownsRow c 54 3 (slM ms[i]) ms[i].l.length (cellsOf FactV.cells ms[i].l) := fun i hi => rowKeep (HR.f i hi) hKV (fun g e e2 => row_ap (HR.f i hi) RS (by decide) e e2)
        have hn0 : fw.ownsRow c 54 3 (.slice s1 N.view.length k1) N.view.length (cellsOf FactV.cells N.view) := rowLe hfr hcv
        have hMR : MRows (fw.setCell ⟨kc, 14, none⟩ (.slice ma2 (ms.length + 1) mc2)) c a3.va N.view.length a3.vc ma2 mc2 (ms ++ [⟨5, n.id, tk, N.num, 0, 0, s1, k1, N.view⟩]) := MRows.snoc HR (fun i hi => rowKeep (hf0 i hi) hk2 (fun g e hg => hb1.not_row (by decide) (hf0 i hi) (hg ▸ e))) (rowKeep hrow hk2 (fun g e hg => hb1.not_row (by decide) hrow (hg ▸ e))) (rowKeep hn0 hk2 (fun g e hg => hb1.not_row (by decide) hn0 (hg ▸ e)))
          (fun g e e2 => by have := (hfr.lt g e).1; have := (HS.rows.v.lt g e2).2; omega) (fun g e i hi e2 => by have := (hfr.lt g e).1; have := ((HR.f i hi).lt g e2).2; omega)
        have hor2 : (fw.setCell ⟨kc, 14, none⟩ (.slice ma2 (ms.length + 1) mc2)).ownsRow c 2 1 (.slice (some ⟨bs, os, none⟩) m.length sc) m.length (numsV m) := rowKeep (rowKeep hor hKV (fun g e e2 => row_ap RS hor (by decide) e2 e)) hk2 (fun g e hg => hb1.not_row (by decide) (rowKeep hor hKV (fun g e e2 => row_ap RS hor (by decide) e2 e)) (hg ▸ e))
        have hKw : Keeps (fun q => q ≠ kc ∧ (Value.slice ma ms.length mc).ownBlock ≠ some q) V (fw.setCell ⟨kc, 14, none⟩ (.slice ma2 (ms.length + 1) mc2)) := (hKV.mono (fun k _ h => h.2)).trans (hk2.mono (fun k _ h => h.1))
        have HM2 : Hid ((ms ++ [(⟨5, n.id, tk, N.num, 0, 0, s1, k1, N.view⟩ : MailA)]).map MailA.v = (m.take (k + 1)).map (leaveMail N)) := by
          show _ = _
          rw [List.map_append, HMS.out, HT.out, List.map_append, List.map_cons, List.map_nil, ← HID.out]
          rfl
        refine step_skip (w' := fw.setCell ⟨kc, 14, none⟩ (.slice ma2 (ms.length + 1) mc2)) (exec_store_cell hb1 _ _ _ rfl (show fa.tmps.getD 75 undef = _ by simpa using hd21) (show fa.tmps.getD 74 undef = _ by simpa using hd20) (show 14 < 17 by decide) (by kernel_rfl) rfl) ?_
        obtain ⟨wn, hwn⟩ : ∃ wn, fw.setCell ⟨kc, 14, none⟩ (.slice ma2 (ms.length + 1) mc2) = wn := ⟨_, rfl⟩
        rw [hwn] at hnew hst2 hMR hor2 hKw ⊢
        clear hwn hb1 hKV hk2 hst hf0 hn0 hrow hfr
        obtain ⟨ft, fd⟩ := fa
        obtain ⟨hd, hz, hs⟩ := hF
        have e := tmps_slots ft 77 hz
        simp only [List.range, List.range.loop, List.map] at e
        have hu : ∀ s, (∀ i, i < 22 → [54, 55, 56, 57, 58, 59, 60, 61, 62, 63, 64, 65, 66, 67, 68, 69, 70, 71, 72, 73, 74, 75].getD i 0 ≠ s) → ft.getD s undef = _ := hs
        rw [hu 0 (by decide), hu 1 (by decide), hu 2 (by decide), hu 3 (by decide), hu 4 (by decide), hu 5 (by decide), hu 6 (by decide), hu 7 (by decide), hu 8 (by decide), hu 9 (by decide), hu 10 (by decide), hu 11 (by decide), hu 12 (by decide), hu 13 (by decide), hu 14 (by decide), hu 15 (by decide), hu 16 (by decide), hu 17 (by decide), hu 18 (by decide), hu 19 (by decide), hu 20 (by decide), hu 21 (by decide), hu 22 (by decide), hu 23 (by decide), hu 24 (by decide), hu 25 (by decide), hu 26 (by decide), hu 27 (by decide), hu 28 (by decide), hu 29 (by decide), hu 30 (by decide), hu 31 (by decide), hu 32 (by decide), hu 33 (by decide), hu 34 (by decide), hu 35 (by decide), hu 36 (by decide), hu 37 (by decide), hu 38 (by decide), hu 39 (by decide), hu 40 (by decide), hu 41 (by decide), hu 42 (by decide), hu 43 (by decide), hu 44 (by decide), hu 45 (by decide), hu 46 (by decide), hu 47 (by decide), hu 48 (by decide), hu 49 (by decide), hu 50 (by decide), hu 51 (by decide), hu 52 (by decide), hu 53 (by decide), hu 76 (by decide)] at e
        obtain ⟨y54, hy54⟩ : ∃ z, ft.getD 54 undef = z := ⟨_, rfl⟩
        obtain ⟨y55, hy55⟩ : ∃ z, ft.getD 55 undef = z := ⟨_, rfl⟩
        obtain ⟨y56, hy56⟩ : ∃ z, ft.getD 56 undef = z := ⟨_, rfl⟩
        obtain ⟨y57, hy57⟩ : ∃ z, ft.getD 57 undef = z := ⟨_, rfl⟩
        obtain ⟨y58, hy58⟩ : ∃ z, ft.getD 58 undef = z := ⟨_, rfl⟩
        obtain ⟨y59, hy59⟩ : ∃ z, ft.getD 59 undef = z := ⟨_, rfl⟩
        obtain ⟨y60, hy60⟩ : ∃ z, ft.getD 60 undef = z := ⟨_, rfl⟩
        obtain ⟨y61, hy61⟩ : ∃ z, ft.getD 61 undef = z := ⟨_, rfl⟩
        obtain ⟨y62, hy62⟩ : ∃ z, ft.getD 62 undef = z := ⟨_, rfl⟩
        obtain ⟨y63, hy63⟩ : ∃ z, ft.getD 63 undef = z := ⟨_, rfl⟩
        obtain ⟨y64, hy64⟩ : ∃ z, ft.getD 64 undef = z := ⟨_, rfl⟩
        obtain ⟨y65, hy65⟩ : ∃ z, ft.getD 65 undef = z := ⟨_, rfl⟩
        obtain ⟨y66, hy66⟩ : ∃ z, ft.getD 66 undef = z := ⟨_, rfl⟩
        obtain ⟨y67, hy67⟩ : ∃ z, ft.getD 67 undef = z := ⟨_, rfl⟩
        obtain ⟨y68, hy68⟩ : ∃ z, ft.getD 68 undef = z := ⟨_, rfl⟩
        obtain ⟨y69, hy69⟩ : ∃ z, ft.getD 69 undef = z := ⟨_, rfl⟩
        obtain ⟨y70, hy70⟩ : ∃ z, ft.getD 70 undef = z := ⟨_, rfl⟩
        obtain ⟨y71, hy71⟩ : ∃ z, ft.getD 71 undef = z := ⟨_, rfl⟩
        obtain ⟨y72, hy72⟩ : ∃ z, ft.getD 72 undef = z := ⟨_, rfl⟩
        obtain ⟨y73, hy73⟩ : ∃ z, ft.getD 73 undef = z := ⟨_, rfl⟩
        obtain ⟨y74, hy74⟩ : ∃ z, ft.getD 74 undef = z := ⟨_, rfl⟩
        obtain ⟨y75, hy75⟩ : ∃ z, ft.getD 75 undef = z := ⟨_, rfl⟩
        rw [hy54, hy55, hy56, hy57, hy58, hy59, hy60, hy61, hy62, hy63, hy64, hy65, hy66, hy67, hy68, hy69, hy70, hy71, hy72, hy73, hy74, hy75] at e
        simp only [Array.getD_eq_getD_getElem?, List.getElem?_toArray, List.getElem?_cons_zero, List.getElem?_cons_succ, Option.getD_some] at e
        clear hy54 hy55 hy56 hy57 hy58 hy59 hy60 hy61 hy62 hy63 hy64 hy65 hy66 hy67 hy68 hy69 hy70 hy71 hy72 hy73 hy74 hy75 hu hs hz hφ hd21 hd20 q20
        subst e
        obtain rfl : fd = [] := hd
        obtain ⟨mq, hmqe⟩ : ∃ q : MailA, ⟨5, n.id, tk, N.num, 0, 0, s1, k1, N.view⟩ = q := ⟨_, rfl⟩
        rw [hmqe] at hMR HM2
        clear hmqe
        have OW := hO.keepK hKw ⟨by omega, hO.not_row (by decide) RS⟩
        have PW := p0.keepK hKw ⟨by omega, p0.not_row (by decide) RS⟩
        have BW := hB.trans (keepsV_below RS hKw (by omega) hcv)
        clear hKw hO p0 hB HS HR hor RS HT HMS hck ck
        have hNS : NodeSt 37 wn c kc a3 N (.slice ma2 (ms.length + 1) mc2) (.int .i64 0) (.int .i64 0) := ⟨hnew, hlo, hst2⟩
        clear hnew hst2
        go_wp2_with fail
        go_roundw
        case rel => exact ⟨k + 1, ma2, mc2, ms ++ [mq], ms.length + 1, by omega, by go_num, by simp, hNS, hMR, HM2.out, hor2, OW, PW, BW⟩
        case measure => simp [intOf]; omega
    · obtain rfl : k = m.length := by omega
      have HMS2 : Hid (ms.map MailA.v = m.map (leaveMail N)) := by have h := HMS.out; rw [List.take_length] at h; exact h
      clear HMS hor p0
      have HSB : BlkIs wr kc 37 #[.int .i64 N.id, .int .i64 N.inc, .int .i64 N.num, .int .i64 N.seed, .int .i64 N.next, .slice a3.va N.view.length a3.vc, .slice a3.ra N.rum.length a3.rc, .slice a3.ta N.tl.length a3.tc, .int .i64 N.at0, .int .i64 N.pb.node, .int .i64 N.pb.num, .int .i64 N.pb.due, .bool N.pb.asked, .slice a3.da N.db.length a3.dc, .slice ma ms.length mc, .int .i64 0, .int .i64 0] := HS.blk
      go_wp2_with (first
        | (refine load_blk HSB rfl 37 _ rfl rfl _ Tryz.underlying37 (by kernel_rfl) ?_)
        | (refine store_blk hO rfl 37 _ _ rfl rfl rfl (by kernel_rfl) rfl (by kernel_rfl) ?_; intro U3 P K))
      refine ret_blk P Tryz.results22 rfl _ Tryz.underlying37 (by kernel_rfl) rfl ?_
      have hE : leaveM n = ⟨N, ms.map MailA.v, 0, 0⟩ := by
        unfold leaveM
        rw [HNN.out, HMN.out, HMS2.out]
      rw [hE]
      subst hc
      exact out_post (a := a3) (n := N) (ms := ms) 0 (HS.rows.keepB hO notEl_out K) (HR.keepB hO (by decide) (by decide) K) rfl (hB.trans (K.belowNe (by omega) hB.size))
end Go.Proofs.YtmdcankfjmkkeaaGreat
