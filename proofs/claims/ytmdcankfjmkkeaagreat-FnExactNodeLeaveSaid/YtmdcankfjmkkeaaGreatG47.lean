/- The contract of the program's NodeLeave. -/
import Derived.Test.YtmdcankfjmkkeaaGreatNLeftI
import Derived.Test.YtmdcankfjmkkeaaGreatG38
import Derived.Test.YtmdcankfjmkkeaaGreatNSendB
import Derived.Test.YtmdcankfjmkkeaaGreatNImpl
import Derived.Test.YtmdcankfjmkkeaaGreatNActC
import Derived.Test.YtmdcankfjmkkeaaGreatG3
import Derived.Laws.StructEq
namespace Go.Proofs.YtmdcankfjmkkeaaGreat
open Go Go.RowKit
set_option linter.unusedVariables false
set_option linter.unusedSimpArgs false

theorem leave_len (n : NodeV) (hr : rightV n.view) (hf : (⟨n.id, n.inc, 3⟩ : FactV).ok) : (leaveV n).view.length ≤ 6 ∧ rightV (leaveV n).view ∧ (othersM (leaveV n)).length ≤ 6 := by
  have h1 : rightV (leaveV n).view := addF_right hr hf
  have h2 : (leaveV n).view.length ≤ 6 := rightV_len h1
  refine ⟨h2, h1, ?_⟩
  unfold othersM
  have h3 := goneL_len (leaveV n).view
  unfold setDropL
  split
  · simp
  · split
    · have := dropL_length (goneL (leaveV n).view) (leaveV n).id
      omega
    · omega
set_option maxHeartbeats 4000000 in
set_option maxRecDepth 100000 in
theorem implLeave_any (a : NodeM) (n : NodeV) (x : NOutV) (w : World) (hx : LeaveIs n x) (hl : NodeLen n 1048576) (hroom : NodeRoom a n) (hrow : NodeRows w a n) :
    Calls Tryz.prog 16 #[nodeVal a n] w fun e w' => NPost w.heap.size x w e w' := by
  have HX : Hid (LeaveIs n x) := hx
  clear hx
  obtain ⟨q0, hq0⟩ := tells_bool (n.ok)
  have HQ0 : Hid (q0 = true ↔ n.ok) := hq0
  clear hq0
  obtain ⟨okb, hokb⟩ := tells_bool (n.ok)
  have HOK : Hid (okb = true ↔ n.ok) := hokb
  clear hokb
  have HNO : Hid (¬ (n.ok) → okb = false) := fun h => by
    cases okb with
    | false => rfl
    | true => exact absurd (HOK.out.1 rfl) h

  unfold nodeVal nodeCells
  have p0 := (BlkIs.new w 32 #[.int .i64 n.id, .int .i64 n.inc, .int .i64 n.num, .int .i64 n.seed, .int .i64 n.next, .slice a.va n.view.length a.vc, .slice a.ra n.rum.length a.rc, .slice a.ta n.tl.length a.tc, .int .i64 n.at0, .int .i64 n.pb.node, .int .i64 n.pb.num, .int .i64 n.pb.due, .bool n.pb.asked, .slice a.da n.db.length a.dc]).keep ((Below.refl _ _).alloc (Nat.le_refl _) (.cells #[.int .i64 0, .int .i64 0, .int .i64 0, .int .i64 0, .int .i64 0, .slice none 0 0, .slice none 0 0, .slice none 0 0, .int .i64 0, .int .i64 0, .int .i64 0, .int .i64 0, .bool false, .slice none 0 0, .slice none 0 0, .int .i64 0, .int .i64 0] 37))
  have B := ((Below.refl w.heap.size w).alloc (Nat.le_refl _) (.cells #[.int .i64 n.id, .int .i64 n.inc, .int .i64 n.num, .int .i64 n.seed, .int .i64 n.next, .slice a.va n.view.length a.vc, .slice a.ra n.rum.length a.rc, .slice a.ta n.tl.length a.tc, .int .i64 n.at0, .int .i64 n.pb.node, .int .i64 n.pb.num, .int .i64 n.pb.due, .bool n.pb.asked, .slice a.da n.db.length a.dc] 32)).alloc (by simp) (.cells #[.int .i64 0, .int .i64 0, .int .i64 0, .int .i64 0, .int .i64 0, .slice none 0 0, .slice none 0 0, .slice none 0 0, .int .i64 0, .int .i64 0, .int .i64 0, .int .i64 0, .bool false, .slice none 0 0, .slice none 0 0, .int .i64 0, .int .i64 0] 37)
  have O := BlkIs.new (w.alloc (.cells #[.int .i64 n.id, .int .i64 n.inc, .int .i64 n.num, .int .i64 n.seed, .int .i64 n.next, .slice a.va n.view.length a.vc, .slice a.ra n.rum.length a.rc, .slice a.ta n.tl.length a.tc, .int .i64 n.at0, .int .i64 n.pb.node, .int .i64 n.pb.num, .int .i64 n.pb.due, .bool n.pb.asked, .slice a.da n.db.length a.dc] 32)) 37 #[.int .i64 0, .int .i64 0, .int .i64 0, .int .i64 0, .int .i64 0, .slice none 0 0, .slice none 0 0, .slice none 0 0, .int .i64 0, .int .i64 0, .int .i64 0, .int .i64 0, .bool false, .slice none 0 0, .slice none 0 0, .int .i64 0, .int .i64 0]
  go_enter Tryz.func16, Tryz.ntmps16
  go_upto_region 1 with fail
  rw [World.size_alloc] at O
  obtain ⟨X, hX⟩ : ∃ W, (w.alloc (.cells #[.int .i64 n.id, .int .i64 n.inc, .int .i64 n.num, .int .i64 n.seed, .int .i64 n.next, .slice a.va n.view.length a.vc, .slice a.ra n.rum.length a.rc, .slice a.ta n.tl.length a.tc, .int .i64 n.at0, .int .i64 n.pb.node, .int .i64 n.pb.num, .int .i64 n.pb.due, .bool n.pb.asked, .slice a.da n.db.length a.dc] 32)).alloc (.cells #[.int .i64 0, .int .i64 0, .int .i64 0, .int .i64 0, .int .i64 0, .slice none 0 0, .slice none 0 0, .slice none 0 0, .int .i64 0, .int .i64 0, .int .i64 0, .int .i64 0, .bool false, .slice none 0 0, .slice none 0 0, .int .i64 0, .int .i64 0] 37) = W := ⟨_, rfl⟩
  rw [hX] at p0 O B ⊢
  clear hX
  obtain ⟨kp, hkp⟩ : ∃ k, w.heap.size = k := ⟨_, rfl⟩
  obtain ⟨kr, hkr⟩ : ∃ k, w.heap.size + 1 = k := ⟨_, rfl⟩
  have hpr : kp < kr := by omega
  have hwp : w.heap.size ≤ kp := by omega
  rw [hkp] at p0
  rw [hkr] at O
  rw [hkp]
  rw [show kp + 1 = kr by omega]
  go_upto_region 1 with fail
  go_cut [8] (fun vc wc => vc = .bool (!okb) ∧ Below X.heap.size X wc)
  case first =>
    as_aux_lemma =>
      have bz := Below.refl X.heap.size X
      have d0 : X.cell? ⟨kp, 0, none⟩ = some (.int .i64 n.id) := (p0.keep bz).cell 0
      have d1 : X.cell? ⟨kp, 1, none⟩ = some (.int .i64 n.inc) := (p0.keep bz).cell 1
      have d2 : X.cell? ⟨kp, 2, none⟩ = some (.int .i64 n.num) := (p0.keep bz).cell 2
      have d3 : X.cell? ⟨kp, 3, none⟩ = some (.int .i64 n.seed) := (p0.keep bz).cell 3
      have d4 : X.cell? ⟨kp, 4, none⟩ = some (.int .i64 n.next) := (p0.keep bz).cell 4
      have d5 : X.cell? ⟨kp, 5, none⟩ = some (.slice a.va n.view.length a.vc) := (p0.keep bz).cell 5
      have d6 : X.cell? ⟨kp, 6, none⟩ = some (.slice a.ra n.rum.length a.rc) := (p0.keep bz).cell 6
      have d7 : X.cell? ⟨kp, 7, none⟩ = some (.slice a.ta n.tl.length a.tc) := (p0.keep bz).cell 7
      have d8 : X.cell? ⟨kp, 8, none⟩ = some (.int .i64 n.at0) := (p0.keep bz).cell 8
      have d9 : X.cell? ⟨kp, 9, none⟩ = some (.int .i64 n.pb.node) := (p0.keep bz).cell 9
      have d10 : X.cell? ⟨kp, 10, none⟩ = some (.int .i64 n.pb.num) := (p0.keep bz).cell 10
      have d11 : X.cell? ⟨kp, 11, none⟩ = some (.int .i64 n.pb.due) := (p0.keep bz).cell 11
      have d12 : X.cell? ⟨kp, 12, none⟩ = some (.bool n.pb.asked) := (p0.keep bz).cell 12
      have d13 : X.cell? ⟨kp, 13, none⟩ = some (.slice a.da n.db.length a.dc) := (p0.keep bz).cell 13
      go_wp2_with fail
      refine (implNRight_is a n _ q0 HQ0.out hl hroom (hrow.keep (B.trans (bz.mono B.size)))).mono ?_
      rintro e Z0 ⟨rfl, bx⟩
      replace bz := bz.trans (bx.mono bz.size)
      clear bx d0 d1 d2 d3 d4 d5 d6 d7 d8 d9 d10 d11 d12 d13
      cases q0 with
      | false =>
        obtain rfl : okb = false := HNO.out (fun h => by have := HQ0.out.2 h; cases this)
        go_wp2_with fail
        go_meet
        case rel => exact ⟨rfl, bz⟩
      | true =>
      have K0 : Hid (n.ok) := HQ0.out.1 rfl
      clear HQ0
      obtain rfl : okb = true := HOK.out.2 K0.out
      go_wp2_with fail
      go_meet
      case rel => exact ⟨rfl, bz⟩
  case rest =>
  obtain ⟨rfl, bz⟩ := hcut
  obtain ⟨V, hV⟩ : ∃ y, y = wc := ⟨wc, rfl⟩
  rw [← hV] at bz ⊢
  clear hV
  replace p0 := p0.keep bz
  replace O := O.keep bz
  replace B := B.trans (bz.mono B.size)

  cases okb with
  | false =>
   as_aux_lemma =>
    obtain rfl : x = illN 1 := by
      rcases HX.out with ⟨h, _⟩ | ⟨h, _⟩ | ⟨_, h⟩
      · have := HOK.out.2 h; cases this
      · have := HOK.out.2 h; cases this
      · exact h
    clear HX HOK HNO HQ0
    go_wp2_with (refine store_blk O rfl 37 _ _ rfl rfl rfl (by kernel_rfl) rfl (by kernel_rfl) ?_; intro Y P K)
    exact ret_blk P Tryz.results16 rfl _ Tryz.underlying37 (by kernel_rfl) rfl (ill_post 1 _ w Y (B.trans (K.belowNe (by omega) B.size)))
  | true =>
  have hok : n.ok := HOK.out.1 rfl
  have HXX : Hid ((goneN n ∧ x = illN 10) ∨ (¬ goneN n ∧ x = leaveM n)) := by
    rcases HX.out with ⟨_, h, k⟩ | ⟨_, h, k⟩ | ⟨h, _⟩
    · exact .inr ⟨h, k⟩
    · exact .inl ⟨h, k⟩
    · exact absurd hok h
  have hwr := wrap_num hok.1.2.2.1
  have HRV : Hid (rightV n.view) := hok.1.2.2.2.2.2.1
  have HF : Hid ((⟨n.id, n.inc, 3⟩ : FactV).ok) := ⟨hok.1.1, hok.1.2.1, (by show (1 : Int) ≤ 3; omega), (by show (3 : Int) ≤ 3; omega)⟩
  clear HX HOK HNO HQ0 hok
  have hkV := O.lt
  go_upto_region 4 with (first
    | (refine load_blk p0 rfl 32 _ rfl rfl _ Tryz.underlying32 (by kernel_rfl) ?_)
    | (go_at_call 49; refine (actingOf_any a n 0 _ hl (hrow.keep B)).mono ?_; rintro e Y ⟨b, a2, rfl, H, by1⟩))
  have hbk : kr < b := Nat.lt_of_lt_of_le hkV H.lo
  have hlo2 : w.heap.size ≤ V.heap.size := B.size
  replace O := O.keep by1
  replace B := B.trans (by1.mono B.size)
  replace H : NodeSt 92 Y w.heap.size b a2 n (.int .i64 0) (.slice none 0 0) (.int .i64 0) := ⟨H.blk, Nat.le_trans hlo2 H.lo, ⟨rowLe H.rows.v hlo2, rowLe H.rows.r hlo2, rowLe H.rows.t hlo2, rowLe H.rows.d hlo2⟩⟩
  clear by1 p0
  obtain ⟨q, hq⟩ := tells_bool (goneN n)
  have HQ : Hid (q = true ↔ goneN n) := hq
  clear hq
  cases q with
  | true =>
   as_aux_lemma =>
    obtain rfl : x = illN 10 := by
      rcases HXX.out with ⟨_, h⟩ | ⟨h, _⟩
      · exact h
      · exact absurd (HQ.out.1 rfl) h
    clear HXX
    go_wp2_with (first
      | (go_at_call 50; refine (hasLeft_any 92 w.heap.size b a2 n _ _ _ true _ HRV.out HQ.out H).mono ?_; rintro e Y2 ⟨rfl, bx⟩; have O2 := O.keep bx)
      | (refine store_blk O2 rfl 37 _ _ rfl rfl rfl (by kernel_rfl) rfl (by kernel_rfl) ?_; intro U P K))
    exact ret_blk P Tryz.results16 rfl _ Tryz.underlying37 (by kernel_rfl) rfl (ill_post 10 _ w U ((B.trans (bx.mono B.size)).trans (K.belowNe (by omega) (B.trans (bx.mono B.size)).size)))
  | false =>
  obtain rfl : x = leaveM n := by
    rcases HXX.out with ⟨h, _⟩ | ⟨_, h⟩
    · have := HQ.out.2 h; cases this
    · exact h
  clear HXX
  go_upto_region 6 with (go_at_call 50; refine (hasLeft_any 92 w.heap.size b a2 n _ _ _ false _ HRV.out HQ.out H).mono ?_; rintro e Y2 ⟨rfl, bx⟩)
  replace O := O.keep bx
  replace H := H.keep bx
  replace B := B.trans (bx.mono B.size)
  clear bx HQ
  go_upto_region 7 with (go_at_call 62; refine (hold_any 92 notEl_act w.heap.size b a2 n 3 _ _ _ _ HRV.out HF.out B.size H).mono ?_; rintro e Y3 ⟨rfl, va, vc, H1, k1⟩; unfold FactV.val)
  replace O := O.keepK k1 ⟨by omega, O.not_row notEl_out.f H.rows.v⟩
  replace B := B.trans (keepsV_below H.rows.v k1 (by have := H.lo; omega) B.size)
  clear H k1
  obtain ⟨a3, ha3⟩ : ∃ q : NodeM, { a2 with va := va, vc := vc } = q := ⟨_, rfl⟩
  obtain ⟨n3, hn3⟩ : ∃ q : NodeV, { n with view := addF n.view ⟨n.id, n.inc, 3⟩ } = q := ⟨_, rfl⟩
  rw [ha3, hn3] at H1
  have h3num : n3.num = n.num := by rw [← hn3]
  have HL : Hid (leaveV n = { n3 with num := n3.num + 1 }) := by show _ = _; rw [← hn3]; rfl
  rw [← h3num] at hwr
  have HO : BlkIs Y3 b 92 #[.int .i64 n3.id, .int .i64 n3.inc, .int .i64 n3.num, .int .i64 n3.seed, .int .i64 n3.next, .slice a3.va n3.view.length a3.vc, .slice a3.ra n3.rum.length a3.rc, .slice a3.ta n3.tl.length a3.tc, .int .i64 n3.at0, .int .i64 n3.pb.node, .int .i64 n3.pb.num, .int .i64 n3.pb.due, .bool n3.pb.asked, .slice a3.da n3.db.length a3.dc, .int .i64 0, .slice none 0 0, .int .i64 0] := H1.blk
  have e2 : Y3.cell? ⟨b, 2, none⟩ = some (.int .i64 n3.num) := HO.cell 2
  clear ha3 hn3 h3num
  go_upto_region 8 with (refine store_cell HO rfl _ _ _ rfl 2 (.int .i64 (n3.num + 1)) rfl (by first | rfl | (simp [hwr])) (show 2 < 17 by decide) (by kernel_rfl) rfl ?_; intro U HU ku)
  replace HU : NodeSt 92 U w.heap.size b a3 { n3 with num := n3.num + 1 } (.int .i64 0) (.slice none 0 0) (.int .i64 0) := ⟨HU, H1.lo, (fun (h : StRows U w.heap.size a3 n3) => (⟨h.v, h.r, h.t, h.d⟩ : StRows U w.heap.size a3 { n3 with num := n3.num + 1 })) (H1.rows.keepB HO notEl_act ku)⟩
  replace O := O.keepK ku (by omega)
  replace B := B.trans (ku.belowNe (by have := H1.lo; omega) B.size)
  rw [← HL.out] at HU
  clear e2 HO H1 ku HL hwr
  obtain ⟨N, hN⟩ : ∃ q, leaveV n = q := ⟨_, rfl⟩
  obtain ⟨hv6, hrv, hm6⟩ := leave_len n HRV.out HF.out
  rw [hN] at HU hv6 hrv hm6
  have HRN : Hid (rightV N.view) := hrv
  have HNN : Hid (leaveV n = N) := hN
  clear hN hrv HRV HF
  try simp only [Act.put]
  go_upto_region 9 with (go_at_call 63; refine (others_any 92 w.heap.size b a3 N _ _ _ _ HRN.out HU).mono ?_; rintro e W0 ⟨v0, rfl, o0, b0⟩; obtain ⟨sa, sc, rfl, _⟩ := own_nums o0)
  have hBU := B.size
  replace O := O.keep b0
  replace HU := HU.keep b0
  replace B := B.trans (b0.mono B.size)
  obtain ⟨m, hm⟩ : ∃ m, othersM N = m := ⟨_, rfl⟩
  rw [hm] at o0 hm6 ⊢
  have HM : Hid (othersM N = m) := hm
  obtain ⟨c, hc⟩ : ∃ c, w.heap.size = c := ⟨_, rfl⟩
  rw [hc] at HU B hwp
  replace o0 : W0.ownsRow c 2 1 (.slice sa m.length sc) m.length (numsV m) := rowLe o0 (by omega)
  clear b0 hm hBU
  go_loopw [35] (fun i wr => ∃ (k : Nat) (ma : Option Addr) (mc : Nat) (ms : List MailA) (ml : Nat), k ≤ m.length ∧ i = .int .i64 k ∧ ms.length = ml ∧ NodeSt 92 wr c b a3 N (.int .i64 0) (.slice ma ml mc) (.int .i64 0) ∧ MRows wr c a3.va N.view.length a3.vc ma mc ms ∧ ms.map MailA.v = (m.take k).map (leaveMail N) ∧ wr.ownsRow c 2 1 (.slice sa m.length sc) m.length (numsV m) ∧ BlkIs wr kr 37 #[.int .i64 0, .int .i64 0, .int .i64 0, .int .i64 0, .int .i64 0, .slice none 0 0, .slice none 0 0, .slice none 0 0, .int .i64 0, .int .i64 0, .int .i64 0, .int .i64 0, .bool false, .slice none 0 0, .slice none 0 0, .int .i64 0, .int .i64 0] ∧ Below c w wr) (fun i _ => m.length - (intOf i).toNat)
  case atStart => exact ⟨0, none, 0, [], 0, Nat.zero_le _, rfl, rfl, HU, MRows.nil _ _ _ _ _, rfl, o0, O, B⟩
  case round =>
    obtain ⟨k, ma, mc, ms, ml, hk, rfl, rfl, HS, HR, hms, hor, hO, hB⟩ := hrel
    clear HU o0 O B
    have HMS : Hid (ms.map MailA.v = (m.take k).map (leaveMail N)) := hms
    have HLM : Hid (ms.length = k) := by
      show _ = _
      have h := congrArg List.length hms
      rw [List.length_map, List.length_map, List.length_take, Nat.min_eq_left hk] at h
      exact h
    clear hms
    by_cases hk2 : k < m.length
    · obtain ⟨_, _, es, ns⟩ := own_nums hor
      obtain ⟨bs, os, hsa, hbs, hcs⟩ := ns.row.addrN (by omega)
      simp only [Value.slice.injEq, true_and] at es
      obtain ⟨rfl, rfl⟩ := es
      subst hsa
      obtain ⟨tk, htk⟩ : ∃ t, m[k] = t := ⟨_, rfl⟩
      have ck := hcs k hk2
      rw [htk] at ck
      have hk' : (k : Int) < (m.length : Int) := by omega
      have HT : Hid (m.take (k + 1) = m.take k ++ [tk]) := by show _ = _; rw [List.take_succ_eq_append_getElem hk2, htk]
      have e2 : wr.cell? ⟨b, 2, none⟩ = some (.int .i64 N.num) := HS.blk.cell 2
      have hcr : c ≤ wr.heap.size := Nat.le_trans (by omega) hB.size
      clear hcs ns htk
      go_wp2_with (go_at_call 64; refine (send5_any c b a3 N 0 ma mc ms 0 0 tk N.num 0 0 _ (by omega) (by have := HLM.out; omega) hcr HS HR).mono ?_; rintro e W1 ⟨rfl, ma2, mc2, mm, HW, MW, em, kw⟩)
      have OW := hO.keepK kw ⟨by omega, hO.not_row (by decide) HR.m⟩
      have BW := hB.trans (keepsV_below HR.m kw (by have := HS.lo; omega) hcr)
      have RW := rowKeep hor kw (fun g e => ⟨fun h => HS.blk.not_row notEl_act.i hor (h ▸ e), fun h => row_ap HR.m hor (by decide) h e⟩)
      have HM2 : Hid ((ms ++ [mm]).map MailA.v = (m.take (k + 1)).map (leaveMail N)) := by
        show _ = _
        rw [List.map_append, HMS.out, HT.out, List.map_append, List.map_cons, List.map_nil, em]
        rfl
      clear kw hO hB hor HS HR HT e2 ck HMS
      go_roundw
      case rel => exact ⟨k + 1, ma2, mc2, ms ++ [mm], ms.length + 1, by omega, by go_num, by simp, HW, MW, HM2.out, RW, OW, BW⟩
      case measure => simp [intOf]; omega
    · obtain rfl : k = m.length := by omega
      have HMS2 : Hid (ms.map MailA.v = m.map (leaveMail N)) := by have h := HMS.out; rw [List.take_length] at h; exact h
      clear HMS hor
      go_wp2_with (first
        | (go_at_call 54; refine (out_any c b a3 N _ ma ms.length mc 0 _ HS).mono ?_; rintro e V2 ⟨rfl, bv⟩; unfold outVal outCells; have OV := hO.keep bv)
        | (refine store_blk OV rfl 37 _ _ rfl rfl rfl (by kernel_rfl) rfl (by kernel_rfl) ?_; intro U2 P K))
      have RV := HS.rows.keep bv
      have MV := HR.keep bv
      have BV := hB.trans (bv.mono (by have := hB.size; omega))
      refine ret_blk P Tryz.results16 rfl _ Tryz.underlying37 (by kernel_rfl) rfl ?_
      have hE : leaveM n = ⟨N, ms.map MailA.v, 0, 0⟩ := by
        unfold leaveM
        rw [HNN.out, HM.out, HMS2.out]
      rw [hE]
      subst hc
      exact out_post (a := a3) (n := N) (ms := ms) 0 (RV.keepB OV notEl_out K) (MV.keepB OV (by decide) (by decide) K) rfl (BV.trans (K.belowNe (by omega) BV.size))
end Go.Proofs.YtmdcankfjmkkeaaGreat
/- Facts compared as wholes. -/
namespace Go.Proofs.YtmdcankfjmkkeaaGreat
open Go Go.RowKit
set_option linter.unusedVariables false

theorem eqF_run (a b c d e f : Int) (w : World) : (Op.equalIn 10000 54 (.agg #[.int .i64 a, .int .i64 b, .int .i64 c]) (.agg #[.int .i64 d, .int .i64 e, .int .i64 f])).run Tryz.prog w = .ok (a == d && (b == e && c == f)) w := by
  have u := Tryz.underlying2
  have hS : Tryz.prog.underlying 54 = some (.struct (Tryz.prog.fieldsOf 54)) := by kernel_rfl
  have hp : Tryz.prog.stoodInHeld 54 = false := by kernel_rfl
  rw [show (10000 : Nat) = 9999 + 1 from rfl, run_equalIn_agg w 9999 54 _ _ hS hp]
  simp only [Program.fieldsOf, Tryz.underlying54]
  go_simp
  by_cases h1 : a = d <;> by_cases h2 : b = e <;> by_cases h3 : c = f <;> simp [h1, h2, h3]
theorem guardF : Tryz.prog.eqGuardType Tryz.prog.depth 54 = false := by kernel_rfl
theorem eqF_is {m y : FactV} {q : Bool} (h : q = true ↔ m = y) : (m.node == y.node && (m.inc == y.inc && m.st == y.st)) = q := by
  cases m; cases y
  cases q with
  | true => simpa using h
  | false =>
    have : ¬ _ := fun e => by have := h.2 e; cases this
    simp at this ⊢
    exact this
/-- Two facts compared: as q tells. -/
theorem eqF_q {m y : FactV} {q : Bool} (h : q = true ↔ m = y) (w : World) : (Op.equalIn 10000 54 (.agg #[.int .i64 m.node, .int .i64 m.inc, .int .i64 m.st]) (.agg #[.int .i64 y.node, .int .i64 y.inc, .int .i64 y.st])).run Tryz.prog w = .ok q w := by
  rw [eqF_run, eqF_is h]
end Go.Proofs.YtmdcankfjmkkeaaGreat
