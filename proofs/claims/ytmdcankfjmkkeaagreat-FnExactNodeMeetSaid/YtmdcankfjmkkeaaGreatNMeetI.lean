/- What NodeMeet answers; the contract of the program's NodeMeet. -/
import Derived.Test.YtmdcankfjmkkeaaGreatNSendB
import Derived.Test.YtmdcankfjmkkeaaGreatNImpl
namespace Go.Proofs.YtmdcankfjmkkeaaGreat
open Go Go.RowKit
set_option linter.unusedVariables false
set_option linter.unusedSimpArgs false

def meetM (n : NodeV) (other : Int) : NOutV := ⟨{ n with num := n.num + 1 }, [⟨4, n.id, other, n.num + 1, 0, 0, n.view⟩], 0, 0⟩
def MeetIs (n : NodeV) (other : Int) (x : NOutV) : Prop := ((n.ok ∧ otherR other n.id) ∧ x = meetM n other) ∨ (¬ (n.ok ∧ otherR other n.id) ∧ x = illN 1)
theorem meetIs_ex (n : NodeV) (other : Int) : ∃ x, MeetIs n other x := by
  by_cases h : n.ok ∧ otherR other n.id
  · exact ⟨_, .inl ⟨h, rfl⟩⟩
  · exact ⟨_, .inr ⟨h, rfl⟩⟩
/-- What is handed back with mails. -/
theorem out_post {c : Nat} {a : NodeM} {n : NodeV} {w w' : World} {ma : Option Addr} {mc : Nat} {ms : List MailA} {ml : List MailV} (miss : Int) (h : StRows w' c a n) (k : MRows w' c a.va n.view.length a.vc ma mc ms) (e : ms.map MailA.v = ml) (hb : Below c w w') : NPost c ⟨n, ml, miss, 0⟩ w (.returned (outVal a n (.slice ma ms.length mc) miss 0)) w' :=
  ⟨a, _, ms, rfl, own_out h k, e, h.room, hb⟩
theorem wrap_num {n : NodeV} (h : timeR n.num) : IntKind.i64.wrap (n.num + 1) = n.num + 1 := by
  unfold timeR at h
  rw [IntKind.wrap_i64]
  omega
set_option maxHeartbeats 2000000 in
set_option maxRecDepth 100000 in
theorem implMeet_any (a : NodeM) (n : NodeV) (other : Int) (x : NOutV) (w : World) (hx : MeetIs n other x) (hl : NodeLen n 1048576) (hroom : NodeRoom a n) (hrow : NodeRows w a n) :
    Calls Tryz.prog 20 #[nodeVal a n, .int .i64 other] w fun e w' => NPost w.heap.size x w e w' := by
  have HX : Hid (MeetIs n other x) := hx
  clear hx
  obtain ⟨q0, hq0⟩ := tells_bool (n.ok)
  have HQ0 : Hid (q0 = true ↔ n.ok) := hq0
  clear hq0
  obtain ⟨q1, hq1⟩ := tells_bool (otherR other n.id)
  have HQ1 : Hid (q1 = true ↔ otherR other n.id) := hq1
  clear hq1
  obtain ⟨okb, hokb⟩ := tells_bool (n.ok ∧ otherR other n.id)
  have HOK : Hid (okb = true ↔ n.ok ∧ otherR other n.id) := hokb
  clear hokb
  have HNO : Hid (¬ (n.ok ∧ otherR other n.id) → okb = false) := fun h => by
    cases okb with
    | false => rfl
    | true => exact absurd (HOK.out.1 rfl) h

  unfold nodeVal nodeCells
  have p0 := (BlkIs.new w 32 #[.int .i64 n.id, .int .i64 n.inc, .int .i64 n.num, .int .i64 n.seed, .int .i64 n.next, .slice a.va n.view.length a.vc, .slice a.ra n.rum.length a.rc, .slice a.ta n.tl.length a.tc, .int .i64 n.at0, .int .i64 n.pb.node, .int .i64 n.pb.num, .int .i64 n.pb.due, .bool n.pb.asked, .slice a.da n.db.length a.dc]).keep ((Below.refl _ _).alloc (Nat.le_refl _) (.cells #[.int .i64 0, .int .i64 0, .int .i64 0, .int .i64 0, .int .i64 0, .slice none 0 0, .slice none 0 0, .slice none 0 0, .int .i64 0, .int .i64 0, .int .i64 0, .int .i64 0, .bool false, .slice none 0 0, .slice none 0 0, .int .i64 0, .int .i64 0] 37))
  have B := ((Below.refl w.heap.size w).alloc (Nat.le_refl _) (.cells #[.int .i64 n.id, .int .i64 n.inc, .int .i64 n.num, .int .i64 n.seed, .int .i64 n.next, .slice a.va n.view.length a.vc, .slice a.ra n.rum.length a.rc, .slice a.ta n.tl.length a.tc, .int .i64 n.at0, .int .i64 n.pb.node, .int .i64 n.pb.num, .int .i64 n.pb.due, .bool n.pb.asked, .slice a.da n.db.length a.dc] 32)).alloc (by simp) (.cells #[.int .i64 0, .int .i64 0, .int .i64 0, .int .i64 0, .int .i64 0, .slice none 0 0, .slice none 0 0, .slice none 0 0, .int .i64 0, .int .i64 0, .int .i64 0, .int .i64 0, .bool false, .slice none 0 0, .slice none 0 0, .int .i64 0, .int .i64 0] 37)
  have O := BlkIs.new (w.alloc (.cells #[.int .i64 n.id, .int .i64 n.inc, .int .i64 n.num, .int .i64 n.seed, .int .i64 n.next, .slice a.va n.view.length a.vc, .slice a.ra n.rum.length a.rc, .slice a.ta n.tl.length a.tc, .int .i64 n.at0, .int .i64 n.pb.node, .int .i64 n.pb.num, .int .i64 n.pb.due, .bool n.pb.asked, .slice a.da n.db.length a.dc] 32)) 37 #[.int .i64 0, .int .i64 0, .int .i64 0, .int .i64 0, .int .i64 0, .slice none 0 0, .slice none 0 0, .slice none 0 0, .int .i64 0, .int .i64 0, .int .i64 0, .int .i64 0, .bool false, .slice none 0 0, .slice none 0 0, .int .i64 0, .int .i64 0]
  go_enter Tryz.func20, Tryz.ntmps20
  go_upto_region 1 with fail
  rw [World.size_alloc] at O
  obtain ⟨X, hX⟩ : ∃ W, (w.alloc (.cells #[.int .i64 n.id, .int .i64 n.inc, .int .i64 n.num, .int .i64 n.seed, .int .i64 n.next, .slice a.va n.view.length a.vc, .slice a.ra n.rum.length a.rc, .slice a.ta n.tl.length a.tc, .int .i64 n.at0, .int .i64 n.pb.node, .int .i64 n.pb.num, .int .i64 n.pb.due, .bool n.pb.asked, .slice a.da n.db.length a.dc] 32)).alloc (.cells #[.int .i64 0, .int .i64 0, .int .i64 0, .int .i64 0, .int .i64 0, .slice none 0 0, .slice none 0 0, .slice none 0 0, .int .i64 0, .int .i64 0, .int .i64 0, .int .i64 0, .bool false, .slice none 0 0, .slice none 0 0, .int .i64 0, .int .i64 0] 37) = W := ⟨_, rfl⟩
  rw [hX] at p0 O B ⊢
  clear hX
  obtain ⟨kp, hkp⟩ : ∃ k, w.heap.size = k := ⟨_, rfl⟩
  obtain ⟨kr, hkr⟩ : ∃ k, w.heap.size + 1 = k := ⟨_, rfl⟩
  have hpr : kp < kr := by omega
  have hwp : w.heap.size ≤ kp := by omega
  rw [hkp] at p0
  rw [hkr] at O
  rw [hkp]
  rw [show kp + 1 = kr by omega]
  go_upto_region 1 with fail
  go_cut [15] (fun vc wc => vc = .bool (!okb) ∧ Below X.heap.size X wc)
  case first =>
    as_aux_lemma =>
      have bz := Below.refl X.heap.size X
      have d0 : X.cell? ⟨kp, 0, none⟩ = some (.int .i64 n.id) := (p0.keep bz).cell 0
      have d1 : X.cell? ⟨kp, 1, none⟩ = some (.int .i64 n.inc) := (p0.keep bz).cell 1
      have d2 : X.cell? ⟨kp, 2, none⟩ = some (.int .i64 n.num) := (p0.keep bz).cell 2
      have d3 : X.cell? ⟨kp, 3, none⟩ = some (.int .i64 n.seed) := (p0.keep bz).cell 3
      have d4 : X.cell? ⟨kp, 4, none⟩ = some (.int .i64 n.next) := (p0.keep bz).cell 4
      have d5 : X.cell? ⟨kp, 5, none⟩ = some (.slice a.va n.view.length a.vc) := (p0.keep bz).cell 5
      have d6 : X.cell? ⟨kp, 6, none⟩ = some (.slice a.ra n.rum.length a.rc) := (p0.keep bz).cell 6
      have d7 : X.cell? ⟨kp, 7, none⟩ = some (.slice a.ta n.tl.length a.tc) := (p0.keep bz).cell 7
      have d8 : X.cell? ⟨kp, 8, none⟩ = some (.int .i64 n.at0) := (p0.keep bz).cell 8
      have d9 : X.cell? ⟨kp, 9, none⟩ = some (.int .i64 n.pb.node) := (p0.keep bz).cell 9
      have d10 : X.cell? ⟨kp, 10, none⟩ = some (.int .i64 n.pb.num) := (p0.keep bz).cell 10
      have d11 : X.cell? ⟨kp, 11, none⟩ = some (.int .i64 n.pb.due) := (p0.keep bz).cell 11
      have d12 : X.cell? ⟨kp, 12, none⟩ = some (.bool n.pb.asked) := (p0.keep bz).cell 12
      have d13 : X.cell? ⟨kp, 13, none⟩ = some (.slice a.da n.db.length a.dc) := (p0.keep bz).cell 13
      go_wp2_with fail
      refine (implNRight_is a n _ q0 HQ0.out hl hroom (hrow.keep (B.trans (bz.mono B.size)))).mono ?_
      rintro e Z0 ⟨rfl, bx⟩
      replace bz := bz.trans (bx.mono bz.size)
      clear bx d0 d1 d2 d3 d4 d5 d6 d7 d8 d9 d10 d11 d12 d13
      cases q0 with
      | false =>
        obtain rfl : okb = false := HNO.out (fun h => by have := HQ0.out.2 h.1; cases this)
        go_wp2_with fail
        go_meet
        case rel => exact ⟨rfl, bz⟩
      | true =>
      have K0 : Hid (n.ok) := HQ0.out.1 rfl
      clear HQ0
      have d0 : Z0.cell? ⟨kp, 0, none⟩ = some (.int .i64 n.id) := (p0.keep bz).cell 0
      go_wp2_with fail
      refine (iother_is other n.id q1 _ HQ1.out).mono ?_
      rintro e Z1 ⟨rfl, hz⟩
      replace hz := hz.symm
      subst hz
      clear d0
      cases q1 with
      | false =>
        obtain rfl : okb = false := HNO.out (fun h => by have := HQ1.out.2 h.2; cases this)
        go_wp2_with fail
        go_meet
        case rel => exact ⟨rfl, bz⟩
      | true =>
      have K1 : Hid (otherR other n.id) := HQ1.out.1 rfl
      clear HQ1
      obtain rfl : okb = true := HOK.out.2 ⟨K0.out, K1.out⟩
      go_wp2_with fail
      go_meet
      case rel => exact ⟨rfl, bz⟩
  case rest =>
  obtain ⟨rfl, bz⟩ := hcut
  obtain ⟨V, hV⟩ : ∃ y, y = wc := ⟨wc, rfl⟩
  rw [← hV] at bz ⊢
  clear hV
  replace p0 := p0.keep bz
  replace O := O.keep bz
  replace B := B.trans (bz.mono B.size)

  cases okb with
  | false =>
   as_aux_lemma =>
    obtain rfl : x = illN 1 := by
      rcases HX.out with ⟨h, _⟩ | ⟨_, h⟩
      · have := HOK.out.2 h; cases this
      · exact h
    clear HX HOK HNO HQ0 HQ1
    go_wp2_with (refine store_blk O rfl 37 _ _ rfl rfl rfl (by kernel_rfl) rfl (by kernel_rfl) ?_; intro Y P K)
    exact ret_blk P Tryz.results20 rfl _ Tryz.underlying37 (by kernel_rfl) rfl (ill_post 1 _ w Y (B.trans (K.belowNe (by omega) B.size)))
  | true =>
  obtain ⟨hok, hxv⟩ : (n.ok ∧ otherR other n.id) ∧ x = meetM n other := by
    rcases HX.out with h | ⟨h, _⟩
    · exact h
    · exact absurd (HOK.out.1 rfl) h
  subst hxv
  have hwr := wrap_num hok.1.1.2.2.1
  have hv6 : n.view.length ≤ 6 := rightV_len hok.1.1.2.2.2.2.2.1
  clear HX HOK HNO HQ0 HQ1 hok
  have hkV := O.lt
  go_upto_region 4 with (first
    | (refine load_blk p0 rfl 32 _ rfl rfl _ Tryz.underlying32 (by kernel_rfl) ?_)
    | (go_at_call 49; refine (actingOf_any a n 0 _ hl (hrow.keep B)).mono ?_; rintro e Y ⟨b, a2, rfl, H, by1⟩))
  have hbk : kr < b := Nat.lt_of_lt_of_le hkV H.lo
  have hlo2 : w.heap.size ≤ V.heap.size := B.size
  replace O := O.keep by1
  replace B := B.trans (by1.mono B.size)
  replace H : NodeSt 92 Y w.heap.size b a2 n (.int .i64 0) (.slice none 0 0) (.int .i64 0) := ⟨H.blk, Nat.le_trans hlo2 H.lo, ⟨rowLe H.rows.v hlo2, rowLe H.rows.r hlo2, rowLe H.rows.t hlo2, rowLe H.rows.d hlo2⟩⟩
  have HO : BlkIs Y b 92 #[.int .i64 n.id, .int .i64 n.inc, .int .i64 n.num, .int .i64 n.seed, .int .i64 n.next, .slice a2.va n.view.length a2.vc, .slice a2.ra n.rum.length a2.rc, .slice a2.ta n.tl.length a2.tc, .int .i64 n.at0, .int .i64 n.pb.node, .int .i64 n.pb.num, .int .i64 n.pb.due, .bool n.pb.asked, .slice a2.da n.db.length a2.dc, .int .i64 0, .slice none 0 0, .int .i64 0] := H.blk
  have e2 : Y.cell? ⟨b, 2, none⟩ = some (.int .i64 n.num) := HO.cell 2
  clear by1 p0
  go_upto_region 5 with (refine store_cell HO rfl _ _ _ rfl 2 (.int .i64 (n.num + 1)) rfl (by first | rfl | (simp [hwr])) (show 2 < 17 by decide) (by kernel_rfl) rfl ?_; intro U HU ku)
  replace HU : NodeSt 92 U w.heap.size b a2 { n with num := n.num + 1 } (.int .i64 0) (.slice none 0 0) (.int .i64 0) := ⟨HU, H.lo, (fun (h : StRows U w.heap.size a2 n) => (⟨h.v, h.r, h.t, h.d⟩ : StRows U w.heap.size a2 { n with num := n.num + 1 })) (H.rows.keepB HO notEl_act ku)⟩
  have OU := O.keepK ku (by omega)
  have BU := B.trans (ku.belowNe (by have := H.lo; omega) B.size)
  have u2 : U.cell? ⟨b, 2, none⟩ = some (.int .i64 (n.num + 1)) := HU.blk.cell 2
  clear e2 HO H O B ku
  try simp only [Act.put]
  go_upto_region 6 with (go_at_call 64; refine (send4_any w.heap.size b a2 { n with num := n.num + 1 } 0 none 0 [] 0 0 other (n.num + 1) 0 0 _ (by dsimp only; omega) (by simp) BU.size HU (MRows.nil _ _ _ _ _)).mono ?_; rintro e W1 ⟨rfl, ma2, mc2, m, HW, MW, em, kw⟩)
  have OW := OU.keepK kw ⟨by omega, fun e => by cases e⟩
  have BW := BU.trans (kw.toBelow BU.size (fun q hq => ⟨by have := HU.lo; omega, fun e => by cases e⟩))
  clear OU BU HU kw u2
  have MW2 : MRows W1 w.heap.size a2.va n.view.length a2.vc ma2 mc2 [m] := MW
  go_wp2_with (first
    | (go_at_call 54; refine (out_any w.heap.size b a2 { n with num := n.num + 1 } _ ma2 1 mc2 0 _ HW).mono ?_; rintro e V2 ⟨rfl, bv⟩; unfold outVal outCells; have OV := OW.keep bv)
    | (refine store_blk OV rfl 37 _ _ rfl rfl rfl (by kernel_rfl) rfl (by kernel_rfl) ?_; intro U2 P K))
  have RV := HW.rows.keep bv
  have MV := MW2.keep bv
  have BV := BW.trans (bv.mono BW.size)
  refine ret_blk P Tryz.results20 rfl _ Tryz.underlying37 (by kernel_rfl) rfl ?_
  exact out_post (a := a2) (n := { n with num := n.num + 1 }) (ms := [m]) 0 (RV.keepB OV notEl_out K) (MV.keepB OV (by decide) (by decide) K) (by rw [List.map_cons, List.map_nil, em]) (BV.trans (K.belowNe (by omega) BV.size))
end Go.Proofs.YtmdcankfjmkkeaaGreat
