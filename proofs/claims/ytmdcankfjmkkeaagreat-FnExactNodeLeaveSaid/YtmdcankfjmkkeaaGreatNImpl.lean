/- The contracts of the program's NodeRight and WakeAt. -/
import Derived.Test.YtmdcankfjmkkeaaGreatNImplA
namespace Go.Proofs.YtmdcankfjmkkeaaGreat
open Go Go.RowKit
set_option linter.unusedVariables false
set_option linter.unusedSimpArgs false

theorem look_node {l : List FactV} {n : Int} {x : FactV} (h : look l n = some x) : x.node = n := by
  induction l with
  | nil => rw [look_nil] at h; cases h
  | cons y r ih =>
    rw [look_cons] at h
    split at h
    · rename_i e
      obtain rfl := Option.some.inj h
      exact e
    · exact ih h
theorem atF_or (l : List FactV) (n : Int) : (atF l n).node = n ∨ atF l n = factZ := by
  unfold atF
  cases h : look l n with
  | none => exact .inr rfl
  | some x => exact .inl (look_node h)
/-- Its own fact is there. -/
def selfR (n : NodeV) : Prop := nodeR n.id ∧ rightV n.view ∧ n.ownOk
set_option maxHeartbeats 4000000 in
set_option maxRecDepth 100000 in
theorem iself_is (a : NodeM) (n : NodeV) (w : World) (r : Bool) (hr : r = true ↔ selfR n) (hl : NodeLen n 1048576) (hrow : NodeRows w a n) :
    Calls Tryz.prog 85 #[nodeVal a n] w fun e w' => e = .returned (.bool r) ∧ Below w.heap.size w w' := by
  have HR : Hid (r = true ↔ selfR n) := hr
  have HNO : Hid (¬ selfR n → r = false) := fun h => by
    cases r with
    | false => rfl
    | true => exact absurd (HR.out.1 rfl) h
  have hlv := hl.v
  clear hr hl
  unfold nodeVal nodeCells
  have p0 := BlkIs.new w 32 #[.int .i64 n.id, .int .i64 n.inc, .int .i64 n.num, .int .i64 n.seed, .int .i64 n.next, .slice a.va n.view.length a.vc, .slice a.ra n.rum.length a.rc, .slice a.ta n.tl.length a.tc, .int .i64 n.at0, .int .i64 n.pb.node, .int .i64 n.pb.num, .int .i64 n.pb.due, .bool n.pb.asked, .slice a.da n.db.length a.dc]
  have B := (Below.refl w.heap.size w).alloc (Nat.le_refl _) (.cells #[.int .i64 n.id, .int .i64 n.inc, .int .i64 n.num, .int .i64 n.seed, .int .i64 n.next, .slice a.va n.view.length a.vc, .slice a.ra n.rum.length a.rc, .slice a.ta n.tl.length a.tc, .int .i64 n.at0, .int .i64 n.pb.node, .int .i64 n.pb.num, .int .i64 n.pb.due, .bool n.pb.asked, .slice a.da n.db.length a.dc] 32)
  go_enter Tryz.func85, Tryz.ntmps85
  go_upto_region 1 with fail
  obtain ⟨X0, hX⟩ : ∃ W, w.alloc (.cells #[.int .i64 n.id, .int .i64 n.inc, .int .i64 n.num, .int .i64 n.seed, .int .i64 n.next, .slice a.va n.view.length a.vc, .slice a.ra n.rum.length a.rc, .slice a.ta n.tl.length a.tc, .int .i64 n.at0, .int .i64 n.pb.node, .int .i64 n.pb.num, .int .i64 n.pb.due, .bool n.pb.asked, .slice a.da n.db.length a.dc] 32) = W := ⟨_, rfl⟩
  rw [hX] at p0 B ⊢
  clear hX
  have c0 : X0.cell? ⟨w.heap.size, 0, none⟩ = some (.int .i64 n.id) := p0.cell 0
  obtain ⟨q0, hq0⟩ := tells_bool (nodeR n.id)
  have HQ0 : Hid (q0 = true ↔ nodeR n.id) := hq0
  clear hq0
  go_wp2_with fail
  refine (inode_is n.id q0 _ HQ0.out).mono ?_
  rintro e X1 ⟨rfl, hz⟩
  replace hz := hz.symm
  subst hz
  clear c0
  cases q0 with
  | false =>
    have hf : r = false := HNO.out (fun h => by have := HQ0.out.2 h.1; cases this)
    subst hf
    go_wp2
    go_ret
    exact ⟨rfl, B⟩
  | true =>
  have K0 : Hid (nodeR n.id) := HQ0.out.1 rfl
  clear HQ0
  have c5 : X0.cell? ⟨w.heap.size, 5, none⟩ = some (.slice a.va n.view.length a.vc) := p0.cell 5
  obtain ⟨q1, hq1⟩ := tells_bool (rightV n.view)
  have HQ1 : Hid (q1 = true ↔ rightV n.view) := hq1
  clear hq1
  go_wp2_with fail
  refine (implVRight_is a.va a.vc n.view _ q1 HQ1.out hlv (hrow.v.keep B)).mono ?_
  rintro e X2 ⟨rfl, bx⟩
  replace p0 := p0.keep bx
  replace B := B.trans (bx.mono B.size)
  clear bx c5
  cases q1 with
  | false =>
    have hf : r = false := HNO.out (fun h => by have := HQ1.out.2 h.2.1; cases this)
    subst hf
    go_wp2
    go_ret
    exact ⟨rfl, B⟩
  | true =>
  have K1 : Hid (rightV n.view) := HQ1.out.1 rfl
  clear HQ1
  obtain ⟨own, hown⟩ : ∃ f, atF n.view n.id = f := ⟨_, rfl⟩
  have HOWN : Hid (atF n.view n.id = own) := hown
  have HAT : Hid (AtIs n.view n.id own) := .inl ⟨K1.out, hown.symm⟩
  have HOR : Hid (own.node = n.id ∨ own = factZ) := by
    show _ ∨ _
    rw [← hown]; exact atF_or _ _
  have c5 : X2.cell? ⟨w.heap.size, 5, none⟩ = some (.slice a.va n.view.length a.vc) := p0.cell 5
  have c0 : X2.cell? ⟨w.heap.size, 0, none⟩ = some (.int .i64 n.id) := p0.cell 0
  clear hown
  go_wp2_with fail
  refine (implAt_any a.va a.vc n.view n.id own HAT.out _ hlv (hrow.v.keep B)).mono ?_
  rintro e Y ⟨rfl, bx⟩
  replace p0 := p0.keep bx
  replace B := B.trans (bx.mono B.size)
  obtain ⟨o1, o2, o3⟩ := own
  unfold FactV.val
  clear bx c0 c5
  have bA : Below Y.heap.size Y (Y.alloc (.cells #[.int .i64 o1, .int .i64 o2, .int .i64 o3] 54)) := (Below.refl _ _).alloc (Nat.le_refl _) _
  have p1 := BlkIs.new Y 54 #[.int .i64 o1, .int .i64 o2, .int .i64 o3]
  replace p0 := p0.keep bA
  replace B := B.trans (bA.mono B.size)
  obtain ⟨Z, hZ⟩ : ∃ y, Y.alloc (.cells #[.int .i64 o1, .int .i64 o2, .int .i64 o3] 54) = y := ⟨_, rfl⟩
  obtain ⟨kf, hkf⟩ : ∃ k, Y.heap.size = k := ⟨_, rfl⟩
  rw [hZ] at p0 p1 B
  rw [hkf] at p1
  have HZ : Hid (_ = Z) := hZ
  clear bA hZ
  go_upto_region 4 with fail
  rw [HZ.out]
  clear HZ hkf
  have f0 : Z.cell? ⟨kf, 0, none⟩ = some (.int .i64 o1) := p1.cell 0
  have f1 : Z.cell? ⟨kf, 1, none⟩ = some (.int .i64 o2) := p1.cell 1
  have f2 : Z.cell? ⟨kf, 2, none⟩ = some (.int .i64 o3) := p1.cell 2
  have c0 : Z.cell? ⟨w.heap.size, 0, none⟩ = some (.int .i64 n.id) := p0.cell 0
  have c1 : Z.cell? ⟨w.heap.size, 1, none⟩ = some (.int .i64 n.inc) := p0.cell 1
  have HOO : Hid (n.ownOk ↔ o1 = n.id ∧ o2 = n.inc ∧ o3 ≠ 2) := by
    show _ ↔ _
    unfold NodeV.ownOk
    rw [HOWN.out]
    have hid := K0.out
    unfold nodeR at hid
    refine ⟨fun h => ⟨?_, h.2⟩, fun h => ⟨?_, h.2⟩⟩
    · rcases HOR.out with e | e
      · exact e
      · exact absurd (congrArg FactV.node e) h.1
    · have h1 := h.1
      show o1 ≠ 0
      omega
  by_cases s1 : o1 = n.id
  case neg =>
    have hf : r = false := HNO.out (fun h => s1 (HOO.out.1 h.2.2).1)
    subst hf
    have s1b : (o1 == n.id) = false := beq_eq_false_iff_ne.2 s1
    go_wp2
    go_ret
    exact ⟨rfl, B⟩
  have s1b : (o1 == n.id) = true := by simp [s1]
  by_cases s2 : o2 = n.inc
  case neg =>
    have hf : r = false := HNO.out (fun h => s2 (HOO.out.1 h.2.2).2.1)
    subst hf
    have s2b : (o2 == n.inc) = false := beq_eq_false_iff_ne.2 s2
    go_wp2
    go_ret
    exact ⟨rfl, B⟩
  have s2b : (o2 == n.inc) = true := by simp [s2]
  by_cases s3 : o3 = 2
  · have hf : r = false := HNO.out (fun h => (HOO.out.1 h.2.2).2.2 s3)
    subst hf
    subst s3
    go_wp2
    go_ret
    exact ⟨rfl, B⟩
  have s3b : (o3 == 2) = false := beq_eq_false_iff_ne.2 s3
  have ht : r = true := HR.out.2 ⟨K0.out, K1.out, HOO.out.2 ⟨s1, s2, s3⟩⟩
  subst ht
  clear HOO HOWN HR HNO HOR HAT
  go_wp2
  go_ret
  exact ⟨by first | rfl | exact ret_boolE (by simp [s3]), B⟩
/-- Whom it asks is nobody, or another one. -/
def probeR (p : ProbeV) (id : Int) : Prop := p = .z ∨ (otherR p.node id ∧ timeR p.num ∧ timeR p.due)
set_option maxHeartbeats 4000000 in
set_option maxRecDepth 100000 in
theorem iprobe_is (p : ProbeV) (id : Int) (w : World) (r : Bool) (hr : r = true ↔ probeR p id) :
    Calls Tryz.prog 88 #[p.val, .int .i64 id] w fun e w' => e = .returned (.bool r) ∧ Below w.heap.size w w' := by
  obtain ⟨pn, pm, pd, pa⟩ := p
  have HR : Hid (r = true ↔ probeR ⟨pn, pm, pd, pa⟩ id) := hr
  clear hr
  unfold ProbeV.val
  dsimp only
  have p0 := BlkIs.new w 29 #[.int .i64 pn, .int .i64 pm, .int .i64 pd, .bool pa]
  have B := (Below.refl w.heap.size w).alloc (Nat.le_refl _) (.cells #[.int .i64 pn, .int .i64 pm, .int .i64 pd, .bool pa] 29)
  go_enter Tryz.func88, Tryz.ntmps88
  go_upto_region 1 with fail
  obtain ⟨X0, hX⟩ : ∃ W, w.alloc (.cells #[.int .i64 pn, .int .i64 pm, .int .i64 pd, .bool pa] 29) = W := ⟨_, rfl⟩
  rw [hX] at p0 B ⊢
  clear hX
  have g0 : X0.cell? ⟨w.heap.size, 0, none⟩ = some (.int .i64 pn) := p0.cell 0
  have g1 : X0.cell? ⟨w.heap.size, 1, none⟩ = some (.int .i64 pm) := p0.cell 1
  have g2 : X0.cell? ⟨w.heap.size, 2, none⟩ = some (.int .i64 pd) := p0.cell 2
  have g3 : X0.cell? ⟨w.heap.size, 3, none⟩ = some (.bool pa) := p0.cell 3
  by_cases hz : (⟨pn, pm, pd, pa⟩ : ProbeV) = .z
  · have hok : r = true := HR.out.2 (.inl hz)
    subst hok
    unfold ProbeV.z at hz
    injection hz with h1 h2 h3 h4
    subst h1 h2 h3 h4
    clear HR
    go_wp2
    go_ret
    exact ⟨rfl, B⟩
  have hz2 : ¬ (pn = 0 ∧ pm = 0 ∧ pd = 0 ∧ pa = false) := fun h => hz (by obtain ⟨rfl, rfl, rfl, rfl⟩ := h; rfl)
  have HPR : Hid (r = true ↔ otherR pn id ∧ timeR pm ∧ timeR pd) := by
    show _ ↔ _
    refine HR.out.trans ⟨fun h => ?_, fun h => .inr h⟩
    rcases h with h | h
    · exact absurd h hz
    · exact h
  have HNP : Hid (¬ (otherR pn id ∧ timeR pm ∧ timeR pd) → r = false) := fun h => by
    cases r with
    | false => rfl
    | true => exact absurd (HPR.out.1 rfl) h
  clear hz HR
  by_cases e0 : pn = 0
  · subst e0
    have hn0 : ¬ otherR 0 id := fun h => by have := h.1; unfold nodeR at this; omega
    have hf : r = false := HNP.out (fun h => hn0 h.1)
    subst hf
    have HN0 : Hid (false = true ↔ otherR 0 id) := ⟨fun h => (by cases h), fun h => absurd h hn0⟩
    clear hn0 HPR HNP
    go_wp2_with fail
    all_goals first
      | (refine absurd ?_ hz2; refine ⟨rfl, ?_, ?_, ?_⟩ <;> assumption)
      | (refine absurd ?_ hz2; simp [*]; done)
      | (refine (iother_is 0 id false _ HN0.out).mono ?_
         rintro e Y0 ⟨rfl, hzz⟩
         replace hzz := hzz.symm
         subst hzz
         go_wp2
         go_ret
         exact ⟨rfl, B⟩)
  have e0b : (pn == 0) = false := beq_eq_false_iff_ne.2 e0
  obtain ⟨q20, hq20⟩ := tells_bool (otherR pn id)
  have HQ20 : Hid (q20 = true ↔ otherR pn id) := hq20
  clear hq20
  go_wp2_with fail
  refine (iother_is pn id q20 _ HQ20.out).mono ?_
  rintro e Y20 ⟨rfl, hzz⟩
  replace hzz := hzz.symm
  subst hzz
  cases q20 with
  | false =>
    have hf : r = false := HNP.out (fun h => by have := HQ20.out.2 h.1; cases this)
    subst hf
    go_wp2
    go_ret
    exact ⟨rfl, B⟩
  | true =>
  have L20 : Hid (otherR pn id) := HQ20.out.1 rfl
  clear HQ20
  obtain ⟨q21, hq21⟩ := tells_bool (timeR pm)
  have HQ21 : Hid (q21 = true ↔ timeR pm) := hq21
  clear hq21
  go_wp2_with fail
  refine (itime_is pm q21 _ HQ21.out).mono ?_
  rintro e Y21 ⟨rfl, hzz⟩
  replace hzz := hzz.symm
  subst hzz
  cases q21 with
  | false =>
    have hf : r = false := HNP.out (fun h => by have := HQ21.out.2 h.2.1; cases this)
    subst hf
    go_wp2
    go_ret
    exact ⟨rfl, B⟩
  | true =>
  have L21 : Hid (timeR pm) := HQ21.out.1 rfl
  clear HQ21
  obtain ⟨q22, hq22⟩ := tells_bool (timeR pd)
  have HQ22 : Hid (q22 = true ↔ timeR pd) := hq22
  clear hq22
  go_wp2_with fail
  refine (itime_is pd q22 _ HQ22.out).mono ?_
  rintro e Y22 ⟨rfl, hzz⟩
  replace hzz := hzz.symm
  subst hzz
  cases q22 with
  | false =>
    have hf : r = false := HNP.out (fun h => by have := HQ22.out.2 h.2.2; cases this)
    subst hf
    go_wp2
    go_ret
    exact ⟨rfl, B⟩
  | true =>
  have L22 : Hid (timeR pd) := HQ22.out.1 rfl
  clear HQ22
  have hok : r = true := HPR.out.2 ⟨L20.out, L21.out, L22.out⟩
  subst hok
  go_wp2
  go_ret
  exact ⟨rfl, B⟩
set_option maxHeartbeats 4000000 in
set_option maxRecDepth 100000 in
theorem implNRight_is (a : NodeM) (n : NodeV) (w : World) (r : Bool) (hr : r = true ↔ n.ok) (hl : NodeLen n 1048576) (hroom : NodeRoom a n) (hrow : NodeRows w a n) :
    Calls Tryz.prog 27 #[nodeVal a n] w fun e w' => e = .returned (.bool r) ∧ Below w.heap.size w w' := by
  have HR : Hid (r = true ↔ n.ok) := hr
  have HNO : Hid (¬ n.ok → r = false) := fun h => by
    cases r with
    | false => rfl
    | true => exact absurd (HR.out.1 rfl) h
  have hlr := hl.r
  have hlt := hl.t
  have hld := hl.d
  have hrt := hroom.t
  clear hr hroom
  unfold nodeVal nodeCells
  have p0 := BlkIs.new w 32 #[.int .i64 n.id, .int .i64 n.inc, .int .i64 n.num, .int .i64 n.seed, .int .i64 n.next, .slice a.va n.view.length a.vc, .slice a.ra n.rum.length a.rc, .slice a.ta n.tl.length a.tc, .int .i64 n.at0, .int .i64 n.pb.node, .int .i64 n.pb.num, .int .i64 n.pb.due, .bool n.pb.asked, .slice a.da n.db.length a.dc]
  have B := (Below.refl w.heap.size w).alloc (Nat.le_refl _) (.cells #[.int .i64 n.id, .int .i64 n.inc, .int .i64 n.num, .int .i64 n.seed, .int .i64 n.next, .slice a.va n.view.length a.vc, .slice a.ra n.rum.length a.rc, .slice a.ta n.tl.length a.tc, .int .i64 n.at0, .int .i64 n.pb.node, .int .i64 n.pb.num, .int .i64 n.pb.due, .bool n.pb.asked, .slice a.da n.db.length a.dc] 32)
  go_enter Tryz.func27, Tryz.ntmps27
  go_upto_region 1 with fail
  obtain ⟨X0, hX⟩ : ∃ W, w.alloc (.cells #[.int .i64 n.id, .int .i64 n.inc, .int .i64 n.num, .int .i64 n.seed, .int .i64 n.next, .slice a.va n.view.length a.vc, .slice a.ra n.rum.length a.rc, .slice a.ta n.tl.length a.tc, .int .i64 n.at0, .int .i64 n.pb.node, .int .i64 n.pb.num, .int .i64 n.pb.due, .bool n.pb.asked, .slice a.da n.db.length a.dc] 32) = W := ⟨_, rfl⟩
  rw [hX] at p0 B ⊢
  clear hX
  have c1 : X0.cell? ⟨w.heap.size, 1, none⟩ = some (.int .i64 n.inc) := p0.cell 1
  obtain ⟨q0, hq0⟩ := tells_bool (timeR n.inc)
  have HQ0 : Hid (q0 = true ↔ timeR n.inc) := hq0
  clear hq0
  go_wp2_with fail
  refine (itime_is n.inc q0 _ HQ0.out).mono ?_
  rintro e X1 ⟨rfl, hz⟩
  replace hz := hz.symm
  subst hz
  clear c1
  cases q0 with
  | false =>
    have hf : r = false := HNO.out (fun h => by have := HQ0.out.2 h.1.2.1; cases this)
    subst hf
    go_wp2
    go_ret
    exact ⟨rfl, B⟩
  | true =>
  have K0 : Hid (timeR n.inc) := HQ0.out.1 rfl
  clear HQ0
  have c2 : X0.cell? ⟨w.heap.size, 2, none⟩ = some (.int .i64 n.num) := p0.cell 2
  obtain ⟨q1, hq1⟩ := tells_bool (timeR n.num)
  have HQ1 : Hid (q1 = true ↔ timeR n.num) := hq1
  clear hq1
  go_wp2_with fail
  refine (itime_is n.num q1 _ HQ1.out).mono ?_
  rintro e X2 ⟨rfl, hz⟩
  replace hz := hz.symm
  subst hz
  clear c2
  cases q1 with
  | false =>
    have hf : r = false := HNO.out (fun h => by have := HQ1.out.2 h.1.2.2.1; cases this)
    subst hf
    go_wp2
    go_ret
    exact ⟨rfl, B⟩
  | true =>
  have K1 : Hid (timeR n.num) := HQ1.out.1 rfl
  clear HQ1
  have c4 : X0.cell? ⟨w.heap.size, 4, none⟩ = some (.int .i64 n.next) := p0.cell 4
  obtain ⟨q2, hq2⟩ := tells_bool (timeR n.next)
  have HQ2 : Hid (q2 = true ↔ timeR n.next) := hq2
  clear hq2
  go_wp2_with fail
  refine (itime_is n.next q2 _ HQ2.out).mono ?_
  rintro e X3 ⟨rfl, hz⟩
  replace hz := hz.symm
  subst hz
  clear c4
  cases q2 with
  | false =>
    have hf : r = false := HNO.out (fun h => by have := HQ2.out.2 h.1.2.2.2.1; cases this)
    subst hf
    go_wp2
    go_ret
    exact ⟨rfl, B⟩
  | true =>
  have K2 : Hid (timeR n.next) := HQ2.out.1 rfl
  clear HQ2
  have c3 : X0.cell? ⟨w.heap.size, 3, none⟩ = some (.int .i64 n.seed) := p0.cell 3
  obtain ⟨q3, hq3⟩ := tells_bool (seedR n.seed)
  have HQ3 : Hid (q3 = true ↔ seedR n.seed) := hq3
  clear hq3
  go_wp2_with fail
  refine (iseed_is n.seed q3 _ HQ3.out).mono ?_
  rintro e X4 ⟨rfl, hz⟩
  replace hz := hz.symm
  subst hz
  clear c3
  cases q3 with
  | false =>
    have hf : r = false := HNO.out (fun h => by have := HQ3.out.2 h.1.2.2.2.2.1; cases this)
    subst hf
    go_wp2
    go_ret
    exact ⟨rfl, B⟩
  | true =>
  have K3 : Hid (seedR n.seed) := HQ3.out.1 rfl
  clear HQ3
  have c0 : X0.cell? ⟨w.heap.size, 0, none⟩ = some (.int .i64 n.id) := p0.cell 0
  have c1 : X0.cell? ⟨w.heap.size, 1, none⟩ = some (.int .i64 n.inc) := p0.cell 1
  have c2 : X0.cell? ⟨w.heap.size, 2, none⟩ = some (.int .i64 n.num) := p0.cell 2
  have c3 : X0.cell? ⟨w.heap.size, 3, none⟩ = some (.int .i64 n.seed) := p0.cell 3
  have c4 : X0.cell? ⟨w.heap.size, 4, none⟩ = some (.int .i64 n.next) := p0.cell 4
  have c5 : X0.cell? ⟨w.heap.size, 5, none⟩ = some (.slice a.va n.view.length a.vc) := p0.cell 5
  have c6 : X0.cell? ⟨w.heap.size, 6, none⟩ = some (.slice a.ra n.rum.length a.rc) := p0.cell 6
  have c7 : X0.cell? ⟨w.heap.size, 7, none⟩ = some (.slice a.ta n.tl.length a.tc) := p0.cell 7
  have c8 : X0.cell? ⟨w.heap.size, 8, none⟩ = some (.int .i64 n.at0) := p0.cell 8
  have c9 : X0.cell? ⟨w.heap.size, 9, none⟩ = some (.int .i64 n.pb.node) := p0.cell 9
  have c10 : X0.cell? ⟨w.heap.size, 10, none⟩ = some (.int .i64 n.pb.num) := p0.cell 10
  have c11 : X0.cell? ⟨w.heap.size, 11, none⟩ = some (.int .i64 n.pb.due) := p0.cell 11
  have c12 : X0.cell? ⟨w.heap.size, 12, none⟩ = some (.bool n.pb.asked) := p0.cell 12
  have c13 : X0.cell? ⟨w.heap.size, 13, none⟩ = some (.slice a.da n.db.length a.dc) := p0.cell 13
  obtain ⟨q4, hq4⟩ := tells_bool (selfR n)
  have HQ4 : Hid (q4 = true ↔ selfR n) := hq4
  clear hq4
  go_wp2_with fail
  refine (iself_is a n _ q4 HQ4.out hl (hrow.keep B)).mono ?_
  rintro e X5 ⟨rfl, bx⟩
  replace p0 := p0.keep bx
  replace B := B.trans (bx.mono B.size)
  clear bx c0 c1 c2 c3 c4 c5 c6 c7 c8 c9 c10 c11 c12 c13
  cases q4 with
  | false =>
    have hf : r = false := HNO.out (fun h => by have := HQ4.out.2 ⟨h.1.1, h.1.2.2.2.2.2.1, h.2.1⟩; cases this)
    subst hf
    go_wp2
    go_ret
    exact ⟨rfl, B⟩
  | true =>
  have K4 : Hid (selfR n) := HQ4.out.1 rfl
  clear HQ4
  have c6 : X5.cell? ⟨w.heap.size, 6, none⟩ = some (.slice a.ra n.rum.length a.rc) := p0.cell 6
  obtain ⟨q5, hq5⟩ := tells_bool (rightR n.rum)
  have HQ5 : Hid (q5 = true ↔ rightR n.rum) := hq5
  clear hq5
  go_wp2_with fail
  refine (implRRight_is a.ra a.rc n.rum _ q5 HQ5.out hlr (hrow.r.keep B)).mono ?_
  rintro e X6 ⟨rfl, bx⟩
  replace p0 := p0.keep bx
  replace B := B.trans (bx.mono B.size)
  clear bx c6
  cases q5 with
  | false =>
    have hf : r = false := HNO.out (fun h => by have := HQ5.out.2 h.1.2.2.2.2.2.2.1; cases this)
    subst hf
    go_wp2
    go_ret
    exact ⟨rfl, B⟩
  | true =>
  have K5 : Hid (rightR n.rum) := HQ5.out.1 rfl
  clear HQ5
  have c7 : X6.cell? ⟨w.heap.size, 7, none⟩ = some (.slice a.ta n.tl.length a.tc) := p0.cell 7
  have c8 : X6.cell? ⟨w.heap.size, 8, none⟩ = some (.int .i64 n.at0) := p0.cell 8
  obtain ⟨q6, hq6⟩ := tells_bool (TurnV.ok ⟨n.tl, n.at0⟩)
  have HQ6 : Hid (q6 = true ↔ TurnV.ok ⟨n.tl, n.at0⟩) := hq6
  clear hq6
  go_wp2_with fail
  refine (implTRight_is a.ta a.tc ⟨n.tl, n.at0⟩ _ q6 HQ6.out hlt hrt (hrow.t.keep B)).mono ?_
  rintro e X7 ⟨rfl, bx⟩
  replace p0 := p0.keep bx
  replace B := B.trans (bx.mono B.size)
  clear bx c7 c8
  cases q6 with
  | false =>
    have hf : r = false := HNO.out (fun h => by have := HQ6.out.2 h.1.2.2.2.2.2.2.2.1; cases this)
    subst hf
    go_wp2
    go_ret
    exact ⟨rfl, B⟩
  | true =>
  have K6 : Hid (TurnV.ok ⟨n.tl, n.at0⟩) := HQ6.out.1 rfl
  clear HQ6
  have c9 : X7.cell? ⟨w.heap.size, 9, none⟩ = some (.int .i64 n.pb.node) := p0.cell 9
  have c10 : X7.cell? ⟨w.heap.size, 10, none⟩ = some (.int .i64 n.pb.num) := p0.cell 10
  have c11 : X7.cell? ⟨w.heap.size, 11, none⟩ = some (.int .i64 n.pb.due) := p0.cell 11
  have c12 : X7.cell? ⟨w.heap.size, 12, none⟩ = some (.bool n.pb.asked) := p0.cell 12
  have c0 : X7.cell? ⟨w.heap.size, 0, none⟩ = some (.int .i64 n.id) := p0.cell 0
  obtain ⟨q7, hq7⟩ := tells_bool (probeR n.pb n.id)
  have HQ7 : Hid (q7 = true ↔ probeR n.pb n.id) := hq7
  clear hq7
  go_wp2_with fail
  refine (iprobe_is n.pb n.id _ q7 HQ7.out).mono ?_
  rintro e X8 ⟨rfl, bx⟩
  replace p0 := p0.keep bx
  replace B := B.trans (bx.mono B.size)
  clear bx c9 c10 c11 c12 c0
  cases q7 with
  | false =>
    have hf : r = false := HNO.out (fun h => by have := HQ7.out.2 (h.2.2.imp id fun h => ⟨⟨h.1, h.2.1⟩, h.2.2⟩); cases this)
    subst hf
    go_wp2
    go_ret
    exact ⟨rfl, B⟩
  | true =>
  have K7 : Hid (probeR n.pb n.id) := HQ7.out.1 rfl
  clear HQ7
  have c13 : X8.cell? ⟨w.heap.size, 13, none⟩ = some (.slice a.da n.db.length a.dc) := p0.cell 13
  have c0 : X8.cell? ⟨w.heap.size, 0, none⟩ = some (.int .i64 n.id) := p0.cell 0
  obtain ⟨q8, hq8⟩ := tells_bool (doubtsR n.db n.id)
  have HQ8 : Hid (q8 = true ↔ doubtsR n.db n.id) := hq8
  clear hq8
  go_wp2_with fail
  refine (implDoubts_is a.da a.dc n.db n.id _ q8 HQ8.out hld (hrow.d.keep B)).mono ?_
  rintro e X9 ⟨rfl, bx⟩
  replace p0 := p0.keep bx
  replace B := B.trans (bx.mono B.size)
  clear bx c13 c0
  cases q8 with
  | false =>
    have hf : r = false := HNO.out (fun h => by have := HQ8.out.2 h.1.2.2.2.2.2.2.2.2; cases this)
    subst hf
    go_wp2
    go_ret
    exact ⟨rfl, B⟩
  | true =>
  have K8 : Hid (doubtsR n.db n.id) := HQ8.out.1 rfl
  clear HQ8
  have ht : r = true := HR.out.2 ⟨⟨K4.out.1, K0.out, K1.out, K2.out, K3.out, K4.out.2.1, K5.out, K6.out, K8.out⟩, K4.out.2.2, K7.out.imp id fun h => ⟨h.1.1, h.1.2, h.2⟩⟩
  subst ht
  clear HR HNO K0 K1 K2 K3 K4 K5 K6 K7 K8
  go_wp2
  go_ret
  exact ⟨rfl, B⟩
set_option maxHeartbeats 4000000 in
set_option maxRecDepth 100000 in
theorem implWakeAt_any (a : NodeM) (n : NodeV) (v : Int) (w : World) (hv : WakeIs n v) (hl : NodeLen n 1048576) (hroom : NodeRoom a n) (hrow : NodeRows w a n) :
    Calls Tryz.prog 25 #[nodeVal a n] w fun e w' => e = .returned (.int .i64 v) ∧ Below w.heap.size w w' := by
  have HV : Hid (WakeIs n v) := hv
  obtain ⟨q, hq⟩ := tells_bool n.ok
  have HQ : Hid (q = true ↔ n.ok) := hq
  clear hv hq
  have hld := hl.d
  unfold nodeVal nodeCells
  have p0 := BlkIs.new w 32 #[.int .i64 n.id, .int .i64 n.inc, .int .i64 n.num, .int .i64 n.seed, .int .i64 n.next, .slice a.va n.view.length a.vc, .slice a.ra n.rum.length a.rc, .slice a.ta n.tl.length a.tc, .int .i64 n.at0, .int .i64 n.pb.node, .int .i64 n.pb.num, .int .i64 n.pb.due, .bool n.pb.asked, .slice a.da n.db.length a.dc]
  have B := (Below.refl w.heap.size w).alloc (Nat.le_refl _) (.cells #[.int .i64 n.id, .int .i64 n.inc, .int .i64 n.num, .int .i64 n.seed, .int .i64 n.next, .slice a.va n.view.length a.vc, .slice a.ra n.rum.length a.rc, .slice a.ta n.tl.length a.tc, .int .i64 n.at0, .int .i64 n.pb.node, .int .i64 n.pb.num, .int .i64 n.pb.due, .bool n.pb.asked, .slice a.da n.db.length a.dc] 32)
  go_enter Tryz.func25, Tryz.ntmps25
  go_upto_region 1 with fail
  obtain ⟨X0, hX⟩ : ∃ W, w.alloc (.cells #[.int .i64 n.id, .int .i64 n.inc, .int .i64 n.num, .int .i64 n.seed, .int .i64 n.next, .slice a.va n.view.length a.vc, .slice a.ra n.rum.length a.rc, .slice a.ta n.tl.length a.tc, .int .i64 n.at0, .int .i64 n.pb.node, .int .i64 n.pb.num, .int .i64 n.pb.due, .bool n.pb.asked, .slice a.da n.db.length a.dc] 32) = W := ⟨_, rfl⟩
  rw [hX] at p0 B ⊢
  clear hX
  have c0 : X0.cell? ⟨w.heap.size, 0, none⟩ = some (.int .i64 n.id) := p0.cell 0
  have c1 : X0.cell? ⟨w.heap.size, 1, none⟩ = some (.int .i64 n.inc) := p0.cell 1
  have c2 : X0.cell? ⟨w.heap.size, 2, none⟩ = some (.int .i64 n.num) := p0.cell 2
  have c3 : X0.cell? ⟨w.heap.size, 3, none⟩ = some (.int .i64 n.seed) := p0.cell 3
  have c4 : X0.cell? ⟨w.heap.size, 4, none⟩ = some (.int .i64 n.next) := p0.cell 4
  have c5 : X0.cell? ⟨w.heap.size, 5, none⟩ = some (.slice a.va n.view.length a.vc) := p0.cell 5
  have c6 : X0.cell? ⟨w.heap.size, 6, none⟩ = some (.slice a.ra n.rum.length a.rc) := p0.cell 6
  have c7 : X0.cell? ⟨w.heap.size, 7, none⟩ = some (.slice a.ta n.tl.length a.tc) := p0.cell 7
  have c8 : X0.cell? ⟨w.heap.size, 8, none⟩ = some (.int .i64 n.at0) := p0.cell 8
  have c9 : X0.cell? ⟨w.heap.size, 9, none⟩ = some (.int .i64 n.pb.node) := p0.cell 9
  have c10 : X0.cell? ⟨w.heap.size, 10, none⟩ = some (.int .i64 n.pb.num) := p0.cell 10
  have c11 : X0.cell? ⟨w.heap.size, 11, none⟩ = some (.int .i64 n.pb.due) := p0.cell 11
  have c12 : X0.cell? ⟨w.heap.size, 12, none⟩ = some (.bool n.pb.asked) := p0.cell 12
  have c13 : X0.cell? ⟨w.heap.size, 13, none⟩ = some (.slice a.da n.db.length a.dc) := p0.cell 13
  go_wp2_with fail
  refine (implNRight_is a n _ q HQ.out hl hroom (hrow.keep B)).mono ?_
  rintro e X ⟨rfl, bx⟩
  replace p0 := p0.keep bx
  replace B := B.trans (bx.mono B.size)
  clear bx c0 c1 c2 c3 c4 c5 c6 c7 c8 c9 c10 c11 c12 c13
  cases q with
  | false =>
    have hf : v = -1 := by
      rcases HV.out with ⟨h, _⟩ | ⟨_, h⟩
      · have := HQ.out.2 h; cases this
      · exact h
    subst hf
    go_wp2
    go_ret
    exact ⟨rfl, B⟩
  | true =>
  have hvw : v = n.wakeAt := by
    rcases HV.out with ⟨_, h⟩ | ⟨h, _⟩
    · exact h
    · exact absurd (HQ.out.1 rfl) h
  have HVW : Hid (v = n.wakeAt) := hvw
  have HPN : Hid (n.pb.node = 0 ∨ 0 < n.pb.node) := by
    rcases (HQ.out.1 rfl).2.2 with h | h
    · left; rw [h]; rfl
    · right; have := h.1; unfold nodeR at this; omega
  clear hvw HV HQ hl hroom
  have c4 : X.cell? ⟨w.heap.size, 4, none⟩ = some (.int .i64 n.next) := p0.cell 4
  have c9 : X.cell? ⟨w.heap.size, 9, none⟩ = some (.int .i64 n.pb.node) := p0.cell 9
  have c11 : X.cell? ⟨w.heap.size, 11, none⟩ = some (.int .i64 n.pb.due) := p0.cell 11
  have c13 : X.cell? ⟨w.heap.size, 13, none⟩ = some (.slice a.da n.db.length a.dc) := p0.cell 13
  obtain ⟨fi, hfi⟩ : ∃ f, n.first = f := ⟨_, rfl⟩
  have HF : Hid (n.first = fi) := hfi
  unfold NodeV.first at hfi
  by_cases h1 : 0 < n.pb.node
  · have h1b : (n.pb.node == 0) = false := beq_eq_false_iff_ne.2 (by omega)
    have h1c : n.pb.node ≠ 0 := by omega
    by_cases h2 : n.pb.due < n.next
    · rw [if_pos ⟨h1, h2⟩] at hfi
      subst hfi
      go_wp2
      go_loopw [23, 3] (fun i t wr => ∃ k : Nat, k ≤ n.db.length ∧ i = .int .i64 k ∧ t = .int .i64 (minD (n.pb.due) (n.db.take k)) ∧ Below w.heap.size w wr) (fun i _ _ => n.db.length - (intOf i).toNat)
      case atStart => exact ⟨0, Nat.zero_le _, rfl, rfl, B⟩
      case round =>
        obtain ⟨k, hk, rfl, rfl, hb⟩ := hrel
        by_cases hx : k < n.db.length
        · have hrd := hrow.d.keep hb
          obtain ⟨b, off, hda⟩ := hrd.addr (by rw [cellsOf_length FactV.cells_len]; omega)
          rw [hda] at hrd ⊢
          obtain ⟨x, hlx⟩ : ∃ x, n.db[k] = x := ⟨_, rfl⟩
          have d0 := hrd.fact hx hlx
          have HST := minD_step (n.pb.due) hx
          rw [hlx] at HST
          obtain ⟨x1, x2, x3⟩ := x
          obtain ⟨m, hm⟩ : ∃ m, minD (n.pb.due) (n.db.take k) = m := ⟨_, rfl⟩
          rw [hm] at HST ⊢
          have HS : Hid (minD (n.pb.due) (n.db.take (k + 1)) = if x3 < m then x3 else m) := HST
          obtain ⟨_, s0, s1, s2⟩ := d0
          dsimp only at s0 s1 s2
          have hkI : (k : Int) < (n.db.length : Int) := by omega
          clear hlx HST hm hda hrd
          have bA : Below wr.heap.size wr (wr.alloc (.cells #[.int .i64 x1, .int .i64 x2, .int .i64 x3] 112)) := (Below.refl _ _).alloc (Nat.le_refl _) _
          have P := BlkIs.new wr 112 #[.int .i64 x1, .int .i64 x2, .int .i64 x3]
          replace hb := hb.trans (bA.mono hb.size)
          obtain ⟨Z, hZ⟩ : ∃ y, wr.alloc (.cells #[.int .i64 x1, .int .i64 x2, .int .i64 x3] 112) = y := ⟨_, rfl⟩
          obtain ⟨kb, hkb⟩ : ∃ k, wr.heap.size = k := ⟨_, rfl⟩
          rw [hZ] at P hb
          rw [hkb] at P
          have HZ : Hid (_ = Z) := hZ
          clear bA hZ
          go_upto_region 9 with fail
          rw [HZ.out]
          clear HZ hkb s0 s1 s2
          have f2 : Z.cell? ⟨kb, 2, none⟩ = some (.int .i64 x3) := P.cell 2
          by_cases hlt : x3 < m
          · rw [if_pos hlt] at HS
            go_wp2
            go_roundw
            case rel => exact ⟨k + 1, by omega, by go_num, by rw [HS.out], hb⟩
            case measure => simp [intOf]; omega
          · rw [if_neg hlt] at HS
            go_wp2
            go_roundw
            case rel => exact ⟨k + 1, by omega, by go_num, by rw [HS.out], hb⟩
            case measure => simp [intOf]; omega
        · obtain rfl : k = n.db.length := by omega
          rw [List.take_length]
          obtain ⟨m, hm⟩ : ∃ m, minD (n.pb.due) n.db = m := ⟨_, rfl⟩
          rw [hm]
          have HM : Hid (v = m) := by show v = m; rw [HVW.out, ← hm]; unfold NodeV.wakeAt; rw [HF.out]
          clear hm
          go_wp2
          go_ret
          exact ⟨by rw [HM.out]; rfl, hb⟩
    · rw [if_neg (fun h => h2 h.2)] at hfi
      subst hfi
      go_wp2
      go_loopw [23, 3] (fun i t wr => ∃ k : Nat, k ≤ n.db.length ∧ i = .int .i64 k ∧ t = .int .i64 (minD (n.next) (n.db.take k)) ∧ Below w.heap.size w wr) (fun i _ _ => n.db.length - (intOf i).toNat)
      case atStart => exact ⟨0, Nat.zero_le _, rfl, rfl, B⟩
      case round =>
        obtain ⟨k, hk, rfl, rfl, hb⟩ := hrel
        by_cases hx : k < n.db.length
        · have hrd := hrow.d.keep hb
          obtain ⟨b, off, hda⟩ := hrd.addr (by rw [cellsOf_length FactV.cells_len]; omega)
          rw [hda] at hrd ⊢
          obtain ⟨x, hlx⟩ : ∃ x, n.db[k] = x := ⟨_, rfl⟩
          have d0 := hrd.fact hx hlx
          have HST := minD_step (n.next) hx
          rw [hlx] at HST
          obtain ⟨x1, x2, x3⟩ := x
          obtain ⟨m, hm⟩ : ∃ m, minD (n.next) (n.db.take k) = m := ⟨_, rfl⟩
          rw [hm] at HST ⊢
          have HS : Hid (minD (n.next) (n.db.take (k + 1)) = if x3 < m then x3 else m) := HST
          obtain ⟨_, s0, s1, s2⟩ := d0
          dsimp only at s0 s1 s2
          have hkI : (k : Int) < (n.db.length : Int) := by omega
          clear hlx HST hm hda hrd
          have bA : Below wr.heap.size wr (wr.alloc (.cells #[.int .i64 x1, .int .i64 x2, .int .i64 x3] 112)) := (Below.refl _ _).alloc (Nat.le_refl _) _
          have P := BlkIs.new wr 112 #[.int .i64 x1, .int .i64 x2, .int .i64 x3]
          replace hb := hb.trans (bA.mono hb.size)
          obtain ⟨Z, hZ⟩ : ∃ y, wr.alloc (.cells #[.int .i64 x1, .int .i64 x2, .int .i64 x3] 112) = y := ⟨_, rfl⟩
          obtain ⟨kb, hkb⟩ : ∃ k, wr.heap.size = k := ⟨_, rfl⟩
          rw [hZ] at P hb
          rw [hkb] at P
          have HZ : Hid (_ = Z) := hZ
          clear bA hZ
          go_upto_region 9 with fail
          rw [HZ.out]
          clear HZ hkb s0 s1 s2
          have f2 : Z.cell? ⟨kb, 2, none⟩ = some (.int .i64 x3) := P.cell 2
          by_cases hlt : x3 < m
          · rw [if_pos hlt] at HS
            go_wp2
            go_roundw
            case rel => exact ⟨k + 1, by omega, by go_num, by rw [HS.out], hb⟩
            case measure => simp [intOf]; omega
          · rw [if_neg hlt] at HS
            go_wp2
            go_roundw
            case rel => exact ⟨k + 1, by omega, by go_num, by rw [HS.out], hb⟩
            case measure => simp [intOf]; omega
        · obtain rfl : k = n.db.length := by omega
          rw [List.take_length]
          obtain ⟨m, hm⟩ : ∃ m, minD (n.next) n.db = m := ⟨_, rfl⟩
          rw [hm]
          have HM : Hid (v = m) := by show v = m; rw [HVW.out, ← hm]; unfold NodeV.wakeAt; rw [HF.out]
          clear hm
          go_wp2
          go_ret
          exact ⟨by rw [HM.out]; rfl, hb⟩
  · have h1c : n.pb.node = 0 := by
      rcases HPN.out with h | h
      · exact h
      · exact absurd h h1
    rw [if_neg (fun h => h1 h.1)] at hfi
    subst hfi
    rw [h1c] at c9
    go_wp2
    go_loopw [23, 3] (fun i t wr => ∃ k : Nat, k ≤ n.db.length ∧ i = .int .i64 k ∧ t = .int .i64 (minD (n.next) (n.db.take k)) ∧ Below w.heap.size w wr) (fun i _ _ => n.db.length - (intOf i).toNat)
    case atStart => exact ⟨0, Nat.zero_le _, rfl, rfl, B⟩
    case round =>
      obtain ⟨k, hk, rfl, rfl, hb⟩ := hrel
      by_cases hx : k < n.db.length
      · have hrd := hrow.d.keep hb
        obtain ⟨b, off, hda⟩ := hrd.addr (by rw [cellsOf_length FactV.cells_len]; omega)
        rw [hda] at hrd ⊢
        obtain ⟨x, hlx⟩ : ∃ x, n.db[k] = x := ⟨_, rfl⟩
        have d0 := hrd.fact hx hlx
        have HST := minD_step (n.next) hx
        rw [hlx] at HST
        obtain ⟨x1, x2, x3⟩ := x
        obtain ⟨m, hm⟩ : ∃ m, minD (n.next) (n.db.take k) = m := ⟨_, rfl⟩
        rw [hm] at HST ⊢
        have HS : Hid (minD (n.next) (n.db.take (k + 1)) = if x3 < m then x3 else m) := HST
        obtain ⟨_, s0, s1, s2⟩ := d0
        dsimp only at s0 s1 s2
        have hkI : (k : Int) < (n.db.length : Int) := by omega
        clear hlx HST hm hda hrd
        have bA : Below wr.heap.size wr (wr.alloc (.cells #[.int .i64 x1, .int .i64 x2, .int .i64 x3] 112)) := (Below.refl _ _).alloc (Nat.le_refl _) _
        have P := BlkIs.new wr 112 #[.int .i64 x1, .int .i64 x2, .int .i64 x3]
        replace hb := hb.trans (bA.mono hb.size)
        obtain ⟨Z, hZ⟩ : ∃ y, wr.alloc (.cells #[.int .i64 x1, .int .i64 x2, .int .i64 x3] 112) = y := ⟨_, rfl⟩
        obtain ⟨kb, hkb⟩ : ∃ k, wr.heap.size = k := ⟨_, rfl⟩
        rw [hZ] at P hb
        rw [hkb] at P
        have HZ : Hid (_ = Z) := hZ
        clear bA hZ
        go_upto_region 9 with fail
        rw [HZ.out]
        clear HZ hkb s0 s1 s2
        have f2 : Z.cell? ⟨kb, 2, none⟩ = some (.int .i64 x3) := P.cell 2
        by_cases hlt : x3 < m
        · rw [if_pos hlt] at HS
          go_wp2
          go_roundw
          case rel => exact ⟨k + 1, by omega, by go_num, by rw [HS.out], hb⟩
          case measure => simp [intOf]; omega
        · rw [if_neg hlt] at HS
          go_wp2
          go_roundw
          case rel => exact ⟨k + 1, by omega, by go_num, by rw [HS.out], hb⟩
          case measure => simp [intOf]; omega
      · obtain rfl : k = n.db.length := by omega
        rw [List.take_length]
        obtain ⟨m, hm⟩ : ∃ m, minD (n.next) n.db = m := ⟨_, rfl⟩
        rw [hm]
        have HM : Hid (v = m) := by show v = m; rw [HVW.out, ← hm]; unfold NodeV.wakeAt; rw [HF.out]
        clear hm
        go_wp2
        go_ret
        exact ⟨by rw [HM.out]; rfl, hb⟩
end Go.Proofs.YtmdcankfjmkkeaaGreat
