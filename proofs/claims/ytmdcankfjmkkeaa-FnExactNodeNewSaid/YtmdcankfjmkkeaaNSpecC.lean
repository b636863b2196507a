/- The contract of the specification's WakeAt. -/
import Derived.Test.YtmdcankfjmkkeaaNSpecB
namespace Go.Proofs.Ytmdcankfjmkkeaa
open Go Go.RowKit
set_option linter.unusedVariables false
set_option linter.unusedSimpArgs false

/-- What WakeAt answers. -/
def WakeIs (n : NodeV) (v : Int) : Prop := (n.ok ∧ v = n.wakeAt) ∨ (¬ n.ok ∧ v = -1)
theorem wakeIs_ex (n : NodeV) : ∃ v, WakeIs n v := by
  by_cases h : n.ok
  · exact ⟨_, .inl ⟨h, rfl⟩⟩
  · exact ⟨_, .inr ⟨h, rfl⟩⟩
set_option maxHeartbeats 4000000 in
set_option maxRecDepth 100000 in
theorem specWakeAt_any (a : NodeM) (n : NodeV) (v : Int) (w : World) (hv : WakeIs n v) (hl : NodeLen n 1048576) (hroom : NodeRoom a n) (hrow : NodeRows w a n) :
    Calls Try.prog 16 #[nodeVal a n] w fun e w' => e = .returned (.int .i64 v) ∧ Below w.heap.size w w' := by
  have HV : Hid (WakeIs n v) := hv
  obtain ⟨q, hq⟩ := tells_bool n.ok
  have HQ : Hid (q = true ↔ n.ok) := hq
  clear hv hq
  have hld := hl.d
  unfold nodeVal nodeCells
  have p0 := BlkIs.new w 40 #[.int .i64 n.id, .int .i64 n.inc, .int .i64 n.num, .int .i64 n.seed, .int .i64 n.next, .slice a.va n.view.length a.vc, .slice a.ra n.rum.length a.rc, .slice a.ta n.tl.length a.tc, .int .i64 n.at0, .int .i64 n.pb.node, .int .i64 n.pb.num, .int .i64 n.pb.due, .bool n.pb.asked, .slice a.da n.db.length a.dc]
  have B := (Below.refl w.heap.size w).alloc (Nat.le_refl _) (.cells #[.int .i64 n.id, .int .i64 n.inc, .int .i64 n.num, .int .i64 n.seed, .int .i64 n.next, .slice a.va n.view.length a.vc, .slice a.ra n.rum.length a.rc, .slice a.ta n.tl.length a.tc, .int .i64 n.at0, .int .i64 n.pb.node, .int .i64 n.pb.num, .int .i64 n.pb.due, .bool n.pb.asked, .slice a.da n.db.length a.dc] 40)
  go_enter Try.func16, Try.ntmps16
  go_upto_region 1 with fail
  obtain ⟨X0, hX⟩ : ∃ W, w.alloc (.cells #[.int .i64 n.id, .int .i64 n.inc, .int .i64 n.num, .int .i64 n.seed, .int .i64 n.next, .slice a.va n.view.length a.vc, .slice a.ra n.rum.length a.rc, .slice a.ta n.tl.length a.tc, .int .i64 n.at0, .int .i64 n.pb.node, .int .i64 n.pb.num, .int .i64 n.pb.due, .bool n.pb.asked, .slice a.da n.db.length a.dc] 40) = W := ⟨_, rfl⟩
  rw [hX] at p0 B ⊢
  clear hX
  have c0 : X0.cell? ⟨w.heap.size, 0, none⟩ = some (.int .i64 n.id) := p0.cell 0
  have c1 : X0.cell? ⟨w.heap.size, 1, none⟩ = some (.int .i64 n.inc) := p0.cell 1
  have c2 : X0.cell? ⟨w.heap.size, 2, none⟩ = some (.int .i64 n.num) := p0.cell 2
  have c3 : X0.cell? ⟨w.heap.size, 3, none⟩ = some (.int .i64 n.seed) := p0.cell 3
  have c4 : X0.cell? ⟨w.heap.size, 4, none⟩ = some (.int .i64 n.next) := p0.cell 4
  have c5 : X0.cell? ⟨w.heap.size, 5, none⟩ = some (.slice a.va n.view.length a.vc) := p0.cell 5
  have c6 : X0.cell? ⟨w.heap.size, 6, none⟩ = some (.slice a.ra n.rum.length a.rc) := p0.cell 6
  have c7 : X0.cell? ⟨w.heap.size, 7, none⟩ = some (.slice a.ta n.tl.length a.tc) := p0.cell 7
  have c8 : X0.cell? ⟨w.heap.size, 8, none⟩ = some (.int .i64 n.at0) := p0.cell 8
  have c9 : X0.cell? ⟨w.heap.size, 9, none⟩ = some (.int .i64 n.pb.node) := p0.cell 9
  have c10 : X0.cell? ⟨w.heap.size, 10, none⟩ = some (.int .i64 n.pb.num) := p0.cell 10
  have c11 : X0.cell? ⟨w.heap.size, 11, none⟩ = some (.int .i64 n.pb.due) := p0.cell 11
  have c12 : X0.cell? ⟨w.heap.size, 12, none⟩ = some (.bool n.pb.asked) := p0.cell 12
  have c13 : X0.cell? ⟨w.heap.size, 13, none⟩ = some (.slice a.da n.db.length a.dc) := p0.cell 13
  go_wp2_with fail
  refine (specNRight_is a n _ q HQ.out hl hroom (hrow.keep B)).mono ?_
  rintro e X ⟨rfl, bx⟩
  replace p0 := p0.keep bx
  replace B := B.trans (bx.mono B.size)
  clear bx c0 c1 c2 c3 c4 c5 c6 c7 c8 c9 c10 c11 c12 c13
  cases q with
  | false =>
    have hf : v = -1 := by
      rcases HV.out with ⟨h, _⟩ | ⟨_, h⟩
      · have := HQ.out.2 h; cases this
      · exact h
    subst hf
    go_wp2
    go_ret
    exact ⟨rfl, B⟩
  | true =>
  have hvw : v = n.wakeAt := by
    rcases HV.out with ⟨_, h⟩ | ⟨h, _⟩
    · exact h
    · exact absurd (HQ.out.1 rfl) h
  have HVW : Hid (v = n.wakeAt) := hvw
  clear hvw HV HQ hl hroom
  have hrd := hrow.d.keep B
  clear hrow
  have c4 : X.cell? ⟨w.heap.size, 4, none⟩ = some (.int .i64 n.next) := p0.cell 4
  have c9 : X.cell? ⟨w.heap.size, 9, none⟩ = some (.int .i64 n.pb.node) := p0.cell 9
  have c11 : X.cell? ⟨w.heap.size, 11, none⟩ = some (.int .i64 n.pb.due) := p0.cell 11
  have c13 : X.cell? ⟨w.heap.size, 13, none⟩ = some (.slice a.da n.db.length a.dc) := p0.cell 13
  obtain ⟨fi, hfi⟩ : ∃ f, n.first = f := ⟨_, rfl⟩
  have HF : Hid (n.first = fi) := hfi
  unfold NodeV.first at hfi
  by_cases h1 : 0 < n.pb.node
  · by_cases h2 : n.pb.due < n.next
    · rw [if_pos ⟨h1, h2⟩] at hfi
      subst hfi
      go_wp2
      clear c4 c9 c11
      go_loop [4, 3] (fun i t => ∃ k : Nat, k ≤ n.db.length ∧ i = .int .i64 k ∧ t = .int .i64 (minD (n.pb.due) (n.db.take k))) (fun i _ => n.db.length - (intOf i).toNat)
      case atStart => exact ⟨0, Nat.zero_le _, rfl, rfl⟩
      case round =>
        obtain ⟨k, hk, rfl, rfl⟩ := hrel
        by_cases hx : k < n.db.length
        · obtain ⟨b, off, hda⟩ := hrd.addr (by rw [cellsOf_length FactV.cells_len]; omega)
          rw [hda] at hrd c13
          obtain ⟨x, hlx⟩ : ∃ x, n.db[k] = x := ⟨_, rfl⟩
          have d0 := hrd.fact hx hlx
          have HST := minD_step (n.pb.due) hx
          rw [hlx] at HST
          obtain ⟨x1, x2, x3⟩ := x
          obtain ⟨m, hm⟩ : ∃ m, minD (n.pb.due) (n.db.take k) = m := ⟨_, rfl⟩
          rw [hm] at HST ⊢
          have HS : Hid (minD (n.pb.due) (n.db.take (k + 1)) = if x3 < m then x3 else m) := HST
          obtain ⟨_, s0, s1, s2⟩ := d0
          dsimp only at s0 s1 s2
          have hkI : (k : Int) < (n.db.length : Int) := by omega
          clear hlx HST hm hda
          by_cases hlt : x3 < m
          · rw [if_pos hlt] at HS
            go_wp2
            go_round
            case rel => exact ⟨k + 1, by omega, by go_num, by rw [HS.out]⟩
            case measure => simp [intOf]; omega
          · rw [if_neg hlt] at HS
            go_wp2
            go_round
            case rel => exact ⟨k + 1, by omega, by go_num, by rw [HS.out]⟩
            case measure => simp [intOf]; omega
        · obtain rfl : k = n.db.length := by omega
          rw [List.take_length]
          obtain ⟨m, hm⟩ : ∃ m, minD (n.pb.due) n.db = m := ⟨_, rfl⟩
          rw [hm]
          have HM : Hid (v = m) := by show v = m; rw [HVW.out, ← hm]; unfold NodeV.wakeAt; rw [HF.out]
          clear hm
          go_wp2
          go_ret
          exact ⟨by rw [HM.out]; rfl, B⟩
    · rw [if_neg (fun h => h2 h.2)] at hfi
      subst hfi
      go_wp2
      clear c4 c9 c11
      go_loop [4, 3] (fun i t => ∃ k : Nat, k ≤ n.db.length ∧ i = .int .i64 k ∧ t = .int .i64 (minD (n.next) (n.db.take k))) (fun i _ => n.db.length - (intOf i).toNat)
      case atStart => exact ⟨0, Nat.zero_le _, rfl, rfl⟩
      case round =>
        obtain ⟨k, hk, rfl, rfl⟩ := hrel
        by_cases hx : k < n.db.length
        · obtain ⟨b, off, hda⟩ := hrd.addr (by rw [cellsOf_length FactV.cells_len]; omega)
          rw [hda] at hrd c13
          obtain ⟨x, hlx⟩ : ∃ x, n.db[k] = x := ⟨_, rfl⟩
          have d0 := hrd.fact hx hlx
          have HST := minD_step (n.next) hx
          rw [hlx] at HST
          obtain ⟨x1, x2, x3⟩ := x
          obtain ⟨m, hm⟩ : ∃ m, minD (n.next) (n.db.take k) = m := ⟨_, rfl⟩
          rw [hm] at HST ⊢
          have HS : Hid (minD (n.next) (n.db.take (k + 1)) = if x3 < m then x3 else m) := HST
          obtain ⟨_, s0, s1, s2⟩ := d0
          dsimp only at s0 s1 s2
          have hkI : (k : Int) < (n.db.length : Int) := by omega
          clear hlx HST hm hda
          by_cases hlt : x3 < m
          · rw [if_pos hlt] at HS
            go_wp2
            go_round
            case rel => exact ⟨k + 1, by omega, by go_num, by rw [HS.out]⟩
            case measure => simp [intOf]; omega
          · rw [if_neg hlt] at HS
            go_wp2
            go_round
            case rel => exact ⟨k + 1, by omega, by go_num, by rw [HS.out]⟩
            case measure => simp [intOf]; omega
        · obtain rfl : k = n.db.length := by omega
          rw [List.take_length]
          obtain ⟨m, hm⟩ : ∃ m, minD (n.next) n.db = m := ⟨_, rfl⟩
          rw [hm]
          have HM : Hid (v = m) := by show v = m; rw [HVW.out, ← hm]; unfold NodeV.wakeAt; rw [HF.out]
          clear hm
          go_wp2
          go_ret
          exact ⟨by rw [HM.out]; rfl, B⟩
  · rw [if_neg (fun h => h1 h.1)] at hfi
    subst hfi
    go_wp2
    clear c4 c9 c11
    go_loop [4, 3] (fun i t => ∃ k : Nat, k ≤ n.db.length ∧ i = .int .i64 k ∧ t = .int .i64 (minD (n.next) (n.db.take k))) (fun i _ => n.db.length - (intOf i).toNat)
    case atStart => exact ⟨0, Nat.zero_le _, rfl, rfl⟩
    case round =>
      obtain ⟨k, hk, rfl, rfl⟩ := hrel
      by_cases hx : k < n.db.length
      · obtain ⟨b, off, hda⟩ := hrd.addr (by rw [cellsOf_length FactV.cells_len]; omega)
        rw [hda] at hrd c13
        obtain ⟨x, hlx⟩ : ∃ x, n.db[k] = x := ⟨_, rfl⟩
        have d0 := hrd.fact hx hlx
        have HST := minD_step (n.next) hx
        rw [hlx] at HST
        obtain ⟨x1, x2, x3⟩ := x
        obtain ⟨m, hm⟩ : ∃ m, minD (n.next) (n.db.take k) = m := ⟨_, rfl⟩
        rw [hm] at HST ⊢
        have HS : Hid (minD (n.next) (n.db.take (k + 1)) = if x3 < m then x3 else m) := HST
        obtain ⟨_, s0, s1, s2⟩ := d0
        dsimp only at s0 s1 s2
        have hkI : (k : Int) < (n.db.length : Int) := by omega
        clear hlx HST hm hda
        by_cases hlt : x3 < m
        · rw [if_pos hlt] at HS
          go_wp2
          go_round
          case rel => exact ⟨k + 1, by omega, by go_num, by rw [HS.out]⟩
          case measure => simp [intOf]; omega
        · rw [if_neg hlt] at HS
          go_wp2
          go_round
          case rel => exact ⟨k + 1, by omega, by go_num, by rw [HS.out]⟩
          case measure => simp [intOf]; omega
      · obtain rfl : k = n.db.length := by omega
        rw [List.take_length]
        obtain ⟨m, hm⟩ : ∃ m, minD (n.next) n.db = m := ⟨_, rfl⟩
        rw [hm]
        have HM : Hid (v = m) := by show v = m; rw [HVW.out, ← hm]; unfold NodeV.wakeAt; rw [HF.out]
        clear hm
        go_wp2
        go_ret
        exact ⟨by rw [HM.out]; rfl, B⟩
end Go.Proofs.Ytmdcankfjmkkeaa
