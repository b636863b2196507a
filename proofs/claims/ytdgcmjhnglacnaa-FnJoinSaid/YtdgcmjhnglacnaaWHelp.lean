/- The helpers of promise 5's law: lwNums, lwView, lwViews. -/
import Derived.Test.YtdgcmjhnglacnaaFView
import Derived.Test.YtdgcmjhnglacnaaFEq
import Derived.Test.YtdgcmjhnglacnaaVEq
import Derived.Test.YtdgcmjhnglacnaaNotGone
namespace Go.Proofs.Ytdgcmjhnglacnaa
open Go Go.RowKit
set_option linter.unusedVariables false

set_option maxHeartbeats 1000000 in
set_option maxRecDepth 100000 in
theorem lwNums_same (a b : Option Addr) (ca cb : Nat) (l : List Int) (w : World) (hl : l.length ≤ 1048576) (ha : NumRow w a l) (hb : NumRow w b l) :
    Calls Try.prog 26 #[.slice a l.length ca, .slice b l.length cb] w fun e w' => e = .returned (.bool true) ∧ Below w.heap.size w w' := by
  go_enter Try.func26, Try.ntmps26
  go_wp2
  go_loopw [5] (fun i wr => ∃ k : Nat, k ≤ l.length ∧ i = .int .i64 k ∧ Below w.heap.size w wr) (fun i _ => l.length - (intOf i).toNat)
  case atStart => exact ⟨0, Nat.zero_le _, rfl, Below.refl _ _⟩
  case round =>
    obtain ⟨k, hk, rfl, hbw⟩ := hrel
    by_cases hx : k < l.length
    · rcases ha.keep hbw with h | ⟨b1, o1, rfl, hlt1, hc1⟩
      · rw [h] at hx; simp at hx
      rcases hb.keep hbw with h | ⟨b2, o2, rfl, hlt2, hc2⟩
      · rw [h] at hx; simp at hx
      have h1 := hc1 k hx
      have h2 := hc2 k hx
      obtain ⟨x, hxx⟩ : ∃ x, l[k] = x := ⟨_, rfl⟩
      rw [hxx] at h1 h2
      clear hc1 hc2 hxx
      go_wp2
      go_region
      go_wp2
      go_roundw
      case rel => exact ⟨k + 1, by omega, by go_num, hbw.drew⟩
      case measure => simp [intOf]; omega
    · obtain rfl : k = l.length := by omega
      go_wp2
      go_ret
      exact ⟨rfl, hbw⟩
set_option maxHeartbeats 2000000 in
set_option maxRecDepth 100000 in
/-- Two views compared: as q tells. -/
theorem lwView_any (a1 : Option Addr) (c1 : Nat) (a2 : Option Addr) (c2 : Nat) (l m : List FactV) (q : Bool) (hq : q = true ↔ l = m) (w : World) (hl : l.length ≤ 1048576) (h1 : CellRow w a1 (cellsOf FactV.cells l)) (h2 : CellRow w a2 (cellsOf FactV.cells m)) :
    Calls Try.prog 33 #[.slice a1 l.length c1, .slice a2 m.length c2] w fun e w' => e = .returned (.bool q) ∧ Below w.heap.size w w' := by
  by_cases hlm : l.length = m.length
  · have hqq : ((l.length : Int) == (m.length : Int)) = true := by simp [hlm]
    have HQ : Hid (q = true ↔ l = m) := hq
    clear hq
    go_enter Try.func33, Try.ntmps33
    go_wp2
    go_loopw [5] (fun i wr => ∃ k : Nat, k ≤ l.length ∧ i = .int .i64 k ∧ l.take k = m.take k ∧ Below w.heap.size w wr) (fun i _ => l.length - (intOf i).toNat)
    case atStart => exact ⟨0, Nat.zero_le _, rfl, by simp, Below.refl _ _⟩
    case round =>
      obtain ⟨k, hk, rfl, ht, hb⟩ := hrel
      have HT : Hid (l.take k = m.take k) := ht
      clear ht
      by_cases hx : k < l.length
      · have hxm : k < m.length := by omega
        obtain ⟨b1, o1, rfl⟩ := h1.addr (by rw [cellsOf_length FactV.cells_len]; omega)
        obtain ⟨b2, o2, rfl⟩ := h2.addr (by rw [cellsOf_length FactV.cells_len]; omega)
        have r1 := h1.keep hb
        have r2 := h2.keep hb
        obtain ⟨x1, x2, x3, hlx⟩ : ∃ x1 x2 x3, l[k] = ⟨x1, x2, x3⟩ := ⟨_, _, _, rfl⟩
        obtain ⟨y1, y2, y3, hly⟩ : ∃ y1 y2 y3, m[k] = ⟨y1, y2, y3⟩ := ⟨_, _, _, rfl⟩
        have q0 := r1.thing0 FactV.cells_len (i := k) (v := .int .i64 x1) hx (by omega) (by rw [hlx]; rfl)
        have q1 := r1.thingj FactV.cells_len (i := k) (j := 1) (v := .int .i64 x2) hx (by omega) (by rw [hlx]; rfl)
        have q2 := r1.thingj FactV.cells_len (i := k) (j := 2) (v := .int .i64 x3) hx (by omega) (by rw [hlx]; rfl)
        have p0 := r2.thing0 FactV.cells_len (i := k) (v := .int .i64 y1) hxm (by omega) (by rw [hly]; rfl)
        have p1 := r2.thingj FactV.cells_len (i := k) (j := 1) (v := .int .i64 y2) hxm (by omega) (by rw [hly]; rfl)
        have p2 := r2.thingj FactV.cells_len (i := k) (j := 2) (v := .int .i64 y3) hxm (by omega) (by rw [hly]; rfl)
        have hx' : (k : Int) < (l.length : Int) := by omega
        have hx'' : (k : Int) < (m.length : Int) := by omega
        have HX : Hid (l[k] = ⟨x1, x2, x3⟩) := hlx
        have HY : Hid (m[k] = ⟨y1, y2, y3⟩) := hly
        clear r1 r2 hlx hly
        have hgu := guardF
        obtain ⟨t, hte⟩ := tells_bool ((⟨x1, x2, x3⟩ : FactV) = ⟨y1, y2, y3⟩)
        have hneq := eqF_q hte
        dsimp only at hneq
        have HE : Hid (t = true ↔ (⟨x1, x2, x3⟩ : FactV) = ⟨y1, y2, y3⟩) := hte
        clear hte
        cases t with
        | true =>
          have e : (⟨x1, x2, x3⟩ : FactV) = ⟨y1, y2, y3⟩ := HE.out.1 rfl
          have HR : Hid (l.take (k + 1) = m.take (k + 1)) := by
            show _ = _
            rw [List.take_succ_eq_append_getElem hx, List.take_succ_eq_append_getElem hxm, HT.out, HX.out, HY.out, e]
          clear e HE
          go_wp2
          go_region
          go_wp2
          go_roundw
          case rel => exact ⟨k + 1, by omega, by go_num, HR.out, hb.drew⟩
          case measure => simp [intOf]; omega
        | false =>
          have HN : Hid (q = false) := by
            show _ = _
            cases q with
            | false => rfl
            | true =>
              have e := HQ.out.1 rfl
              subst e
              have := HE.out.2 (HX.out.symm.trans HY.out)
              cases this
          clear HE
          go_wp2
          go_region
          go_wp2
          go_ret
          exact ⟨ret_boolE HN.out.symm, hb.drew⟩
      · have HD : Hid (q = true) := by
          show _ = _
          refine HQ.out.2 ?_
          have := HT.out
          rwa [List.take_of_length_le (by omega), List.take_of_length_le (by omega)] at this
        go_wp2
        go_ret
        exact ⟨ret_boolE HD.out.symm, hb⟩
  · have hqq : ((l.length : Int) == (m.length : Int)) = false := by simp; omega
    have hne : q = false := by
      cases q with
      | false => rfl
      | true => exact absurd (by rw [hq.1 rfl]) hlm
    subst hne
    clear hq
    go_enter Try.func33, Try.ntmps33
    go_wp2
    go_ret
    exact ⟨rfl, Below.refl _ _⟩
set_option maxHeartbeats 1000000 in
set_option maxRecDepth 100000 in
theorem lwViews_same (v1 v2 : Value) (b1 b2 : Nat) (r : Bool) (c : Int) (l : List FactV) (w : World) (hl : l.length ≤ 1048576) (h1 : OwnSl w b1 v1 l) (h2 : OwnSl w b2 v2 l) (hr : c = 0 → rightV l) :
    Calls Try.prog 21 #[outV v1 r c, outV v2 r c] w fun e w' => e = .returned (.bool true) ∧ Below w.heap.size w w' := by
  obtain ⟨a1, c1, rfl, o1, _⟩ := h1
  obtain ⟨a2, c2, rfl, o2, _⟩ := h2
  unfold outV
  have HR : Hid (c = 0 → rightV l) := hr
  clear hr
  have n1 := o1.row
  have n2 := o2.row
  clear o1 o2
  have B0 : Below w.heap.size w ((w.alloc (.cells #[.slice a1 l.length c1, .bool r, .int .i64 c] 33)).alloc (.cells #[.slice a2 l.length c2, .bool r, .int .i64 c] 33)) := ((Below.refl _ _).alloc (Nat.le_refl _) _).alloc (by simp) _
  have p1 := (BlkIs.new w 33 #[.slice a1 l.length c1, .bool r, .int .i64 c]).keep ((Below.refl _ _).alloc (Nat.le_refl _) (.cells #[.slice a2 l.length c2, .bool r, .int .i64 c] 33))
  have p2 := BlkIs.new (w.alloc (.cells #[.slice a1 l.length c1, .bool r, .int .i64 c] 33)) 33 #[.slice a2 l.length c2, .bool r, .int .i64 c]
  rw [World.size_alloc] at p2
  have m1 := n1.keep B0
  have m2 := n2.keep B0
  obtain ⟨W, hW⟩ : ∃ W, (w.alloc (.cells #[.slice a1 l.length c1, .bool r, .int .i64 c] 33)).alloc (.cells #[.slice a2 l.length c2, .bool r, .int .i64 c] 33) = W := ⟨_, rfl⟩
  rw [hW] at B0 p1 p2 m1 m2
  have HW : Hid (_ = W) := hW
  clear hW n1 n2
  have d0 := p1.cell 0
  have d1 := p1.cell 1
  have d2 := p1.cell 2
  have f0 := p2.cell 0
  have f1 := p2.cell 1
  have f2 := p2.cell 2
  have hrb : (r == r) = true := by simp
  go_enter Try.func21, Try.ntmps21
  go_wp2_with (rw [HW.out])
  refine (lwView_any a1 c1 a2 c2 l l true (by simp) _ hl m1 m2).mono ?_
  rintro e z1 ⟨rfl, bz1⟩
  have q1 := p1.keep bz1
  have B1 := B0.trans (bz1.mono B0.size)
  have k1 := m1.keep bz1
  have e0 := q1.cell 0
  have e1 := q1.cell 1
  have e2 := q1.cell 2
  clear m1 m2 B0 bz1 p1 p2 HW q1 d0 d1 d2 f0 f1 f2
  by_cases hc : c = 0
  · have HQ : Hid (rightV l) := HR.out hc
    subst hc
    go_wp2_with fail
    refine (specVRight_is a1 c1 l _ true (by simp [HQ.out]) hl k1).mono ?_
    rintro e z2 ⟨rfl, bz2⟩
    have B2 := B1.trans (bz2.mono B1.size)
    clear bz2 B1
    go_wp2
    go_ret
    exact ⟨rfl, B2⟩
  · have hcb : (c == 0) = false := by simp [hc]
    go_wp2
    go_ret
    exact ⟨rfl, B1⟩
end Go.Proofs.Ytdgcmjhnglacnaa
