/- The laws' own comparison of views. -/
import Derived.Test.YtenefjnahanfbaaFEq
import Derived.Test.YtenefjnahanfbaaFactOne
import Derived.Test.YtenefjnahanfbaaTimeR
import Derived.Test.YtenefjnahanfbaaNums
import Derived.BigRegion
import Derived.ChangeAlike
import Derived.Deep.DeepCutAuto
namespace Go.Proofs.Ytenefjnahanfbaa
open Go Go.RowKit
set_option linter.unusedVariables false

set_option maxHeartbeats 2000000 in
set_option maxRecDepth 100000 in
/-- Two views compared: as q tells. -/
theorem lwView_any (a1 : Option Addr) (c1 : Nat) (a2 : Option Addr) (c2 : Nat) (l m : List FactV) (q : Bool) (hq : q = true ↔ l = m) (w : World) (hl : l.length ≤ 1048576) (h1 : CellRow w a1 (cellsOf FactV.cells l)) (h2 : CellRow w a2 (cellsOf FactV.cells m)) :
    Calls Try.prog 36 #[.slice a1 l.length c1, .slice a2 m.length c2] w fun e w' => e = .returned (.bool q) ∧ Below w.heap.size w w' := by
  by_cases hlm : l.length = m.length
  · have hqq : ((l.length : Int) == (m.length : Int)) = true := by simp [hlm]
    have HQ : Hid (q = true ↔ l = m) := hq
    clear hq
    go_enter Try.func36, Try.ntmps36
    go_wp2
    go_loopw [5] (fun i wr => ∃ k : Nat, k ≤ l.length ∧ i = .int .i64 k ∧ l.take k = m.take k ∧ Below w.heap.size w wr) (fun i _ => l.length - (intOf i).toNat)
    case atStart => exact ⟨0, Nat.zero_le _, rfl, by simp, Below.refl _ _⟩
    case round =>
      obtain ⟨k, hk, rfl, ht, hb⟩ := hrel
      have HT : Hid (l.take k = m.take k) := ht
      clear ht
      by_cases hx : k < l.length
      · have hxm : k < m.length := by omega
        obtain ⟨b1, o1, rfl⟩ := h1.addr (by rw [cellsOf_length FactV.cells_len]; omega)
        obtain ⟨b2, o2, rfl⟩ := h2.addr (by rw [cellsOf_length FactV.cells_len]; omega)
        have r1 := h1.keep hb
        have r2 := h2.keep hb
        obtain ⟨x1, x2, x3, hlx⟩ : ∃ x1 x2 x3, l[k] = ⟨x1, x2, x3⟩ := ⟨_, _, _, rfl⟩
        obtain ⟨y1, y2, y3, hly⟩ : ∃ y1 y2 y3, m[k] = ⟨y1, y2, y3⟩ := ⟨_, _, _, rfl⟩
        have q0 := r1.thing0 FactV.cells_len (i := k) (v := .int .i64 x1) hx (by omega) (by rw [hlx]; rfl)
        have q1 := r1.thingj FactV.cells_len (i := k) (j := 1) (v := .int .i64 x2) hx (by omega) (by rw [hlx]; rfl)
        have q2 := r1.thingj FactV.cells_len (i := k) (j := 2) (v := .int .i64 x3) hx (by omega) (by rw [hlx]; rfl)
        have p0 := r2.thing0 FactV.cells_len (i := k) (v := .int .i64 y1) hxm (by omega) (by rw [hly]; rfl)
        have p1 := r2.thingj FactV.cells_len (i := k) (j := 1) (v := .int .i64 y2) hxm (by omega) (by rw [hly]; rfl)
        have p2 := r2.thingj FactV.cells_len (i := k) (j := 2) (v := .int .i64 y3) hxm (by omega) (by rw [hly]; rfl)
        have hx' : (k : Int) < (l.length : Int) := by omega
        have hx'' : (k : Int) < (m.length : Int) := by omega
        have HX : Hid (l[k] = ⟨x1, x2, x3⟩) := hlx
        have HY : Hid (m[k] = ⟨y1, y2, y3⟩) := hly
        clear r1 r2 hlx hly
        have hgu := guardF
        obtain ⟨t, hte⟩ := tells_bool ((⟨x1, x2, x3⟩ : FactV) = ⟨y1, y2, y3⟩)
        have hneq := eqF_q hte
        dsimp only at hneq
        have HE : Hid (t = true ↔ (⟨x1, x2, x3⟩ : FactV) = ⟨y1, y2, y3⟩) := hte
        clear hte
        cases t with
        | true =>
          have e : (⟨x1, x2, x3⟩ : FactV) = ⟨y1, y2, y3⟩ := HE.out.1 rfl
          have HR : Hid (l.take (k + 1) = m.take (k + 1)) := by
            show _ = _
            rw [List.take_succ_eq_append_getElem hx, List.take_succ_eq_append_getElem hxm, HT.out, HX.out, HY.out, e]
          clear e HE
          go_wp2
          go_region
          go_wp2
          go_roundw
          case rel => exact ⟨k + 1, by omega, by go_num, HR.out, hb.drew⟩
          case measure => simp [intOf]; omega
        | false =>
          have HN : Hid (q = false) := by
            show _ = _
            cases q with
            | false => rfl
            | true =>
              have e := HQ.out.1 rfl
              subst e
              have := HE.out.2 (HX.out.symm.trans HY.out)
              cases this
          clear HE
          go_wp2
          go_region
          go_wp2
          go_ret
          exact ⟨ret_boolE HN.out.symm, hb.drew⟩
      · have HD : Hid (q = true) := by
          show _ = _
          refine HQ.out.2 ?_
          have := HT.out
          rwa [List.take_of_length_le (by omega), List.take_of_length_le (by omega)] at this
        go_wp2
        go_ret
        exact ⟨ret_boolE HD.out.symm, hb⟩
  · have hqq : ((l.length : Int) == (m.length : Int)) = false := by simp; omega
    have hne : q = false := by
      cases q with
      | false => rfl
      | true => exact absurd (by rw [hq.1 rfl]) hlm
    subst hne
    clear hq
    go_enter Try.func36, Try.ntmps36
    go_wp2
    go_ret
    exact ⟨rfl, Below.refl _ _⟩
theorem lwView_same (a1 : Option Addr) (c1 : Nat) (a2 : Option Addr) (c2 : Nat) (l : List FactV) (w : World) (hl : l.length ≤ 1048576) (h1 : CellRow w a1 (cellsOf FactV.cells l)) (h2 : CellRow w a2 (cellsOf FactV.cells l)) :
    Calls Try.prog 36 #[.slice a1 l.length c1, .slice a2 l.length c2] w fun e w' => e = .returned (.bool true) ∧ Below w.heap.size w w' := lwView_any a1 c1 a2 c2 l l true (by simp) w hl h1 h2
end Go.Proofs.Ytenefjnahanfbaa
