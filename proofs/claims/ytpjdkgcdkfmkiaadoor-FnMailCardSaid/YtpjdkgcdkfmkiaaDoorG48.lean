/- The laws' own comparison of views. -/
import Derived.Test.YtpjdkgcdkfmkiaaDoorG16
import Derived.Test.YtpjdkgcdkfmkiaaDoorG8
import Derived.Test.YtpjdkgcdkfmkiaaDoorG6
import Derived.Test.YtpjdkgcdkfmkiaaDoorG32
import Derived.BigRegion
import Derived.ChangeAlike
import Derived.Deep.DeepCutAuto
import Derived.Test.YtpjdkgcdkfmkiaaDoorG21
namespace Go.Proofs.YtpjdkgcdkfmkiaaDoor
open Go Go.RowKit
set_option linter.unusedVariables false

set_option maxHeartbeats 2000000 in
set_option maxRecDepth 100000 in
/-- Two views compared: as q tells. -/
theorem lwView_any (a1 : Option Addr) (c1 : Nat) (a2 : Option Addr) (c2 : Nat) (l m : List FactV) (q : Bool) (hq : q = true ↔ l = m) (w : World) (hl : l.length ≤ 1048576) (h1 : CellRow w a1 (cellsOf FactV.cells l)) (h2 : CellRow w a2 (cellsOf FactV.cells m)) :
    Calls Tryd.prog 57 #[.slice a1 l.length c1, .slice a2 m.length c2] w fun e w' => e = .returned (.bool q) ∧ Below w.heap.size w w' := by
  by_cases hlm : l.length = m.length
  · have hqq : ((l.length : Int) == (m.length : Int)) = true := by simp [hlm]
    have HQ : Hid (q = true ↔ l = m) := hq
    clear hq
    go_enter Tryd.func57, Tryd.ntmps57
    go_wp2
    go_loopw [5] (fun i wr => ∃ k : Nat, k ≤ l.length ∧ i = .int .i64 k ∧ l.take k = m.take k ∧ Below w.heap.size w wr) (fun i _ => l.length - (intOf i).toNat)
    case atStart => exact ⟨0, Nat.zero_le _, rfl, by simp, Below.refl _ _⟩
    case round =>
      obtain ⟨k, hk, rfl, ht, hb⟩ := hrel
      have HT : Hid (l.take k = m.take k) := ht
      clear ht
      by_cases hx : k < l.length
      · have hxm : k < m.length := by omega
        obtain ⟨b1, o1, rfl⟩ := h1.addr (by rw [cellsOf_length FactV.cells_len]; omega)
        obtain ⟨b2, o2, rfl⟩ := h2.addr (by rw [cellsOf_length FactV.cells_len]; omega)
        have r1 := h1.keep hb
        have r2 := h2.keep hb
        obtain ⟨x1, x2, x3, hlx⟩ : ∃ x1 x2 x3, l[k] = ⟨x1, x2, x3⟩ := ⟨_, _, _, rfl⟩
        obtain ⟨y1, y2, y3, hly⟩ : ∃ y1 y2 y3, m[k] = ⟨y1, y2, y3⟩ := ⟨_, _, _, rfl⟩
        have q0 := r1.thing0 FactV.cells_len (i := k) (v := .int .i64 x1) hx (by omega) (by rw [hlx]; rfl)
        have q1 := r1.thingj FactV.cells_len (i := k) (j := 1) (v := .int .i64 x2) hx (by omega) (by rw [hlx]; rfl)
        have q2 := r1.thingj FactV.cells_len (i := k) (j := 2) (v := .int .i64 x3) hx (by omega) (by rw [hlx]; rfl)
        have p0 := r2.thing0 FactV.cells_len (i := k) (v := .int .i64 y1) hxm (by omega) (by rw [hly]; rfl)
        have p1 := r2.thingj FactV.cells_len (i := k) (j := 1) (v := .int .i64 y2) hxm (by omega) (by rw [hly]; rfl)
        have p2 := r2.thingj FactV.cells_len (i := k) (j := 2) (v := .int .i64 y3) hxm (by omega) (by rw [hly]; rfl)
        have hx' : (k : Int) < (l.length : Int) := by omega
        have hx'' : (k : Int) < (m.length : Int) := by omega
        have HX : Hid (l[k] = ⟨x1, x2, x3⟩) := hlx
        have HY : Hid (m[k] = ⟨y1, y2, y3⟩) := hly
        clear r1 r2 hlx hly
        have hgu := guardF
        obtain ⟨t, hte⟩ := tells_bool ((⟨x1, x2, x3⟩ : FactV) = ⟨y1, y2, y3⟩)
        have hneq := eqF_q hte
        dsimp only at hneq
        have HE : Hid (t = true ↔ (⟨x1, x2, x3⟩ : FactV) = ⟨y1, y2, y3⟩) := hte
        clear hte
        cases t with
        | true =>
          have e : (⟨x1, x2, x3⟩ : FactV) = ⟨y1, y2, y3⟩ := HE.out.1 rfl
          have HR : Hid (l.take (k + 1) = m.take (k + 1)) := by
            show _ = _
            rw [List.take_succ_eq_append_getElem hx, List.take_succ_eq_append_getElem hxm, HT.out, HX.out, HY.out, e]
          clear e HE
          go_wp2
          go_region
          go_wp2
          go_roundw
          case rel => exact ⟨k + 1, by omega, by go_num, HR.out, hb.drew⟩
          case measure => simp [intOf]; omega
        | false =>
          have HN : Hid (q = false) := by
            show _ = _
            cases q with
            | false => rfl
            | true =>
              have e := HQ.out.1 rfl
              subst e
              have := HE.out.2 (HX.out.symm.trans HY.out)
              cases this
          clear HE
          go_wp2
          go_region
          go_wp2
          go_ret
          exact ⟨ret_boolE HN.out.symm, hb.drew⟩
      · have HD : Hid (q = true) := by
          show _ = _
          refine HQ.out.2 ?_
          have := HT.out
          rwa [List.take_of_length_le (by omega), List.take_of_length_le (by omega)] at this
        go_wp2
        go_ret
        exact ⟨ret_boolE HD.out.symm, hb⟩
  · have hqq : ((l.length : Int) == (m.length : Int)) = false := by simp; omega
    have hne : q = false := by
      cases q with
      | false => rfl
      | true => exact absurd (by rw [hq.1 rfl]) hlm
    subst hne
    clear hq
    go_enter Tryd.func57, Tryd.ntmps57
    go_wp2
    go_ret
    exact ⟨rfl, Below.refl _ _⟩
theorem lwView_same (a1 : Option Addr) (c1 : Nat) (a2 : Option Addr) (c2 : Nat) (l : List FactV) (w : World) (hl : l.length ≤ 1048576) (h1 : CellRow w a1 (cellsOf FactV.cells l)) (h2 : CellRow w a2 (cellsOf FactV.cells l)) :
    Calls Tryd.prog 57 #[.slice a1 l.length c1, .slice a2 l.length c2] w fun e w' => e = .returned (.bool true) ∧ Below w.heap.size w w' := lwView_any a1 c1 a2 c2 l l true (by simp) w hl h1 h2
end Go.Proofs.YtpjdkgcdkfmkiaaDoor
/- The laws' own comparison of mails, where they are one. -/
namespace Go.Proofs.YtpjdkgcdkfmkiaaDoor
open Go Go.RowKit
set_option linter.unusedVariables false

set_option maxHeartbeats 1000000 in
set_option maxRecDepth 100000 in
theorem lwMail_same (k f t n a r c : Int) (p1 p2 : Option Addr) (cap1 cap2 : Nat) (l : List FactV) (w : World) (hl : l.length ≤ 1048576) (h1 : CellRow w p1 (cellsOf FactV.cells l)) (h2 : CellRow w p2 (cellsOf FactV.cells l)) :
    Calls Tryd.prog 29 #[.agg #[.int .i64 k, .int .i64 f, .int .i64 t, .int .i64 n, .int .i64 a, .int .i64 r, .slice p1 l.length cap1], .agg #[.int .i64 k, .int .i64 f, .int .i64 t, .int .i64 n, .int .i64 a, .int .i64 r, .slice p2 l.length cap2]] w fun e w' => e = .returned (.bool true) ∧ Below w.heap.size w w' := by
  have B0 := ((Below.refl w.heap.size w).alloc (Nat.le_refl _) (.cells #[.int .i64 k, .int .i64 f, .int .i64 t, .int .i64 n, .int .i64 a, .int .i64 r, .slice p1 l.length cap1] 25)).alloc (by simp) (.cells #[.int .i64 k, .int .i64 f, .int .i64 t, .int .i64 n, .int .i64 a, .int .i64 r, .slice p2 l.length cap2] 25)
  have q1 := (BlkIs.new w 25 #[.int .i64 k, .int .i64 f, .int .i64 t, .int .i64 n, .int .i64 a, .int .i64 r, .slice p1 l.length cap1]).keep ((Below.refl _ _).alloc (Nat.le_refl _) (.cells #[.int .i64 k, .int .i64 f, .int .i64 t, .int .i64 n, .int .i64 a, .int .i64 r, .slice p2 l.length cap2] 25))
  have q2 := BlkIs.new (w.alloc (.cells #[.int .i64 k, .int .i64 f, .int .i64 t, .int .i64 n, .int .i64 a, .int .i64 r, .slice p1 l.length cap1] 25)) 25 #[.int .i64 k, .int .i64 f, .int .i64 t, .int .i64 n, .int .i64 a, .int .i64 r, .slice p2 l.length cap2]
  rw [World.size_alloc] at q2
  have m1 := h1.keep B0
  have m2 := h2.keep B0
  obtain ⟨W, hW⟩ : ∃ W, (w.alloc (.cells #[.int .i64 k, .int .i64 f, .int .i64 t, .int .i64 n, .int .i64 a, .int .i64 r, .slice p1 l.length cap1] 25)).alloc (.cells #[.int .i64 k, .int .i64 f, .int .i64 t, .int .i64 n, .int .i64 a, .int .i64 r, .slice p2 l.length cap2] 25) = W := ⟨_, rfl⟩
  rw [hW] at B0 q1 q2 m1 m2
  have HW : Hid (_ = W) := hW
  clear hW
  go_enter Tryd.func29, Tryd.ntmps29
  go_upto_region 1 with fail
  rw [HW.out]
  clear HW
  have g0 := q1.cell 0
  have g1 := q1.cell 1
  have g2 := q1.cell 2
  have g3 := q1.cell 3
  have g4 := q1.cell 4
  have g5 := q1.cell 5
  have g6 := q1.cell 6
  simp only [List.getElem?_toArray, List.getElem?_cons_zero, List.getElem?_cons_succ] at g0 g1 g2 g3 g4 g5 g6
  have d0 := q2.cell 0
  have d1 := q2.cell 1
  have d2 := q2.cell 2
  have d3 := q2.cell 3
  have d4 := q2.cell 4
  have d5 := q2.cell 5
  have d6 := q2.cell 6
  simp only [List.getElem?_toArray, List.getElem?_cons_zero, List.getElem?_cons_succ] at d0 d1 d2 d3 d4 d5 d6
  go_wp2_with fail
  refine (lwView_same p1 cap1 p2 cap2 l W hl m1 m2).mono ?_
  rintro e x ⟨rfl, bx⟩
  have B1 := B0.trans (bx.mono B0.size)
  clear bx m1 m2 B0
  go_wp2
  go_ret
  exact ⟨rfl, B1⟩
set_option maxHeartbeats 1000000 in
set_option maxRecDepth 100000 in
theorem lwMailOut_same (k f t n a r c : Int) (p1 p2 : Option Addr) (cap1 cap2 : Nat) (l : List FactV) (w : World) (hl : l.length ≤ 1048576) (h1 : CellRow w p1 (cellsOf FactV.cells l)) (h2 : CellRow w p2 (cellsOf FactV.cells l)) :
    Calls Tryd.prog 10 #[.agg #[.int .i64 k, .int .i64 f, .int .i64 t, .int .i64 n, .int .i64 a, .int .i64 r, .slice p1 l.length cap1, .int .i64 c], .agg #[.int .i64 k, .int .i64 f, .int .i64 t, .int .i64 n, .int .i64 a, .int .i64 r, .slice p2 l.length cap2, .int .i64 c]] w fun e w' => e = .returned (.bool true) ∧ Below w.heap.size w w' := by
  have B0 := ((Below.refl w.heap.size w).alloc (Nat.le_refl _) (.cells #[.int .i64 k, .int .i64 f, .int .i64 t, .int .i64 n, .int .i64 a, .int .i64 r, .slice p1 l.length cap1, .int .i64 c] 30)).alloc (by simp) (.cells #[.int .i64 k, .int .i64 f, .int .i64 t, .int .i64 n, .int .i64 a, .int .i64 r, .slice p2 l.length cap2, .int .i64 c] 30)
  have q1 := (BlkIs.new w 30 #[.int .i64 k, .int .i64 f, .int .i64 t, .int .i64 n, .int .i64 a, .int .i64 r, .slice p1 l.length cap1, .int .i64 c]).keep ((Below.refl _ _).alloc (Nat.le_refl _) (.cells #[.int .i64 k, .int .i64 f, .int .i64 t, .int .i64 n, .int .i64 a, .int .i64 r, .slice p2 l.length cap2, .int .i64 c] 30))
  have q2 := BlkIs.new (w.alloc (.cells #[.int .i64 k, .int .i64 f, .int .i64 t, .int .i64 n, .int .i64 a, .int .i64 r, .slice p1 l.length cap1, .int .i64 c] 30)) 30 #[.int .i64 k, .int .i64 f, .int .i64 t, .int .i64 n, .int .i64 a, .int .i64 r, .slice p2 l.length cap2, .int .i64 c]
  rw [World.size_alloc] at q2
  have m1 := h1.keep B0
  have m2 := h2.keep B0
  obtain ⟨W, hW⟩ : ∃ W, (w.alloc (.cells #[.int .i64 k, .int .i64 f, .int .i64 t, .int .i64 n, .int .i64 a, .int .i64 r, .slice p1 l.length cap1, .int .i64 c] 30)).alloc (.cells #[.int .i64 k, .int .i64 f, .int .i64 t, .int .i64 n, .int .i64 a, .int .i64 r, .slice p2 l.length cap2, .int .i64 c] 30) = W := ⟨_, rfl⟩
  rw [hW] at B0 q1 q2 m1 m2
  have HW : Hid (_ = W) := hW
  clear hW
  go_enter Tryd.func10, Tryd.ntmps10
  go_upto_region 1 with fail
  rw [HW.out]
  clear HW
  have g0 := q1.cell 0
  have g1 := q1.cell 1
  have g2 := q1.cell 2
  have g3 := q1.cell 3
  have g4 := q1.cell 4
  have g5 := q1.cell 5
  have g6 := q1.cell 6
  have g7 := q1.cell 7
  simp only [List.getElem?_toArray, List.getElem?_cons_zero, List.getElem?_cons_succ] at g0 g1 g2 g3 g4 g5 g6 g7
  have d0 := q2.cell 0
  have d1 := q2.cell 1
  have d2 := q2.cell 2
  have d3 := q2.cell 3
  have d4 := q2.cell 4
  have d5 := q2.cell 5
  have d6 := q2.cell 6
  have d7 := q2.cell 7
  simp only [List.getElem?_toArray, List.getElem?_cons_zero, List.getElem?_cons_succ] at d0 d1 d2 d3 d4 d5 d6 d7
  go_wp2_with fail
  refine (lwMail_same k f t n a r c p1 p2 cap1 cap2 l W hl m1 m2).mono ?_
  rintro e x ⟨rfl, bx⟩
  have B1 := B0.trans (bx.mono B0.size)
  clear bx m1 m2 B0
  go_wp2
  go_ret
  exact ⟨rfl, B1⟩
end Go.Proofs.YtpjdkgcdkfmkiaaDoor
