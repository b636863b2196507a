/- The contracts of the exact laws' helpers over records: copy, compare, measure. -/
import Derived.Test.YtgmdgjkmdnpmiaaRcDef
namespace Go.Proofs.Ytgmdgjkmdnpmiaa
open Go Go.RowKit
set_option linter.unusedVariables false

theorem Try.infoRec : (Try.prog.info? 25).map (fun i => (i.zero, i.size, i.bytes)) = some (some (.agg #[.int .i64 0, .int .i64 0, .int .i64 0, .int .i64 0, .int .i64 0, .int .i64 0]), 6, 48) := by kernel_rfl
set_option maxHeartbeats 2000000 in
set_option maxRecDepth 100000 in
theorem toRec_any (d : RecV) (w : World) : Calls Try.prog 7 #[d.val] w fun e w' => e = .returned d.val ∧ Below w.heap.size w w' := by
  unfold RecV.val
  go_enter Try.func7, Try.ntmps7
  go_wp2
  exact bodyPost_ret (v := .agg #[.int .i64 d.tm, .int .i64 d.node, .int .i64 d.kind, .int .i64 d.pa, .int .i64 d.pb, .int .i64 d.pc]) (by simp [results, Try.results7, go_sem]) rfl ⟨rfl, (((Below.refl _ _).alloc (Nat.le_refl _) _).alloc (by simp) _).alloc (by simp; omega) _⟩
set_option maxHeartbeats 1000000 in
set_option maxRecDepth 100000 in
theorem eqRec_same (d : RecV) (w : World) : Calls Try.prog 27 #[d.val, d.val] w fun r w' => r = .returned (.bool true) ∧ Below w.heap.size w w' := by
  unfold RecV.val
  go_enter Try.func27, Try.ntmps27
  go_wp2
  go_ret
  exact ⟨rfl, ((Below.refl _ _).alloc (Nat.le_refl _) _).alloc (by simp) _⟩
set_option maxHeartbeats 1000000 in
set_option maxRecDepth 100000 in
theorem toRecs_any (a : Option Addr) (cap : Nat) (l : List RecV) (w : World) (hl : l.length ≤ 1048576) (hrow : CellRow w a (cellsOf RecV.cells l)) :
    Calls Try.prog 13 #[.slice a l.length cap] w fun e w' => e = .returned (.slice (some ⟨w.heap.size, 0, none⟩) l.length l.length) ∧ OwnCells w' w.heap.size (some ⟨w.heap.size, 0, none⟩) (cellsOf RecV.cells l) ∧ Below w.heap.size w w' := by
  obtain ⟨i0, hi0, hz⟩ := Option.map_eq_some_iff.1 Try.infoRec
  simp only [Prod.mk.injEq] at hz
  obtain ⟨wm, hmk, hown, hgr⟩ := run_make_full (P := Try.prog) w w.heap.size 32 25 i0 _ 6 Try.underlying32 hi0 hz.1 hz.2.1 .i64 .i64 l.length (by rw [hz.2.2]; omega) (by unfold maxLen; omega) (Nat.le_refl _)
  obtain ⟨Z, hZ⟩ : ∃ Z : List Value, Z.length = l.length * 6 ∧ OwnCells wm w.heap.size (some ⟨w.heap.size, 0, none⟩) Z := by
    refine ⟨_, hown.1, ?_⟩
    by_cases h0 : l.length = 0
    · exact .inl (List.eq_nil_of_length_eq_zero (by rw [hown.1, h0]))
    · exact .inr ⟨w.heap.size, 0, rfl, Nat.le_refl _, (hown.lt _ rfl).2, fun i hi => by rw [Nat.zero_add, hown.cellAt i (by rw [hown.1] at hi; exact hi), List.getElem?_eq_getElem hi], fun i _ => hown.frozenAt _⟩
  have hZl := hZ.1
  have hZo := hZ.2
  have hb0 : Below w.heap.size w wm := (Below.refl _ _).grown hgr (Nat.le_refl _) (fun k e => by cases e)
  clear hown hgr hZ
  go_enter Try.func13, Try.ntmps13
  go_wp2
  go_loopw [4] (fun i wr => ∃ k : Nat, k ≤ l.length ∧ i = .int .i64 k ∧ OwnCells wr w.heap.size (some ⟨w.heap.size, 0, none⟩) (cellsOf RecV.cells (l.take k) ++ Z.drop (k * 6)) ∧ Below w.heap.size w wr) (fun i _ => l.length - (intOf i).toNat)
  case atStart => exact ⟨0, Nat.zero_le _, rfl, by simpa [cellsOf] using hZo, hb0⟩
  case round =>
    obtain ⟨k, hk, rfl, ho, hb⟩ := hrel
    clear hmk hb0 hZo
    by_cases hx : k < l.length
    · obtain ⟨b, off, rfl⟩ := hrow.addr (by rw [cellsOf_length RecV.cells_len]; omega)
      have hrow2 := hrow.keep hb
      obtain ⟨x1, x2, x3, x4, x5, x6, hlx⟩ : ∃ x1 x2 x3 x4 x5 x6, l[k] = ⟨x1, x2, x3, x4, x5, x6⟩ := ⟨_, _, _, _, _, _, rfl⟩
      have q0 := hrow2.thing0 RecV.cells_len (i := k) (v := .int .i64 x1) hx (by omega) (by rw [hlx]; rfl)
      have q1 := hrow2.thingj RecV.cells_len (i := k) (j := 1) (v := .int .i64 x2) hx (by omega) (by rw [hlx]; rfl)
      have q2 := hrow2.thingj RecV.cells_len (i := k) (j := 2) (v := .int .i64 x3) hx (by omega) (by rw [hlx]; rfl)
      have q3 := hrow2.thingj RecV.cells_len (i := k) (j := 3) (v := .int .i64 x4) hx (by omega) (by rw [hlx]; rfl)
      have q4 := hrow2.thingj RecV.cells_len (i := k) (j := 4) (v := .int .i64 x5) hx (by omega) (by rw [hlx]; rfl)
      have q5 := hrow2.thingj RecV.cells_len (i := k) (j := 5) (v := .int .i64 x6) hx (by omega) (by rw [hlx]; rfl)
      have hTl : (cellsOf RecV.cells (l.take k) ++ Z.drop (k * 6)).length = l.length * 6 := by
        rw [List.length_append, cellsOf_length RecV.cells_len, List.length_take, List.length_drop, Nat.min_eq_left hk, hZl]; omega
      have HT : Hid (((((((cellsOf RecV.cells (l.take k) ++ Z.drop (k * 6)).set (k * 6) (.int .i64 x1)).set (k * 6 + 1) (.int .i64 x2)).set (k * 6 + 2) (.int .i64 x3)).set (k * 6 + 3) (.int .i64 x4)).set (k * 6 + 4) (.int .i64 x5)).set (k * 6 + 5) (.int .i64 x6) = cellsOf RecV.cells (l.take (k + 1)) ++ Z.drop ((k + 1) * 6)) := by
        show _ = _
        have hd : Z.drop (k * 6) = Z[k * 6]'(by omega) :: Z[k * 6 + 1]'(by omega) :: Z[k * 6 + 2]'(by omega) :: Z[k * 6 + 3]'(by omega) :: Z[k * 6 + 4]'(by omega) :: Z[k * 6 + 5]'(by omega) :: Z.drop ((k + 1) * 6) := by
          rw [List.drop_eq_getElem_cons (by omega), List.drop_eq_getElem_cons (by omega), List.drop_eq_getElem_cons (by omega), List.drop_eq_getElem_cons (by omega), List.drop_eq_getElem_cons (by omega), List.drop_eq_getElem_cons (by omega), show (k + 1) * 6 = k * 6 + 1 + 1 + 1 + 1 + 1 + 1 by omega]
        rw [hd, set_six (by rw [cellsOf_length RecV.cells_len, List.length_take, Nat.min_eq_left hk]), List.take_succ_eq_append_getElem hx, cellsOf_append, hlx, List.append_assoc]
        rfl
      go_wp2_with fail
      refine (toRec_any ⟨x1, x2, x3, x4, x5, x6⟩ _).mono ?_
      rintro e y1 ⟨rfl, by1⟩
      unfold RecV.val
      have ho1 := ho.keep by1
      obtain ⟨c0, f0⟩ := ho1.at0 (n := k * 6) (by omega)
      obtain ⟨c1, f1⟩ := ho1.at0 (n := k * 6 + 1) (by omega)
      obtain ⟨c2, f2⟩ := ho1.at0 (n := k * 6 + 2) (by omega)
      obtain ⟨c3, f3⟩ := ho1.at0 (n := k * 6 + 3) (by omega)
      obtain ⟨c4, f4⟩ := ho1.at0 (n := k * 6 + 4) (by omega)
      obtain ⟨c5, f5⟩ := ho1.at0 (n := k * 6 + 5) (by omega)
      obtain ⟨t0, ht0⟩ : ∃ t, (cellsOf RecV.cells (l.take k) ++ Z.drop (k * 6))[k * 6]'(by omega) = t := ⟨_, rfl⟩
      obtain ⟨t1, ht1⟩ : ∃ t, (cellsOf RecV.cells (l.take k) ++ Z.drop (k * 6))[k * 6 + 1]'(by omega) = t := ⟨_, rfl⟩
      obtain ⟨t2, ht2⟩ : ∃ t, (cellsOf RecV.cells (l.take k) ++ Z.drop (k * 6))[k * 6 + 2]'(by omega) = t := ⟨_, rfl⟩
      obtain ⟨t3, ht3⟩ : ∃ t, (cellsOf RecV.cells (l.take k) ++ Z.drop (k * 6))[k * 6 + 3]'(by omega) = t := ⟨_, rfl⟩
      obtain ⟨t4, ht4⟩ : ∃ t, (cellsOf RecV.cells (l.take k) ++ Z.drop (k * 6))[k * 6 + 4]'(by omega) = t := ⟨_, rfl⟩
      obtain ⟨t5, ht5⟩ : ∃ t, (cellsOf RecV.cells (l.take k) ++ Z.drop (k * 6))[k * 6 + 5]'(by omega) = t := ⟨_, rfl⟩
      rw [ht0] at c0
      rw [ht1] at c1
      rw [ht2] at c2
      rw [ht3] at c3
      rw [ht4] at c4
      rw [ht5] at c5
      have HO : Hid (OwnCells ((((((y1.setCell ⟨w.heap.size, k * 6, none⟩ (.int .i64 x1)).setCell ⟨w.heap.size, k * 6 + 1, none⟩ (.int .i64 x2)).setCell ⟨w.heap.size, k * 6 + 2, none⟩ (.int .i64 x3)).setCell ⟨w.heap.size, k * 6 + 3, none⟩ (.int .i64 x4)).setCell ⟨w.heap.size, k * 6 + 4, none⟩ (.int .i64 x5)).setCell ⟨w.heap.size, k * 6 + 5, none⟩ (.int .i64 x6)) w.heap.size (some ⟨w.heap.size, 0, none⟩) (cellsOf RecV.cells (l.take (k + 1)) ++ Z.drop ((k + 1) * 6))) := by
        have h := (((((ho1.put0 (n := k * 6) (.int .i64 x1) (by omega)).put0 (n := k * 6 + 1) (.int .i64 x2) (by simp only [List.length_set]; omega)).put0 (n := k * 6 + 2) (.int .i64 x3) (by simp only [List.length_set]; omega)).put0 (n := k * 6 + 3) (.int .i64 x4) (by simp only [List.length_set]; omega)).put0 (n := k * 6 + 4) (.int .i64 x5) (by simp only [List.length_set]; omega)).put0 (n := k * 6 + 5) (.int .i64 x6) (by simp only [List.length_set]; omega)
        rw [HT.out] at h
        exact h
      have hb1 := hb.trans (by1.mono hb.size)
      have HB : Hid (Below w.heap.size w ((((((y1.setCell ⟨w.heap.size, k * 6, none⟩ (.int .i64 x1)).setCell ⟨w.heap.size, k * 6 + 1, none⟩ (.int .i64 x2)).setCell ⟨w.heap.size, k * 6 + 2, none⟩ (.int .i64 x3)).setCell ⟨w.heap.size, k * 6 + 3, none⟩ (.int .i64 x4)).setCell ⟨w.heap.size, k * 6 + 4, none⟩ (.int .i64 x5)).setCell ⟨w.heap.size, k * 6 + 5, none⟩ (.int .i64 x6))) := (((((hb1.setCell (Nat.le_refl _) _).setCell (Nat.le_refl _) _).setCell (Nat.le_refl _) _).setCell (Nat.le_refl _) _).setCell (Nat.le_refl _) _).setCell (Nat.le_refl _) _
      clear ho ho1 hb hb1 by1 HT hTl ht0 ht1 ht2 ht3 ht4 ht5 q0 q1 q2 q3 q4 q5 hrow2 hlx
      have hx' : (k : Int) < (l.length : Int) := by omega
      go_wp2
      go_roundw
      case rel => exact ⟨k + 1, by omega, by go_num, HO.out, HB.out⟩
      case measure => simp [intOf]; omega
    · obtain rfl : k = l.length := by omega
      rw [List.take_length, List.drop_eq_nil_of_le (by omega), List.append_nil] at ho
      go_wp2
      go_ret
      exact ⟨rfl, ho, hb⟩
set_option maxHeartbeats 1000000 in
set_option maxRecDepth 100000 in
theorem eqRecs_same (a1 : Option Addr) (c1 : Nat) (a2 : Option Addr) (c2 : Nat) (l : List RecV) (w : World) (hl : l.length ≤ 1048576) (h1 : CellRow w a1 (cellsOf RecV.cells l)) (h2 : CellRow w a2 (cellsOf RecV.cells l)) :
    Calls Try.prog 15 #[.slice a1 l.length c1, .slice a2 l.length c2] w fun e w' => e = .returned (.bool true) ∧ Below w.heap.size w w' := by
  go_enter Try.func15, Try.ntmps15
  go_wp2
  go_loopw [5] (fun i wr => ∃ k : Nat, k ≤ l.length ∧ i = .int .i64 k ∧ Below w.heap.size w wr) (fun i _ => l.length - (intOf i).toNat)
  case atStart => exact ⟨0, Nat.zero_le _, rfl, Below.refl _ _⟩
  case round =>
    obtain ⟨k, hk, rfl, hb⟩ := hrel
    by_cases hx : k < l.length
    · obtain ⟨b1, o1, rfl⟩ := h1.addr (by rw [cellsOf_length RecV.cells_len]; omega)
      obtain ⟨b2, o2, rfl⟩ := h2.addr (by rw [cellsOf_length RecV.cells_len]; omega)
      have r1 := h1.keep hb
      have r2 := h2.keep hb
      obtain ⟨x1, x2, x3, x4, x5, x6, hlx⟩ : ∃ x1 x2 x3 x4 x5 x6, l[k] = ⟨x1, x2, x3, x4, x5, x6⟩ := ⟨_, _, _, _, _, _, rfl⟩
      have q0 := r1.thing0 RecV.cells_len (i := k) (v := .int .i64 x1) hx (by omega) (by rw [hlx]; rfl)
      have q1 := r1.thingj RecV.cells_len (i := k) (j := 1) (v := .int .i64 x2) hx (by omega) (by rw [hlx]; rfl)
      have q2 := r1.thingj RecV.cells_len (i := k) (j := 2) (v := .int .i64 x3) hx (by omega) (by rw [hlx]; rfl)
      have q3 := r1.thingj RecV.cells_len (i := k) (j := 3) (v := .int .i64 x4) hx (by omega) (by rw [hlx]; rfl)
      have q4 := r1.thingj RecV.cells_len (i := k) (j := 4) (v := .int .i64 x5) hx (by omega) (by rw [hlx]; rfl)
      have q5 := r1.thingj RecV.cells_len (i := k) (j := 5) (v := .int .i64 x6) hx (by omega) (by rw [hlx]; rfl)
      have p0 := r2.thing0 RecV.cells_len (i := k) (v := .int .i64 x1) hx (by omega) (by rw [hlx]; rfl)
      have p1 := r2.thingj RecV.cells_len (i := k) (j := 1) (v := .int .i64 x2) hx (by omega) (by rw [hlx]; rfl)
      have p2 := r2.thingj RecV.cells_len (i := k) (j := 2) (v := .int .i64 x3) hx (by omega) (by rw [hlx]; rfl)
      have p3 := r2.thingj RecV.cells_len (i := k) (j := 3) (v := .int .i64 x4) hx (by omega) (by rw [hlx]; rfl)
      have p4 := r2.thingj RecV.cells_len (i := k) (j := 4) (v := .int .i64 x5) hx (by omega) (by rw [hlx]; rfl)
      have p5 := r2.thingj RecV.cells_len (i := k) (j := 5) (v := .int .i64 x6) hx (by omega) (by rw [hlx]; rfl)
      have hx' : (k : Int) < (l.length : Int) := by omega
      clear r1 r2 hlx
      go_wp2
      go_region_with (go_at_call 27; refine (eqRec_same ⟨x1, x2, x3, x4, x5, x6⟩ _).mono ?_; rintro e y1 ⟨rfl, by1⟩)
      all_goals
        have hb1 := hb.drew.trans (by1.mono hb.size)
        go_wp2
        go_roundw
        case rel => exact ⟨k + 1, by omega, by go_num, hb1⟩
        case measure => simp [intOf]; omega
    · obtain rfl : k = l.length := by omega
      go_wp2
      go_ret
      exact ⟨rfl, hb⟩
/-- What is left of a measure, or -1. -/
def leftOf (left : Int) (n : Nat) : Int := if left < (n : Int) then -1 else left - n
set_option maxRecDepth 100000 in
theorem szRecs_any (a : Option Addr) (cap : Nat) (n : Nat) (left : Int) (w : World) (h0 : 0 ≤ left) (h1 : left ≤ 1048576) (hl : n ≤ 9223372036854775807) :
    Calls Try.prog 11 #[.slice a n cap, .int .i64 left] w fun e w' => e = .returned (.int .i64 (leftOf left n)) ∧ w = w' := by
  have hw : IntKind.i64.wrap (left - (n : Int)) = left - (n : Int) := by rw [IntKind.wrap_i64]; omega
  by_cases hx : left < (n : Int)
  · have HE : Hid (leftOf left n = -1) := if_pos hx
    have hx' : left - (n : Int) < 0 := by omega
    go_enter Try.func11, Try.ntmps11
    go_wp2
    go_ret
    exact ⟨by rw [HE.out]; rfl, rfl⟩
  · have HE : Hid (leftOf left n = left - (n : Int)) := if_neg hx
    have hx' : ¬ left - (n : Int) < 0 := by omega
    go_enter Try.func11, Try.ntmps11
    go_wp2
    go_ret
    exact ⟨by rw [HE.out]; rfl, rfl⟩
end Go.Proofs.Ytgmdgjkmdnpmiaa
