/- The contracts of the program's recsRight and RecsBytes. -/
import Derived.Test.YtgmdgjkmdnpmiaaRcsP
namespace Go.Proofs.Ytgmdgjkmdnpmiaa
open Go Go.RowKit
set_option linter.unusedVariables false
set_option linter.unusedSimpArgs false

set_option maxHeartbeats 4000000 in
set_option maxRecDepth 100000 in
theorem recsRight_any (a : Option Addr) (cap : Nat) (l : List RecV) (w : World) (q : Bool) (hq : q = true ↔ recsR l) (hl : l.length ≤ 1048576) (hrow : CellRow w a (cellsOf RecV.cells l)) :
    Calls Try.prog 25 #[.slice a l.length cap] w fun e w' => e = .returned (.bool q) ∧ Below w.heap.size w w' := by
  have HQ : Hid (q = true ↔ recsR l) := hq
  clear hq
  by_cases h4 : 400 < (l.length : Int)
  · have HF : Hid (q = false) := by
      cases q with
      | false => rfl
      | true => have := (HQ.out.1 rfl).1; omega
    clear HQ
    go_enter Try.func25, Try.ntmps25
    go_wp2
    go_ret
    exact ⟨by rw [HF.out]; rfl, Below.refl _ _⟩
  go_enter Try.func25, Try.ntmps25
  go_wp2
  go_loopw [10, 4] (fun i _ wr => ∃ k : Nat, k ≤ l.length ∧ i = .int .i64 k ∧ (∀ x ∈ l.take k, x.ok) ∧ Below w.heap.size w wr) (fun i _ _ => l.length - (intOf i).toNat)
  case atStart => exact ⟨0, Nat.zero_le _, rfl, fun x hx => by simp at hx, Below.refl _ _⟩
  case round =>
    obtain ⟨k, hk, rfl, hinv, hb⟩ := hrel
    have HI : Hid (∀ x ∈ l.take k, x.ok) := hinv
    have H400 : Hid (¬ 400 < l.length) := fun h => by omega
    clear hinv h4
    by_cases hk2 : k < l.length
    · skip
      obtain ⟨b, off, rfl⟩ := hrow.addr (by rw [cellsOf_length RecV.cells_len]; omega)
      obtain ⟨x1, x2, x3, x4, x5, x6, hlx⟩ : ∃ x1 x2 x3 x4 x5 x6, l[k] = ⟨x1, x2, x3, x4, x5, x6⟩ := ⟨_, _, _, _, _, _, rfl⟩
      have hrow2 := hrow.keep hb
      have q0 := hrow2.thing0 RecV.cells_len (i := k) (v := .int .i64 x1) hk2 (by omega) (by rw [hlx]; rfl)
      have q1 := hrow2.thingj RecV.cells_len (i := k) (j := 1) (v := .int .i64 x2) hk2 (by omega) (by rw [hlx]; rfl)
      have q2 := hrow2.thingj RecV.cells_len (i := k) (j := 2) (v := .int .i64 x3) hk2 (by omega) (by rw [hlx]; rfl)
      have q3 := hrow2.thingj RecV.cells_len (i := k) (j := 3) (v := .int .i64 x4) hk2 (by omega) (by rw [hlx]; rfl)
      have q4 := hrow2.thingj RecV.cells_len (i := k) (j := 4) (v := .int .i64 x5) hk2 (by omega) (by rw [hlx]; rfl)
      have q5 := hrow2.thingj RecV.cells_len (i := k) (j := 5) (v := .int .i64 x6) hk2 (by omega) (by rw [hlx]; rfl)
      have HL : Hid (l[k] = ⟨x1, x2, x3, x4, x5, x6⟩) := hlx
      have hk' : (k : Int) < (l.length : Int) := by omega
      have P1 := BlkIs.new wr 25 #[.int .i64 x1, .int .i64 x2, .int .i64 x3, .int .i64 x4, .int .i64 x5, .int .i64 x6]
      have b1 : Below wr.heap.size wr (wr.alloc (.cells #[.int .i64 x1, .int .i64 x2, .int .i64 x3, .int .i64 x4, .int .i64 x5, .int .i64 x6] 25)) := (Below.refl _ _).alloc (Nat.le_refl _) _
      obtain ⟨Y, hY⟩ : ∃ Y, wr.alloc (.cells #[.int .i64 x1, .int .i64 x2, .int .i64 x3, .int .i64 x4, .int .i64 x5, .int .i64 x6] 25) = Y := ⟨_, rfl⟩
      rw [hY] at P1 b1
      have HY : Hid (_ = Y) := hY
      clear hlx hrow2 hY
      obtain ⟨r, hr⟩ := tells_bool (RecV.ok ⟨x1, x2, x3, x4, x5, x6⟩)
      have HR : Hid (r = true ↔ RecV.ok ⟨x1, x2, x3, x4, x5, x6⟩) := hr
      clear hr
      go_upto_region 6 with fail
      rw [HY.out]
      clear HY q0 q1 q2 q3 q4 q5
      have p0 : Y.cell? ⟨wr.heap.size, 0, none⟩ = some (.int .i64 x1) := P1.cell 0
      have p1 : Y.cell? ⟨wr.heap.size, 1, none⟩ = some (.int .i64 x2) := P1.cell 1
      have p2 : Y.cell? ⟨wr.heap.size, 2, none⟩ = some (.int .i64 x3) := P1.cell 2
      have p3 : Y.cell? ⟨wr.heap.size, 3, none⟩ = some (.int .i64 x4) := P1.cell 3
      have p4 : Y.cell? ⟨wr.heap.size, 4, none⟩ = some (.int .i64 x5) := P1.cell 4
      have p5 : Y.cell? ⟨wr.heap.size, 5, none⟩ = some (.int .i64 x6) := P1.cell 5
      go_wp2_with fail
      refine (implRec_is ⟨x1, x2, x3, x4, x5, x6⟩ _ r HR.out).mono ?_
      rintro e z ⟨rfl, bz⟩
      have hb2 := (hb.trans (b1.mono hb.size)).trans (bz.mono (Nat.le_trans hb.size b1.size))
      clear b1 bz hb p0 p1 p2 p3 p4 p5 P1
      cases r with
      | false =>
        have HF : Hid (q = false) := by
          cases q with
          | false => rfl
          | true =>
            have h := (HQ.out.1 rfl).2 l[k] (List.getElem_mem hk2)
            rw [HL.out] at h
            have := HR.out.2 h
            cases this
        go_wp2
        go_ret
        exact ⟨by rw [HF.out]; rfl, hb2⟩
      | true =>
        have HO : Hid (RecV.ok ⟨x1, x2, x3, x4, x5, x6⟩) := show RecV.ok ⟨x1, x2, x3, x4, x5, x6⟩ from by simpa using HR.out
        have HJ : Hid (∀ x ∈ l.take (k + 1), x.ok) := by
          intro x hx
          rw [List.take_succ_eq_append_getElem hk2, List.mem_append, HL.out] at hx
          rcases hx with hx | hx
          · exact HI.out x hx
          · simp only [List.mem_singleton] at hx
            rw [hx]; exact HO.out
        clear HI HR HO HL
        go_wp2
        go_roundw
        case rel => exact ⟨k + 1, by omega, by go_num, HJ.out, hb2⟩
        case measure => simp [intOf]; omega
    · obtain rfl : k = l.length := by omega
      have HT : Hid (q = true ∨ 400 < l.length) := by
        by_cases h : l.length ≤ 400
        · left
          refine HQ.out.2 ⟨h, ?_⟩
          have := HI.out
          rwa [List.take_length] at this
        · right; omega
      have HF : Hid (q = true) := by
        rcases HT.out with h | h
        · exact h
        · exact absurd h H400.out
      go_wp2
      go_ret
      exact ⟨by rw [HF.out]; rfl, hb⟩
def recVs (l : List RecV) : List Value := l.map fun x => Value.string ⟨x.bytes.toArray⟩
theorem recVs_length (l : List RecV) : (recVs l).length = l.length := by simp [recVs]
theorem recVs_step {l : List RecV} {Z : List Value} {k : Nat} (hk : k < l.length) (hZ : Z.length = l.length) {x : RecV} (hx : l[k] = x) : (recVs (l.take k) ++ Z.drop k).set k (.string ⟨x.bytes.toArray⟩) = recVs (l.take (k + 1)) ++ Z.drop (k + 1) := by
  have hl : (recVs (l.take k)).length = k := by rw [recVs_length, List.length_take]; omega
  rw [List.set_append_right _ _ (by omega), hl, Nat.sub_self, List.drop_eq_getElem_cons (by omega), List.set_cons_zero, List.take_succ_eq_append_getElem hk, hx]
  simp only [recVs, List.map_append, List.map_cons, List.map_nil, List.append_assoc, List.cons_append, List.nil_append]
set_option maxHeartbeats 4000000 in
set_option maxRecDepth 100000 in
theorem implRecsB_any (a : Option Addr) (cap : Nat) (l : List RecV) (w : World) (q : Bool) (hq : q = true ↔ recsR l) (hl : l.length ≤ 1048576) (hrow : CellRow w a (cellsOf RecV.cells l)) :
    Calls Try.prog 14 #[.slice a l.length cap] w fun e w' => e = .returned (.string ⟨(recsO l q).toArray⟩) ∧ Below w.heap.size w w' := by
  have HQ : Hid (q = true ↔ recsR l) := hq
  clear hq
  go_enter Try.func14, Try.ntmps14
  go_wp2_with fail
  refine (recsRight_any a cap l _ q HQ.out hl hrow).mono ?_
  rintro e X ⟨rfl, bx⟩
  cases q with
  | false =>
    go_wp2
    go_ret
    exact ⟨rfl, bx⟩
  | true =>
  have hrr : recsR l := by simpa using HQ.out
  have h400 : l.length ≤ 400 := hrr.1
  have HRR : Hid (recsR l) := hrr
  have hrow0 := hrow.keep bx
  clear HQ hrr hrow
  obtain ⟨i0, hi0, hz⟩ := Option.map_eq_some_iff.1 Try.infoStr
  simp only [Prod.mk.injEq] at hz
  obtain ⟨wm, hmk, hown, hgr⟩ := run_make_full (P := Try.prog) X X.heap.size 46 9 i0 _ 1 Try.underlying46 hi0 hz.1 hz.2.1 .i64 .i64 l.length (by rw [hz.2.2]; omega) (by unfold maxLen; omega) (Nat.le_refl _)
  have hltm : X.heap.size < wm.heap.size := (hown.lt _ rfl).2
  obtain ⟨Z, hZ⟩ : ∃ Z : List Value, Z.length = l.length ∧ OwnCells wm X.heap.size (some ⟨X.heap.size, 0, none⟩) Z := by
    refine ⟨_, by rw [hown.1]; omega, ?_⟩
    by_cases h0 : l.length = 0
    · exact .inl (List.eq_nil_of_length_eq_zero (by rw [hown.1, h0]))
    · exact .inr ⟨X.heap.size, 0, rfl, Nat.le_refl _, (hown.lt _ rfl).2, fun i hi => by rw [Nat.zero_add, hown.cellAt i (by rw [hown.1] at hi; exact hi), List.getElem?_eq_getElem hi], fun i _ => hown.frozenAt _⟩
  have hZl := hZ.1
  have hZo := hZ.2
  have hb0 : Below X.heap.size X wm := (Below.refl _ _).grown hgr (Nat.le_refl _) (fun k e => by cases e)
  clear hown hgr hZ
  go_wp2
  go_loopw [15, 4, 5] (fun i _ _ wr => ∃ k : Nat, k ≤ l.length ∧ i = .int .i64 k ∧ OwnCells wr X.heap.size (some ⟨X.heap.size, 0, none⟩) (recVs (l.take k) ++ Z.drop k) ∧ Below X.heap.size X wr ∧ X.heap.size < wr.heap.size) (fun i _ _ _ => l.length - (intOf i).toNat)
  case atStart => exact ⟨0, Nat.zero_le _, rfl, by simpa [recVs] using hZo, hb0, hltm⟩
  case round =>
    obtain ⟨k, hk, rfl, ho, hb, hlt⟩ := hrel
    clear hmk hb0 hZo hltm
    by_cases hk2 : k < l.length
    · have hrow := hrow0
      obtain ⟨b, off, rfl⟩ := hrow.addr (by rw [cellsOf_length RecV.cells_len]; omega)
      obtain ⟨x1, x2, x3, x4, x5, x6, hlx⟩ : ∃ x1 x2 x3 x4 x5 x6, l[k] = ⟨x1, x2, x3, x4, x5, x6⟩ := ⟨_, _, _, _, _, _, rfl⟩
      have hrow2 := hrow.keep hb
      have q0 := hrow2.thing0 RecV.cells_len (i := k) (v := .int .i64 x1) hk2 (by omega) (by rw [hlx]; rfl)
      have q1 := hrow2.thingj RecV.cells_len (i := k) (j := 1) (v := .int .i64 x2) hk2 (by omega) (by rw [hlx]; rfl)
      have q2 := hrow2.thingj RecV.cells_len (i := k) (j := 2) (v := .int .i64 x3) hk2 (by omega) (by rw [hlx]; rfl)
      have q3 := hrow2.thingj RecV.cells_len (i := k) (j := 3) (v := .int .i64 x4) hk2 (by omega) (by rw [hlx]; rfl)
      have q4 := hrow2.thingj RecV.cells_len (i := k) (j := 4) (v := .int .i64 x5) hk2 (by omega) (by rw [hlx]; rfl)
      have q5 := hrow2.thingj RecV.cells_len (i := k) (j := 5) (v := .int .i64 x6) hk2 (by omega) (by rw [hlx]; rfl)
      have HL : Hid (l[k] = ⟨x1, x2, x3, x4, x5, x6⟩) := hlx
      have hk' : (k : Int) < (l.length : Int) := by omega
      have P1 := BlkIs.new wr 25 #[.int .i64 x1, .int .i64 x2, .int .i64 x3, .int .i64 x4, .int .i64 x5, .int .i64 x6]
      have b1 : Below wr.heap.size wr (wr.alloc (.cells #[.int .i64 x1, .int .i64 x2, .int .i64 x3, .int .i64 x4, .int .i64 x5, .int .i64 x6] 25)) := (Below.refl _ _).alloc (Nat.le_refl _) _
      obtain ⟨Y, hY⟩ : ∃ Y, wr.alloc (.cells #[.int .i64 x1, .int .i64 x2, .int .i64 x3, .int .i64 x4, .int .i64 x5, .int .i64 x6] 25) = Y := ⟨_, rfl⟩
      rw [hY] at P1 b1
      have HY : Hid (_ = Y) := hY
      clear hlx hrow2 hY
      have HT : Hid ((recVs (l.take k) ++ Z.drop k).set k (.string ⟨(RecV.bytes ⟨x1, x2, x3, x4, x5, x6⟩).toArray⟩) = recVs (l.take (k + 1)) ++ Z.drop (k + 1)) := recVs_step hk2 hZl HL.out
      have hTl : k < (recVs (l.take k) ++ Z.drop k).length := by rw [List.length_append, recVs_length, List.length_take, List.length_drop]; omega
      have HO : Hid (RecV.ok ⟨x1, x2, x3, x4, x5, x6⟩) := by have := HRR.out.2 l[k] (List.getElem_mem hk2); rwa [HL.out] at this
      go_upto_region 7 with fail
      rw [HY.out]
      clear HY q0 q1 q2 q3 q4 q5
      have p0 : Y.cell? ⟨wr.heap.size, 0, none⟩ = some (.int .i64 x1) := P1.cell 0
      have p1 : Y.cell? ⟨wr.heap.size, 1, none⟩ = some (.int .i64 x2) := P1.cell 1
      have p2 : Y.cell? ⟨wr.heap.size, 2, none⟩ = some (.int .i64 x3) := P1.cell 2
      have p3 : Y.cell? ⟨wr.heap.size, 3, none⟩ = some (.int .i64 x4) := P1.cell 3
      have p4 : Y.cell? ⟨wr.heap.size, 4, none⟩ = some (.int .i64 x5) := P1.cell 4
      have p5 : Y.cell? ⟨wr.heap.size, 5, none⟩ = some (.int .i64 x6) := P1.cell 5
      go_wp2_with fail
      refine (implRecB_any ⟨x1, x2, x3, x4, x5, x6⟩ _ true ⟨fun _ => HO.out, fun _ => rfl⟩).mono ?_
      rintro e z ⟨rfl, bz⟩
      have e0 : RecV.out ⟨x1, x2, x3, x4, x5, x6⟩ true = RecV.bytes ⟨x1, x2, x3, x4, x5, x6⟩ := rfl
      rw [e0]
      have ox := (ho.keep b1).keep bz
      have b3 := (hb.trans (b1.mono hb.size)).trans (bz.mono (Nat.le_trans hb.size b1.size))
      have hlt3 : X.heap.size < z.heap.size := Nat.lt_of_lt_of_le hlt (Nat.le_trans b1.size bz.size)
      obtain ⟨f0, f1⟩ := ox.at0 hTl
      have o2 := ox.put0 (.string ⟨(RecV.bytes ⟨x1, x2, x3, x4, x5, x6⟩).toArray⟩) hTl
      rw [HT.out] at o2
      have b4 := b3.setCell (p := ⟨X.heap.size, k, none⟩) (Nat.le_refl _) (.string ⟨(RecV.bytes ⟨x1, x2, x3, x4, x5, x6⟩).toArray⟩)
      have hlt4 : X.heap.size < (z.setCell ⟨X.heap.size, k, none⟩ (.string ⟨(RecV.bytes ⟨x1, x2, x3, x4, x5, x6⟩).toArray⟩)).heap.size := by simpa [World.setCell] using hlt3
      have HO2 : Hid (OwnCells _ _ _ _) := o2
      have HB2 : Hid (Below _ _ _) := b4
      have HLT : Hid (_ < _) := hlt4
      clear ho ox b3 hb b1 bz p0 p1 p2 p3 p4 p5 P1 HO HT HL e0 hlt hlt3 hlt4 o2 b4
      go_wp2
      go_roundw
      case rel => exact ⟨k + 1, by omega, by go_num, HO2.out, HB2.out, HLT.out⟩
      case measure => simp [intOf]; omega
    · obtain rfl : k = l.length := by omega
      rw [List.take_length, List.drop_eq_nil_of_le (by omega), List.append_nil] at ho
      have hcells : ∀ j (h : j < (l.map fun x => (⟨x.bytes.toArray⟩ : ByteArray)).length), wr.cell? ⟨X.heap.size, j, none⟩ = some (.string (l.map fun x => (⟨x.bytes.toArray⟩ : ByteArray))[j]) := fun j hj => by
        rw [List.length_map] at hj
        rw [(ho.at0 (by rw [recVs_length]; exact hj)).1]
        simp [recVs]
      have hlen := recsB_len l
      have hsum : (cat (l.map fun x => (⟨x.bytes.toArray⟩ : ByteArray))).length ≤ 1000000000 := by
        rw [recsB_cat]
        omega
      have hjn := joined_any (l.map fun x => (⟨x.bytes.toArray⟩ : ByteArray)) X.heap.size l.length wr (by rw [List.length_map]; omega) hsum hlt hcells
      rw [recsB_cat, List.length_map] at hjn
      have HJ : Hid (Calls Try.prog 26 #[.slice (some ⟨X.heap.size, 0, none⟩) l.length l.length] wr fun e w' => e = .returned (.string ⟨(recsB l).toArray⟩) ∧ Below wr.heap.size wr w') := hjn
      obtain ⟨s, hs⟩ : ∃ s, recsB l = s := ⟨_, rfl⟩
      have HV : Hid (recsO l true = if 8000 < (s.length : Int) then [] else s) := by show _ = _; rw [← hs]; rfl
      rw [hs] at HJ
      clear hjn hsum hcells ho hs hlen
      have bw := bx.trans (hb.mono bx.size)
      go_wp2_with fail
      refine HJ.out.mono ?_
      rintro e x ⟨rfl, bz⟩
      have b1 := bw.trans (bz.mono bw.size)
      clear bz HJ bw hb
      have hsz : (⟨s.toArray⟩ : ByteArray).size = s.length := size_mkB s
      by_cases h8 : 8000 < (s.length : Int)
      · have HF : Hid (recsO l true = []) := by show _ = _; rw [HV.out, if_pos h8]
        clear HV
        go_wp2
        go_ret
        exact ⟨by rw [HF.out]; rfl, b1⟩
      · have HF : Hid (recsO l true = s) := by show _ = _; rw [HV.out, if_neg h8]
        clear HV
        go_wp2
        go_ret
        exact ⟨by rw [HF.out]; rfl, b1⟩
end Go.Proofs.Ytgmdgjkmdnpmiaa
