/- The contracts of the exact laws' helpers over rumors: copy and compare. -/
import Derived.Test.YtmdcankfjmkkeaaGreatG11
import Derived.Test.YtmdcankfjmkkeaaGreatG3
import Derived.Test.YtmdcankfjmkkeaaGreatG4
namespace Go.Proofs.YtmdcankfjmkkeaaGreat
open Go Go.RowKit
set_option linter.unusedVariables false

theorem Tryz.infoRum : (Tryz.prog.info? 59).map (fun i => (i.zero, i.size, i.bytes)) = some (some (.agg #[.int .i64 0, .int .i64 0, .int .i64 0, .int .i64 0]), 4, 32) := by kernel_rfl
theorem blk_put4 {W : World} {b t : Nat} {u0 u1 u2 u3 : Value} (h : BlkIs W b t #[u0, u1, u2, u3]) (v0 v1 v2 v3 : Value) : BlkIs ((((W.setCell ⟨b, 0, none⟩ v0).setCell ⟨b, 1, none⟩ v1).setCell ⟨b, 2, none⟩ v2).setCell ⟨b, 3, none⟩ v3) b t #[v0, v1, v2, v3] := by
  have := (((h.put 0 v0).put 1 v1).put 2 v2).put 3 v3
  simpa using this
theorem keeps_four (w : World) (b : Nat) (v0 v1 v2 v3 : Value) : Keeps (fun k => k ≠ b) w ((((w.setCell ⟨b, 0, none⟩ v0).setCell ⟨b, 1, none⟩ v1).setCell ⟨b, 2, none⟩ v2).setCell ⟨b, 3, none⟩ v3) :=
  ((((Keeps.refl _ _).setCell (fun h => h rfl) _).setCell (fun h => h rfl) _).setCell (fun h => h rfl) _).setCell (fun h => h rfl) _
theorem below_four {n : Nat} {a w : World} (h : Below n a w) (b : Nat) (hb : n ≤ b) (v0 v1 v2 v3 : Value) : Below n a ((((w.setCell ⟨b, 0, none⟩ v0).setCell ⟨b, 1, none⟩ v1).setCell ⟨b, 2, none⟩ v2).setCell ⟨b, 3, none⟩ v3) := (((h.setCell hb _).setCell hb _).setCell hb _).setCell hb _
set_option maxHeartbeats 1000000 in
set_option maxRecDepth 100000 in
theorem toRum_any (d : RumV) (w : World) : Calls Tryz.prog 166 #[d.val] w fun e w' => e = .returned d.val ∧ Below w.heap.size w w' := by
  obtain ⟨x1, x2, x3, x4⟩ := d
  unfold RumV.val
  have B0 : Below w.heap.size w (((w.alloc (.cells #[.int .i64 x1, .int .i64 x2, .int .i64 x3, .int .i64 x4] 188)).alloc (.cells #[.int .i64 0, .int .i64 0, .int .i64 0, .int .i64 0] 59)).alloc (.cells #[.int .i64 0, .int .i64 0, .int .i64 0, .int .i64 0] 59)) := (((Below.refl _ _).alloc (Nat.le_refl _) _).alloc (by simp) _).alloc (by simp; omega) _
  have P0 := ((BlkIs.new w 188 #[.int .i64 x1, .int .i64 x2, .int .i64 x3, .int .i64 x4]).keep ((Below.refl _ _).alloc (Nat.le_refl _) (.cells #[.int .i64 0, .int .i64 0, .int .i64 0, .int .i64 0] 59))).keep ((Below.refl _ _).alloc (Nat.le_refl _) (.cells #[.int .i64 0, .int .i64 0, .int .i64 0, .int .i64 0] 59))
  have P1 := (BlkIs.new (w.alloc (.cells #[.int .i64 x1, .int .i64 x2, .int .i64 x3, .int .i64 x4] 188)) 59 #[.int .i64 0, .int .i64 0, .int .i64 0, .int .i64 0]).keep ((Below.refl _ _).alloc (Nat.le_refl _) (.cells #[.int .i64 0, .int .i64 0, .int .i64 0, .int .i64 0] 59))
  have P2 := BlkIs.new ((w.alloc (.cells #[.int .i64 x1, .int .i64 x2, .int .i64 x3, .int .i64 x4] 188)).alloc (.cells #[.int .i64 0, .int .i64 0, .int .i64 0, .int .i64 0] 59)) 59 #[.int .i64 0, .int .i64 0, .int .i64 0, .int .i64 0]
  simp only [World.size_alloc] at P1 P2
  obtain ⟨W, hW⟩ : ∃ W, (((w.alloc (.cells #[.int .i64 x1, .int .i64 x2, .int .i64 x3, .int .i64 x4] 188)).alloc (.cells #[.int .i64 0, .int .i64 0, .int .i64 0, .int .i64 0] 59)).alloc (.cells #[.int .i64 0, .int .i64 0, .int .i64 0, .int .i64 0] 59)) = W := ⟨_, rfl⟩
  rw [hW] at B0 P0 P1 P2
  have HW : Hid (_ = W) := hW
  clear hW
  go_enter Tryz.func166, Tryz.ntmps166
  go_wp2_with fail
  rw [HW.out]
  refine (toFact_any ⟨x1, x2, x3⟩ _).mono ?_
  rintro e z ⟨rfl, bz⟩
  unfold FactV.val
  have Q0 := P0.keep bz
  have Q1 := P1.keep bz
  have Q2 := P2.keep bz
  have B1 := B0.trans (bz.mono B0.size)
  clear P0 P1 P2 bz B0 HW
  have c3 : z.cell? ⟨w.heap.size, 3, none⟩ = some (.int .i64 x4) := Q0.cell 3
  have d0 : z.cell? ⟨w.heap.size + 1, 0, none⟩ = some (.int .i64 0) := Q1.cell 0
  have d1 : z.cell? ⟨w.heap.size + 1, 1, none⟩ = some (.int .i64 0) := Q1.cell 1
  have d2 : z.cell? ⟨w.heap.size + 1, 2, none⟩ = some (.int .i64 0) := Q1.cell 2
  have d3 : z.cell? ⟨w.heap.size + 1, 3, none⟩ = some (.int .i64 0) := Q1.cell 3
  have f0 := Q1.fz 0
  have f1 := Q1.fz 1
  have f2 := Q1.fz 2
  have f3 := Q1.fz 3
  have e0 : z.cell? ⟨w.heap.size + 1 + 1, 0, none⟩ = some (.int .i64 0) := Q2.cell 0
  have e1 : z.cell? ⟨w.heap.size + 1 + 1, 1, none⟩ = some (.int .i64 0) := Q2.cell 1
  have e2 : z.cell? ⟨w.heap.size + 1 + 1, 2, none⟩ = some (.int .i64 0) := Q2.cell 2
  have e3 : z.cell? ⟨w.heap.size + 1 + 1, 3, none⟩ = some (.int .i64 0) := Q2.cell 3
  have g0 := Q2.fz 0
  have g1 := Q2.fz 1
  have g2 := Q2.fz 2
  have g3 := Q2.fz 3
  clear Q0
  go_upto_region 3 with fail
  go_cut [] (fun wc => BlkIs wc (w.heap.size + 1 + 1) 59 #[.int .i64 x1, .int .i64 x2, .int .i64 x3, .int .i64 x4] ∧ BlkIs wc (w.heap.size + 1) 59 #[.int .i64 0, .int .i64 0, .int .i64 0, .int .i64 0] ∧ Below w.heap.size w wc)
  case first =>
    go_wp2_with fail
    go_meet
    case rel =>
      exact ⟨blk_put4 Q2 _ _ _ _, Q1.keepK (keeps_four z _ _ _ _ _) (by omega), below_four B1 _ (by omega) _ _ _ _⟩
  case rest =>
    obtain ⟨R2, R1, B2⟩ := hcut
    clear c3 d0 d1 d2 d3 e0 e1 e2 e3 f0 f1 f2 f3 g0 g1 g2 g3 Q1 Q2 B1
    have d0 : wc.cell? ⟨w.heap.size + 1, 0, none⟩ = some (.int .i64 0) := R1.cell 0
    have d1 : wc.cell? ⟨w.heap.size + 1, 1, none⟩ = some (.int .i64 0) := R1.cell 1
    have d2 : wc.cell? ⟨w.heap.size + 1, 2, none⟩ = some (.int .i64 0) := R1.cell 2
    have d3 : wc.cell? ⟨w.heap.size + 1, 3, none⟩ = some (.int .i64 0) := R1.cell 3
    have e0 : wc.cell? ⟨w.heap.size + 1 + 1, 0, none⟩ = some (.int .i64 x1) := R2.cell 0
    have e1 : wc.cell? ⟨w.heap.size + 1 + 1, 1, none⟩ = some (.int .i64 x2) := R2.cell 1
    have e2 : wc.cell? ⟨w.heap.size + 1 + 1, 2, none⟩ = some (.int .i64 x3) := R2.cell 2
    have e3 : wc.cell? ⟨w.heap.size + 1 + 1, 3, none⟩ = some (.int .i64 x4) := R2.cell 3
    have f0 := R1.fz 0
    have f1 := R1.fz 1
    have f2 := R1.fz 2
    have f3 := R1.fz 3
    have RZ : BlkIs ((((wc.setCell ⟨w.heap.size + 1, 0, none⟩ (.int .i64 x1)).setCell ⟨w.heap.size + 1, 1, none⟩ (.int .i64 x2)).setCell ⟨w.heap.size + 1, 2, none⟩ (.int .i64 x3)).setCell ⟨w.heap.size + 1, 3, none⟩ (.int .i64 x4)) (w.heap.size + 1) 59 #[.int .i64 x1, .int .i64 x2, .int .i64 x3, .int .i64 x4] := blk_put4 R1 _ _ _ _
    have BZ : Below w.heap.size w ((((wc.setCell ⟨w.heap.size + 1, 0, none⟩ (.int .i64 x1)).setCell ⟨w.heap.size + 1, 1, none⟩ (.int .i64 x2)).setCell ⟨w.heap.size + 1, 2, none⟩ (.int .i64 x3)).setCell ⟨w.heap.size + 1, 3, none⟩ (.int .i64 x4)) := below_four B2 _ (by omega) _ _ _ _
    go_wp2
    obtain ⟨Z, hZ⟩ : ∃ Z, ((((wc.setCell ⟨w.heap.size + 1, 0, none⟩ (.int .i64 x1)).setCell ⟨w.heap.size + 1, 1, none⟩ (.int .i64 x2)).setCell ⟨w.heap.size + 1, 2, none⟩ (.int .i64 x3)).setCell ⟨w.heap.size + 1, 3, none⟩ (.int .i64 x4)) = Z := ⟨_, rfl⟩
    rw [hZ] at RZ BZ ⊢
    clear hZ R1 R2 B2 d0 d1 d2 d3 e0 e1 e2 e3 f0 f1 f2 f3
    have h0 : Z.cell? ⟨w.heap.size + 1, 0, none⟩ = some (.int .i64 x1) := RZ.cell 0
    have h1 : Z.cell? ⟨w.heap.size + 1, 1, none⟩ = some (.int .i64 x2) := RZ.cell 1
    have h2 : Z.cell? ⟨w.heap.size + 1, 2, none⟩ = some (.int .i64 x3) := RZ.cell 2
    have h3 : Z.cell? ⟨w.heap.size + 1, 3, none⟩ = some (.int .i64 x4) := RZ.cell 3
    exact bodyPost_ret (v := .agg #[.int .i64 x1, .int .i64 x2, .int .i64 x3, .int .i64 x4]) (by simp [results, Tryz.results166, go_sem, h0, h1, h2, h3]) rfl ⟨rfl, BZ⟩
set_option maxHeartbeats 1000000 in
set_option maxRecDepth 100000 in
theorem eqRum_same (d : RumV) (w : World) : Calls Tryz.prog 170 #[d.val, d.val] w fun r w' => r = .returned (.bool true) ∧ Below w.heap.size w w' := by
  obtain ⟨x1, x2, x3, x4⟩ := d
  have B0 : Below w.heap.size w ((w.alloc (.cells #[.int .i64 x1, .int .i64 x2, .int .i64 x3, .int .i64 x4] 59)).alloc (.cells #[.int .i64 x1, .int .i64 x2, .int .i64 x3, .int .i64 x4] 59)) := ((Below.refl _ _).alloc (Nat.le_refl _) _).alloc (by simp) _
  have P0 := (BlkIs.new w 59 #[.int .i64 x1, .int .i64 x2, .int .i64 x3, .int .i64 x4]).keep ((Below.refl _ _).alloc (Nat.le_refl _) (.cells #[.int .i64 x1, .int .i64 x2, .int .i64 x3, .int .i64 x4] 59))
  have P1 := BlkIs.new (w.alloc (.cells #[.int .i64 x1, .int .i64 x2, .int .i64 x3, .int .i64 x4] 59)) 59 #[.int .i64 x1, .int .i64 x2, .int .i64 x3, .int .i64 x4]
  rw [World.size_alloc] at P1
  obtain ⟨W, hW⟩ : ∃ W, ((w.alloc (.cells #[.int .i64 x1, .int .i64 x2, .int .i64 x3, .int .i64 x4] 59)).alloc (.cells #[.int .i64 x1, .int .i64 x2, .int .i64 x3, .int .i64 x4] 59)) = W := ⟨_, rfl⟩
  rw [hW] at B0 P0 P1
  have HW : Hid (_ = W) := hW
  clear hW
  unfold RumV.val
  go_enter Tryz.func170, Tryz.ntmps170
  go_wp2_with fail
  rw [HW.out]
  refine (eqFact_same ⟨x1, x2, x3⟩ _).mono ?_
  rintro e z ⟨rfl, bz⟩
  have c3 := (P0.keep bz).cell 3
  have d3 := (P1.keep bz).cell 3
  have B1 := B0.trans (bz.mono B0.size)
  clear P0 P1 bz B0 HW
  go_wp2
  go_ret
  exact ⟨rfl, B1⟩
set_option maxHeartbeats 1000000 in
set_option maxRecDepth 100000 in
theorem toRums_any (a : Option Addr) (cap : Nat) (l : List RumV) (w : World) (hl : l.length ≤ 1048576) (hrow : CellRow w a (cellsOf RumV.cells l)) :
    Calls Tryz.prog 105 #[.slice a l.length cap] w fun e w' => e = .returned (.slice (some ⟨w.heap.size, 0, none⟩) l.length l.length) ∧ OwnCells w' w.heap.size (some ⟨w.heap.size, 0, none⟩) (cellsOf RumV.cells l) ∧ Below w.heap.size w w' := by
  obtain ⟨i0, hi0, hz⟩ := Option.map_eq_some_iff.1 Tryz.infoRum
  simp only [Prod.mk.injEq] at hz
  obtain ⟨wm, hmk, hown, hgr⟩ := run_make_full (P := Tryz.prog) w w.heap.size 24 59 i0 _ 4 Tryz.underlying24 hi0 hz.1 hz.2.1 .i64 .i64 l.length (by rw [hz.2.2]; omega) (by unfold maxLen; omega) (Nat.le_refl _)
  obtain ⟨Z, hZ⟩ : ∃ Z : List Value, Z.length = l.length * 4 ∧ OwnCells wm w.heap.size (some ⟨w.heap.size, 0, none⟩) Z := by
    refine ⟨_, hown.1, ?_⟩
    by_cases h0 : l.length = 0
    · exact .inl (List.eq_nil_of_length_eq_zero (by rw [hown.1, h0]))
    · exact .inr ⟨w.heap.size, 0, rfl, Nat.le_refl _, (hown.lt _ rfl).2, fun i hi => by rw [Nat.zero_add, hown.cellAt i (by rw [hown.1] at hi; exact hi), List.getElem?_eq_getElem hi], fun i _ => hown.frozenAt _⟩
  have hZl := hZ.1
  have hZo := hZ.2
  have hb0 : Below w.heap.size w wm := (Below.refl _ _).grown hgr (Nat.le_refl _) (fun k e => by cases e)
  clear hown hgr hZ
  go_enter Tryz.func105, Tryz.ntmps105
  go_wp2
  go_loopw [4] (fun i wr => ∃ k : Nat, k ≤ l.length ∧ i = .int .i64 k ∧ OwnCells wr w.heap.size (some ⟨w.heap.size, 0, none⟩) (cellsOf RumV.cells (l.take k) ++ Z.drop (k * 4)) ∧ Below w.heap.size w wr) (fun i _ => l.length - (intOf i).toNat)
  case atStart => exact ⟨0, Nat.zero_le _, rfl, by simpa [cellsOf] using hZo, hb0⟩
  case round =>
    obtain ⟨k, hk, rfl, ho, hb⟩ := hrel
    clear hmk hb0 hZo
    by_cases hx : k < l.length
    · obtain ⟨b, off, rfl⟩ := hrow.addr (by rw [cellsOf_length RumV.cells_len]; omega)
      have hrow2 := hrow.keep hb
      obtain ⟨x1, x2, x3, x4, hlx⟩ : ∃ x1 x2 x3 x4, l[k] = ⟨x1, x2, x3, x4⟩ := ⟨_, _, _, _, rfl⟩
      have q0 := hrow2.thing0 RumV.cells_len (i := k) (v := .int .i64 x1) hx (by omega) (by rw [hlx]; rfl)
      have q1 := hrow2.thingj RumV.cells_len (i := k) (j := 1) (v := .int .i64 x2) hx (by omega) (by rw [hlx]; rfl)
      have q2 := hrow2.thingj RumV.cells_len (i := k) (j := 2) (v := .int .i64 x3) hx (by omega) (by rw [hlx]; rfl)
      have q3 := hrow2.thingj RumV.cells_len (i := k) (j := 3) (v := .int .i64 x4) hx (by omega) (by rw [hlx]; rfl)
      have hTl : (cellsOf RumV.cells (l.take k) ++ Z.drop (k * 4)).length = l.length * 4 := by
        rw [List.length_append, cellsOf_length RumV.cells_len, List.length_take, List.length_drop, Nat.min_eq_left hk, hZl]; omega
      have HT : Hid (((((cellsOf RumV.cells (l.take k) ++ Z.drop (k * 4)).set (k * 4) (.int .i64 x1)).set (k * 4 + 1) (.int .i64 x2)).set (k * 4 + 2) (.int .i64 x3)).set (k * 4 + 3) (.int .i64 x4) = cellsOf RumV.cells (l.take (k + 1)) ++ Z.drop ((k + 1) * 4)) := by
        show _ = _
        have hd : Z.drop (k * 4) = Z[k * 4]'(by omega) :: Z[k * 4 + 1]'(by omega) :: Z[k * 4 + 2]'(by omega) :: Z[k * 4 + 3]'(by omega) :: Z.drop ((k + 1) * 4) := by
          rw [List.drop_eq_getElem_cons (by omega), List.drop_eq_getElem_cons (by omega), List.drop_eq_getElem_cons (by omega), List.drop_eq_getElem_cons (by omega), show (k + 1) * 4 = k * 4 + 1 + 1 + 1 + 1 by omega]
        rw [hd, set_four (by rw [cellsOf_length RumV.cells_len, List.length_take, Nat.min_eq_left hk]), List.take_succ_eq_append_getElem hx, cellsOf_append, hlx, List.append_assoc]
        rfl
      go_wp2_with fail
      refine (toRum_any ⟨x1, x2, x3, x4⟩ _).mono ?_
      rintro e y1 ⟨rfl, by1⟩
      unfold RumV.val
      have ho1 := ho.keep by1
      obtain ⟨c0, f0⟩ := ho1.at0 (n := k * 4) (by omega)
      obtain ⟨c1, f1⟩ := ho1.at0 (n := k * 4 + 1) (by omega)
      obtain ⟨c2, f2⟩ := ho1.at0 (n := k * 4 + 2) (by omega)
      obtain ⟨c3, f3⟩ := ho1.at0 (n := k * 4 + 3) (by omega)
      obtain ⟨t0, ht0⟩ : ∃ t, (cellsOf RumV.cells (l.take k) ++ Z.drop (k * 4))[k * 4]'(by omega) = t := ⟨_, rfl⟩
      obtain ⟨t1, ht1⟩ : ∃ t, (cellsOf RumV.cells (l.take k) ++ Z.drop (k * 4))[k * 4 + 1]'(by omega) = t := ⟨_, rfl⟩
      obtain ⟨t2, ht2⟩ : ∃ t, (cellsOf RumV.cells (l.take k) ++ Z.drop (k * 4))[k * 4 + 2]'(by omega) = t := ⟨_, rfl⟩
      obtain ⟨t3, ht3⟩ : ∃ t, (cellsOf RumV.cells (l.take k) ++ Z.drop (k * 4))[k * 4 + 3]'(by omega) = t := ⟨_, rfl⟩
      rw [ht0] at c0
      rw [ht1] at c1
      rw [ht2] at c2
      rw [ht3] at c3
      have HO : Hid (OwnCells ((((y1.setCell ⟨w.heap.size, k * 4, none⟩ (.int .i64 x1)).setCell ⟨w.heap.size, k * 4 + 1, none⟩ (.int .i64 x2)).setCell ⟨w.heap.size, k * 4 + 2, none⟩ (.int .i64 x3)).setCell ⟨w.heap.size, k * 4 + 3, none⟩ (.int .i64 x4)) w.heap.size (some ⟨w.heap.size, 0, none⟩) (cellsOf RumV.cells (l.take (k + 1)) ++ Z.drop ((k + 1) * 4))) := by
        have h := (((ho1.put0 (n := k * 4) (.int .i64 x1) (by omega)).put0 (n := k * 4 + 1) (.int .i64 x2) (by simp only [List.length_set]; omega)).put0 (n := k * 4 + 2) (.int .i64 x3) (by simp only [List.length_set]; omega)).put0 (n := k * 4 + 3) (.int .i64 x4) (by simp only [List.length_set]; omega)
        rw [HT.out] at h
        exact h
      have hb1 := hb.trans (by1.mono hb.size)
      have HB : Hid (Below w.heap.size w ((((y1.setCell ⟨w.heap.size, k * 4, none⟩ (.int .i64 x1)).setCell ⟨w.heap.size, k * 4 + 1, none⟩ (.int .i64 x2)).setCell ⟨w.heap.size, k * 4 + 2, none⟩ (.int .i64 x3)).setCell ⟨w.heap.size, k * 4 + 3, none⟩ (.int .i64 x4))) := (((hb1.setCell (Nat.le_refl _) _).setCell (Nat.le_refl _) _).setCell (Nat.le_refl _) _).setCell (Nat.le_refl _) _
      clear ho ho1 hb hb1 by1 HT hTl ht0 ht1 ht2 ht3 q0 q1 q2 q3 hrow2 hlx
      have hx' : (k : Int) < (l.length : Int) := by omega
      go_wp2
      go_roundw
      case rel => exact ⟨k + 1, by omega, by go_num, HO.out, HB.out⟩
      case measure => simp [intOf]; omega
    · obtain rfl : k = l.length := by omega
      rw [List.take_length, List.drop_eq_nil_of_le (by omega), List.append_nil] at ho
      go_wp2
      go_ret
      exact ⟨rfl, ho, hb⟩
set_option maxHeartbeats 1000000 in
set_option maxRecDepth 100000 in
theorem eqRums_same (a1 : Option Addr) (c1 : Nat) (a2 : Option Addr) (c2 : Nat) (l : List RumV) (w : World) (hl : l.length ≤ 1048576) (h1 : CellRow w a1 (cellsOf RumV.cells l)) (h2 : CellRow w a2 (cellsOf RumV.cells l)) :
    Calls Tryz.prog 111 #[.slice a1 l.length c1, .slice a2 l.length c2] w fun e w' => e = .returned (.bool true) ∧ Below w.heap.size w w' := by
  go_enter Tryz.func111, Tryz.ntmps111
  go_wp2
  go_loopw [5] (fun i wr => ∃ k : Nat, k ≤ l.length ∧ i = .int .i64 k ∧ Below w.heap.size w wr) (fun i _ => l.length - (intOf i).toNat)
  case atStart => exact ⟨0, Nat.zero_le _, rfl, Below.refl _ _⟩
  case round =>
    obtain ⟨k, hk, rfl, hb⟩ := hrel
    by_cases hx : k < l.length
    · obtain ⟨b1, o1, rfl⟩ := h1.addr (by rw [cellsOf_length RumV.cells_len]; omega)
      obtain ⟨b2, o2, rfl⟩ := h2.addr (by rw [cellsOf_length RumV.cells_len]; omega)
      have r1 := h1.keep hb
      have r2 := h2.keep hb
      obtain ⟨x1, x2, x3, x4, hlx⟩ : ∃ x1 x2 x3 x4, l[k] = ⟨x1, x2, x3, x4⟩ := ⟨_, _, _, _, rfl⟩
      have q0 := r1.thing0 RumV.cells_len (i := k) (v := .int .i64 x1) hx (by omega) (by rw [hlx]; rfl)
      have q1 := r1.thingj RumV.cells_len (i := k) (j := 1) (v := .int .i64 x2) hx (by omega) (by rw [hlx]; rfl)
      have q2 := r1.thingj RumV.cells_len (i := k) (j := 2) (v := .int .i64 x3) hx (by omega) (by rw [hlx]; rfl)
      have q3 := r1.thingj RumV.cells_len (i := k) (j := 3) (v := .int .i64 x4) hx (by omega) (by rw [hlx]; rfl)
      have p0 := r2.thing0 RumV.cells_len (i := k) (v := .int .i64 x1) hx (by omega) (by rw [hlx]; rfl)
      have p1 := r2.thingj RumV.cells_len (i := k) (j := 1) (v := .int .i64 x2) hx (by omega) (by rw [hlx]; rfl)
      have p2 := r2.thingj RumV.cells_len (i := k) (j := 2) (v := .int .i64 x3) hx (by omega) (by rw [hlx]; rfl)
      have p3 := r2.thingj RumV.cells_len (i := k) (j := 3) (v := .int .i64 x4) hx (by omega) (by rw [hlx]; rfl)
      have hx' : (k : Int) < (l.length : Int) := by omega
      clear r1 r2 hlx
      go_wp2
      go_region_with (go_at_call 170; refine (eqRum_same ⟨x1, x2, x3, x4⟩ _).mono ?_; rintro e y1 ⟨rfl, by1⟩)
      all_goals
        have hb1 := hb.drew.trans (by1.mono hb.size)
        go_wp2
        go_roundw
        case rel => exact ⟨k + 1, by omega, by go_num, hb1⟩
        case measure => simp [intOf]; omega
    · obtain rfl : k = l.length := by omega
      go_wp2
      go_ret
      exact ⟨rfl, hb⟩
end Go.Proofs.YtmdcankfjmkkeaaGreat
