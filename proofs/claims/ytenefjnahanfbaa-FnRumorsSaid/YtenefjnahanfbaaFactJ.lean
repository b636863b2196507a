/- The contracts of two facts joined: by what is less, as a function that is handed on; FactJoin. -/
import Derived.Test.YtenefjnahanfbaaFactTwo
namespace Go.Proofs.Ytenefjnahanfbaa
open Go Go.RowKit
set_option linter.unusedVariables false

set_option maxHeartbeats 1000000 in
set_option maxRecDepth 100000 in
theorem joinBy_any (x y : FactV) (w : World) (h1 : oneNode x y) : Calls Try.prog 70 #[x.val, y.val, .func (.func 71) #[] #[]] w fun e w' => e = .returned (joinF x y).val ∧ Below w.heap.size w w' := by
  obtain ⟨W, hW, p1, p2, p3, B0⟩ := three_blks w x y
  obtain ⟨r, hr⟩ := tells_bool (lessF x y)
  have HE : Hid (joinF x y = if r = true then y else x) := by
    show _ = _
    cases r with
    | true => rw [if_pos rfl]; exact joinF_yes (hr.1 rfl).2
    | false => rw [if_neg (by decide)]; exact joinF_no (fun h => by have := hr.2 ⟨h1, h⟩; cases this)
  obtain ⟨x1, x2, x3⟩ := x
  obtain ⟨y1, y2, y3⟩ := y
  have HR : Hid (r = true ↔ lessF ⟨x1, x2, x3⟩ ⟨y1, y2, y3⟩) := hr
  have HW : Hid (_ = W) := hW
  clear hW hr h1
  unfold FactV.val
  go_enter Try.func70, Try.ntmps70
  go_wp2_with fail
  rw [HW.out]
  refine (factLess_is ⟨x1, x2, x3⟩ ⟨y1, y2, y3⟩ _ r HR.out).mono ?_
  rintro e z1 ⟨rfl, bz1⟩
  obtain ⟨_, c0, c1, c2⟩ := p1.keep bz1
  obtain ⟨_, d0, d1, d2⟩ := p2.keep bz1
  have q3 := p3.keep bz1
  have g0 : z1.cell? ⟨w.heap.size + 2, 0, none⟩ = some (.int .i64 0) := q3.cell 0
  have f0 := q3.fz 0
  have g1 : z1.cell? ⟨w.heap.size + 2, 1, none⟩ = some (.int .i64 0) := q3.cell 1
  have f1 := q3.fz 1
  have g2 : z1.cell? ⟨w.heap.size + 2, 2, none⟩ = some (.int .i64 0) := q3.cell 2
  have f2 := q3.fz 2
  have B1 := B0.trans (bz1.mono B0.size)
  clear p1 p2 p3 B0 bz1 HW HR
  dsimp only at c0 c1 c2 d0 d1 d2
  cases r with
  | true =>
    have HV : Hid (joinF ⟨x1, x2, x3⟩ ⟨y1, y2, y3⟩ = ⟨y1, y2, y3⟩) := HE.out
    clear HE
    go_wp2
    have Q := fact_put q3 y1 y2 y3
    have BB := ((B1.setCell (p := ⟨w.heap.size + 2, 0, none⟩) (by show _ ≤ w.heap.size + 2; omega) (.int .i64 y1)).setCell (p := ⟨w.heap.size + 2, 1, none⟩) (by show _ ≤ w.heap.size + 2; omega) (.int .i64 y2)).setCell (p := ⟨w.heap.size + 2, 2, none⟩) (by show _ ≤ w.heap.size + 2; omega) (.int .i64 y3)
    obtain ⟨z6, hz6⟩ : ∃ z6, (((z1.setCell ⟨w.heap.size + 2, 0, none⟩ (.int .i64 y1)).setCell ⟨w.heap.size + 2, 1, none⟩ (.int .i64 y2)).setCell ⟨w.heap.size + 2, 2, none⟩ (.int .i64 y3)) = z6 := ⟨_, rfl⟩
    rw [hz6] at Q BB ⊢
    have e0 : z6.cell? ⟨w.heap.size + 2, 0, none⟩ = some (.int .i64 y1) := Q.cell 0
    have e1 : z6.cell? ⟨w.heap.size + 2, 1, none⟩ = some (.int .i64 y2) := Q.cell 1
    have e2 : z6.cell? ⟨w.heap.size + 2, 2, none⟩ = some (.int .i64 y3) := Q.cell 2
    exact bodyPost_ret (v := .agg #[.int .i64 y1, .int .i64 y2, .int .i64 y3]) (by simp [results, Try.results70, go_sem, e0, e1, e2]) rfl ⟨by rw [HV.out], BB⟩
  | false =>
    have HV : Hid (joinF ⟨x1, x2, x3⟩ ⟨y1, y2, y3⟩ = ⟨x1, x2, x3⟩) := HE.out
    clear HE
    go_wp2
    have Q := fact_put q3 x1 x2 x3
    have BB := ((B1.setCell (p := ⟨w.heap.size + 2, 0, none⟩) (by show _ ≤ w.heap.size + 2; omega) (.int .i64 x1)).setCell (p := ⟨w.heap.size + 2, 1, none⟩) (by show _ ≤ w.heap.size + 2; omega) (.int .i64 x2)).setCell (p := ⟨w.heap.size + 2, 2, none⟩) (by show _ ≤ w.heap.size + 2; omega) (.int .i64 x3)
    obtain ⟨z6, hz6⟩ : ∃ z6, (((z1.setCell ⟨w.heap.size + 2, 0, none⟩ (.int .i64 x1)).setCell ⟨w.heap.size + 2, 1, none⟩ (.int .i64 x2)).setCell ⟨w.heap.size + 2, 2, none⟩ (.int .i64 x3)) = z6 := ⟨_, rfl⟩
    rw [hz6] at Q BB ⊢
    have e0 : z6.cell? ⟨w.heap.size + 2, 0, none⟩ = some (.int .i64 x1) := Q.cell 0
    have e1 : z6.cell? ⟨w.heap.size + 2, 1, none⟩ = some (.int .i64 x2) := Q.cell 1
    have e2 : z6.cell? ⟨w.heap.size + 2, 2, none⟩ = some (.int .i64 x3) := Q.cell 2
    exact bodyPost_ret (v := .agg #[.int .i64 x1, .int .i64 x2, .int .i64 x3]) (by simp [results, Try.results70, go_sem, e0, e1, e2]) rfl ⟨by rw [HV.out], BB⟩
/-- What FactJoin answers. -/
def JoinFIs (x y m : FactV) : Prop := (oneNode x y ∧ m = joinF x y) ∨ (¬ oneNode x y ∧ m = factZ)
theorem joinFIs_ex (x y : FactV) : ∃ m, JoinFIs x y m := by
  by_cases h : oneNode x y
  · exact ⟨_, .inl ⟨h, rfl⟩⟩
  · exact ⟨_, .inr ⟨h, rfl⟩⟩
set_option maxHeartbeats 1000000 in
set_option maxRecDepth 100000 in
theorem factJoin_any (x y m : FactV) (hm : JoinFIs x y m) (w : World) : Calls Try.prog 64 #[x.val, y.val] w fun e w' => e = .returned m.val ∧ Below w.heap.size w w' := by
  obtain ⟨W, hW, p1, p2, p3, B0⟩ := three_blks w x y
  obtain ⟨r, hr⟩ := tells_bool (oneNode x y)
  obtain ⟨x1, x2, x3⟩ := x
  obtain ⟨y1, y2, y3⟩ := y
  have HR : Hid (r = true ↔ oneNode ⟨x1, x2, x3⟩ ⟨y1, y2, y3⟩) := hr
  have HW : Hid (_ = W) := hW
  have HM : Hid (JoinFIs ⟨x1, x2, x3⟩ ⟨y1, y2, y3⟩ m) := hm
  clear hW hr hm
  unfold FactV.val
  go_enter Try.func64, Try.ntmps64
  go_wp2_with fail
  rw [HW.out]
  refine (ofOne_is ⟨x1, x2, x3⟩ ⟨y1, y2, y3⟩ _ r HR.out).mono ?_
  rintro e z1 ⟨rfl, bz1⟩
  have q1 := p1.keep bz1
  have q2 := p2.keep bz1
  obtain ⟨_, c0, c1, c2⟩ := p1.keep bz1
  obtain ⟨_, d0, d1, d2⟩ := p2.keep bz1
  have q3 := p3.keep bz1
  have g0 : z1.cell? ⟨w.heap.size + 2, 0, none⟩ = some (.int .i64 0) := q3.cell 0
  have f0 := q3.fz 0
  have g1 : z1.cell? ⟨w.heap.size + 2, 1, none⟩ = some (.int .i64 0) := q3.cell 1
  have f1 := q3.fz 1
  have g2 : z1.cell? ⟨w.heap.size + 2, 2, none⟩ = some (.int .i64 0) := q3.cell 2
  have f2 := q3.fz 2
  have B1 := B0.trans (bz1.mono B0.size)
  clear p1 p2 p3 B0 bz1 HW
  dsimp only at c0 c1 c2 d0 d1 d2
  cases r with
  | false =>
    have HV : Hid (m = factZ) := HM.out.elim (fun h => by have := HR.out.2 h.1; cases this) (fun h => h.2)
    clear HM HR
    go_wp2
    have Q := fact_put q3 0 0 0
    have BB := ((B1.setCell (p := ⟨w.heap.size + 2, 0, none⟩) (by show _ ≤ w.heap.size + 2; omega) (.int .i64 0)).setCell (p := ⟨w.heap.size + 2, 1, none⟩) (by show _ ≤ w.heap.size + 2; omega) (.int .i64 0)).setCell (p := ⟨w.heap.size + 2, 2, none⟩) (by show _ ≤ w.heap.size + 2; omega) (.int .i64 0)
    obtain ⟨z6, hz6⟩ : ∃ z6, (((z1.setCell ⟨w.heap.size + 2, 0, none⟩ (.int .i64 0)).setCell ⟨w.heap.size + 2, 1, none⟩ (.int .i64 0)).setCell ⟨w.heap.size + 2, 2, none⟩ (.int .i64 0)) = z6 := ⟨_, rfl⟩
    rw [hz6] at Q BB ⊢
    have e0 : z6.cell? ⟨w.heap.size + 2, 0, none⟩ = some (.int .i64 0) := Q.cell 0
    have e1 : z6.cell? ⟨w.heap.size + 2, 1, none⟩ = some (.int .i64 0) := Q.cell 1
    have e2 : z6.cell? ⟨w.heap.size + 2, 2, none⟩ = some (.int .i64 0) := Q.cell 2
    exact bodyPost_ret (v := .agg #[.int .i64 0, .int .i64 0, .int .i64 0]) (by simp [results, Try.results64, go_sem, e0, e1, e2]) rfl ⟨by rw [HV.out]; rfl, BB⟩
  | true =>
    have K : Hid (oneNode ⟨x1, x2, x3⟩ ⟨y1, y2, y3⟩) := HR.out.1 rfl
    have HV : Hid (m = joinF ⟨x1, x2, x3⟩ ⟨y1, y2, y3⟩) := HM.out.elim (fun h => h.2) (fun h => absurd (HR.out.1 rfl) h.1)
    clear HM HR
    go_wp2_with fail
    refine (joinBy_any ⟨x1, x2, x3⟩ ⟨y1, y2, y3⟩ _ K.out).mono ?_
    rintro e z2 ⟨rfl, bz2⟩
    rw [← HV.out]
    obtain ⟨m1, m2, m3⟩ := m
    unfold FactV.val
    have q4 := q3.keep bz2
    clear g0 g1 g2 f0 f1 f2
    have g0 : z2.cell? ⟨w.heap.size + 2, 0, none⟩ = some (.int .i64 0) := q4.cell 0
    have f0 := q4.fz 0
    have g1 : z2.cell? ⟨w.heap.size + 2, 1, none⟩ = some (.int .i64 0) := q4.cell 1
    have f1 := q4.fz 1
    have g2 : z2.cell? ⟨w.heap.size + 2, 2, none⟩ = some (.int .i64 0) := q4.cell 2
    have f2 := q4.fz 2
    have B2 := B1.trans (bz2.mono B1.size)
    clear q1 q2 q3 c0 c1 c2 d0 d1 d2 bz2 HV K B1
    dsimp only
    go_wp2
    have Q := fact_put q4 m1 m2 m3
    have BB := ((B2.setCell (p := ⟨w.heap.size + 2, 0, none⟩) (by show _ ≤ w.heap.size + 2; omega) (.int .i64 m1)).setCell (p := ⟨w.heap.size + 2, 1, none⟩) (by show _ ≤ w.heap.size + 2; omega) (.int .i64 m2)).setCell (p := ⟨w.heap.size + 2, 2, none⟩) (by show _ ≤ w.heap.size + 2; omega) (.int .i64 m3)
    obtain ⟨z6, hz6⟩ : ∃ z6, (((z2.setCell ⟨w.heap.size + 2, 0, none⟩ (.int .i64 m1)).setCell ⟨w.heap.size + 2, 1, none⟩ (.int .i64 m2)).setCell ⟨w.heap.size + 2, 2, none⟩ (.int .i64 m3)) = z6 := ⟨_, rfl⟩
    rw [hz6] at Q BB ⊢
    have e0 : z6.cell? ⟨w.heap.size + 2, 0, none⟩ = some (.int .i64 m1) := Q.cell 0
    have e1 : z6.cell? ⟨w.heap.size + 2, 1, none⟩ = some (.int .i64 m2) := Q.cell 1
    have e2 : z6.cell? ⟨w.heap.size + 2, 2, none⟩ = some (.int .i64 m3) := Q.cell 2
    exact bodyPost_ret (v := .agg #[.int .i64 m1, .int .i64 m2, .int .i64 m3]) (by simp [results, Try.results64, go_sem, e0, e1, e2]) rfl ⟨rfl, BB⟩
end Go.Proofs.Ytenefjnahanfbaa
