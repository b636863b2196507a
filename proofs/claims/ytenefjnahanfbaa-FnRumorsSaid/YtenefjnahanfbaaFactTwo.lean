/- The contracts of two facts: what is less by the specification, what is joined. -/
import Derived.Test.YtenefjnahanfbaaFactOne
import Derived.Test.YtenefjnahanfbaaKeep
namespace Go.Proofs.Ytenefjnahanfbaa
open Go Go.RowKit
set_option linter.unusedVariables false

theorem FactV.lt_dec (x y : FactV) : ∃ r : Bool, (r = true ↔ x.lt y) := tells_bool _
/-- Two facts and a third, of zeros, in blocks of their own. -/
theorem three_blks (w : World) (x y : FactV) : ∃ W, ((w.alloc (.cells #[.int .i64 x.node, .int .i64 x.inc, .int .i64 x.st] 25)).alloc (.cells #[.int .i64 y.node, .int .i64 y.inc, .int .i64 y.st] 25)).alloc (.cells #[.int .i64 0, .int .i64 0, .int .i64 0] 25) = W ∧ FBlk W w.heap.size x ∧ FBlk W (w.heap.size + 1) y ∧ BlkIs W (w.heap.size + 2) 25 #[.int .i64 0, .int .i64 0, .int .i64 0] ∧ Below w.heap.size w W := by
  obtain ⟨W, hW, p1, p2, B0⟩ := two_blks w x y
  have k : Below W.heap.size W (W.alloc (.cells #[.int .i64 0, .int .i64 0, .int .i64 0] 25)) := (Below.refl _ _).alloc (Nat.le_refl _) _
  refine ⟨_, rfl, by rw [hW]; exact p1.keep k, by rw [hW]; exact p2.keep k, ?_, by rw [hW]; exact B0.alloc B0.size _⟩
  have hs : W.heap.size = w.heap.size + 2 := by rw [← hW]; simp
  rw [hW, ← hs]
  exact BlkIs.new _ _ _
/-- A fact put into a block. -/
theorem fact_put {W : World} {b : Nat} {u0 u1 u2 : Value} (h : BlkIs W b 25 #[u0, u1, u2]) (x1 x2 x3 : Int) :
    BlkIs (((W.setCell ⟨b, 0, none⟩ (.int .i64 x1)).setCell ⟨b, 1, none⟩ (.int .i64 x2)).setCell ⟨b, 2, none⟩ (.int .i64 x3)) b 25 #[.int .i64 x1, .int .i64 x2, .int .i64 x3] := by
  have := ((h.put 0 (.int .i64 x1)).put 1 (.int .i64 x2)).put 2 (.int .i64 x3)
  simpa using this
set_option maxHeartbeats 1000000 in
set_option maxRecDepth 100000 in
theorem specJoin_any (x y : FactV) (w : World) : Calls Try.prog 65 #[x.val, y.val] w fun e w' => e = .returned (joinF x y).val ∧ Below w.heap.size w w' := by
  obtain ⟨W, hW, p1, p2, p3, B0⟩ := three_blks w x y
  obtain ⟨r, hr⟩ := tells_bool (x.lt y)
  have HE : Hid (joinF x y = if r = true then y else x) := by
    show _ = _
    cases r with
    | true => rw [if_pos rfl]; exact joinF_yes (hr.1 rfl)
    | false => rw [if_neg (by decide)]; exact joinF_no (fun h => by have := hr.2 h; cases this)
  obtain ⟨x1, x2, x3⟩ := x
  obtain ⟨y1, y2, y3⟩ := y
  have HR : Hid (r = true ↔ FactV.lt ⟨x1, x2, x3⟩ ⟨y1, y2, y3⟩) := hr
  have HW : Hid (_ = W) := hW
  clear hW hr
  unfold FactV.val
  go_enter Try.func65, Try.ntmps65
  go_wp2_with fail
  rw [HW.out]
  refine (specLess_is ⟨x1, x2, x3⟩ ⟨y1, y2, y3⟩ _ r HR.out).mono ?_
  rintro e z1 ⟨rfl, bz1⟩
  obtain ⟨_, c0, c1, c2⟩ := p1.keep bz1
  obtain ⟨_, d0, d1, d2⟩ := p2.keep bz1
  have q3 := p3.keep bz1
  have g0 : z1.cell? ⟨w.heap.size + 2, 0, none⟩ = some (.int .i64 0) := q3.cell 0
  have g1 : z1.cell? ⟨w.heap.size + 2, 1, none⟩ = some (.int .i64 0) := q3.cell 1
  have g2 : z1.cell? ⟨w.heap.size + 2, 2, none⟩ = some (.int .i64 0) := q3.cell 2
  have f0 := q3.fz 0
  have f1 := q3.fz 1
  have f2 := q3.fz 2
  have B1 := B0.trans (bz1.mono B0.size)
  clear p1 p2 p3 B0 bz1 HW HR
  dsimp only at c0 c1 c2 d0 d1 d2
  cases r with
  | true =>
    have HV : Hid (joinF ⟨x1, x2, x3⟩ ⟨y1, y2, y3⟩ = ⟨y1, y2, y3⟩) := HE.out
    clear HE
    go_wp2
    have Q := fact_put q3 y1 y2 y3
    have BB := ((B1.setCell (p := ⟨w.heap.size + 2, 0, none⟩) (by show _ ≤ w.heap.size + 2; omega) (.int .i64 y1)).setCell (p := ⟨w.heap.size + 2, 1, none⟩) (by show _ ≤ w.heap.size + 2; omega) (.int .i64 y2)).setCell (p := ⟨w.heap.size + 2, 2, none⟩) (by show _ ≤ w.heap.size + 2; omega) (.int .i64 y3)
    obtain ⟨z6, hz6⟩ : ∃ z6, (((z1.setCell ⟨w.heap.size + 2, 0, none⟩ (.int .i64 y1)).setCell ⟨w.heap.size + 2, 1, none⟩ (.int .i64 y2)).setCell ⟨w.heap.size + 2, 2, none⟩ (.int .i64 y3)) = z6 := ⟨_, rfl⟩
    rw [hz6] at Q BB ⊢
    have e0 : z6.cell? ⟨w.heap.size + 2, 0, none⟩ = some (.int .i64 y1) := Q.cell 0
    have e1 : z6.cell? ⟨w.heap.size + 2, 1, none⟩ = some (.int .i64 y2) := Q.cell 1
    have e2 : z6.cell? ⟨w.heap.size + 2, 2, none⟩ = some (.int .i64 y3) := Q.cell 2
    exact bodyPost_ret (v := .agg #[.int .i64 y1, .int .i64 y2, .int .i64 y3]) (by simp [results, Try.results65, go_sem, e0, e1, e2]) rfl ⟨by rw [HV.out], BB⟩
  | false =>
    have HV : Hid (joinF ⟨x1, x2, x3⟩ ⟨y1, y2, y3⟩ = ⟨x1, x2, x3⟩) := HE.out
    clear HE
    go_wp2
    have Q := fact_put q3 x1 x2 x3
    have BB := ((B1.setCell (p := ⟨w.heap.size + 2, 0, none⟩) (by show _ ≤ w.heap.size + 2; omega) (.int .i64 x1)).setCell (p := ⟨w.heap.size + 2, 1, none⟩) (by show _ ≤ w.heap.size + 2; omega) (.int .i64 x2)).setCell (p := ⟨w.heap.size + 2, 2, none⟩) (by show _ ≤ w.heap.size + 2; omega) (.int .i64 x3)
    obtain ⟨z6, hz6⟩ : ∃ z6, (((z1.setCell ⟨w.heap.size + 2, 0, none⟩ (.int .i64 x1)).setCell ⟨w.heap.size + 2, 1, none⟩ (.int .i64 x2)).setCell ⟨w.heap.size + 2, 2, none⟩ (.int .i64 x3)) = z6 := ⟨_, rfl⟩
    rw [hz6] at Q BB ⊢
    have e0 : z6.cell? ⟨w.heap.size + 2, 0, none⟩ = some (.int .i64 x1) := Q.cell 0
    have e1 : z6.cell? ⟨w.heap.size + 2, 1, none⟩ = some (.int .i64 x2) := Q.cell 1
    have e2 : z6.cell? ⟨w.heap.size + 2, 2, none⟩ = some (.int .i64 x3) := Q.cell 2
    exact bodyPost_ret (v := .agg #[.int .i64 x1, .int .i64 x2, .int .i64 x3]) (by simp [results, Try.results65, go_sem, e0, e1, e2]) rfl ⟨by rw [HV.out], BB⟩
end Go.Proofs.Ytenefjnahanfbaa
