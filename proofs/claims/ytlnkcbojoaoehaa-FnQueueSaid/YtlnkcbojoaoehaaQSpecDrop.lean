/- The contract of the specification's QueueDrop. -/
import Derived.Test.YtlnkcbojoaoehaaQSpecD
namespace Go.Proofs.Ytlnkcbojoaoehaa
open Go Go.RowKit
set_option linter.unusedVariables false

set_option maxHeartbeats 1000000 in
set_option maxRecDepth 100000 in
theorem specDropQ_any (a : Option Addr) (cap : Nat) (l : List DueV) (node : Int) (c : Int) (m : List DueV) (w : World) (hP : DropIs l node c m) (hl : l.length ≤ 1048576) (hrow : CellRow w a (cellsOf DueV.cells l)) :
    Calls Try.prog 17 #[.slice a l.length cap, .int .i64 node] w (OutPost c d0 m w) := by
  have b0 := (Below.refl w.heap.size w).alloc (Nat.le_refl _) (.cells #[.slice none 0 0, .int .i64 0, .int .i64 0, .int .i64 0, .string ⟨#[]⟩, .int .i64 0] 29)
  have r0 := ResBlk.new w (.slice none 0 0) (.int .i64 0) (.int .i64 0) (.int .i64 0) (.string ⟨#[]⟩) (.int .i64 0)
  have hrow0 := hrow.keep b0
  obtain ⟨W, hW⟩ : ∃ W, w.alloc (.cells #[.slice none 0 0, .int .i64 0, .int .i64 0, .int .i64 0, .string ⟨#[]⟩, .int .i64 0] 29) = W := ⟨_, rfl⟩
  rw [hW] at b0 r0 hrow0
  have HW : Hid (w.alloc (.cells #[.slice none 0 0, .int .i64 0, .int .i64 0, .int .i64 0, .string ⟨#[]⟩, .int .i64 0] 29) = W) := hW
  have hsz0 := r0.lt
  clear hW
  rcases hP with ⟨h1, rfl, rfl⟩ | ⟨h1, h2, rfl, rfl⟩ | ⟨h2, rfl, rfl⟩
  · have h1' : 400 < (l.length : Int) := by omega
    go_enter Try.func17, Try.ntmps17
    go_wp2_with fail
    rw [HW.out]
    refine (ill_any 2 _).mono ?_
    rintro e z9 ⟨rfl, bn⟩
    unfold outV d0
    have r9 := r0.below bn
    have b9 := b0.trans (bn.mono b0.size)
    clear bn
    obtain ⟨u0, u1, u2, u3, u4, u5, ⟨c0, c1, c2, c3, c4, c5⟩, f0, f1, f2, f3, f4, f5⟩ := r9.cells
    go_wp2
    have KZ := keeps_six z9 w.heap.size (.slice none 0 0) (.int .i64 0) (.int .i64 0) (.int .i64 0) (.string ⟨#[]⟩) (.int .i64 2)
    have H6 := r9.six (.slice none 0 0) (.int .i64 0) (.int .i64 0) (.int .i64 0) (.string ⟨#[]⟩) (.int .i64 2)
    obtain ⟨z6, hz6⟩ : ∃ z6, ((((((z9.setCell ⟨w.heap.size, 0, none⟩ (.slice none 0 0)).setCell ⟨w.heap.size, 1, none⟩ (.int .i64 0)).setCell ⟨w.heap.size, 2, none⟩ (.int .i64 0)).setCell ⟨w.heap.size, 3, none⟩ (.int .i64 0)).setCell ⟨w.heap.size, 4, none⟩ (.string ⟨#[]⟩)).setCell ⟨w.heap.size, 5, none⟩ (.int .i64 2)) = z6 := ⟨_, rfl⟩
    rw [hz6] at KZ H6 ⊢
    clear hz6
    obtain ⟨q0, q1, q2, q3, q4, q5⟩ := six_cells H6
    refine bodyPost_ret (v := outV (.slice none 0 0) d0 2) (by simp [results, Try.results17, go_sem, outV, d0, q0, q1, q2, q3, q4, q5]) rfl ?_
    exact ⟨_, rfl, World.ownsRow_nil _ _ _ _, b9.trans (KZ.toBelow b9.size (fun q hq => by omega))⟩
  · have h1' : ¬ 400 < (l.length : Int) := by omega
    have HN : Hid (¬ rightQ l) := h2
    clear h2
    go_enter Try.func17, Try.ntmps17
    go_wp2_with fail
    rw [HW.out]
    refine (specQ_no a cap l _ hl hrow0 HN.out).mono ?_
    rintro e z1 ⟨rfl, bz1⟩
    have r1 := r0.below bz1
    have b1 := b0.trans (bz1.mono b0.size)
    clear r0 b0 bz1 HW hrow0
    go_wp2_with fail
    refine (ill_any 1 _).mono ?_
    rintro e z9 ⟨rfl, bn⟩
    unfold outV d0
    have r9 := r1.below bn
    have b9 := b1.trans (bn.mono b1.size)
    clear bn
    obtain ⟨u0, u1, u2, u3, u4, u5, ⟨c0, c1, c2, c3, c4, c5⟩, f0, f1, f2, f3, f4, f5⟩ := r9.cells
    go_wp2
    have KZ := keeps_six z9 w.heap.size (.slice none 0 0) (.int .i64 0) (.int .i64 0) (.int .i64 0) (.string ⟨#[]⟩) (.int .i64 1)
    have H6 := r9.six (.slice none 0 0) (.int .i64 0) (.int .i64 0) (.int .i64 0) (.string ⟨#[]⟩) (.int .i64 1)
    obtain ⟨z6, hz6⟩ : ∃ z6, ((((((z9.setCell ⟨w.heap.size, 0, none⟩ (.slice none 0 0)).setCell ⟨w.heap.size, 1, none⟩ (.int .i64 0)).setCell ⟨w.heap.size, 2, none⟩ (.int .i64 0)).setCell ⟨w.heap.size, 3, none⟩ (.int .i64 0)).setCell ⟨w.heap.size, 4, none⟩ (.string ⟨#[]⟩)).setCell ⟨w.heap.size, 5, none⟩ (.int .i64 1)) = z6 := ⟨_, rfl⟩
    rw [hz6] at KZ H6 ⊢
    clear hz6
    obtain ⟨q0, q1, q2, q3, q4, q5⟩ := six_cells H6
    refine bodyPost_ret (v := outV (.slice none 0 0) d0 1) (by simp [results, Try.results17, go_sem, outV, d0, q0, q1, q2, q3, q4, q5]) rfl ?_
    exact ⟨_, rfl, World.ownsRow_nil _ _ _ _, b9.trans (KZ.toBelow b9.size (fun q hq => by omega))⟩
  · have h1' : ¬ 400 < (l.length : Int) := by have := h2.1; omega
    have HN : Hid (rightQ l) := h2
    clear h2
    go_enter Try.func17, Try.ntmps17
    go_wp2_with fail
    rw [HW.out]
    refine (specQ_yes a cap l _ hl hrow0 HN.out).mono ?_
    rintro e z1 ⟨rfl, bz1⟩
    have r1 := r0.below bz1
    have b1 := b0.trans (bz1.mono b0.size)
    have hrow1 := hrow0.keep bz1
    have hsz1 := r1.lt
    clear r0 b0 bz1 HW hrow0
    go_wp2_with fail
    refine (l03Drop_any a cap l node _ hl hrow1).mono ?_
    rintro e z2 ⟨v, rfl, hr2, bz2⟩
    obtain ⟨va, vn, vc, rfl⟩ := rowShape hr2
    have r2 := r1.below bz2
    have b2 := b1.trans (bz2.mono b1.size)
    clear r1 b1 bz2 hrow1
    have HR : Hid (z2.ownsRow z1.heap.size 25 4 (.slice va vn vc) (dropN l node).length (cellsOf DueV.cells (dropN l node))) := hr2
    clear hr2
    obtain ⟨u0, u1, u2, u3, u4, u5, ⟨c0, c1, c2, c3, c4, c5⟩, f0, f1, f2, f3, f4, f5⟩ := r2.cells
    go_wp2
    have KZ := keeps_six z2 w.heap.size (.slice va vn vc) (.int .i64 0) (.int .i64 0) (.int .i64 0) (.string ⟨#[]⟩) (.int .i64 0)
    have H6 := r2.six (.slice va vn vc) (.int .i64 0) (.int .i64 0) (.int .i64 0) (.string ⟨#[]⟩) (.int .i64 0)
    obtain ⟨z6, hz6⟩ : ∃ z6, ((((((z2.setCell ⟨w.heap.size, 0, none⟩ (.slice va vn vc)).setCell ⟨w.heap.size, 1, none⟩ (.int .i64 0)).setCell ⟨w.heap.size, 2, none⟩ (.int .i64 0)).setCell ⟨w.heap.size, 3, none⟩ (.int .i64 0)).setCell ⟨w.heap.size, 4, none⟩ (.string ⟨#[]⟩)).setCell ⟨w.heap.size, 5, none⟩ (.int .i64 0)) = z6 := ⟨_, rfl⟩
    rw [hz6] at KZ H6 ⊢
    clear hz6
    obtain ⟨q0, q1, q2, q3, q4, q5⟩ := six_cells H6
    refine bodyPost_ret (v := outV (.slice va vn vc) d0 0) (by simp [results, Try.results17, go_sem, outV, d0, q0, q1, q2, q3, q4, q5]) rfl ?_
    exact ⟨_, rfl, rowLe (rowKeep HR.out KZ (fun g hg => by have := (HR.out.lt g hg).1; omega)) (by omega), b2.trans (KZ.toBelow b2.size (fun q hq => by omega))⟩
end Go.Proofs.Ytlnkcbojoaoehaa
