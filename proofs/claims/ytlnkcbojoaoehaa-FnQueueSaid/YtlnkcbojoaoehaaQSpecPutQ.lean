/- The contract of the specification's QueuePut. -/
import Derived.Test.YtlnkcbojoaoehaaQSpecPut
namespace Go.Proofs.Ytlnkcbojoaoehaa
open Go Go.RowKit
set_option linter.unusedVariables false

set_option maxHeartbeats 2000000 in
set_option maxRecDepth 100000 in
theorem specPutQ_any (b off cap : Nat) (l : List DueV) (d : DueV) (c : Int) (m : List DueV) (w : World) (hP : PutIs l d c m) (hl : l.length ≤ 1048576) (hcap : l.length ≤ cap) (hrow : CellRow w (some ⟨b, off, none⟩) (cellsOf DueV.cells l)) :
    Calls Try.prog 15 #[.slice (some ⟨b, off, none⟩) l.length cap, d.val] w (OutPost c d0 m w) := by
  obtain ⟨x1, x2, x3, x4⟩ := d
  have b0 := ((Below.refl w.heap.size w).alloc (Nat.le_refl _) (.cells #[.int .i64 x1, .int .i64 x2, .int .i64 x3, .string x4] 25)).alloc (by simp) (.cells #[.slice none 0 0, .int .i64 0, .int .i64 0, .int .i64 0, .string ⟨#[]⟩, .int .i64 0] 29)
  have p0 := (BlkOf.new w ⟨x1, x2, x3, x4⟩).keep ((Below.refl _ _).alloc (Nat.le_refl _) (.cells #[.slice none 0 0, .int .i64 0, .int .i64 0, .int .i64 0, .string ⟨#[]⟩, .int .i64 0] 29))
  have r0 := ResBlk.new (w.alloc (.cells #[.int .i64 x1, .int .i64 x2, .int .i64 x3, .string x4] 25)) (.slice none 0 0) (.int .i64 0) (.int .i64 0) (.int .i64 0) (.string ⟨#[]⟩) (.int .i64 0)
  rw [World.size_alloc] at r0
  have hrow0 := hrow.keep b0
  obtain ⟨W, hW⟩ : ∃ W, (w.alloc (.cells #[.int .i64 x1, .int .i64 x2, .int .i64 x3, .string x4] 25)).alloc (.cells #[.slice none 0 0, .int .i64 0, .int .i64 0, .int .i64 0, .string ⟨#[]⟩, .int .i64 0] 29) = W := ⟨_, rfl⟩
  dsimp only at p0
  rw [hW] at b0 p0 r0 hrow0
  have HW : Hid ((w.alloc (.cells #[.int .i64 x1, .int .i64 x2, .int .i64 x3, .string x4] 25)).alloc (.cells #[.slice none 0 0, .int .i64 0, .int .i64 0, .int .i64 0, .string ⟨#[]⟩, .int .i64 0] 29) = W) := hW
  have hsz0 := r0.lt
  clear hW
  unfold DueV.val
  dsimp only
  by_cases h1 : 400 < (l.length : Int)
  · obtain ⟨rfl, rfl⟩ : c = 2 ∧ m = [] := by
      rcases hP with ⟨_, h⟩ | ⟨h, _⟩ | ⟨h, _⟩ | ⟨h, _⟩ | ⟨h, _⟩
      · exact h
      · omega
      · have := h.1; omega
      · have := h.1; omega
      · have := h.1; omega
    clear hP
    go_enter Try.func15, Try.ntmps15
    go_wp2_with fail
    rw [HW.out]
    refine (ill_any 2 _).mono ?_
    rintro e z9 ⟨rfl, bn⟩
    unfold outV d0
    have r9 := r0.below bn
    have b9 := b0.trans (bn.mono b0.size)
    clear bn
    obtain ⟨u0, u1, u2, u3, u4, u5, ⟨c0, c1, c2, c3, c4, c5⟩, f0, f1, f2, f3, f4, f5⟩ := r9.cells
    go_wp2
    have KZ := keeps_six z9 (w.heap.size + 1) (.slice none 0 0) (.int .i64 0) (.int .i64 0) (.int .i64 0) (.string ⟨#[]⟩) (.int .i64 2)
    have H6 := r9.six (.slice none 0 0) (.int .i64 0) (.int .i64 0) (.int .i64 0) (.string ⟨#[]⟩) (.int .i64 2)
    obtain ⟨z6, hz6⟩ : ∃ z6, ((((((z9.setCell ⟨(w.heap.size + 1), 0, none⟩ (.slice none 0 0)).setCell ⟨(w.heap.size + 1), 1, none⟩ (.int .i64 0)).setCell ⟨(w.heap.size + 1), 2, none⟩ (.int .i64 0)).setCell ⟨(w.heap.size + 1), 3, none⟩ (.int .i64 0)).setCell ⟨(w.heap.size + 1), 4, none⟩ (.string ⟨#[]⟩)).setCell ⟨(w.heap.size + 1), 5, none⟩ (.int .i64 2)) = z6 := ⟨_, rfl⟩
    rw [hz6] at KZ H6 ⊢
    clear hz6
    obtain ⟨q0, q1, q2, q3, q4, q5⟩ := six_cells H6
    refine bodyPost_ret (v := outV (.slice none 0 0) d0 2) (by simp [results, Try.results15, go_sem, outV, d0, q0, q1, q2, q3, q4, q5]) rfl ?_
    exact ⟨_, rfl, World.ownsRow_nil _ _ _ _, b9.trans (KZ.toBelow b9.size (fun q hq => by omega))⟩
  by_cases h2 : rightQ l
  · have HQ : Hid (rightQ l) := h2
    have h200 := h2.1
    by_cases h3 : DueV.ok ⟨x1, x2, x3, x4⟩
    · have HK : Hid (DueV.ok ⟨x1, x2, x3, x4⟩) := h3
      have HP : Hid (Put3 l ⟨x1, x2, x3, x4⟩ c m) := by
        rcases hP with ⟨h, _⟩ | ⟨_, h, _⟩ | ⟨_, _, h⟩ | ⟨_, _, h⟩ | ⟨_, _, h⟩
        · omega
        · rcases h with h | h
          · exact absurd h2 h
          · exact absurd h3 h
        · exact .inl h
        · exact .inr (.inl h)
        · exact .inr (.inr h)
      clear hP h2 h3
      go_enter Try.func15, Try.ntmps15
      go_wp2_with fail
      rw [HW.out]
      refine (specQ_yes _ cap l _ hl hrow0 HQ.out).mono ?_
      rintro e z1 ⟨rfl, bz1⟩
      have r1 := r0.below bz1
      have p1 := p0.keep bz1
      have b1 := b0.trans (bz1.mono b0.size)
      have hrow1 := hrow0.keep bz1
      clear r0 p0 b0 bz1 HW hrow0
      obtain ⟨_, s0, s1, s2, s3⟩ := (id p1)
      dsimp only at s0 s1 s2 s3
      go_wp2_with fail
      refine (specDue_yes ⟨x1, x2, x3, x4⟩ _ HK.out).mono ?_
      rintro e z2 ⟨rfl, bz2⟩
      have r2 := r1.below bz2
      have p2 := p1.keep bz2
      have b2 := b1.trans (bz2.mono b1.size)
      have hrow2 := hrow1.keep bz2
      have hsz2 := r2.lt
      clear r1 p1 b1 bz2 hrow1 s0 s1 s2 s3
      obtain ⟨_, s0, s1, s2, s3⟩ := p2
      dsimp only at s0 s1 s2 s3
      go_wp2_with fail
      refine (l03Put_any b off cap l ⟨x1, x2, x3, x4⟩ c m _ HP.out h200 (rightQ_lt HQ.out) hcap hrow2).mono ?_
      rintro e z3 ⟨v, rfl, hr3, bz3⟩
      obtain ⟨va, vn, vc, rfl⟩ := rowShape hr3
      unfold outV d0
      have r3 := r2.below bz3
      have b3 := b2.trans (bz3.mono b2.size)
      have HR : Hid (z3.ownsRow z2.heap.size 25 4 (.slice va vn vc) m.length (cellsOf DueV.cells m)) := hr3
      clear r2 b2 bz3 hrow2 hr3 s0 s1 s2 s3
      obtain ⟨u0, u1, u2, u3, u4, u5, ⟨c0, c1, c2, c3, c4, c5⟩, f0, f1, f2, f3, f4, f5⟩ := r3.cells
      go_wp2
      have KZ := keeps_six z3 (w.heap.size + 1) (.slice va vn vc) (.int .i64 0) (.int .i64 0) (.int .i64 0) (.string ⟨#[]⟩) (.int .i64 c)
      have H6 := r3.six (.slice va vn vc) (.int .i64 0) (.int .i64 0) (.int .i64 0) (.string ⟨#[]⟩) (.int .i64 c)
      obtain ⟨z6, hz6⟩ : ∃ z6, ((((((z3.setCell ⟨(w.heap.size + 1), 0, none⟩ (.slice va vn vc)).setCell ⟨(w.heap.size + 1), 1, none⟩ (.int .i64 0)).setCell ⟨(w.heap.size + 1), 2, none⟩ (.int .i64 0)).setCell ⟨(w.heap.size + 1), 3, none⟩ (.int .i64 0)).setCell ⟨(w.heap.size + 1), 4, none⟩ (.string ⟨#[]⟩)).setCell ⟨(w.heap.size + 1), 5, none⟩ (.int .i64 c)) = z6 := ⟨_, rfl⟩
      rw [hz6] at KZ H6 ⊢
      clear hz6
      obtain ⟨q0, q1, q2, q3, q4, q5⟩ := six_cells H6
      refine bodyPost_ret (v := outV (.slice va vn vc) d0 c) (by simp [results, Try.results15, go_sem, outV, d0, q0, q1, q2, q3, q4, q5]) rfl ?_
      exact ⟨_, rfl, rowLe (rowKeep HR.out KZ (fun g hg => by have := (HR.out.lt g hg).1; omega)) (by omega), b3.trans (KZ.toBelow b3.size (fun q hq => by omega))⟩
    · have HK : Hid (¬ DueV.ok ⟨x1, x2, x3, x4⟩) := h3
      obtain ⟨rfl, rfl⟩ : c = 1 ∧ m = [] := by
        rcases hP with ⟨h, _⟩ | ⟨_, _, h⟩ | ⟨_, h, _⟩ | ⟨_, h, _⟩ | ⟨_, h, _⟩
        · omega
        · exact h
        · exact absurd h h3
        · exact absurd h h3
        · exact absurd h h3
      clear hP h2 h3
      go_enter Try.func15, Try.ntmps15
      go_wp2_with fail
      rw [HW.out]
      refine (specQ_yes _ cap l _ hl hrow0 HQ.out).mono ?_
      rintro e z1 ⟨rfl, bz1⟩
      have r1 := r0.below bz1
      have p1 := p0.keep bz1
      have b1 := b0.trans (bz1.mono b0.size)
      clear r0 p0 b0 bz1 HW hrow0
      obtain ⟨_, s0, s1, s2, s3⟩ := p1
      dsimp only at s0 s1 s2 s3
      go_wp2_with fail
      refine (specDue_no ⟨x1, x2, x3, x4⟩ _ HK.out).mono ?_
      rintro e z2 ⟨rfl, bz2⟩
      have r2 := r1.below bz2
      have b2 := b1.trans (bz2.mono b1.size)
      clear r1 b1 bz2 s0 s1 s2 s3
      go_wp2_with fail
      refine (ill_any 1 _).mono ?_
      rintro e z9 ⟨rfl, bn⟩
      unfold outV d0
      have r9 := r2.below bn
      have b9 := b2.trans (bn.mono b2.size)
      clear bn
      obtain ⟨u0, u1, u2, u3, u4, u5, ⟨c0, c1, c2, c3, c4, c5⟩, f0, f1, f2, f3, f4, f5⟩ := r9.cells
      go_wp2
      have KZ := keeps_six z9 (w.heap.size + 1) (.slice none 0 0) (.int .i64 0) (.int .i64 0) (.int .i64 0) (.string ⟨#[]⟩) (.int .i64 1)
      have H6 := r9.six (.slice none 0 0) (.int .i64 0) (.int .i64 0) (.int .i64 0) (.string ⟨#[]⟩) (.int .i64 1)
      obtain ⟨z6, hz6⟩ : ∃ z6, ((((((z9.setCell ⟨(w.heap.size + 1), 0, none⟩ (.slice none 0 0)).setCell ⟨(w.heap.size + 1), 1, none⟩ (.int .i64 0)).setCell ⟨(w.heap.size + 1), 2, none⟩ (.int .i64 0)).setCell ⟨(w.heap.size + 1), 3, none⟩ (.int .i64 0)).setCell ⟨(w.heap.size + 1), 4, none⟩ (.string ⟨#[]⟩)).setCell ⟨(w.heap.size + 1), 5, none⟩ (.int .i64 1)) = z6 := ⟨_, rfl⟩
      rw [hz6] at KZ H6 ⊢
      clear hz6
      obtain ⟨q0, q1, q2, q3, q4, q5⟩ := six_cells H6
      refine bodyPost_ret (v := outV (.slice none 0 0) d0 1) (by simp [results, Try.results15, go_sem, outV, d0, q0, q1, q2, q3, q4, q5]) rfl ?_
      exact ⟨_, rfl, World.ownsRow_nil _ _ _ _, b9.trans (KZ.toBelow b9.size (fun q hq => by omega))⟩
  · have HQ : Hid (¬ rightQ l) := h2
    obtain ⟨rfl, rfl⟩ : c = 1 ∧ m = [] := by
      rcases hP with ⟨h, _⟩ | ⟨_, _, h⟩ | ⟨h, _⟩ | ⟨h, _⟩ | ⟨h, _⟩
      · omega
      · exact h
      · exact absurd h h2
      · exact absurd h h2
      · exact absurd h h2
    clear hP h2
    go_enter Try.func15, Try.ntmps15
    go_wp2_with fail
    rw [HW.out]
    refine (specQ_no _ cap l _ hl hrow0 HQ.out).mono ?_
    rintro e z1 ⟨rfl, bz1⟩
    have r1 := r0.below bz1
    have b1 := b0.trans (bz1.mono b0.size)
    clear r0 p0 b0 bz1 HW hrow0
    go_wp2_with fail
    refine (ill_any 1 _).mono ?_
    rintro e z9 ⟨rfl, bn⟩
    unfold outV d0
    have r9 := r1.below bn
    have b9 := b1.trans (bn.mono b1.size)
    clear bn
    obtain ⟨u0, u1, u2, u3, u4, u5, ⟨c0, c1, c2, c3, c4, c5⟩, f0, f1, f2, f3, f4, f5⟩ := r9.cells
    go_wp2
    have KZ := keeps_six z9 (w.heap.size + 1) (.slice none 0 0) (.int .i64 0) (.int .i64 0) (.int .i64 0) (.string ⟨#[]⟩) (.int .i64 1)
    have H6 := r9.six (.slice none 0 0) (.int .i64 0) (.int .i64 0) (.int .i64 0) (.string ⟨#[]⟩) (.int .i64 1)
    obtain ⟨z6, hz6⟩ : ∃ z6, ((((((z9.setCell ⟨(w.heap.size + 1), 0, none⟩ (.slice none 0 0)).setCell ⟨(w.heap.size + 1), 1, none⟩ (.int .i64 0)).setCell ⟨(w.heap.size + 1), 2, none⟩ (.int .i64 0)).setCell ⟨(w.heap.size + 1), 3, none⟩ (.int .i64 0)).setCell ⟨(w.heap.size + 1), 4, none⟩ (.string ⟨#[]⟩)).setCell ⟨(w.heap.size + 1), 5, none⟩ (.int .i64 1)) = z6 := ⟨_, rfl⟩
    rw [hz6] at KZ H6 ⊢
    clear hz6
    obtain ⟨q0, q1, q2, q3, q4, q5⟩ := six_cells H6
    refine bodyPost_ret (v := outV (.slice none 0 0) d0 1) (by simp [results, Try.results15, go_sem, outV, d0, q0, q1, q2, q3, q4, q5]) rfl ?_
    exact ⟨_, rfl, World.ownsRow_nil _ _ _ _, b9.trans (KZ.toBelow b9.size (fun q hq => by omega))⟩
end Go.Proofs.Ytlnkcbojoaoehaa
