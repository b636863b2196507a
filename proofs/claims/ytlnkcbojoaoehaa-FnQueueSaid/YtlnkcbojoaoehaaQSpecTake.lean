/- The contract of the specification's QueueTake. -/
import Derived.Test.YtlnkcbojoaoehaaQApp
import Derived.Test.YtlnkcbojoaoehaaReg
namespace Go.Proofs.Ytlnkcbojoaoehaa
open Go Go.RowKit
set_option linter.unusedVariables false

theorem DueAt.keepK {w w' : World} {b off : Nat} {x : DueV} (h : DueAt w b off x) {G : Nat → Prop} (k : Keeps G w w') (hg : G b) : DueAt w' b off x :=
  ⟨Nat.lt_of_lt_of_le h.lt k.size, (k.cell (p := ⟨b, off, none⟩) h.lt hg).trans h.c0, (k.cell (p := ⟨b, off + 1, none⟩) h.lt hg).trans h.c1, (k.cell (p := ⟨b, off + 2, none⟩) h.lt hg).trans h.c2, (k.cell (p := ⟨b, off + 3, none⟩) h.lt hg).trans h.c3⟩
set_option maxHeartbeats 1000000 in
set_option maxRecDepth 100000 in
theorem specTakeQ_any (a : Option Addr) (cap : Nat) (l : List DueV) (c : Int) (y : DueV) (m : List DueV) (w : World) (hP : TakeIs l c y m) (hl : l.length ≤ 1048576) (hcap : l.length ≤ cap) (hrow : CellRow w a (cellsOf DueV.cells l)) :
    Calls Try.prog 16 #[.slice a l.length cap] w (OutPost c y m w) := by
  have b0 := (Below.refl w.heap.size w).alloc (Nat.le_refl _) (.cells #[.slice none 0 0, .int .i64 0, .int .i64 0, .int .i64 0, .string ⟨#[]⟩, .int .i64 0] 29)
  have r0 := ResBlk.new w (.slice none 0 0) (.int .i64 0) (.int .i64 0) (.int .i64 0) (.string ⟨#[]⟩) (.int .i64 0)
  have hrow0 := hrow.keep b0
  obtain ⟨W, hW⟩ : ∃ W, w.alloc (.cells #[.slice none 0 0, .int .i64 0, .int .i64 0, .int .i64 0, .string ⟨#[]⟩, .int .i64 0] 29) = W := ⟨_, rfl⟩
  rw [hW] at b0 r0 hrow0
  have HW : Hid (w.alloc (.cells #[.slice none 0 0, .int .i64 0, .int .i64 0, .int .i64 0, .string ⟨#[]⟩, .int .i64 0] 29) = W) := hW
  have hsz0 := r0.lt
  clear hW
  rcases hP with ⟨h1, rfl, rfl, rfl⟩ | ⟨h1, h2, rfl, rfl, rfl⟩ | ⟨rfl, rfl, rfl, rfl⟩ | ⟨h2, rfl, rfl⟩
  · have h1' : 400 < (l.length : Int) := by omega
    go_enter Try.func16, Try.ntmps16
    go_wp2_with fail
    rw [HW.out]
    refine (ill_any 2 _).mono ?_
    rintro e z9 ⟨rfl, bn⟩
    unfold outV d0
    have r9 := r0.below bn
    have b9 := b0.trans (bn.mono b0.size)
    clear bn
    obtain ⟨u0, u1, u2, u3, u4, u5, ⟨c0, c1, c2, c3, c4, c5⟩, f0, f1, f2, f3, f4, f5⟩ := r9.cells
    go_wp2
    have KZ := keeps_six z9 w.heap.size (.slice none 0 0) (.int .i64 0) (.int .i64 0) (.int .i64 0) (.string ⟨#[]⟩) (.int .i64 2)
    have H6 := r9.six (.slice none 0 0) (.int .i64 0) (.int .i64 0) (.int .i64 0) (.string ⟨#[]⟩) (.int .i64 2)
    obtain ⟨z6, hz6⟩ : ∃ z6, ((((((z9.setCell ⟨w.heap.size, 0, none⟩ (.slice none 0 0)).setCell ⟨w.heap.size, 1, none⟩ (.int .i64 0)).setCell ⟨w.heap.size, 2, none⟩ (.int .i64 0)).setCell ⟨w.heap.size, 3, none⟩ (.int .i64 0)).setCell ⟨w.heap.size, 4, none⟩ (.string ⟨#[]⟩)).setCell ⟨w.heap.size, 5, none⟩ (.int .i64 2)) = z6 := ⟨_, rfl⟩
    rw [hz6] at KZ H6 ⊢
    clear hz6
    obtain ⟨q0, q1, q2, q3, q4, q5⟩ := six_cells H6
    refine bodyPost_ret (v := outV (.slice none 0 0) d0 2) (by simp [results, Try.results16, go_sem, outV, d0, q0, q1, q2, q3, q4, q5]) rfl ?_
    exact ⟨_, rfl, World.ownsRow_nil _ _ _ _, b9.trans (KZ.toBelow b9.size (fun q hq => by omega))⟩
  · have h1' : ¬ 400 < (l.length : Int) := by omega
    have HN : Hid (¬ rightQ l) := h2
    clear h2
    go_enter Try.func16, Try.ntmps16
    go_wp2_with fail
    rw [HW.out]
    refine (specQ_no a cap l _ hl hrow0 HN.out).mono ?_
    rintro e z1 ⟨rfl, bz1⟩
    have r1 := r0.below bz1
    have b1 := b0.trans (bz1.mono b0.size)
    clear r0 b0 bz1 HW hrow0
    go_wp2_with fail
    refine (ill_any 1 _).mono ?_
    rintro e z9 ⟨rfl, bn⟩
    unfold outV d0
    have r9 := r1.below bn
    have b9 := b1.trans (bn.mono b1.size)
    clear bn
    obtain ⟨u0, u1, u2, u3, u4, u5, ⟨c0, c1, c2, c3, c4, c5⟩, f0, f1, f2, f3, f4, f5⟩ := r9.cells
    go_wp2
    have KZ := keeps_six z9 w.heap.size (.slice none 0 0) (.int .i64 0) (.int .i64 0) (.int .i64 0) (.string ⟨#[]⟩) (.int .i64 1)
    have H6 := r9.six (.slice none 0 0) (.int .i64 0) (.int .i64 0) (.int .i64 0) (.string ⟨#[]⟩) (.int .i64 1)
    obtain ⟨z6, hz6⟩ : ∃ z6, ((((((z9.setCell ⟨w.heap.size, 0, none⟩ (.slice none 0 0)).setCell ⟨w.heap.size, 1, none⟩ (.int .i64 0)).setCell ⟨w.heap.size, 2, none⟩ (.int .i64 0)).setCell ⟨w.heap.size, 3, none⟩ (.int .i64 0)).setCell ⟨w.heap.size, 4, none⟩ (.string ⟨#[]⟩)).setCell ⟨w.heap.size, 5, none⟩ (.int .i64 1)) = z6 := ⟨_, rfl⟩
    rw [hz6] at KZ H6 ⊢
    clear hz6
    obtain ⟨q0, q1, q2, q3, q4, q5⟩ := six_cells H6
    refine bodyPost_ret (v := outV (.slice none 0 0) d0 1) (by simp [results, Try.results16, go_sem, outV, d0, q0, q1, q2, q3, q4, q5]) rfl ?_
    exact ⟨_, rfl, World.ownsRow_nil _ _ _ _, b9.trans (KZ.toBelow b9.size (fun q hq => by omega))⟩
  · have HN : Hid (rightQ []) := ⟨by simp, fun i hi => absurd hi (by simp)⟩
    go_enter Try.func16, Try.ntmps16
    go_wp2_with fail
    rw [HW.out]
    refine (specQ_yes a cap [] _ hl hrow0 HN.out).mono ?_
    rintro e z1 ⟨rfl, bz1⟩
    have r1 := r0.below bz1
    have b1 := b0.trans (bz1.mono b0.size)
    clear r0 b0 bz1 HW hrow0
    go_wp2_with fail
    refine (ill_any 6 _).mono ?_
    rintro e z9 ⟨rfl, bn⟩
    unfold outV d0
    have r9 := r1.below bn
    have b9 := b1.trans (bn.mono b1.size)
    clear bn
    obtain ⟨u0, u1, u2, u3, u4, u5, ⟨c0, c1, c2, c3, c4, c5⟩, f0, f1, f2, f3, f4, f5⟩ := r9.cells
    go_wp2
    have KZ := keeps_six z9 w.heap.size (.slice none 0 0) (.int .i64 0) (.int .i64 0) (.int .i64 0) (.string ⟨#[]⟩) (.int .i64 6)
    have H6 := r9.six (.slice none 0 0) (.int .i64 0) (.int .i64 0) (.int .i64 0) (.string ⟨#[]⟩) (.int .i64 6)
    obtain ⟨z6, hz6⟩ : ∃ z6, ((((((z9.setCell ⟨w.heap.size, 0, none⟩ (.slice none 0 0)).setCell ⟨w.heap.size, 1, none⟩ (.int .i64 0)).setCell ⟨w.heap.size, 2, none⟩ (.int .i64 0)).setCell ⟨w.heap.size, 3, none⟩ (.int .i64 0)).setCell ⟨w.heap.size, 4, none⟩ (.string ⟨#[]⟩)).setCell ⟨w.heap.size, 5, none⟩ (.int .i64 6)) = z6 := ⟨_, rfl⟩
    rw [hz6] at KZ H6 ⊢
    clear hz6
    obtain ⟨q0, q1, q2, q3, q4, q5⟩ := six_cells H6
    refine bodyPost_ret (v := outV (.slice none 0 0) d0 6) (by simp [results, Try.results16, go_sem, outV, d0, q0, q1, q2, q3, q4, q5]) rfl ?_
    exact ⟨_, rfl, World.ownsRow_nil _ _ _ _, b9.trans (KZ.toBelow b9.size (fun q hq => by omega))⟩
  · have h200 := h2.1
    have hml : m.length ≤ 200 := by simp at h200; omega
    obtain ⟨n, hn⟩ : ∃ n, (y :: m).length = n := ⟨_, rfl⟩
    have hnm : n = m.length + 1 := by rw [← hn]; simp
    have h1' : ¬ 400 < (n : Int) := by omega
    have hne : ((n : Int) == 0) = false := beq_eq_false_iff_ne.2 (by omega)
    have HN : Hid (rightQ (y :: m)) := h2
    obtain ⟨b, off, rfl⟩ := hrow.addr (by rw [cellsOf_length DueV.cells_len]; simp)
    have hs1 := (specQ_yes (some ⟨b, off, none⟩) cap (y :: m) W hl hrow0 HN.out)
    rw [hn] at hs1 hcap
    have hcapI : (n : Int) ≤ (cap : Int) := by omega
    have hNM : Hid (n = m.length + 1) := hnm
    have HN2 : Hid ((y :: m).length = n) := hn
    have hn1 : 1 ≤ n := by omega
    have hn0 : ¬ n = 0 := by omega
    rw [hn]
    have hbw : b < w.heap.size := by
      rcases hrow with h | ⟨_, _, e, h, _⟩
      · have := cellsOf_length DueV.cells_len (y :: m); rw [h] at this; simp at this
      · simp only [Option.some.injEq, Addr.mk.injEq, and_true] at e; omega
    clear h2 hn hnm h200 hl
    go_enter Try.func16, Try.ntmps16
    go_wp2_with fail
    rw [HW.out]
    refine hs1.mono ?_
    rintro e z1 ⟨rfl, bz1⟩
    have r1 := r0.below bz1
    have b1 := b0.trans (bz1.mono b0.size)
    have hrow1 := hrow0.keep bz1
    have hsz1 := r1.lt
    clear r0 b0 bz1 HW hrow0 hs1
    have dm : DueAt z1 b off y := hrow1.duef (i := 0) (by simp) rfl
    obtain ⟨y1, y2, y3, y4⟩ := y
    have hIn : (1 : Int) ≤ (n : Int) := by omega
    go_upto_region 7 with fail
    refine wp_region_held_drew (S := (fun w' => DueAt w' b off ⟨y1, y2, y3, y4⟩)) (by kernel_rfl) ?hS0 (fun hHeld => ?_)
    case hS0 => exact dm.keep (Below.refl _ _).drew
    refine takeG 1 (v := .slice (some ⟨b, off, none⟩) n cap) rfl (by kernel_rfl) (by kernel_rfl) (by kernel_rfl) (by kernel_rfl) (fun _ _ _ h => h) ?hy (by assumption) ?_
    case hy => (intro w' hSw; go_simp)
    try simp only [List.setIfInBounds_toArray, List.set_cons_zero, List.set_cons_succ]
    refine takeG 2 (v := .slice (some ⟨b, restOff off cap 1, none⟩) (n - 1) (cap - 1)) rfl (by kernel_rfl) (by kernel_rfl) (by kernel_rfl) (by kernel_rfl) (fun _ _ _ h => h) ?hy (by assumption) ?_
    case hy =>
      intro w' hSw
      unfold restOff
      by_cases hc : cap = 1
      · go_simp
      · go_simp
    try simp only [List.setIfInBounds_toArray, List.set_cons_zero, List.set_cons_succ]
    refine takeG 4 (v := .slice (some ⟨b, off, none⟩) n cap) rfl (by kernel_rfl) (by kernel_rfl) (by kernel_rfl) (by kernel_rfl) (fun _ _ _ h => h) ?hy (by assumption) ?_
    case hy => (intro w' hSw; go_simp)
    try simp only [List.setIfInBounds_toArray, List.set_cons_zero, List.set_cons_succ]
    refine takeG 5 (v := .pointer (some ⟨b, off, none⟩)) rfl (by kernel_rfl) (by kernel_rfl) (by kernel_rfl) (by kernel_rfl) (fun _ _ _ h => h) ?hy (by assumption) ?_
    case hy => (intro w' hSw; go_simp)
    try simp only [List.setIfInBounds_toArray, List.set_cons_zero, List.set_cons_succ]
    refine takeG 6 (v := .agg #[.int .i64 y1, .int .i64 y2, .int .i64 y3, .string y4]) rfl (by kernel_rfl) (by kernel_rfl) (by kernel_rfl) (by kernel_rfl) (fun _ _ _ h => h) ?hy6 (by assumption) ?_
    case hy6 => (intro w' hSw; obtain ⟨_, s0, s1, s2, s3⟩ := hSw; dsimp only at s0 s1 s2 s3; go_simp)
    try simp only [List.setIfInBounds_toArray, List.set_cons_zero, List.set_cons_succ]
    refine oneH 0 (by kernel_rfl) ?_
    refine doH rfl (v := .slice (some ⟨z1.heap.size, 0, none⟩) 0 0) (w' := (z1.alloc (.cells #[] 25)).drew) (by go_simp) (dm.keep ((Below.refl _ _).alloc (Nat.le_refl _) _).drew) ?_
    try simp only [List.setIfInBounds_toArray, List.set_cons_zero, List.set_cons_succ]
    refine runG 3 (by kernel_rfl) rfl (by kernel_rfl) ?_
    have bA : Below z1.heap.size z1 (z1.alloc (.cells #[] 25)).drew := ((Below.refl _ _).alloc (Nat.le_refl _) _).drew
    refine append_dues (.tmp 15) (.tmp 17) rfl z1.heap.size _ 0 [] rfl (World.ownsRow.drew (World.ownsRow_lit _ #[] 0 (Nat.le_refl _) (by simp [maxLen]) rfl)) ⟨b, restOff off cap 1, none⟩ (n - 1) (cap - 1) m (by have := hNM.out; omega) rfl (restOff_row (l := ⟨y1, y2, y3, y4⟩ :: m) (hrow1.keep bA) 1 (by simp) (by rw [HN2.out]; exact hcap)) (by omega) bA.size ?_
    intro v2 w1 hown2 hgr
    have bG : Below z1.heap.size z1 w1 := bA.grown hgr bA.size (fun g hg => by obtain rfl := Option.some.inj hg; exact Nat.le_refl _)
    have dm2 := dm.keep bG
    refine ⟨dm2, ?_⟩
    try simp only [Act.put, List.setIfInBounds_toArray, List.set_cons_zero, List.set_cons_succ]
    have HR : Hid (w1.ownsRow z1.heap.size 25 4 v2 m.length (cellsOf DueV.cells m)) := by
      have e : 0 + (n - 1) = m.length := by have := hNM.out; omega
      rw [e, List.nil_append] at hown2
      exact hown2
    clear hown2 hgr bA
    obtain ⟨va, vn, vc, rfl⟩ := rowShape HR.out
    have r2 := r1.below bG
    have b2 := b1.trans (bG.mono b1.size)
    obtain ⟨u0, u1, u2, u3, u4, u5, ⟨c0, c1, c2, c3, c4, c5⟩, f0, f1, f2, f3, f4, f5⟩ := r2.cells
    clear r1 b1 hrow1 dm
    refine takeG 7 (v := .agg #[.slice va vn vc, .int .i64 y1, .int .i64 y2, .int .i64 y3, .string y4, .int .i64 0]) rfl (by kernel_rfl) (by kernel_rfl) (by kernel_rfl) (by kernel_rfl) (fun _ _ _ h => h) ?hy2 (by assumption) ?_
    case hy2 => (intro w' hSw; go_simp)
    try simp only [List.setIfInBounds_toArray, List.set_cons_zero, List.set_cons_succ]
    have KZ := keeps_six w1 w.heap.size (.slice va vn vc) (.int .i64 y1) (.int .i64 y2) (.int .i64 y3) (.string y4) (.int .i64 0)
    have H6 := r2.six (.slice va vn vc) (.int .i64 y1) (.int .i64 y2) (.int .i64 y3) (.string y4) (.int .i64 0)
    refine oneH 8 (by kernel_rfl) ?_
    refine storeH rfl (nx := .skip) (w' := ((((((w1.setCell ⟨w.heap.size, 0, none⟩ (.slice va vn vc)).setCell ⟨w.heap.size, 1, none⟩ (.int .i64 y1)).setCell ⟨w.heap.size, 2, none⟩ (.int .i64 y2)).setCell ⟨w.heap.size, 3, none⟩ (.int .i64 y3)).setCell ⟨w.heap.size, 4, none⟩ (.string y4)).setCell ⟨w.heap.size, 5, none⟩ (.int .i64 0))) (by go_simp) (.inl rfl) ?hSS ?_
    case hSS => exact dm2.keepK KZ (by omega)
    try simp only [List.setIfInBounds_toArray, List.set_cons_zero, List.set_cons_succ]
    refine wpAnyH_done (by kernel_rfl) ?_ _
    obtain ⟨z6, hz6⟩ : ∃ z6, ((((((w1.setCell ⟨w.heap.size, 0, none⟩ (.slice va vn vc)).setCell ⟨w.heap.size, 1, none⟩ (.int .i64 y1)).setCell ⟨w.heap.size, 2, none⟩ (.int .i64 y2)).setCell ⟨w.heap.size, 3, none⟩ (.int .i64 y3)).setCell ⟨w.heap.size, 4, none⟩ (.string y4)).setCell ⟨w.heap.size, 5, none⟩ (.int .i64 0)) = z6 := ⟨_, rfl⟩
    rw [hz6] at KZ H6 ⊢
    clear hz6 c0 c1 c2 c3 c4 c5
    obtain ⟨q0, q1, q2, q3, q4, q5⟩ := six_cells H6
    go_wp2
    refine bodyPost_ret (v := outV (.slice va vn vc) ⟨y1, y2, y3, y4⟩ 0) (by simp [results, Try.results16, go_sem, outV, q0, q1, q2, q3, q4, q5]) rfl ?_
    exact ⟨_, rfl, rowLe (rowKeep HR.out KZ (fun g hg => by have := (HR.out.lt g hg).1; omega)) (by omega), b2.trans (KZ.toBelow b2.size (fun q hq => by omega))⟩
end Go.Proofs.Ytlnkcbojoaoehaa
