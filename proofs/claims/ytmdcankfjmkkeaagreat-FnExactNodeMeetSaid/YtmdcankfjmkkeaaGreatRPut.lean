/- The contracts of RumorPut, the program's and the specification's. -/
import Derived.Test.YtmdcankfjmkkeaaGreatG17
namespace Go.Proofs.YtmdcankfjmkkeaaGreat
open Go Go.RowKit
set_option linter.unusedVariables false
set_option linter.unusedSimpArgs false

theorem putR_codes {l : List RumV} {f : FactV} {c : Int} {m : List RumV} (h : PutRIs l f c m) : (c = 2 ∧ m = [] ∧ 400 < l.length) ∨ (c = 1 ∧ m = [] ∧ l.length ≤ 400 ∧ ¬ rightR l) ∨ (c = 1 ∧ m = [] ∧ rightR l ∧ ¬ f.ok) ∨ (c = 0 ∧ m = putR l f ∧ rightR l ∧ f.ok) := by
  rcases h with ⟨h1, rfl, rfl⟩ | ⟨h1, h2, rfl, rfl⟩ | ⟨h1, h2, rfl, rfl⟩
  · exact .inl ⟨rfl, rfl, h1⟩
  · by_cases h : rightR l
    · exact .inr (.inr (.inl ⟨rfl, rfl, h, h2.resolve_left (fun q => q h)⟩))
    · exact .inr (.inl ⟨rfl, rfl, h1, h⟩)
  · exact .inr (.inr (.inr ⟨rfl, rfl, h1, h2⟩))
set_option maxHeartbeats 2000000 in
set_option maxRecDepth 100000 in
theorem implRPut_any (a : Option Addr) (cap : Nat) (l : List RumV) (f : FactV) (c : Int) (m : List RumV) (w : World) (hP : PutRIs l f c m) (hl : l.length ≤ 1048576) (hrow : CellRow w a (cellsOf RumV.cells l)) :
    Calls Tryz.prog 153 #[.slice a l.length cap, f.val] w (ROutPost c m [] w) := by
  obtain ⟨fc, hfc⟩ := faultR_ex l
  have HC : Hid (FaultR l fc) := hfc
  clear hfc
  obtain ⟨f1, f2, f3⟩ := f
  have HP : Hid (PutRIs l ⟨f1, f2, f3⟩ c m) := hP
  have p0 := (BlkIs.new w 54 #[.int .i64 f1, .int .i64 f2, .int .i64 f3]).keep ((Below.refl _ _).alloc (Nat.le_refl _) (.cells #[.slice none 0 0, .slice none 0 0, .int .i64 0] 170))
  have q0 := BlkIs.new (w.alloc (.cells #[.int .i64 f1, .int .i64 f2, .int .i64 f3] 54)) 170 #[.slice none 0 0, .slice none 0 0, .int .i64 0]
  rw [World.size_alloc] at q0
  have B0 : Below w.heap.size w ((w.alloc (.cells #[.int .i64 f1, .int .i64 f2, .int .i64 f3] 54)).alloc (.cells #[.slice none 0 0, .slice none 0 0, .int .i64 0] 170)) := ((Below.refl _ _).alloc (Nat.le_refl _) _).alloc (by simp) _
  have r0 := hrow.keep B0
  obtain ⟨W, hW⟩ : ∃ W, (w.alloc (.cells #[.int .i64 f1, .int .i64 f2, .int .i64 f3] 54)).alloc (.cells #[.slice none 0 0, .slice none 0 0, .int .i64 0] 170) = W := ⟨_, rfl⟩
  rw [hW] at p0 q0 B0 r0
  have HW : Hid (_ = W) := hW
  clear hW hP hrow
  unfold FactV.val
  go_enter Tryz.func153, Tryz.ntmps153
  go_wp2_with fail
  rw [HW.out]
  refine (rumorFault_any a cap l fc _ HC.out hl r0).mono ?_
  rintro e z ⟨rfl, bz⟩
  have p1 := p0.keep bz
  have q1 := q0.keep bz
  have r1 := r0.keep bz
  have B1 := B0.trans (bz.mono B0.size)
  clear p0 q0 r0 B0 bz HW
  rcases putR_codes HP.out with ⟨rfl, rfl, h400⟩ | ⟨rfl, rfl, h400, hnr⟩ | ⟨rfl, rfl, hr, hnf⟩ | ⟨rfl, rfl, hr, hf⟩
  · obtain rfl : fc = 2 := by
      rcases HC.out with ⟨_, h⟩ | ⟨h, _⟩ | ⟨h, _⟩
      · exact h
      · omega
      · have := rightR_len h; omega
    clear HC HP
    have g0 : z.cell? ⟨w.heap.size + 1, 0, none⟩ = some (.slice none 0 0) := q1.cell 0
    have g1 : z.cell? ⟨w.heap.size + 1, 1, none⟩ = some (.slice none 0 0) := q1.cell 1
    have g2 : z.cell? ⟨w.heap.size + 1, 2, none⟩ = some (.int .i64 0) := q1.cell 2
    have z0 := q1.fz 0
    have z1 := q1.fz 1
    have z2 := q1.fz 2
    have RZ : BlkIs (((z.setCell ⟨w.heap.size + 1, 0, none⟩ (.slice none 0 0)).setCell ⟨w.heap.size + 1, 1, none⟩ (.slice none 0 0)).setCell ⟨w.heap.size + 1, 2, none⟩ (.int .i64 2)) (w.heap.size + 1) 170 #[(.slice none 0 0), (.slice none 0 0), .int .i64 2] := blk_put3 q1 _ _ _
    have BZ : Below w.heap.size w (((z.setCell ⟨w.heap.size + 1, 0, none⟩ (.slice none 0 0)).setCell ⟨w.heap.size + 1, 1, none⟩ (.slice none 0 0)).setCell ⟨w.heap.size + 1, 2, none⟩ (.int .i64 2)) := ((B1.setCell (by dsimp only; omega) _).setCell (by dsimp only; omega) _).setCell (by dsimp only; omega) _
    have KZ : Keeps (fun k => k ≠ w.heap.size + 1) z (((z.setCell ⟨w.heap.size + 1, 0, none⟩ (.slice none 0 0)).setCell ⟨w.heap.size + 1, 1, none⟩ (.slice none 0 0)).setCell ⟨w.heap.size + 1, 2, none⟩ (.int .i64 2)) := keeps_three _ _ _ _ _
    go_wp2
    obtain ⟨Z, hZ⟩ : ∃ Z, (((z.setCell ⟨w.heap.size + 1, 0, none⟩ (.slice none 0 0)).setCell ⟨w.heap.size + 1, 1, none⟩ (.slice none 0 0)).setCell ⟨w.heap.size + 1, 2, none⟩ (.int .i64 2)) = Z := ⟨_, rfl⟩
    rw [hZ] at RZ BZ KZ ⊢
    clear hZ g0 g1 g2 z0 z1 z2
    have h0 : Z.cell? ⟨w.heap.size + 1, 0, none⟩ = some (.slice none 0 0) := RZ.cell 0
    have h1 : Z.cell? ⟨w.heap.size + 1, 1, none⟩ = some (.slice none 0 0) := RZ.cell 1
    have h2 : Z.cell? ⟨w.heap.size + 1, 2, none⟩ = some (.int .i64 2) := RZ.cell 2
    exact bodyPost_ret (v := .agg #[(.slice none 0 0), (.slice none 0 0), .int .i64 2]) (by simp [results, Tryz.results153, go_sem, h0, h1, h2]) rfl ⟨_, _, rfl, ownsNilR _ _, ownsNilF _ _, BZ⟩
  · obtain rfl : fc = 1 := by
      rcases HC.out with ⟨h, _⟩ | ⟨_, _, h⟩ | ⟨h, _⟩
      · omega
      · exact h
      · exact absurd h hnr
    clear HC HP
    have g0 : z.cell? ⟨w.heap.size + 1, 0, none⟩ = some (.slice none 0 0) := q1.cell 0
    have g1 : z.cell? ⟨w.heap.size + 1, 1, none⟩ = some (.slice none 0 0) := q1.cell 1
    have g2 : z.cell? ⟨w.heap.size + 1, 2, none⟩ = some (.int .i64 0) := q1.cell 2
    have z0 := q1.fz 0
    have z1 := q1.fz 1
    have z2 := q1.fz 2
    have RZ : BlkIs (((z.setCell ⟨w.heap.size + 1, 0, none⟩ (.slice none 0 0)).setCell ⟨w.heap.size + 1, 1, none⟩ (.slice none 0 0)).setCell ⟨w.heap.size + 1, 2, none⟩ (.int .i64 1)) (w.heap.size + 1) 170 #[(.slice none 0 0), (.slice none 0 0), .int .i64 1] := blk_put3 q1 _ _ _
    have BZ : Below w.heap.size w (((z.setCell ⟨w.heap.size + 1, 0, none⟩ (.slice none 0 0)).setCell ⟨w.heap.size + 1, 1, none⟩ (.slice none 0 0)).setCell ⟨w.heap.size + 1, 2, none⟩ (.int .i64 1)) := ((B1.setCell (by dsimp only; omega) _).setCell (by dsimp only; omega) _).setCell (by dsimp only; omega) _
    have KZ : Keeps (fun k => k ≠ w.heap.size + 1) z (((z.setCell ⟨w.heap.size + 1, 0, none⟩ (.slice none 0 0)).setCell ⟨w.heap.size + 1, 1, none⟩ (.slice none 0 0)).setCell ⟨w.heap.size + 1, 2, none⟩ (.int .i64 1)) := keeps_three _ _ _ _ _
    go_wp2
    obtain ⟨Z, hZ⟩ : ∃ Z, (((z.setCell ⟨w.heap.size + 1, 0, none⟩ (.slice none 0 0)).setCell ⟨w.heap.size + 1, 1, none⟩ (.slice none 0 0)).setCell ⟨w.heap.size + 1, 2, none⟩ (.int .i64 1)) = Z := ⟨_, rfl⟩
    rw [hZ] at RZ BZ KZ ⊢
    clear hZ g0 g1 g2 z0 z1 z2
    have h0 : Z.cell? ⟨w.heap.size + 1, 0, none⟩ = some (.slice none 0 0) := RZ.cell 0
    have h1 : Z.cell? ⟨w.heap.size + 1, 1, none⟩ = some (.slice none 0 0) := RZ.cell 1
    have h2 : Z.cell? ⟨w.heap.size + 1, 2, none⟩ = some (.int .i64 1) := RZ.cell 2
    exact bodyPost_ret (v := .agg #[(.slice none 0 0), (.slice none 0 0), .int .i64 1]) (by simp [results, Tryz.results153, go_sem, h0, h1, h2]) rfl ⟨_, _, rfl, ownsNilR _ _, ownsNilF _ _, BZ⟩
  · obtain rfl : fc = 0 := by
      rcases HC.out with ⟨h, _⟩ | ⟨_, h, _⟩ | ⟨_, h⟩
      · have := rightR_len hr; omega
      · exact absurd hr h
      · exact h
    have HN : Hid (¬ FactV.ok ⟨f1, f2, f3⟩) := hnf
    clear HC HP hr hnf
    have c0 : z.cell? ⟨w.heap.size, 0, none⟩ = some (.int .i64 f1) := p1.cell 0
    have c1 : z.cell? ⟨w.heap.size, 1, none⟩ = some (.int .i64 f2) := p1.cell 1
    have c2 : z.cell? ⟨w.heap.size, 2, none⟩ = some (.int .i64 f3) := p1.cell 2
    go_wp2_with fail
    refine (factRight_is ⟨f1, f2, f3⟩ _ false ⟨fun h => (by cases h), fun h => absurd h HN.out⟩).mono ?_
    rintro e y ⟨rfl, by2⟩
    have q2 := q1.keep by2
    have B2 := B1.trans (by2.mono B1.size)
    clear p1 q1 r1 B1 by2 c0 c1 c2 HN
    have g0 : y.cell? ⟨w.heap.size + 1, 0, none⟩ = some (.slice none 0 0) := q2.cell 0
    have g1 : y.cell? ⟨w.heap.size + 1, 1, none⟩ = some (.slice none 0 0) := q2.cell 1
    have g2 : y.cell? ⟨w.heap.size + 1, 2, none⟩ = some (.int .i64 0) := q2.cell 2
    have z0 := q2.fz 0
    have z1 := q2.fz 1
    have z2 := q2.fz 2
    have RZ : BlkIs (((y.setCell ⟨w.heap.size + 1, 0, none⟩ (.slice none 0 0)).setCell ⟨w.heap.size + 1, 1, none⟩ (.slice none 0 0)).setCell ⟨w.heap.size + 1, 2, none⟩ (.int .i64 1)) (w.heap.size + 1) 170 #[(.slice none 0 0), (.slice none 0 0), .int .i64 1] := blk_put3 q2 _ _ _
    have BZ : Below w.heap.size w (((y.setCell ⟨w.heap.size + 1, 0, none⟩ (.slice none 0 0)).setCell ⟨w.heap.size + 1, 1, none⟩ (.slice none 0 0)).setCell ⟨w.heap.size + 1, 2, none⟩ (.int .i64 1)) := ((B2.setCell (by dsimp only; omega) _).setCell (by dsimp only; omega) _).setCell (by dsimp only; omega) _
    have KZ : Keeps (fun k => k ≠ w.heap.size + 1) y (((y.setCell ⟨w.heap.size + 1, 0, none⟩ (.slice none 0 0)).setCell ⟨w.heap.size + 1, 1, none⟩ (.slice none 0 0)).setCell ⟨w.heap.size + 1, 2, none⟩ (.int .i64 1)) := keeps_three _ _ _ _ _
    go_wp2
    obtain ⟨Z, hZ⟩ : ∃ Z, (((y.setCell ⟨w.heap.size + 1, 0, none⟩ (.slice none 0 0)).setCell ⟨w.heap.size + 1, 1, none⟩ (.slice none 0 0)).setCell ⟨w.heap.size + 1, 2, none⟩ (.int .i64 1)) = Z := ⟨_, rfl⟩
    rw [hZ] at RZ BZ KZ ⊢
    clear hZ g0 g1 g2 z0 z1 z2
    have h0 : Z.cell? ⟨w.heap.size + 1, 0, none⟩ = some (.slice none 0 0) := RZ.cell 0
    have h1 : Z.cell? ⟨w.heap.size + 1, 1, none⟩ = some (.slice none 0 0) := RZ.cell 1
    have h2 : Z.cell? ⟨w.heap.size + 1, 2, none⟩ = some (.int .i64 1) := RZ.cell 2
    exact bodyPost_ret (v := .agg #[(.slice none 0 0), (.slice none 0 0), .int .i64 1]) (by simp [results, Tryz.results153, go_sem, h0, h1, h2]) rfl ⟨_, _, rfl, ownsNilR _ _, ownsNilF _ _, BZ⟩
  · obtain rfl : fc = 0 := by
      rcases HC.out with ⟨h, _⟩ | ⟨_, h, _⟩ | ⟨_, h⟩
      · have := rightR_len hr; omega
      · exact absurd hr h
      · exact h
    have HN : Hid (FactV.ok ⟨f1, f2, f3⟩) := hf
    have hbl : (butR l f1).length ≤ 6 := Nat.le_trans (butR_sub l f1).length_le (rightR_len hr)
    clear HC HP hr hf
    have c0 : z.cell? ⟨w.heap.size, 0, none⟩ = some (.int .i64 f1) := p1.cell 0
    have c1 : z.cell? ⟨w.heap.size, 1, none⟩ = some (.int .i64 f2) := p1.cell 1
    have c2 : z.cell? ⟨w.heap.size, 2, none⟩ = some (.int .i64 f3) := p1.cell 2
    go_wp2_with fail
    refine (factRight_is ⟨f1, f2, f3⟩ _ true ⟨fun _ => HN.out, fun _ => rfl⟩).mono ?_
    rintro e y ⟨rfl, by2⟩
    have p2 := p1.keep by2
    have q2 := q1.keep by2
    have r2 := r1.keep by2
    have B2 := B1.trans (by2.mono B1.size)
    clear p1 q1 r1 B1 by2 c0 c1 c2 HN
    go_upto_region 6 with fail
    obtain ⟨Y, hY⟩ : ∃ Y, y.drew = Y := ⟨_, rfl⟩
    have pY : BlkIs Y w.heap.size 54 #[.int .i64 f1, .int .i64 f2, .int .i64 f3] := by rw [← hY]; exact p2
    have qY : BlkIs Y (w.heap.size + 1) 170 #[.slice none 0 0, .slice none 0 0, .int .i64 0] := by rw [← hY]; exact q2
    have rY : CellRow Y a (cellsOf RumV.cells l) := by rw [← hY]; exact r2.keep (Below.refl _ _).drew
    have BY : Below w.heap.size w Y := by rw [← hY]; exact B2.drew
    clear p2 q2 r2 B2
    refine wp_region_held_drew (S := fun w' => Keeps (fun q => q ≠ w.heap.size + 1) Y w') (by kernel_rfl) ?hS0 (fun hHeld => ?_)
    case hS0 => rw [hY]; exact Keeps.refl _ _
    rw [hY] at hHeld ⊢
    clear hY
    have hYs := qY.lt
    refine takeG 0 (v := .slice a l.length cap) rfl (by kernel_rfl) (by kernel_rfl) (by kernel_rfl) (by kernel_rfl) (fun _ _ _ h => h) ?hy (by assumption) ?_
    case hy => (intro w' hSw; go_simp)
    try simp only [List.setIfInBounds_toArray, List.set_cons_zero, List.set_cons_succ]
    refine takeG 1 (v := .pointer (some ⟨w.heap.size, 0, none⟩)) rfl (by kernel_rfl) (by kernel_rfl) (by kernel_rfl) (by kernel_rfl) (fun _ _ _ h => h) ?hy (by assumption) ?_
    case hy => (intro w' hSw; go_simp)
    try simp only [List.setIfInBounds_toArray, List.set_cons_zero, List.set_cons_succ]
    refine takeG 2 (v := .int .i64 f1) rfl (by kernel_rfl) (by kernel_rfl) (by kernel_rfl) (by kernel_rfl) (fun _ _ _ h => h) ?hy (by assumption) ?_
    case hy => (intro w' hSw; have s0 : w'.cell? ⟨w.heap.size, 0, none⟩ = some (.int .i64 f1) := (pY.keepK hSw (by omega)).cell 0; go_simp)
    try simp only [List.setIfInBounds_toArray, List.set_cons_zero, List.set_cons_succ]
    refine takeG 4 (v := .agg #[.int .i64 f1, .int .i64 f2, .int .i64 f3]) rfl (by kernel_rfl) (by kernel_rfl) (by kernel_rfl) (by kernel_rfl) (fun _ _ _ h => h) ?hy (by assumption) ?_
    case hy => (intro w' hSw; have s0 : w'.cell? ⟨w.heap.size, 0, none⟩ = some (.int .i64 f1) := (pY.keepK hSw (by omega)).cell 0; have s1 : w'.cell? ⟨w.heap.size, 1, none⟩ = some (.int .i64 f2) := (pY.keepK hSw (by omega)).cell 1; have s2 : w'.cell? ⟨w.heap.size, 2, none⟩ = some (.int .i64 f3) := (pY.keepK hSw (by omega)).cell 2; go_simp)
    try simp only [List.setIfInBounds_toArray, List.set_cons_zero, List.set_cons_succ]
    refine takeG 5 (v := .agg #[.int .i64 f1, .int .i64 f2, .int .i64 f3, .int .i64 0]) rfl (by kernel_rfl) (by kernel_rfl) (by kernel_rfl) (by kernel_rfl) (fun _ _ _ h => h) ?hy (by assumption) ?_
    case hy => (intro w' hSw; go_simp)
    try simp only [List.setIfInBounds_toArray, List.set_cons_zero, List.set_cons_succ]
    refine twoH 3 6 (by kernel_rfl) ?A ?B
    case A =>
      refine callH rfl (by kernel_rfl) ?_
      go_simp
      refine (rumorsBut_any a cap l f1 _ hl rY).mono ?_
      rintro e x1 ⟨v1, rfl, own0, bx⟩
      refine ⟨Keeps.ofBelow bx (fun _ hq _ => hq), ?_⟩
      try simp only [Act.put, List.setIfInBounds_toArray, List.set_cons_zero, List.set_cons_succ]
      obtain ⟨ua, un, uc, rfl⟩ := rowShape own0
      have KB : Below Y.heap.size Y (x1.alloc (.cells #[.int .i64 f1, .int .i64 f2, .int .i64 f3, .int .i64 0] 59)) := bx.alloc bx.size _
      have own := rowBelow own0 ((Below.refl x1.heap.size x1).alloc (Nat.le_refl _) (.cells #[.int .i64 f1, .int .i64 f2, .int .i64 f3, .int .i64 0] 59))
      have one := oneRowR x1 ⟨f1, f2, f3, 0⟩
      clear own0 hHeld
      refine oneH 6 (by kernel_rfl) (doH rfl (v := .slice (some ⟨x1.heap.size, 0, none⟩) 1 1) (w' := x1.alloc (.cells #[.int .i64 f1, .int .i64 f2, .int .i64 f3, .int .i64 0] 59)) (by go_simp) (Keeps.ofBelow KB (fun _ hq _ => hq)) ?_)
      try simp only [Act.put, List.setIfInBounds_toArray, List.set_cons_zero, List.set_cons_succ]
      clear bx
      have hbz : Y.heap.size ≤ (x1.alloc (.cells #[.int .i64 f1, .int .i64 f2, .int .i64 f3, .int .i64 0] 59)).heap.size := KB.size
      obtain ⟨v2, x2, hr2, own2, gr2, _⟩ := run_append_rums Y.heap.size (.slice ua un uc) _ _ own ⟨x1.heap.size, 0, none⟩ 1 1 [⟨f1, f2, f3, 0⟩] rfl one (by omega) hbz
      have KB2 : Below Y.heap.size Y x2 := KB.grown gr2 hbz (fun g hg => (own.lt g hg).1)
      have S2 : Keeps (fun q => q ≠ w.heap.size + 1) Y x2 := Keeps.ofBelow KB2 (fun _ hq _ => hq)
      obtain ⟨va, vn, vc, rfl⟩ := rowShape own2
      refine oneH 7 (by kernel_rfl) (doH rfl (exec_append (.tmp 19) (.tmp 22) 24 24 rfl _ _ rfl rfl hr2) S2 ?_)
      try simp only [Act.put, List.setIfInBounds_toArray, List.set_cons_zero, List.set_cons_succ]
      refine takeG 8 (v := .agg #[.slice va vn vc, .slice none 0 0, .int .i64 0]) rfl (by kernel_rfl) (by kernel_rfl) (by kernel_rfl) (by kernel_rfl) (fun _ _ _ h => h) ?hy (by assumption) ?_
      case hy => (intro w' hSw; go_simp)
      try simp only [List.setIfInBounds_toArray, List.set_cons_zero, List.set_cons_succ]
      have Q2 := qY.keep KB2
      have g0 : x2.cell? ⟨w.heap.size + 1, 0, none⟩ = some (.slice none 0 0) := Q2.cell 0
      have g1 : x2.cell? ⟨w.heap.size + 1, 1, none⟩ = some (.slice none 0 0) := Q2.cell 1
      have g2 : x2.cell? ⟨w.heap.size + 1, 2, none⟩ = some (.int .i64 0) := Q2.cell 2
      have z0 := Q2.fz 0
      have z1 := Q2.fz 1
      have z2 := Q2.fz 2
      have RZ : BlkIs (((x2.setCell ⟨w.heap.size + 1, 0, none⟩ (.slice va vn vc)).setCell ⟨w.heap.size + 1, 1, none⟩ (.slice none 0 0)).setCell ⟨w.heap.size + 1, 2, none⟩ (.int .i64 0)) (w.heap.size + 1) 170 #[.slice va vn vc, .slice none 0 0, .int .i64 0] := blk_put3 Q2 _ _ _
      have B2 : Below w.heap.size w x2 := BY.trans (KB2.mono BY.size)
      have BZ : Below w.heap.size w (((x2.setCell ⟨w.heap.size + 1, 0, none⟩ (.slice va vn vc)).setCell ⟨w.heap.size + 1, 1, none⟩ (.slice none 0 0)).setCell ⟨w.heap.size + 1, 2, none⟩ (.int .i64 0)) := ((B2.setCell (by dsimp only; omega) _).setCell (by dsimp only; omega) _).setCell (by dsimp only; omega) _
      have KZ : Keeps (fun k => k ≠ w.heap.size + 1) x2 (((x2.setCell ⟨w.heap.size + 1, 0, none⟩ (.slice va vn vc)).setCell ⟨w.heap.size + 1, 1, none⟩ (.slice none 0 0)).setCell ⟨w.heap.size + 1, 2, none⟩ (.int .i64 0)) := keeps_three _ _ _ _ _
      refine oneH 9 (by kernel_rfl) (storeH rfl (w' := (((x2.setCell ⟨w.heap.size + 1, 0, none⟩ (.slice va vn vc)).setCell ⟨w.heap.size + 1, 1, none⟩ (.slice none 0 0)).setCell ⟨w.heap.size + 1, 2, none⟩ (.int .i64 0))) (nx := .skip) (by go_simp) (.inl rfl) (S2.trans KZ) ?_)
      try simp only [Act.put, List.setIfInBounds_toArray, List.set_cons_zero, List.set_cons_succ]
      refine wpAnyH_done (by kernel_rfl) ?_ _
      have hlen : (butR l f1).length + 1 = (putR l ⟨f1, f2, f3⟩).length := by unfold putR; rw [List.length_append]; rfl
      have hcel : cellsOf RumV.cells (butR l f1) ++ cellsOf RumV.cells [⟨f1, f2, f3, 0⟩] = cellsOf RumV.cells (putR l ⟨f1, f2, f3⟩) := by unfold putR; rw [cellsOf_append]; rfl
      have hge : ∀ g, Value.ownBlock (.slice va vn vc) = some g → Y.heap.size ≤ g := fun g hg => (own2.lt g hg).1
      have own3 := rowKeep (rowLe (own_eqR own2 hlen hcel) BY.size) KZ (fun g hg => by have := hge g hg; omega)
      obtain ⟨Z, hZ⟩ : ∃ Z, (((x2.setCell ⟨w.heap.size + 1, 0, none⟩ (.slice va vn vc)).setCell ⟨w.heap.size + 1, 1, none⟩ (.slice none 0 0)).setCell ⟨w.heap.size + 1, 2, none⟩ (.int .i64 0)) = Z := ⟨_, rfl⟩
      rw [hZ] at RZ BZ own3 ⊢
      clear hZ g0 g1 g2 z0 z1 z2 KZ S2 Q2 B2 KB2 own2 gr2 hr2 hge hlen hcel own one KB pY qY rY BY
      go_wp2
      have h0 : Z.cell? ⟨w.heap.size + 1, 0, none⟩ = some (.slice va vn vc) := RZ.cell 0
      have h1 : Z.cell? ⟨w.heap.size + 1, 1, none⟩ = some (.slice none 0 0) := RZ.cell 1
      have h2 : Z.cell? ⟨w.heap.size + 1, 2, none⟩ = some (.int .i64 0) := RZ.cell 2
      exact bodyPost_ret (v := .agg #[.slice va vn vc, .slice none 0 0, .int .i64 0]) (by simp [results, Tryz.results153, go_sem, h0, h1, h2]) rfl ⟨_, _, rfl, own3, ownsNilF _ _, BZ⟩
    case B =>
      have KB0 : Below Y.heap.size Y (Y.alloc (.cells #[.int .i64 f1, .int .i64 f2, .int .i64 f3, .int .i64 0] 59)) := (Below.refl _ _).alloc (Nat.le_refl _) _
      have one0 := oneRowR Y ⟨f1, f2, f3, 0⟩
      refine doH rfl (v := .slice (some ⟨Y.heap.size, 0, none⟩) 1 1) (w' := Y.alloc (.cells #[.int .i64 f1, .int .i64 f2, .int .i64 f3, .int .i64 0] 59)) (by go_simp) (Keeps.ofBelow KB0 (fun _ hq _ => hq)) ?_
      try simp only [Act.put, List.setIfInBounds_toArray, List.set_cons_zero, List.set_cons_succ]
      refine oneH 3 (by kernel_rfl) (callH rfl (by kernel_rfl) ?_)
      go_simp
      refine (rumorsBut_any a cap l f1 _ hl (rY.keep KB0)).mono ?_
      rintro e x1 ⟨v1, rfl, own0, bx⟩
      have KB : Below Y.heap.size Y x1 := KB0.trans (bx.mono KB0.size)
      have own := rowLe own0 KB0.size
      have one := one0.keep bx
      refine ⟨Keeps.ofBelow KB (fun _ hq _ => hq), ?_⟩
      try simp only [Act.put, List.setIfInBounds_toArray, List.set_cons_zero, List.set_cons_succ]
      obtain ⟨ua, un, uc, rfl⟩ := rowShape own
      clear own0 hHeld bx KB0 one0
      have hbz : Y.heap.size ≤ x1.heap.size := KB.size
      obtain ⟨v2, x2, hr2, own2, gr2, _⟩ := run_append_rums Y.heap.size (.slice ua un uc) _ _ own ⟨Y.heap.size, 0, none⟩ 1 1 [⟨f1, f2, f3, 0⟩] rfl one (by omega) hbz
      have KB2 : Below Y.heap.size Y x2 := KB.grown gr2 hbz (fun g hg => (own.lt g hg).1)
      have S2 : Keeps (fun q => q ≠ w.heap.size + 1) Y x2 := Keeps.ofBelow KB2 (fun _ hq _ => hq)
      obtain ⟨va, vn, vc, rfl⟩ := rowShape own2
      refine oneH 7 (by kernel_rfl) (doH rfl (exec_append (.tmp 19) (.tmp 22) 24 24 rfl _ _ rfl rfl hr2) S2 ?_)
      try simp only [Act.put, List.setIfInBounds_toArray, List.set_cons_zero, List.set_cons_succ]
      refine takeG 8 (v := .agg #[.slice va vn vc, .slice none 0 0, .int .i64 0]) rfl (by kernel_rfl) (by kernel_rfl) (by kernel_rfl) (by kernel_rfl) (fun _ _ _ h => h) ?hy (by assumption) ?_
      case hy => (intro w' hSw; go_simp)
      try simp only [List.setIfInBounds_toArray, List.set_cons_zero, List.set_cons_succ]
      have Q2 := qY.keep KB2
      have g0 : x2.cell? ⟨w.heap.size + 1, 0, none⟩ = some (.slice none 0 0) := Q2.cell 0
      have g1 : x2.cell? ⟨w.heap.size + 1, 1, none⟩ = some (.slice none 0 0) := Q2.cell 1
      have g2 : x2.cell? ⟨w.heap.size + 1, 2, none⟩ = some (.int .i64 0) := Q2.cell 2
      have z0 := Q2.fz 0
      have z1 := Q2.fz 1
      have z2 := Q2.fz 2
      have RZ : BlkIs (((x2.setCell ⟨w.heap.size + 1, 0, none⟩ (.slice va vn vc)).setCell ⟨w.heap.size + 1, 1, none⟩ (.slice none 0 0)).setCell ⟨w.heap.size + 1, 2, none⟩ (.int .i64 0)) (w.heap.size + 1) 170 #[.slice va vn vc, .slice none 0 0, .int .i64 0] := blk_put3 Q2 _ _ _
      have B2 : Below w.heap.size w x2 := BY.trans (KB2.mono BY.size)
      have BZ : Below w.heap.size w (((x2.setCell ⟨w.heap.size + 1, 0, none⟩ (.slice va vn vc)).setCell ⟨w.heap.size + 1, 1, none⟩ (.slice none 0 0)).setCell ⟨w.heap.size + 1, 2, none⟩ (.int .i64 0)) := ((B2.setCell (by dsimp only; omega) _).setCell (by dsimp only; omega) _).setCell (by dsimp only; omega) _
      have KZ : Keeps (fun k => k ≠ w.heap.size + 1) x2 (((x2.setCell ⟨w.heap.size + 1, 0, none⟩ (.slice va vn vc)).setCell ⟨w.heap.size + 1, 1, none⟩ (.slice none 0 0)).setCell ⟨w.heap.size + 1, 2, none⟩ (.int .i64 0)) := keeps_three _ _ _ _ _
      refine oneH 9 (by kernel_rfl) (storeH rfl (w' := (((x2.setCell ⟨w.heap.size + 1, 0, none⟩ (.slice va vn vc)).setCell ⟨w.heap.size + 1, 1, none⟩ (.slice none 0 0)).setCell ⟨w.heap.size + 1, 2, none⟩ (.int .i64 0))) (nx := .skip) (by go_simp) (.inl rfl) (S2.trans KZ) ?_)
      try simp only [Act.put, List.setIfInBounds_toArray, List.set_cons_zero, List.set_cons_succ]
      refine wpAnyH_done (by kernel_rfl) ?_ _
      have hlen : (butR l f1).length + 1 = (putR l ⟨f1, f2, f3⟩).length := by unfold putR; rw [List.length_append]; rfl
      have hcel : cellsOf RumV.cells (butR l f1) ++ cellsOf RumV.cells [⟨f1, f2, f3, 0⟩] = cellsOf RumV.cells (putR l ⟨f1, f2, f3⟩) := by unfold putR; rw [cellsOf_append]; rfl
      have hge : ∀ g, Value.ownBlock (.slice va vn vc) = some g → Y.heap.size ≤ g := fun g hg => (own2.lt g hg).1
      have own3 := rowKeep (rowLe (own_eqR own2 hlen hcel) BY.size) KZ (fun g hg => by have := hge g hg; omega)
      obtain ⟨Z, hZ⟩ : ∃ Z, (((x2.setCell ⟨w.heap.size + 1, 0, none⟩ (.slice va vn vc)).setCell ⟨w.heap.size + 1, 1, none⟩ (.slice none 0 0)).setCell ⟨w.heap.size + 1, 2, none⟩ (.int .i64 0)) = Z := ⟨_, rfl⟩
      rw [hZ] at RZ BZ own3 ⊢
      clear hZ g0 g1 g2 z0 z1 z2 KZ S2 Q2 B2 KB2 own2 gr2 hr2 hge hlen hcel own one KB pY qY rY BY
      go_wp2
      have h0 : Z.cell? ⟨w.heap.size + 1, 0, none⟩ = some (.slice va vn vc) := RZ.cell 0
      have h1 : Z.cell? ⟨w.heap.size + 1, 1, none⟩ = some (.slice none 0 0) := RZ.cell 1
      have h2 : Z.cell? ⟨w.heap.size + 1, 2, none⟩ = some (.int .i64 0) := RZ.cell 2
      exact bodyPost_ret (v := .agg #[.slice va vn vc, .slice none 0 0, .int .i64 0]) (by simp [results, Tryz.results153, go_sem, h0, h1, h2]) rfl ⟨_, _, rfl, own3, ownsNilF _ _, BZ⟩
set_option maxHeartbeats 2000000 in
set_option maxRecDepth 100000 in
theorem specL06Put_any (a : Option Addr) (cap : Nat) (l : List RumV) (f : FactV) (w : World) (hl : l.length ≤ 1000) (hrow : CellRow w a (cellsOf RumV.cells l)) :
    Calls Tryz.prog 195 #[.slice a l.length cap, f.val] w fun e w' => ∃ v, e = .returned v ∧ w'.ownsRow w.heap.size 59 4 v (putR l f).length (cellsOf RumV.cells (putR l f)) ∧ Below w.heap.size w w' := by
  obtain ⟨f1, f2, f3⟩ := f
  unfold FactV.val
  have p0 := (BlkIs.new w 54 #[.int .i64 f1, .int .i64 f2, .int .i64 f3]).keep ((Below.refl _ _).alloc (Nat.le_refl _) (.cells #[] 59))
  have B0 : Below w.heap.size w ((w.alloc (.cells #[.int .i64 f1, .int .i64 f2, .int .i64 f3] 54)).alloc (.cells #[] 59)) := ((Below.refl _ _).alloc (Nat.le_refl _) _).alloc (by simp) _
  have O0 : ((w.alloc (.cells #[.int .i64 f1, .int .i64 f2, .int .i64 f3] 54)).alloc (.cells #[] 59)).ownsRow w.heap.size 59 4 (.slice (some ⟨w.heap.size + 1, 0, none⟩) 0 0) 0 [] := by
    have := World.ownsRow_lit (base := w.heap.size) (w.alloc (.cells #[.int .i64 f1, .int .i64 f2, .int .i64 f3] 54)) (e := 59) (size := 4) #[] 0 (by simp) (by simp [maxLen]) rfl
    rwa [World.size_alloc] at this
  go_enter Tryz.func195, Tryz.ntmps195
  go_wp2
  go_loopw [6, 5] (fun i v wr => ∃ k : Nat, k ≤ l.length ∧ i = .int .i64 k ∧ wr.ownsRow w.heap.size 59 4 v (butR (l.take k) f1).length (cellsOf RumV.cells (butR (l.take k) f1)) ∧ BlkIs wr w.heap.size 54 #[.int .i64 f1, .int .i64 f2, .int .i64 f3] ∧ Below w.heap.size w wr) (fun i _ _ => l.length - (intOf i).toNat)
  case atStart => exact ⟨0, Nat.zero_le _, rfl, by rw [List.take_zero]; exact O0, p0, B0⟩
  case round =>
    obtain ⟨k, hk, rfl, hown, hp, hb⟩ := hrel
    clear p0 B0 O0
    have c0 : wr.cell? ⟨w.heap.size, 0, none⟩ = some (.int .i64 f1) := hp.cell 0
    by_cases hx : k < l.length
    · obtain ⟨b, off, rfl⟩ := hrow.addr (by rw [cellsOf_length RumV.cells_len]; omega)
      obtain ⟨x, hlx⟩ : ∃ x, l[k] = x := ⟨_, rfl⟩
      obtain ⟨x1, x2, x3, x4⟩ := x
      have dm := (hrow.keep hb).rum hx hlx
      have HT : Hid (l.take (k + 1) = l.take k ++ [⟨x1, x2, x3, x4⟩]) := by
        show _ = _
        rw [List.take_succ_eq_append_getElem hx, hlx]
      have hdl : (butR (l.take k) f1).length ≤ k := by
        have := (butR_sub (l.take k) f1).length_le
        rw [List.length_take] at this
        omega
      have hkI : (k : Int) < (l.length : Int) := by omega
      have dm' := dm
      obtain ⟨hbl, d0, d1, d2, d3⟩ := dm'
      dsimp only at d0 d1 d2 d3
      clear hlx
      go_upto_region 5 with fail
      go_cut [22] (fun v wc => v = .bool (x1 != f1) ∧ wc = wr.drew)
      case first =>
        go_region
        all_goals (go_wp2_with fail; go_meet; exact ⟨rfl, rfl⟩)
      case rest =>
        obtain ⟨rfl, rfl⟩ := hcut
        clear d0 d1 d2 d3 c0
        obtain ⟨X, hX⟩ : ∃ X, wr.drew = X := ⟨_, rfl⟩
        have oX : X.ownsRow w.heap.size 59 4 u5 (butR (l.take k) f1).length (cellsOf RumV.cells (butR (l.take k) f1)) := by rw [← hX]; exact hown
        have pX : BlkIs X w.heap.size 54 #[.int .i64 f1, .int .i64 f2, .int .i64 f3] := by rw [← hX]; exact hp
        have bX : Below w.heap.size w X := by rw [← hX]; exact hb.drew
        have dX : RAt X b (off + k * 4) ⟨x1, x2, x3, x4⟩ := by rw [← hX]; exact ⟨dm.1, dm.2, dm.3, dm.4, dm.5⟩
        rw [hX]
        clear hX hown hp hb dm
        by_cases e : x1 = f1
        · have eb : (x1 != f1) = false := by simp [e]
          have ho : X.ownsRow w.heap.size 59 4 u5 (butR (l.take (k + 1)) f1).length (cellsOf RumV.cells (butR (l.take (k + 1)) f1)) := by rw [HT.out, butR_snoc_no e]; exact oX
          clear oX e dX
          go_wp2
          go_roundw
          case rel => exact ⟨k + 1, by omega, by go_num, ho, pX, bX⟩
          case measure => simp [intOf]; omega
        · have eb : (x1 != f1) = true := by simp [e]
          have HE : Hid (butR (l.take (k + 1)) f1 = butR (l.take k) f1 ++ [⟨x1, x2, x3, x4⟩]) := by show _ = _; rw [HT.out, butR_snoc_yes e]
          clear e
          obtain ⟨_, d0, d1, d2, d3⟩ := dX
          dsimp only at d0 d1 d2 d3
          have hn1 := oneRowR X ⟨x1, x2, x3, x4⟩
          have bA : Below X.heap.size X (X.alloc (.cells #[.int .i64 x1, .int .i64 x2, .int .i64 x3, .int .i64 x4] 59)) := (Below.refl _ _).alloc (Nat.le_refl _) _
          have O2 := rowBelow oX bA
          have P2 := pX.keep bA
          have B2 := bX.trans (bA.mono bX.size)
          have hbz := B2.size
          clear bA oX pX
          go_wp2_with (at_builtin; refine append_rumsL rfl rfl _ _ rfl w.heap.size _ _ _ rfl O2 ⟨X.heap.size, 0, none⟩ 1 1 [⟨x1, x2, x3, x4⟩] rfl rfl hn1 (by omega) hbz ?_)
          intro v' w2 own2 gr2 _
          have B3 : Below w.heap.size w w2 := B2.grown gr2 hbz (fun g hg => (O2.lt g hg).1)
          have hnr : Value.ownBlock u5 ≠ some w.heap.size := P2.not_row (by decide) O2
          have P3 : BlkIs w2 w.heap.size 54 #[.int .i64 f1, .int .i64 f2, .int .i64 f3] := (gr2.block _ P2.lt (fun e => hnr e.symm)).trans P2
          have ho : w2.ownsRow w.heap.size 59 4 v' (butR (l.take (k + 1)) f1).length (cellsOf RumV.cells (butR (l.take (k + 1)) f1)) := by
            rw [HE.out, cellsOf_append, List.length_append]; exact own2
          clear own2 gr2 O2 B2 hbz hn1 d0 d1 d2 d3 HE P2 bX hnr
          go_wp2
          go_roundw
          case rel => exact ⟨k + 1, by omega, by go_num, ho, P3, B3⟩
          case measure => simp [intOf]; omega
    · have e : k = l.length := by omega
      subst e
      rw [List.take_length] at hown
      have c1 : wr.cell? ⟨w.heap.size, 1, none⟩ = some (.int .i64 f2) := hp.cell 1
      have c2 : wr.cell? ⟨w.heap.size, 2, none⟩ = some (.int .i64 f3) := hp.cell 2
      have hn1 := oneRowR wr ⟨f1, f2, f3, 0⟩
      have O2 := rowBelow hown ((Below.refl wr.heap.size wr).alloc (Nat.le_refl _) (.cells #[.int .i64 f1, .int .i64 f2, .int .i64 f3, .int .i64 0] 59))
      have B2 := hb.alloc hb.size (.cells #[.int .i64 f1, .int .i64 f2, .int .i64 f3, .int .i64 0] 59)
      have hbz := B2.size
      have hbl : (butR l f1).length ≤ l.length := (butR_sub l f1).length_le
      go_wp2_with (at_builtin; refine append_rumsL rfl rfl _ _ rfl w.heap.size _ _ _ rfl O2 ⟨wr.heap.size, 0, none⟩ 1 1 [⟨f1, f2, f3, 0⟩] rfl rfl hn1 (by omega) hbz ?_)
      intro v' w2 own2 gr2 _
      have B3 : Below w.heap.size w w2 := B2.grown gr2 hbz (fun g hg => (O2.lt g hg).1)
      have hlen : (butR l f1).length + 1 = (putR l ⟨f1, f2, f3⟩).length := by unfold putR; rw [List.length_append]; rfl
      have hcel : cellsOf RumV.cells (butR l f1) ++ cellsOf RumV.cells [⟨f1, f2, f3, 0⟩] = cellsOf RumV.cells (putR l ⟨f1, f2, f3⟩) := by unfold putR; rw [cellsOf_append]; rfl
      have ho := own_eqR own2 hlen hcel
      clear own2 gr2 O2 B2 hbz hn1 c0 c1 c2 hown hp hb hlen hcel
      go_wp2
      go_ret
      exact ⟨_, rfl, ho, B3⟩
end Go.Proofs.YtmdcankfjmkkeaaGreat
