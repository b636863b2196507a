/- The contract of factsOf: facts out of numbers, three by three. -/
import Derived.Test.YtpjdkgcdkfmkiaaDoorChunk
import Derived.Test.YtpjdkgcdkfmkiaaDoorG14
namespace Go.Proofs.YtpjdkgcdkfmkiaaDoor
open Go Go.RowKit Go.Shelf
set_option linter.unusedVariables false
attribute [local go_sem] Oper.semAt_some

theorem factsN_cells (l : List FactV) : numsV (factsN l) = cellsOf FactV.cells l := by
  induction l with
  | nil => rfl
  | cons x r ih =>
    have e1 : factsN (x :: r) = factN x ++ factsN r := by simp [factsN]
    have e2 : cellsOf FactV.cells (x :: r) = x.cells ++ cellsOf FactV.cells r := by simp [cellsOf]
    rw [e1, e2, numsV_append, ih]
    rfl
theorem chunk_any (a : Option Addr) (n cap : Nat) (w : World) : Calls Tryd.prog 81 #[.slice a n cap, .int .i64 3] w fun e w' =>
    e = .returned (.func (.func 86) #[] #[.pointer (some ⟨w.heap.size, 0, none⟩), .pointer (some ⟨w.heap.size + 1, 0, none⟩)]) ∧ w' = (w.alloc (.cells #[.slice a n cap] 41)).alloc (.cells #[.int .i64 3] 3) := by
  go_enter Tryd.func81, Tryd.ntmps81
  go_wp2
  go_ret
  exact ⟨rfl, rfl⟩
set_option maxRecDepth 100000 in
set_option maxHeartbeats 4000000 in
theorem factsOf_any (a : Option Addr) (cap : Nat) (l : List FactV) (w : World) (hl : l.length ≤ 3000) (hcap : l.length * 3 ≤ cap) (hrow : CellRow w a (cellsOf FactV.cells l)) :
    Calls Tryd.prog 69 #[.slice a (l.length * 3) cap] w fun e w' => ∃ v, e = .returned v ∧ w'.ownsRow w.heap.size 43 3 v l.length (cellsOf FactV.cells l) ∧ Below w.heap.size w w' := by
  refine (callsIn_wide (n := 4)).1 ?_
  refine callsIn_of_wp_marks Tryd.func69 rfl trivial ?_ rfl
  simp only [Tryd.ntmps69, List.size_toArray, List.length_cons, List.length_nil, Nat.reduceAdd, Nat.reduceSub, Array.replicate_succ, Array.replicate_zero, List.push_toArray, List.append_toArray, List.nil_append, List.cons_append]
  have B0 := (Below.refl w.heap.size w).alloc (Nat.le_refl _) (.cells #[.slice none 0 0] 23)
  have p0 := BlkIs.new w 23 #[.slice none 0 0]
  have hs0 : (w.alloc (.cells #[.slice none 0 0] 23)).heap.size = w.heap.size + 1 := by simp
  obtain ⟨W0, hW0⟩ : ∃ W0, w.alloc (.cells #[.slice none 0 0] 23) = W0 := ⟨_, rfl⟩
  rw [hW0] at B0 p0 hs0
  have HW : Hid (w.alloc (.cells #[.slice none 0 0] 23) = W0) := hW0
  have HS : Hid (W0.heap.size = w.heap.size + 1) := hs0
  clear hW0 hs0
  gi_wp2_with fail
  rw [HW.out]
  refine ⟨trivial, (callsIn_wide.2 (chunk_any _ _ _ _)).mono ?_⟩
  rintro e W1 ⟨rfl, hW1⟩
  have Bs := (BlkIs.new W0 41 #[.slice a (l.length * 3) cap]).keep ((Below.refl _ _).alloc (Nat.le_refl _) (.cells #[.int .i64 3] 3))
  have Bn := BlkIs.new (W0.alloc (.cells #[.slice a (l.length * 3) cap] 41)) 3 #[.int .i64 3]
  have b1 := ((Below.refl W0.heap.size W0).alloc (Nat.le_refl _) (.cells #[.slice a (l.length * 3) cap] 41)).alloc (by simp) (.cells #[.int .i64 3] 3)
  have hs1 : ((W0.alloc (.cells #[.slice a (l.length * 3) cap] 41)).alloc (.cells #[.int .i64 3] 3)).heap.size = W0.heap.size + 2 := by simp
  rw [World.size_alloc] at Bn
  rw [← hW1] at Bs Bn b1 hs1
  rw [HS.out] at Bs Bn hs1
  have B1 := B0.trans (b1.mono B0.size)
  have p1 := p0.keep b1
  have HS1 : Hid (W1.heap.size = w.heap.size + 3) := hs1
  rw [HS.out]
  clear hW1 b1 B0 p0 HW hs1
  gi_wp2
  obtain ⟨b, off, hav⟩ : ∃ b off, 0 < l.length → a = some ⟨b, off, none⟩ := by
    by_cases h : 0 < l.length
    · obtain ⟨b, off, e⟩ := hrow.addr (by rw [cellsOf_length FactV.cells_len]; omega)
      exact ⟨b, off, fun _ => e⟩
    · exact ⟨0, 0, fun h' => absurd h' h⟩
  refine range_chunk 4 (by omega) b off cap l.length (w.heap.size + 1) (w.heap.size + 1 + 1) a rfl rfl Bs Bn hav (by omega) hcap
    (fun j W => ∃ v, BlkIs W w.heap.size 23 #[v] ∧ W.ownsRow (w.heap.size + 5) 43 3 v j (cellsOf FactV.cells (l.take j)) ∧ Below w.heap.size w W) ?hI
    ⟨_, p1, World.ownsRow_nil _ _ _ _, B1⟩
    (fun j => { tmps := #[.slice a (l.length * 3) cap, undef, .slice none 0 0, .pointer (some ⟨w.heap.size, 0, none⟩), .slice (some ⟨b, off + j * 3, none⟩) 3 3, .slice a (l.length * 3) cap, .func (.func 86) #[] #[.pointer (some ⟨w.heap.size + 1, 0, none⟩), .pointer (some ⟨w.heap.size + 1 + 1, 0, none⟩)], .slice (some ⟨b, off + j * 3, none⟩) 3 3, undef, undef, undef, undef, undef, undef, undef, undef, undef, undef, undef, undef, undef, undef], defers := [] })
    ?assign ?body ?done
  case hI =>
    rintro j W W' ⟨v, h1, h2, h3⟩ hk
    rw [HS1.out] at hk
    refine ⟨v, h1.keepK hk (by omega), rowKeep h2 hk (fun g hg => by have := (h2.lt g hg).1; omega), h3.trans (hk.toBelow h3.size (fun q hq => by omega))⟩
  case assign =>
    intro q j W K hK
    gi_wp2
    exact hK
  case done =>
    rintro W ⟨v, h1, h2, h3⟩ hD
    have c1 := h1.cell 0
    obtain ⟨va, vn, vc, rfl⟩ := rowShape h2
    simp only [List.getElem?_toArray, List.getElem?_cons_zero] at c1
    rw [HS1.out] at hD ⊢
    gi_wp2
    refine ⟨by simp, .inl ⟨_, _, rfl, run_takeDeferred hD, ?_⟩⟩
    have KP : Keeps (fun k => k ≠ w.heap.size + 3) W (W.putObj (w.heap.size + 3) (.deferred none)) := (Keeps.refl _ _).putObj (fun h => h rfl) _
    rw [List.take_length] at h2
    exact ⟨_, results_tmp rfl _ _ _, _, rfl, rowLe (rowKeep h2 KP (fun g hg => by have := (h2.lt g hg).1; omega)) (by omega), h3.trans (KP.toBelow h3.size (fun q hq => by omega))⟩
  case body =>
    rintro q j W hj ⟨v, h1, h2, h3⟩ hWs
    obtain ⟨x, hlx⟩ : ∃ x, l[j] = x := ⟨_, rfl⟩
    obtain ⟨y1, y2, y3⟩ := x
    obtain rfl := hav (by omega)
    obtain ⟨hbl, c0, c1, c2⟩ := (hrow.keep h3).fact hj hlx
    obtain ⟨hbl0, _⟩ := hrow.fact hj hlx
    dsimp only at c0 c1 c2
    obtain ⟨va, vn, vc, hv⟩ := rowShape h2
    subst hv
    have d0 := h1.cell 0
    simp only [List.getElem?_toArray, List.getElem?_cons_zero] at d0
    have HX : Hid (cellsOf FactV.cells (l.take (j + 1)) = cellsOf FactV.cells (l.take j) ++ cellsOf FactV.cells [⟨y1, y2, y3⟩]) := by
      show _ = _
      rw [List.take_succ_eq_append_getElem hj, hlx, cellsOf_append]
    have hlt := h1.lt
    rw [HS1.out] at hWs ⊢
    have hbw : b ≠ w.heap.size := by omega
    have k0 : ∀ G, Keeps G W W.drew := fun G => (Keeps.refl _ _).drew
    have x1 : BlkIs W.drew w.heap.size 23 #[.slice va vn vc] := h1
    have x2 : W.drew.ownsRow (w.heap.size + 5) 43 3 (.slice va vn vc) j (cellsOf FactV.cells (l.take j)) := h2
    have x3 : Below w.heap.size w W.drew := h3.drew
    have xd : W.drew.cell? ⟨w.heap.size, 0, none⟩ = some (.slice va vn vc) := d0
    have xs : W.drew.heap.size = W.heap.size := rfl
    refine wpIn_block ?_
    refine region_round (S := fun x => x.cell? ⟨b, off + j * 3, none⟩ = some (.int .i64 y1) ∧ x.cell? ⟨b, off + j * 3 + 1, none⟩ = some (.int .i64 y2) ∧ x.cell? ⟨b, off + j * 3 + 2, none⟩ = some (.int .i64 y3)) (by kernel_rfl) (by kernel_rfl) (fun ⟨_, _, h⟩ => by cases h.1) ⟨c0, c1, c2⟩ (fun hHeld => ?_)
    refine takeG 1 (v := .slice (some ⟨b, off + j * 3, none⟩) 3 3) rfl (by kernel_rfl) (by kernel_rfl) (by kernel_rfl) (by kernel_rfl) (fun _ _ _ h => h) ?hy (by assumption) ?_
    case hy => (intro w' hSw; obtain ⟨s0, s1, s2⟩ := hSw; go_simp)
    try simp only [List.setIfInBounds_toArray, List.set_cons_zero, List.set_cons_succ]
    refine takeG 2 (v := .pointer (some ⟨b, off + j * 3, none⟩)) rfl (by kernel_rfl) (by kernel_rfl) (by kernel_rfl) (by kernel_rfl) (fun _ _ _ h => h) ?hy (by assumption) ?_
    case hy => (intro w' hSw; obtain ⟨s0, s1, s2⟩ := hSw; go_simp)
    try simp only [List.setIfInBounds_toArray, List.set_cons_zero, List.set_cons_succ]
    refine takeG 3 (v := .int .i64 y1) rfl (by kernel_rfl) (by kernel_rfl) (by kernel_rfl) (by kernel_rfl) (fun _ _ _ h => h) ?hy (by assumption) ?_
    case hy => (intro w' hSw; obtain ⟨s0, s1, s2⟩ := hSw; go_simp)
    try simp only [List.setIfInBounds_toArray, List.set_cons_zero, List.set_cons_succ]
    refine takeG 4 (v := .slice (some ⟨b, off + j * 3, none⟩) 3 3) rfl (by kernel_rfl) (by kernel_rfl) (by kernel_rfl) (by kernel_rfl) (fun _ _ _ h => h) ?hy (by assumption) ?_
    case hy => (intro w' hSw; obtain ⟨s0, s1, s2⟩ := hSw; go_simp)
    try simp only [List.setIfInBounds_toArray, List.set_cons_zero, List.set_cons_succ]
    refine takeG 5 (v := .pointer (some ⟨b, off + j * 3 + 1, none⟩)) rfl (by kernel_rfl) (by kernel_rfl) (by kernel_rfl) (by kernel_rfl) (fun _ _ _ h => h) ?hy (by assumption) ?_
    case hy => (intro w' hSw; obtain ⟨s0, s1, s2⟩ := hSw; go_simp)
    try simp only [List.setIfInBounds_toArray, List.set_cons_zero, List.set_cons_succ]
    refine takeG 6 (v := .int .i64 y2) rfl (by kernel_rfl) (by kernel_rfl) (by kernel_rfl) (by kernel_rfl) (fun _ _ _ h => h) ?hy (by assumption) ?_
    case hy => (intro w' hSw; obtain ⟨s0, s1, s2⟩ := hSw; go_simp)
    try simp only [List.setIfInBounds_toArray, List.set_cons_zero, List.set_cons_succ]
    refine takeG 7 (v := .slice (some ⟨b, off + j * 3, none⟩) 3 3) rfl (by kernel_rfl) (by kernel_rfl) (by kernel_rfl) (by kernel_rfl) (fun _ _ _ h => h) ?hy (by assumption) ?_
    case hy => (intro w' hSw; obtain ⟨s0, s1, s2⟩ := hSw; go_simp)
    try simp only [List.setIfInBounds_toArray, List.set_cons_zero, List.set_cons_succ]
    refine takeG 8 (v := .pointer (some ⟨b, off + j * 3 + 2, none⟩)) rfl (by kernel_rfl) (by kernel_rfl) (by kernel_rfl) (by kernel_rfl) (fun _ _ _ h => h) ?hy (by assumption) ?_
    case hy => (intro w' hSw; obtain ⟨s0, s1, s2⟩ := hSw; go_simp)
    try simp only [List.setIfInBounds_toArray, List.set_cons_zero, List.set_cons_succ]
    refine takeG 9 (v := .int .i64 y3) rfl (by kernel_rfl) (by kernel_rfl) (by kernel_rfl) (by kernel_rfl) (fun _ _ _ h => h) ?hy (by assumption) ?_
    case hy => (intro w' hSw; obtain ⟨s0, s1, s2⟩ := hSw; go_simp)
    try simp only [List.setIfInBounds_toArray, List.set_cons_zero, List.set_cons_succ]
    refine takeG 10 (v := .agg #[.int .i64 y1, .int .i64 y2, .int .i64 y3]) rfl (by kernel_rfl) (by kernel_rfl) (by kernel_rfl) (by kernel_rfl) (fun _ _ _ h => h) ?hy (by assumption) ?_
    case hy => (intro w' hSw; obtain ⟨s0, s1, s2⟩ := hSw; go_simp)
    try simp only [List.setIfInBounds_toArray, List.set_cons_zero, List.set_cons_succ]
    generalize W.drew = X at *
    have al : (X.alloc (.cells #[.int .i64 y1, .int .i64 y2, .int .i64 y3] 43)).cell? ⟨w.heap.size, 0, none⟩ = some (.slice va vn vc) := (World.cell?_alloc_some _ _ _ (by rw [xd]; rfl)).trans xd
    have sA : (X.alloc (.cells #[.int .i64 y1, .int .i64 y2, .int .i64 y3] 43)).cell? ⟨b, off + j * 3, none⟩ = some (.int .i64 y1) ∧ (X.alloc (.cells #[.int .i64 y1, .int .i64 y2, .int .i64 y3] 43)).cell? ⟨b, off + j * 3 + 1, none⟩ = some (.int .i64 y2) ∧ (X.alloc (.cells #[.int .i64 y1, .int .i64 y2, .int .i64 y3] 43)).cell? ⟨b, off + j * 3 + 2, none⟩ = some (.int .i64 y3) :=
      ⟨(World.cell?_alloc_some _ _ _ (by rw [hHeld.1]; rfl)).trans hHeld.1, (World.cell?_alloc_some _ _ _ (by rw [hHeld.2.1]; rfl)).trans hHeld.2.1, (World.cell?_alloc_some _ _ _ (by rw [hHeld.2.2]; rfl)).trans hHeld.2.2⟩
    refine twoH 0 11 (by kernel_rfl) ?A ?B
    case A =>
      refine doH rfl (v := .slice va vn vc) (w' := X) (by go_simp) hHeld ?_
      try simp only [List.setIfInBounds_toArray, List.set_cons_zero, List.set_cons_succ]
      refine oneH 11 (by kernel_rfl) (doH rfl (v := .slice (some ⟨X.heap.size, 0, none⟩) 1 1) (w' := X.alloc (.cells #[.int .i64 y1, .int .i64 y2, .int .i64 y3] 43)) (by go_simp) sA ?_)
      try simp only [List.setIfInBounds_toArray, List.set_cons_zero, List.set_cons_succ]
      obtain ⟨v', w1, hr, hown, hgr, _⟩ := run_append_facts (w.heap.size + 5) (.slice va vn vc) j _ (x2.alloc (.cells #[.int .i64 y1, .int .i64 y2, .int .i64 y3] 43)) ⟨X.heap.size, 0, none⟩ 1 1 [⟨y1, y2, y3⟩] rfl (oneRowF X ⟨y1, y2, y3⟩) (by omega) (by simp; omega)
      have hnr : ∀ g, (Value.slice va vn vc).ownBlock = some g → w.heap.size + 5 ≤ g := fun g hg => (x2.lt g hg).1
      have K1 : Keeps (fun q => q < w.heap.size + 5) X w1 := ((Keeps.refl _ _).alloc _).grown hgr (fun g hg h => by have := hnr g hg; omega)
      have z1 := x1.keepK K1 (by omega)
      have e0 := z1.cell 0
      have e1 := z1.fz 0
      simp only [List.getElem?_toArray, List.getElem?_cons_zero] at e0
      have sS : w1.cell? ⟨b, off + j * 3, none⟩ = some (.int .i64 y1) ∧ w1.cell? ⟨b, off + j * 3 + 1, none⟩ = some (.int .i64 y2) ∧ w1.cell? ⟨b, off + j * 3 + 2, none⟩ = some (.int .i64 y3) :=
        ⟨(K1.cell (p := ⟨b, off + j * 3, none⟩) (by show b < X.heap.size; omega) (by show b < w.heap.size + 5; omega)).trans hHeld.1, (K1.cell (p := ⟨b, off + j * 3 + 1, none⟩) (by show b < X.heap.size; omega) (by show b < w.heap.size + 5; omega)).trans hHeld.2.1, (K1.cell (p := ⟨b, off + j * 3 + 2, none⟩) (by show b < X.heap.size; omega) (by show b < w.heap.size + 5; omega)).trans hHeld.2.2⟩
      obtain ⟨ua, un, uc, rfl⟩ := rowShape hown
      refine oneH 12 (by kernel_rfl) (doH rfl (exec_append (.tmp 8) (.tmp 19) 23 23 rfl _ _ rfl rfl hr) sS ?_)
      try simp only [List.setIfInBounds_toArray, List.set_cons_zero, List.set_cons_succ]
      have K2 : Keeps (fun q => q ≠ w.heap.size) w1 (w1.setCell ⟨w.heap.size, 0, none⟩ (.slice ua un uc)) := (Keeps.refl _ _).setCell (fun h => h rfl) _
      have hb1 : b < w1.heap.size := by have := K1.size; omega
      refine oneH 13 (by kernel_rfl) (storeH rfl (w' := w1.setCell ⟨w.heap.size, 0, none⟩ (.slice ua un uc)) (nx := .skip) (by go_simp) (.inl rfl) ⟨(K2.cell (p := ⟨b, off + j * 3, none⟩) hb1 hbw).trans sS.1, (K2.cell (p := ⟨b, off + j * 3 + 1, none⟩) hb1 hbw).trans sS.2.1, (K2.cell (p := ⟨b, off + j * 3 + 2, none⟩) hb1 hbw).trans sS.2.2⟩ ?_)
      try simp only [List.setIfInBounds_toArray, List.set_cons_zero, List.set_cons_succ]
      refine wpAnyH_done (by kernel_rfl) ?_ _
      have hu : ∀ g, (Value.slice ua un uc).ownBlock = some g → w.heap.size + 5 ≤ g := fun g hg => (hown.lt g hg).1
      have hB1 : Below w.heap.size w w1 := x3.trans (K1.toBelow x3.size (fun q hq => by omega))
      have z2 := z1.put 0 (.slice ua un uc)
      refine ⟨rfl, ?_, .slice ua un uc, by simpa using z2, rowKeep (by rw [HX.out]; exact hown) K2 (fun g hg => by have := hu g hg; omega), hB1.trans (K2.toBelow hB1.size (fun q hq => by omega))⟩
      exact (k0 _).trans ((K1.mono (fun q _ h => by omega)).trans (K2.mono (fun q _ h => by omega)))
    case B =>
      refine doH rfl (v := .slice (some ⟨X.heap.size, 0, none⟩) 1 1) (w' := X.alloc (.cells #[.int .i64 y1, .int .i64 y2, .int .i64 y3] 43)) (by go_simp) sA ?_
      try simp only [List.setIfInBounds_toArray, List.set_cons_zero, List.set_cons_succ]
      refine oneH 0 (by kernel_rfl) (doH rfl (v := .slice va vn vc) (w' := X.alloc (.cells #[.int .i64 y1, .int .i64 y2, .int .i64 y3] 43)) (by go_simp) sA ?_)
      try simp only [List.setIfInBounds_toArray, List.set_cons_zero, List.set_cons_succ]
      obtain ⟨v', w1, hr, hown, hgr, _⟩ := run_append_facts (w.heap.size + 5) (.slice va vn vc) j _ (x2.alloc (.cells #[.int .i64 y1, .int .i64 y2, .int .i64 y3] 43)) ⟨X.heap.size, 0, none⟩ 1 1 [⟨y1, y2, y3⟩] rfl (oneRowF X ⟨y1, y2, y3⟩) (by omega) (by simp; omega)
      have hnr : ∀ g, (Value.slice va vn vc).ownBlock = some g → w.heap.size + 5 ≤ g := fun g hg => (x2.lt g hg).1
      have K1 : Keeps (fun q => q < w.heap.size + 5) X w1 := ((Keeps.refl _ _).alloc _).grown hgr (fun g hg h => by have := hnr g hg; omega)
      have z1 := x1.keepK K1 (by omega)
      have e0 := z1.cell 0
      have e1 := z1.fz 0
      simp only [List.getElem?_toArray, List.getElem?_cons_zero] at e0
      have sS : w1.cell? ⟨b, off + j * 3, none⟩ = some (.int .i64 y1) ∧ w1.cell? ⟨b, off + j * 3 + 1, none⟩ = some (.int .i64 y2) ∧ w1.cell? ⟨b, off + j * 3 + 2, none⟩ = some (.int .i64 y3) :=
        ⟨(K1.cell (p := ⟨b, off + j * 3, none⟩) (by show b < X.heap.size; omega) (by show b < w.heap.size + 5; omega)).trans hHeld.1, (K1.cell (p := ⟨b, off + j * 3 + 1, none⟩) (by show b < X.heap.size; omega) (by show b < w.heap.size + 5; omega)).trans hHeld.2.1, (K1.cell (p := ⟨b, off + j * 3 + 2, none⟩) (by show b < X.heap.size; omega) (by show b < w.heap.size + 5; omega)).trans hHeld.2.2⟩
      obtain ⟨ua, un, uc, rfl⟩ := rowShape hown
      refine oneH 12 (by kernel_rfl) (doH rfl (exec_append (.tmp 8) (.tmp 19) 23 23 rfl _ _ rfl rfl hr) sS ?_)
      try simp only [List.setIfInBounds_toArray, List.set_cons_zero, List.set_cons_succ]
      have K2 : Keeps (fun q => q ≠ w.heap.size) w1 (w1.setCell ⟨w.heap.size, 0, none⟩ (.slice ua un uc)) := (Keeps.refl _ _).setCell (fun h => h rfl) _
      have hb1 : b < w1.heap.size := by have := K1.size; omega
      refine oneH 13 (by kernel_rfl) (storeH rfl (w' := w1.setCell ⟨w.heap.size, 0, none⟩ (.slice ua un uc)) (nx := .skip) (by go_simp) (.inl rfl) ⟨(K2.cell (p := ⟨b, off + j * 3, none⟩) hb1 hbw).trans sS.1, (K2.cell (p := ⟨b, off + j * 3 + 1, none⟩) hb1 hbw).trans sS.2.1, (K2.cell (p := ⟨b, off + j * 3 + 2, none⟩) hb1 hbw).trans sS.2.2⟩ ?_)
      try simp only [List.setIfInBounds_toArray, List.set_cons_zero, List.set_cons_succ]
      refine wpAnyH_done (by kernel_rfl) ?_ _
      have hu : ∀ g, (Value.slice ua un uc).ownBlock = some g → w.heap.size + 5 ≤ g := fun g hg => (hown.lt g hg).1
      have hB1 : Below w.heap.size w w1 := x3.trans (K1.toBelow x3.size (fun q hq => by omega))
      have z2 := z1.put 0 (.slice ua un uc)
      refine ⟨rfl, ?_, .slice ua un uc, by simpa using z2, rowKeep (by rw [HX.out]; exact hown) K2 (fun g hg => by have := hu g hg; omega), hB1.trans (K2.toBelow hB1.size (fun q hq => by omega))⟩
      exact (k0 _).trans ((K1.mono (fun q _ h => by omega)).trans (K2.mono (fun q _ h => by omega)))
end Go.Proofs.YtpjdkgcdkfmkiaaDoor
