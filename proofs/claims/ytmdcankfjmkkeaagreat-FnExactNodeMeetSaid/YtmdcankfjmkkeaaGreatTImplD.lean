/- The contracts of the program's newRound and TurnNext. -/
import Derived.Test.YtmdcankfjmkkeaaGreatG25
import Derived.Test.YtmdcankfjmkkeaaGreatChanceImpl
namespace Go.Proofs.YtmdcankfjmkkeaaGreat
open Go Go.RowKit
set_option linter.unusedVariables false
set_option linter.unusedSimpArgs false

set_option maxHeartbeats 4000000 in
set_option maxRecDepth 100000 in
theorem newRound_any (a1 : Option Addr) (cap1 : Nat) (nodes : List Int) (seed : Int) (o : TOutV) (w : World) (ha : askT nodes seed) (hne : nodes ≠ []) (ho : o = ⟨(mixL (nodes.length - 1) nodes seed).1, 1, (mixL (nodes.length - 1) nodes seed).1.getD 0 0, (mixL (nodes.length - 1) nodes seed).2, 0⟩) (hrow1 : NumRow w a1 nodes) :
    Calls Tryz.prog 189 #[.slice a1 nodes.length cap1, .int .i64 seed] w (TOutPost o w) := by
  have hn6 := nodesT_len ha.1
  have hsd := ha.2.2
  have HN0 : Hid (nodes ≠ []) := hne
  have hSH : shufL nodes seed = mixL (nodes.length - 1) nodes seed := if_neg (by simp [hsd.1, hsd.2]; omega)
  obtain ⟨M, hM⟩ : ∃ M, mixL (nodes.length - 1) nodes seed = M := ⟨_, rfl⟩
  have hMl : M.1.length = nodes.length := by rw [← hM]; exact mixL_length _ _ _
  rw [hM] at ho hSH
  have HMM : Hid (shufL nodes seed = M) := hSH
  have HML : Hid (M.1.length = nodes.length) := hMl
  obtain ⟨mix, ms⟩ := M
  dsimp only at ho
  subst ho
  clear hMl hM hne ha hSH
  have q0 := BlkIs.new w 154 #[.slice none 0 0, .int .i64 0, .int .i64 0, .int .i64 0, .int .i64 0]
  have B0 : Below w.heap.size w (w.alloc (.cells #[.slice none 0 0, .int .i64 0, .int .i64 0, .int .i64 0, .int .i64 0] 154)) := (Below.refl _ _).alloc (Nat.le_refl _) _
  have s0 := hrow1.keep B0
  obtain ⟨W, hW⟩ : ∃ W, w.alloc (.cells #[.slice none 0 0, .int .i64 0, .int .i64 0, .int .i64 0, .int .i64 0] 154) = W := ⟨_, rfl⟩
  rw [hW] at q0 B0 s0
  have HW : Hid (_ = W) := hW
  clear hW
  have hqs := q0.lt
  go_enter Tryz.func189, Tryz.ntmps189
  go_upto_region 1 with fail
  rw [HW.out]
  clear HW
  go_wp2_with fail
  refine (implShuffle_any a1 cap1 nodes seed _ (by omega) s0).mono ?_
  rintro e z ⟨v, rfl, ov, bz⟩
  rw [HMM.out] at ov ⊢
  dsimp only at ov ⊢
  have hmp : 0 < mix.length := by rw [show mix.length = nodes.length from HML.out]; exact List.length_pos_iff.2 HN0.out
  obtain ⟨g, gc, rfl⟩ : ∃ g gc, v = .slice (some ⟨g, 0, none⟩) mix.length gc := by
    rcases ov.2 with ⟨_, e⟩ | ⟨g, gc, cur, e, _⟩
    · omega
    · exact ⟨g, gc, e⟩
  have q1 := q0.keep bz
  have B1 := B0.trans (bz.mono B0.size)
  unfold shufOut
  clear q0 s0 B0 bz HMM HN0
  have bA : Below z.heap.size z (z.alloc (.cells #[.int .i64 ms, .slice (some ⟨g, 0, none⟩) mix.length gc] 199)) := (Below.refl _ _).alloc (Nat.le_refl _) _
  have X1 := BlkIs.new z 199 #[.int .i64 ms, .slice (some ⟨g, 0, none⟩) mix.length gc]
  have q2 := q1.keep bA
  have B2 := B1.trans (bA.mono B1.size)
  have ov2 := own_below ov bA
  obtain ⟨Y0, hY0⟩ : ∃ Y, z.alloc (.cells #[.int .i64 ms, .slice (some ⟨g, 0, none⟩) mix.length gc] 199) = Y := ⟨_, rfl⟩
  obtain ⟨kx, hkx⟩ : ∃ k, z.heap.size = k := ⟨_, rfl⟩
  rw [hY0] at X1 q2 B2 ov2
  rw [hkx] at X1
  have HY0 : Hid (_ = Y0) := hY0
  have HKX : Hid (z.heap.size = kx) := hkx
  have hzq : w.heap.size < kx := by rw [← hkx]; exact q1.lt
  have hWl : w.heap.size < W.heap.size := hqs
  have hgW : W.heap.size ≤ g := (ov2.lt g rfl).1
  clear hY0 hkx bA q1 B1 ov
  go_upto_region 2 with fail
  rw [HY0.out, HKX.out]
  clear HY0 HKX
  obtain ⟨Y, hY⟩ : ∃ Y, Y0.drew = Y := ⟨_, rfl⟩
  have xY : BlkIs Y kx 199 #[.int .i64 ms, .slice (some ⟨g, 0, none⟩) mix.length gc] := by rw [← hY]; exact X1
  have qY : BlkIs Y (w.heap.size) 154 #[.slice none 0 0, .int .i64 0, .int .i64 0, .int .i64 0, .int .i64 0] := by rw [← hY]; exact q2
  have BY : Below w.heap.size w Y := by rw [← hY]; exact B2.drew
  have oY : Y.ownsRow W.heap.size 2 1 (.slice (some ⟨g, 0, none⟩) mix.length gc) mix.length (numsV mix) := by rw [← hY]; exact ov2
  refine wp_region_held_drew (S := fun w' => Keeps (fun q => q ≠ w.heap.size) Y w') (by kernel_rfl) ?hS0 (fun hHeld => ?_)
  case hS0 => rw [hY]; exact Keeps.refl _ _
  rw [hY] at hHeld ⊢
  clear hY X1 q2 B2 ov2
  have hgl := (oY.lt g rfl).2
  have cg : Y.cell? ⟨g, 0, none⟩ = some (.int .i64 (mix.getD 0 0)) := by rw [oY.cellAt 0 (by omega)]; exact numsV_at hmp
  have hmI : (0 : Int) < (mix.length : Int) := by omega
  refine takeG 0 (v := .pointer (some ⟨kx, 1, none⟩)) rfl (by kernel_rfl) (by kernel_rfl) (by kernel_rfl) (by kernel_rfl) (fun _ _ _ h => h) ?hy (by assumption) ?_
  case hy => (intro w' hSw; go_simp)
  try simp only [List.setIfInBounds_toArray, List.set_cons_zero, List.set_cons_succ]
  refine takeG 1 (v := .slice (some ⟨g, 0, none⟩) mix.length gc) rfl (by kernel_rfl) (by kernel_rfl) (by kernel_rfl) (by kernel_rfl) (fun _ _ _ h => h) ?hy (by assumption) ?_
  case hy => (intro w' hSw; have s0 := (show w'.cell? ⟨kx, 1, none⟩ = some (.slice (some ⟨g, 0, none⟩) mix.length gc) from (xY.keepK hSw (by omega)).cell 1); (try dsimp only at s0); go_simp)
  try simp only [List.setIfInBounds_toArray, List.set_cons_zero, List.set_cons_succ]
  refine takeG 2 (v := .agg #[.slice (some ⟨g, 0, none⟩) mix.length gc, .int .i64 1]) rfl (by kernel_rfl) (by kernel_rfl) (by kernel_rfl) (by kernel_rfl) (fun _ _ _ h => h) ?hy (by assumption) ?_
  case hy => (intro w' hSw; go_simp)
  try simp only [List.setIfInBounds_toArray, List.set_cons_zero, List.set_cons_succ]
  refine takeG 3 (v := .pointer (some ⟨kx, 1, none⟩)) rfl (by kernel_rfl) (by kernel_rfl) (by kernel_rfl) (by kernel_rfl) (fun _ _ _ h => h) ?hy (by assumption) ?_
  case hy => (intro w' hSw; go_simp)
  try simp only [List.setIfInBounds_toArray, List.set_cons_zero, List.set_cons_succ]
  refine takeG 4 (v := .slice (some ⟨g, 0, none⟩) mix.length gc) rfl (by kernel_rfl) (by kernel_rfl) (by kernel_rfl) (by kernel_rfl) (fun _ _ _ h => h) ?hy (by assumption) ?_
  case hy => (intro w' hSw; have s0 := (show w'.cell? ⟨kx, 1, none⟩ = some (.slice (some ⟨g, 0, none⟩) mix.length gc) from (xY.keepK hSw (by omega)).cell 1); (try dsimp only at s0); go_simp)
  try simp only [List.setIfInBounds_toArray, List.set_cons_zero, List.set_cons_succ]
  refine takeG 5 (v := .pointer (some ⟨g, 0, none⟩)) rfl (by kernel_rfl) (by kernel_rfl) (by kernel_rfl) (by kernel_rfl) (fun _ _ _ h => h) ?hy (by assumption) ?_
  case hy => (intro w' hSw; go_simp)
  try simp only [List.setIfInBounds_toArray, List.set_cons_zero, List.set_cons_succ]
  refine takeG 6 (v := .int .i64 (mix.getD 0 0)) rfl (by kernel_rfl) (by kernel_rfl) (by kernel_rfl) (by kernel_rfl) (fun _ _ _ h => h) ?hy (by assumption) ?_
  case hy => (intro w' hSw; have s0 := (hSw.cell (p := ⟨g, 0, none⟩) hgl (show g ≠ w.heap.size by omega)).trans cg; (try dsimp only at s0); go_simp)
  try simp only [List.setIfInBounds_toArray, List.set_cons_zero, List.set_cons_succ]
  refine takeG 7 (v := .pointer (some ⟨kx, 0, none⟩)) rfl (by kernel_rfl) (by kernel_rfl) (by kernel_rfl) (by kernel_rfl) (fun _ _ _ h => h) ?hy (by assumption) ?_
  case hy => (intro w' hSw; go_simp)
  try simp only [List.setIfInBounds_toArray, List.set_cons_zero, List.set_cons_succ]
  refine takeG 8 (v := .int .i64 ms) rfl (by kernel_rfl) (by kernel_rfl) (by kernel_rfl) (by kernel_rfl) (fun _ _ _ h => h) ?hy (by assumption) ?_
  case hy => (intro w' hSw; have s0 := (show w'.cell? ⟨kx, 0, none⟩ = some (.int .i64 ms) from (xY.keepK hSw (by omega)).cell 0); (try dsimp only at s0); go_simp)
  try simp only [List.setIfInBounds_toArray, List.set_cons_zero, List.set_cons_succ]
  refine takeG 9 (v := .agg #[.slice (some ⟨g, 0, none⟩) mix.length gc, .int .i64 1, .int .i64 (mix.getD 0 0), .int .i64 ms, .int .i64 0]) rfl (by kernel_rfl) (by kernel_rfl) (by kernel_rfl) (by kernel_rfl) (fun _ _ _ h => h) ?hy (by assumption) ?_
  case hy => (intro w' hSw; go_simp)
  try simp only [List.setIfInBounds_toArray, List.set_cons_zero, List.set_cons_succ]
  have hge : ∀ q, Value.ownBlock (.slice (some ⟨g, 0, none⟩) mix.length gc) = some q → q ≠ w.heap.size := fun q hq => by have := (oY.lt q hq).1; omega
  have own3 : Y.ownsRow w.heap.size 2 1 (.slice (some ⟨g, 0, none⟩) mix.length gc) mix.length (numsV mix) := rowLeN oY (by omega)
  have g0 : Y.cell? ⟨w.heap.size, 0, none⟩ = some (.slice none 0 0) := qY.cell 0
  have z0 := qY.fz 0
  have g1 : Y.cell? ⟨w.heap.size, 1, none⟩ = some (.int .i64 0) := qY.cell 1
  have z1 := qY.fz 1
  have g2 : Y.cell? ⟨w.heap.size, 2, none⟩ = some (.int .i64 0) := qY.cell 2
  have z2 := qY.fz 2
  have g3 : Y.cell? ⟨w.heap.size, 3, none⟩ = some (.int .i64 0) := qY.cell 3
  have z3 := qY.fz 3
  have g4 : Y.cell? ⟨w.heap.size, 4, none⟩ = some (.int .i64 0) := qY.cell 4
  have z4 := qY.fz 4
  have RZ : BlkIs (((((Y.setCell ⟨w.heap.size, 0, none⟩ (.slice (some ⟨g, 0, none⟩) mix.length gc)).setCell ⟨w.heap.size, 1, none⟩ (.int .i64 1)).setCell ⟨w.heap.size, 2, none⟩ (.int .i64 (mix.getD 0 0))).setCell ⟨w.heap.size, 3, none⟩ (.int .i64 ms)).setCell ⟨w.heap.size, 4, none⟩ (.int .i64 0)) (w.heap.size) 154 #[.slice (some ⟨g, 0, none⟩) mix.length gc, .int .i64 1, .int .i64 (mix.getD 0 0), .int .i64 ms, .int .i64 0] := blk_put5 qY _ _ _ _ _
  have BZ : Below w.heap.size w (((((Y.setCell ⟨w.heap.size, 0, none⟩ (.slice (some ⟨g, 0, none⟩) mix.length gc)).setCell ⟨w.heap.size, 1, none⟩ (.int .i64 1)).setCell ⟨w.heap.size, 2, none⟩ (.int .i64 (mix.getD 0 0))).setCell ⟨w.heap.size, 3, none⟩ (.int .i64 ms)).setCell ⟨w.heap.size, 4, none⟩ (.int .i64 0)) := (((((BY.setCell (p := ⟨w.heap.size, 0, none⟩) (by dsimp only; omega) (.slice (some ⟨g, 0, none⟩) mix.length gc)).setCell (p := ⟨w.heap.size, 1, none⟩) (by dsimp only; omega) (.int .i64 1)).setCell (p := ⟨w.heap.size, 2, none⟩) (by dsimp only; omega) (.int .i64 (mix.getD 0 0))).setCell (p := ⟨w.heap.size, 3, none⟩) (by dsimp only; omega) (.int .i64 ms)).setCell (p := ⟨w.heap.size, 4, none⟩) (by dsimp only; omega) (.int .i64 0))
  have KZ : Keeps (fun k => k ≠ w.heap.size) Y (((((Y.setCell ⟨w.heap.size, 0, none⟩ (.slice (some ⟨g, 0, none⟩) mix.length gc)).setCell ⟨w.heap.size, 1, none⟩ (.int .i64 1)).setCell ⟨w.heap.size, 2, none⟩ (.int .i64 (mix.getD 0 0))).setCell ⟨w.heap.size, 3, none⟩ (.int .i64 ms)).setCell ⟨w.heap.size, 4, none⟩ (.int .i64 0)) := keeps_five _ _ _ _ _ _ _
  refine oneH 10 (by kernel_rfl) (storeH rfl (w' := (((((Y.setCell ⟨w.heap.size, 0, none⟩ (.slice (some ⟨g, 0, none⟩) mix.length gc)).setCell ⟨w.heap.size, 1, none⟩ (.int .i64 1)).setCell ⟨w.heap.size, 2, none⟩ (.int .i64 (mix.getD 0 0))).setCell ⟨w.heap.size, 3, none⟩ (.int .i64 ms)).setCell ⟨w.heap.size, 4, none⟩ (.int .i64 0))) (nx := .skip) (by go_simp) (.inl rfl) (hHeld.trans KZ) ?_)
  try simp only [Act.put, List.setIfInBounds_toArray, List.set_cons_zero, List.set_cons_succ]
  refine wpAnyH_done (by kernel_rfl) ?_ _
  have own4 := rowKeep own3 KZ hge
  obtain ⟨Z, hZ⟩ : ∃ Z, (((((Y.setCell ⟨w.heap.size, 0, none⟩ (.slice (some ⟨g, 0, none⟩) mix.length gc)).setCell ⟨w.heap.size, 1, none⟩ (.int .i64 1)).setCell ⟨w.heap.size, 2, none⟩ (.int .i64 (mix.getD 0 0))).setCell ⟨w.heap.size, 3, none⟩ (.int .i64 ms)).setCell ⟨w.heap.size, 4, none⟩ (.int .i64 0)) = Z := ⟨_, rfl⟩
  rw [hZ] at RZ BZ own4 ⊢
  clear hZ g0 z0 g1 z1 g2 z2 g3 z3 g4 z4 KZ own3
  go_wp2
  have h0 : Z.cell? ⟨w.heap.size, 0, none⟩ = some (.slice (some ⟨g, 0, none⟩) mix.length gc) := RZ.cell 0
  have h1 : Z.cell? ⟨w.heap.size, 1, none⟩ = some (.int .i64 1) := RZ.cell 1
  have h2 : Z.cell? ⟨w.heap.size, 2, none⟩ = some (.int .i64 (mix.getD 0 0)) := RZ.cell 2
  have h3 : Z.cell? ⟨w.heap.size, 3, none⟩ = some (.int .i64 ms) := RZ.cell 3
  have h4 : Z.cell? ⟨w.heap.size, 4, none⟩ = some (.int .i64 0) := RZ.cell 4
  exact bodyPost_ret (v := .agg #[.slice (some ⟨g, 0, none⟩) mix.length gc, .int .i64 1, .int .i64 (mix.getD 0 0), .int .i64 ms, .int .i64 0]) (by simp [results, Tryz.results189, go_sem, h0, h1, h2, h3, h4]) rfl ⟨_, rfl, own4, BZ⟩

set_option maxHeartbeats 4000000 in
set_option maxRecDepth 100000 in
theorem implTNext_any (a : Option Addr) (cap : Nat) (t : TurnV) (a1 : Option Addr) (cap1 : Nat) (nodes : List Int) (seed : Int) (o : TOutV) (w : World) (h : TNextIs t nodes seed o) (hl : t.list.length ≤ 1048576) (hl1 : nodes.length ≤ 1048576) (hcap : t.list.length ≤ cap) (hrow : NumRow w a t.list) (hrow1 : NumRow w a1 nodes) :
    Calls Tryz.prog 132 #[turnV (.slice a t.list.length cap) t.at0, .slice a1 nodes.length cap1, .int .i64 seed] w (TOutPost o w) := by
  obtain ⟨l, at0⟩ := t
  dsimp only at hl hcap hrow ⊢
  obtain ⟨c, hF, hC⟩ : ∃ c, FaultT ⟨l, at0⟩ nodes seed c ∧ ((c ≠ 0 ∧ o = ⟨[], 0, 0, 0, c⟩) ∨ (c = 0 ∧ (TurnV.ok ⟨l, at0⟩ ∧ askT nodes seed ∧ nodes ≠ []) ∧ ((∃ i, FirstT ⟨l, at0⟩ nodes i ∧ o = ⟨l, (i : Int) + 1, l.getD i 0, seed, 0⟩) ∨ (NoneT ⟨l, at0⟩ nodes ∧ o = ⟨(mixL (nodes.length - 1) nodes seed).1, 1, (mixL (nodes.length - 1) nodes seed).1.getD 0 0, (mixL (nodes.length - 1) nodes seed).2, 0⟩)))) := by
    rcases h with ⟨h1, e⟩ | ⟨h1, h2, e⟩ | ⟨h1, h2, h3, e⟩ | ⟨h1, h2, h3, i, h4, e⟩ | ⟨h1, h2, h3, h4, e⟩
    · exact ⟨2, .inl ⟨h1, rfl⟩, .inl ⟨by decide, e⟩⟩
    · exact ⟨1, .inr (.inl ⟨h1, h2, rfl⟩), .inl ⟨by decide, e⟩⟩
    · exact ⟨6, .inr (.inr (.inl ⟨h1, h2, h3, rfl⟩)), .inl ⟨by decide, e⟩⟩
    · exact ⟨0, .inr (.inr (.inr ⟨h1, h2, h3, rfl⟩)), .inr ⟨rfl, ⟨h1, h2, h3⟩, .inl ⟨i, h4, e⟩⟩⟩
    · exact ⟨0, .inr (.inr (.inr ⟨h1, h2, h3, rfl⟩)), .inr ⟨rfl, ⟨h1, h2, h3⟩, .inr ⟨h4, e⟩⟩⟩
  have HC : Hid ((c ≠ 0 ∧ o = ⟨[], 0, 0, 0, c⟩) ∨ (c = 0 ∧ (TurnV.ok ⟨l, at0⟩ ∧ askT nodes seed ∧ nodes ≠ []) ∧ ((∃ i, FirstT ⟨l, at0⟩ nodes i ∧ o = ⟨l, (i : Int) + 1, l.getD i 0, seed, 0⟩) ∨ (NoneT ⟨l, at0⟩ nodes ∧ o = ⟨(mixL (nodes.length - 1) nodes seed).1, 1, (mixL (nodes.length - 1) nodes seed).1.getD 0 0, (mixL (nodes.length - 1) nodes seed).2, 0⟩)))) := hC
  clear hC h
  have p0 := (BlkIs.new w 27 #[.slice a l.length cap, .int .i64 at0]).keep ((Below.refl _ _).alloc (Nat.le_refl _) (.cells #[.slice none 0 0, .int .i64 0, .int .i64 0, .int .i64 0, .int .i64 0] 154))
  have q0 := BlkIs.new (w.alloc (.cells #[.slice a l.length cap, .int .i64 at0] 27)) 154 #[.slice none 0 0, .int .i64 0, .int .i64 0, .int .i64 0, .int .i64 0]
  rw [World.size_alloc] at q0
  have B0 : Below w.heap.size w ((w.alloc (.cells #[.slice a l.length cap, .int .i64 at0] 27)).alloc (.cells #[.slice none 0 0, .int .i64 0, .int .i64 0, .int .i64 0, .int .i64 0] 154)) := ((Below.refl _ _).alloc (Nat.le_refl _) _).alloc (by simp) _
  have r0 := hrow.keep B0
  have s0 := hrow1.keep B0
  obtain ⟨W, hW⟩ : ∃ W, ((w.alloc (.cells #[.slice a l.length cap, .int .i64 at0] 27)).alloc (.cells #[.slice none 0 0, .int .i64 0, .int .i64 0, .int .i64 0, .int .i64 0] 154)) = W := ⟨_, rfl⟩
  rw [hW] at p0 q0 B0 r0 s0
  have HW : Hid (_ = W) := hW
  clear hW
  have hFC := turnFault_any a cap ⟨l, at0⟩ a1 cap1 nodes seed c W hF hl hl1 hcap r0 s0
  clear hF
  dsimp only at hFC
  unfold turnV at hFC ⊢
  have c0 : W.cell? ⟨w.heap.size, 0, none⟩ = some (.slice a l.length cap) := p0.cell 0
  have c1 : W.cell? ⟨w.heap.size, 1, none⟩ = some (.int .i64 at0) := p0.cell 1
  go_enter Tryz.func132, Tryz.ntmps132
  go_upto_region 1 with fail
  rw [HW.out]
  clear HW
  have hqs := q0.lt
  go_wp2_with fail
  refine hFC.mono ?_
  rintro e z ⟨rfl, bz⟩
  clear hFC c0 c1
  have p1 := p0.keep bz
  have q1 := q0.keep bz
  have B1 := B0.trans (bz.mono B0.size)
  have r1 := r0.keep bz
  have s1 := s0.keep bz
  clear p0 q0 B0 r0 s0 bz
  by_cases hc : c = 0
  case neg =>
    have ho : o = ⟨[], 0, 0, 0, c⟩ := by
      rcases HC.out with ⟨_, e⟩ | ⟨e, _⟩
      · exact e
      · exact absurd e hc
    subst ho
    clear HC
    have hcb : (c == 0) = false := beq_eq_false_iff_ne.2 hc
    clear hc
    have g0 : z.cell? ⟨w.heap.size + 1, 0, none⟩ = some (.slice none 0 0) := q1.cell 0
    have z0 := q1.fz 0
    have g1 : z.cell? ⟨w.heap.size + 1, 1, none⟩ = some (.int .i64 0) := q1.cell 1
    have z1 := q1.fz 1
    have g2 : z.cell? ⟨w.heap.size + 1, 2, none⟩ = some (.int .i64 0) := q1.cell 2
    have z2 := q1.fz 2
    have g3 : z.cell? ⟨w.heap.size + 1, 3, none⟩ = some (.int .i64 0) := q1.cell 3
    have z3 := q1.fz 3
    have g4 : z.cell? ⟨w.heap.size + 1, 4, none⟩ = some (.int .i64 0) := q1.cell 4
    have z4 := q1.fz 4
    have RZ : BlkIs (((((z.setCell ⟨w.heap.size + 1, 0, none⟩ (.slice none 0 0)).setCell ⟨w.heap.size + 1, 1, none⟩ (.int .i64 0)).setCell ⟨w.heap.size + 1, 2, none⟩ (.int .i64 0)).setCell ⟨w.heap.size + 1, 3, none⟩ (.int .i64 0)).setCell ⟨w.heap.size + 1, 4, none⟩ (.int .i64 c)) (w.heap.size + 1) 154 #[.slice none 0 0, .int .i64 0, .int .i64 0, .int .i64 0, .int .i64 c] := blk_put5 q1 _ _ _ _ _
    have BZ : Below w.heap.size w (((((z.setCell ⟨w.heap.size + 1, 0, none⟩ (.slice none 0 0)).setCell ⟨w.heap.size + 1, 1, none⟩ (.int .i64 0)).setCell ⟨w.heap.size + 1, 2, none⟩ (.int .i64 0)).setCell ⟨w.heap.size + 1, 3, none⟩ (.int .i64 0)).setCell ⟨w.heap.size + 1, 4, none⟩ (.int .i64 c)) := (((((B1.setCell (p := ⟨w.heap.size + 1, 0, none⟩) (by dsimp only; omega) (.slice none 0 0)).setCell (p := ⟨w.heap.size + 1, 1, none⟩) (by dsimp only; omega) (.int .i64 0)).setCell (p := ⟨w.heap.size + 1, 2, none⟩) (by dsimp only; omega) (.int .i64 0)).setCell (p := ⟨w.heap.size + 1, 3, none⟩) (by dsimp only; omega) (.int .i64 0)).setCell (p := ⟨w.heap.size + 1, 4, none⟩) (by dsimp only; omega) (.int .i64 c))
    have KZ : Keeps (fun k => k ≠ w.heap.size + 1) z (((((z.setCell ⟨w.heap.size + 1, 0, none⟩ (.slice none 0 0)).setCell ⟨w.heap.size + 1, 1, none⟩ (.int .i64 0)).setCell ⟨w.heap.size + 1, 2, none⟩ (.int .i64 0)).setCell ⟨w.heap.size + 1, 3, none⟩ (.int .i64 0)).setCell ⟨w.heap.size + 1, 4, none⟩ (.int .i64 c)) := keeps_five _ _ _ _ _ _ _
    go_wp2
    obtain ⟨Z, hZ⟩ : ∃ Z, (((((z.setCell ⟨w.heap.size + 1, 0, none⟩ (.slice none 0 0)).setCell ⟨w.heap.size + 1, 1, none⟩ (.int .i64 0)).setCell ⟨w.heap.size + 1, 2, none⟩ (.int .i64 0)).setCell ⟨w.heap.size + 1, 3, none⟩ (.int .i64 0)).setCell ⟨w.heap.size + 1, 4, none⟩ (.int .i64 c)) = Z := ⟨_, rfl⟩
    rw [hZ] at RZ BZ KZ ⊢
    clear hZ g0 z0 g1 z1 g2 z2 g3 z3 g4 z4
    have h0 : Z.cell? ⟨w.heap.size + 1, 0, none⟩ = some (.slice none 0 0) := RZ.cell 0
    have h1 : Z.cell? ⟨w.heap.size + 1, 1, none⟩ = some (.int .i64 0) := RZ.cell 1
    have h2 : Z.cell? ⟨w.heap.size + 1, 2, none⟩ = some (.int .i64 0) := RZ.cell 2
    have h3 : Z.cell? ⟨w.heap.size + 1, 3, none⟩ = some (.int .i64 0) := RZ.cell 3
    have h4 : Z.cell? ⟨w.heap.size + 1, 4, none⟩ = some (.int .i64 c) := RZ.cell 4
    exact bodyPost_ret (v := .agg #[.slice none 0 0, .int .i64 0, .int .i64 0, .int .i64 0, .int .i64 c]) (by simp [results, Tryz.results132, go_sem, h0, h1, h2, h3, h4]) rfl ⟨_, rfl, ⟨rfl, .inl ⟨rfl, rfl⟩⟩, BZ⟩
  have HC2 : Hid ((TurnV.ok ⟨l, at0⟩ ∧ askT nodes seed ∧ nodes ≠ []) ∧ ((∃ i, FirstT ⟨l, at0⟩ nodes i ∧ o = ⟨l, (i : Int) + 1, l.getD i 0, seed, 0⟩) ∨ (NoneT ⟨l, at0⟩ nodes ∧ o = ⟨(mixL (nodes.length - 1) nodes seed).1, 1, (mixL (nodes.length - 1) nodes seed).1.getD 0 0, (mixL (nodes.length - 1) nodes seed).2, 0⟩))) := by
    rcases HC.out with ⟨e, _⟩ | ⟨_, e⟩
    · exact absurd hc e
    · exact e
  subst hc
  clear HC
  have hat : 0 ≤ at0 ∧ at0 ≤ l.length := HC2.out.1.1.2
  have hl6 := nodesT_len HC2.out.1.1.1
  have hn6 := nodesT_len HC2.out.1.2.1.1
  dsimp only at hl6
  obtain ⟨at1, rfl⟩ := Int.eq_ofNat_of_zero_le hat.1
  have hat1 : at1 ≤ l.length := by omega
  clear hat
  obtain ⟨p, HP, HO⟩ : ∃ p, Hid (PlaceT (l.drop at1) nodes p) ∧ Hid ((p < l.length - at1 ∧ o = ⟨l, ((at1 + p : Nat) : Int) + 1, l.getD (at1 + p) 0, seed, 0⟩) ∨ (p = l.length - at1 ∧ o = ⟨(mixL (nodes.length - 1) nodes seed).1, 1, (mixL (nodes.length - 1) nodes seed).1.getD 0 0, (mixL (nodes.length - 1) nodes seed).2, 0⟩)) := by
    rcases HC2.out.2 with ⟨i, ⟨h1, h2, h3, h4⟩, e⟩ | ⟨h1, e⟩
    · dsimp only at h1 h2 h3 h4
      refine ⟨i - at1, ⟨by rw [List.length_drop]; omega, fun j hj hji => ?_, fun hh => ?_⟩, .inl ⟨by omega, by rw [show at1 + (i - at1) = i by omega]; exact e⟩⟩
      · rw [List.length_drop] at hj
        rw [List.getElem_drop]
        exact h4 (at1 + j) (by omega) (by omega) (by omega)
      · rw [List.getElem_drop]
        have : at1 + (i - at1) = i := by omega
        simp only [this]
        exact h3
    · refine ⟨l.length - at1, ⟨by rw [List.length_drop]; omega, fun j hj hji => ?_, fun hh => ?_⟩, .inr ⟨rfl, e⟩⟩
      · rw [List.length_drop] at hj
        rw [List.getElem_drop]
        exact h1 (at1 + j) (by show at1 + j < l.length; omega) (by show (at1 : Int) ≤ ((at1 + j : Nat) : Int); omega)
      · rw [List.length_drop] at hh
        omega
  have HA : Hid (askT nodes seed ∧ nodes ≠ []) := HC2.out.1.2
  clear HC2
  have c0 : z.cell? ⟨w.heap.size, 0, none⟩ = some (.slice a l.length cap) := p1.cell 0
  have c1 : z.cell? ⟨w.heap.size, 1, none⟩ = some (.int .i64 (at1 : Int)) := p1.cell 1
  go_wp2_with fail
  refine (rowOf_any a l.length cap at1 l.length _ hat1 hcap).mono ?_
  rintro e z2 ⟨rfl, hz⟩
  replace hz : z = z2 := hz.symm
  subst hz
  have rr := rowA_row r1 hat1 (Nat.le_refl _)
  have hdl : (l.drop at1).length = l.length - at1 := List.length_drop
  rw [List.take_of_length_le (by rw [hdl]; exact Nat.le_refl _)] at rr
  obtain ⟨ra, hra⟩ : ∃ ra, rowA a at1 l.length = ra := ⟨_, rfl⟩
  rw [hra] at rr ⊢
  have HRA : Hid (rowA a at1 l.length = ra) := hra
  have hPL := placeOf_any ra (l.length - at1) (l.drop at1) a1 cap1 nodes p z HP.out (by rw [hdl]; omega) hl1 rr s1
  rw [hdl] at hPL
  clear hra hdl
  go_wp2_with fail
  refine hPL.mono ?_
  rintro e z2 ⟨rfl, hz⟩
  replace hz : z = z2 := hz.symm
  subst hz
  clear hPL
  by_cases hp : p = l.length - at1
  case pos =>
    have ho : o = ⟨(mixL (nodes.length - 1) nodes seed).1, 1, (mixL (nodes.length - 1) nodes seed).1.getD 0 0, (mixL (nodes.length - 1) nodes seed).2, 0⟩ := by
      rcases HO.out with ⟨h, _⟩ | ⟨_, e⟩
      · omega
      · exact e
    subst hp
    have HOO : Hid (o = ⟨(mixL (nodes.length - 1) nodes seed).1, 1, (mixL (nodes.length - 1) nodes seed).1.getD 0 0, (mixL (nodes.length - 1) nodes seed).2, 0⟩) := ho
    clear HO HP ho rr HRA
    go_wp2_with fail
    refine (newRound_any a1 cap1 nodes seed o _ HA.out.1 HA.out.2 HOO.out s1).mono ?_
    rintro e zn ⟨v, rfl, ov, bz⟩
    obtain ⟨va, vn, vc, rfl⟩ : ∃ a n c, v = .slice a n c := by
      rcases ov.2 with ⟨e, _⟩ | ⟨g, cap, cur, e, _⟩
      · exact ⟨_, _, _, e⟩
      · exact ⟨_, _, _, e⟩
    have q2 := q1.keep bz
    have B2 := B1.trans (bz.mono B1.size)
    have hq1 := q1.lt
    have hge : ∀ q, Value.ownBlock (.slice va vn vc) = some q → q ≠ w.heap.size + 1 := fun q hq => by have := (ov.lt q hq).1; omega
    have own3 : zn.ownsRow w.heap.size 2 1 (.slice va vn vc) o.list.length (numsV o.list) := rowLeN ov B1.size
    clear ov bz p1 q1 B1 r1 s1 HOO HA c0 c1
    have g0 : zn.cell? ⟨w.heap.size + 1, 0, none⟩ = some (.slice none 0 0) := q2.cell 0
    have z0 := q2.fz 0
    have g1 : zn.cell? ⟨w.heap.size + 1, 1, none⟩ = some (.int .i64 0) := q2.cell 1
    have z1 := q2.fz 1
    have g2 : zn.cell? ⟨w.heap.size + 1, 2, none⟩ = some (.int .i64 0) := q2.cell 2
    have z2 := q2.fz 2
    have g3 : zn.cell? ⟨w.heap.size + 1, 3, none⟩ = some (.int .i64 0) := q2.cell 3
    have z3 := q2.fz 3
    have g4 : zn.cell? ⟨w.heap.size + 1, 4, none⟩ = some (.int .i64 0) := q2.cell 4
    have z4 := q2.fz 4
    have RZ : BlkIs (((((zn.setCell ⟨w.heap.size + 1, 0, none⟩ (.slice va vn vc)).setCell ⟨w.heap.size + 1, 1, none⟩ (.int .i64 o.at0)).setCell ⟨w.heap.size + 1, 2, none⟩ (.int .i64 o.node)).setCell ⟨w.heap.size + 1, 3, none⟩ (.int .i64 o.seed)).setCell ⟨w.heap.size + 1, 4, none⟩ (.int .i64 o.code)) (w.heap.size + 1) 154 #[.slice va vn vc, .int .i64 o.at0, .int .i64 o.node, .int .i64 o.seed, .int .i64 o.code] := blk_put5 q2 _ _ _ _ _
    have BZ : Below w.heap.size w (((((zn.setCell ⟨w.heap.size + 1, 0, none⟩ (.slice va vn vc)).setCell ⟨w.heap.size + 1, 1, none⟩ (.int .i64 o.at0)).setCell ⟨w.heap.size + 1, 2, none⟩ (.int .i64 o.node)).setCell ⟨w.heap.size + 1, 3, none⟩ (.int .i64 o.seed)).setCell ⟨w.heap.size + 1, 4, none⟩ (.int .i64 o.code)) := (((((B2.setCell (p := ⟨w.heap.size + 1, 0, none⟩) (by dsimp only; omega) (.slice va vn vc)).setCell (p := ⟨w.heap.size + 1, 1, none⟩) (by dsimp only; omega) (.int .i64 o.at0)).setCell (p := ⟨w.heap.size + 1, 2, none⟩) (by dsimp only; omega) (.int .i64 o.node)).setCell (p := ⟨w.heap.size + 1, 3, none⟩) (by dsimp only; omega) (.int .i64 o.seed)).setCell (p := ⟨w.heap.size + 1, 4, none⟩) (by dsimp only; omega) (.int .i64 o.code))
    have KZ : Keeps (fun k => k ≠ w.heap.size + 1) zn (((((zn.setCell ⟨w.heap.size + 1, 0, none⟩ (.slice va vn vc)).setCell ⟨w.heap.size + 1, 1, none⟩ (.int .i64 o.at0)).setCell ⟨w.heap.size + 1, 2, none⟩ (.int .i64 o.node)).setCell ⟨w.heap.size + 1, 3, none⟩ (.int .i64 o.seed)).setCell ⟨w.heap.size + 1, 4, none⟩ (.int .i64 o.code)) := keeps_five _ _ _ _ _ _ _
    have own4 := rowKeep own3 KZ hge
    go_wp2
    obtain ⟨Z, hZ⟩ : ∃ Z, (((((zn.setCell ⟨w.heap.size + 1, 0, none⟩ (.slice va vn vc)).setCell ⟨w.heap.size + 1, 1, none⟩ (.int .i64 o.at0)).setCell ⟨w.heap.size + 1, 2, none⟩ (.int .i64 o.node)).setCell ⟨w.heap.size + 1, 3, none⟩ (.int .i64 o.seed)).setCell ⟨w.heap.size + 1, 4, none⟩ (.int .i64 o.code)) = Z := ⟨_, rfl⟩
    rw [hZ] at RZ BZ KZ own4 ⊢
    clear hZ g0 z0 g1 z1 g2 z2 g3 z3 g4 z4
    have h0 : Z.cell? ⟨w.heap.size + 1, 0, none⟩ = some (.slice va vn vc) := RZ.cell 0
    have h1 : Z.cell? ⟨w.heap.size + 1, 1, none⟩ = some (.int .i64 o.at0) := RZ.cell 1
    have h2 : Z.cell? ⟨w.heap.size + 1, 2, none⟩ = some (.int .i64 o.node) := RZ.cell 2
    have h3 : Z.cell? ⟨w.heap.size + 1, 3, none⟩ = some (.int .i64 o.seed) := RZ.cell 3
    have h4 : Z.cell? ⟨w.heap.size + 1, 4, none⟩ = some (.int .i64 o.code) := RZ.cell 4
    exact bodyPost_ret (v := .agg #[.slice va vn vc, .int .i64 o.at0, .int .i64 o.node, .int .i64 o.seed, .int .i64 o.code]) (by simp [results, Tryz.results132, go_sem, h0, h1, h2, h3, h4]) rfl ⟨_, rfl, own4, BZ⟩
  have hplt : p < l.length - at1 ∧ o = ⟨l, ((at1 + p : Nat) : Int) + 1, l.getD (at1 + p) 0, seed, 0⟩ := by
    rcases HO.out with h | ⟨h, _⟩
    · exact h
    · exact absurd h hp
  obtain ⟨hpl, ho⟩ := hplt
  subst ho
  obtain ⟨b, off, ha, hbl, hcell⟩ := hrow.addrN (by omega)
  subst ha
  have hra : ra = some ⟨b, off + at1, none⟩ := by
    rw [← HRA.out]
    unfold rowA
    rw [if_neg (by omega)]
    by_cases e0 : at1 = 0 <;> simp [Addr.add, e0]
  subst hra
  have hpb : ((p : Int) == ((l.length - at1 : Nat) : Int)) = false := beq_eq_false_iff_ne.2 (by omega)
  have hpI : (p : Int) < ((l.length - at1 : Nat) : Int) := by omega
  have hw1 : IntKind.i64.wrap ((at1 : Int) + (p : Int)) = (at1 : Int) + (p : Int) := by rw [IntKind.wrap_i64]; omega
  have hw2 : IntKind.i64.wrap ((at1 : Int) + (p : Int) + 1) = (at1 : Int) + (p : Int) + 1 := by rw [IntKind.wrap_i64]; omega
  clear HO HP HRA rr hp HA s1
  obtain ⟨x, hx⟩ : ∃ x, l.getD (at1 + p) 0 = x := ⟨_, rfl⟩
  have hax : ((at1 + p : Nat) : Int) + 1 = (at1 : Int) + (p : Int) + 1 := by omega
  have HX : Hid (l.getD (at1 + p) 0 = x) := hx
  have HAX : Hid (((at1 + p : Nat) : Int) + 1 = (at1 : Int) + (p : Int) + 1) := hax
  have ck : z.cell? ⟨b, off + at1 + p, none⟩ = some (.int .i64 x) := by
    have := hcell (at1 + p) (by omega)
    rw [← getD_at (by omega), hx, ← Nat.add_assoc] at this
    exact (B1.cell (p := ⟨b, off + at1 + p, none⟩) hbl).trans this
  have hbz := Nat.lt_of_lt_of_le hbl B1.size
  clear hx hax hcell
  go_upto_region 8 with fail
  obtain ⟨Y, hY⟩ : ∃ Y, z.drew = Y := ⟨_, rfl⟩
  have pY : BlkIs Y w.heap.size 27 #[.slice (some ⟨b, off, none⟩) l.length cap, .int .i64 (at1 : Int)] := by rw [← hY]; exact p1
  have qY : BlkIs Y (w.heap.size + 1) 154 #[.slice none 0 0, .int .i64 0, .int .i64 0, .int .i64 0, .int .i64 0] := by rw [← hY]; exact q1
  have BY : Below w.heap.size w Y := by rw [← hY]; exact B1.drew
  have rY : NumRow Y (some ⟨b, off, none⟩) l := by rw [← hY]; exact r1.keep (Below.refl _ _).drew
  have cY : Y.cell? ⟨b, off + at1 + p, none⟩ = some (.int .i64 x) := by rw [← hY]; exact ck
  have hbY : b < Y.heap.size := by rw [← hY]; exact hbz
  refine wp_region_held_drew (S := fun w' => Keeps (fun q => q ≠ w.heap.size + 1) Y w') (by kernel_rfl) ?hS0 (fun hHeld => ?_)
  case hS0 => rw [hY]; exact Keeps.refl _ _
  rw [hY] at hHeld ⊢
  clear hY p1 q1 B1 r1 c0 c1 ck hbz
  refine takeG 0 (v := .pointer (some ⟨w.heap.size, 0, none⟩)) rfl (by kernel_rfl) (by kernel_rfl) (by kernel_rfl) (by kernel_rfl) (fun _ _ _ h => h) ?hy (by assumption) ?_
  case hy => (intro w' hSw; go_simp)
  try simp only [List.setIfInBounds_toArray, List.set_cons_zero, List.set_cons_succ]
  refine takeG 1 (v := .slice (some ⟨b, off, none⟩) l.length cap) rfl (by kernel_rfl) (by kernel_rfl) (by kernel_rfl) (by kernel_rfl) (fun _ _ _ h => h) ?hy (by assumption) ?_
  case hy => (intro w' hSw; have s0 := (show w'.cell? ⟨w.heap.size, 0, none⟩ = some (.slice (some ⟨b, off, none⟩) l.length cap) from (pY.keepK hSw (by omega)).cell 0); (try dsimp only at s0); go_simp)
  try simp only [List.setIfInBounds_toArray, List.set_cons_zero, List.set_cons_succ]
  refine takeG 3 (v := .pointer (some ⟨w.heap.size, 1, none⟩)) rfl (by kernel_rfl) (by kernel_rfl) (by kernel_rfl) (by kernel_rfl) (fun _ _ _ h => h) ?hy (by assumption) ?_
  case hy => (intro w' hSw; go_simp)
  try simp only [List.setIfInBounds_toArray, List.set_cons_zero, List.set_cons_succ]
  refine takeG 4 (v := .int .i64 (at1 : Int)) rfl (by kernel_rfl) (by kernel_rfl) (by kernel_rfl) (by kernel_rfl) (fun _ _ _ h => h) ?hy (by assumption) ?_
  case hy => (intro w' hSw; have s0 := (show w'.cell? ⟨w.heap.size, 1, none⟩ = some (.int .i64 (at1 : Int)) from (pY.keepK hSw (by omega)).cell 1); (try dsimp only at s0); go_simp)
  try simp only [List.setIfInBounds_toArray, List.set_cons_zero, List.set_cons_succ]
  refine takeG 5 (v := .int .i64 (p : Int)) rfl (by kernel_rfl) (by kernel_rfl) (by kernel_rfl) (by kernel_rfl) (fun _ _ _ h => h) ?hy (by assumption) ?_
  case hy => (intro w' hSw; go_simp)
  try simp only [List.setIfInBounds_toArray, List.set_cons_zero, List.set_cons_succ]
  refine takeG 6 (v := .int .i64 ((at1 : Int) + (p : Int))) rfl (by kernel_rfl) (by kernel_rfl) (by kernel_rfl) (by kernel_rfl) (fun _ _ _ h => h) ?hy (by assumption) ?_
  case hy => (intro w' hSw; go_simp)
  try simp only [List.setIfInBounds_toArray, List.set_cons_zero, List.set_cons_succ]
  refine takeG 7 (v := .int .i64 ((at1 : Int) + (p : Int) + 1)) rfl (by kernel_rfl) (by kernel_rfl) (by kernel_rfl) (by kernel_rfl) (fun _ _ _ h => h) ?hy (by assumption) ?_
  case hy => (intro w' hSw; go_simp)
  try simp only [List.setIfInBounds_toArray, List.set_cons_zero, List.set_cons_succ]
  refine takeG 9 (v := .slice (some ⟨b, off + at1, none⟩) (l.length - at1) (l.length - at1)) rfl (by kernel_rfl) (by kernel_rfl) (by kernel_rfl) (by kernel_rfl) (fun _ _ _ h => h) ?hy (by assumption) ?_
  case hy => (intro w' hSw; go_simp)
  try simp only [List.setIfInBounds_toArray, List.set_cons_zero, List.set_cons_succ]
  refine takeG 10 (v := .int .i64 (p : Int)) rfl (by kernel_rfl) (by kernel_rfl) (by kernel_rfl) (by kernel_rfl) (fun _ _ _ h => h) ?hy (by assumption) ?_
  case hy => (intro w' hSw; go_simp)
  try simp only [List.setIfInBounds_toArray, List.set_cons_zero, List.set_cons_succ]
  refine takeG 11 (v := .pointer (some ⟨b, off + at1 + p, none⟩)) rfl (by kernel_rfl) (by kernel_rfl) (by kernel_rfl) (by kernel_rfl) (fun _ _ _ h => h) ?hy (by assumption) ?_
  case hy => (intro w' hSw; go_simp)
  try simp only [List.setIfInBounds_toArray, List.set_cons_zero, List.set_cons_succ]
  refine takeG 12 (v := .int .i64 x) rfl (by kernel_rfl) (by kernel_rfl) (by kernel_rfl) (by kernel_rfl) (fun _ _ _ h => h) ?hy (by assumption) ?_
  case hy => (intro w' hSw; have s0 := (hSw.cell (p := ⟨b, off + at1 + p, none⟩) hbY (show b ≠ w.heap.size + 1 by omega)).trans cY; (try dsimp only at s0); go_simp)
  try simp only [List.setIfInBounds_toArray, List.set_cons_zero, List.set_cons_succ]
  refine takeG 13 (v := .int .i64 seed) rfl (by kernel_rfl) (by kernel_rfl) (by kernel_rfl) (by kernel_rfl) (fun _ _ _ h => h) ?hy (by assumption) ?_
  case hy => (intro w' hSw; go_simp)
  try simp only [List.setIfInBounds_toArray, List.set_cons_zero, List.set_cons_succ]
  refine runG 2 (by kernel_rfl) rfl (by kernel_rfl) ?_
  go_simp
  refine (copied_own (some ⟨b, off, none⟩) cap l _ hl rY).mono ?_
  rintro e x2 ⟨v, rfl, own2, bz⟩
  have S2 : Keeps (fun q => q ≠ w.heap.size + 1) Y x2 := Keeps.ofBelow bz (fun _ hq _ => hq)
  refine ⟨S2, ?_⟩
  try simp only [Act.put, List.setIfInBounds_toArray, List.set_cons_zero, List.set_cons_succ]
  obtain ⟨va, vn, vc, rfl⟩ : ∃ a n c, v = .slice a n c := by
    rcases own2.2 with ⟨e, _⟩ | ⟨g, cap, cur, e, _⟩
    · exact ⟨_, _, _, e⟩
    · exact ⟨_, _, _, e⟩
  refine takeG 8 (v := .agg #[.slice va vn vc, .int .i64 ((at1 : Int) + (p : Int) + 1)]) rfl (by kernel_rfl) (by kernel_rfl) (by kernel_rfl) (by kernel_rfl) (fun _ _ _ h => h) ?hy (by assumption) ?_
  case hy => (intro w' hSw; go_simp)
  try simp only [List.setIfInBounds_toArray, List.set_cons_zero, List.set_cons_succ]
  refine takeG 14 (v := .agg #[.slice va vn vc, .int .i64 ((at1 : Int) + (p : Int) + 1), .int .i64 x, .int .i64 seed, .int .i64 0]) rfl (by kernel_rfl) (by kernel_rfl) (by kernel_rfl) (by kernel_rfl) (fun _ _ _ h => h) ?hy (by assumption) ?_
  case hy => (intro w' hSw; go_simp)
  try simp only [List.setIfInBounds_toArray, List.set_cons_zero, List.set_cons_succ]
  have Q2 := qY.keep bz
  have B2 : Below w.heap.size w x2 := BY.trans (bz.mono BY.size)
  have hqY := qY.lt
  have hge : ∀ g, Value.ownBlock (.slice va vn vc) = some g → g ≠ w.heap.size + 1 := fun g hg => by have := (own2.lt g hg).1; omega
  have own3 : x2.ownsRow w.heap.size 2 1 (.slice va vn vc) l.length (numsV l) := rowLeN own2 BY.size
  clear own2
  have g0 : x2.cell? ⟨w.heap.size + 1, 0, none⟩ = some (.slice none 0 0) := Q2.cell 0
  have z0 := Q2.fz 0
  have g1 : x2.cell? ⟨w.heap.size + 1, 1, none⟩ = some (.int .i64 0) := Q2.cell 1
  have z1 := Q2.fz 1
  have g2 : x2.cell? ⟨w.heap.size + 1, 2, none⟩ = some (.int .i64 0) := Q2.cell 2
  have z2 := Q2.fz 2
  have g3 : x2.cell? ⟨w.heap.size + 1, 3, none⟩ = some (.int .i64 0) := Q2.cell 3
  have z3 := Q2.fz 3
  have g4 : x2.cell? ⟨w.heap.size + 1, 4, none⟩ = some (.int .i64 0) := Q2.cell 4
  have z4 := Q2.fz 4
  have RZ : BlkIs (((((x2.setCell ⟨w.heap.size + 1, 0, none⟩ (.slice va vn vc)).setCell ⟨w.heap.size + 1, 1, none⟩ (.int .i64 ((at1 : Int) + (p : Int) + 1))).setCell ⟨w.heap.size + 1, 2, none⟩ (.int .i64 x)).setCell ⟨w.heap.size + 1, 3, none⟩ (.int .i64 seed)).setCell ⟨w.heap.size + 1, 4, none⟩ (.int .i64 0)) (w.heap.size + 1) 154 #[.slice va vn vc, .int .i64 ((at1 : Int) + (p : Int) + 1), .int .i64 x, .int .i64 seed, .int .i64 0] := blk_put5 Q2 _ _ _ _ _
  have BZ : Below w.heap.size w (((((x2.setCell ⟨w.heap.size + 1, 0, none⟩ (.slice va vn vc)).setCell ⟨w.heap.size + 1, 1, none⟩ (.int .i64 ((at1 : Int) + (p : Int) + 1))).setCell ⟨w.heap.size + 1, 2, none⟩ (.int .i64 x)).setCell ⟨w.heap.size + 1, 3, none⟩ (.int .i64 seed)).setCell ⟨w.heap.size + 1, 4, none⟩ (.int .i64 0)) := (((((B2.setCell (p := ⟨w.heap.size + 1, 0, none⟩) (by dsimp only; omega) (.slice va vn vc)).setCell (p := ⟨w.heap.size + 1, 1, none⟩) (by dsimp only; omega) (.int .i64 ((at1 : Int) + (p : Int) + 1))).setCell (p := ⟨w.heap.size + 1, 2, none⟩) (by dsimp only; omega) (.int .i64 x)).setCell (p := ⟨w.heap.size + 1, 3, none⟩) (by dsimp only; omega) (.int .i64 seed)).setCell (p := ⟨w.heap.size + 1, 4, none⟩) (by dsimp only; omega) (.int .i64 0))
  have KZ : Keeps (fun k => k ≠ w.heap.size + 1) x2 (((((x2.setCell ⟨w.heap.size + 1, 0, none⟩ (.slice va vn vc)).setCell ⟨w.heap.size + 1, 1, none⟩ (.int .i64 ((at1 : Int) + (p : Int) + 1))).setCell ⟨w.heap.size + 1, 2, none⟩ (.int .i64 x)).setCell ⟨w.heap.size + 1, 3, none⟩ (.int .i64 seed)).setCell ⟨w.heap.size + 1, 4, none⟩ (.int .i64 0)) := keeps_five _ _ _ _ _ _ _
  refine oneH 15 (by kernel_rfl) (storeH rfl (w' := (((((x2.setCell ⟨w.heap.size + 1, 0, none⟩ (.slice va vn vc)).setCell ⟨w.heap.size + 1, 1, none⟩ (.int .i64 ((at1 : Int) + (p : Int) + 1))).setCell ⟨w.heap.size + 1, 2, none⟩ (.int .i64 x)).setCell ⟨w.heap.size + 1, 3, none⟩ (.int .i64 seed)).setCell ⟨w.heap.size + 1, 4, none⟩ (.int .i64 0))) (nx := .skip) (by go_simp) (.inl rfl) (S2.trans KZ) ?_)
  try simp only [Act.put, List.setIfInBounds_toArray, List.set_cons_zero, List.set_cons_succ]
  refine wpAnyH_done (by kernel_rfl) ?_ _
  have own4 := rowKeep own3 KZ hge
  obtain ⟨Z, hZ⟩ : ∃ Z, (((((x2.setCell ⟨w.heap.size + 1, 0, none⟩ (.slice va vn vc)).setCell ⟨w.heap.size + 1, 1, none⟩ (.int .i64 ((at1 : Int) + (p : Int) + 1))).setCell ⟨w.heap.size + 1, 2, none⟩ (.int .i64 x)).setCell ⟨w.heap.size + 1, 3, none⟩ (.int .i64 seed)).setCell ⟨w.heap.size + 1, 4, none⟩ (.int .i64 0)) = Z := ⟨_, rfl⟩
  rw [hZ] at RZ BZ own4 ⊢
  clear hZ g0 z0 g1 z1 g2 z2 g3 z3 g4 z4 KZ own3
  go_wp2
  have h0 : Z.cell? ⟨w.heap.size + 1, 0, none⟩ = some (.slice va vn vc) := RZ.cell 0
  have h1 : Z.cell? ⟨w.heap.size + 1, 1, none⟩ = some (.int .i64 ((at1 : Int) + (p : Int) + 1)) := RZ.cell 1
  have h2 : Z.cell? ⟨w.heap.size + 1, 2, none⟩ = some (.int .i64 x) := RZ.cell 2
  have h3 : Z.cell? ⟨w.heap.size + 1, 3, none⟩ = some (.int .i64 seed) := RZ.cell 3
  have h4 : Z.cell? ⟨w.heap.size + 1, 4, none⟩ = some (.int .i64 0) := RZ.cell 4
  exact bodyPost_ret (v := .agg #[.slice va vn vc, .int .i64 ((at1 : Int) + (p : Int) + 1), .int .i64 x, .int .i64 seed, .int .i64 0]) (by simp [results, Tryz.results132, go_sem, h0, h1, h2, h3, h4]) rfl ⟨_, (by dsimp only; rw [HX.out, HAX.out]), own4, BZ⟩
end Go.Proofs.YtmdcankfjmkkeaaGreat
