/- The contract of promise 8's draw: a turn, nodes and a seed. -/
import Derived.Test.YtpjmhaegdnahmaaTDrawB
namespace Go.Proofs.Ytpjmhaegdnahmaa
open Go Go.RowKit
set_option linter.unusedVariables false
set_option linter.unusedSimpArgs false

set_option maxHeartbeats 4000000 in
set_option maxRecDepth 100000 in
theorem drawTNext_any (a : Option Addr) (len cap : Nat) (zs : List Int) (w : World) (hl : len ≤ 1048576) (hrow : ByteRow w a len cap zs) :
    Calls Try.prog 7 #[.slice a len cap] w fun e w' =>
      ∃ (v1 : Value) (l : List Int) (at0 : Int) (v2 : Value) (nl : List Int) (n : Int), e = .returned (.tuple #[turnV v1 at0, v2, .int .i64 n]) ∧ l.length ≤ 7 ∧ w'.ownsRow w.heap.size 2 1 v1 l.length (numsV l) ∧ nl.length ≤ 6 ∧ RowSome w' w.heap.size v2 nl ∧ Below w.heap.size w w' := by
  have b0 := (Below.refl w.heap.size w).alloc (Nat.le_refl _) (.cells #[.slice none 0 0, .int .i64 0] 25)
  have P0 := BlkIs.new w 25 #[.slice none 0 0, .int .i64 0]
  have hrow0 := hrow.below b0
  obtain ⟨W, hW⟩ : ∃ W, w.alloc (.cells #[.slice none 0 0, .int .i64 0] 25) = W := ⟨_, rfl⟩
  rw [hW] at b0 P0 hrow0
  have HW : Hid (_ = W) := hW
  have hWs := P0.lt
  clear hW
  go_enter Try.func7, Try.ntmps7
  go_wp2_with fail
  rw [HW.out]
  clear HW
  refine (source_any a len cap zs _ hl hrow0).mono ?_
  rintro e x1 ⟨rfl, hs1, b1⟩
  replace P0 := P0.keep b1
  have BB := b0.trans (b1.mono b0.size)
  have hsl := hs1.lt
  obtain ⟨bs, hbs0⟩ : ∃ bs, W.heap.size = bs := ⟨_, rfl⟩
  rw [hbs0] at hs1 hsl ⊢
  have hwbs : w.heap.size < bs := by omega
  clear b0 b1 hrow0 hWs hbs0
  go_wp2_with fail
  refine (l07Turn_any bs a len cap zs _ hs1).mono ?_
  rintro e x2 ⟨v1, l, at0, rfl, hl7, OT, hs2, hg⟩
  obtain ⟨ta, tc, rfl, _⟩ := own_nums OT
  replace P0 := P0.grown hg (by omega)
  have hsz12 := hg.size
  replace BB := BB.grown hg BB.size (fun k e => by obtain rfl := Option.some.inj e; omega)
  unfold turnV
  clear hg hs1
  have bA : Below x2.heap.size x2 (x2.alloc (.cells #[.slice ta l.length tc, .int .i64 at0] 25)) := (Below.refl _ _).alloc (Nat.le_refl _) _
  have PT := BlkIs.new x2 25 #[.slice ta l.length tc, .int .i64 at0]
  replace P0 := P0.keep bA
  replace OT := rowBelow OT bA
  have hs3 := hs2.belowT bA
  have hb1w : w.heap.size ≤ x1.heap.size := by omega
  replace BB := BB.trans (bA.mono BB.size)
  obtain ⟨y2, hy2⟩ : ∃ y, x2.alloc (.cells #[.slice ta l.length tc, .int .i64 at0] 25) = y := ⟨_, rfl⟩
  obtain ⟨kt, hkt⟩ : ∃ k, x2.heap.size = k := ⟨_, rfl⟩
  rw [hy2] at PT P0 OT hs3 BB
  rw [hkt] at PT
  have hktx : x1.heap.size ≤ kt := by omega
  have hs1w : w.heap.size ≤ x1.heap.size := hb1w
  have hs2w : w.heap.size ≤ y2.heap.size := BB.size
  have HY : Hid (_ = y2) := hy2
  clear bA hy2 hs2
  go_upto_region 3 with fail
  rw [HY.out]
  clear HY hkt
  go_wp2_with fail
  refine (l07Set_any bs a len cap zs _ hs3).mono ?_
  rintro e x3 ⟨v2, nl, rfl, hnl, rs, hs3', hg⟩
  obtain ⟨_, gn, gc, rfl⟩ := rs
  have rs : RowSome x3 y2.heap.size (.slice (some ⟨gn, 0, none⟩) nl.length gc) nl := ⟨by assumption, _, _, rfl⟩
  have hne1 : kt ≠ bs := by omega
  have hne0 : w.heap.size ≠ bs := by omega
  have hneT : Value.ownBlock (.slice ta l.length tc) ≠ some bs := fun e => by have := (OT.lt bs e).1; omega
  have hbs : bs < y2.heap.size := hs3.lt
  replace PT := PT.grown hg hne1
  replace P0 := P0.grown hg hne0
  replace OT := OT.kept hg (.inr hneT)
  replace BB := BB.grown hg BB.size (fun k e => by obtain rfl := Option.some.inj e; omega)
  clear hg hs3
  go_wp2_with fail
  refine (one_any bs a len cap zs 15 (by omega) _ hs3').mono ?_
  rintro e x4 ⟨r, rfl, hs4, hg⟩
  replace PT := PT.grown hg hne1
  replace P0 := P0.grown hg hne0
  replace OT := OT.kept hg (.inr hneT)
  replace rs := rs.kept hbs hg
  replace BB := BB.grown hg BB.size (fun k e => by obtain rfl := Option.some.inj e; omega)
  clear hg hs3'
  cases r with
  | true =>
    go_upto_region 5 with fail
    obtain ⟨Y, hY⟩ : ∃ Y, x4.drew = Y := ⟨_, rfl⟩
    replace PT : BlkIs Y kt 25 #[.slice ta l.length tc, .int .i64 at0] := by rw [← hY]; exact PT
    replace P0 : BlkIs Y w.heap.size 25 #[.slice none 0 0, .int .i64 0] := by rw [← hY]; exact P0
    replace OT : Y.ownsRow x1.heap.size 2 1 (.slice ta l.length tc) l.length (numsV l) := by rw [← hY]; exact OT
    replace rs : RowSome Y y2.heap.size (.slice (some ⟨gn, 0, none⟩) nl.length gc) nl := by rw [← hY]; exact rs
    replace hs4 : Src Y bs a len cap zs := by rw [← hY]; exact hs4
    replace BB : Below w.heap.size w Y := by rw [← hY]; exact BB.drew
    refine wp_region_held_drew (S := fun q => BlkIs q kt 25 #[.slice ta l.length tc, .int .i64 at0]) (by kernel_rfl) (by rw [hY]; exact PT) (fun hHeld => ?_)
    rw [hY] at hHeld ⊢
    clear hY
    refine takeG 0 (v := .agg #[.slice ta l.length tc, .int .i64 at0]) rfl (by kernel_rfl) (by kernel_rfl) (by kernel_rfl) (by kernel_rfl) (fun _ _ _ h => h) ?hy (by assumption) ?_
    case hy => (intro w' hSw; have s0 := show w'.cell? ⟨kt, 0, none⟩ = some (.slice ta l.length tc) from (show BlkIs w' kt 25 #[.slice ta l.length tc, .int .i64 at0] from hSw).cell 0; (try dsimp only at s0); have s1 := show w'.cell? ⟨kt, 1, none⟩ = some (.int .i64 at0) from (show BlkIs w' kt 25 #[.slice ta l.length tc, .int .i64 at0] from hSw).cell 1; (try dsimp only at s1); go_simp)
    try simp only [List.setIfInBounds_toArray, List.set_cons_zero, List.set_cons_succ]
    refine takeG 1 (v := .slice (some ⟨gn, 0, none⟩) nl.length gc) rfl (by kernel_rfl) (by kernel_rfl) (by kernel_rfl) (by kernel_rfl) (fun _ _ _ h => h) ?hy (by assumption) ?_
    case hy => (intro w' hSw; go_simp)
    try simp only [List.setIfInBounds_toArray, List.set_cons_zero, List.set_cons_succ]
    refine takeG 2 (v := .pointer (some ⟨bs, 0, none⟩)) rfl (by kernel_rfl) (by kernel_rfl) (by kernel_rfl) (by kernel_rfl) (fun _ _ _ h => h) ?hy (by assumption) ?_
    case hy => (intro w' hSw; go_simp)
    try simp only [List.setIfInBounds_toArray, List.set_cons_zero, List.set_cons_succ]
    refine runG 3 (by kernel_rfl) rfl (by kernel_rfl) ?_
    go_simp
    refine (edge_any _ a len cap zs _ hs4).mono ?_
    rintro e x5 ⟨n, rfl, _, hs5, hg⟩
    have PT5 := PT.grown hg hne1
    have P05 := P0.grown hg hne0
    have OT5 := OT.kept hg (.inr hneT)
    have rs5 := rs.kept hbs hg
    have B5 := BB.grown hg BB.size (fun k e => by obtain rfl := Option.some.inj e; omega)
    clear hg PT P0 OT rs BB hHeld
    refine ⟨PT5, ?_⟩
    try simp only [Act.put, List.setIfInBounds_toArray, List.set_cons_zero, List.set_cons_succ]
    have KZ := keeps_two x5 w.heap.size (.slice ta l.length tc) (.int .i64 at0)
    have RZ := blk_put2 P05 (.slice ta l.length tc) (.int .i64 at0)
    have PTZ := PT5.keepK KZ (by omega)
    have d0 : x5.cell? ⟨w.heap.size, 0, none⟩ = some (.slice none 0 0) := P05.cell 0
    have d1 : x5.cell? ⟨w.heap.size, 1, none⟩ = some (.int .i64 0) := P05.cell 1
    have f0 := P05.fz 0
    have f1 := P05.fz 1
    refine oneH 4 (by kernel_rfl) (storeH rfl (w' := (x5.setCell ⟨w.heap.size, 0, none⟩ (.slice ta l.length tc)).setCell ⟨w.heap.size, 1, none⟩ (.int .i64 at0)) (nx := .skip) (by go_simp) (.inl rfl) PTZ ?_)
    try simp only [List.setIfInBounds_toArray, List.set_cons_zero, List.set_cons_succ]
    refine takeG 5 (v := .slice (some ⟨gn, 0, none⟩) nl.length gc) rfl (by kernel_rfl) (by kernel_rfl) (by kernel_rfl) (by kernel_rfl) (fun _ _ _ h => h) ?hy (by assumption) ?_
    case hy => (intro w' hSw; go_simp)
    try simp only [List.setIfInBounds_toArray, List.set_cons_zero, List.set_cons_succ]
    refine takeG 6 (v := .int .i64 n) rfl (by kernel_rfl) (by kernel_rfl) (by kernel_rfl) (by kernel_rfl) (fun _ _ _ h => h) ?hy (by assumption) ?_
    case hy => (intro w' hSw; go_simp)
    try simp only [List.setIfInBounds_toArray, List.set_cons_zero, List.set_cons_succ]
    refine wpAnyH_done (by kernel_rfl) ?_ _
    have OZ := rowKeep (own_mono OT5 hs1w) KZ (fun g hg e => P05.not_row (by decide) OT5 (by rw [hg, e]))
    have NZ : RowSome ((x5.setCell ⟨w.heap.size, 0, none⟩ (.slice ta l.length tc)).setCell ⟨w.heap.size, 1, none⟩ (.int .i64 at0)) w.heap.size (.slice (some ⟨gn, 0, none⟩) nl.length gc) nl := ⟨rowKeep (own_mono rs5.1 hs2w) KZ (fun g hg e => P05.not_row (by decide) rs5.1 (by rw [hg, e])), rs5.2⟩
    have BZ : Below w.heap.size w ((x5.setCell ⟨w.heap.size, 0, none⟩ (.slice ta l.length tc)).setCell ⟨w.heap.size, 1, none⟩ (.int .i64 at0)) := B5.trans (KZ.toBelow B5.size (fun q hq => by omega))
    obtain ⟨Z, hZ⟩ : ∃ Z, (x5.setCell ⟨w.heap.size, 0, none⟩ (.slice ta l.length tc)).setCell ⟨w.heap.size, 1, none⟩ (.int .i64 at0) = Z := ⟨_, rfl⟩
    rw [hZ] at RZ OZ NZ BZ ⊢
    clear hZ d0 d1 f0 f1 KZ PTZ PT5 P05 OT5 rs5 B5
    go_wp2
    have h0 : Z.cell? ⟨w.heap.size, 0, none⟩ = some (.slice ta l.length tc) := RZ.cell 0
    have h1 : Z.cell? ⟨w.heap.size, 1, none⟩ = some (.int .i64 at0) := RZ.cell 1
    refine bodyPost_ret (v := .tuple #[.agg #[.slice ta l.length tc, .int .i64 at0], .slice (some ⟨gn, 0, none⟩) nl.length gc, .int .i64 n]) (by simp [results, Try.results7, go_sem, h0, h1]) rfl ?_
    exact ⟨_, l, at0, _, nl, n, rfl, hl7, OZ, hnl, NZ, BZ⟩
  | false =>
    go_upto_region 6 with fail
    obtain ⟨Y, hY⟩ : ∃ Y, x4.drew = Y := ⟨_, rfl⟩
    replace PT : BlkIs Y kt 25 #[.slice ta l.length tc, .int .i64 at0] := by rw [← hY]; exact PT
    replace P0 : BlkIs Y w.heap.size 25 #[.slice none 0 0, .int .i64 0] := by rw [← hY]; exact P0
    replace OT : Y.ownsRow x1.heap.size 2 1 (.slice ta l.length tc) l.length (numsV l) := by rw [← hY]; exact OT
    replace rs : RowSome Y y2.heap.size (.slice (some ⟨gn, 0, none⟩) nl.length gc) nl := by rw [← hY]; exact rs
    replace hs4 : Src Y bs a len cap zs := by rw [← hY]; exact hs4
    replace BB : Below w.heap.size w Y := by rw [← hY]; exact BB.drew
    refine wp_region_held_drew (S := fun q => BlkIs q kt 25 #[.slice ta l.length tc, .int .i64 at0]) (by kernel_rfl) (by rw [hY]; exact PT) (fun hHeld => ?_)
    rw [hY] at hHeld ⊢
    clear hY
    refine takeG 0 (v := .agg #[.slice ta l.length tc, .int .i64 at0]) rfl (by kernel_rfl) (by kernel_rfl) (by kernel_rfl) (by kernel_rfl) (fun _ _ _ h => h) ?hy (by assumption) ?_
    case hy => (intro w' hSw; have s0 := show w'.cell? ⟨kt, 0, none⟩ = some (.slice ta l.length tc) from (show BlkIs w' kt 25 #[.slice ta l.length tc, .int .i64 at0] from hSw).cell 0; (try dsimp only at s0); have s1 := show w'.cell? ⟨kt, 1, none⟩ = some (.int .i64 at0) from (show BlkIs w' kt 25 #[.slice ta l.length tc, .int .i64 at0] from hSw).cell 1; (try dsimp only at s1); go_simp)
    try simp only [List.setIfInBounds_toArray, List.set_cons_zero, List.set_cons_succ]
    refine takeG 1 (v := .slice (some ⟨gn, 0, none⟩) nl.length gc) rfl (by kernel_rfl) (by kernel_rfl) (by kernel_rfl) (by kernel_rfl) (fun _ _ _ h => h) ?hy (by assumption) ?_
    case hy => (intro w' hSw; go_simp)
    try simp only [List.setIfInBounds_toArray, List.set_cons_zero, List.set_cons_succ]
    refine takeG 2 (v := .pointer (some ⟨bs, 0, none⟩)) rfl (by kernel_rfl) (by kernel_rfl) (by kernel_rfl) (by kernel_rfl) (fun _ _ _ h => h) ?hy (by assumption) ?_
    case hy => (intro w' hSw; go_simp)
    try simp only [List.setIfInBounds_toArray, List.set_cons_zero, List.set_cons_succ]
    refine runG 3 (by kernel_rfl) rfl (by kernel_rfl) ?_
    go_simp
    refine (n_any _ a len cap zs 256 (by omega) _ hs4).mono ?_
    rintro e x5 ⟨n0, rfl, _, _, hs5, hg⟩
    obtain ⟨n, hn⟩ : ∃ n, IntKind.i64.wrap (n0 * 65537) = n := ⟨_, rfl⟩
    have PT5 := PT.grown hg hne1
    have P05 := P0.grown hg hne0
    have OT5 := OT.kept hg (.inr hneT)
    have rs5 := rs.kept hbs hg
    have B5 := BB.grown hg BB.size (fun k e => by obtain rfl := Option.some.inj e; omega)
    clear hg PT P0 OT rs BB hHeld
    refine ⟨PT5, ?_⟩
    try simp only [Act.put, List.setIfInBounds_toArray, List.set_cons_zero, List.set_cons_succ]
    refine takeG 4 (v := .int .i64 n) rfl (by kernel_rfl) (by kernel_rfl) (by kernel_rfl) (by kernel_rfl) (fun _ _ _ h => h) ?hy (by assumption) ?_
    case hy => (intro w' hSw; go_simp)
    try simp only [List.setIfInBounds_toArray, List.set_cons_zero, List.set_cons_succ]
    clear hn
    have KZ := keeps_two x5 w.heap.size (.slice ta l.length tc) (.int .i64 at0)
    have RZ := blk_put2 P05 (.slice ta l.length tc) (.int .i64 at0)
    have PTZ := PT5.keepK KZ (by omega)
    have d0 : x5.cell? ⟨w.heap.size, 0, none⟩ = some (.slice none 0 0) := P05.cell 0
    have d1 : x5.cell? ⟨w.heap.size, 1, none⟩ = some (.int .i64 0) := P05.cell 1
    have f0 := P05.fz 0
    have f1 := P05.fz 1
    refine oneH 5 (by kernel_rfl) (storeH rfl (w' := (x5.setCell ⟨w.heap.size, 0, none⟩ (.slice ta l.length tc)).setCell ⟨w.heap.size, 1, none⟩ (.int .i64 at0)) (nx := .skip) (by go_simp) (.inl rfl) PTZ ?_)
    try simp only [List.setIfInBounds_toArray, List.set_cons_zero, List.set_cons_succ]
    refine takeG 6 (v := .slice (some ⟨gn, 0, none⟩) nl.length gc) rfl (by kernel_rfl) (by kernel_rfl) (by kernel_rfl) (by kernel_rfl) (fun _ _ _ h => h) ?hy (by assumption) ?_
    case hy => (intro w' hSw; go_simp)
    try simp only [List.setIfInBounds_toArray, List.set_cons_zero, List.set_cons_succ]
    refine takeG 7 (v := .int .i64 n) rfl (by kernel_rfl) (by kernel_rfl) (by kernel_rfl) (by kernel_rfl) (fun _ _ _ h => h) ?hy (by assumption) ?_
    case hy => (intro w' hSw; go_simp)
    try simp only [List.setIfInBounds_toArray, List.set_cons_zero, List.set_cons_succ]
    refine wpAnyH_done (by kernel_rfl) ?_ _
    have OZ := rowKeep (own_mono OT5 hs1w) KZ (fun g hg e => P05.not_row (by decide) OT5 (by rw [hg, e]))
    have NZ : RowSome ((x5.setCell ⟨w.heap.size, 0, none⟩ (.slice ta l.length tc)).setCell ⟨w.heap.size, 1, none⟩ (.int .i64 at0)) w.heap.size (.slice (some ⟨gn, 0, none⟩) nl.length gc) nl := ⟨rowKeep (own_mono rs5.1 hs2w) KZ (fun g hg e => P05.not_row (by decide) rs5.1 (by rw [hg, e])), rs5.2⟩
    have BZ : Below w.heap.size w ((x5.setCell ⟨w.heap.size, 0, none⟩ (.slice ta l.length tc)).setCell ⟨w.heap.size, 1, none⟩ (.int .i64 at0)) := B5.trans (KZ.toBelow B5.size (fun q hq => by omega))
    obtain ⟨Z, hZ⟩ : ∃ Z, (x5.setCell ⟨w.heap.size, 0, none⟩ (.slice ta l.length tc)).setCell ⟨w.heap.size, 1, none⟩ (.int .i64 at0) = Z := ⟨_, rfl⟩
    rw [hZ] at RZ OZ NZ BZ ⊢
    clear hZ d0 d1 f0 f1 KZ PTZ PT5 P05 OT5 rs5 B5
    go_wp2
    have h0 : Z.cell? ⟨w.heap.size, 0, none⟩ = some (.slice ta l.length tc) := RZ.cell 0
    have h1 : Z.cell? ⟨w.heap.size, 1, none⟩ = some (.int .i64 at0) := RZ.cell 1
    refine bodyPost_ret (v := .tuple #[.agg #[.slice ta l.length tc, .int .i64 at0], .slice (some ⟨gn, 0, none⟩) nl.length gc, .int .i64 n]) (by simp [results, Try.results7, go_sem, h0, h1]) rfl ?_
    exact ⟨_, l, at0, _, nl, n, rfl, hl7, OZ, hnl, NZ, BZ⟩
end Go.Proofs.Ytpjmhaegdnahmaa
