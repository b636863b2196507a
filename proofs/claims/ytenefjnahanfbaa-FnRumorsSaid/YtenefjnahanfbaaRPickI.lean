/- The contract of the program's RumorPick. -/
import Derived.Test.YtenefjnahanfbaaRFacts
import Derived.Test.YtenefjnahanfbaaRTold
namespace Go.Proofs.Ytenefjnahanfbaa
open Go Go.RowKit
set_option linter.unusedVariables false
set_option linter.unusedSimpArgs false

set_option maxHeartbeats 4000000 in
set_option maxRecDepth 100000 in
theorem implRPick_any (a : Option Addr) (cap : Nat) (l : List RumV) (but : Int) (c : Int) (m : List RumV) (fs : List FactV) (w : World) (hP : PickRIs l but c m fs) (hl : l.length ≤ 1048576) (hrow : CellRow w a (cellsOf RumV.cells l)) :
    Calls Try.prog 10 #[.slice a l.length cap, .int .i64 but] w (ROutPost c m fs w) := by
  obtain ⟨fc, hfc⟩ := faultR_ex l
  have HC : Hid (FaultR l fc) := hfc
  clear hfc
  have HP : Hid (PickRIs l but c m fs) := hP
  have q0 := BlkIs.new w 30 #[.slice none 0 0, .slice none 0 0, .int .i64 0]
  have B0 : Below w.heap.size w (w.alloc (.cells #[.slice none 0 0, .slice none 0 0, .int .i64 0] 30)) := (Below.refl _ _).alloc (Nat.le_refl _) _
  have r0 := hrow.keep B0
  obtain ⟨W, hW⟩ : ∃ W, w.alloc (.cells #[.slice none 0 0, .slice none 0 0, .int .i64 0] 30) = W := ⟨_, rfl⟩
  rw [hW] at q0 B0 r0
  have HW : Hid (_ = W) := hW
  clear hW hP
  go_enter Try.func10, Try.ntmps10
  go_wp2_with fail
  rw [HW.out]
  refine (rumorFault_any a cap l fc _ HC.out hl r0).mono ?_
  rintro e z ⟨rfl, bz⟩
  have q1 := q0.keep bz
  have r1 := r0.keep bz
  have B1 := B0.trans (bz.mono B0.size)
  clear q0 r0 B0 bz HW
  rcases HP.out with ⟨h400, rfl, rfl, rfl⟩ | ⟨h400, hnr, rfl, rfl, rfl⟩ | ⟨hr, rfl, rfl, rfl⟩
  · obtain rfl : fc = 2 := by
      rcases HC.out with ⟨_, h⟩ | ⟨h, _⟩ | ⟨h, _⟩
      · exact h
      · omega
      · have := rightR_len h; omega
    clear HC HP
    have g0 : z.cell? ⟨w.heap.size, 0, none⟩ = some (.slice none 0 0) := q1.cell 0
    have g1 : z.cell? ⟨w.heap.size, 1, none⟩ = some (.slice none 0 0) := q1.cell 1
    have g2 : z.cell? ⟨w.heap.size, 2, none⟩ = some (.int .i64 0) := q1.cell 2
    have z0 := q1.fz 0
    have z1 := q1.fz 1
    have z2 := q1.fz 2
    have RZ : BlkIs (((z.setCell ⟨w.heap.size, 0, none⟩ (.slice none 0 0)).setCell ⟨w.heap.size, 1, none⟩ (.slice none 0 0)).setCell ⟨w.heap.size, 2, none⟩ (.int .i64 2)) (w.heap.size) 30 #[(.slice none 0 0), (.slice none 0 0), .int .i64 2] := blk_put3 q1 _ _ _
    have BZ : Below w.heap.size w (((z.setCell ⟨w.heap.size, 0, none⟩ (.slice none 0 0)).setCell ⟨w.heap.size, 1, none⟩ (.slice none 0 0)).setCell ⟨w.heap.size, 2, none⟩ (.int .i64 2)) := ((B1.setCell (by dsimp only; omega) _).setCell (by dsimp only; omega) _).setCell (by dsimp only; omega) _
    have KZ : Keeps (fun k => k ≠ w.heap.size) z (((z.setCell ⟨w.heap.size, 0, none⟩ (.slice none 0 0)).setCell ⟨w.heap.size, 1, none⟩ (.slice none 0 0)).setCell ⟨w.heap.size, 2, none⟩ (.int .i64 2)) := keeps_three _ _ _ _ _
    go_wp2
    obtain ⟨Z, hZ⟩ : ∃ Z, (((z.setCell ⟨w.heap.size, 0, none⟩ (.slice none 0 0)).setCell ⟨w.heap.size, 1, none⟩ (.slice none 0 0)).setCell ⟨w.heap.size, 2, none⟩ (.int .i64 2)) = Z := ⟨_, rfl⟩
    rw [hZ] at RZ BZ KZ ⊢
    clear hZ g0 g1 g2 z0 z1 z2
    have h0 : Z.cell? ⟨w.heap.size, 0, none⟩ = some (.slice none 0 0) := RZ.cell 0
    have h1 : Z.cell? ⟨w.heap.size, 1, none⟩ = some (.slice none 0 0) := RZ.cell 1
    have h2 : Z.cell? ⟨w.heap.size, 2, none⟩ = some (.int .i64 2) := RZ.cell 2
    exact bodyPost_ret (v := .agg #[(.slice none 0 0), (.slice none 0 0), .int .i64 2]) (by simp [results, Try.results10, go_sem, h0, h1, h2]) rfl ⟨_, _, rfl, ownsNilR _ _, ownsNilF _ _, BZ⟩
  · obtain rfl : fc = 1 := by
      rcases HC.out with ⟨h, _⟩ | ⟨_, _, h⟩ | ⟨h, _⟩
      · omega
      · exact h
      · exact absurd h hnr
    clear HC HP
    have g0 : z.cell? ⟨w.heap.size, 0, none⟩ = some (.slice none 0 0) := q1.cell 0
    have g1 : z.cell? ⟨w.heap.size, 1, none⟩ = some (.slice none 0 0) := q1.cell 1
    have g2 : z.cell? ⟨w.heap.size, 2, none⟩ = some (.int .i64 0) := q1.cell 2
    have z0 := q1.fz 0
    have z1 := q1.fz 1
    have z2 := q1.fz 2
    have RZ : BlkIs (((z.setCell ⟨w.heap.size, 0, none⟩ (.slice none 0 0)).setCell ⟨w.heap.size, 1, none⟩ (.slice none 0 0)).setCell ⟨w.heap.size, 2, none⟩ (.int .i64 1)) (w.heap.size) 30 #[(.slice none 0 0), (.slice none 0 0), .int .i64 1] := blk_put3 q1 _ _ _
    have BZ : Below w.heap.size w (((z.setCell ⟨w.heap.size, 0, none⟩ (.slice none 0 0)).setCell ⟨w.heap.size, 1, none⟩ (.slice none 0 0)).setCell ⟨w.heap.size, 2, none⟩ (.int .i64 1)) := ((B1.setCell (by dsimp only; omega) _).setCell (by dsimp only; omega) _).setCell (by dsimp only; omega) _
    have KZ : Keeps (fun k => k ≠ w.heap.size) z (((z.setCell ⟨w.heap.size, 0, none⟩ (.slice none 0 0)).setCell ⟨w.heap.size, 1, none⟩ (.slice none 0 0)).setCell ⟨w.heap.size, 2, none⟩ (.int .i64 1)) := keeps_three _ _ _ _ _
    go_wp2
    obtain ⟨Z, hZ⟩ : ∃ Z, (((z.setCell ⟨w.heap.size, 0, none⟩ (.slice none 0 0)).setCell ⟨w.heap.size, 1, none⟩ (.slice none 0 0)).setCell ⟨w.heap.size, 2, none⟩ (.int .i64 1)) = Z := ⟨_, rfl⟩
    rw [hZ] at RZ BZ KZ ⊢
    clear hZ g0 g1 g2 z0 z1 z2
    have h0 : Z.cell? ⟨w.heap.size, 0, none⟩ = some (.slice none 0 0) := RZ.cell 0
    have h1 : Z.cell? ⟨w.heap.size, 1, none⟩ = some (.slice none 0 0) := RZ.cell 1
    have h2 : Z.cell? ⟨w.heap.size, 2, none⟩ = some (.int .i64 1) := RZ.cell 2
    exact bodyPost_ret (v := .agg #[(.slice none 0 0), (.slice none 0 0), .int .i64 1]) (by simp [results, Try.results10, go_sem, h0, h1, h2]) rfl ⟨_, _, rfl, ownsNilR _ _, ownsNilF _ _, BZ⟩
  · obtain rfl : fc = 0 := by
      rcases HC.out with ⟨h, _⟩ | ⟨_, h, _⟩ | ⟨_, h⟩
      · have := rightR_len hr; omega
      · exact absurd hr h
      · exact h
    have HR : Hid (rightR l) := hr
    have hl6 := rightR_len hr
    clear HC HP hr
    go_wp2_with fail
    refine (rumorsBut_any a cap l but _ hl r1).mono ?_
    rintro e y ⟨v, rfl, ov, by2⟩
    have q2 := q1.keep by2
    have r2 := r1.keep by2
    have B2 := B1.trans (by2.mono B1.size)
    have hz := B1.size
    have hzq := q1.lt
    clear q1 r1 B1
    have bA : Below y.heap.size y (y.alloc (.cells #[v] 62)) := (Below.refl _ _).alloc (Nat.le_refl _) _
    have pA := BlkIs.new y 62 #[v]
    have ov2 := rowBelow ov bA
    have q3 := q2.keep bA
    have r3 := r2.keep bA
    have B3 := B2.trans (bA.mono B2.size)
    obtain ⟨va, vn, vc, rfl⟩ := rowShape ov
    obtain ⟨X, hX⟩ : ∃ X, y.alloc (.cells #[.slice va vn vc] 62) = X := ⟨_, rfl⟩
    rw [hX] at pA ov2 q3 r3 B3
    have HX : Hid (_ = X) := hX
    have hyz := by2.size
    have hXs : z.heap.size ≤ X.heap.size := by have := pA.lt; omega
    clear hX bA q2 r2 B2 by2
    go_wp2_with fail
    rw [HX.out]
    refine (factsBy_any y.heap.size z.heap.size (.slice va vn vc) (butR l but) _ (butR_right HR.out but) pA ov2 hXs).mono ?_
    rintro e x ⟨u, rfl, ou, Kx⟩
    have hvge : ∀ g, Value.ownBlock (.slice va vn vc) = some g → z.heap.size ≤ g := fun g hg => (ov.lt g hg).1
    have KB : Below w.heap.size X x := Kx.toBelow B3.size (fun k hk => ⟨by omega, fun e => by have := hvge k e; omega⟩)
    have B4 := B3.trans KB
    have q4 := q3.keepK Kx ⟨by omega, fun e => by have := hvge _ e; omega⟩
    have r4 := hrow.keep B4
    obtain ⟨ua, ucap, hu, ru⟩ := OwnsRow.cellRow ou
    subst hu
    clear Kx q3 r3 B3 KB pA ov2 ov HX hvge
    go_wp2_with fail
    refine (told_any a cap l ua ucap (pickedR l but) _ HR.out (picked_right HR.out but) (fun q hq => (butR_sub l but).subset (picksR_mem q hq)) r4 ru).mono ?_
    rintro e t ⟨v2, rfl, ov2, bt⟩
    have q5 := q4.keep bt
    have B5 := B4.trans (bt.mono B4.size)
    have ou2 := rowBelow ou bt
    obtain ⟨ta, tn, tc, rfl⟩ := rowShape ov2
    have hgT : ∀ g, Value.ownBlock (.slice ta tn tc) = some g → g ≠ w.heap.size := fun g hg => by have := (ov2.lt g hg).1; have := q4.lt; omega
    have hgU : ∀ g, Value.ownBlock (.slice ua (factsR (picksR 3 (butR l but))).length ucap) = some g → g ≠ w.heap.size := fun g hg => by have := (ou.lt g hg).1; omega
    have ov3 := rowLe ov2 B4.size
    have hXw : w.heap.size ≤ X.heap.size := by omega
    have ou3 := rowLe ou2 hXw
    clear q4 r4 B4 ru ou bt ov2 ou2
    have HL : Hid ((factsR (picksR 3 (butR l but))).length = (factsR (pickedR l but)).length) := rfl
    obtain ⟨un, hun⟩ : ∃ un, (factsR (picksR 3 (butR l but))).length = un := ⟨_, rfl⟩
    rw [hun] at hgU ⊢
    have ou4 : t.ownsRow w.heap.size 25 3 (.slice ua un ucap) (factsR (pickedR l but)).length (cellsOf FactV.cells (factsR (pickedR l but))) := by rw [← hun]; exact ou3
    clear ou3 hun HL
    have g0 : t.cell? ⟨w.heap.size, 0, none⟩ = some (.slice none 0 0) := q5.cell 0
    have g1 : t.cell? ⟨w.heap.size, 1, none⟩ = some (.slice none 0 0) := q5.cell 1
    have g2 : t.cell? ⟨w.heap.size, 2, none⟩ = some (.int .i64 0) := q5.cell 2
    have z0 := q5.fz 0
    have z1 := q5.fz 1
    have z2 := q5.fz 2
    have RZ : BlkIs (((t.setCell ⟨w.heap.size, 0, none⟩ (.slice ta tn tc)).setCell ⟨w.heap.size, 1, none⟩ (.slice ua un ucap)).setCell ⟨w.heap.size, 2, none⟩ (.int .i64 0)) (w.heap.size) 30 #[(.slice ta tn tc), (.slice ua un ucap), .int .i64 0] := blk_put3 q5 _ _ _
    have BZ : Below w.heap.size w (((t.setCell ⟨w.heap.size, 0, none⟩ (.slice ta tn tc)).setCell ⟨w.heap.size, 1, none⟩ (.slice ua un ucap)).setCell ⟨w.heap.size, 2, none⟩ (.int .i64 0)) := ((B5.setCell (by dsimp only; omega) _).setCell (by dsimp only; omega) _).setCell (by dsimp only; omega) _
    have KZ : Keeps (fun k => k ≠ w.heap.size) t (((t.setCell ⟨w.heap.size, 0, none⟩ (.slice ta tn tc)).setCell ⟨w.heap.size, 1, none⟩ (.slice ua un ucap)).setCell ⟨w.heap.size, 2, none⟩ (.int .i64 0)) := keeps_three _ _ _ _ _
    go_wp2
    obtain ⟨Z, hZ⟩ : ∃ Z, (((t.setCell ⟨w.heap.size, 0, none⟩ (.slice ta tn tc)).setCell ⟨w.heap.size, 1, none⟩ (.slice ua un ucap)).setCell ⟨w.heap.size, 2, none⟩ (.int .i64 0)) = Z := ⟨_, rfl⟩
    rw [hZ] at RZ BZ KZ ⊢
    clear hZ g0 g1 g2 z0 z1 z2
    have h0 : Z.cell? ⟨w.heap.size, 0, none⟩ = some (.slice ta tn tc) := RZ.cell 0
    have h1 : Z.cell? ⟨w.heap.size, 1, none⟩ = some (.slice ua un ucap) := RZ.cell 1
    have h2 : Z.cell? ⟨w.heap.size, 2, none⟩ = some (.int .i64 0) := RZ.cell 2
    exact bodyPost_ret (v := .agg #[(.slice ta tn tc), (.slice ua un ucap), .int .i64 0]) (by simp [results, Try.results10, go_sem, h0, h1, h2]) rfl ⟨_, _, rfl, rowKeep ov3 KZ (fun g hg => hgT g hg), rowKeep ou4 KZ (fun g hg => hgU g hg), BZ⟩
end Go.Proofs.Ytenefjnahanfbaa
