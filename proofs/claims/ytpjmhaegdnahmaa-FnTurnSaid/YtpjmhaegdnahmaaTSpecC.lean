/- The contracts of the specification's TurnNext and Some. -/
import Derived.Test.YtpjmhaegdnahmaaTSpecB
namespace Go.Proofs.Ytpjmhaegdnahmaa
open Go Go.RowKit
set_option linter.unusedVariables false
set_option linter.unusedSimpArgs false

set_option maxHeartbeats 4000000 in
set_option maxRecDepth 100000 in
theorem specTNext_any (a : Option Addr) (cap : Nat) (t : TurnV) (a1 : Option Addr) (cap1 : Nat) (nodes : List Int) (seed : Int) (o : TOutV) (w : World) (h : TNextIs t nodes seed o) (hl : t.list.length ≤ 1048576) (hl1 : nodes.length ≤ 1048576) (hcap : t.list.length ≤ cap) (hcap1 : nodes.length ≤ cap1) (hc1 : a1 = none → cap1 = 0) (hrow : NumRow w a t.list) (hrow1 : NumRow w a1 nodes) :
    Calls Try.prog 13 #[turnV (.slice a t.list.length cap) t.at0, .slice a1 nodes.length cap1, .int .i64 seed] w (TOutPost o w) := by
  obtain ⟨x1, hx1⟩ := tells_bool t.ok
  obtain ⟨x2, hx2⟩ := tells_bool (nodesT nodes)
  have HX1 : Hid (x1 = true ↔ t.ok) := hx1
  have HX2 : Hid (x2 = true ↔ nodesT nodes) := hx2
  have HH : Hid (TNextIs t nodes seed o) := h
  have HBAD : Hid (¬ (t.ok ∧ askT nodes seed) → nodes.length ≤ 400 → o = ⟨[], 0, 0, 0, 1⟩) := fun hb h4 => by
    rcases h with ⟨h1, _⟩ | ⟨_, _, e⟩ | ⟨h1, h2, _⟩ | ⟨h1, h2, _⟩ | ⟨h1, h2, _⟩
    · omega
    · exact e
    · exact absurd ⟨h1, h2⟩ hb
    · exact absurd ⟨h1, h2⟩ hb
    · exact absurd ⟨h1, h2⟩ hb
  have HBIG : Hid (400 < nodes.length → o = ⟨[], 0, 0, 0, 2⟩) := fun hb => by
    rcases h with ⟨_, e⟩ | ⟨h1, _⟩ | ⟨_, h2, _⟩ | ⟨_, h2, _⟩ | ⟨_, h2, _⟩
    · exact e
    · omega
    · have := nodesT_len h2.1; omega
    · have := nodesT_len h2.1; omega
    · have := nodesT_len h2.1; omega
  clear h hx1 hx2
  obtain ⟨l, at0⟩ := t
  dsimp only at hl hcap hrow ⊢
  unfold turnV
  have p0 := (BlkIs.new w 25 #[.slice a l.length cap, .int .i64 at0]).keep ((Below.refl _ _).alloc (Nat.le_refl _) (.cells #[.slice none 0 0, .int .i64 0, .int .i64 0, .int .i64 0, .int .i64 0] 29))
  have q0 := BlkIs.new (w.alloc (.cells #[.slice a l.length cap, .int .i64 at0] 25)) 29 #[.slice none 0 0, .int .i64 0, .int .i64 0, .int .i64 0, .int .i64 0]
  rw [World.size_alloc] at q0
  have B0 : Below w.heap.size w ((w.alloc (.cells #[.slice a l.length cap, .int .i64 at0] 25)).alloc (.cells #[.slice none 0 0, .int .i64 0, .int .i64 0, .int .i64 0, .int .i64 0] 29)) := ((Below.refl _ _).alloc (Nat.le_refl _) _).alloc (by simp) _
  have r0 := hrow.keep B0
  have s0 := hrow1.keep B0
  obtain ⟨W, hW⟩ : ∃ W, (w.alloc (.cells #[.slice a l.length cap, .int .i64 at0] 25)).alloc (.cells #[.slice none 0 0, .int .i64 0, .int .i64 0, .int .i64 0, .int .i64 0] 29) = W := ⟨_, rfl⟩
  rw [hW] at p0 q0 B0 r0 s0
  have HW : Hid (_ = W) := hW
  clear hW
  have hqs := q0.lt
  go_enter Try.func13, Try.ntmps13
  go_upto_region 1 with fail
  rw [HW.out]
  clear HW
  by_cases h400 : (400 : Int) < (nodes.length : Int)
  · obtain rfl : o = ⟨[], 0, 0, 0, 2⟩ := HBIG.out (by omega)
    clear HBAD HBIG HH
    have g0 : W.cell? ⟨w.heap.size + 1, 0, none⟩ = some (.slice none 0 0) := q0.cell 0
    have z0 := q0.fz 0
    have g1 : W.cell? ⟨w.heap.size + 1, 1, none⟩ = some (.int .i64 0) := q0.cell 1
    have z1 := q0.fz 1
    have g2 : W.cell? ⟨w.heap.size + 1, 2, none⟩ = some (.int .i64 0) := q0.cell 2
    have z2 := q0.fz 2
    have g3 : W.cell? ⟨w.heap.size + 1, 3, none⟩ = some (.int .i64 0) := q0.cell 3
    have z3 := q0.fz 3
    have g4 : W.cell? ⟨w.heap.size + 1, 4, none⟩ = some (.int .i64 0) := q0.cell 4
    have z4 := q0.fz 4
    have RZ : BlkIs (((((W.setCell ⟨w.heap.size + 1, 0, none⟩ (.slice none 0 0)).setCell ⟨w.heap.size + 1, 1, none⟩ (.int .i64 0)).setCell ⟨w.heap.size + 1, 2, none⟩ (.int .i64 0)).setCell ⟨w.heap.size + 1, 3, none⟩ (.int .i64 0)).setCell ⟨w.heap.size + 1, 4, none⟩ (.int .i64 2)) (w.heap.size + 1) 29 #[.slice none 0 0, .int .i64 0, .int .i64 0, .int .i64 0, .int .i64 2] := blk_put5 q0 _ _ _ _ _
    have BZ : Below w.heap.size w (((((W.setCell ⟨w.heap.size + 1, 0, none⟩ (.slice none 0 0)).setCell ⟨w.heap.size + 1, 1, none⟩ (.int .i64 0)).setCell ⟨w.heap.size + 1, 2, none⟩ (.int .i64 0)).setCell ⟨w.heap.size + 1, 3, none⟩ (.int .i64 0)).setCell ⟨w.heap.size + 1, 4, none⟩ (.int .i64 2)) := (((((B0.setCell (p := ⟨w.heap.size + 1, 0, none⟩) (by dsimp only; omega) (.slice none 0 0)).setCell (p := ⟨w.heap.size + 1, 1, none⟩) (by dsimp only; omega) (.int .i64 0)).setCell (p := ⟨w.heap.size + 1, 2, none⟩) (by dsimp only; omega) (.int .i64 0)).setCell (p := ⟨w.heap.size + 1, 3, none⟩) (by dsimp only; omega) (.int .i64 0)).setCell (p := ⟨w.heap.size + 1, 4, none⟩) (by dsimp only; omega) (.int .i64 2))
    have KZ : Keeps (fun k => k ≠ w.heap.size + 1) W (((((W.setCell ⟨w.heap.size + 1, 0, none⟩ (.slice none 0 0)).setCell ⟨w.heap.size + 1, 1, none⟩ (.int .i64 0)).setCell ⟨w.heap.size + 1, 2, none⟩ (.int .i64 0)).setCell ⟨w.heap.size + 1, 3, none⟩ (.int .i64 0)).setCell ⟨w.heap.size + 1, 4, none⟩ (.int .i64 2)) := keeps_five _ _ _ _ _ _ _
    go_wp2
    obtain ⟨Z, hZ⟩ : ∃ Z, (((((W.setCell ⟨w.heap.size + 1, 0, none⟩ (.slice none 0 0)).setCell ⟨w.heap.size + 1, 1, none⟩ (.int .i64 0)).setCell ⟨w.heap.size + 1, 2, none⟩ (.int .i64 0)).setCell ⟨w.heap.size + 1, 3, none⟩ (.int .i64 0)).setCell ⟨w.heap.size + 1, 4, none⟩ (.int .i64 2)) = Z := ⟨_, rfl⟩
    rw [hZ] at RZ BZ KZ ⊢
    clear hZ g0 z0 g1 z1 g2 z2 g3 z3 g4 z4
    have h0 : Z.cell? ⟨w.heap.size + 1, 0, none⟩ = some (.slice none 0 0) := RZ.cell 0
    have h1 : Z.cell? ⟨w.heap.size + 1, 1, none⟩ = some (.int .i64 0) := RZ.cell 1
    have h2 : Z.cell? ⟨w.heap.size + 1, 2, none⟩ = some (.int .i64 0) := RZ.cell 2
    have h3 : Z.cell? ⟨w.heap.size + 1, 3, none⟩ = some (.int .i64 0) := RZ.cell 3
    have h4 : Z.cell? ⟨w.heap.size + 1, 4, none⟩ = some (.int .i64 2) := RZ.cell 4
    exact bodyPost_ret (v := .agg #[.slice none 0 0, .int .i64 0, .int .i64 0, .int .i64 0, .int .i64 2]) (by simp [results, Try.results13, go_sem, h0, h1, h2, h3, h4]) rfl ⟨_, rfl, ⟨rfl, .inl ⟨rfl, rfl⟩⟩, BZ⟩
  have HB4 : Hid (¬ (TurnV.ok ⟨l, at0⟩ ∧ askT nodes seed) → o = ⟨[], 0, 0, 0, 1⟩) := fun hb => HBAD.out hb (by omega)
  clear HBAD HBIG
  have c0 : W.cell? ⟨w.heap.size, 0, none⟩ = some (.slice a l.length cap) := p0.cell 0
  have c1 : W.cell? ⟨w.heap.size, 1, none⟩ = some (.int .i64 at0) := p0.cell 1
  go_wp2_with fail
  refine (specTRight_is a cap ⟨l, at0⟩ _ x1 HX1.out hl hcap r0).mono ?_
  rintro e y1 ⟨rfl, b1⟩
  clear c0 c1
  have p1 := p0.keep b1
  have q1 := q0.keep b1
  have r1 := r0.keep b1
  have s1 := s0.keep b1
  have B1 := B0.trans (b1.mono B0.size)
  clear p0 q0 r0 s0 B0 b1
  cases x1 with
  | false =>
    obtain rfl : o = ⟨[], 0, 0, 0, 1⟩ := HB4.out (fun h => by have := HX1.out.2 h.1; cases this)
    clear HB4 HX1 HX2 HH
    have g0 : y1.cell? ⟨w.heap.size + 1, 0, none⟩ = some (.slice none 0 0) := q1.cell 0
    have z0 := q1.fz 0
    have g1 : y1.cell? ⟨w.heap.size + 1, 1, none⟩ = some (.int .i64 0) := q1.cell 1
    have z1 := q1.fz 1
    have g2 : y1.cell? ⟨w.heap.size + 1, 2, none⟩ = some (.int .i64 0) := q1.cell 2
    have z2 := q1.fz 2
    have g3 : y1.cell? ⟨w.heap.size + 1, 3, none⟩ = some (.int .i64 0) := q1.cell 3
    have z3 := q1.fz 3
    have g4 : y1.cell? ⟨w.heap.size + 1, 4, none⟩ = some (.int .i64 0) := q1.cell 4
    have z4 := q1.fz 4
    have RZ : BlkIs (((((y1.setCell ⟨w.heap.size + 1, 0, none⟩ (.slice none 0 0)).setCell ⟨w.heap.size + 1, 1, none⟩ (.int .i64 0)).setCell ⟨w.heap.size + 1, 2, none⟩ (.int .i64 0)).setCell ⟨w.heap.size + 1, 3, none⟩ (.int .i64 0)).setCell ⟨w.heap.size + 1, 4, none⟩ (.int .i64 1)) (w.heap.size + 1) 29 #[.slice none 0 0, .int .i64 0, .int .i64 0, .int .i64 0, .int .i64 1] := blk_put5 q1 _ _ _ _ _
    have BZ : Below w.heap.size w (((((y1.setCell ⟨w.heap.size + 1, 0, none⟩ (.slice none 0 0)).setCell ⟨w.heap.size + 1, 1, none⟩ (.int .i64 0)).setCell ⟨w.heap.size + 1, 2, none⟩ (.int .i64 0)).setCell ⟨w.heap.size + 1, 3, none⟩ (.int .i64 0)).setCell ⟨w.heap.size + 1, 4, none⟩ (.int .i64 1)) := (((((B1.setCell (p := ⟨w.heap.size + 1, 0, none⟩) (by dsimp only; omega) (.slice none 0 0)).setCell (p := ⟨w.heap.size + 1, 1, none⟩) (by dsimp only; omega) (.int .i64 0)).setCell (p := ⟨w.heap.size + 1, 2, none⟩) (by dsimp only; omega) (.int .i64 0)).setCell (p := ⟨w.heap.size + 1, 3, none⟩) (by dsimp only; omega) (.int .i64 0)).setCell (p := ⟨w.heap.size + 1, 4, none⟩) (by dsimp only; omega) (.int .i64 1))
    have KZ : Keeps (fun k => k ≠ w.heap.size + 1) y1 (((((y1.setCell ⟨w.heap.size + 1, 0, none⟩ (.slice none 0 0)).setCell ⟨w.heap.size + 1, 1, none⟩ (.int .i64 0)).setCell ⟨w.heap.size + 1, 2, none⟩ (.int .i64 0)).setCell ⟨w.heap.size + 1, 3, none⟩ (.int .i64 0)).setCell ⟨w.heap.size + 1, 4, none⟩ (.int .i64 1)) := keeps_five _ _ _ _ _ _ _
    go_wp2
    obtain ⟨Z, hZ⟩ : ∃ Z, (((((y1.setCell ⟨w.heap.size + 1, 0, none⟩ (.slice none 0 0)).setCell ⟨w.heap.size + 1, 1, none⟩ (.int .i64 0)).setCell ⟨w.heap.size + 1, 2, none⟩ (.int .i64 0)).setCell ⟨w.heap.size + 1, 3, none⟩ (.int .i64 0)).setCell ⟨w.heap.size + 1, 4, none⟩ (.int .i64 1)) = Z := ⟨_, rfl⟩
    rw [hZ] at RZ BZ KZ ⊢
    clear hZ g0 z0 g1 z1 g2 z2 g3 z3 g4 z4
    have h0 : Z.cell? ⟨w.heap.size + 1, 0, none⟩ = some (.slice none 0 0) := RZ.cell 0
    have h1 : Z.cell? ⟨w.heap.size + 1, 1, none⟩ = some (.int .i64 0) := RZ.cell 1
    have h2 : Z.cell? ⟨w.heap.size + 1, 2, none⟩ = some (.int .i64 0) := RZ.cell 2
    have h3 : Z.cell? ⟨w.heap.size + 1, 3, none⟩ = some (.int .i64 0) := RZ.cell 3
    have h4 : Z.cell? ⟨w.heap.size + 1, 4, none⟩ = some (.int .i64 1) := RZ.cell 4
    exact bodyPost_ret (v := .agg #[.slice none 0 0, .int .i64 0, .int .i64 0, .int .i64 0, .int .i64 1]) (by simp [results, Try.results13, go_sem, h0, h1, h2, h3, h4]) rfl ⟨_, rfl, ⟨rfl, .inl ⟨rfl, rfl⟩⟩, BZ⟩
  | true =>
    have K1 : Hid (TurnV.ok ⟨l, at0⟩) := HX1.out.1 rfl
    clear HX1
    go_wp2_with fail
    refine (specNodes_is a1 cap1 nodes _ x2 HX2.out hl1 hcap1 s1).mono ?_
    rintro e y2 ⟨rfl, b2⟩
    have p2 := p1.keep b2
    have q2 := q1.keep b2
    have r2 := r1.keep b2
    have s2 := s1.keep b2
    have B2 := B1.trans (b2.mono B1.size)
    clear p1 q1 r1 s1 B1 b2
    cases x2 with
    | false =>
      obtain rfl : o = ⟨[], 0, 0, 0, 1⟩ := HB4.out (fun h => by have := HX2.out.2 h.2.1; cases this)
      clear HB4 HX2 HH
      have g0 : y2.cell? ⟨w.heap.size + 1, 0, none⟩ = some (.slice none 0 0) := q2.cell 0
      have z0 := q2.fz 0
      have g1 : y2.cell? ⟨w.heap.size + 1, 1, none⟩ = some (.int .i64 0) := q2.cell 1
      have z1 := q2.fz 1
      have g2 : y2.cell? ⟨w.heap.size + 1, 2, none⟩ = some (.int .i64 0) := q2.cell 2
      have z2 := q2.fz 2
      have g3 : y2.cell? ⟨w.heap.size + 1, 3, none⟩ = some (.int .i64 0) := q2.cell 3
      have z3 := q2.fz 3
      have g4 : y2.cell? ⟨w.heap.size + 1, 4, none⟩ = some (.int .i64 0) := q2.cell 4
      have z4 := q2.fz 4
      have RZ : BlkIs (((((y2.setCell ⟨w.heap.size + 1, 0, none⟩ (.slice none 0 0)).setCell ⟨w.heap.size + 1, 1, none⟩ (.int .i64 0)).setCell ⟨w.heap.size + 1, 2, none⟩ (.int .i64 0)).setCell ⟨w.heap.size + 1, 3, none⟩ (.int .i64 0)).setCell ⟨w.heap.size + 1, 4, none⟩ (.int .i64 1)) (w.heap.size + 1) 29 #[.slice none 0 0, .int .i64 0, .int .i64 0, .int .i64 0, .int .i64 1] := blk_put5 q2 _ _ _ _ _
      have BZ : Below w.heap.size w (((((y2.setCell ⟨w.heap.size + 1, 0, none⟩ (.slice none 0 0)).setCell ⟨w.heap.size + 1, 1, none⟩ (.int .i64 0)).setCell ⟨w.heap.size + 1, 2, none⟩ (.int .i64 0)).setCell ⟨w.heap.size + 1, 3, none⟩ (.int .i64 0)).setCell ⟨w.heap.size + 1, 4, none⟩ (.int .i64 1)) := (((((B2.setCell (p := ⟨w.heap.size + 1, 0, none⟩) (by dsimp only; omega) (.slice none 0 0)).setCell (p := ⟨w.heap.size + 1, 1, none⟩) (by dsimp only; omega) (.int .i64 0)).setCell (p := ⟨w.heap.size + 1, 2, none⟩) (by dsimp only; omega) (.int .i64 0)).setCell (p := ⟨w.heap.size + 1, 3, none⟩) (by dsimp only; omega) (.int .i64 0)).setCell (p := ⟨w.heap.size + 1, 4, none⟩) (by dsimp only; omega) (.int .i64 1))
      have KZ : Keeps (fun k => k ≠ w.heap.size + 1) y2 (((((y2.setCell ⟨w.heap.size + 1, 0, none⟩ (.slice none 0 0)).setCell ⟨w.heap.size + 1, 1, none⟩ (.int .i64 0)).setCell ⟨w.heap.size + 1, 2, none⟩ (.int .i64 0)).setCell ⟨w.heap.size + 1, 3, none⟩ (.int .i64 0)).setCell ⟨w.heap.size + 1, 4, none⟩ (.int .i64 1)) := keeps_five _ _ _ _ _ _ _
      go_wp2
      obtain ⟨Z, hZ⟩ : ∃ Z, (((((y2.setCell ⟨w.heap.size + 1, 0, none⟩ (.slice none 0 0)).setCell ⟨w.heap.size + 1, 1, none⟩ (.int .i64 0)).setCell ⟨w.heap.size + 1, 2, none⟩ (.int .i64 0)).setCell ⟨w.heap.size + 1, 3, none⟩ (.int .i64 0)).setCell ⟨w.heap.size + 1, 4, none⟩ (.int .i64 1)) = Z := ⟨_, rfl⟩
      rw [hZ] at RZ BZ KZ ⊢
      clear hZ g0 z0 g1 z1 g2 z2 g3 z3 g4 z4
      have h0 : Z.cell? ⟨w.heap.size + 1, 0, none⟩ = some (.slice none 0 0) := RZ.cell 0
      have h1 : Z.cell? ⟨w.heap.size + 1, 1, none⟩ = some (.int .i64 0) := RZ.cell 1
      have h2 : Z.cell? ⟨w.heap.size + 1, 2, none⟩ = some (.int .i64 0) := RZ.cell 2
      have h3 : Z.cell? ⟨w.heap.size + 1, 3, none⟩ = some (.int .i64 0) := RZ.cell 3
      have h4 : Z.cell? ⟨w.heap.size + 1, 4, none⟩ = some (.int .i64 1) := RZ.cell 4
      exact bodyPost_ret (v := .agg #[.slice none 0 0, .int .i64 0, .int .i64 0, .int .i64 0, .int .i64 1]) (by simp [results, Try.results13, go_sem, h0, h1, h2, h3, h4]) rfl ⟨_, rfl, ⟨rfl, .inl ⟨rfl, rfl⟩⟩, BZ⟩
    | true =>
      have K2 : Hid (nodesT nodes) := HX2.out.1 rfl
      clear HX2
      go_wp2_with fail
      refine (specRight_any a1 cap1 nodes _ hl1 s2).mono ?_
      rintro e y3 ⟨rfl, b3⟩
      have p3 := p2.keep b3
      have q3 := q2.keep b3
      have r3 := r2.keep b3
      have s3 := s2.keep b3
      have B3 := B2.trans (b3.mono B2.size)
      clear p2 q2 r2 s2 B2 b3
      obtain ⟨x3, hx3⟩ : ∃ q, decide (rightL nodes) = q := ⟨_, rfl⟩
      rw [hx3]
      have HX3 : Hid (decide (rightL nodes) = x3) := hx3
      clear hx3
      cases x3 with
      | false =>
        obtain rfl : o = ⟨[], 0, 0, 0, 1⟩ := HB4.out (fun h => of_decide_eq_false HX3.out ⟨by omega, h.2.2.1⟩)
        clear HB4 HX3 HH
        have g0 : y3.cell? ⟨w.heap.size + 1, 0, none⟩ = some (.slice none 0 0) := q3.cell 0
        have z0 := q3.fz 0
        have g1 : y3.cell? ⟨w.heap.size + 1, 1, none⟩ = some (.int .i64 0) := q3.cell 1
        have z1 := q3.fz 1
        have g2 : y3.cell? ⟨w.heap.size + 1, 2, none⟩ = some (.int .i64 0) := q3.cell 2
        have z2 := q3.fz 2
        have g3 : y3.cell? ⟨w.heap.size + 1, 3, none⟩ = some (.int .i64 0) := q3.cell 3
        have z3 := q3.fz 3
        have g4 : y3.cell? ⟨w.heap.size + 1, 4, none⟩ = some (.int .i64 0) := q3.cell 4
        have z4 := q3.fz 4
        have RZ : BlkIs (((((y3.setCell ⟨w.heap.size + 1, 0, none⟩ (.slice none 0 0)).setCell ⟨w.heap.size + 1, 1, none⟩ (.int .i64 0)).setCell ⟨w.heap.size + 1, 2, none⟩ (.int .i64 0)).setCell ⟨w.heap.size + 1, 3, none⟩ (.int .i64 0)).setCell ⟨w.heap.size + 1, 4, none⟩ (.int .i64 1)) (w.heap.size + 1) 29 #[.slice none 0 0, .int .i64 0, .int .i64 0, .int .i64 0, .int .i64 1] := blk_put5 q3 _ _ _ _ _
        have BZ : Below w.heap.size w (((((y3.setCell ⟨w.heap.size + 1, 0, none⟩ (.slice none 0 0)).setCell ⟨w.heap.size + 1, 1, none⟩ (.int .i64 0)).setCell ⟨w.heap.size + 1, 2, none⟩ (.int .i64 0)).setCell ⟨w.heap.size + 1, 3, none⟩ (.int .i64 0)).setCell ⟨w.heap.size + 1, 4, none⟩ (.int .i64 1)) := (((((B3.setCell (p := ⟨w.heap.size + 1, 0, none⟩) (by dsimp only; omega) (.slice none 0 0)).setCell (p := ⟨w.heap.size + 1, 1, none⟩) (by dsimp only; omega) (.int .i64 0)).setCell (p := ⟨w.heap.size + 1, 2, none⟩) (by dsimp only; omega) (.int .i64 0)).setCell (p := ⟨w.heap.size + 1, 3, none⟩) (by dsimp only; omega) (.int .i64 0)).setCell (p := ⟨w.heap.size + 1, 4, none⟩) (by dsimp only; omega) (.int .i64 1))
        have KZ : Keeps (fun k => k ≠ w.heap.size + 1) y3 (((((y3.setCell ⟨w.heap.size + 1, 0, none⟩ (.slice none 0 0)).setCell ⟨w.heap.size + 1, 1, none⟩ (.int .i64 0)).setCell ⟨w.heap.size + 1, 2, none⟩ (.int .i64 0)).setCell ⟨w.heap.size + 1, 3, none⟩ (.int .i64 0)).setCell ⟨w.heap.size + 1, 4, none⟩ (.int .i64 1)) := keeps_five _ _ _ _ _ _ _
        go_wp2
        obtain ⟨Z, hZ⟩ : ∃ Z, (((((y3.setCell ⟨w.heap.size + 1, 0, none⟩ (.slice none 0 0)).setCell ⟨w.heap.size + 1, 1, none⟩ (.int .i64 0)).setCell ⟨w.heap.size + 1, 2, none⟩ (.int .i64 0)).setCell ⟨w.heap.size + 1, 3, none⟩ (.int .i64 0)).setCell ⟨w.heap.size + 1, 4, none⟩ (.int .i64 1)) = Z := ⟨_, rfl⟩
        rw [hZ] at RZ BZ KZ ⊢
        clear hZ g0 z0 g1 z1 g2 z2 g3 z3 g4 z4
        have h0 : Z.cell? ⟨w.heap.size + 1, 0, none⟩ = some (.slice none 0 0) := RZ.cell 0
        have h1 : Z.cell? ⟨w.heap.size + 1, 1, none⟩ = some (.int .i64 0) := RZ.cell 1
        have h2 : Z.cell? ⟨w.heap.size + 1, 2, none⟩ = some (.int .i64 0) := RZ.cell 2
        have h3 : Z.cell? ⟨w.heap.size + 1, 3, none⟩ = some (.int .i64 0) := RZ.cell 3
        have h4 : Z.cell? ⟨w.heap.size + 1, 4, none⟩ = some (.int .i64 1) := RZ.cell 4
        exact bodyPost_ret (v := .agg #[.slice none 0 0, .int .i64 0, .int .i64 0, .int .i64 0, .int .i64 1]) (by simp [results, Try.results13, go_sem, h0, h1, h2, h3, h4]) rfl ⟨_, rfl, ⟨rfl, .inl ⟨rfl, rfl⟩⟩, BZ⟩
      | true =>
        have K3 : Hid (rises nodes) := (of_decide_eq_true HX3.out).2
        clear HX3
        go_wp2_with fail
        refine (l02Seed_any seed _).mono ?_
        rintro e y4 ⟨rfl, hyy⟩
        replace hyy : y3 = y4 := hyy.symm
        subst hyy
        obtain ⟨x4, hx4⟩ : ∃ q, (decide (0 ≤ seed) && decide (seed ≤ 2147483647)) = q := ⟨_, rfl⟩
        rw [hx4]
        have HX4 : Hid ((decide (0 ≤ seed) && decide (seed ≤ 2147483647)) = x4) := hx4
        clear hx4
        cases x4 with
        | false =>
          obtain rfl : o = ⟨[], 0, 0, 0, 1⟩ := HB4.out (fun h => by have := HX4.out; simp [h.2.2.2.1, h.2.2.2.2] at this)
          clear HB4 HX4 HH
          have g0 : y3.cell? ⟨w.heap.size + 1, 0, none⟩ = some (.slice none 0 0) := q3.cell 0
          have z0 := q3.fz 0
          have g1 : y3.cell? ⟨w.heap.size + 1, 1, none⟩ = some (.int .i64 0) := q3.cell 1
          have z1 := q3.fz 1
          have g2 : y3.cell? ⟨w.heap.size + 1, 2, none⟩ = some (.int .i64 0) := q3.cell 2
          have z2 := q3.fz 2
          have g3 : y3.cell? ⟨w.heap.size + 1, 3, none⟩ = some (.int .i64 0) := q3.cell 3
          have z3 := q3.fz 3
          have g4 : y3.cell? ⟨w.heap.size + 1, 4, none⟩ = some (.int .i64 0) := q3.cell 4
          have z4 := q3.fz 4
          have RZ : BlkIs (((((y3.setCell ⟨w.heap.size + 1, 0, none⟩ (.slice none 0 0)).setCell ⟨w.heap.size + 1, 1, none⟩ (.int .i64 0)).setCell ⟨w.heap.size + 1, 2, none⟩ (.int .i64 0)).setCell ⟨w.heap.size + 1, 3, none⟩ (.int .i64 0)).setCell ⟨w.heap.size + 1, 4, none⟩ (.int .i64 1)) (w.heap.size + 1) 29 #[.slice none 0 0, .int .i64 0, .int .i64 0, .int .i64 0, .int .i64 1] := blk_put5 q3 _ _ _ _ _
          have BZ : Below w.heap.size w (((((y3.setCell ⟨w.heap.size + 1, 0, none⟩ (.slice none 0 0)).setCell ⟨w.heap.size + 1, 1, none⟩ (.int .i64 0)).setCell ⟨w.heap.size + 1, 2, none⟩ (.int .i64 0)).setCell ⟨w.heap.size + 1, 3, none⟩ (.int .i64 0)).setCell ⟨w.heap.size + 1, 4, none⟩ (.int .i64 1)) := (((((B3.setCell (p := ⟨w.heap.size + 1, 0, none⟩) (by dsimp only; omega) (.slice none 0 0)).setCell (p := ⟨w.heap.size + 1, 1, none⟩) (by dsimp only; omega) (.int .i64 0)).setCell (p := ⟨w.heap.size + 1, 2, none⟩) (by dsimp only; omega) (.int .i64 0)).setCell (p := ⟨w.heap.size + 1, 3, none⟩) (by dsimp only; omega) (.int .i64 0)).setCell (p := ⟨w.heap.size + 1, 4, none⟩) (by dsimp only; omega) (.int .i64 1))
          have KZ : Keeps (fun k => k ≠ w.heap.size + 1) y3 (((((y3.setCell ⟨w.heap.size + 1, 0, none⟩ (.slice none 0 0)).setCell ⟨w.heap.size + 1, 1, none⟩ (.int .i64 0)).setCell ⟨w.heap.size + 1, 2, none⟩ (.int .i64 0)).setCell ⟨w.heap.size + 1, 3, none⟩ (.int .i64 0)).setCell ⟨w.heap.size + 1, 4, none⟩ (.int .i64 1)) := keeps_five _ _ _ _ _ _ _
          go_wp2
          obtain ⟨Z, hZ⟩ : ∃ Z, (((((y3.setCell ⟨w.heap.size + 1, 0, none⟩ (.slice none 0 0)).setCell ⟨w.heap.size + 1, 1, none⟩ (.int .i64 0)).setCell ⟨w.heap.size + 1, 2, none⟩ (.int .i64 0)).setCell ⟨w.heap.size + 1, 3, none⟩ (.int .i64 0)).setCell ⟨w.heap.size + 1, 4, none⟩ (.int .i64 1)) = Z := ⟨_, rfl⟩
          rw [hZ] at RZ BZ KZ ⊢
          clear hZ g0 z0 g1 z1 g2 z2 g3 z3 g4 z4
          have h0 : Z.cell? ⟨w.heap.size + 1, 0, none⟩ = some (.slice none 0 0) := RZ.cell 0
          have h1 : Z.cell? ⟨w.heap.size + 1, 1, none⟩ = some (.int .i64 0) := RZ.cell 1
          have h2 : Z.cell? ⟨w.heap.size + 1, 2, none⟩ = some (.int .i64 0) := RZ.cell 2
          have h3 : Z.cell? ⟨w.heap.size + 1, 3, none⟩ = some (.int .i64 0) := RZ.cell 3
          have h4 : Z.cell? ⟨w.heap.size + 1, 4, none⟩ = some (.int .i64 1) := RZ.cell 4
          exact bodyPost_ret (v := .agg #[.slice none 0 0, .int .i64 0, .int .i64 0, .int .i64 0, .int .i64 1]) (by simp [results, Try.results13, go_sem, h0, h1, h2, h3, h4]) rfl ⟨_, rfl, ⟨rfl, .inl ⟨rfl, rfl⟩⟩, BZ⟩
        | true =>
          have K4 : Hid (askT nodes seed) := ⟨K2.out, K3.out, by have := HX4.out; simpa using this⟩
          clear HX4 HB4
          have c0 : y3.cell? ⟨w.heap.size, 0, none⟩ = some (.slice a l.length cap) := p3.cell 0
          have c1 : y3.cell? ⟨w.heap.size, 1, none⟩ = some (.int .i64 at0) := p3.cell 1
          go_wp2_with fail
          refine (specL07Next_any a cap ⟨l, at0⟩ a1 cap1 nodes seed o _ K1.out K4.out HH.out hc1 r3 s3).mono ?_
          rintro e y5 ⟨v, rfl, own, b5⟩
          obtain ⟨va, vn, vc, rfl⟩ : ∃ a n c, v = .slice a n c := by
            rcases own.2 with ⟨e, _⟩ | ⟨g, cap, cur, e, _⟩
            · exact ⟨_, _, _, e⟩
            · exact ⟨_, _, _, e⟩
          have q5 := q3.keep b5
          have B5 := B3.trans (b5.mono B3.size)
          have hge : ∀ g, Value.ownBlock (.slice va vn vc) = some g → g ≠ w.heap.size + 1 := fun g hg => by have := (own.lt g hg).1; have := q3.lt; omega
          have own2 := rowLeN own B3.size
          obtain ⟨ol, oa, on, os, oc⟩ := o
          dsimp only at own2 ⊢
          clear p3 q3 r3 s3 B3 b5 c0 c1 own HH K1 K2 K3 K4
          have g0 : y5.cell? ⟨w.heap.size + 1, 0, none⟩ = some (.slice none 0 0) := q5.cell 0
          have z0 := q5.fz 0
          have g1 : y5.cell? ⟨w.heap.size + 1, 1, none⟩ = some (.int .i64 0) := q5.cell 1
          have z1 := q5.fz 1
          have g2 : y5.cell? ⟨w.heap.size + 1, 2, none⟩ = some (.int .i64 0) := q5.cell 2
          have z2 := q5.fz 2
          have g3 : y5.cell? ⟨w.heap.size + 1, 3, none⟩ = some (.int .i64 0) := q5.cell 3
          have z3 := q5.fz 3
          have g4 : y5.cell? ⟨w.heap.size + 1, 4, none⟩ = some (.int .i64 0) := q5.cell 4
          have z4 := q5.fz 4
          have RZ : BlkIs (((((y5.setCell ⟨w.heap.size + 1, 0, none⟩ (.slice va vn vc)).setCell ⟨w.heap.size + 1, 1, none⟩ (.int .i64 oa)).setCell ⟨w.heap.size + 1, 2, none⟩ (.int .i64 on)).setCell ⟨w.heap.size + 1, 3, none⟩ (.int .i64 os)).setCell ⟨w.heap.size + 1, 4, none⟩ (.int .i64 oc)) (w.heap.size + 1) 29 #[.slice va vn vc, .int .i64 oa, .int .i64 on, .int .i64 os, .int .i64 oc] := blk_put5 q5 _ _ _ _ _
          have BZ : Below w.heap.size w (((((y5.setCell ⟨w.heap.size + 1, 0, none⟩ (.slice va vn vc)).setCell ⟨w.heap.size + 1, 1, none⟩ (.int .i64 oa)).setCell ⟨w.heap.size + 1, 2, none⟩ (.int .i64 on)).setCell ⟨w.heap.size + 1, 3, none⟩ (.int .i64 os)).setCell ⟨w.heap.size + 1, 4, none⟩ (.int .i64 oc)) := (((((B5.setCell (p := ⟨w.heap.size + 1, 0, none⟩) (by dsimp only; omega) (.slice va vn vc)).setCell (p := ⟨w.heap.size + 1, 1, none⟩) (by dsimp only; omega) (.int .i64 oa)).setCell (p := ⟨w.heap.size + 1, 2, none⟩) (by dsimp only; omega) (.int .i64 on)).setCell (p := ⟨w.heap.size + 1, 3, none⟩) (by dsimp only; omega) (.int .i64 os)).setCell (p := ⟨w.heap.size + 1, 4, none⟩) (by dsimp only; omega) (.int .i64 oc))
          have KZ : Keeps (fun k => k ≠ w.heap.size + 1) y5 (((((y5.setCell ⟨w.heap.size + 1, 0, none⟩ (.slice va vn vc)).setCell ⟨w.heap.size + 1, 1, none⟩ (.int .i64 oa)).setCell ⟨w.heap.size + 1, 2, none⟩ (.int .i64 on)).setCell ⟨w.heap.size + 1, 3, none⟩ (.int .i64 os)).setCell ⟨w.heap.size + 1, 4, none⟩ (.int .i64 oc)) := keeps_five _ _ _ _ _ _ _
          go_wp2
          obtain ⟨Z, hZ⟩ : ∃ Z, (((((y5.setCell ⟨w.heap.size + 1, 0, none⟩ (.slice va vn vc)).setCell ⟨w.heap.size + 1, 1, none⟩ (.int .i64 oa)).setCell ⟨w.heap.size + 1, 2, none⟩ (.int .i64 on)).setCell ⟨w.heap.size + 1, 3, none⟩ (.int .i64 os)).setCell ⟨w.heap.size + 1, 4, none⟩ (.int .i64 oc)) = Z := ⟨_, rfl⟩
          rw [hZ] at RZ BZ KZ ⊢
          clear hZ g0 z0 g1 z1 g2 z2 g3 z3 g4 z4
          have h0 : Z.cell? ⟨w.heap.size + 1, 0, none⟩ = some (.slice va vn vc) := RZ.cell 0
          have h1 : Z.cell? ⟨w.heap.size + 1, 1, none⟩ = some (.int .i64 oa) := RZ.cell 1
          have h2 : Z.cell? ⟨w.heap.size + 1, 2, none⟩ = some (.int .i64 on) := RZ.cell 2
          have h3 : Z.cell? ⟨w.heap.size + 1, 3, none⟩ = some (.int .i64 os) := RZ.cell 3
          have h4 : Z.cell? ⟨w.heap.size + 1, 4, none⟩ = some (.int .i64 oc) := RZ.cell 4
          exact bodyPost_ret (v := .agg #[.slice va vn vc, .int .i64 oa, .int .i64 on, .int .i64 os, .int .i64 oc]) (by simp [results, Try.results13, go_sem, h0, h1, h2, h3, h4]) rfl ⟨_, rfl, rowKeep own2 KZ (fun g hg => hge g hg), BZ⟩
end Go.Proofs.Ytpjmhaegdnahmaa
