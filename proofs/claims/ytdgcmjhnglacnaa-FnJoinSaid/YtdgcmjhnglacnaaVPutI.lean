/- The contracts of the program's ViewPut and ViewJoin. -/
import Derived.Test.YtdgcmjhnglacnaaVOut
import Derived.Test.YtdgcmjhnglacnaaWithFact
import Derived.Test.YtdgcmjhnglacnaaHasNews
namespace Go.Proofs.Ytdgcmjhnglacnaa
open Go Go.RowKit
set_option linter.unusedVariables false

set_option maxHeartbeats 4000000 in
set_option maxRecDepth 100000 in
theorem implPut_any (a : Option Addr) (cap : Nat) (l : List FactV) (f : FactV) (c : Int) (m : List FactV) (r : Bool) (w : World) (hP : PutIs l f c m r) (hl : l.length ≤ 1048576) (hrow : CellRow w a (cellsOf FactV.cells l)) :
    Calls Try.prog 16 #[.slice a l.length cap, f.val] w (OutPost c m r w) := by
  obtain ⟨fc, hfc⟩ := fault_ex l
  have HFC : Hid (FaultIs l fc) := hfc
  have HP : Hid (PutIs l f c m r) := hP
  obtain ⟨rf, hrf⟩ := tells_bool f.ok
  have HRF : Hid (rf = true ↔ f.ok) := hrf
  have p0 := (FBlk.new w f).keep ((Below.refl _ _).alloc (Nat.le_refl _) (.cells #[.slice none 0 0, .bool false, .int .i64 0] 33))
  have r0 := BlkIs.new (w.alloc (.cells #[.int .i64 f.node, .int .i64 f.inc, .int .i64 f.st] 24)) 33 #[.slice none 0 0, .bool false, .int .i64 0]
  rw [World.size_alloc] at r0
  have b0 := ((Below.refl w.heap.size w).alloc (Nat.le_refl _) (.cells #[.int .i64 f.node, .int .i64 f.inc, .int .i64 f.st] 24)).alloc (by simp) (.cells #[.slice none 0 0, .bool false, .int .i64 0] 33)
  obtain ⟨f1, f2, f3⟩ := f
  dsimp only at p0 r0 b0
  obtain ⟨W0, hW0⟩ : ∃ W, (w.alloc (.cells #[.int .i64 f1, .int .i64 f2, .int .i64 f3] 24)).alloc (.cells #[.slice none 0 0, .bool false, .int .i64 0] 33) = W := ⟨_, rfl⟩
  rw [hW0] at p0 r0 b0
  have P1 := BlkIs.new W0 27 #[.slice a l.length cap]
  have b1 : Below W0.heap.size W0 (W0.alloc (.cells #[.slice a l.length cap] 27)) := (Below.refl _ _).alloc (Nat.le_refl _) _
  have p1 := p0.keep b1
  have r1 := r0.keep b1
  have B1 := b0.trans (b1.mono b0.size)
  have hrow1 := hrow.keep B1
  obtain ⟨W, hW⟩ : ∃ W, W0.alloc (.cells #[.slice a l.length cap] 27) = W := ⟨_, rfl⟩
  have hs0 : W0.heap.size = w.heap.size + 2 := by rw [← hW0]; simp
  rw [hW] at P1 p1 r1 B1 hrow1
  rw [hs0] at P1
  have HW : Hid (((w.alloc (.cells #[.int .i64 f1, .int .i64 f2, .int .i64 f3] 24)).alloc (.cells #[.slice none 0 0, .bool false, .int .i64 0] 33)).alloc (.cells #[.slice a l.length cap] 27) = W) := by show _ = _; rw [hW0, hW]
  clear hfc hP hrf p0 r0 b0 b1 hW0 hW hs0
  unfold FactV.val
  go_enter Try.func16, Try.ntmps16
  go_wp2_with fail
  rw [HW.out]
  refine (fault1_any _ a cap l fc HFC.out _ hl hrow1 P1).mono ?_
  rintro e z1 ⟨rfl, bz1⟩
  have p2 := p1.keep bz1
  have r2 := r1.keep bz1
  have B2 := B1.trans (bz1.mono B1.size)
  have hrow2 := hrow.keep B2
  have hsz := r2.lt
  clear P1 p1 r1 B1 hrow1 bz1 HW
  by_cases hc0 : fc = 0
  · subst hc0
    have hri : rightV l := by
      rcases HFC.out with ⟨_, e⟩ | ⟨_, _, e⟩ | ⟨h, _⟩
      · cases e
      · cases e
      · exact h
    have HRI : Hid (rightV l) := hri
    have hl6 := rightV_len hri
    clear HFC hri
    have p2' := p2
    obtain ⟨_, s0, s1, s2⟩ := p2'
    dsimp only at s0 s1 s2
    go_wp2_with fail
    refine (factRight_is ⟨f1, f2, f3⟩ _ rf HRF.out).mono ?_
    rintro e z2 ⟨rfl, bz2⟩
    have p3 := p2.keep bz2
    have r3 := r2.keep bz2
    have B3 := B2.trans (bz2.mono B2.size)
    have hrow3 := hrow.keep B3
    have hsz3 := r3.lt
    clear p2 r2 B2 hrow2 bz2 s0 s1 s2
    cases rf with
    | false =>
      obtain ⟨hc, hm, hrr⟩ : c = 1 ∧ m = [] ∧ r = false := by
        rcases HP.out with ⟨h, _⟩ | ⟨_, _, e1, e2, e3⟩ | ⟨_, h, _⟩
        · omega
        · exact ⟨e1, e2, e3⟩
        · have := HRF.out.2 h; cases this
      subst hc hm hrr
      clear HP HRF
      have g0 := r3.cell 0
      have fz0 := r3.fz 0
      have g1 := r3.cell 1
      have fz1 := r3.fz 1
      have g2 := r3.cell 2
      have fz2 := r3.fz 2
      have KZ := keeps_three z2 (w.heap.size + 1) (.slice none 0 0) (.bool false) (.int .i64 1)
      have HBZ : Hid (Below w.heap.size w (((z2.setCell ⟨w.heap.size + 1, 0, none⟩ (.slice none 0 0)).setCell ⟨w.heap.size + 1, 1, none⟩ (.bool false)).setCell ⟨w.heap.size + 1, 2, none⟩ (.int .i64 1))) := B3.trans (KZ.toBelow B3.size (fun q hq => by omega))
      clear KZ
      go_wp2
      have QZ := blk_put3 r3 (.slice none 0 0) (.bool false) (.int .i64 1)
      obtain ⟨z6, hz6⟩ : ∃ z6, (((z2.setCell ⟨w.heap.size + 1, 0, none⟩ (.slice none 0 0)).setCell ⟨w.heap.size + 1, 1, none⟩ (.bool false)).setCell ⟨w.heap.size + 1, 2, none⟩ (.int .i64 1)) = z6 := ⟨_, rfl⟩
      rw [hz6] at HBZ QZ ⊢
      have e0 := QZ.cell 0
      have e1 := QZ.cell 1
      have e2 := QZ.cell 2
      refine bodyPost_ret (v := outV (.slice none 0 0) false 1) (by simp [results, Try.results16, go_sem, outV, e0, e1, e2]) rfl ?_
      exact ⟨_, rfl, World.ownsRow_nil _ _ _ _, HBZ.out⟩
    | true =>
      have hok : FactV.ok ⟨f1, f2, f3⟩ := HRF.out.1 rfl
      obtain ⟨hc, k, hk, hm, hrr⟩ : c = 0 ∧ ∃ k, placeF l f1 k ∧ m = putL l ⟨f1, f2, f3⟩ k ∧ (r = true ↔ newsAt l ⟨f1, f2, f3⟩ k) := by
        rcases HP.out with ⟨h, _⟩ | ⟨_, h, _⟩ | ⟨_, _, e1, k, e2, e3, e4⟩
        · omega
        · exact absurd h (fun q => q.elim (fun q => q HRI.out) (fun q => q hok))
        · exact ⟨e1, k, e2, e3, e4⟩
      subst hc hm
      have HOK : Hid (FactV.ok ⟨f1, f2, f3⟩) := hok
      have HPL : Hid (placeF l f1 k) := hk
      have hmr : rightV (putL l ⟨f1, f2, f3⟩ k) := put_right HRI.out hok hk
      have HMR : Hid (rightV (putL l ⟨f1, f2, f3⟩ k)) := hmr
      have hml := rightV_len hmr
      have HN : Hid (r = true ↔ newsV l (putL l ⟨f1, f2, f3⟩ k)) := hrr.trans (news_put (f := ⟨f1, f2, f3⟩) (rightV_rise HRI.out) hk).symm
      clear HP HRF hok hk hrr hmr
      go_upto_region 6 with fail
      refine wp_region_held_drew (S := (fun w' => Below z2.heap.size z2 w')) (by kernel_rfl) ?hS0 (fun hHeld => ?_)
      case hS0 => exact (Below.refl _ _).drew
      refine takeG 0 (v := .slice a l.length cap) rfl (by kernel_rfl) (by kernel_rfl) (by kernel_rfl) (by kernel_rfl) (fun _ _ _ h => h) ?hy (by assumption) ?_
      case hy => (intro w' hSw; go_simp)
      try simp only [List.setIfInBounds_toArray, List.set_cons_zero, List.set_cons_succ]
      refine takeG 2 (v := .agg #[.int .i64 f1, .int .i64 f2, .int .i64 f3]) rfl (by kernel_rfl) (by kernel_rfl) (by kernel_rfl) (by kernel_rfl) (fun _ _ _ h => h) ?hy (by assumption) ?_
      case hy => (intro w' hSw; obtain ⟨_, s0, s1, s2⟩ := (p3).keep hSw; dsimp only at s0 s1 s2; go_simp)
      try simp only [List.setIfInBounds_toArray, List.set_cons_zero, List.set_cons_succ]
      refine runG 1 (by kernel_rfl) rfl (by kernel_rfl) ?_
      go_simp
      refine (copiedF_any a cap l _ hl (hrow3.keep hHeld)).mono ?_
      rintro e z3 ⟨v3, rfl, own3, bz3⟩
      have hz3 : Below z2.heap.size z2 z3 := hHeld.trans (bz3.mono hHeld.size)
      refine ⟨hz3, ?_⟩
      have hb3 : z2.heap.size ≤ z2.drew.heap.size := Nat.le_refl _
      have own3' : z3.ownsRow z2.heap.size 24 3 v3 l.length (cellsOf FactV.cells l) := own3
      clear hHeld bz3 own3
      obtain ⟨q1, q2, q3, rfl⟩ := rowShape own3'
      try simp only [Act.put, List.setIfInBounds_toArray, List.set_cons_zero, List.set_cons_succ]
      refine runG 3 (by kernel_rfl) rfl (by kernel_rfl) ?_
      go_simp
      refine (withFact_any _ l ⟨f1, f2, f3⟩ k z2.heap.size _ HRI.out HOK.out HPL.out own3' hz3.size).mono ?_
      rintro e z4 ⟨v4, rfl, own4, kz4⟩
      have hz4 : Below z2.heap.size z2 z4 := hz3.trans (kz4.toBelow hz3.size (fun q hq e => by have := (own3'.lt q e).1; omega))
      refine ⟨hz4, ?_⟩
      clear kz4 hz3 own3'
      obtain ⟨q1, q2, q3, rfl⟩ := rowShape own4
      try simp only [Act.put, List.setIfInBounds_toArray, List.set_cons_zero, List.set_cons_succ]
      refine takeG 4 (v := .slice q1 q2 q3) rfl (by kernel_rfl) (by kernel_rfl) (by kernel_rfl) (by kernel_rfl) (fun _ _ _ h => h) ?hy (by assumption) ?_
      case hy => (intro w' hSw; go_simp)
      try simp only [List.setIfInBounds_toArray, List.set_cons_zero, List.set_cons_succ]
      refine wpAnyH_done (by kernel_rfl) ?_ _
      have r4 := r3.keep hz4
      have B4 := B3.trans (hz4.mono B3.size)
      have hrow4 := hrow.keep B4
      obtain ⟨a5, c5, e5, o5⟩ := OwnsRow.cellRow own4
      rw [e5] at own4 ⊢
      clear e5 p3 r3 B3 hrow3 hz4
      go_wp2_with fail
      refine (hasNews_is a a5 cap c5 l (putL l ⟨f1, f2, f3⟩ k) _ r HN.out (by omega) (by omega) (rightV_ok HRI.out) (rightV_ok HMR.out) hrow4 o5).mono ?_
      rintro e z5 ⟨rfl, bz5⟩
      have r5 := r4.keep bz5
      have B5 := B4.trans (bz5.mono B4.size)
      have own5 := rowLe (rowBelow own4 bz5) (show w.heap.size ≤ z2.heap.size by omega)
      have hown5 : ∀ q, Value.ownBlock (.slice a5 (putL l ⟨f1, f2, f3⟩ k).length c5) = some q → z2.heap.size ≤ q := fun q e => (own4.lt q e).1
      have HO5 : Hid (∀ q, Value.ownBlock (.slice a5 (putL l ⟨f1, f2, f3⟩ k).length c5) = some q → z2.heap.size ≤ q) := hown5
      clear r4 B4 hrow4 own4 o5 bz5 HN HMR HRI HOK HPL hown5
      have g0 := r5.cell 0
      have fz0 := r5.fz 0
      have g1 := r5.cell 1
      have fz1 := r5.fz 1
      have g2 := r5.cell 2
      have fz2 := r5.fz 2
      have KZ := keeps_three z5 (w.heap.size + 1) (.slice a5 (putL l ⟨f1, f2, f3⟩ k).length c5) (.bool r) (.int .i64 0)
      have HBZ : Hid (Below w.heap.size w (((z5.setCell ⟨w.heap.size + 1, 0, none⟩ (.slice a5 (putL l ⟨f1, f2, f3⟩ k).length c5)).setCell ⟨w.heap.size + 1, 1, none⟩ (.bool r)).setCell ⟨w.heap.size + 1, 2, none⟩ (.int .i64 0))) := B5.trans (KZ.toBelow B5.size (fun q hq => by omega))
      have HRZ : Hid ((((z5.setCell ⟨w.heap.size + 1, 0, none⟩ (.slice a5 (putL l ⟨f1, f2, f3⟩ k).length c5)).setCell ⟨w.heap.size + 1, 1, none⟩ (.bool r)).setCell ⟨w.heap.size + 1, 2, none⟩ (.int .i64 0)).ownsRow w.heap.size 24 3 (.slice a5 (putL l ⟨f1, f2, f3⟩ k).length c5) (putL l ⟨f1, f2, f3⟩ k).length (cellsOf FactV.cells (putL l ⟨f1, f2, f3⟩ k))) := rowKeep own5 KZ (fun q hq => by have := HO5.out q hq; omega)
      clear KZ
      go_wp2
      have QZ := blk_put3 r5 (.slice a5 (putL l ⟨f1, f2, f3⟩ k).length c5) (.bool r) (.int .i64 0)
      obtain ⟨z6, hz6⟩ : ∃ z6, (((z5.setCell ⟨w.heap.size + 1, 0, none⟩ (.slice a5 (putL l ⟨f1, f2, f3⟩ k).length c5)).setCell ⟨w.heap.size + 1, 1, none⟩ (.bool r)).setCell ⟨w.heap.size + 1, 2, none⟩ (.int .i64 0)) = z6 := ⟨_, rfl⟩
      rw [hz6] at HBZ QZ HRZ ⊢
      have e0 := QZ.cell 0
      have e1 := QZ.cell 1
      have e2 := QZ.cell 2
      refine bodyPost_ret (v := outV (.slice a5 (putL l ⟨f1, f2, f3⟩ k).length c5) r 0) (by simp [results, Try.results16, go_sem, outV, e0, e1, e2]) rfl ?_
      exact ⟨_, rfl, HRZ.out, HBZ.out⟩
  · obtain ⟨hc, hm, hrr⟩ : c = fc ∧ m = [] ∧ r = false := by
      rcases HFC.out with ⟨h1, e⟩ | ⟨h1, h2, e⟩ | ⟨_, e⟩
      · rcases HP.out with ⟨_, e1, e2, e3⟩ | ⟨h, _⟩ | ⟨h, _⟩
        · exact ⟨e1.trans e.symm, e2, e3⟩
        · omega
        · have := rightV_len h; omega
      · rcases HP.out with ⟨h, _⟩ | ⟨_, _, e1, e2, e3⟩ | ⟨h, _⟩
        · omega
        · exact ⟨e1.trans e.symm, e2, e3⟩
        · exact absurd h h2
      · exact absurd e hc0
    subst hc hm hrr
    have hc' : (c == 0) = false := beq_eq_false_iff_ne.2 hc0
    clear HP HFC HRF hc0
    have g0 := r2.cell 0
    have fz0 := r2.fz 0
    have g1 := r2.cell 1
    have fz1 := r2.fz 1
    have g2 := r2.cell 2
    have fz2 := r2.fz 2
    have KZ := keeps_three z1 (w.heap.size + 1) (.slice none 0 0) (.bool false) (.int .i64 c)
    have HBZ : Hid (Below w.heap.size w (((z1.setCell ⟨w.heap.size + 1, 0, none⟩ (.slice none 0 0)).setCell ⟨w.heap.size + 1, 1, none⟩ (.bool false)).setCell ⟨w.heap.size + 1, 2, none⟩ (.int .i64 c))) := B2.trans (KZ.toBelow B2.size (fun q hq => by omega))
    clear KZ
    go_wp2
    have QZ := blk_put3 r2 (.slice none 0 0) (.bool false) (.int .i64 c)
    obtain ⟨z6, hz6⟩ : ∃ z6, (((z1.setCell ⟨w.heap.size + 1, 0, none⟩ (.slice none 0 0)).setCell ⟨w.heap.size + 1, 1, none⟩ (.bool false)).setCell ⟨w.heap.size + 1, 2, none⟩ (.int .i64 c)) = z6 := ⟨_, rfl⟩
    rw [hz6] at HBZ QZ ⊢
    have e0 := QZ.cell 0
    have e1 := QZ.cell 1
    have e2 := QZ.cell 2
    refine bodyPost_ret (v := outV (.slice none 0 0) false c) (by simp [results, Try.results16, go_sem, outV, e0, e1, e2]) rfl ?_
    exact ⟨_, rfl, World.ownsRow_nil _ _ _ _, HBZ.out⟩
/-- What is still to be put comes to m. -/
def RestIs (x r m : List FactV) : Prop := ∃ q : Prop, JoinIs x r m q
set_option maxHeartbeats 4000000 in
set_option maxRecDepth 100000 in
theorem implJoin_any (a a' : Option Addr) (cap cap' : Nat) (l b : List FactV) (c : Int) (m : List FactV) (r : Bool) (w : World) (hP : JoinVIs l b c m r) (hl : l.length ≤ 1048576) (hlb : b.length ≤ 1048576) (hrow : CellRow w a (cellsOf FactV.cells l)) (hrow' : CellRow w a' (cellsOf FactV.cells b)) :
    Calls Try.prog 15 #[.slice a l.length cap, .slice a' b.length cap'] w (OutPost c m r w) := by
  have hF : Fault2Is l b c := by
    rcases hP with ⟨h1, h2, _⟩ | ⟨h1, h2, h3, h4, _⟩ | ⟨h1, h2, h3, _⟩
    · exact .inl ⟨h1, h2⟩
    · exact .inr (.inl ⟨h1, h2, h3, h4⟩)
    · exact .inr (.inr ⟨h1, h2, h3⟩)
  have HFC : Hid (Fault2Is l b c) := hF
  have HP : Hid (JoinVIs l b c m r) := hP
  have r0 := BlkIs.new w 33 #[.slice none 0 0, .bool false, .int .i64 0]
  have b0 := (Below.refl w.heap.size w).alloc (Nat.le_refl _) (.cells #[.slice none 0 0, .bool false, .int .i64 0] 33)
  obtain ⟨W0, hW0⟩ : ∃ W, w.alloc (.cells #[.slice none 0 0, .bool false, .int .i64 0] 33) = W := ⟨_, rfl⟩
  rw [hW0] at r0 b0
  have P1 := BlkIs.new W0 27 #[.slice a l.length cap, .slice a' b.length cap']
  have b1 : Below W0.heap.size W0 (W0.alloc (.cells #[.slice a l.length cap, .slice a' b.length cap'] 27)) := (Below.refl _ _).alloc (Nat.le_refl _) _
  have r1 := r0.keep b1
  have B1 := b0.trans (b1.mono b0.size)
  have hrow1 := hrow.keep B1
  have hrow1' := hrow'.keep B1
  obtain ⟨W, hW⟩ : ∃ W, W0.alloc (.cells #[.slice a l.length cap, .slice a' b.length cap'] 27) = W := ⟨_, rfl⟩
  have hs0 : W0.heap.size = w.heap.size + 1 := by rw [← hW0]; simp
  rw [hW] at P1 r1 B1 hrow1 hrow1'
  rw [hs0] at P1
  have HW : Hid ((w.alloc (.cells #[.slice none 0 0, .bool false, .int .i64 0] 33)).alloc (.cells #[.slice a l.length cap, .slice a' b.length cap'] 27) = W) := by show _ = _; rw [hW0, hW]
  clear hF hP r0 b0 b1 hW0 hW hs0
  go_enter Try.func15, Try.ntmps15
  go_wp2_with fail
  rw [HW.out]
  refine (fault2_any _ a a' cap cap' l b c HFC.out _ hl hlb hrow1 hrow1' P1).mono ?_
  rintro e z1 ⟨rfl, bz1⟩
  have r2 := r1.keep bz1
  have B2 := B1.trans (bz1.mono B1.size)
  have hrow2 := hrow.keep B2
  have hsz := r2.lt
  clear P1 r1 B1 hrow1 hrow1' bz1 HW HFC
  by_cases hc0 : c = 0
  · subst hc0
    obtain ⟨hr1, hr2, p, hj, hrp⟩ : rightV l ∧ rightV b ∧ ∃ p, JoinIs l b m p ∧ (r = true ↔ p) := by
      rcases HP.out with ⟨_, e, _⟩ | ⟨_, _, _, e, _⟩ | ⟨h1, h2, _, h3⟩
      · cases e
      · cases e
      · exact ⟨h1, h2, h3⟩
    have HR1 : Hid (rightV l) := hr1
    have HR2 : Hid (rightV b) := hr2
    have hl6 := rightV_len hr1
    have hb6 := rightV_len hr2
    have HN : Hid (r = true ↔ newsV l m) := hrp.trans (join_facts (rightV_rise hr1) hj).2.2
    have HMR : Hid (rightV m) := join_right hr1 hr2 hj
    have hml := join_len hr1 hr2 hj
    have HJ : Hid (RestIs l b m) := ⟨p, hj⟩
    clear HP hr1 hr2 hj hrp
    go_wp2_with fail
    refine (copiedF_any a cap l _ hl hrow2).mono ?_
    rintro e z2 ⟨v2, rfl, own2, bz2⟩
    have r3 := r2.keep bz2
    have B3 := B2.trans (bz2.mono B2.size)
    obtain ⟨y, hy⟩ : ∃ y, z1.heap.size = y := ⟨_, rfl⟩
    rw [hy] at own2
    have hyw : w.heap.size < y := by omega
    have hy2 : y ≤ z2.heap.size := by rw [← hy]; exact bz2.size
    clear r2 B2 hrow2 bz2 hy hsz
    go_wp2
    go_loopw [21, 6] (fun i v wr => ∃ (k : Nat) (x : List FactV), k ≤ b.length ∧ i = .int .i64 k ∧ rightV x ∧ RestIs x (b.drop k) m ∧ wr.ownsRow y 24 3 v x.length (cellsOf FactV.cells x) ∧ y ≤ wr.heap.size ∧ BlkIs wr w.heap.size 33 #[.slice none 0 0, .bool false, .int .i64 0] ∧ Below w.heap.size w wr) (fun i _ _ => b.length - (intOf i).toNat)
    case atStart => exact ⟨0, l, Nat.zero_le _, rfl, HR1.out, HJ.out, own2, hy2, r3, B3⟩
    case round =>
      clear own2 r3 B3 HJ hy2
      obtain ⟨k, x, hk, rfl, hxr, hrest, hown, hyr, hR, hB⟩ := hrel
      have HX : Hid (rightV x) := hxr
      have HT : Hid (RestIs x (b.drop k) m) := hrest
      clear hxr hrest
      by_cases hkb : k < b.length
      · obtain ⟨bb, off, rfl⟩ := hrow'.addr (by rw [cellsOf_length FactV.cells_len]; omega)
        obtain ⟨f, hlf⟩ : ∃ f, b[k] = f := ⟨_, rfl⟩
        have hok : f.ok := rightV_ok HR2.out f (hlf ▸ List.getElem_mem hkb)
        obtain ⟨kk, hpl, HT2⟩ : ∃ kk, placeF x f.node kk ∧ Hid (RestIs (putL x f kk) (b.drop (k + 1)) m) := by
          obtain ⟨q, hq⟩ := HT.out
          rw [List.drop_eq_getElem_cons hkb, hlf] at hq
          obtain ⟨kk, q', h1, h2, _⟩ := hq
          exact ⟨kk, h1, ⟨q', h2⟩⟩
        have HX2 : Hid (rightV (putL x f kk)) := put_right HX.out hok hpl
        have HOK : Hid f.ok := hok
        have HPL : Hid (placeF x f.node kk) := hpl
        obtain ⟨f1, f2, f3⟩ := f
        obtain ⟨_, q0, q1, q2⟩ := (hrow'.keep hB).fact hkb hlf
        dsimp only at q0 q1 q2
        have hk' : (k : Int) < (b.length : Int) := by omega
        have bA : Below wr.heap.size wr (wr.alloc (.cells #[.int .i64 f1, .int .i64 f2, .int .i64 f3] 24)) := (Below.refl _ _).alloc (Nat.le_refl _) _
        have hownA := rowBelow hown bA
        have hRA := hR.keep bA
        have hBA := hB.trans (bA.mono hB.size)
        have hyA : y ≤ (wr.alloc (.cells #[.int .i64 f1, .int .i64 f2, .int .i64 f3] 24)).heap.size := Nat.le_trans hyr bA.size
        obtain ⟨s1, s2, s3, hsh⟩ := rowShape hown
        subst hsh
        have HXX := HX
        clear hlf hok hpl HT HX hown hR hB bA
        go_wp2_with fail
        refine (withFact_any _ x ⟨f1, f2, f3⟩ kk y _ HXX.out HOK.out HPL.out hownA hyA).mono ?_
        rintro e z4 ⟨v4, rfl, own4, kz4⟩
        have hB4 : Below w.heap.size w z4 := hBA.trans (kz4.toBelow hBA.size (fun q hq e => by have := (hownA.lt q e).1; omega))
        have hR4 := hRA.keepK kz4 (fun e => by have := (hownA.lt _ e).1; omega)
        have hy4 := Nat.le_trans hyA kz4.size
        clear kz4 hownA hRA hBA hyA q0 q1 q2
        go_wp2
        go_roundw
        case rel => exact ⟨k + 1, _, by omega, by go_num, HX2.out, HT2.out, own4, hy4, hR4, hB4⟩
        case measure => simp [intOf]; omega
      · obtain rfl : k = b.length := by omega
        obtain rfl : m = x := by
          obtain ⟨q, hq⟩ := HT.out
          rw [List.drop_length] at hq
          exact hq.1
        have hrow4 := hrow.keep hB
        obtain ⟨a5, c5, e5, o5⟩ := OwnsRow.cellRow hown
        subst e5
        clear HT
        go_wp2_with fail
        refine (hasNews_is a a5 cap c5 l m _ r HN.out (by omega) (by omega) (rightV_ok HR1.out) (rightV_ok HMR.out) hrow4 o5).mono ?_
        rintro e z5 ⟨rfl, bz5⟩
        have r5 := hR.keep bz5
        have B5 := hB.trans (bz5.mono hB.size)
        have own5 := rowLe (rowBelow hown bz5) (show w.heap.size ≤ y by omega)
        have HO5 : Hid (∀ q, Value.ownBlock (.slice a5 m.length c5) = some q → y ≤ q) := fun q e => (hown.lt q e).1
        clear hR hB hown o5 bz5 HN HMR HX hrow4
        have g0 := r5.cell 0
        have fz0 := r5.fz 0
        have g1 := r5.cell 1
        have fz1 := r5.fz 1
        have g2 := r5.cell 2
        have fz2 := r5.fz 2
        have KZ := keeps_three z5 (w.heap.size) (.slice a5 m.length c5) (.bool r) (.int .i64 0)
        have HBZ : Hid (Below w.heap.size w (((z5.setCell ⟨w.heap.size, 0, none⟩ (.slice a5 m.length c5)).setCell ⟨w.heap.size, 1, none⟩ (.bool r)).setCell ⟨w.heap.size, 2, none⟩ (.int .i64 0))) := B5.trans (KZ.toBelow B5.size (fun q hq => by omega))
        have HRZ : Hid ((((z5.setCell ⟨w.heap.size, 0, none⟩ (.slice a5 m.length c5)).setCell ⟨w.heap.size, 1, none⟩ (.bool r)).setCell ⟨w.heap.size, 2, none⟩ (.int .i64 0)).ownsRow w.heap.size 24 3 (.slice a5 m.length c5) m.length (cellsOf FactV.cells m)) := rowKeep own5 KZ (fun q hq => by have := HO5.out q hq; omega)
        clear KZ
        go_wp2
        have QZ := blk_put3 r5 (.slice a5 m.length c5) (.bool r) (.int .i64 0)
        obtain ⟨z6, hz6⟩ : ∃ z6, (((z5.setCell ⟨w.heap.size, 0, none⟩ (.slice a5 m.length c5)).setCell ⟨w.heap.size, 1, none⟩ (.bool r)).setCell ⟨w.heap.size, 2, none⟩ (.int .i64 0)) = z6 := ⟨_, rfl⟩
        rw [hz6] at HBZ QZ HRZ ⊢
        have e0 := QZ.cell 0
        have e1 := QZ.cell 1
        have e2 := QZ.cell 2
        refine bodyPost_ret (v := outV (.slice a5 m.length c5) r 0) (by simp [results, Try.results15, go_sem, outV, e0, e1, e2]) rfl ?_
        exact ⟨_, rfl, HRZ.out, HBZ.out⟩
  · obtain ⟨hm, hrr⟩ : m = [] ∧ r = false := by
      rcases HP.out with ⟨_, _, e2, e3⟩ | ⟨_, _, _, _, e2, e3⟩ | ⟨_, _, e, _⟩
      · exact ⟨e2, e3⟩
      · exact ⟨e2, e3⟩
      · exact absurd e hc0
    subst hm hrr
    have hc' : (c == 0) = false := beq_eq_false_iff_ne.2 hc0
    clear HP hc0
    have g0 := r2.cell 0
    have fz0 := r2.fz 0
    have g1 := r2.cell 1
    have fz1 := r2.fz 1
    have g2 := r2.cell 2
    have fz2 := r2.fz 2
    have KZ := keeps_three z1 (w.heap.size) (.slice none 0 0) (.bool false) (.int .i64 c)
    have HBZ : Hid (Below w.heap.size w (((z1.setCell ⟨w.heap.size, 0, none⟩ (.slice none 0 0)).setCell ⟨w.heap.size, 1, none⟩ (.bool false)).setCell ⟨w.heap.size, 2, none⟩ (.int .i64 c))) := B2.trans (KZ.toBelow B2.size (fun q hq => by omega))
    clear KZ
    go_wp2
    have QZ := blk_put3 r2 (.slice none 0 0) (.bool false) (.int .i64 c)
    obtain ⟨z6, hz6⟩ : ∃ z6, (((z1.setCell ⟨w.heap.size, 0, none⟩ (.slice none 0 0)).setCell ⟨w.heap.size, 1, none⟩ (.bool false)).setCell ⟨w.heap.size, 2, none⟩ (.int .i64 c)) = z6 := ⟨_, rfl⟩
    rw [hz6] at HBZ QZ ⊢
    have e0 := QZ.cell 0
    have e1 := QZ.cell 1
    have e2 := QZ.cell 2
    refine bodyPost_ret (v := outV (.slice none 0 0) false c) (by simp [results, Try.results15, go_sem, outV, e0, e1, e2]) rfl ?_
    exact ⟨_, rfl, World.ownsRow_nil _ _ _ _, HBZ.out⟩
end Go.Proofs.Ytdgcmjhnglacnaa
