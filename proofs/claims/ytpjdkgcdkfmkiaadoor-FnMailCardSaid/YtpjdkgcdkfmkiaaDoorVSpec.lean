/- The contracts of the specification's ViewPut and ViewJoin. -/
import Derived.Test.YtpjdkgcdkfmkiaaDoorLPut
import Derived.Test.YtpjdkgcdkfmkiaaDoorVRightS
namespace Go.Proofs.YtpjdkgcdkfmkiaaDoor
open Go Go.RowKit
set_option linter.unusedVariables false

set_option maxRecDepth 100000 in
theorem ill_any (c : Int) (w : World) : Calls Tryd.prog 76 #[.int .i64 c] w fun e w' => e = .returned (outV (.slice none 0 0) false c) ∧ Below w.heap.size w w' := by
  have r0 := BlkIs.new w 103 #[.slice none 0 0, .bool false, .int .i64 0]
  have b0 := (Below.refl w.heap.size w).alloc (Nat.le_refl _) (.cells #[.slice none 0 0, .bool false, .int .i64 0] 103)
  go_enter Tryd.func76, Tryd.ntmps76
  go_wp2
  exact bodyPost_ret (v := outV (.slice none 0 0) false c) (by simp [results, Tryd.results76, go_sem, outV]) rfl ⟨rfl, (Below.refl _ _).alloc (Nat.le_refl _) _⟩
set_option maxHeartbeats 4000000 in
set_option maxRecDepth 100000 in
theorem specVPut_any (b off cap : Nat) (l : List FactV) (f : FactV) (c : Int) (m : List FactV) (r : Bool) (w : World) (hP : PutIs l f c m r) (hl : l.length ≤ 1048576) (hcap : l.length ≤ cap) (hcm : (cap : Int) ≤ 9223372036854775807) (hrow : CellRow w (some ⟨b, off, none⟩) (cellsOf FactV.cells l)) :
    Calls Tryd.prog 64 #[.slice (some ⟨b, off, none⟩) l.length cap, f.val] w (OutPost c m r w) := by
  have HP : Hid (PutIs l f c m r) := hP
  obtain ⟨rl, hrl⟩ := tells_bool (rightV l)
  have HRL : Hid (rl = true ↔ rightV l) := hrl
  obtain ⟨rf, hrf⟩ := tells_bool f.ok
  have HRF : Hid (rf = true ↔ f.ok) := hrf
  have b0 := ((Below.refl w.heap.size w).alloc (Nat.le_refl _) (.cells #[.int .i64 f.node, .int .i64 f.inc, .int .i64 f.st] 43)).alloc (by simp) (.cells #[.slice none 0 0, .bool false, .int .i64 0] 103)
  have p0 := (FBlk.new w f).keep ((Below.refl _ _).alloc (Nat.le_refl _) (.cells #[.slice none 0 0, .bool false, .int .i64 0] 103))
  have r0 := BlkIs.new (w.alloc (.cells #[.int .i64 f.node, .int .i64 f.inc, .int .i64 f.st] 43)) 103 #[.slice none 0 0, .bool false, .int .i64 0]
  rw [World.size_alloc] at r0
  obtain ⟨f1, f2, f3⟩ := f
  dsimp only at p0 b0 r0
  have hrow0 := hrow.keep b0
  obtain ⟨W, hW⟩ : ∃ W, (w.alloc (.cells #[.int .i64 f1, .int .i64 f2, .int .i64 f3] 43)).alloc (.cells #[.slice none 0 0, .bool false, .int .i64 0] 103) = W := ⟨_, rfl⟩
  rw [hW] at b0 p0 r0 hrow0
  have HW : Hid (_ = W) := hW
  have hsz := r0.lt
  clear hP hrl hrf hrow hW
  unfold FactV.val
  go_enter Tryd.func64, Tryd.ntmps64
  by_cases h4 : 400 < (l.length : Int)
  · obtain ⟨rfl, rfl, rfl⟩ : c = 2 ∧ m = [] ∧ r = false := by
      rcases HP.out with ⟨_, h⟩ | ⟨h, _⟩ | ⟨h, _⟩
      · exact h
      · omega
      · have := rightV_len h; omega
    clear HP HRL HRF
    go_upto_region 2 with fail
    rw [HW.out]
    clear HW
    go_wp2_with fail
    refine (ill_any 2 _).mono ?_
    rintro e z9 ⟨rfl, bz9⟩
    have Q9 := r0.keep bz9
    have B9 := b0.trans (bz9.mono b0.size)
    unfold outV
    have QZ0 := Q9
    have g0 := QZ0.cell 0
    have g1 := QZ0.cell 1
    have g2 := QZ0.cell 2
    have fz0 := QZ0.fz 0
    have fz1 := QZ0.fz 1
    have fz2 := QZ0.fz 2
    have KZ := keeps_three z9 (w.heap.size + 1) (.slice none 0 0) (.bool false) (.int .i64 2)
    have HBZ : Hid (Below w.heap.size w (((z9.setCell ⟨w.heap.size + 1, 0, none⟩ (.slice none 0 0)).setCell ⟨w.heap.size + 1, 1, none⟩ (.bool false)).setCell ⟨w.heap.size + 1, 2, none⟩ (.int .i64 2))) := B9.trans (KZ.toBelow B9.size (fun q hq => by omega))
    clear KZ
    go_wp2
    have QZ := blk_put3 QZ0 (.slice none 0 0) (.bool false) (.int .i64 2)
    obtain ⟨z6, hz6⟩ : ∃ z6, (((z9.setCell ⟨w.heap.size + 1, 0, none⟩ (.slice none 0 0)).setCell ⟨w.heap.size + 1, 1, none⟩ (.bool false)).setCell ⟨w.heap.size + 1, 2, none⟩ (.int .i64 2)) = z6 := ⟨_, rfl⟩
    rw [hz6] at HBZ QZ ⊢
    have e0 := QZ.cell 0
    have e1 := QZ.cell 1
    have e2 := QZ.cell 2
    refine bodyPost_ret (v := outV (.slice none 0 0) false 2) (by simp [results, Tryd.results64, go_sem, outV, e0, e1, e2]) rfl ?_
    exact ⟨_, rfl, World.ownsRow_nil _ _ _ _, HBZ.out⟩
  go_wp2_with fail
  rw [HW.out]
  refine (specVRight_is _ cap l _ rl HRL.out hl hrow0).mono ?_
  rintro e z1 ⟨rfl, bz1⟩
  have p1 := p0.keep bz1
  have r1 := r0.keep bz1
  have B1 := b0.trans (bz1.mono b0.size)
  have hrow1 := hrow0.keep bz1
  clear p0 r0 b0 hrow0 bz1 HW
  cases rl with
  | false =>
    obtain ⟨rfl, rfl, rfl⟩ : c = 1 ∧ m = [] ∧ r = false := by
      rcases HP.out with ⟨h, _⟩ | ⟨_, _, h⟩ | ⟨h, _⟩
      · omega
      · exact h
      · have := HRL.out.2 h; cases this
    clear HP HRL HRF
    go_wp2_with fail
    refine (ill_any 1 _).mono ?_
    rintro e z9 ⟨rfl, bz9⟩
    have Q9 := r1.keep bz9
    have B9 := B1.trans (bz9.mono B1.size)
    unfold outV
    have QZ0 := Q9
    have g0 := QZ0.cell 0
    have g1 := QZ0.cell 1
    have g2 := QZ0.cell 2
    have fz0 := QZ0.fz 0
    have fz1 := QZ0.fz 1
    have fz2 := QZ0.fz 2
    have KZ := keeps_three z9 (w.heap.size + 1) (.slice none 0 0) (.bool false) (.int .i64 1)
    have HBZ : Hid (Below w.heap.size w (((z9.setCell ⟨w.heap.size + 1, 0, none⟩ (.slice none 0 0)).setCell ⟨w.heap.size + 1, 1, none⟩ (.bool false)).setCell ⟨w.heap.size + 1, 2, none⟩ (.int .i64 1))) := B9.trans (KZ.toBelow B9.size (fun q hq => by omega))
    clear KZ
    go_wp2
    have QZ := blk_put3 QZ0 (.slice none 0 0) (.bool false) (.int .i64 1)
    obtain ⟨z6, hz6⟩ : ∃ z6, (((z9.setCell ⟨w.heap.size + 1, 0, none⟩ (.slice none 0 0)).setCell ⟨w.heap.size + 1, 1, none⟩ (.bool false)).setCell ⟨w.heap.size + 1, 2, none⟩ (.int .i64 1)) = z6 := ⟨_, rfl⟩
    rw [hz6] at HBZ QZ ⊢
    have e0 := QZ.cell 0
    have e1 := QZ.cell 1
    have e2 := QZ.cell 2
    refine bodyPost_ret (v := outV (.slice none 0 0) false 1) (by simp [results, Tryd.results64, go_sem, outV, e0, e1, e2]) rfl ?_
    exact ⟨_, rfl, World.ownsRow_nil _ _ _ _, HBZ.out⟩
  | true =>
    have HRI : Hid (rightV l) := HRL.out.1 rfl
    have hl6 := rightV_len HRI.out
    clear HRL
    have p1' := p1
    obtain ⟨_, s0, s1, s2⟩ := p1'
    dsimp only at s0 s1 s2
    go_wp2_with fail
    refine (specFact_is ⟨f1, f2, f3⟩ _ rf HRF.out).mono ?_
    rintro e z2 ⟨rfl, bz2⟩
    have p2 := p1.keep bz2
    have r2 := r1.keep bz2
    have B2 := B1.trans (bz2.mono B1.size)
    have hrow2 := hrow1.keep bz2
    have hsz2 := r2.lt
    clear p1 r1 B1 hrow1 bz2 s0 s1 s2
    cases rf with
    | false =>
      obtain ⟨rfl, rfl, rfl⟩ : c = 1 ∧ m = [] ∧ r = false := by
        rcases HP.out with ⟨h, _⟩ | ⟨_, _, h⟩ | ⟨_, h, _⟩
        · omega
        · exact h
        · have := HRF.out.2 h; cases this
      clear HP HRF
      go_wp2_with fail
      refine (ill_any 1 _).mono ?_
      rintro e z9 ⟨rfl, bz9⟩
      have Q9 := r2.keep bz9
      have B9 := B2.trans (bz9.mono B2.size)
      unfold outV
      have QZ0 := Q9
      have g0 := QZ0.cell 0
      have g1 := QZ0.cell 1
      have g2 := QZ0.cell 2
      have fz0 := QZ0.fz 0
      have fz1 := QZ0.fz 1
      have fz2 := QZ0.fz 2
      have KZ := keeps_three z9 (w.heap.size + 1) (.slice none 0 0) (.bool false) (.int .i64 1)
      have HBZ : Hid (Below w.heap.size w (((z9.setCell ⟨w.heap.size + 1, 0, none⟩ (.slice none 0 0)).setCell ⟨w.heap.size + 1, 1, none⟩ (.bool false)).setCell ⟨w.heap.size + 1, 2, none⟩ (.int .i64 1))) := B9.trans (KZ.toBelow B9.size (fun q hq => by omega))
      clear KZ
      go_wp2
      have QZ := blk_put3 QZ0 (.slice none 0 0) (.bool false) (.int .i64 1)
      obtain ⟨z6, hz6⟩ : ∃ z6, (((z9.setCell ⟨w.heap.size + 1, 0, none⟩ (.slice none 0 0)).setCell ⟨w.heap.size + 1, 1, none⟩ (.bool false)).setCell ⟨w.heap.size + 1, 2, none⟩ (.int .i64 1)) = z6 := ⟨_, rfl⟩
      rw [hz6] at HBZ QZ ⊢
      have e0 := QZ.cell 0
      have e1 := QZ.cell 1
      have e2 := QZ.cell 2
      refine bodyPost_ret (v := outV (.slice none 0 0) false 1) (by simp [results, Tryd.results64, go_sem, outV, e0, e1, e2]) rfl ?_
      exact ⟨_, rfl, World.ownsRow_nil _ _ _ _, HBZ.out⟩
    | true =>
      have hok : FactV.ok ⟨f1, f2, f3⟩ := HRF.out.1 rfl
      obtain ⟨hc, k, hk, hm, hrr⟩ : c = 0 ∧ ∃ k, placeF l f1 k ∧ m = putL l ⟨f1, f2, f3⟩ k ∧ (r = true ↔ newsAt l ⟨f1, f2, f3⟩ k) := by
        rcases HP.out with ⟨h, _⟩ | ⟨_, h, _⟩ | ⟨_, _, e1, k, e2, e3, e4⟩
        · omega
        · exact absurd h (fun q => q.elim (fun q => q HRI.out) (fun q => q hok))
        · exact ⟨e1, k, e2, e3, e4⟩
      subst hc hm
      have HK : Hid (placeF l f1 k) := hk
      have HN : Hid (r = true ↔ newsAt l ⟨f1, f2, f3⟩ k) := hrr
      clear HP HRF hok hk hrr
      obtain ⟨_, s0, s1, s2⟩ := p2
      dsimp only at s0 s1 s2
      go_wp2_with fail
      refine (specL04Put_any b off cap k l ⟨f1, f2, f3⟩ r _ (by omega) (rightV_rise HRI.out) HK.out HN.out hcap hcm hrow2).mono ?_
      rintro e z3 ⟨v3, rfl, own3, bz3⟩
      have r3 := r2.keep bz3
      have B3 := B2.trans (bz3.mono B2.size)
      have hown : ∀ q, v3.ownBlock = some q → z2.heap.size ≤ q := fun q e => (own3.lt q e).1
      have own3w := rowLe own3 (show w.heap.size ≤ z2.heap.size by omega)
      obtain ⟨va, vn, vc, rfl⟩ := rowShape own3
      have HO : Hid (∀ q, Value.ownBlock (.slice va vn vc) = some q → z2.heap.size ≤ q) := hown
      clear own3 r2 B2 hrow2 bz3 hown s0 s1 s2
      unfold outV
      have QZ0 := r3
      have g0 := QZ0.cell 0
      have g1 := QZ0.cell 1
      have g2 := QZ0.cell 2
      have fz0 := QZ0.fz 0
      have fz1 := QZ0.fz 1
      have fz2 := QZ0.fz 2
      have KZ := keeps_three z3 (w.heap.size + 1) (.slice va vn vc) (.bool r) (.int .i64 0)
      have HBZ : Hid (Below w.heap.size w (((z3.setCell ⟨w.heap.size + 1, 0, none⟩ (.slice va vn vc)).setCell ⟨w.heap.size + 1, 1, none⟩ (.bool r)).setCell ⟨w.heap.size + 1, 2, none⟩ (.int .i64 0))) := B3.trans (KZ.toBelow B3.size (fun q hq => by omega))
      have HRZ : Hid ((((z3.setCell ⟨w.heap.size + 1, 0, none⟩ (.slice va vn vc)).setCell ⟨w.heap.size + 1, 1, none⟩ (.bool r)).setCell ⟨w.heap.size + 1, 2, none⟩ (.int .i64 0)).ownsRow w.heap.size 43 3 (.slice va vn vc) (putL l ⟨f1, f2, f3⟩ k).length (cellsOf FactV.cells (putL l ⟨f1, f2, f3⟩ k))) := rowKeep own3w KZ (fun q hq => by have := HO.out q hq; omega)
      clear KZ
      go_wp2
      have QZ := blk_put3 QZ0 (.slice va vn vc) (.bool r) (.int .i64 0)
      obtain ⟨z6, hz6⟩ : ∃ z6, (((z3.setCell ⟨w.heap.size + 1, 0, none⟩ (.slice va vn vc)).setCell ⟨w.heap.size + 1, 1, none⟩ (.bool r)).setCell ⟨w.heap.size + 1, 2, none⟩ (.int .i64 0)) = z6 := ⟨_, rfl⟩
      rw [hz6] at HBZ QZ HRZ ⊢
      have e0 := QZ.cell 0
      have e1 := QZ.cell 1
      have e2 := QZ.cell 2
      refine bodyPost_ret (v := outV (.slice va vn vc) r 0) (by simp [results, Tryd.results64, go_sem, outV, e0, e1, e2]) rfl ?_
      exact ⟨_, rfl, HRZ.out, HBZ.out⟩
/-- What is still to be put comes to m, and whether there was news. -/
def RestN (x r m : List FactV) (p : Prop) (rr : Bool) : Prop := ∃ q : Prop, JoinIs x r m q ∧ (p ↔ rr = true ∨ q)
theorem own_caps {w : World} {base g n c : Nat} {xs : List Value} (h : w.ownsRow base 43 3 (.slice (some ⟨g, 0, none⟩) n c) n xs) : n ≤ c ∧ (c : Int) ≤ 9223372036854775807 ∧ g < w.heap.size ∧ base ≤ g := by
  have hl := h.lt g rfl
  rcases h.2 with ⟨e, _⟩ | ⟨g', c', cur, e, _, _, h2, h3, _⟩
  · cases e
  · simp only [Value.slice.injEq, Option.some.injEq, Addr.mk.injEq, and_true, true_and] at e
    obtain ⟨rfl, rfl⟩ := e
    exact ⟨h2, by unfold maxLen at h3; omega, hl.2, hl.1⟩
theorem own_some {w : World} {base n : Nat} {v : Value} {xs : List Value} (h : w.ownsRow base 43 3 v n xs) (hn : 0 < n) : ∃ g c, v = .slice (some ⟨g, 0, none⟩) n c := by
  rcases h.2 with ⟨_, e⟩ | ⟨g, c, _, e, _⟩
  · omega
  · exact ⟨g, c, e⟩
theorem putL_pos {l : List FactV} {f : FactV} {k : Nat} (hk : k ≤ l.length) : 0 < (putL l f k).length := by
  unfold putL
  split
  · simp
  · split <;> (simp; omega)
end Go.Proofs.YtpjdkgcdkfmkiaaDoor
