/- The contracts of the specification's ViewPut and ViewJoin. -/
import Derived.Test.YtdgcmjhnglacnaaLPut
import Derived.Test.YtdgcmjhnglacnaaVRightS
namespace Go.Proofs.Ytdgcmjhnglacnaa
open Go Go.RowKit
set_option linter.unusedVariables false

set_option maxRecDepth 100000 in
theorem ill_any (c : Int) (w : World) : Calls Try.prog 58 #[.int .i64 c] w fun e w' => e = .returned (outV (.slice none 0 0) false c) ∧ Below w.heap.size w w' := by
  have r0 := BlkIs.new w 33 #[.slice none 0 0, .bool false, .int .i64 0]
  have b0 := (Below.refl w.heap.size w).alloc (Nat.le_refl _) (.cells #[.slice none 0 0, .bool false, .int .i64 0] 33)
  go_enter Try.func58, Try.ntmps58
  go_wp2
  exact bodyPost_ret (v := outV (.slice none 0 0) false c) (by simp [results, Try.results58, go_sem, outV]) rfl ⟨rfl, (Below.refl _ _).alloc (Nat.le_refl _) _⟩
set_option maxHeartbeats 4000000 in
set_option maxRecDepth 100000 in
theorem specPut_any (b off cap : Nat) (l : List FactV) (f : FactV) (c : Int) (m : List FactV) (r : Bool) (w : World) (hP : PutIs l f c m r) (hl : l.length ≤ 1048576) (hcap : l.length ≤ cap) (hcm : (cap : Int) ≤ 9223372036854775807) (hrow : CellRow w (some ⟨b, off, none⟩) (cellsOf FactV.cells l)) :
    Calls Try.prog 23 #[.slice (some ⟨b, off, none⟩) l.length cap, f.val] w (OutPost c m r w) := by
  have HP : Hid (PutIs l f c m r) := hP
  obtain ⟨rl, hrl⟩ := tells_bool (rightV l)
  have HRL : Hid (rl = true ↔ rightV l) := hrl
  obtain ⟨rf, hrf⟩ := tells_bool f.ok
  have HRF : Hid (rf = true ↔ f.ok) := hrf
  have b0 := ((Below.refl w.heap.size w).alloc (Nat.le_refl _) (.cells #[.int .i64 f.node, .int .i64 f.inc, .int .i64 f.st] 24)).alloc (by simp) (.cells #[.slice none 0 0, .bool false, .int .i64 0] 33)
  have p0 := (FBlk.new w f).keep ((Below.refl _ _).alloc (Nat.le_refl _) (.cells #[.slice none 0 0, .bool false, .int .i64 0] 33))
  have r0 := BlkIs.new (w.alloc (.cells #[.int .i64 f.node, .int .i64 f.inc, .int .i64 f.st] 24)) 33 #[.slice none 0 0, .bool false, .int .i64 0]
  rw [World.size_alloc] at r0
  obtain ⟨f1, f2, f3⟩ := f
  dsimp only at p0 b0 r0
  have hrow0 := hrow.keep b0
  obtain ⟨W, hW⟩ : ∃ W, (w.alloc (.cells #[.int .i64 f1, .int .i64 f2, .int .i64 f3] 24)).alloc (.cells #[.slice none 0 0, .bool false, .int .i64 0] 33) = W := ⟨_, rfl⟩
  rw [hW] at b0 p0 r0 hrow0
  have HW : Hid (_ = W) := hW
  have hsz := r0.lt
  clear hP hrl hrf hrow hW
  unfold FactV.val
  go_enter Try.func23, Try.ntmps23
  by_cases h4 : 400 < (l.length : Int)
  · obtain ⟨rfl, rfl, rfl⟩ : c = 2 ∧ m = [] ∧ r = false := by
      rcases HP.out with ⟨_, h⟩ | ⟨h, _⟩ | ⟨h, _⟩
      · exact h
      · omega
      · have := rightV_len h; omega
    clear HP HRL HRF
    go_upto_region 2 with fail
    rw [HW.out]
    clear HW
    go_wp2_with fail
    refine (ill_any 2 _).mono ?_
    rintro e z9 ⟨rfl, bz9⟩
    have Q9 := r0.keep bz9
    have B9 := b0.trans (bz9.mono b0.size)
    unfold outV
    have QZ0 := Q9
    have g0 := QZ0.cell 0
    have g1 := QZ0.cell 1
    have g2 := QZ0.cell 2
    have fz0 := QZ0.fz 0
    have fz1 := QZ0.fz 1
    have fz2 := QZ0.fz 2
    have KZ := keeps_three z9 (w.heap.size + 1) (.slice none 0 0) (.bool false) (.int .i64 2)
    have HBZ : Hid (Below w.heap.size w (((z9.setCell ⟨w.heap.size + 1, 0, none⟩ (.slice none 0 0)).setCell ⟨w.heap.size + 1, 1, none⟩ (.bool false)).setCell ⟨w.heap.size + 1, 2, none⟩ (.int .i64 2))) := B9.trans (KZ.toBelow B9.size (fun q hq => by omega))
    clear KZ
    go_wp2
    have QZ := blk_put3 QZ0 (.slice none 0 0) (.bool false) (.int .i64 2)
    obtain ⟨z6, hz6⟩ : ∃ z6, (((z9.setCell ⟨w.heap.size + 1, 0, none⟩ (.slice none 0 0)).setCell ⟨w.heap.size + 1, 1, none⟩ (.bool false)).setCell ⟨w.heap.size + 1, 2, none⟩ (.int .i64 2)) = z6 := ⟨_, rfl⟩
    rw [hz6] at HBZ QZ ⊢
    have e0 := QZ.cell 0
    have e1 := QZ.cell 1
    have e2 := QZ.cell 2
    refine bodyPost_ret (v := outV (.slice none 0 0) false 2) (by simp [results, Try.results23, go_sem, outV, e0, e1, e2]) rfl ?_
    exact ⟨_, rfl, World.ownsRow_nil _ _ _ _, HBZ.out⟩
  go_wp2_with fail
  rw [HW.out]
  refine (specVRight_is _ cap l _ rl HRL.out hl hrow0).mono ?_
  rintro e z1 ⟨rfl, bz1⟩
  have p1 := p0.keep bz1
  have r1 := r0.keep bz1
  have B1 := b0.trans (bz1.mono b0.size)
  have hrow1 := hrow0.keep bz1
  clear p0 r0 b0 hrow0 bz1 HW
  cases rl with
  | false =>
    obtain ⟨rfl, rfl, rfl⟩ : c = 1 ∧ m = [] ∧ r = false := by
      rcases HP.out with ⟨h, _⟩ | ⟨_, _, h⟩ | ⟨h, _⟩
      · omega
      · exact h
      · have := HRL.out.2 h; cases this
    clear HP HRL HRF
    go_wp2_with fail
    refine (ill_any 1 _).mono ?_
    rintro e z9 ⟨rfl, bz9⟩
    have Q9 := r1.keep bz9
    have B9 := B1.trans (bz9.mono B1.size)
    unfold outV
    have QZ0 := Q9
    have g0 := QZ0.cell 0
    have g1 := QZ0.cell 1
    have g2 := QZ0.cell 2
    have fz0 := QZ0.fz 0
    have fz1 := QZ0.fz 1
    have fz2 := QZ0.fz 2
    have KZ := keeps_three z9 (w.heap.size + 1) (.slice none 0 0) (.bool false) (.int .i64 1)
    have HBZ : Hid (Below w.heap.size w (((z9.setCell ⟨w.heap.size + 1, 0, none⟩ (.slice none 0 0)).setCell ⟨w.heap.size + 1, 1, none⟩ (.bool false)).setCell ⟨w.heap.size + 1, 2, none⟩ (.int .i64 1))) := B9.trans (KZ.toBelow B9.size (fun q hq => by omega))
    clear KZ
    go_wp2
    have QZ := blk_put3 QZ0 (.slice none 0 0) (.bool false) (.int .i64 1)
    obtain ⟨z6, hz6⟩ : ∃ z6, (((z9.setCell ⟨w.heap.size + 1, 0, none⟩ (.slice none 0 0)).setCell ⟨w.heap.size + 1, 1, none⟩ (.bool false)).setCell ⟨w.heap.size + 1, 2, none⟩ (.int .i64 1)) = z6 := ⟨_, rfl⟩
    rw [hz6] at HBZ QZ ⊢
    have e0 := QZ.cell 0
    have e1 := QZ.cell 1
    have e2 := QZ.cell 2
    refine bodyPost_ret (v := outV (.slice none 0 0) false 1) (by simp [results, Try.results23, go_sem, outV, e0, e1, e2]) rfl ?_
    exact ⟨_, rfl, World.ownsRow_nil _ _ _ _, HBZ.out⟩
  | true =>
    have HRI : Hid (rightV l) := HRL.out.1 rfl
    have hl6 := rightV_len HRI.out
    clear HRL
    have p1' := p1
    obtain ⟨_, s0, s1, s2⟩ := p1'
    dsimp only at s0 s1 s2
    go_wp2_with fail
    refine (specFact_is ⟨f1, f2, f3⟩ _ rf HRF.out).mono ?_
    rintro e z2 ⟨rfl, bz2⟩
    have p2 := p1.keep bz2
    have r2 := r1.keep bz2
    have B2 := B1.trans (bz2.mono B1.size)
    have hrow2 := hrow1.keep bz2
    have hsz2 := r2.lt
    clear p1 r1 B1 hrow1 bz2 s0 s1 s2
    cases rf with
    | false =>
      obtain ⟨rfl, rfl, rfl⟩ : c = 1 ∧ m = [] ∧ r = false := by
        rcases HP.out with ⟨h, _⟩ | ⟨_, _, h⟩ | ⟨_, h, _⟩
        · omega
        · exact h
        · have := HRF.out.2 h; cases this
      clear HP HRF
      go_wp2_with fail
      refine (ill_any 1 _).mono ?_
      rintro e z9 ⟨rfl, bz9⟩
      have Q9 := r2.keep bz9
      have B9 := B2.trans (bz9.mono B2.size)
      unfold outV
      have QZ0 := Q9
      have g0 := QZ0.cell 0
      have g1 := QZ0.cell 1
      have g2 := QZ0.cell 2
      have fz0 := QZ0.fz 0
      have fz1 := QZ0.fz 1
      have fz2 := QZ0.fz 2
      have KZ := keeps_three z9 (w.heap.size + 1) (.slice none 0 0) (.bool false) (.int .i64 1)
      have HBZ : Hid (Below w.heap.size w (((z9.setCell ⟨w.heap.size + 1, 0, none⟩ (.slice none 0 0)).setCell ⟨w.heap.size + 1, 1, none⟩ (.bool false)).setCell ⟨w.heap.size + 1, 2, none⟩ (.int .i64 1))) := B9.trans (KZ.toBelow B9.size (fun q hq => by omega))
      clear KZ
      go_wp2
      have QZ := blk_put3 QZ0 (.slice none 0 0) (.bool false) (.int .i64 1)
      obtain ⟨z6, hz6⟩ : ∃ z6, (((z9.setCell ⟨w.heap.size + 1, 0, none⟩ (.slice none 0 0)).setCell ⟨w.heap.size + 1, 1, none⟩ (.bool false)).setCell ⟨w.heap.size + 1, 2, none⟩ (.int .i64 1)) = z6 := ⟨_, rfl⟩
      rw [hz6] at HBZ QZ ⊢
      have e0 := QZ.cell 0
      have e1 := QZ.cell 1
      have e2 := QZ.cell 2
      refine bodyPost_ret (v := outV (.slice none 0 0) false 1) (by simp [results, Try.results23, go_sem, outV, e0, e1, e2]) rfl ?_
      exact ⟨_, rfl, World.ownsRow_nil _ _ _ _, HBZ.out⟩
    | true =>
      have hok : FactV.ok ⟨f1, f2, f3⟩ := HRF.out.1 rfl
      obtain ⟨hc, k, hk, hm, hrr⟩ : c = 0 ∧ ∃ k, placeF l f1 k ∧ m = putL l ⟨f1, f2, f3⟩ k ∧ (r = true ↔ newsAt l ⟨f1, f2, f3⟩ k) := by
        rcases HP.out with ⟨h, _⟩ | ⟨_, h, _⟩ | ⟨_, _, e1, k, e2, e3, e4⟩
        · omega
        · exact absurd h (fun q => q.elim (fun q => q HRI.out) (fun q => q hok))
        · exact ⟨e1, k, e2, e3, e4⟩
      subst hc hm
      have HK : Hid (placeF l f1 k) := hk
      have HN : Hid (r = true ↔ newsAt l ⟨f1, f2, f3⟩ k) := hrr
      clear HP HRF hok hk hrr
      obtain ⟨_, s0, s1, s2⟩ := p2
      dsimp only at s0 s1 s2
      go_wp2_with fail
      refine (specL04Put_any b off cap k l ⟨f1, f2, f3⟩ r _ (by omega) (rightV_rise HRI.out) HK.out HN.out hcap hcm hrow2).mono ?_
      rintro e z3 ⟨v3, rfl, own3, bz3⟩
      have r3 := r2.keep bz3
      have B3 := B2.trans (bz3.mono B2.size)
      have hown : ∀ q, v3.ownBlock = some q → z2.heap.size ≤ q := fun q e => (own3.lt q e).1
      have own3w := rowLe own3 (show w.heap.size ≤ z2.heap.size by omega)
      obtain ⟨va, vn, vc, rfl⟩ := rowShape own3
      have HO : Hid (∀ q, Value.ownBlock (.slice va vn vc) = some q → z2.heap.size ≤ q) := hown
      clear own3 r2 B2 hrow2 bz3 hown s0 s1 s2
      unfold outV
      have QZ0 := r3
      have g0 := QZ0.cell 0
      have g1 := QZ0.cell 1
      have g2 := QZ0.cell 2
      have fz0 := QZ0.fz 0
      have fz1 := QZ0.fz 1
      have fz2 := QZ0.fz 2
      have KZ := keeps_three z3 (w.heap.size + 1) (.slice va vn vc) (.bool r) (.int .i64 0)
      have HBZ : Hid (Below w.heap.size w (((z3.setCell ⟨w.heap.size + 1, 0, none⟩ (.slice va vn vc)).setCell ⟨w.heap.size + 1, 1, none⟩ (.bool r)).setCell ⟨w.heap.size + 1, 2, none⟩ (.int .i64 0))) := B3.trans (KZ.toBelow B3.size (fun q hq => by omega))
      have HRZ : Hid ((((z3.setCell ⟨w.heap.size + 1, 0, none⟩ (.slice va vn vc)).setCell ⟨w.heap.size + 1, 1, none⟩ (.bool r)).setCell ⟨w.heap.size + 1, 2, none⟩ (.int .i64 0)).ownsRow w.heap.size 24 3 (.slice va vn vc) (putL l ⟨f1, f2, f3⟩ k).length (cellsOf FactV.cells (putL l ⟨f1, f2, f3⟩ k))) := rowKeep own3w KZ (fun q hq => by have := HO.out q hq; omega)
      clear KZ
      go_wp2
      have QZ := blk_put3 QZ0 (.slice va vn vc) (.bool r) (.int .i64 0)
      obtain ⟨z6, hz6⟩ : ∃ z6, (((z3.setCell ⟨w.heap.size + 1, 0, none⟩ (.slice va vn vc)).setCell ⟨w.heap.size + 1, 1, none⟩ (.bool r)).setCell ⟨w.heap.size + 1, 2, none⟩ (.int .i64 0)) = z6 := ⟨_, rfl⟩
      rw [hz6] at HBZ QZ HRZ ⊢
      have e0 := QZ.cell 0
      have e1 := QZ.cell 1
      have e2 := QZ.cell 2
      refine bodyPost_ret (v := outV (.slice va vn vc) r 0) (by simp [results, Try.results23, go_sem, outV, e0, e1, e2]) rfl ?_
      exact ⟨_, rfl, HRZ.out, HBZ.out⟩
/-- What is still to be put comes to m, and whether there was news. -/
def RestN (x r m : List FactV) (p : Prop) (rr : Bool) : Prop := ∃ q : Prop, JoinIs x r m q ∧ (p ↔ rr = true ∨ q)
theorem own_caps {w : World} {base g n c : Nat} {xs : List Value} (h : w.ownsRow base 24 3 (.slice (some ⟨g, 0, none⟩) n c) n xs) : n ≤ c ∧ (c : Int) ≤ 9223372036854775807 ∧ g < w.heap.size ∧ base ≤ g := by
  have hl := h.lt g rfl
  rcases h.2 with ⟨e, _⟩ | ⟨g', c', cur, e, _, _, h2, h3, _⟩
  · cases e
  · simp only [Value.slice.injEq, Option.some.injEq, Addr.mk.injEq, and_true, true_and] at e
    obtain ⟨rfl, rfl⟩ := e
    exact ⟨h2, by unfold maxLen at h3; omega, hl.2, hl.1⟩
theorem own_some {w : World} {base n : Nat} {v : Value} {xs : List Value} (h : w.ownsRow base 24 3 v n xs) (hn : 0 < n) : ∃ g c, v = .slice (some ⟨g, 0, none⟩) n c := by
  rcases h.2 with ⟨_, e⟩ | ⟨g, c, _, e, _⟩
  · omega
  · exact ⟨g, c, e⟩
theorem putL_pos {l : List FactV} {f : FactV} {k : Nat} (hk : k ≤ l.length) : 0 < (putL l f k).length := by
  unfold putL
  split
  · simp
  · split <;> (simp; omega)
set_option maxHeartbeats 8000000 in
set_option maxRecDepth 100000 in
theorem specJoin2_any (bA offa cap bb offb cap' : Nat) (l b : List FactV) (c : Int) (m : List FactV) (r : Bool) (w : World) (hP : JoinVIs l b c m r) (hl : l.length ≤ 1048576) (hlb : b.length ≤ 1048576) (hrow : CellRow w (some ⟨bA, offa, none⟩) (cellsOf FactV.cells l)) (hrow' : CellRow w (some ⟨bb, offb, none⟩) (cellsOf FactV.cells b)) :
    Calls Try.prog 22 #[.slice (some ⟨bA, offa, none⟩) l.length cap, .slice (some ⟨bb, offb, none⟩) b.length cap'] w (OutPost c m r w) := by
  have HP : Hid (JoinVIs l b c m r) := hP
  obtain ⟨rl, hrl⟩ := tells_bool (rightV l)
  have HRL : Hid (rl = true ↔ rightV l) := hrl
  obtain ⟨rb, hrb⟩ := tells_bool (rightV b)
  have HRB : Hid (rb = true ↔ rightV b) := hrb
  have r0 := BlkIs.new w 33 #[.slice none 0 0, .bool false, .int .i64 0]
  have b0 := (Below.refl w.heap.size w).alloc (Nat.le_refl _) (.cells #[.slice none 0 0, .bool false, .int .i64 0] 33)
  have hrow0 := hrow.keep b0
  have hrow0' := hrow'.keep b0
  obtain ⟨W, hW⟩ : ∃ W, w.alloc (.cells #[.slice none 0 0, .bool false, .int .i64 0] 33) = W := ⟨_, rfl⟩
  rw [hW] at b0 r0 hrow0 hrow0'
  have HW : Hid (_ = W) := hW
  have hsz := r0.lt
  clear hP hrl hrb hW
  go_enter Try.func22, Try.ntmps22
  by_cases h4 : 400 < (l.length : Int)
  · obtain ⟨rfl, rfl, rfl⟩ : c = 2 ∧ m = [] ∧ r = false := by
      rcases HP.out with ⟨_, h⟩ | ⟨h, _⟩ | ⟨h, _⟩
      · exact h
      · omega
      · have := rightV_len h; omega
    clear HP HRL HRB
    go_upto_region 2 with fail
    rw [HW.out]
    clear HW
    go_wp2_with fail
    refine (ill_any 2 _).mono ?_
    rintro e z9 ⟨rfl, bz9⟩
    have Q9 := r0.keep bz9
    have B9 := b0.trans (bz9.mono b0.size)
    unfold outV
    have QZ0 := Q9
    have g0 := QZ0.cell 0
    have g1 := QZ0.cell 1
    have g2 := QZ0.cell 2
    have fz0 := QZ0.fz 0
    have fz1 := QZ0.fz 1
    have fz2 := QZ0.fz 2
    have KZ := keeps_three z9 (w.heap.size) (.slice none 0 0) (.bool false) (.int .i64 2)
    have HBZ : Hid (Below w.heap.size w (((z9.setCell ⟨w.heap.size, 0, none⟩ (.slice none 0 0)).setCell ⟨w.heap.size, 1, none⟩ (.bool false)).setCell ⟨w.heap.size, 2, none⟩ (.int .i64 2))) := B9.trans (KZ.toBelow B9.size (fun q hq => by omega))
    clear KZ
    go_wp2
    have QZ := blk_put3 QZ0 (.slice none 0 0) (.bool false) (.int .i64 2)
    obtain ⟨z6, hz6⟩ : ∃ z6, (((z9.setCell ⟨w.heap.size, 0, none⟩ (.slice none 0 0)).setCell ⟨w.heap.size, 1, none⟩ (.bool false)).setCell ⟨w.heap.size, 2, none⟩ (.int .i64 2)) = z6 := ⟨_, rfl⟩
    rw [hz6] at HBZ QZ ⊢
    have e0 := QZ.cell 0
    have e1 := QZ.cell 1
    have e2 := QZ.cell 2
    refine bodyPost_ret (v := outV (.slice none 0 0) false 2) (by simp [results, Try.results22, go_sem, outV, e0, e1, e2]) rfl ?_
    exact ⟨_, rfl, World.ownsRow_nil _ _ _ _, HBZ.out⟩
  by_cases h5 : 400 < (b.length : Int)
  · obtain ⟨rfl, rfl, rfl⟩ : c = 2 ∧ m = [] ∧ r = false := by
      rcases HP.out with ⟨_, h⟩ | ⟨_, h, _⟩ | ⟨_, h, _⟩
      · exact h
      · omega
      · have := rightV_len h; omega
    clear HP HRL HRB
    go_upto_region 2 with fail
    rw [HW.out]
    clear HW
    go_wp2_with fail
    refine (ill_any 2 _).mono ?_
    rintro e z9 ⟨rfl, bz9⟩
    have Q9 := r0.keep bz9
    have B9 := b0.trans (bz9.mono b0.size)
    unfold outV
    have QZ0 := Q9
    have g0 := QZ0.cell 0
    have g1 := QZ0.cell 1
    have g2 := QZ0.cell 2
    have fz0 := QZ0.fz 0
    have fz1 := QZ0.fz 1
    have fz2 := QZ0.fz 2
    have KZ := keeps_three z9 (w.heap.size) (.slice none 0 0) (.bool false) (.int .i64 2)
    have HBZ : Hid (Below w.heap.size w (((z9.setCell ⟨w.heap.size, 0, none⟩ (.slice none 0 0)).setCell ⟨w.heap.size, 1, none⟩ (.bool false)).setCell ⟨w.heap.size, 2, none⟩ (.int .i64 2))) := B9.trans (KZ.toBelow B9.size (fun q hq => by omega))
    clear KZ
    go_wp2
    have QZ := blk_put3 QZ0 (.slice none 0 0) (.bool false) (.int .i64 2)
    obtain ⟨z6, hz6⟩ : ∃ z6, (((z9.setCell ⟨w.heap.size, 0, none⟩ (.slice none 0 0)).setCell ⟨w.heap.size, 1, none⟩ (.bool false)).setCell ⟨w.heap.size, 2, none⟩ (.int .i64 2)) = z6 := ⟨_, rfl⟩
    rw [hz6] at HBZ QZ ⊢
    have e0 := QZ.cell 0
    have e1 := QZ.cell 1
    have e2 := QZ.cell 2
    refine bodyPost_ret (v := outV (.slice none 0 0) false 2) (by simp [results, Try.results22, go_sem, outV, e0, e1, e2]) rfl ?_
    exact ⟨_, rfl, World.ownsRow_nil _ _ _ _, HBZ.out⟩
  go_wp2_with fail
  rw [HW.out]
  refine (specVRight_is _ cap l _ rl HRL.out hl hrow0).mono ?_
  rintro e z1 ⟨rfl, bz1⟩
  have r1 := r0.keep bz1
  have B1 := b0.trans (bz1.mono b0.size)
  have hrow1 := hrow0.keep bz1
  have hrow1' := hrow0'.keep bz1
  clear r0 b0 hrow0 hrow0' bz1 HW
  cases rl with
  | false =>
    obtain ⟨rfl, rfl, rfl⟩ : c = 1 ∧ m = [] ∧ r = false := by
      rcases HP.out with ⟨h, _⟩ | ⟨_, _, _, h⟩ | ⟨h, _⟩
      · omega
      · exact h
      · have := HRL.out.2 h; cases this
    clear HP HRL HRB
    go_wp2_with fail
    refine (ill_any 1 _).mono ?_
    rintro e z9 ⟨rfl, bz9⟩
    have Q9 := r1.keep bz9
    have B9 := B1.trans (bz9.mono B1.size)
    unfold outV
    have QZ0 := Q9
    have g0 := QZ0.cell 0
    have g1 := QZ0.cell 1
    have g2 := QZ0.cell 2
    have fz0 := QZ0.fz 0
    have fz1 := QZ0.fz 1
    have fz2 := QZ0.fz 2
    have KZ := keeps_three z9 (w.heap.size) (.slice none 0 0) (.bool false) (.int .i64 1)
    have HBZ : Hid (Below w.heap.size w (((z9.setCell ⟨w.heap.size, 0, none⟩ (.slice none 0 0)).setCell ⟨w.heap.size, 1, none⟩ (.bool false)).setCell ⟨w.heap.size, 2, none⟩ (.int .i64 1))) := B9.trans (KZ.toBelow B9.size (fun q hq => by omega))
    clear KZ
    go_wp2
    have QZ := blk_put3 QZ0 (.slice none 0 0) (.bool false) (.int .i64 1)
    obtain ⟨z6, hz6⟩ : ∃ z6, (((z9.setCell ⟨w.heap.size, 0, none⟩ (.slice none 0 0)).setCell ⟨w.heap.size, 1, none⟩ (.bool false)).setCell ⟨w.heap.size, 2, none⟩ (.int .i64 1)) = z6 := ⟨_, rfl⟩
    rw [hz6] at HBZ QZ ⊢
    have e0 := QZ.cell 0
    have e1 := QZ.cell 1
    have e2 := QZ.cell 2
    refine bodyPost_ret (v := outV (.slice none 0 0) false 1) (by simp [results, Try.results22, go_sem, outV, e0, e1, e2]) rfl ?_
    exact ⟨_, rfl, World.ownsRow_nil _ _ _ _, HBZ.out⟩
  | true =>
    have HRI : Hid (rightV l) := HRL.out.1 rfl
    have hl6 := rightV_len HRI.out
    clear HRL
    go_wp2_with fail
    refine (specVRight_is _ cap' b _ rb HRB.out hlb hrow1').mono ?_
    rintro e z2 ⟨rfl, bz2⟩
    have r2 := r1.keep bz2
    have B2 := B1.trans (bz2.mono B1.size)
    have hrow2 := hrow1.keep bz2
    have hrow2' := hrow1'.keep bz2
    clear r1 B1 hrow1 hrow1' bz2
    cases rb with
    | false =>
      obtain ⟨rfl, rfl, rfl⟩ : c = 1 ∧ m = [] ∧ r = false := by
        rcases HP.out with ⟨h, _⟩ | ⟨_, _, _, h⟩ | ⟨_, h, _⟩
        · omega
        · exact h
        · have := HRB.out.2 h; cases this
      clear HP HRB
      go_wp2_with fail
      refine (ill_any 1 _).mono ?_
      rintro e z9 ⟨rfl, bz9⟩
      have Q9 := r2.keep bz9
      have B9 := B2.trans (bz9.mono B2.size)
      unfold outV
      have QZ0 := Q9
      have g0 := QZ0.cell 0
      have g1 := QZ0.cell 1
      have g2 := QZ0.cell 2
      have fz0 := QZ0.fz 0
      have fz1 := QZ0.fz 1
      have fz2 := QZ0.fz 2
      have KZ := keeps_three z9 (w.heap.size) (.slice none 0 0) (.bool false) (.int .i64 1)
      have HBZ : Hid (Below w.heap.size w (((z9.setCell ⟨w.heap.size, 0, none⟩ (.slice none 0 0)).setCell ⟨w.heap.size, 1, none⟩ (.bool false)).setCell ⟨w.heap.size, 2, none⟩ (.int .i64 1))) := B9.trans (KZ.toBelow B9.size (fun q hq => by omega))
      clear KZ
      go_wp2
      have QZ := blk_put3 QZ0 (.slice none 0 0) (.bool false) (.int .i64 1)
      obtain ⟨z6, hz6⟩ : ∃ z6, (((z9.setCell ⟨w.heap.size, 0, none⟩ (.slice none 0 0)).setCell ⟨w.heap.size, 1, none⟩ (.bool false)).setCell ⟨w.heap.size, 2, none⟩ (.int .i64 1)) = z6 := ⟨_, rfl⟩
      rw [hz6] at HBZ QZ ⊢
      have e0 := QZ.cell 0
      have e1 := QZ.cell 1
      have e2 := QZ.cell 2
      refine bodyPost_ret (v := outV (.slice none 0 0) false 1) (by simp [results, Try.results22, go_sem, outV, e0, e1, e2]) rfl ?_
      exact ⟨_, rfl, World.ownsRow_nil _ _ _ _, HBZ.out⟩
    | true =>
      have HRI2 : Hid (rightV b) := HRB.out.1 rfl
      have hb6 := rightV_len HRI2.out
      clear HRB
      obtain ⟨hc, p, hj, hrp⟩ : c = 0 ∧ ∃ p, JoinIs l b m p ∧ (r = true ↔ p) := by
        rcases HP.out with ⟨h, _⟩ | ⟨_, _, h, _⟩ | ⟨_, _, e1, e2⟩
        · omega
        · exact absurd h (fun q => q.elim (fun q => q HRI.out) (fun q => q HRI2.out))
        · exact ⟨e1, e2⟩
      subst hc
      have HRP : Hid (r = true ↔ p) := hrp
      have HJ0 : Hid (RestN l b m p false) := ⟨p, hj, by simp⟩
      have hsz2 := r2.lt
      clear HP hj hrp
      have ba := (Below.refl z2.heap.size z2).alloc (Nat.le_refl _) (.cells #[] 24)
      have hrowa := hrow2.keep ba
      go_wp2_with (at_builtin; refine append_factsL rfl rfl _ _ rfl z2.heap.size _ 0 [] rfl (World.ownsRow_lit _ #[] 0 (Nat.le_refl _) (by simp [maxLen]) rfl) ⟨bA, offa, none⟩ l.length _ l rfl rfl hrowa (by omega) ba.size ?_)
      intro v1 w1 own1 gr1 loc1
      have c1 : Below z2.heap.size z2 w1 := ba.grown gr1 ba.size (fun g hg => by obtain rfl := Option.some.inj hg; exact Nat.le_refl _)
      have own1' : w1.ownsRow z2.heap.size 24 3 v1 l.length (cellsOf FactV.cells l) := own_eqF own1 (by omega) (by simp)
      obtain ⟨g1, c1', rfl⟩ : ∃ g c, v1 = .slice (some ⟨g, 0, none⟩) l.length c := by
        rcases own1'.2 with ⟨e, _⟩ | ⟨g, c, _, e, _⟩
        · exfalso
          rcases loc1 with h | h <;> rw [e] at h <;> simp [Value.ownBlock] at h
        · exact ⟨g, c, e⟩
      have hg1 := own_caps own1'
      have cA : Below w1.heap.size w1 (w1.alloc (.cells #[.slice (some ⟨g1, 0, none⟩) l.length c1', .bool false, .int .i64 0] 33)) := (Below.refl _ _).alloc (Nat.le_refl _) _
      have PO0 := BlkIs.new w1 33 #[.slice (some ⟨g1, 0, none⟩) l.length c1', .bool false, .int .i64 0]
      have own2 := rowBelow own1' cA
      have r3 := (r2.keep c1).keep cA
      have B3 := (B2.trans (c1.mono B2.size)).trans (cA.mono (B2.trans (c1.mono B2.size)).size)
      have hs3 : z2.heap.size ≤ (w1.alloc (.cells #[.slice (some ⟨g1, 0, none⟩) l.length c1', .bool false, .int .i64 0] 33)).heap.size := Nat.le_trans c1.size cA.size
      obtain ⟨V, hV⟩ : ∃ V, w1.alloc (.cells #[.slice (some ⟨g1, 0, none⟩) l.length c1', .bool false, .int .i64 0] 33) = V := ⟨_, rfl⟩
      rw [hV] at PO0 own2 r3 B3 hs3
      have HV : Hid (_ = V) := hV
      obtain ⟨yb, hyb⟩ : ∃ yb, z2.heap.size = yb := ⟨_, rfl⟩
      obtain ⟨kb, hkb⟩ : ∃ kb, w1.heap.size = kb := ⟨_, rfl⟩
      have hykb : yb ≤ kb := by have := c1.size; omega
      have hg1k : g1 ≠ kb := by omega
      rw [hyb] at own2 hs3 hsz2
      rw [hkb] at PO0
      clear own1 gr1 loc1 own1' cA c1 hV r2 B2 hrow2 hrow2' ba hrowa hg1 hyb
      go_wp2
      rw [HV.out]
      clear HV hkb
      go_loopw [6] (fun i wr => ∃ (j : Nat) (x : List FactV) (gk ck : Nat) (rr : Bool), j ≤ b.length ∧ i = .int .i64 j ∧ rightV x ∧ RestN x (b.drop j) m p rr ∧ BlkIs wr kb 33 #[.slice (some ⟨gk, 0, none⟩) x.length ck, .bool rr, .int .i64 0] ∧ wr.ownsRow yb 24 3 (.slice (some ⟨gk, 0, none⟩) x.length ck) x.length (cellsOf FactV.cells x) ∧ gk ≠ kb ∧ yb ≤ wr.heap.size ∧ BlkIs wr w.heap.size 33 #[.slice none 0 0, .bool false, .int .i64 0] ∧ Below w.heap.size w wr) (fun i _ => b.length - (intOf i).toNat)
      case atStart => exact ⟨0, l, g1, c1', false, Nat.zero_le _, rfl, HRI.out, HJ0.out, PO0, own2, hg1k, hs3, r3, B3⟩
      case round =>
        clear PO0 own2 r3 B3 hs3 HJ0 hg1k
        obtain ⟨j, x, gk, ck, rr, hj, rfl, hxr, hrest, PO, hown, hgkb, hyr, hR, hB⟩ := hrel
        have HX : Hid (rightV x) := hxr
        have HXR : Hid (riseV x) := rightV_rise hxr
        have hx6 := rightV_len hxr
        have HT : Hid (RestN x (b.drop j) m p rr) := hrest
        obtain ⟨hxc, hxm, hgk, hgy⟩ := own_caps hown
        clear hxr hrest
        by_cases hjb : j < b.length
        · obtain ⟨f, hlf⟩ : ∃ f, b[j] = f := ⟨_, rfl⟩
          have hok : f.ok := rightV_ok HRI2.out f (hlf ▸ List.getElem_mem hjb)
          obtain ⟨kk, q', hpl, hj2, hpq⟩ : ∃ kk q', placeF x f.node kk ∧ JoinIs (putL x f kk) (b.drop (j + 1)) m q' ∧ (p ↔ rr = true ∨ (newsAt x f kk ∨ q')) := by
            obtain ⟨q, hq, hpq⟩ := HT.out
            rw [List.drop_eq_getElem_cons hjb, hlf] at hq
            obtain ⟨kk, q', h1, h2, h3⟩ := hq
            exact ⟨kk, q', h1, h2, hpq.trans (or_congr Iff.rfl h3)⟩
          obtain ⟨rj, hrj⟩ := tells_bool (newsAt x f kk)
          have HX2 : Hid (rightV (putL x f kk)) := put_right HX.out hok hpl
          have hpos : 0 < (putL x f kk).length := putL_pos hpl.1
          have HT2 : Hid (RestN (putL x f kk) (b.drop (j + 1)) m p (rr || rj)) := ⟨q', hj2, by rw [hpq, Bool.or_eq_true, hrj, or_assoc]⟩
          have HKK : Hid (placeF x f.node kk) := hpl
          have HJ : Hid (rj = true ↔ newsAt x f kk) := hrj
          obtain ⟨f1, f2, f3⟩ := f
          have df := (hrow'.keep hB).fact hjb hlf
          have hjI : (j : Int) < (b.length : Int) := by omega
          have hrowx : CellRow wr (some ⟨gk, 0, none⟩) (cellsOf FactV.cells x) := by
            rcases own_cells hown with ⟨e, _⟩ | ⟨g, c, e, ho⟩
            · cases e
            · simp only [Value.slice.injEq, Option.some.injEq, Addr.mk.injEq, and_true, true_and] at e
              obtain ⟨rfl, rfl⟩ := e
              exact ho.row
          have hkbl := PO.lt
          clear hlf hok hpl hj2 hpq hrj HT HX
          go_upto_region 9 with fail
          go_cut [7] (fun vc wc => ∃ sa sn sc kx, vc = .pointer (some ⟨kx, 0, none⟩) ∧ BlkIs wc kx 33 #[.slice sa sn sc, .bool rj, .int .i64 0] ∧ wr.heap.size ≤ kx ∧ wc.ownsRow wr.heap.size 24 3 (.slice sa sn sc) (putL x ⟨f1, f2, f3⟩ kk).length (cellsOf FactV.cells (putL x ⟨f1, f2, f3⟩ kk)) ∧ Value.ownBlock (.slice sa sn sc) ≠ some kx ∧ Below wr.heap.size wr wc)
          case first =>
            refine wp_region_any (by kernel_rfl) ?_
            refine wpAny_box 8 (fun i => [36, 37, 38, 39, 40, 41, 42, 7].getD i 0) (fun kq v wq => match kq with | 0 => v = .pointer (some ⟨kb, 0, none⟩) | 1 => v = .slice (some ⟨gk, 0, none⟩) x.length ck | 2 => v = .slice (some ⟨bb, offb, none⟩) b.length cap' | 3 => v = .int .i64 (j : Int) | 4 => v = .pointer (some ⟨bb, offb + j * 3, none⟩) | 5 => v = .agg #[.int .i64 f1, .int .i64 f2, .int .i64 f3] | 6 => ∃ sa sn sc, v = .agg #[.slice sa sn sc, .bool rj, .int .i64 0] ∧ wq.ownsRow wr.heap.size 24 3 (.slice sa sn sc) (putL x ⟨f1, f2, f3⟩ kk).length (cellsOf FactV.cells (putL x ⟨f1, f2, f3⟩ kk)) | 7 => ∃ kx, v = .pointer (some ⟨kx, 0, none⟩) ∧ BlkIs wq kx 33 #[.slice none 0 0, .bool false, .int .i64 0] ∧ wr.heap.size ≤ kx | _ => True) _ wr (by kernel_rfl) ?inj ?stab ?step ?last _ _ _ _ (List.range 9) (by kernel_rfl) (Nat.le_refl 9) ?un (by kernel_rfl) ?down ⟨rfl, rfl, fun _ _ => rfl⟩ (Below.refl _ _).drew ?none
            case inj => exact (show ∀ i, i < 8 → ∀ j, j < 8 → [36, 37, 38, 39, 40, 41, 42, 7].getD i 0 = [36, 37, 38, 39, 40, 41, 42, 7].getD j 0 → i = j by decide)
            case un => exact fun i hi _ => List.mem_range.2 hi
            case down =>
              intro j hj
              exfalso
              by_cases hi : j < 9
              · simp [hi] at hj
              · simp [hi] at hj
            case none =>
              intro i hi hj
              exfalso
              have hi2 : i < 9 := by omega
              simp [hi2] at hj
            case stab =>
              intro kq u wa wb h hB
              match kq, h with
              | 0, h => exact h
              | 1, h => exact h
              | 2, h => exact h
              | 3, h => exact h
              | 4, h => exact h
              | 5, h => exact h
              | 6, h => exact (show ∃ sa sn sc, u = .agg #[.slice sa sn sc, .bool rj, .int .i64 0] ∧ wb.ownsRow wr.heap.size 24 3 (.slice sa sn sc) (putL x ⟨f1, f2, f3⟩ kk).length (cellsOf FactV.cells (putL x ⟨f1, f2, f3⟩ kk)) from by obtain ⟨sa, sn, sc, h1, h2⟩ := h; exact ⟨sa, sn, sc, h1, rowBelow h2 hB⟩)
              | 7, h => exact (show ∃ kx, u = _ ∧ BlkIs wb kx 33 #[.slice none 0 0, .bool false, .int .i64 0] ∧ wr.heap.size ≤ kx from by obtain ⟨kx, h1, h2, h3⟩ := h; exact ⟨kx, h1, h2.keep hB, h3⟩)
              | _ + 8, _ => exact trivial
            case step =>
              intro i o hin ho fa fw hF hJ hpre
              obtain rfl | rfl | rfl | rfl | rfl | rfl | rfl | rfl : i = 0 ∨ i = 1 ∨ i = 2 ∨ i = 3 ∨ i = 4 ∨ i = 5 ∨ i = 6 ∨ i = 7 := by omega
              all_goals (obtain rfl := Option.some.inj ho)
              · have hs5 : fa.tmps[5]?.getD undef = .pointer (some ⟨kb, 0, none⟩) := by
                  have := hF.2.2 5 (show ∀ i, i < 8 → [36, 37, 38, 39, 40, 41, 42, 7].getD i 0 ≠ 5 by decide)
                  simpa using this
                exact step_val (v := .pointer (some ⟨kb, 0, none⟩)) (w' := fw) (by go_simp) ⟨_, rfl, rfl, Below.refl _ _⟩
              · have hd0 : fa.tmps[36]?.getD undef = .pointer (some ⟨kb, 0, none⟩) := by simpa using (hpre ⟨0, .data⟩ (by simp) rfl : fa.tmps.getD 36 undef = .pointer (some ⟨kb, 0, none⟩))
                have c0 := (PO.keep hJ).cell 0
                exact step_val (v := .slice (some ⟨gk, 0, none⟩) x.length ck) (w' := fw) (by go_simp) ⟨_, rfl, rfl, Below.refl _ _⟩
              · have hs1 : fa.tmps[1]?.getD undef = .slice (some ⟨bb, offb, none⟩) b.length cap' := by
                  have := hF.2.2 1 (show ∀ i, i < 8 → [36, 37, 38, 39, 40, 41, 42, 7].getD i 0 ≠ 1 by decide)
                  simpa using this
                exact step_val (v := .slice (some ⟨bb, offb, none⟩) b.length cap') (w' := fw) (by go_simp) ⟨_, rfl, rfl, Below.refl _ _⟩
              · have hs6 : fa.tmps[6]?.getD undef = .int .i64 (j : Int) := by
                  have := hF.2.2 6 (show ∀ i, i < 8 → [36, 37, 38, 39, 40, 41, 42, 7].getD i 0 ≠ 6 by decide)
                  simpa using this
                exact step_val (v := .int .i64 (j : Int)) (w' := fw) (by go_simp) ⟨_, rfl, rfl, Below.refl _ _⟩
              · have hd2 : fa.tmps[38]?.getD undef = .slice (some ⟨bb, offb, none⟩) b.length cap' := by simpa using (hpre ⟨2, .data⟩ (by simp) rfl : fa.tmps.getD 38 undef = .slice (some ⟨bb, offb, none⟩) b.length cap')
                have hd3 : fa.tmps[39]?.getD undef = .int .i64 (j : Int) := by simpa using (hpre ⟨3, .data⟩ (by simp) rfl : fa.tmps.getD 39 undef = .int .i64 (j : Int))
                exact step_val (v := .pointer (some ⟨bb, offb + j * 3, none⟩)) (w' := fw) (by go_simp) ⟨_, rfl, rfl, Below.refl _ _⟩
              · have hd4 : fa.tmps[40]?.getD undef = .pointer (some ⟨bb, offb + j * 3, none⟩) := by simpa using (hpre ⟨4, .data⟩ (by simp) rfl : fa.tmps.getD 40 undef = .pointer (some ⟨bb, offb + j * 3, none⟩))
                obtain ⟨_, c0, c1, c2⟩ := df.keep hJ
                dsimp only at c0 c1 c2
                exact step_val (v := .agg #[.int .i64 f1, .int .i64 f2, .int .i64 f3]) (w' := fw) (by go_simp) ⟨_, rfl, rfl, Below.refl _ _⟩
              · have hd1 : fa.tmps[37]?.getD undef = .slice (some ⟨gk, 0, none⟩) x.length ck := by simpa using (hpre ⟨1, .data⟩ (by simp) rfl : fa.tmps.getD 37 undef = .slice (some ⟨gk, 0, none⟩) x.length ck)
                have hd5 : fa.tmps[41]?.getD undef = .agg #[.int .i64 f1, .int .i64 f2, .int .i64 f3] := by simpa using (hpre ⟨5, .data⟩ (by simp) rfl : fa.tmps.getD 41 undef = .agg #[.int .i64 f1, .int .i64 f2, .int .i64 f3])
                go_simp
                refine (specL04Put_any gk 0 ck kk x ⟨f1, f2, f3⟩ rj _ (by omega) HXR.out HKK.out HJ.out hxc hxm (hrowx.keep hJ)).mono ?_
                rintro e w3 ⟨v3, rfl, own3, b3⟩
                obtain ⟨sa, sn, sc, rfl⟩ := rowShape own3
                exact ⟨_, rfl, ⟨sa, sn, sc, rfl, rowLe own3 hJ.size⟩, b3⟩
              · exact step_val (v := .pointer (some ⟨fw.heap.size, 0, none⟩)) (w' := fw.alloc (.cells #[.slice none 0 0, .bool false, .int .i64 0] 33)) (by go_simp) ⟨_, rfl, ⟨fw.heap.size, rfl, BlkIs.new _ _ _, hJ.size⟩, (Below.refl _ _).alloc (Nat.le_refl _) _⟩
            case last =>
              intro o ho fa fw hF hJ hφ
              obtain rfl := Option.some.inj ho
              obtain ⟨sa, sn, sc, q6, hrw⟩ := (hφ 6 (by decide) : ∃ sa sn sc, fa.tmps.getD 42 undef = .agg #[.slice sa sn sc, .bool rj, .int .i64 0] ∧ fw.ownsRow wr.heap.size 24 3 (.slice sa sn sc) (putL x ⟨f1, f2, f3⟩ kk).length (cellsOf FactV.cells (putL x ⟨f1, f2, f3⟩ kk)))
              have hd6 : fa.tmps[42]?.getD undef = .agg #[.slice sa sn sc, .bool rj, .int .i64 0] := by simpa using q6
              obtain ⟨kbx, q7, hblk, hkb⟩ := (hφ 7 (by decide) : ∃ kx, fa.tmps.getD 7 undef = .pointer (some ⟨kx, 0, none⟩) ∧ BlkIs fw kx 33 #[.slice none 0 0, .bool false, .int .i64 0] ∧ wr.heap.size ≤ kx)
              have hd7 : fa.tmps[7]?.getD undef = .pointer (some ⟨kbx, 0, none⟩) := by simpa using q7
              have g0 : fw.cell? ⟨kbx, 0, none⟩ = some (.slice none 0 0) := hblk.cell 0
              have z0 := hblk.fz 0
              have g1 : fw.cell? ⟨kbx, 1, none⟩ = some (.bool false) := hblk.cell 1
              have z1 := hblk.fz 1
              have g2 : fw.cell? ⟨kbx, 2, none⟩ = some (.int .i64 0) := hblk.cell 2
              have z2 := hblk.fz 2
              have hnew : BlkIs (((fw.setCell ⟨kbx, 0, none⟩ (.slice sa sn sc)).setCell ⟨kbx, 1, none⟩ (.bool rj)).setCell ⟨kbx, 2, none⟩ (.int .i64 0)) kbx 33 #[.slice sa sn sc, .bool rj, .int .i64 0] := by simpa using (((hblk.put 0 (.slice sa sn sc)).put 1 (.bool rj)).put 2 (.int .i64 0))
              have hbn : Below wr.heap.size wr (((fw.setCell ⟨kbx, 0, none⟩ (.slice sa sn sc)).setCell ⟨kbx, 1, none⟩ (.bool rj)).setCell ⟨kbx, 2, none⟩ (.int .i64 0)) := (((hJ.setCell (p := ⟨kbx, 0, none⟩) hkb (.slice sa sn sc)).setCell (p := ⟨kbx, 1, none⟩) hkb (.bool rj)).setCell (p := ⟨kbx, 2, none⟩) hkb (.int .i64 0))
              have hnr : Value.ownBlock (.slice sa sn sc) ≠ some kbx := hblk.not_row (by decide) hrw
              have hrwn : (((fw.setCell ⟨kbx, 0, none⟩ (.slice sa sn sc)).setCell ⟨kbx, 1, none⟩ (.bool rj)).setCell ⟨kbx, 2, none⟩ (.int .i64 0)).ownsRow wr.heap.size 24 3 (.slice sa sn sc) (putL x ⟨f1, f2, f3⟩ kk).length (cellsOf FactV.cells (putL x ⟨f1, f2, f3⟩ kk)) := rowKeep hrw (keeps_three fw kbx (.slice sa sn sc) (.bool rj) (.int .i64 0)) (fun q hq e => hnr (by rw [hq, e]))
              clear hrw
              refine step_skip (w' := (((fw.setCell ⟨kbx, 0, none⟩ (.slice sa sn sc)).setCell ⟨kbx, 1, none⟩ (.bool rj)).setCell ⟨kbx, 2, none⟩ (.int .i64 0))) (by go_simp) ?_
              obtain ⟨wn, hwn⟩ : ∃ wn, (((fw.setCell ⟨kbx, 0, none⟩ (.slice sa sn sc)).setCell ⟨kbx, 1, none⟩ (.bool rj)).setCell ⟨kbx, 2, none⟩ (.int .i64 0)) = wn := ⟨_, rfl⟩
              rw [hwn] at hnew hbn hrwn ⊢
              clear hwn g0 z0 g1 z1 g2 z2 hblk
              obtain ⟨ft, fd⟩ := fa
              obtain ⟨hd, hz, hs⟩ := hF
              have e := tmps_slots ft 54 hz
              simp only [List.range, List.range.loop, List.map] at e
              have hu : ∀ s, (∀ i, i < 8 → [36, 37, 38, 39, 40, 41, 42, 7].getD i 0 ≠ s) → ft.getD s undef = _ := hs
              rw [hu 0 (by decide), hu 1 (by decide), hu 2 (by decide), hu 3 (by decide), hu 4 (by decide), hu 5 (by decide), hu 6 (by decide), hu 8 (by decide), hu 9 (by decide), hu 10 (by decide), hu 11 (by decide), hu 12 (by decide), hu 13 (by decide), hu 14 (by decide), hu 15 (by decide), hu 16 (by decide), hu 17 (by decide), hu 18 (by decide), hu 19 (by decide), hu 20 (by decide), hu 21 (by decide), hu 22 (by decide), hu 23 (by decide), hu 24 (by decide), hu 25 (by decide), hu 26 (by decide), hu 27 (by decide), hu 28 (by decide), hu 29 (by decide), hu 30 (by decide), hu 31 (by decide), hu 32 (by decide), hu 33 (by decide), hu 34 (by decide), hu 35 (by decide), hu 43 (by decide), hu 44 (by decide), hu 45 (by decide), hu 46 (by decide), hu 47 (by decide), hu 48 (by decide), hu 49 (by decide), hu 50 (by decide), hu 51 (by decide), hu 52 (by decide), hu 53 (by decide)] at e
              obtain ⟨y36, hy36⟩ : ∃ z, ft.getD 36 undef = z := ⟨_, rfl⟩
              obtain ⟨y37, hy37⟩ : ∃ z, ft.getD 37 undef = z := ⟨_, rfl⟩
              obtain ⟨y38, hy38⟩ : ∃ z, ft.getD 38 undef = z := ⟨_, rfl⟩
              obtain ⟨y39, hy39⟩ : ∃ z, ft.getD 39 undef = z := ⟨_, rfl⟩
              obtain ⟨y40, hy40⟩ : ∃ z, ft.getD 40 undef = z := ⟨_, rfl⟩
              obtain ⟨y41, hy41⟩ : ∃ z, ft.getD 41 undef = z := ⟨_, rfl⟩
              obtain ⟨y42, hy42⟩ : ∃ z, ft.getD 42 undef = z := ⟨_, rfl⟩
              obtain ⟨y7, hy7⟩ : ∃ z, ft.getD 7 undef = z := ⟨_, rfl⟩
              rw [hy36, hy37, hy38, hy39, hy40, hy41, hy42, hy7] at e
              have hyb : y7 = .pointer (some ⟨kbx, 0, none⟩) := by rw [← hy7]; exact q7
              clear hy36 hy37 hy38 hy39 hy40 hy41 hy42 hy7 hu hs hz hφ hd7 q7 hd6
              subst e
              subst hyb
              obtain rfl : fd = [] := hd
              go_wp2_with fail
              go_meet
              case rel => exact ⟨sa, sn, sc, kbx, rfl, hnew, hkb, hrwn, hnr, hbn⟩
          case rest =>
            obtain ⟨sa, sn, sc, k7, rfl, P7, hk7, ownY, hny, bc⟩ := hcut
            obtain ⟨V2, rfl⟩ : ∃ V2, V2 = wc := ⟨wc, rfl⟩
            obtain ⟨gy, cy, hsh⟩ := own_some ownY hpos
            rw [hsh] at P7 ownY hny
            clear hsh
            have PO2 := PO.keep bc
            have R2 := hR.keep bc
            have Bc := hB.trans (bc.mono hB.size)
            have hyc : yb ≤ V2.heap.size := Nat.le_trans hyr bc.size
            have ownYy := rowLe ownY hyr
            obtain ⟨_, _, hgyl, hgyr⟩ := own_caps ownY
            have hk7b : k7 ≠ kb := by omega
            have hgyb : gy ≠ kb := by omega
            have d0 := P7.cell 0
            have d1 := P7.cell 1
            have o0 := PO2.cell 0
            have o1 := PO2.cell 1
            have fo0 := PO2.fz 0
            have fo1 := PO2.fz 1
            have KZ : Keeps (fun q => q ≠ kb) V2 ((V2.setCell ⟨kb, 0, none⟩ (.slice (some ⟨gy, 0, none⟩) (putL x ⟨f1, f2, f3⟩ kk).length cy)).setCell ⟨kb, 1, none⟩ (.bool (rr || rj))) := ((Keeps.refl _ _).setCell (fun h => h rfl) _).setCell (fun h => h rfl) _
            have PO3 : BlkIs ((V2.setCell ⟨kb, 0, none⟩ (.slice (some ⟨gy, 0, none⟩) (putL x ⟨f1, f2, f3⟩ kk).length cy)).setCell ⟨kb, 1, none⟩ (.bool (rr || rj))) kb 33 #[.slice (some ⟨gy, 0, none⟩) (putL x ⟨f1, f2, f3⟩ kk).length cy, .bool (rr || rj), .int .i64 0] := by
              have := (PO2.put 0 (.slice (some ⟨gy, 0, none⟩) (putL x ⟨f1, f2, f3⟩ kk).length cy)).put 1 (.bool (rr || rj))
              simpa using this
            have own3 := rowKeep ownYy KZ (fun q hq => by
              have e : gy = q := by simpa [Value.ownBlock] using hq
              rw [← e]; exact hgyb)
            have R3 := R2.keepK KZ (by show w.heap.size ≠ kb; omega)
            have B3 := Bc.trans (KZ.toBelow Bc.size (fun q hq => by show q ≠ kb; omega))
            have hy3 : yb ≤ ((V2.setCell ⟨kb, 0, none⟩ (.slice (some ⟨gy, 0, none⟩) (putL x ⟨f1, f2, f3⟩ kk).length cy)).setCell ⟨kb, 1, none⟩ (.bool (rr || rj))).heap.size := Nat.le_trans hyc KZ.size
            clear P7 ownY hny PO2 R2 Bc ownYy KZ PO hown hR hB df hrowx bc
            cases rr with
            | true =>
              simp only [Bool.true_or] at PO3 own3 R3 B3 hy3 HT2
              go_wp2
              go_roundw
              case rel => exact ⟨j + 1, _, gy, cy, true, by omega, by go_num, HX2.out, HT2.out, PO3, own3, hgyb, hy3, R3, B3⟩
              case measure => simp [intOf]; omega
            | false =>
              simp only [Bool.false_or] at PO3 own3 R3 B3 hy3 HT2
              go_wp2
              go_roundw
              case rel => exact ⟨j + 1, _, gy, cy, rj, by omega, by go_num, HX2.out, HT2.out, PO3, own3, hgyb, hy3, R3, B3⟩
              case measure => simp [intOf]; omega
        · obtain rfl : j = b.length := by omega
          obtain ⟨hmx, hpr⟩ : m = x ∧ (p ↔ rr = true) := by
            obtain ⟨q, hq, hpq⟩ := HT.out
            rw [List.drop_length] at hq
            exact ⟨hq.1, hpq.trans ⟨fun h => h.elim id (fun h => absurd h hq.2), .inl⟩⟩
          have hrr : r = rr := news_bool HRP.out (Iff.rfl) hpr
          subst hmx hrr
          have ownw := rowLe hown (show w.heap.size ≤ yb by omega)
          have s0 := PO.cell 0
          have s1 := PO.cell 1
          have s2 := PO.cell 2
          have HO : Hid (∀ q, Value.ownBlock (.slice (some ⟨gk, 0, none⟩) m.length ck) = some q → yb ≤ q) := fun q e => (hown.lt q e).1
          clear HT hown HX HXR hpr HRP PO
          have QZ0 := hR
          have g0 := QZ0.cell 0
          have g1 := QZ0.cell 1
          have g2 := QZ0.cell 2
          have fz0 := QZ0.fz 0
          have fz1 := QZ0.fz 1
          have fz2 := QZ0.fz 2
          have KZ := keeps_three wr (w.heap.size) (.slice (some ⟨gk, 0, none⟩) m.length ck) (.bool r) (.int .i64 0)
          have HBZ : Hid (Below w.heap.size w (((wr.setCell ⟨w.heap.size, 0, none⟩ (.slice (some ⟨gk, 0, none⟩) m.length ck)).setCell ⟨w.heap.size, 1, none⟩ (.bool r)).setCell ⟨w.heap.size, 2, none⟩ (.int .i64 0))) := hB.trans (KZ.toBelow hB.size (fun q hq => by omega))
          have HRZ : Hid ((((wr.setCell ⟨w.heap.size, 0, none⟩ (.slice (some ⟨gk, 0, none⟩) m.length ck)).setCell ⟨w.heap.size, 1, none⟩ (.bool r)).setCell ⟨w.heap.size, 2, none⟩ (.int .i64 0)).ownsRow w.heap.size 24 3 (.slice (some ⟨gk, 0, none⟩) m.length ck) m.length (cellsOf FactV.cells m)) := rowKeep ownw KZ (fun q hq => by have := HO.out q hq; omega)
          clear KZ
          go_wp2
          have QZ := blk_put3 QZ0 (.slice (some ⟨gk, 0, none⟩) m.length ck) (.bool r) (.int .i64 0)
          obtain ⟨z6, hz6⟩ : ∃ z6, (((wr.setCell ⟨w.heap.size, 0, none⟩ (.slice (some ⟨gk, 0, none⟩) m.length ck)).setCell ⟨w.heap.size, 1, none⟩ (.bool r)).setCell ⟨w.heap.size, 2, none⟩ (.int .i64 0)) = z6 := ⟨_, rfl⟩
          rw [hz6] at HBZ QZ HRZ ⊢
          have e0 := QZ.cell 0
          have e1 := QZ.cell 1
          have e2 := QZ.cell 2
          refine bodyPost_ret (v := outV (.slice (some ⟨gk, 0, none⟩) m.length ck) r 0) (by simp [results, Try.results22, go_sem, outV, e0, e1, e2]) rfl ?_
          exact ⟨_, rfl, HRZ.out, HBZ.out⟩
end Go.Proofs.Ytdgcmjhnglacnaa
