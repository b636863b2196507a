/- The contract of the program's QueueTake. -/
import Derived.Test.YtlnkcbojoaoehaaQDropI
namespace Go.Proofs.Ytlnkcbojoaoehaa
open Go Go.RowKit Go.Shelf
set_option linter.unusedVariables false
attribute [local go_sem] Oper.semAt_some

theorem OutIs.put14 {w : World} {b : Nat} {v0 v1 v2 v3 v4 v5 : Value} (h : OutIs w b v0 v1 v2 v3 v4 v5) (u1 u2 u3 u4 : Value) : OutIs ((((w.setCell ⟨b, 1, none⟩ u1).setCell ⟨b, 2, none⟩ u2).setCell ⟨b, 3, none⟩ u3).setCell ⟨b, 4, none⟩ u4) b v0 u1 u2 u3 u4 v5 := by
  have h1 := heap_setCell_same w b 1 _ _ u1 h
  have h2 := heap_setCell_same _ b 2 _ _ u2 h1
  have h3 := heap_setCell_same _ b 3 _ _ u3 h2
  have h4 := heap_setCell_same _ b 4 _ _ u4 h3
  simpa [OutIs] using h4
theorem keeps_four (w : World) (b : Nat) (u1 u2 u3 u4 : Value) : Keeps (fun k => k ≠ b) w ((((w.setCell ⟨b, 1, none⟩ u1).setCell ⟨b, 2, none⟩ u2).setCell ⟨b, 3, none⟩ u3).setCell ⟨b, 4, none⟩ u4) :=
  ((((Keeps.refl _ _).setCell (fun h => h rfl) _).setCell (fun h => h rfl) _).setCell (fun h => h rfl) _).setCell (fun h => h rfl) _
theorem rightQ_tail {x : DueV} {m : List DueV} (h : rightQ (x :: m)) : m.Pairwise DueV.lt := (List.pairwise_cons.1 (rightQ_lt h)).2
set_option maxHeartbeats 4000000 in
set_option maxRecDepth 100000 in
theorem implTakeQ_any (a : Option Addr) (cap : Nat) (l : List DueV) (c : Int) (y : DueV) (m : List DueV) (w : World) (hP : TakeIs l c y m) (hl : l.length ≤ 1048576) (hrow : CellRow w a (cellsOf DueV.cells l)) :
    Calls Try.prog 11 #[.slice a l.length cap] w (OutPost c y m w) := by
  have b0 := (Below.refl w.heap.size w).alloc (Nat.le_refl _) (.cells #[.slice none 0 0, .int .i64 0, .int .i64 0, .int .i64 0, .string ⟨#[]⟩, .int .i64 0] 29)
  have r0 := ResBlk.new w (.slice none 0 0) (.int .i64 0) (.int .i64 0) (.int .i64 0) (.string ⟨#[]⟩) (.int .i64 0)
  have hrow0 := hrow.keep b0
  obtain ⟨W, hW⟩ : ∃ W, w.alloc (.cells #[.slice none 0 0, .int .i64 0, .int .i64 0, .int .i64 0, .string ⟨#[]⟩, .int .i64 0] 29) = W := ⟨_, rfl⟩
  rw [hW] at b0 r0 hrow0
  have HW : Hid (w.alloc (.cells #[.slice none 0 0, .int .i64 0, .int .i64 0, .int .i64 0, .string ⟨#[]⟩, .int .i64 0] 29) = W) := hW
  clear hW
  obtain ⟨f, hf⟩ := fault_ex l
  have HF : Hid (FaultIs l f) := hf
  refine (callsIn_wide (n := 5)).1 ?_
  refine callsIn_of_wp_marks Try.func11 rfl trivial ?_ rfl
  simp only [Try.ntmps11, List.size_toArray, List.length_cons, List.length_nil, Nat.reduceAdd, Nat.reduceSub, Array.replicate_succ, Array.replicate_zero, List.push_toArray, List.append_toArray, List.nil_append, List.cons_append]
  gi_wp2_with fail
  rw [HW.out]
  refine ⟨trivial, (callsIn_wide.2 (queueFault_any a cap l f _ HF.out hl hrow0)).mono ?_⟩
  rintro e z1 ⟨rfl, bz1⟩
  have b1 := b0.trans (bz1.mono b0.size)
  have r1 := r0.below bz1
  have hrow1 := hrow0.keep bz1
  have hsz1 := r1.lt
  clear b0 r0 hrow0 bz1 HW
  by_cases hc : f = 0
  · subst hc
    have hq : rightQ l := by
      rcases hf with ⟨_, e⟩ | ⟨_, _, e⟩ | ⟨h, _⟩
      · cases e
      · cases e
      · exact h
    have h200 := hq.1
    by_cases hl0 : l = []
    · subst hl0
      obtain ⟨rfl, rfl, rfl⟩ : c = 6 ∧ y = d0 ∧ m = [] := by
        rcases hP with ⟨h, _⟩ | ⟨_, h, _⟩ | ⟨_, h⟩ | ⟨_, e, _⟩
        · simp at h
        · exact absurd hq h
        · exact h
        · cases e
      clear hP hf hq
      obtain ⟨u0, u1, u2, u3, u4, u5, ⟨c0, c1, c2, c3, c4, c5⟩, f0, f1, f2, f3, f4, f5⟩ := r1.cells
      gi_wp2
      have KZ := keeps_six z1 w.heap.size (.slice none 0 0) (.int .i64 0) (.int .i64 0) (.int .i64 0) (.string ⟨#[]⟩) (.int .i64 6)
      have H6 := r1.six (.slice none 0 0) (.int .i64 0) (.int .i64 0) (.int .i64 0) (.string ⟨#[]⟩) (.int .i64 6)
      obtain ⟨z6, hz6⟩ : ∃ z6, ((((((z1.setCell ⟨w.heap.size, 0, none⟩ (.slice none 0 0)).setCell ⟨w.heap.size, 1, none⟩ (.int .i64 0)).setCell ⟨w.heap.size, 2, none⟩ (.int .i64 0)).setCell ⟨w.heap.size, 3, none⟩ (.int .i64 0)).setCell ⟨w.heap.size, 4, none⟩ (.string ⟨#[]⟩)).setCell ⟨w.heap.size, 5, none⟩ (.int .i64 6)) = z6 := ⟨_, rfl⟩
      rw [hz6] at KZ H6 ⊢
      clear hz6
      obtain ⟨q0, q1, q2, q3, q4, q5⟩ := six_cells H6
      refine ⟨outV (.slice none 0 0) d0 6, by simp [results, Try.results11, go_sem, outV, d0, q0, q1, q2, q3, q4, q5], _, rfl, World.ownsRow_nil _ _ _ _, b1.trans (KZ.toBelow b1.size (fun q hq => by omega))⟩
    · obtain ⟨rfl, rfl⟩ : l = y :: m ∧ c = 0 := by
        rcases hP with ⟨h, _⟩ | ⟨_, h, _⟩ | ⟨h, _⟩ | ⟨_, e, h⟩
        · omega
        · exact absurd hq h
        · exact absurd h hl0
        · exact ⟨e, h⟩
      have HQ : Hid (rightQ (y :: m)) := hq
      have hne : (((y :: m).length : Int) == 0) = false := by simp; omega
      clear hP hf hq hl0
      have O2 : OutIs (z1.alloc (.cells #[.slice none 0 0, .int .i64 0, .int .i64 0, .int .i64 0, .string ⟨#[]⟩, .int .i64 0] 29)) z1.heap.size (.slice none 0 0) (.int .i64 0) (.int .i64 0) (.int .i64 0) (.string ⟨#[]⟩) (.int .i64 0) := heap_alloc_new z1 _
      have bz2 : Below z1.heap.size z1 (z1.alloc (.cells #[.slice none 0 0, .int .i64 0, .int .i64 0, .int .i64 0, .string ⟨#[]⟩, .int .i64 0] 29)) := (Below.refl _ _).alloc (Nat.le_refl _) _
      have hs2 : z1.heap.size + 1 ≤ (z1.alloc (.cells #[.slice none 0 0, .int .i64 0, .int .i64 0, .int .i64 0, .string ⟨#[]⟩, .int .i64 0] 29)).heap.size := by simp
      obtain ⟨z2, hz2⟩ : ∃ z2, z1.alloc (.cells #[.slice none 0 0, .int .i64 0, .int .i64 0, .int .i64 0, .string ⟨#[]⟩, .int .i64 0] 29) = z2 := ⟨_, rfl⟩
      rw [hz2] at O2 bz2 hs2
      have HZ2 : Hid (z1.alloc (.cells #[.slice none 0 0, .int .i64 0, .int .i64 0, .int .i64 0, .string ⟨#[]⟩, .int .i64 0] 29) = z2) := hz2
      clear hz2
      gi_wp2_with fail
      rw [HZ2.out]
      refine ⟨trivial, (callsIn_wide.2 (heaped_any a cap (y :: m) z2 (by omega) (hrow1.keep bz2))).mono ?_⟩
      rintro e z3 ⟨hb, v, l2, rfl, hp2, hh2, hV2, hhb, bz3⟩
      have hown : ∀ q, v.ownBlock = some q → z2.heap.size ≤ q := fun q e => (hV2.row.lt q e).1
      have B3 : Below z1.heap.size z1 z3 := bz2.trans (bz3.mono bz2.size)
      have O3 := O2.below bz3
      have hs3 := bz3.size
      clear O2 bz2 hrow1 HZ2
      gi_wp2_with fail
      refine ⟨trivial, (callsIn_wide.2 (taken_any _ _)).mono ?_⟩
      rintro e z4 ⟨rfl, hz4⟩
      have hR : Ready (z3.alloc (.cells #[.pointer (some ⟨hb, 0, none⟩)] 56)) z2.heap.size hb z3.heap.size v.ownBlock (y :: m) :=
        ⟨rightQ_lt HQ.out, fun d hd => by have := (rightQ_ok HQ.out d hd).2.2.2; omega, by omega, ⟨v, l2, hV2.keep (G := fun _ => True) ((Keeps.refl _ _).alloc _) trivial (fun _ _ => trivial), rfl, hp2, hh2⟩, Boxed.new _ _ _⟩
      have B4 := B3.alloc B3.size (.cells #[.pointer (some ⟨hb, 0, none⟩)] 56)
      have O4 := O3.below ((Below.refl _ _).alloc (Nat.le_refl _) (.cells #[.pointer (some ⟨hb, 0, none⟩)] 56))
      have hs4 : z3.heap.size < (z3.alloc (.cells #[.pointer (some ⟨hb, 0, none⟩)] 56)).heap.size := by simp
      rw [← hz4] at hR B4 O4 hs4
      have r4 := r1.below B4
      have b4 := b1.trans (B4.mono b1.size)
      clear hz4 B3 O3 hV2 hp2 hh2 r1 b1 B4 bz3
      obtain ⟨gb, hgb0⟩ : ∃ gb, v.ownBlock = gb := ⟨_, rfl⟩
      rw [hgb0] at hR hown
      clear hgb0
      gi_wp2
      obtain ⟨v0, l0, hV, hgb, hp, hh⟩ := hR.heap
      have hgl := hR.gl
      have hbs := hR.bl
      have HO : Hid (∀ k, k < z2.heap.size → Spare hb gb z4.heap.size k) := fun k hk => ⟨⟨by omega, fun e => by have := hown _ e; omega⟩, by omega, by omega⟩
      refine range_taken 5 (by omega) z2.heap.size hb z3.heap.size gb (y :: m) v0 l0 rfl rfl hR.rises hR.texts hR.size hV hgb hp hh hR.box
        (fun pre X => pre = [] ∧ OutIs X z1.heap.size (.slice none 0 0) (.int .i64 0) (.int .i64 0) (.int .i64 0) (.string ⟨#[]⟩) (.int .i64 0) ∧ ResBlk X w.heap.size ∧ Below w.heap.size w X)
        (fun c xs X => c = .exit 0 ∧ xs = [y] ∧ OutIs X z1.heap.size (.slice none 0 0) (.int .i64 y.at0) (.int .i64 y.seq) (.int .i64 y.node) (.string y.text) (.int .i64 0) ∧ ResBlk X w.heap.size ∧ Below w.heap.size w X) ?hI ?hIx ⟨rfl, O4, r4, b4⟩
        (fun x Bx => { tmps := #[.slice a (m.length + 1) cap, undef, .pointer (some ⟨w.heap.size, 0, none⟩), .int .i64 0, .pointer (some ⟨z1.heap.size, 0, none⟩), .pointer (some ⟨hb, 0, none⟩), .pointer (some ⟨Bx, 0, none⟩), .slice a (m.length + 1) cap, .int .i64 0, .int .i64 0, .bool false, undef, undef, .slice a (m.length + 1) cap, .int .i64 ((m.length : Int) + 1), .bool false, undef, .slice a (m.length + 1) cap, .pointer (some ⟨hb, 0, none⟩), .pointer (some ⟨hb, 0, none⟩), .func (.func 58) #[] #[.pointer (some ⟨z3.heap.size, 0, none⟩)], x.val, undef, undef, undef, undef, undef, undef, undef], defers := [] })
        ?assign ?body ?done ?stop
      case hI =>
        rintro xs X X' ⟨e, o1, r1, b1⟩ hk
        exact ⟨e, o1.keep hk (HO.out _ (by omega)), r1.keep hk (HO.out _ (by omega)), b1.trans (hk.toBelow b1.size (fun q hq => HO.out _ (by omega)))⟩
      case hIx =>
        rintro c xs X X' ⟨e, e2, o1, r1, b1⟩ hk
        exact ⟨e, e2, o1.keep hk (HO.out _ (by omega)), r1.keep hk (HO.out _ (by omega)), b1.trans (hk.toBelow b1.size (fun q hq => HO.out _ (by omega)))⟩
      case assign =>
        intro q x X K hK
        obtain ⟨x1, x2, x3, x4⟩ := x
        unfold DueV.val at hK ⊢
        dsimp only at hK
        gi_wp2
        exact hK
      case done =>
        rintro v X ⟨e, _⟩
        cases e
      case body =>
        rintro q pre x rest Bx X hSx ⟨rfl, o1, r1, b1⟩ hX hBx hgx
        obtain ⟨rfl, rfl⟩ : y = x ∧ m = rest := by simpa using hSx
        obtain ⟨x1, x2, x3, x4⟩ := y
        obtain ⟨hxl, c0, c1, c2, c3⟩ := hX
        dsimp only at c0 c1 c2 c3
        unfold DueV.val
        dsimp only
        obtain ⟨k0, k1, k2, k3, k4, k5⟩ := o1.cells
        have f1 := o1.fz 1
        have f2 := o1.fz 2
        have f3 := o1.fz 3
        have f4 := o1.fz 4
        clear hSx
        gi_wp2
        have K4 := keeps_four X z1.heap.size (.int .i64 x1) (.int .i64 x2) (.int .i64 x3) (.string x4)
        refine ⟨K4.mono ?_, rfl, rfl, o1.put14 _ _ _ _, r1.keep K4 (by omega), b1.trans (K4.toBelow b1.size (fun k hk => by omega))⟩
        intro k _ h
        rcases h with h | h | h | h | h
        · omega
        · have := hown k h; omega
        · omega
        · omega
        · omega
      case stop =>
        rintro c pre x rest l' v X hSx ⟨rfl, hxs, o1, r1, b1⟩ hp' hh' hV' hge hD
        obtain ⟨rfl, rfl⟩ : pre = [] ∧ x = y := by
          cases pre with
          | nil => simpa using hxs
          | cons q r => simp at hxs
        obtain rfl : m = rest := by simpa using hSx
        clear hSx hxs
        gi_wp2_with fail
        refine ⟨trivial, (callsIn_wide.2 (taken_any _ _)).mono ?_⟩
        rintro e X2 ⟨rfl, hX2⟩
        have hR2 : Ready (X.alloc (.cells #[.pointer (some ⟨hb, 0, none⟩)] 56)) z2.heap.size hb X.heap.size gb m :=
          ⟨rightQ_tail HQ.out, fun d hd => by have := (rightQ_ok HQ.out d (List.mem_cons_of_mem _ hd)).2.2.2; omega, by simp at h200; omega, ⟨v, l', hV'.keep (G := fun _ => True) ((Keeps.refl _ _).alloc _) trivial (fun _ _ => trivial), hge, hp', hh'⟩, Boxed.new _ _ _⟩
        have KX2 : Keeps (fun _ => True) X (X.alloc (.cells #[.pointer (some ⟨hb, 0, none⟩)] 56)) := (Keeps.refl _ _).alloc _
        rw [← hX2] at hR2 KX2
        clear hX2
        have o2 := o1.keep KX2 trivial
        have r2 := r1.keep KX2 trivial
        have b2 := b1.trans (KX2.toBelow b1.size (fun _ _ => trivial))
        have hD2 := (KX2.block _ (Array.getElem?_eq_some_iff.1 hD).1 trivial).trans hD
        have hDl := (Array.getElem?_eq_some_iff.1 hD2).1
        clear o1 r1 b1 hD hV' hp' hh' KX2
        gi_wp2_with fail
        refine ⟨trivial, (callsIn_wide.2 (collect_any _ _ _ _ _ _ hR2)).mono ?_⟩
        rintro e X3 ⟨v3, rfl, hr3, hK3⟩
        obtain ⟨va, vn, vc, rfl⟩ := rowShape hr3
        have HO2 : ∀ k, k < z2.heap.size → k ≠ hb ∧ gb ≠ some k := fun k hk => ⟨by omega, fun e => by have := hown _ e; omega⟩
        have o3 := o2.keep hK3 (HO2 _ (by omega))
        have r3 := r2.keep hK3 (HO2 _ (by omega))
        have b3 := b2.trans (hK3.toBelow b2.size (fun q hq => HO2 _ (by omega)))
        have hD3 := (hK3.block _ hDl ⟨by omega, fun e => by have := hgl _ e; omega⟩).trans hD2
        clear o2 r2 b2 hD2 hK3 hR2 HO2
        obtain ⟨k0, k1, k2, k3, k4, k5⟩ := o3.cells
        have kf := o3.fz 0
        have hwz : ¬ w.heap.size = z1.heap.size := by omega
        obtain ⟨u0, u1, u2, u3, u4, u5, ⟨c0, c1, c2, c3, c4, c5⟩, f0, f1, f2, f3, f4, f5⟩ := r3.cells
        gi_wp2
        have K4 : Keeps (fun k => k ≠ z1.heap.size) X3 (X3.setCell ⟨z1.heap.size, 0, none⟩ (.slice va vn vc)) := (Keeps.refl _ _).setCell (fun h => h rfl) _
        have r4 := r3.keep K4 (by omega)
        obtain ⟨X4, hX4⟩ : ∃ X4, X3.setCell ⟨z1.heap.size, 0, none⟩ (.slice va vn vc) = X4 := ⟨_, rfl⟩
        rw [hX4] at K4 r4 ⊢
        clear hX4
        have KZ := keeps_six X4 w.heap.size (.slice va vn vc) (.int .i64 x.at0) (.int .i64 x.seq) (.int .i64 x.node) (.string x.text) (.int .i64 0)
        have H6 := r4.six (.slice va vn vc) (.int .i64 x.at0) (.int .i64 x.seq) (.int .i64 x.node) (.string x.text) (.int .i64 0)
        obtain ⟨z6, hz6⟩ : ∃ z6, ((((((X4.setCell ⟨w.heap.size, 0, none⟩ (.slice va vn vc)).setCell ⟨w.heap.size, 1, none⟩ (.int .i64 x.at0)).setCell ⟨w.heap.size, 2, none⟩ (.int .i64 x.seq)).setCell ⟨w.heap.size, 3, none⟩ (.int .i64 x.node)).setCell ⟨w.heap.size, 4, none⟩ (.string x.text)).setCell ⟨w.heap.size, 5, none⟩ (.int .i64 0)) = z6 := ⟨_, rfl⟩
        rw [hz6] at KZ H6 ⊢
        clear hz6
        have hDl3 := (Array.getElem?_eq_some_iff.1 hD3).1
        have hD6 := (KZ.block _ (Nat.lt_of_lt_of_le hDl3 K4.size) (by omega)).trans ((K4.block _ hDl3 (by omega)).trans hD3)
        refine ⟨by simp, .inl ⟨_, _, rfl, run_takeDeferred hD6, ?_⟩⟩
        have KP : Keeps (fun k => k ≠ z4.heap.size) z6 (z6.putObj z4.heap.size (.deferred none)) := (Keeps.refl _ _).putObj (fun h => h rfl) _
        have H7 : OutIs (z6.putObj z4.heap.size (.deferred none)) w.heap.size (.slice va vn vc) (.int .i64 x.at0) (.int .i64 x.seq) (.int .i64 x.node) (.string x.text) (.int .i64 0) := OutIs.keep (w := z6) H6 KP (by omega)
        obtain ⟨q0, q1, q2, q3, q4, q5⟩ := H7.cells
        refine ⟨outV (.slice va vn vc) x 0, by simp [results, Try.results11, go_sem, outV, q0, q1, q2, q3, q4, q5], _, rfl, ?_, ?_⟩
        · exact rowLe (rowKeep (rowKeep (rowKeep hr3 K4 (fun g hg => by have := (hr3.lt g hg).1; omega)) KZ (fun g hg => by have := (hr3.lt g hg).1; omega)) KP (fun g hg => by have := (hr3.lt g hg).1; omega)) (by omega)
        · exact ((b3.trans (K4.toBelow b3.size (fun q hq => by omega))).trans (KZ.toBelow (Nat.le_trans b3.size K4.size) (fun q hq => by omega))).trans (KP.toBelow (Nat.le_trans b3.size (Nat.le_trans K4.size KZ.size)) (fun q hq => by omega))
  · obtain ⟨rfl, rfl, rfl⟩ : c = f ∧ y = d0 ∧ m = [] := by
      rcases hf with ⟨h, e⟩ | ⟨h, h2, e⟩ | ⟨_, e⟩
      · rcases hP with ⟨_, h3⟩ | ⟨h3, _⟩ | ⟨h3, _⟩ | ⟨h3, _⟩
        · exact ⟨by omega, h3.2⟩
        · omega
        · rw [h3] at h; simp at h
        · have := h3.1; omega
      · rcases hP with ⟨h3, _⟩ | ⟨_, _, h3⟩ | ⟨h3, _⟩ | ⟨h3, _⟩
        · omega
        · exact ⟨by omega, h3.2⟩
        · exact absurd ⟨by rw [h3]; simp, fun i hi => by rw [h3] at hi; simp at hi⟩ h2
        · exact absurd h3 h2
      · exact absurd e hc
    have hc' : (c == 0) = false := beq_eq_false_iff_ne.2 hc
    clear hP hf hc hrow1
    obtain ⟨u0, u1, u2, u3, u4, u5, ⟨c0, c1, c2, c3, c4, c5⟩, f0, f1, f2, f3, f4, f5⟩ := r1.cells
    gi_wp2
    have KZ := keeps_six z1 w.heap.size (.slice none 0 0) (.int .i64 0) (.int .i64 0) (.int .i64 0) (.string ⟨#[]⟩) (.int .i64 c)
    have H6 := r1.six (.slice none 0 0) (.int .i64 0) (.int .i64 0) (.int .i64 0) (.string ⟨#[]⟩) (.int .i64 c)
    obtain ⟨z6, hz6⟩ : ∃ z6, ((((((z1.setCell ⟨w.heap.size, 0, none⟩ (.slice none 0 0)).setCell ⟨w.heap.size, 1, none⟩ (.int .i64 0)).setCell ⟨w.heap.size, 2, none⟩ (.int .i64 0)).setCell ⟨w.heap.size, 3, none⟩ (.int .i64 0)).setCell ⟨w.heap.size, 4, none⟩ (.string ⟨#[]⟩)).setCell ⟨w.heap.size, 5, none⟩ (.int .i64 c)) = z6 := ⟨_, rfl⟩
    rw [hz6] at KZ H6 ⊢
    clear hz6
    obtain ⟨q0, q1, q2, q3, q4, q5⟩ := six_cells H6
    refine ⟨outV (.slice none 0 0) d0 c, by simp [results, Try.results11, go_sem, outV, d0, q0, q1, q2, q3, q4, q5], _, rfl, World.ownsRow_nil _ _ _ _, b1.trans (KZ.toBelow b1.size (fun q hq => by omega))⟩
end Go.Proofs.Ytlnkcbojoaoehaa
