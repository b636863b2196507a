/- The contract of the program's QueueDrop. -/
import Derived.Test.YtlnkcbojoaoehaaQPutI
namespace Go.Proofs.Ytlnkcbojoaoehaa
open Go Go.RowKit Go.Shelf
set_option linter.unusedVariables false
attribute [local go_sem] Oper.semAt_some

/-- An answer's block, known whole. -/
def OutIs (w : World) (b : Nat) (v0 v1 v2 v3 v4 v5 : Value) : Prop := w.heap[b]? = some (.cells #[v0, v1, v2, v3, v4, v5] 29 (0, 0))
theorem OutIs.lt {w : World} {b : Nat} {v0 v1 v2 v3 v4 v5 : Value} (h : OutIs w b v0 v1 v2 v3 v4 v5) : b < w.heap.size := (Array.getElem?_eq_some_iff.1 h).1
theorem OutIs.cells {w : World} {b : Nat} {v0 v1 v2 v3 v4 v5 : Value} (h : OutIs w b v0 v1 v2 v3 v4 v5) : w.cell? ⟨b, 0, none⟩ = some v0 ∧ w.cell? ⟨b, 1, none⟩ = some v1 ∧ w.cell? ⟨b, 2, none⟩ = some v2 ∧ w.cell? ⟨b, 3, none⟩ = some v3 ∧ w.cell? ⟨b, 4, none⟩ = some v4 ∧ w.cell? ⟨b, 5, none⟩ = some v5 := six_cells h
theorem OutIs.fz {w : World} {b : Nat} {v0 v1 v2 v3 v4 v5 : Value} (h : OutIs w b v0 v1 v2 v3 v4 v5) (j : Nat) : w.frozen? ⟨b, j, none⟩ = false := by simp [World.frozen?, show w.heap[b]? = _ from h]
theorem OutIs.keep {w w' : World} {b : Nat} {v0 v1 v2 v3 v4 v5 : Value} (h : OutIs w b v0 v1 v2 v3 v4 v5) {G : Nat → Prop} (k : Keeps G w w') (hg : G b) : OutIs w' b v0 v1 v2 v3 v4 v5 := (k.block b h.lt hg).trans h
theorem OutIs.below {w w' : World} {b : Nat} {v0 v1 v2 v3 v4 v5 : Value} (h : OutIs w b v0 v1 v2 v3 v4 v5) (k : Below w.heap.size w w') : OutIs w' b v0 v1 v2 v3 v4 v5 := (k.block b h.lt).trans h
theorem OutIs.put {w : World} {b : Nat} {v0 v1 v2 v3 v4 v5 : Value} (h : OutIs w b v0 v1 v2 v3 v4 v5) (u : Value) : OutIs (w.setCell ⟨b, 0, none⟩ u) b u v1 v2 v3 v4 v5 := by
  have := heap_setCell_same w b 0 _ _ u h
  simpa [OutIs] using this
theorem OutIs.not_row {W : World} {B : Nat} {v0 v1 v2 v3 v4 v5 : Value} (h : OutIs W B v0 v1 v2 v3 v4 v5) {base size k : Nat} {v : Value} {xs : List Value} (hr : W.ownsRow base 25 size v k xs) : v.ownBlock ≠ some B := by
  rcases hr.2 with ⟨rfl, _⟩ | ⟨g, cap, cur, rfl, _, hgb, _⟩
  · simp [Value.ownBlock]
  · intro e'
    obtain rfl : g = B := by simpa [Value.ownBlock] using e'
    have := (show W.heap[g]? = _ from h).symm.trans hgb
    simp at this
theorem dropN_snoc (l : List DueV) (x : DueV) (node : Int) : dropN (l ++ [x]) node = if x.node = node then dropN l node else dropN l node ++ [x] := by
  unfold dropN
  rw [List.filter_append]
  by_cases h : x.node = node <;> simp [h]
set_option maxHeartbeats 4000000 in
set_option maxRecDepth 100000 in
theorem implDropQ_any (a : Option Addr) (cap : Nat) (l : List DueV) (node : Int) (c : Int) (m : List DueV) (w : World) (hP : DropIs l node c m) (hl : l.length ≤ 1048576) (hrow : CellRow w a (cellsOf DueV.cells l)) :
    Calls Try.prog 13 #[.slice a l.length cap, .int .i64 node] w (OutPost c d0 m w) := by
  have b0 := ((Below.refl w.heap.size w).alloc (Nat.le_refl _) (.cells #[.int .i64 node] 2)).alloc (by simp) (.cells #[.slice none 0 0, .int .i64 0, .int .i64 0, .int .i64 0, .string ⟨#[]⟩, .int .i64 0] 29)
  have p0 := (Boxed.new w 2 (.int .i64 node)).alloc (.cells #[.slice none 0 0, .int .i64 0, .int .i64 0, .int .i64 0, .string ⟨#[]⟩, .int .i64 0] 29)
  have r0 := ResBlk.new (w.alloc (.cells #[.int .i64 node] 2)) (.slice none 0 0) (.int .i64 0) (.int .i64 0) (.int .i64 0) (.string ⟨#[]⟩) (.int .i64 0)
  rw [World.size_alloc] at r0
  have hrow0 := hrow.keep b0
  obtain ⟨W, hW⟩ : ∃ W, (w.alloc (.cells #[.int .i64 node] 2)).alloc (.cells #[.slice none 0 0, .int .i64 0, .int .i64 0, .int .i64 0, .string ⟨#[]⟩, .int .i64 0] 29) = W := ⟨_, rfl⟩
  rw [hW] at b0 p0 r0 hrow0
  have HW : Hid ((w.alloc (.cells #[.int .i64 node] 2)).alloc (.cells #[.slice none 0 0, .int .i64 0, .int .i64 0, .int .i64 0, .string ⟨#[]⟩, .int .i64 0] 29) = W) := hW
  clear hW
  have hF : FaultIs l c := by
    rcases hP with ⟨h1, h2, _⟩ | ⟨h1, h2, h3, _⟩ | ⟨h1, h2, _⟩
    · exact .inl ⟨h1, h2⟩
    · exact .inr (.inl ⟨h1, h2, h3⟩)
    · exact .inr (.inr ⟨h1, h2⟩)
  have HF : Hid (FaultIs l c) := hF
  clear hF
  refine (callsIn_wide (n := 5)).1 ?_
  refine callsIn_of_wp_marks Try.func13 rfl trivial ?_ rfl
  simp only [Try.ntmps13, List.size_toArray, List.length_cons, List.length_nil, Nat.reduceAdd, Nat.reduceSub, Array.replicate_succ, Array.replicate_zero, List.push_toArray, List.append_toArray, List.nil_append, List.cons_append]
  gi_wp2_with fail
  rw [HW.out]
  refine ⟨trivial, (callsIn_wide.2 (queueFault_any a cap l c _ HF.out hl hrow0)).mono ?_⟩
  rintro e z1 ⟨rfl, bz1⟩
  have b1 := b0.trans (bz1.mono b0.size)
  have p1 : Boxed z1 w.heap.size 2 (.int .i64 node) := (bz1.block _ p0.lt).trans p0
  have r1 := r0.below bz1
  have hrow1 := hrow0.keep bz1
  have hsz1 := r1.lt
  clear b0 p0 r0 hrow0 bz1 HW
  by_cases hc : c = 0
  · subst hc
    obtain ⟨hq, rfl⟩ : rightQ l ∧ m = dropN l node := by
      rcases hP with ⟨_, e, _⟩ | ⟨_, _, e, _⟩ | ⟨h1, _, h2⟩
      · cases e
      · cases e
      · exact ⟨h1, h2⟩
    have HQ : Hid (rightQ l) := hq
    have h200 := hq.1
    clear hP hq
    have b1' := b1
    have O2 : OutIs (z1.alloc (.cells #[.slice none 0 0, .int .i64 0, .int .i64 0, .int .i64 0, .string ⟨#[]⟩, .int .i64 0] 29)) z1.heap.size (.slice none 0 0) (.int .i64 0) (.int .i64 0) (.int .i64 0) (.string ⟨#[]⟩) (.int .i64 0) := heap_alloc_new z1 _
    have bz2 : Below z1.heap.size z1 (z1.alloc (.cells #[.slice none 0 0, .int .i64 0, .int .i64 0, .int .i64 0, .string ⟨#[]⟩, .int .i64 0] 29)) := (Below.refl _ _).alloc (Nat.le_refl _) _
    have hs2 : z1.heap.size + 1 ≤ (z1.alloc (.cells #[.slice none 0 0, .int .i64 0, .int .i64 0, .int .i64 0, .string ⟨#[]⟩, .int .i64 0] 29)).heap.size := by simp
    obtain ⟨z2, hz2⟩ : ∃ z2, z1.alloc (.cells #[.slice none 0 0, .int .i64 0, .int .i64 0, .int .i64 0, .string ⟨#[]⟩, .int .i64 0] 29) = z2 := ⟨_, rfl⟩
    rw [hz2] at O2 bz2 hs2
    have HZ2 : Hid (z1.alloc (.cells #[.slice none 0 0, .int .i64 0, .int .i64 0, .int .i64 0, .string ⟨#[]⟩, .int .i64 0] 29) = z2) := hz2
    clear hz2
    gi_wp2_with fail
    rw [HZ2.out]
    refine ⟨trivial, (callsIn_wide.2 (heaped_any a cap l z2 (by omega) (hrow1.keep bz2))).mono ?_⟩
    rintro e z3 ⟨hb, v, l2, rfl, hp2, hh2, hV2, hhb, bz3⟩
    have hown : ∀ q, v.ownBlock = some q → z2.heap.size ≤ q := fun q e => (hV2.row.lt q e).1
    have B3 : Below z1.heap.size z1 z3 := bz2.trans (bz3.mono bz2.size)
    have O3 := O2.below bz3
    have hs3 := bz3.size
    clear O2 bz2 hrow1 HZ2
    gi_wp2_with fail
    refine ⟨trivial, (callsIn_wide.2 (taken_any _ _)).mono ?_⟩
    rintro e z4 ⟨rfl, hz4⟩
    have hR : Ready (z3.alloc (.cells #[.pointer (some ⟨hb, 0, none⟩)] 56)) z2.heap.size hb z3.heap.size v.ownBlock l :=
      ⟨rightQ_lt HQ.out, fun d hd => by have := (rightQ_ok HQ.out d hd).2.2.2; omega, by omega, ⟨v, l2, hV2.keep (G := fun _ => True) ((Keeps.refl _ _).alloc _) trivial (fun _ _ => trivial), rfl, hp2, hh2⟩, Boxed.new _ _ _⟩
    have B4 := B3.alloc B3.size (.cells #[.pointer (some ⟨hb, 0, none⟩)] 56)
    have O4 := O3.below ((Below.refl _ _).alloc (Nat.le_refl _) (.cells #[.pointer (some ⟨hb, 0, none⟩)] 56))
    have hs4 : z3.heap.size < (z3.alloc (.cells #[.pointer (some ⟨hb, 0, none⟩)] 56)).heap.size := by simp
    rw [← hz4] at hR B4 O4 hs4
    have p4 : Boxed z4 w.heap.size 2 (.int .i64 node) := (B4.block _ p1.lt).trans p1
    have r4 := r1.below B4
    have b4 := b1.trans (B4.mono b1.size)
    clear hz4 B3 O3 hV2 hp2 hh2 p1 r1 b1 b1' B4 bz3
    obtain ⟨gb, hgb0⟩ : ∃ gb, v.ownBlock = gb := ⟨_, rfl⟩
    rw [hgb0] at hR hown
    clear hgb0
    gi_wp2
    obtain ⟨v0, l0, hV, hgb, hp, hh⟩ := hR.heap
    have hbl : z2.heap.size ≤ hb := hhb
    have hgl := hR.gl
    have hbs := hR.bl
    obtain ⟨i0, hi0, hz⟩ := Option.map_eq_some_iff.1 Try.infoDue
    simp only [Prod.mk.injEq] at hz
    refine range_taken 5 (by omega) z2.heap.size hb z3.heap.size gb l v0 l0 rfl rfl hR.rises hR.texts hR.size hV hgb hp hh hR.box
      (fun pre X => ∃ va vn vc, OutIs X z1.heap.size (.slice va vn vc) (.int .i64 0) (.int .i64 0) (.int .i64 0) (.string ⟨#[]⟩) (.int .i64 0) ∧ X.ownsRow (z4.heap.size + 2) 25 4 (.slice va vn vc) (dropN pre node).length (cellsOf DueV.cells (dropN pre node)) ∧ Boxed X w.heap.size 2 (.int .i64 node) ∧ ResBlk X (w.heap.size + 1) ∧ Below w.heap.size w X)
      (fun _ _ _ => False) ?hI (fun _ _ _ _ h _ => h) ⟨_, _, _, O4, World.ownsRow_nil _ _ _ _, p4, r4, b4⟩
      (fun x Bx => { tmps := #[.slice a l.length cap, .int .i64 node, undef, .pointer (some ⟨w.heap.size, 0, none⟩), .pointer (some ⟨w.heap.size + 1, 0, none⟩), .int .i64 0, .pointer (some ⟨z1.heap.size, 0, none⟩), .pointer (some ⟨Bx, 0, none⟩), .slice a l.length cap, .int .i64 0, .int .i64 0, .bool false, undef, undef, .slice a l.length cap, .pointer (some ⟨hb, 0, none⟩), .func (.func 58) #[] #[.pointer (some ⟨z3.heap.size, 0, none⟩)], x.val, undef, undef, undef, undef, undef, undef, undef, undef, undef, undef, undef], defers := [] })
      ?assign ?body ?done ?stop
    case hI =>
      rintro xs X X' ⟨va, vn, vc, o1, h1, p1, r1, b1⟩ hk
      refine ⟨va, vn, vc, o1.keep hk ⟨⟨by omega, fun e => by have := hown _ e; omega⟩, by omega, by omega⟩, rowKeep h1 hk (fun g hg => by have := (h1.lt g hg).1; exact ⟨⟨by omega, fun e => by have := hgl _ e; omega⟩, by omega, by omega⟩), (hk.block _ p1.lt ⟨⟨by omega, fun e => by have := hown _ e; omega⟩, by omega, by omega⟩).trans p1, r1.keep hk ⟨⟨by omega, fun e => by have := hown _ e; omega⟩, by omega, by omega⟩, b1.trans (hk.toBelow b1.size (fun q hq => ⟨⟨by omega, fun e => by have := hown _ e; omega⟩, by omega, by omega⟩))⟩
    case assign =>
      intro q x X K hK
      obtain ⟨x1, x2, x3, x4⟩ := x
      unfold DueV.val at hK ⊢
      dsimp only at hK
      gi_wp2
      exact hK
    case stop =>
      intro c pre x rest l' v W _ h
      exact h.elim
    case body =>
      rintro q pre x rest Bx X hSx ⟨va, vn, vc, o1, h1, p1, r1, b1⟩ hX hBx hgx
      have hpl : (dropN pre node).length ≤ 1000000 := by
        have h1 := List.length_filter_le (fun d => d.node != node) pre
        have h2 := hR.size; rw [hSx] at h2; simp at h2
        show (pre.filter _).length ≤ _
        omega
      have hWs : z4.heap.size + 2 ≤ X.heap.size := by have := hX.lt; omega
      have HD := dropN_snoc pre x node
      obtain ⟨x1, x2, x3, x4⟩ := x
      dsimp only at HD
      have HDH : Hid (dropN (pre ++ [⟨x1, x2, x3, x4⟩]) node = if x3 = node then dropN pre node else dropN pre node ++ [⟨x1, x2, x3, x4⟩]) := HD
      obtain ⟨hxl, c0, c1, c2, c3⟩ := hX
      dsimp only at c0 c1 c2 c3
      unfold DueV.val
      dsimp only
      have k1 := p1.cell
      obtain ⟨k2, _, _, _, _, _⟩ := o1.cells
      clear hSx HD
      by_cases hx : x3 = node
      · have hx' : (x3 != node) = false := by simp [hx]
        have HE : Hid (dropN (pre ++ [⟨x1, x2, x3, x4⟩]) node = dropN pre node) := by show _ = _; rw [HDH.out, if_pos hx]
        clear hx HDH
        gi_wp2
        exact ⟨Keeps.refl _ _, va, vn, vc, o1, by rw [HE.out]; exact h1, p1, r1, b1⟩
      · have hx' : (x3 != node) = true := by simp [hx]
        have HE : Hid (dropN (pre ++ [⟨x1, x2, x3, x4⟩]) node = dropN pre node ++ [⟨x1, x2, x3, x4⟩]) := by show _ = _; rw [HDH.out, if_neg hx]
        clear hx HDH
        gi_wp2_with (gi_at_builtin; refine wpListIn_append_own _ rfl _ _ 23 rfl (z4.heap.size + 2) 25 i0 _ 4 40 Try.underlying23 hi0 hz.1 hz.2.1 hz.2.2 rfl (by decide) _ _ _ rfl (h1.alloc _) ⟨X.heap.size, 0, none⟩ 1 1 (DueV.cells ⟨x1, x2, x3, x4⟩) rfl rfl (newCells0 _ _) (oneCells _) (by unfold maxLen; omega) (by omega) (by simp; omega) ?_; intro v2 w1 hown2 hgr _; obtain ⟨g2, cap2, rfl⟩ := ownsRow_succ hown2; have o2 : OutIs w1 z1.heap.size (.slice va vn vc) (.int .i64 0) (.int .i64 0) (.int .i64 0) (.string ⟨#[]⟩) (.int .i64 0) := (hgr.block _ (Nat.lt_of_lt_of_le o1.lt (by simp)) (fun e => o1.not_row h1 e.symm)).trans (o1.below ((Below.refl _ _).alloc (Nat.le_refl _) _)); have q1 := o2.cells.1; have q2 := o2.fz 0)
        have hrl : ∀ k, Value.ownBlock (.slice va vn vc) = some k → z4.heap.size + 2 ≤ k := fun k e => (h1.lt k e).1
        have KX : Keeps (fun k => k < z4.heap.size + 2 ∧ k ≠ z1.heap.size) X (w1.setCell ⟨z1.heap.size, 0, none⟩ (.slice (some ⟨g2, 0, none⟩) ((dropN pre node).length + 1) cap2)) := (((Keeps.refl _ _).alloc _).grown hgr (fun k e h => by have := hrl k e; omega)).setCell (fun h => h.2 rfl) _
        have hl1 : (dropN pre node ++ [DueV.mk x1 x2 x3 x4]).length = (dropN pre node).length + 1 := by simp
        have hrow2 : w1.ownsRow (z4.heap.size + 2) 25 4 (.slice (some ⟨g2, 0, none⟩) ((dropN pre node).length + 1) cap2) ((dropN pre node).length + 1) (cellsOf DueV.cells (dropN pre node ++ [DueV.mk x1 x2 x3 x4])) := by rw [cellsOf_append]; exact hown2
        have hg2 := (hrow2.lt g2 rfl).1
        have hne2 : Value.ownBlock (.slice (some ⟨g2, 0, none⟩) ((dropN pre node).length + 1) cap2) ≠ some z1.heap.size := fun e => by
          have h3 : g2 = z1.heap.size := by simpa [Value.ownBlock] using e
          omega
        refine ⟨KX.mono ?_, _, _, _, o2.put _, by rw [HE.out, hl1]; exact hrow2.kept (grownBy_setCell' w1 z1.heap.size _) (.inr hne2), (KX.block _ p1.lt ⟨by omega, by omega⟩).trans p1, r1.keep KX ⟨by omega, by omega⟩, b1.trans (KX.toBelow b1.size (fun k hk => ⟨by omega, by omega⟩))⟩
        intro k _ h
        rcases h with h | h | h | h | h
        · omega
        · have := hgl k h; have := hown k h; omega
        · omega
        · omega
        · omega
    case done =>
      rintro v X ⟨va, vn, vc, o1, h1, p1, r1, b1⟩ hVe hge hD
      obtain ⟨c0, c1, c2, c3, c4, c5⟩ := o1.cells
      obtain ⟨u0, u1, u2, u3, u4, u5, ⟨d0', d1, d2, d3, d4, d5⟩, f0, f1, f2, f3, f4, f5⟩ := r1.cells
      gi_wp2
      have KZ := keeps_six X (w.heap.size + 1) (.slice va vn vc) (.int .i64 0) (.int .i64 0) (.int .i64 0) (.string ⟨#[]⟩) (.int .i64 0)
      have H6 := r1.six (.slice va vn vc) (.int .i64 0) (.int .i64 0) (.int .i64 0) (.string ⟨#[]⟩) (.int .i64 0)
      obtain ⟨z6, hz6⟩ : ∃ z6, ((((((X.setCell ⟨w.heap.size + 1, 0, none⟩ (.slice va vn vc)).setCell ⟨w.heap.size + 1, 1, none⟩ (.int .i64 0)).setCell ⟨w.heap.size + 1, 2, none⟩ (.int .i64 0)).setCell ⟨w.heap.size + 1, 3, none⟩ (.int .i64 0)).setCell ⟨w.heap.size + 1, 4, none⟩ (.string ⟨#[]⟩)).setCell ⟨w.heap.size + 1, 5, none⟩ (.int .i64 0)) = z6 := ⟨_, rfl⟩
      rw [hz6] at KZ H6 ⊢
      clear hz6
      have hDl := (Array.getElem?_eq_some_iff.1 hD).1
      have hD6 := (KZ.block _ hDl (by omega)).trans hD
      refine ⟨by simp, .inl ⟨_, _, rfl, run_takeDeferred hD6, ?_⟩⟩
      have KP : Keeps (fun k => k ≠ z4.heap.size) z6 (z6.putObj z4.heap.size (.deferred none)) := (Keeps.refl _ _).putObj (fun h => h rfl) _
      have H7 : OutIs (z6.putObj z4.heap.size (.deferred none)) (w.heap.size + 1) (.slice va vn vc) (.int .i64 0) (.int .i64 0) (.int .i64 0) (.string ⟨#[]⟩) (.int .i64 0) := OutIs.keep (w := z6) H6 KP (by omega)
      obtain ⟨q0, q1, q2, q3, q4, q5⟩ := H7.cells
      refine ⟨outV (.slice va vn vc) d0 0, by simp [results, Try.results13, go_sem, outV, d0, q0, q1, q2, q3, q4, q5], _, rfl, ?_, ?_⟩
      · exact rowLe (rowKeep (rowKeep h1 KZ (fun g hg => by have := (h1.lt g hg).1; omega)) KP (fun g hg => by have := (h1.lt g hg).1; omega)) (by omega)
      · exact (b1.trans (KZ.toBelow b1.size (fun q hq => by omega))).trans (KP.toBelow (Nat.le_trans b1.size KZ.size) (fun q hq => by omega))
  · have hm : m = [] := by
      rcases hP with ⟨_, _, h⟩ | ⟨_, _, _, h⟩ | ⟨_, e, _⟩
      · exact h
      · exact h
      · exact absurd e hc
    subst hm
    have hc' : (c == 0) = false := beq_eq_false_iff_ne.2 hc
    clear hP hc p1 hrow1
    obtain ⟨u0, u1, u2, u3, u4, u5, ⟨c0, c1, c2, c3, c4, c5⟩, f0, f1, f2, f3, f4, f5⟩ := r1.cells
    gi_wp2
    have KZ := keeps_six z1 (w.heap.size + 1) (.slice none 0 0) (.int .i64 0) (.int .i64 0) (.int .i64 0) (.string ⟨#[]⟩) (.int .i64 c)
    have H6 := r1.six (.slice none 0 0) (.int .i64 0) (.int .i64 0) (.int .i64 0) (.string ⟨#[]⟩) (.int .i64 c)
    obtain ⟨z6, hz6⟩ : ∃ z6, ((((((z1.setCell ⟨w.heap.size + 1, 0, none⟩ (.slice none 0 0)).setCell ⟨w.heap.size + 1, 1, none⟩ (.int .i64 0)).setCell ⟨w.heap.size + 1, 2, none⟩ (.int .i64 0)).setCell ⟨w.heap.size + 1, 3, none⟩ (.int .i64 0)).setCell ⟨w.heap.size + 1, 4, none⟩ (.string ⟨#[]⟩)).setCell ⟨w.heap.size + 1, 5, none⟩ (.int .i64 c)) = z6 := ⟨_, rfl⟩
    rw [hz6] at KZ H6 ⊢
    clear hz6
    obtain ⟨q0, q1, q2, q3, q4, q5⟩ := six_cells H6
    refine ⟨outV (.slice none 0 0) d0 c, by simp [results, Try.results13, go_sem, outV, d0, q0, q1, q2, q3, q4, q5], _, rfl, World.ownsRow_nil _ _ _ _, b1.trans (KZ.toBelow b1.size (fun q hq => by omega))⟩
end Go.Proofs.Ytlnkcbojoaoehaa
