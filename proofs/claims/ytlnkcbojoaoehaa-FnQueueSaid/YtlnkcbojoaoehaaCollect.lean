/- The contracts of slices.Collect over what a heap gives, and of the iterator's making. -/
import Derived.Test.YtlnkcbojoaoehaaRangeT
namespace Go.Proofs.Ytlnkcbojoaoehaa
open Go Go.RowKit Go.Shelf
set_option linter.unusedVariables false
attribute [local go_sem] Oper.semAt_some

/-- Where an iterator stands ready. -/
structure Ready (w : World) (lo hb Bh : Nat) (gb : Option Nat) (S : List DueV) : Prop where
  rises : S.Pairwise DueV.lt
  texts : ∀ d ∈ S, d.text.size ≤ 1000000
  size : S.length ≤ 1000000
  heap : ∃ v l, HeapV w lo hb v l ∧ v.ownBlock = gb ∧ l.Perm S ∧ heapFrom l 0 l.length
  box : Boxed w Bh 56 (.pointer (some ⟨hb, 0, none⟩))
theorem Ready.gl {w : World} {lo hb Bh : Nat} {gb : Option Nat} {S : List DueV} (h : Ready w lo hb Bh gb S) : ∀ k, gb = some k → k < w.heap.size := by
  obtain ⟨v, l, hV, e, _⟩ := h.heap
  exact fun k hk => (hV.row.lt k (e.trans hk)).2
theorem Ready.bl {w : World} {lo hb Bh : Nat} {gb : Option Nat} {S : List DueV} (h : Ready w lo hb Bh gb S) : hb < w.heap.size := by
  obtain ⟨v, l, hV, _⟩ := h.heap
  exact hV.box.lt
theorem Ready.below {w w' : World} {lo hb Bh : Nat} {gb : Option Nat} {S : List DueV} (h : Ready w lo hb Bh gb S) (k : Below w.heap.size w w') : Ready w' lo hb Bh gb S := by
  obtain ⟨v, l, hV, e, p, hh⟩ := h.heap
  exact ⟨h.rises, h.texts, h.size, ⟨v, l, hV.keep (G := fun _ => True) (Keeps.ofBelow k (fun _ hk _ => hk)) trivial (fun _ _ => trivial), e, p, hh⟩, (k.block Bh h.box.lt).trans h.box⟩
theorem newCells0 (w : World) (x : DueV) : ∀ j u, x.cells[j]? = some u → (w.alloc (.cells #[.int .i64 x.at0, .int .i64 x.seq, .int .i64 x.node, .string x.text] 25)).cell? ((⟨w.heap.size, 0, none⟩ : Addr).add j) = some u := newCells w x
theorem rowLe {w : World} {base base' size n : Nat} {e : TypeId} {v : Value} {xs : List Value} (h : w.ownsRow base e size v n xs) (hb : base' ≤ base) : w.ownsRow base' e size v n xs :=
  ⟨h.1, h.2.imp id fun ⟨g, cap, cur, e, hg, r⟩ => ⟨g, cap, cur, e, Nat.le_trans hb hg, r⟩⟩
theorem Keeps.putFar {G : Nat → Prop} {a w : World} (h : Keeps G a w) {l : Nat} (hl : a.heap.size ≤ l) (o : Obj) : Keeps G a (w.putObj l o) :=
  ⟨h.os, h.tape, h.output, by simpa using h.size, fun k hk hg => (World.putObj_heap_other (by omega)).trans (h.block k hk hg)⟩
theorem Keeps.setFar {G : Nat → Prop} {a w : World} (h : Keeps G a w) {p : Addr} (hl : a.heap.size ≤ p.block) (u : Value) : Keeps G a (w.setCell p u) :=
  ⟨h.os, h.tape, h.output, by simpa [World.setCell] using h.size, fun k hk hg => (Below.heap_setCell _ _ _ _ (by omega)).trans (h.block k hk hg)⟩
theorem Keeps.grownFar {G : Nat → Prop} {a w w' : World} {row : Option Nat} (h : Keeps G a w) (hg : w.grownBy w' row) (hr : ∀ k, row = some k → a.heap.size ≤ k) : Keeps G a w' :=
  ⟨hg.os.trans h.os, hg.tape.trans h.tape, hg.output.trans h.output, Nat.le_trans h.size hg.size, fun k hk hgk => (hg.block k (Nat.lt_of_lt_of_le hk h.size) (fun e => by have := hr k e.symm; omega)).trans (h.block k hk hgk)⟩
def CollectPost (lo hb : Nat) (gb : Option Nat) (S : List DueV) (w : World) (e : Ending) (w' : World) : Prop :=
  ∃ v, e = .returned v ∧ w'.ownsRow w.heap.size 25 4 v S.length (cellsOf DueV.cells S) ∧ Keeps (fun k => k ≠ hb ∧ gb ≠ some k) w w'
set_option maxRecDepth 100000 in
set_option maxHeartbeats 4000000 in
theorem appendSeq_any (lo hb Bh : Nat) (gb : Option Nat) (S : List DueV) (w : World) (hR : Ready w lo hb Bh gb S) :
    Calls Try.prog 57 #[.slice none 0 0, .func (.func 58) #[] #[.pointer (some ⟨Bh, 0, none⟩)]] w (CollectPost lo hb gb S w) := by
  refine (callsIn_wide (n := 4)).1 ?_
  refine callsIn_of_wp_marks Try.func57 rfl trivial ?_ rfl
  simp only [Try.ntmps57, List.size_toArray, List.length_cons, List.length_nil, Nat.reduceAdd, Nat.reduceSub, Array.replicate_succ, Array.replicate_zero, List.push_toArray, List.append_toArray, List.nil_append, List.cons_append]
  gi_wp2
  have hR0 := hR.below ((Below.refl w.heap.size w).alloc (Nat.le_refl _) (.cells #[.slice none 0 0] 23))
  have hBs := Boxed.new w 23 (.slice none 0 0)
  have K0 : Keeps (fun k => k ≠ hb ∧ gb ≠ some k) w (w.alloc (.cells #[.slice none 0 0] 23)) := (Keeps.refl _ _).alloc _
  have hs0 : (w.alloc (.cells #[.slice none 0 0] 23)).heap.size = w.heap.size + 1 := by simp
  obtain ⟨W0, hW0⟩ : ∃ W0, w.alloc (.cells #[.slice none 0 0] 23) = W0 := ⟨_, rfl⟩
  rw [hW0] at hR0 hBs K0 hs0 ⊢
  have HS : Hid (W0.heap.size = w.heap.size + 1) := hs0
  clear hW0 hs0
  obtain ⟨v0, l0, hV, hgb, hp, hh⟩ := hR0.heap
  have hgl := hR.gl
  have hbl := hR.bl
  have hBl := hR.box.lt
  obtain ⟨i0, hi0, hz⟩ := Option.map_eq_some_iff.1 Try.infoDue
  simp only [Prod.mk.injEq] at hz
  refine range_taken 4 (by omega) lo hb Bh gb S v0 l0 rfl rfl hR0.rises hR0.texts hR0.size hV hgb hp hh hR0.box
    (fun pre W => ∃ v, Boxed W w.heap.size 23 v ∧ W.ownsRow (w.heap.size + 3) 25 4 v pre.length (cellsOf DueV.cells pre) ∧ Keeps (fun k => k ≠ hb ∧ gb ≠ some k) w W)
    (fun _ _ _ => False) ?hI (fun _ _ _ _ h _ => h) ⟨_, hBs, World.ownsRow_nil _ _ _ _, K0⟩
    (fun x Bx => { tmps := #[.slice none 0 0, .func (.func 58) #[] #[.pointer (some ⟨Bh, 0, none⟩)], .pointer (some ⟨w.heap.size, 0, none⟩), undef, .slice none 0 0, .pointer (some ⟨Bx, 0, none⟩), .func (.func 58) #[] #[.pointer (some ⟨Bh, 0, none⟩)], x.val, undef, undef, undef, undef, undef], defers := [] })
    ?assign ?body ?done ?stop
  case hI =>
    rintro xs W W' ⟨v, hb1, hr1, hk1⟩ hk
    rw [HS.out] at hk
    refine ⟨v, (hk.block _ hb1.lt ⟨⟨by omega, fun e => by have := hgl _ e; omega⟩, by omega, by omega⟩).trans hb1, ⟨hr1.1, ?_⟩, ?_⟩
    · rcases hr1.2 with h | ⟨g, cap, cur, e, hbg, hg, r⟩
      · exact .inl h
      · exact .inr ⟨g, cap, cur, e, hbg, (hk.block g (Array.getElem?_eq_some_iff.1 hg).1 ⟨⟨by omega, fun e => by have := hgl _ e; omega⟩, by omega, by omega⟩).trans hg, r⟩
    · refine ⟨hk.os.trans hk1.os, hk.tape.trans hk1.tape, hk.output.trans hk1.output, Nat.le_trans hk1.size hk.size, fun k hkw hkg => (hk.block k (Nat.lt_of_lt_of_le hkw hk1.size) ⟨hkg, by omega, by omega⟩).trans (hk1.block k hkw hkg)⟩
  case assign =>
    intro l x W K hK
    obtain ⟨x1, x2, x3, x4⟩ := x
    unfold DueV.val at hK ⊢
    dsimp only at hK
    gi_wp2
    exact hK
  case stop =>
    intro c pre x rest l' v W _ h
    exact h.elim
  case done =>
    rintro v W ⟨v1, hb1, hr1, hk1⟩ hVe hge hD
    have k1 := hb1.cell
    gi_wp2
    refine ⟨by simp, .inl ⟨_, _, rfl, run_takeDeferred hD, ?_⟩⟩
    have hne : v1.ownBlock = none ∨ v1.ownBlock ≠ some W0.heap.size := by
      cases hx : v1.ownBlock with
      | none => exact .inl rfl
      | some k => exact .inr (fun e => by have := (hr1.lt k hx).1; rw [HS.out] at e; have := Option.some.inj e; omega)
    exact ⟨_, results_tmp rfl _ _ _, v1, rfl, rowLe (hr1.kept (grownBy_putObj' W _ _) hne) (by omega), hk1.putFar (by rw [HS.out]; omega) _⟩
  case body =>
    rintro l pre x rest Bx W hSx ⟨v, hb1, hr1, hk1⟩ hX hBx hgx
    have hpl : pre.length ≤ 1000000 := by have := hR0.size; rw [hSx] at this; simp at this; omega
    have hWs : w.heap.size + 3 ≤ W.heap.size := by have := hX.lt; rw [HS.out] at hBx; omega
    obtain ⟨x1, x2, x3, x4⟩ := x
    obtain ⟨hxl, c0, c1, c2, c3⟩ := hX
    dsimp only at c0 c1 c2 c3
    unfold DueV.val
    dsimp only
    have k1 := hb1.cell
    clear hSx
    gi_wp2_with (gi_at_builtin; refine wpListIn_append_own _ rfl _ _ 23 rfl (w.heap.size + 3) 25 i0 _ 4 40 Try.underlying23 hi0 hz.1 hz.2.1 hz.2.2 rfl (by decide) _ _ _ rfl (hr1.alloc _) ⟨W.heap.size, 0, none⟩ 1 1 (DueV.cells ⟨x1, x2, x3, x4⟩) rfl rfl (newCells0 _ _) (oneCells _) (by unfold maxLen; omega) (by omega) (by simp; omega) ?_; intro v2 w1 hown2 hgr _; obtain ⟨g2, cap2, rfl⟩ := ownsRow_succ hown2; have hb2 := (hb1.alloc (.cells #[.int .i64 x1, .int .i64 x2, .int .i64 x3, .string x4] 25)).kept hgr (hb1.not_row (by decide) hr1); have q1 := hb2.cell; have q2 := hb2.frozen)
    have hrl : ∀ k, v.ownBlock = some k → w.heap.size + 3 ≤ k := fun k e => (hr1.lt k e).1
    have hl1 : (pre ++ [DueV.mk x1 x2 x3 x4]).length = pre.length + 1 := by simp
    have hrow2 : w1.ownsRow (w.heap.size + 3) 25 4 (.slice (some ⟨g2, 0, none⟩) (pre.length + 1) cap2) (pre.length + 1) (cellsOf DueV.cells (pre ++ [DueV.mk x1 x2 x3 x4])) := by rw [cellsOf_append]; exact hown2
    have hne2 := hb2.not_row (by decide) hrow2
    refine ⟨?_, _, hb2.set _, by rw [hl1]; exact hrow2.kept (grownBy_setCell' w1 w.heap.size _) (.inr (fun e => hne2 e.symm)), ((hk1.alloc _).grownFar hgr (fun k e => by have := hrl k e; omega)).setFar (Nat.le_refl _) _⟩
    rw [HS.out]
    have hH : ∀ k, Held hb Bh gb (w.heap.size + 1) k → k ≠ w.heap.size ∧ k < w.heap.size + 3 := fun k h => by
      rcases h with h | h | h | h | h
      · omega
      · have := hgl k h; omega
      · omega
      · omega
      · omega
    exact (((Keeps.refl _ _).alloc _).grown hgr (fun k e h => by have := hrl k e; have := hH k h; omega)).setCell (fun h => (hH _ h).1 rfl) _
set_option maxRecDepth 100000 in
theorem collect_any (lo hb Bh : Nat) (gb : Option Nat) (S : List DueV) (w : World) (hR : Ready w lo hb Bh gb S) :
    Calls Try.prog 36 #[.func (.func 58) #[] #[.pointer (some ⟨Bh, 0, none⟩)]] w (CollectPost lo hb gb S w) := by
  go_enter Try.func36, Try.ntmps36
  go_wp2_with fail
  refine (appendSeq_any lo hb Bh gb S _ hR).mono ?_
  rintro e w' ⟨v, rfl, h1, h2⟩
  go_wp2
  go_ret
  exact ⟨v, rfl, h1, h2⟩
set_option maxRecDepth 100000 in
theorem taken_any (a : Option Addr) (w : World) : Calls Try.prog 37 #[.pointer a] w fun e w' => e = .returned (.func (.func 58) #[] #[.pointer (some ⟨w.heap.size, 0, none⟩)]) ∧ w' = w.alloc (.cells #[.pointer a] 56) := by
  go_enter Try.func37, Try.ntmps37
  go_wp2
  go_ret
  exact ⟨rfl, rfl⟩
end Go.Proofs.Ytlnkcbojoaoehaa
