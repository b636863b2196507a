/- The contracts of the exact laws' holds of what is due, and of their answers. -/
import Derived.Test.YtlnkcbojoaoehaaMarkD
import Derived.Test.YtlnkcbojoaoehaaQDropI
namespace Go.Proofs.Ytlnkcbojoaoehaa
open Go Go.RowKit
set_option linter.unusedVariables false

set_option maxHeartbeats 1000000 in
set_option maxRecDepth 100000 in
theorem heldDues_any (a : Option Addr) (n cap k : Nat) (w : World) (hl : n ≤ 1048576) (hk0 : 0 < k) (hk : k ≤ 100000000) (hrow : CellRow w a (cellsOf DueV.cells (markL n k))) :
    Calls Try.prog 49 #[.slice a n cap, .int .i64 k] w fun e w' => e = .returned (.int .i64 (k + 4 * n : Nat)) ∧ Below w.heap.size w w' := by
  go_enter Try.func49, Try.ntmps49
  go_wp2
  go_loopw [5, 1] (fun i t wr => ∃ q : Nat, q ≤ n ∧ i = .int .i64 q ∧ t = .int .i64 (k + 4 * q : Nat) ∧ Below w.heap.size w wr) (fun i _ _ => n - (intOf i).toNat)
  case atStart => exact ⟨0, Nat.zero_le _, rfl, rfl, Below.refl _ _⟩
  case round =>
    obtain ⟨q, hq, rfl, rfl, hb⟩ := hrel
    by_cases hx : q < n
    · obtain ⟨b, off, rfl⟩ := hrow.addr (by rw [cellsOf_length DueV.cells_len, markL_length]; omega)
      have dm := (hrow.keep hb).duef (i := q) (by rw [markL_length]; exact hx) (markL_at n k q hx)
      obtain ⟨K, hKe⟩ : ∃ K : Nat, k + 4 * q = K := ⟨_, rfl⟩
      have hK1 : K ≤ 200000000 := by omega
      have hK0 : 0 < K := by omega
      rw [hKe] at dm ⊢
      have HKE : Hid (k + 4 * q = K) := hKe
      clear hKe
      unfold markOne at dm
      have dm0 := dm
      obtain ⟨_, c0, c1, c2, c3⟩ := dm0
      dsimp only at c0 c1 c2 c3
      rw [show ((K + 1 : Nat) : Int) = (K : Int) + 1 by omega] at c1
      rw [show ((K + 2 : Nat) : Int) = (K : Int) + 1 + 1 by omega] at c2
      have hw1 : IntKind.i64.wrap ((K : Int) + 1) = (K : Int) + 1 := by rw [IntKind.wrap_i64]; omega
      have hw2 : IntKind.i64.wrap ((K : Int) + 1 + 1) = (K : Int) + 1 + 1 := by rw [IntKind.wrap_i64]; omega
      have hw3 : IntKind.i64.wrap ((K : Int) + 1 + 1 + 1) = (K : Int) + 1 + 1 + 1 := by rw [IntKind.wrap_i64]; omega
      have hw4 : IntKind.i64.wrap ((K : Int) + 1 + 1 + 1 + 1) = (K : Int) + 1 + 1 + 1 + 1 := by rw [IntKind.wrap_i64]; omega
      have hxI : (q : Int) < (n : Int) := by omega
      go_upto_region 13 with fail
      refine wp_region_held_drew (S := (fun w' => Below wr.heap.size wr w')) (by kernel_rfl) ?hS0 (fun hHeld => ?_)
      case hS0 => exact (Below.refl _ _).drew
      refine takeG 0 (v := .slice (some ⟨b, off, none⟩) n cap) rfl (by kernel_rfl) (by kernel_rfl) (by kernel_rfl) (by kernel_rfl) (fun _ _ _ h => h) ?hy (by assumption) ?_
      case hy => (intro w' hSw; go_simp)
      try simp only [List.setIfInBounds_toArray, List.set_cons_zero, List.set_cons_succ]
      refine takeG 1 (v := .int .i64 (q : Int)) rfl (by kernel_rfl) (by kernel_rfl) (by kernel_rfl) (by kernel_rfl) (fun _ _ _ h => h) ?hy (by assumption) ?_
      case hy => (intro w' hSw; go_simp)
      try simp only [List.setIfInBounds_toArray, List.set_cons_zero, List.set_cons_succ]
      refine takeG 2 (v := .pointer (some ⟨b, off + q * 4, none⟩)) rfl (by kernel_rfl) (by kernel_rfl) (by kernel_rfl) (by kernel_rfl) (fun _ _ _ h => h) ?hy (by assumption) ?_
      case hy => (intro w' hSw; go_simp)
      try simp only [List.setIfInBounds_toArray, List.set_cons_zero, List.set_cons_succ]
      refine takeG 3 (v := .pointer (some ⟨b, off + q * 4 + 3, none⟩)) rfl (by kernel_rfl) (by kernel_rfl) (by kernel_rfl) (by kernel_rfl) (fun _ _ _ h => h) ?hy (by assumption) ?_
      case hy => (intro w' hSw; go_simp)
      try simp only [List.setIfInBounds_toArray, List.set_cons_zero, List.set_cons_succ]
      refine takeG 4 (v := .string (mtext (K + 3))) rfl (by kernel_rfl) (by kernel_rfl) (by kernel_rfl) (by kernel_rfl) (fun _ _ _ h => h) ?hy (by assumption) ?_
      case hy => (intro w' hSw; obtain ⟨_, s0, s1, s2, s3⟩ := (dm).keep hSw; dsimp only at s0 s1 s2 s3; go_simp)
      try simp only [List.setIfInBounds_toArray, List.set_cons_zero, List.set_cons_succ]
      refine takeG 5 (v := .int .i64 ((K : Int) + 1 + 1 + 1)) rfl (by kernel_rfl) (by kernel_rfl) (by kernel_rfl) (by kernel_rfl) (fun _ _ _ h => h) ?hy (by assumption) ?_
      case hy => (intro w' hSw; go_simp)
      try simp only [List.setIfInBounds_toArray, List.set_cons_zero, List.set_cons_succ]
      refine runG 6 (by kernel_rfl) rfl (by kernel_rfl) ?_
      go_simp
      refine (markText_i (K + 3) _ (by omega) _ (by omega) (by omega)).mono ?_
      rintro e z1 ⟨rfl, bz1⟩
      have hz1 : Below wr.heap.size wr z1 := hHeld.trans bz1
      refine ⟨hz1, ?_⟩
      clear hHeld
      try simp only [Act.put, List.setIfInBounds_toArray, List.set_cons_zero, List.set_cons_succ]
      refine takeG 7 (v := .bool false) rfl (by kernel_rfl) (by kernel_rfl) (by kernel_rfl) (by kernel_rfl) (fun _ _ _ h => h) ?hy (by assumption) ?_
      case hy => (intro w' hSw; go_simp)
      try simp only [List.setIfInBounds_toArray, List.set_cons_zero, List.set_cons_succ]
      refine wpAnyH_done (by kernel_rfl) ?_ _
      have hb1 := hb.trans (hz1.mono hb.size)
      go_wp2
      go_roundw
      case rel => exact ⟨q + 1, by omega, by go_num, congrArg (Value.int .i64) (by have := HKE.out; omega), hb1⟩
      case measure => simp [intOf]; omega
    · obtain rfl : q = n := by omega
      go_wp2
      go_ret
      exact ⟨rfl, hb⟩
theorem own_cells {w : World} {base : Nat} {v : Value} {l : List DueV} (h : w.ownsRow base 25 4 v l.length (cellsOf DueV.cells l)) : (v = .slice none 0 0 ∧ l = []) ∨ ∃ g cap, v = .slice (some ⟨g, 0, none⟩) l.length cap ∧ OwnCells w base (some ⟨g, 0, none⟩) (cellsOf DueV.cells l) := by
  have h' := h
  rcases h.2 with ⟨hv, hn⟩ | ⟨g, cap, cur, hv, hb, hg, hnc, hcm, hcs, ht⟩
  · exact .inl ⟨hv, List.eq_nil_of_length_eq_zero hn⟩
  · subst hv
    have hlen := cellsOf_length DueV.cells_len l
    refine .inr ⟨g, cap, rfl, .inr ⟨g, 0, rfl, hb, (h'.lt g rfl).2, fun i hi => ?_, fun i hi => h'.frozenAt _⟩⟩
    rw [Nat.zero_add, h'.cellAt i (by omega), List.getElem?_eq_getElem hi]
/-- A slice of an answer. -/
def OwnSl (w : World) (base : Nat) (v : Value) (l : List DueV) : Prop := ∃ a cap, v = .slice a l.length cap ∧ OwnCells w base a (cellsOf DueV.cells l) ∧ (a = none ∨ ∃ g, a = some ⟨g, 0, none⟩)
theorem own_sl {w : World} {base : Nat} {v : Value} {l : List DueV} (h : w.ownsRow base 25 4 v l.length (cellsOf DueV.cells l)) : OwnSl w base v l := by
  rcases own_cells h with ⟨rfl, rfl⟩ | ⟨g, cap, rfl, ho⟩
  · exact ⟨none, 0, rfl, .inl rfl, .inl rfl⟩
  · exact ⟨_, cap, rfl, ho, .inr ⟨g, rfl⟩⟩
theorem OwnSl.keep {w w' : World} {base : Nat} {v : Value} {l : List DueV} (h : OwnSl w base v l) (hb : Below w.heap.size w w') : OwnSl w' base v l := by
  obtain ⟨a, cap, e, ho, hz⟩ := h
  exact ⟨a, cap, e, ho.keep hb, hz⟩
theorem OwnSl.keepK {w w' : World} {base b : Nat} {v : Value} {l : List DueV} (h : OwnSl w base v l) (k : Keeps (fun q => q ≠ b) w w') (hb : b < base) : OwnSl w' base v l := by
  obtain ⟨a, cap, e, ho, hz⟩ := h
  refine ⟨a, cap, e, ?_, hz⟩
  rcases ho with h0 | ⟨q, off, rfl, hlo, hlt, hc, hf⟩
  · exact .inl h0
  · exact .inr ⟨q, off, rfl, hlo, Nat.lt_of_lt_of_le hlt k.size, fun i hi => (k.cell (p := ⟨q, off + i, none⟩) hlt (by show q ≠ b; omega)).trans (hc i hi), fun i hi => (k.frozen (p := ⟨q, off + i, none⟩) hlt (by show q ≠ b; omega)).trans (hf i hi)⟩
set_option maxHeartbeats 1000000 in
set_option maxRecDepth 100000 in
theorem eqOut_same (v1 v2 : Value) (b1 b2 : Nat) (d : DueV) (c : Int) (l : List DueV) (w : World) (hl : l.length ≤ 1048576) (h1 : OwnSl w b1 v1 l) (h2 : OwnSl w b2 v2 l) :
    Calls Try.prog 26 #[outV v1 d c, outV v2 d c] w fun e w' => e = .returned (.bool true) ∧ Below w.heap.size w w' := by
  obtain ⟨a1, c1, rfl, o1, _⟩ := h1
  obtain ⟨a2, c2, rfl, o2, _⟩ := h2
  obtain ⟨x1, x2, x3, x4⟩ := d
  unfold outV
  dsimp only
  have n1 := o1.row
  have n2 := o2.row
  clear o1 o2
  go_enter Try.func26, Try.ntmps26
  have B0 : Below w.heap.size w ((w.alloc (.cells #[.slice a1 l.length c1, .int .i64 x1, .int .i64 x2, .int .i64 x3, .string x4, .int .i64 c] 29)).alloc (.cells #[.slice a2 l.length c2, .int .i64 x1, .int .i64 x2, .int .i64 x3, .string x4, .int .i64 c] 29)) := ((Below.refl _ _).alloc (Nat.le_refl _) _).alloc (by simp) _
  have m1 := n1.keep B0
  have m2 := n2.keep B0
  go_wp2_with fail
  refine (eqDues_same a1 c1 a2 c2 l _ hl m1 m2).mono ?_
  rintro e z1 ⟨rfl, bz1⟩
  have p1 : OutIs z1 w.heap.size (.slice a1 l.length c1) (.int .i64 x1) (.int .i64 x2) (.int .i64 x3) (.string x4) (.int .i64 c) := (bz1.block _ (by simp; omega)).trans ((Below.heap_alloc _ _ _ (by simp)).trans (heap_alloc_new w _))
  have p2 : OutIs z1 (w.heap.size + 1) (.slice a2 l.length c2) (.int .i64 x1) (.int .i64 x2) (.int .i64 x3) (.string x4) (.int .i64 c) := by
    have e := heap_alloc_new (w.alloc (.cells #[.slice a1 l.length c1, .int .i64 x1, .int .i64 x2, .int .i64 x3, .string x4, .int .i64 c] 29)) (.cells #[.slice a2 l.length c2, .int .i64 x1, .int .i64 x2, .int .i64 x3, .string x4, .int .i64 c] 29)
    rw [World.size_alloc] at e
    exact (bz1.block _ (by simp)).trans e
  have B1 := B0.trans (bz1.mono B0.size)
  obtain ⟨e0, e1, e2, e3, e4, e5⟩ := p1.cells
  obtain ⟨g0, g1, g2, g3, g4, g5⟩ := p2.cells
  clear m1 m2 B0 bz1
  go_wp2_with fail
  refine (eqDue_same ⟨x1, x2, x3, x4⟩ _).mono ?_
  rintro e z2 ⟨rfl, bz2⟩
  have B2 := B1.trans (bz2.mono B1.size)
  obtain ⟨_, _, _, _, _, k5⟩ := (p1.below bz2).cells
  obtain ⟨_, _, _, _, _, r5⟩ := (p2.below bz2).cells
  clear bz2 B1
  go_wp2
  go_ret
  exact ⟨rfl, B2⟩
set_option maxRecDepth 100000 in
theorem markDues_cap (a : Option Addr) (k cap : Nat) (w : World) : Calls Try.prog 27 #[.slice a 0 cap, .int .i64 k] w fun e w' => e = .returned (.int .i64 k) ∧ w = w' := by
  go_enter Try.func27, Try.ntmps27
  go_wp2
  refine wp_loop_rounds 1 ?_
  rw [rounds_succ]
  go_wp2
  go_ret
  exact ⟨rfl, rfl⟩
/-- What is turned by marks. -/
def blkOf (v : Value) (n q : Nat) : Prop := n = 0 ∨ v.ownBlock ≠ some q
theorem markDues_any (lo : Nat) (v : Value) (l : List DueV) (k : Nat) (w : World) (hl : l.length ≤ 1048576) (hk0 : 0 < k) (hk : k ≤ 100000000) (ho : OwnSl w lo v l) :
    Calls Try.prog 27 #[v, .int .i64 k] w fun e w' => e = .returned (.int .i64 (k + 4 * l.length : Nat)) ∧ OwnSl w' lo v (markL l.length k) ∧ Keeps (blkOf v l.length) w w' := by
  obtain ⟨a, cap, rfl, o, hz⟩ := ho
  by_cases hl0 : l = []
  · subst hl0
    refine (markDues_cap a k cap w).mono ?_
    rintro e w' ⟨rfl, rfl⟩
    exact ⟨rfl, ⟨a, cap, rfl, .inl rfl, hz⟩, Keeps.refl _ _⟩
  · have hn : l.length ≠ 0 := fun h => hl0 (List.eq_nil_of_length_eq_zero h)
    rcases hz with rfl | ⟨g, rfl⟩
    · exfalso
      rcases o with h | ⟨_, _, e, _⟩
      · have := cellsOf_length DueV.cells_len l; rw [h] at this; simp at this; omega
      · cases e
    · refine (markDues_some lo g cap l k w hl hk0 hk o).mono ?_
      rintro e w' ⟨rfl, h1, h2⟩
      exact ⟨rfl, ⟨_, cap, by rw [markL_length], h1, .inr ⟨g, rfl⟩⟩, h2.mono (fun q _ hq => fun e => hq.elim hn (fun h => h (by subst e; rfl)))⟩
set_option maxRecDepth 100000 in
theorem markOut_any (lo : Nat) (v : Value) (d : DueV) (c : Int) (l : List DueV) (k : Nat) (w : World) (hl : l.length ≤ 1048576) (hk0 : 0 < k) (hk : k ≤ 100000000) (ho : OwnSl w lo v l) :
    Calls Try.prog 28 #[outV v d c, .int .i64 k] w fun e w' => e = .returned (.int .i64 (k + 4 * l.length : Nat)) ∧ OwnSl w' lo v (markL l.length k) ∧ Keeps (blkOf v l.length) w w' := by
  obtain ⟨a, cap, rfl, o, hz⟩ := ho
  unfold outV
  have B0 := (Below.refl w.heap.size w).alloc (Nat.le_refl _) (.cells #[.slice a l.length cap, .int .i64 d.at0, .int .i64 d.seq, .int .i64 d.node, .string d.text, .int .i64 c] 29)
  have o0 : OwnSl _ lo (.slice a l.length cap) l := OwnSl.keep ⟨a, cap, rfl, o, hz⟩ B0
  have K0 : Keeps (blkOf (.slice a l.length cap) l.length) w (w.alloc (.cells #[.slice a l.length cap, .int .i64 d.at0, .int .i64 d.seq, .int .i64 d.node, .string d.text, .int .i64 c] 29)) := (Keeps.refl _ _).alloc _
  go_enter Try.func28, Try.ntmps28
  go_wp2_with fail
  refine (markDues_any lo _ l k _ hl hk0 hk o0).mono ?_
  rintro e z ⟨rfl, h1, h2⟩
  have K1 := K0.trans h2
  clear h2 K0 o0 B0 o
  go_wp2
  go_ret
  exact ⟨rfl, h1, K1⟩
set_option maxRecDepth 100000 in
theorem heldOut_any (lo : Nat) (v : Value) (d : DueV) (c : Int) (n k : Nat) (w : World) (hl : n ≤ 1048576) (hk0 : 0 < k) (hk : k ≤ 100000000) (ho : OwnSl w lo v (markL n k)) :
    Calls Try.prog 29 #[outV v d c, .int .i64 k] w fun e w' => e = .returned (.int .i64 (k + 4 * n : Nat)) ∧ Below w.heap.size w w' := by
  obtain ⟨a, cap, rfl, o, _⟩ := ho
  rw [markL_length]
  unfold outV
  have B0 := (Below.refl w.heap.size w).alloc (Nat.le_refl _) (.cells #[.slice a n cap, .int .i64 d.at0, .int .i64 d.seq, .int .i64 d.node, .string d.text, .int .i64 c] 29)
  have n0 := o.row.keep B0
  have hneg : ¬ ((k + 4 * n : Nat) : Int) < 0 := by omega
  go_enter Try.func29, Try.ntmps29
  go_wp2_with fail
  refine (heldDues_any a n cap k _ hl hk0 hk n0).mono ?_
  rintro e z ⟨rfl, h1⟩
  have B1 := B0.trans (h1.mono B0.size)
  clear h1 B0 n0 o
  go_wp2
  go_ret
  exact ⟨rfl, B1⟩
end Go.Proofs.Ytlnkcbojoaoehaa
