/- The contracts of the exact laws' helpers over an answer of rumors and facts. -/
import Derived.Test.YtenefjnahanfbaaRApp
namespace Go.Proofs.Ytenefjnahanfbaa
open Go Go.RowKit
set_option linter.unusedVariables false

theorem rows_apart {w : World} {b1 b2 e1 e2 s1 s2 n1 n2 : Nat} {v u : Value} {xs ys : List Value} (hv : w.ownsRow b1 e1 s1 v n1 xs) (hu : w.ownsRow b2 e2 s2 u n2 ys) (hne : e1 ≠ e2) : ∀ g, u.ownBlock = some g → v.ownBlock ≠ some g := by
  intro g hg hv'
  rcases hv.2 with ⟨rfl, _⟩ | ⟨g1, c1, cur1, rfl, _, h1, _⟩
  · simp [Value.ownBlock] at hv'
  rcases hu.2 with ⟨rfl, _⟩ | ⟨g2, c2, cur2, rfl, _, h2, _⟩
  · simp [Value.ownBlock] at hg
  obtain rfl : g1 = g := by simpa [Value.ownBlock] using hv'
  obtain rfl : g2 = g1 := by simpa [Value.ownBlock] using hg
  have := h1.symm.trans h2
  simp only [Option.some.injEq, Obj.cells.injEq] at this
  exact hne this.2.1
set_option maxHeartbeats 1000000 in
set_option maxRecDepth 100000 in
theorem eqROut_same (v1 u1 v2 u2 : Value) (b1 b1' b2 b2' : Nat) (c : Int) (m : List RumV) (fs : List FactV) (w : World) (hl : m.length ≤ 1048576) (hf : fs.length ≤ 1048576) (h1 : OwnSlR w b1 v1 m) (k1 : OwnSl w b1' u1 fs) (h2 : OwnSlR w b2 v2 m) (k2 : OwnSl w b2' u2 fs) :
    Calls Try.prog 22 #[outR v1 u1 c, outR v2 u2 c] w fun e w' => e = .returned (.bool true) ∧ Below w.heap.size w w' := by
  obtain ⟨a1, c1, rfl, o1, _⟩ := h1
  obtain ⟨a2, c2, rfl, o2, _⟩ := h2
  obtain ⟨a3, c3, rfl, o3, _⟩ := k1
  obtain ⟨a4, c4, rfl, o4, _⟩ := k2
  unfold outR
  have n1 := o1.row
  have n2 := o2.row
  have n3 := o3.row
  have n4 := o4.row
  clear o1 o2 o3 o4
  have B0 : Below w.heap.size w ((w.alloc (.cells #[.slice a1 m.length c1, .slice a3 fs.length c3, .int .i64 c] 30)).alloc (.cells #[.slice a2 m.length c2, .slice a4 fs.length c4, .int .i64 c] 30)) := ((Below.refl _ _).alloc (Nat.le_refl _) _).alloc (by simp) _
  have p1 := (BlkIs.new w 30 #[.slice a1 m.length c1, .slice a3 fs.length c3, .int .i64 c]).keep ((Below.refl _ _).alloc (Nat.le_refl _) (.cells #[.slice a2 m.length c2, .slice a4 fs.length c4, .int .i64 c] 30))
  have p2 := BlkIs.new (w.alloc (.cells #[.slice a1 m.length c1, .slice a3 fs.length c3, .int .i64 c] 30)) 30 #[.slice a2 m.length c2, .slice a4 fs.length c4, .int .i64 c]
  rw [World.size_alloc] at p2
  have m1 := n1.keep B0
  have m2 := n2.keep B0
  have m3 := n3.keep B0
  have m4 := n4.keep B0
  obtain ⟨W, hW⟩ : ∃ W, (w.alloc (.cells #[.slice a1 m.length c1, .slice a3 fs.length c3, .int .i64 c] 30)).alloc (.cells #[.slice a2 m.length c2, .slice a4 fs.length c4, .int .i64 c] 30) = W := ⟨_, rfl⟩
  rw [hW] at B0 p1 p2 m1 m2 m3 m4
  have HW : Hid (_ = W) := hW
  clear hW n1 n2 n3 n4
  go_enter Try.func22, Try.ntmps22
  go_wp2_with fail
  rw [HW.out]
  refine (eqRums_same a1 c1 a2 c2 m _ hl m1 m2).mono ?_
  rintro e z1 ⟨rfl, bz1⟩
  have q1 := p1.keep bz1
  have q2 := p2.keep bz1
  have m3' := m3.keep bz1
  have m4' := m4.keep bz1
  have B1 := B0.trans (bz1.mono B0.size)
  have e1 : z1.cell? ⟨w.heap.size, 1, none⟩ = some (.slice a3 fs.length c3) := q1.cell 1
  have g1 : z1.cell? ⟨w.heap.size + 1, 1, none⟩ = some (.slice a4 fs.length c4) := q2.cell 1
  clear m1 m2 m3 m4 B0 bz1 p1 p2 HW
  go_wp2_with fail
  refine (eqFacts_same a3 c3 a4 c4 fs _ hf m3' m4').mono ?_
  rintro e z2 ⟨rfl, bz2⟩
  have e2 : z2.cell? ⟨w.heap.size, 2, none⟩ = some (.int .i64 c) := (q1.keep bz2).cell 2
  have g2 : z2.cell? ⟨w.heap.size + 1, 2, none⟩ = some (.int .i64 c) := (q2.keep bz2).cell 2
  have B2 := B1.trans (bz2.mono B1.size)
  clear q1 q2 m3' m4' B1 bz2 e1 g1
  go_wp2
  go_ret
  exact ⟨rfl, B2⟩
/-- What is turned by marks of two slices. -/
def blk2 (v : Value) (n : Nat) (u : Value) (k q : Nat) : Prop := blkOf v n q ∧ blkOf u k q
theorem OwnSl.keepG {w w' : World} {base : Nat} {v : Value} {l : List FactV} (h : OwnSl w base v l) {G : Nat → Prop} (k : Keeps G w w') (hne : ∀ g, v.ownBlock = some g → G g) : OwnSl w' base v l := by
  obtain ⟨a, cap, rfl, ho, hz⟩ := h
  refine ⟨a, cap, rfl, ?_, hz⟩
  rcases ho with h0 | ⟨q, off, rfl, hlo, hlt, hc, hf⟩
  · exact .inl h0
  · have hq := hne q rfl
    exact .inr ⟨q, off, rfl, hlo, Nat.lt_of_lt_of_le hlt k.size, fun i hi => (k.cell (p := ⟨q, off + i, none⟩) hlt hq).trans (hc i hi), fun i hi => (k.frozen (p := ⟨q, off + i, none⟩) hlt hq).trans (hf i hi)⟩
theorem OwnSlR.keepG {w w' : World} {base : Nat} {v : Value} {l : List RumV} (h : OwnSlR w base v l) {G : Nat → Prop} (k : Keeps G w w') (hne : ∀ g, v.ownBlock = some g → G g) : OwnSlR w' base v l := by
  obtain ⟨a, cap, rfl, ho, hz⟩ := h
  refine ⟨a, cap, rfl, ?_, hz⟩
  rcases ho with h0 | ⟨q, off, rfl, hlo, hlt, hc, hf⟩
  · exact .inl h0
  · have hq := hne q rfl
    exact .inr ⟨q, off, rfl, hlo, Nat.lt_of_lt_of_le hlt k.size, fun i hi => (k.cell (p := ⟨q, off + i, none⟩) hlt hq).trans (hc i hi), fun i hi => (k.frozen (p := ⟨q, off + i, none⟩) hlt hq).trans (hf i hi)⟩
set_option maxHeartbeats 1000000 in
set_option maxRecDepth 100000 in
theorem markROut_i (lo lo' : Nat) (v u : Value) (c : Int) (m : List RumV) (fs : List FactV) (w : World) (hl : m.length ≤ 1000) (hf : fs.length ≤ 1000) (ho : OwnSlR w lo v m) (hu : OwnSl w lo' u fs) (hne : ∀ g, u.ownBlock = some g → v.ownBlock ≠ some g) :
    Calls Try.prog 24 #[outR v u c, .int .i64 1] w fun e w' => e = .returned (.int .i64 (1 + 4 * m.length + 3 * fs.length : Nat)) ∧ OwnSlR w' lo v (markRL m.length 1) ∧ OwnSl w' lo' u (markL fs.length (1 + 4 * m.length)) ∧ Keeps (blk2 v m.length u fs.length) w w' := by
  obtain ⟨a, cap, rfl, o, hz⟩ := ho
  obtain ⟨a', cap', rfl, o', hz'⟩ := hu
  unfold outR
  have B0 := (Below.refl w.heap.size w).alloc (Nat.le_refl _) (.cells #[.slice a m.length cap, .slice a' fs.length cap', .int .i64 c] 30)
  have p0 := BlkIs.new w 30 #[.slice a m.length cap, .slice a' fs.length cap', .int .i64 c]
  have o0 : OwnSlR _ lo (.slice a m.length cap) m := OwnSlR.keep ⟨a, cap, rfl, o, hz⟩ B0
  have o1 : OwnSl _ lo' (.slice a' fs.length cap') fs := OwnSl.keep ⟨a', cap', rfl, o', hz'⟩ B0
  have hvb : blkOf (.slice a m.length cap) m.length w.heap.size := by
    rcases o with h | ⟨b, off, rfl, _, hlt, _⟩
    · left; have := cellsOf_length RumV.cells_len m; rw [h] at this; simp only [List.length_nil] at this; omega
    · right; intro e; have e2 : b = w.heap.size := by simpa [Value.ownBlock] using e
      omega
  have hub : ∀ g, Value.ownBlock (.slice a' fs.length cap') = some g → blkOf (.slice a m.length cap) m.length g := fun g hg => .inr (hne g hg)
  have K0 : Keeps (blk2 (.slice a m.length cap) m.length (.slice a' fs.length cap') fs.length) w (w.alloc (.cells #[.slice a m.length cap, .slice a' fs.length cap', .int .i64 c] 30)) := (Keeps.refl _ _).alloc _
  obtain ⟨W, hW⟩ : ∃ W, w.alloc (.cells #[.slice a m.length cap, .slice a' fs.length cap', .int .i64 c] 30) = W := ⟨_, rfl⟩
  rw [hW] at B0 p0 o0 o1 K0
  have HW : Hid (_ = W) := hW
  clear hW o o' hz hz' B0
  go_enter Try.func24, Try.ntmps24
  go_wp2_with fail
  rw [HW.out]
  refine (markR_i lo _ m 1 _ (by omega) (by omega) (by omega) o0).mono ?_
  rintro e z ⟨rfl, h1, h2⟩
  have p1 : z.cell? ⟨w.heap.size, 1, none⟩ = some (.slice a' fs.length cap') := (p0.keepK h2 hvb).cell 1
  have o2 := o1.keepB h2 hub
  have K1 := K0.trans (h2.mono (fun q _ hq => hq.1))
  clear h2 K0 o0 p0 HW o1
  go_wp2_with fail
  refine (markF_any lo' _ fs (1 + 4 * m.length) _ (by omega) (by omega) (by omega) o2).mono ?_
  rintro e z2 ⟨rfl, h3, h4⟩
  have h5 : OwnSlR z2 lo (.slice a m.length cap) (markRL m.length 1) := h1.keepG h4 (fun g hg => .inr (fun e => hne g e hg))
  have K2 := K1.trans (h4.mono (fun q _ hq => hq.2))
  clear h4 K1 o2 p1 h1
  go_wp2
  go_ret
  exact ⟨rfl, h5, h3, K2⟩
set_option maxHeartbeats 1000000 in
set_option maxRecDepth 100000 in
theorem heldROut_i (lo lo' : Nat) (v u : Value) (c : Int) (n k : Nat) (w : World) (hl : n ≤ 1000) (hf : k ≤ 1000) (ho : OwnSlR w lo v (markRL n 1)) (hu : OwnSl w lo' u (markL k (1 + 4 * n))) :
    Calls Try.prog 25 #[outR v u c, .int .i64 1] w fun e w' => e = .returned (.int .i64 (1 + 4 * n + 3 * k : Nat)) ∧ Below w.heap.size w w' := by
  obtain ⟨a, cap, rfl, o, _⟩ := ho
  obtain ⟨a', cap', rfl, o', _⟩ := hu
  rw [markRL_length, markL_length]
  unfold outR
  have B0 := (Below.refl w.heap.size w).alloc (Nat.le_refl _) (.cells #[.slice a n cap, .slice a' k cap', .int .i64 c] 30)
  have p0 := BlkIs.new w 30 #[.slice a n cap, .slice a' k cap', .int .i64 c]
  have n0 := o.row.keep B0
  have n1 := o'.row.keep B0
  have hneg : ¬ ((1 + 4 * n : Nat) : Int) < 0 := by omega
  have hneg2 : ¬ ((1 + 4 * n + 3 * k : Nat) : Int) < 0 := by omega
  obtain ⟨W, hW⟩ : ∃ W, w.alloc (.cells #[.slice a n cap, .slice a' k cap', .int .i64 c] 30) = W := ⟨_, rfl⟩
  rw [hW] at B0 p0 n0 n1
  have HW : Hid (_ = W) := hW
  clear hW o o'
  have hh : Calls Try.prog 51 #[.slice a n cap, .int .i64 1] W fun e w' => e = .returned (.int .i64 (1 + 4 * n : Nat)) ∧ Below W.heap.size W w' := heldR_any a n cap 1 _ (by omega) (by omega) (by omega) n0
  go_enter Try.func25, Try.ntmps25
  go_wp2_with fail
  rw [HW.out]
  refine hh.mono ?_
  rintro e z ⟨rfl, h1⟩
  have p1 : z.cell? ⟨w.heap.size, 1, none⟩ = some (.slice a' k cap') := (p0.keep h1).cell 1
  have n2 := n1.keep h1
  have B1 := B0.trans (h1.mono B0.size)
  clear h1 B0 n0 n1 hh p0 HW
  go_wp2_with fail
  refine (heldF_any a' k cap' (1 + 4 * n) _ (by omega) (by omega) (by omega) n2).mono ?_
  rintro e z2 ⟨rfl, h2⟩
  have B2 := B1.trans (h2.mono B1.size)
  clear h2 B1 n2 p1
  go_wp2
  go_ret
  exact ⟨rfl, B2⟩
end Go.Proofs.Ytenefjnahanfbaa
