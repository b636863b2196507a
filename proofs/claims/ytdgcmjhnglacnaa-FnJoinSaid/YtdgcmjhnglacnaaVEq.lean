/- The contracts of the exact laws' helpers over a view's answer. -/
import Derived.Test.YtdgcmjhnglacnaaMarkF
import Derived.Test.YtdgcmjhnglacnaaVOut
namespace Go.Proofs.Ytdgcmjhnglacnaa
open Go Go.RowKit
set_option linter.unusedVariables false

set_option maxHeartbeats 1000000 in
set_option maxRecDepth 100000 in
theorem eqOut_same (v1 v2 : Value) (b1 b2 : Nat) (r : Bool) (c : Int) (l : List FactV) (w : World) (hl : l.length ≤ 1048576) (h1 : OwnSl w b1 v1 l) (h2 : OwnSl w b2 v2 l) :
    Calls Try.prog 39 #[outV v1 r c, outV v2 r c] w fun e w' => e = .returned (.bool true) ∧ Below w.heap.size w w' := by
  obtain ⟨a1, c1, rfl, o1, _⟩ := h1
  obtain ⟨a2, c2, rfl, o2, _⟩ := h2
  unfold outV
  have n1 := o1.row
  have n2 := o2.row
  clear o1 o2
  have B0 : Below w.heap.size w ((w.alloc (.cells #[.slice a1 l.length c1, .bool r, .int .i64 c] 33)).alloc (.cells #[.slice a2 l.length c2, .bool r, .int .i64 c] 33)) := ((Below.refl _ _).alloc (Nat.le_refl _) _).alloc (by simp) _
  have p1 := (BlkIs.new w 33 #[.slice a1 l.length c1, .bool r, .int .i64 c]).keep ((Below.refl _ _).alloc (Nat.le_refl _) (.cells #[.slice a2 l.length c2, .bool r, .int .i64 c] 33))
  have p2 := BlkIs.new (w.alloc (.cells #[.slice a1 l.length c1, .bool r, .int .i64 c] 33)) 33 #[.slice a2 l.length c2, .bool r, .int .i64 c]
  rw [World.size_alloc] at p2
  have m1 := n1.keep B0
  have m2 := n2.keep B0
  obtain ⟨W, hW⟩ : ∃ W, (w.alloc (.cells #[.slice a1 l.length c1, .bool r, .int .i64 c] 33)).alloc (.cells #[.slice a2 l.length c2, .bool r, .int .i64 c] 33) = W := ⟨_, rfl⟩
  rw [hW] at B0 p1 p2 m1 m2
  have HW : Hid (_ = W) := hW
  clear hW n1 n2
  go_enter Try.func39, Try.ntmps39
  go_wp2_with fail
  rw [HW.out]
  refine (eqFacts_same a1 c1 a2 c2 l _ hl m1 m2).mono ?_
  rintro e z1 ⟨rfl, bz1⟩
  have q1 := p1.keep bz1
  have q2 := p2.keep bz1
  have B1 := B0.trans (bz1.mono B0.size)
  have e1 := q1.cell 1
  have e2 := q1.cell 2
  have g1 := q2.cell 1
  have g2 := q2.cell 2
  clear m1 m2 B0 bz1 p1 p2 HW q1 q2
  go_wp2
  go_ret
  exact ⟨rfl, B1⟩
set_option maxRecDepth 100000 in
theorem markOut_i (lo : Nat) (v : Value) (r : Bool) (c : Int) (l : List FactV) (w : World) (hl : l.length ≤ 1048576) (ho : OwnSl w lo v l) :
    Calls Try.prog 41 #[outV v r c, .int .i64 1] w fun e w' => e = .returned (.int .i64 (1 + 3 * l.length : Nat)) ∧ OwnSl w' lo v (markL l.length 1) ∧ Keeps (blkOf v l.length) w w' := by
  obtain ⟨a, cap, rfl, o, hz⟩ := ho
  unfold outV
  have B0 := (Below.refl w.heap.size w).alloc (Nat.le_refl _) (.cells #[.slice a l.length cap, .bool r, .int .i64 c] 33)
  have o0 : OwnSl _ lo (.slice a l.length cap) l := OwnSl.keep ⟨a, cap, rfl, o, hz⟩ B0
  have K0 : Keeps (blkOf (.slice a l.length cap) l.length) w (w.alloc (.cells #[.slice a l.length cap, .bool r, .int .i64 c] 33)) := (Keeps.refl _ _).alloc _
  go_enter Try.func41, Try.ntmps41
  go_wp2_with fail
  refine (markF_i lo _ l 1 _ hl (by omega) (by omega) o0).mono ?_
  rintro e z ⟨rfl, h1, h2⟩
  have K1 := K0.trans h2
  clear h2 K0 o0 B0 o
  go_wp2
  go_ret
  exact ⟨rfl, h1, K1⟩
set_option maxRecDepth 100000 in
theorem heldOut_i (lo : Nat) (v : Value) (r : Bool) (c : Int) (n : Nat) (w : World) (hl : n ≤ 1048576) (ho : OwnSl w lo v (markL n 1)) :
    Calls Try.prog 42 #[outV v r c, .int .i64 1] w fun e w' => e = .returned (.int .i64 (1 + 3 * n : Nat)) ∧ Below w.heap.size w w' := by
  obtain ⟨a, cap, rfl, o, _⟩ := ho
  rw [markL_length]
  unfold outV
  have B0 := (Below.refl w.heap.size w).alloc (Nat.le_refl _) (.cells #[.slice a n cap, .bool r, .int .i64 c] 33)
  have n0 := o.row.keep B0
  have hneg : ¬ ((1 + 3 * n : Nat) : Int) < 0 := by omega
  have hh : Calls Try.prog 69 #[.slice a n cap, .int .i64 1] (w.alloc (.cells #[.slice a n cap, .bool r, .int .i64 c] 33)) fun e w' => e = .returned (.int .i64 (1 + 3 * n : Nat)) ∧ Below (w.alloc (.cells #[.slice a n cap, .bool r, .int .i64 c] 33)).heap.size (w.alloc (.cells #[.slice a n cap, .bool r, .int .i64 c] 33)) w' := heldF_any a n cap 1 _ hl (by omega) (by omega) n0
  go_enter Try.func42, Try.ntmps42
  go_wp2_with fail
  refine hh.mono ?_
  rintro e z ⟨rfl, h1⟩
  have B1 := B0.trans (h1.mono B0.size)
  clear h1 B0 n0 o hh
  go_wp2
  go_ret
  exact ⟨rfl, B1⟩
end Go.Proofs.Ytdgcmjhnglacnaa
