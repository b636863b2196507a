/- The contracts of the exact laws' helpers over mails that are handed back: compare, mark, hold. -/
import Derived.Test.YtpjdkgcdkfmkiaaDoorG41
import Derived.Test.YtpjdkgcdkfmkiaaDoorMarkF
namespace Go.Proofs.YtpjdkgcdkfmkiaaDoor
open Go Go.RowKit
set_option linter.unusedVariables false

set_option maxHeartbeats 1000000 in
set_option maxRecDepth 100000 in
theorem eqMailOut_same (k f t n a r c : Int) (p1 p2 : Option Addr) (cap1 cap2 : Nat) (l : List FactV) (w : World) (hl : l.length ≤ 1048576) (h1 : CellRow w p1 (cellsOf FactV.cells l)) (h2 : CellRow w p2 (cellsOf FactV.cells l)) :
    Calls Tryd.prog 15 #[.agg #[.int .i64 k, .int .i64 f, .int .i64 t, .int .i64 n, .int .i64 a, .int .i64 r, .slice p1 l.length cap1, .int .i64 c], .agg #[.int .i64 k, .int .i64 f, .int .i64 t, .int .i64 n, .int .i64 a, .int .i64 r, .slice p2 l.length cap2, .int .i64 c]] w fun e w' => e = .returned (.bool true) ∧ Below w.heap.size w w' := by
  have B0 := ((Below.refl w.heap.size w).alloc (Nat.le_refl _) (.cells #[.int .i64 k, .int .i64 f, .int .i64 t, .int .i64 n, .int .i64 a, .int .i64 r, .slice p1 l.length cap1, .int .i64 c] 30)).alloc (by simp) (.cells #[.int .i64 k, .int .i64 f, .int .i64 t, .int .i64 n, .int .i64 a, .int .i64 r, .slice p2 l.length cap2, .int .i64 c] 30)
  have q1 := (BlkIs.new w 30 #[.int .i64 k, .int .i64 f, .int .i64 t, .int .i64 n, .int .i64 a, .int .i64 r, .slice p1 l.length cap1, .int .i64 c]).keep ((Below.refl _ _).alloc (Nat.le_refl _) (.cells #[.int .i64 k, .int .i64 f, .int .i64 t, .int .i64 n, .int .i64 a, .int .i64 r, .slice p2 l.length cap2, .int .i64 c] 30))
  have q2 := BlkIs.new (w.alloc (.cells #[.int .i64 k, .int .i64 f, .int .i64 t, .int .i64 n, .int .i64 a, .int .i64 r, .slice p1 l.length cap1, .int .i64 c] 30)) 30 #[.int .i64 k, .int .i64 f, .int .i64 t, .int .i64 n, .int .i64 a, .int .i64 r, .slice p2 l.length cap2, .int .i64 c]
  rw [World.size_alloc] at q2
  have m1 := h1.keep B0
  have m2 := h2.keep B0
  obtain ⟨W, hW⟩ : ∃ W, (w.alloc (.cells #[.int .i64 k, .int .i64 f, .int .i64 t, .int .i64 n, .int .i64 a, .int .i64 r, .slice p1 l.length cap1, .int .i64 c] 30)).alloc (.cells #[.int .i64 k, .int .i64 f, .int .i64 t, .int .i64 n, .int .i64 a, .int .i64 r, .slice p2 l.length cap2, .int .i64 c] 30) = W := ⟨_, rfl⟩
  rw [hW] at B0 q1 q2 m1 m2
  have HW : Hid (_ = W) := hW
  have g7 := q1.cell 7
  have d7 := q2.cell 7
  simp only [List.getElem?_toArray, List.getElem?_cons_zero, List.getElem?_cons_succ] at g7 d7
  clear hW
  go_enter Tryd.func15, Tryd.ntmps15
  go_upto_region 1 with fail
  rw [HW.out]
  have g0 := q1.cell 0
  have g1 := q1.cell 1
  have g2 := q1.cell 2
  have g3 := q1.cell 3
  have g4 := q1.cell 4
  have g5 := q1.cell 5
  have g6 := q1.cell 6
  have d0 := q2.cell 0
  have d1 := q2.cell 1
  have d2 := q2.cell 2
  have d3 := q2.cell 3
  have d4 := q2.cell 4
  have d5 := q2.cell 5
  have d6 := q2.cell 6
  simp only [List.getElem?_toArray, List.getElem?_cons_zero, List.getElem?_cons_succ] at g0 g1 g2 g3 g4 g5 g6 d0 d1 d2 d3 d4 d5 d6
  go_wp2_with fail
  refine (eqMail_same k f t n a r p1 p2 cap1 cap2 l W hl m1 m2).mono ?_
  rintro e x ⟨rfl, bx⟩
  have B1 := B0.trans (bx.mono B0.size)
  have e7 := (q1.keep bx).cell 7
  have c7 := (q2.keep bx).cell 7
  simp only [List.getElem?_toArray, List.getElem?_cons_zero, List.getElem?_cons_succ] at e7 c7
  clear bx m1 m2 B0 g0 g1 g2 g3 g4 g5 g6 g7 d0 d1 d2 d3 d4 d5 d6 d7 HW q1 q2
  go_wp2
  go_ret
  exact ⟨rfl, B1⟩
theorem OwnSl.keepK {w w' : World} {base : Nat} {v : Value} {l : List FactV} (h : OwnSl w base v l) {G : Nat → Prop} (k : Keeps G w w') (hg : ∀ g, v.ownBlock = some g → G g) : OwnSl w' base v l := by
  obtain ⟨a, cap, rfl, ho, hz⟩ := h
  refine ⟨a, cap, rfl, ?_, hz⟩
  rcases ho with h0 | ⟨q, off, rfl, hlo, hlt, hc, hf⟩
  · exact .inl h0
  · have hq := hg q rfl
    exact .inr ⟨q, off, rfl, hlo, Nat.lt_of_lt_of_le hlt k.size, fun i hi => (k.cell (p := ⟨q, off + i, none⟩) hlt hq).trans (hc i hi), fun i hi => (k.frozen (p := ⟨q, off + i, none⟩) hlt hq).trans (hf i hi)⟩
set_option maxHeartbeats 1000000 in
set_option maxRecDepth 100000 in
theorem markMail_any (k f t n a r : Int) (lo : Nat) (p : Option Addr) (cap : Nat) (l : List FactV) (w : World) (hl : l.length ≤ 1000000) (ho : OwnSl w lo (.slice p l.length cap) l) :
    Calls Tryd.prog 41 #[.agg #[.int .i64 k, .int .i64 f, .int .i64 t, .int .i64 n, .int .i64 a, .int .i64 r, .slice p l.length cap], .int .i64 1] w fun e w' => e = .returned (.int .i64 (1 + 3 * l.length : Nat)) ∧ OwnSl w' lo (.slice p l.length cap) (markL l.length 1) ∧ Keeps (blkOf (.slice p l.length cap) l.length) w w' := by
  have K0 : Keeps (blkOf (.slice p l.length cap) l.length) w (w.alloc (.cells #[.int .i64 k, .int .i64 f, .int .i64 t, .int .i64 n, .int .i64 a, .int .i64 r, .slice p l.length cap] 25)) := (Keeps.refl _ _).alloc _
  have o0 := ho.keep ((Below.refl _ _).alloc (Nat.le_refl _) (.cells #[.int .i64 k, .int .i64 f, .int .i64 t, .int .i64 n, .int .i64 a, .int .i64 r, .slice p l.length cap] 25))
  go_enter Tryd.func41, Tryd.ntmps41
  go_wp2_with fail
  refine (markF_i lo (.slice p l.length cap) l 1 _ (by omega) (by omega) (by omega) o0).mono ?_
  rintro e x ⟨rfl, ox, kx⟩
  have K1 := K0.trans kx
  clear kx o0 K0
  go_wp2
  go_ret
  exact ⟨rfl, ox, K1⟩
set_option maxHeartbeats 1000000 in
set_option maxRecDepth 100000 in
theorem markMailOut_any (k f t n a r c : Int) (lo : Nat) (p : Option Addr) (cap : Nat) (l : List FactV) (w : World) (hl : l.length ≤ 1000000) (ho : OwnSl w lo (.slice p l.length cap) l) :
    Calls Tryd.prog 16 #[.agg #[.int .i64 k, .int .i64 f, .int .i64 t, .int .i64 n, .int .i64 a, .int .i64 r, .slice p l.length cap, .int .i64 c], .int .i64 1] w fun e w' => e = .returned (.int .i64 (1 + 3 * l.length : Nat)) ∧ OwnSl w' lo (.slice p l.length cap) (markL l.length 1) ∧ Keeps (blkOf (.slice p l.length cap) l.length) w w' := by
  have K0 : Keeps (blkOf (.slice p l.length cap) l.length) w (w.alloc (.cells #[.int .i64 k, .int .i64 f, .int .i64 t, .int .i64 n, .int .i64 a, .int .i64 r, .slice p l.length cap, .int .i64 c] 30)) := (Keeps.refl _ _).alloc _
  have o0 := ho.keep ((Below.refl _ _).alloc (Nat.le_refl _) (.cells #[.int .i64 k, .int .i64 f, .int .i64 t, .int .i64 n, .int .i64 a, .int .i64 r, .slice p l.length cap, .int .i64 c] 30))
  go_enter Tryd.func16, Tryd.ntmps16
  go_wp2_with fail
  refine (markMail_any k f t n a r lo p cap l _ hl o0).mono ?_
  rintro e x ⟨rfl, ox, kx⟩
  have K1 := K0.trans kx
  clear kx o0 K0
  go_wp2
  go_ret
  exact ⟨rfl, ox, K1⟩
set_option maxHeartbeats 1000000 in
set_option maxRecDepth 100000 in
theorem heldMail_any (k f t n a r : Int) (p : Option Addr) (z cap : Nat) (w : World) (hl : z ≤ 1000000) (hrow : CellRow w p (cellsOf FactV.cells (markL z 1))) :
    Calls Tryd.prog 42 #[.agg #[.int .i64 k, .int .i64 f, .int .i64 t, .int .i64 n, .int .i64 a, .int .i64 r, .slice p z cap], .int .i64 1] w fun e w' => e = .returned (.int .i64 (1 + 3 * z : Nat)) ∧ Below w.heap.size w w' := by
  have B0 := (Below.refl w.heap.size w).alloc (Nat.le_refl _) (.cells #[.int .i64 k, .int .i64 f, .int .i64 t, .int .i64 n, .int .i64 a, .int .i64 r, .slice p z cap] 25)
  have r0 := hrow.keep B0
  go_enter Tryd.func42, Tryd.ntmps42
  go_wp2_with fail
  refine (heldF_any p z cap 1 _ (by omega) (by omega) (by omega) r0).mono ?_
  rintro e x ⟨rfl, bx⟩
  have B1 := B0.trans (bx.mono B0.size)
  clear bx B0 r0
  go_wp2
  go_ret
  exact ⟨rfl, B1⟩
set_option maxHeartbeats 1000000 in
set_option maxRecDepth 100000 in
theorem heldMailOut_any (k f t n a r c : Int) (p : Option Addr) (z cap : Nat) (w : World) (hl : z ≤ 1000000) (hrow : CellRow w p (cellsOf FactV.cells (markL z 1))) :
    Calls Tryd.prog 17 #[.agg #[.int .i64 k, .int .i64 f, .int .i64 t, .int .i64 n, .int .i64 a, .int .i64 r, .slice p z cap, .int .i64 c], .int .i64 1] w fun e w' => e = .returned (.int .i64 (1 + 3 * z : Nat)) ∧ Below w.heap.size w w' := by
  have B0 := (Below.refl w.heap.size w).alloc (Nat.le_refl _) (.cells #[.int .i64 k, .int .i64 f, .int .i64 t, .int .i64 n, .int .i64 a, .int .i64 r, .slice p z cap, .int .i64 c] 30)
  have r0 := hrow.keep B0
  go_enter Tryd.func17, Tryd.ntmps17
  go_wp2_with fail
  refine (heldMail_any k f t n a r p z cap _ hl r0).mono ?_
  rintro e x ⟨rfl, bx⟩
  have B1 := B0.trans (bx.mono B0.size)
  clear bx B0 r0
  go_wp2
  go_ret
  exact ⟨rfl, B1⟩
end Go.Proofs.YtpjdkgcdkfmkiaaDoor
