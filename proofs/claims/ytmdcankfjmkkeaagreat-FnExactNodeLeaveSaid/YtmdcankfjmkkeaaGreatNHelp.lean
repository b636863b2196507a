/- The contracts of the exact laws' helpers over nodes: measure, copy, compare. -/
import Derived.Test.YtmdcankfjmkkeaaGreatG25
namespace Go.Proofs.YtmdcankfjmkkeaaGreat
open Go Go.RowKit
set_option linter.unusedVariables false
set_option linter.unusedSimpArgs false

def ProbeV.val (p : ProbeV) : Value := .agg #[.int .i64 p.node, .int .i64 p.num, .int .i64 p.due, .bool p.asked]
set_option maxHeartbeats 1000000 in
set_option maxRecDepth 100000 in
theorem toProbe_any (p : ProbeV) (w : World) : Calls Tryz.prog 107 #[p.val] w fun e w' => e = .returned p.val ∧ Below w.heap.size w w' := by
  unfold ProbeV.val
  have B := (((Below.refl w.heap.size w).alloc (Nat.le_refl _) (.cells #[.int .i64 p.node, .int .i64 p.num, .int .i64 p.due, .bool p.asked] 64)).alloc (by simp) (.cells #[.int .i64 0, .int .i64 0, .int .i64 0, .bool false] 29)).alloc (by simp; omega) (.cells #[.int .i64 0, .int .i64 0, .int .i64 0, .bool false] 29)
  have p0 := ((BlkIs.new w 64 #[.int .i64 p.node, .int .i64 p.num, .int .i64 p.due, .bool p.asked]).keep ((Below.refl _ _).alloc (Nat.le_refl _) (.cells #[.int .i64 0, .int .i64 0, .int .i64 0, .bool false] 29))).keep ((Below.refl _ _).alloc (Nat.le_refl _) (.cells #[.int .i64 0, .int .i64 0, .int .i64 0, .bool false] 29))
  have p1 := (BlkIs.new (w.alloc (.cells #[.int .i64 p.node, .int .i64 p.num, .int .i64 p.due, .bool p.asked] 64)) 29 #[.int .i64 0, .int .i64 0, .int .i64 0, .bool false]).keep ((Below.refl _ _).alloc (Nat.le_refl _) (.cells #[.int .i64 0, .int .i64 0, .int .i64 0, .bool false] 29))
  have p2 := BlkIs.new ((w.alloc (.cells #[.int .i64 p.node, .int .i64 p.num, .int .i64 p.due, .bool p.asked] 64)).alloc (.cells #[.int .i64 0, .int .i64 0, .int .i64 0, .bool false] 29)) 29 #[.int .i64 0, .int .i64 0, .int .i64 0, .bool false]
  rw [World.size_alloc] at p1
  rw [World.size_alloc, World.size_alloc] at p2
  go_enter Tryz.func107, Tryz.ntmps107
  go_upto_region 2 with fail
  obtain ⟨X0, hX⟩ : ∃ W, ((w.alloc (.cells #[.int .i64 p.node, .int .i64 p.num, .int .i64 p.due, .bool p.asked] 64)).alloc (.cells #[.int .i64 0, .int .i64 0, .int .i64 0, .bool false] 29)).alloc (.cells #[.int .i64 0, .int .i64 0, .int .i64 0, .bool false] 29) = W := ⟨_, rfl⟩
  rw [hX] at B p0 p1 p2 ⊢
  have hs : w.heap.size + 3 ≤ X0.heap.size := by rw [← hX]; simp
  have HS : Hid (w.heap.size + 3 ≤ X0.heap.size) := hs
  clear hX hs
  have c0 : X0.cell? ⟨w.heap.size, 0, none⟩ = some (.int .i64 p.node) := p0.cell 0
  have d0 : X0.cell? ⟨w.heap.size + 1 + 1, 0, none⟩ = some (.int .i64 0) := p2.cell 0
  have f0 := p2.fz 0
  go_upto_region 3 with fail
  have K : Keeps (fun q => q ≠ w.heap.size + 1 + 1) X0 (X0.setCell ⟨w.heap.size + 1 + 1, 0, none⟩ (.int .i64 p.node)) := ((Keeps.refl (fun q => q ≠ w.heap.size + 1 + 1) X0).setCell (p := ⟨w.heap.size + 1 + 1, 0, none⟩) (fun h => h rfl) (.int .i64 p.node))
  replace p2 : BlkIs (X0.setCell ⟨w.heap.size + 1 + 1, 0, none⟩ (.int .i64 p.node)) (w.heap.size + 1 + 1) 29 #[.int .i64 p.node, .int .i64 0, .int .i64 0, .bool false] := by have := (p2.put 0 (.int .i64 p.node)); simpa using this
  replace p0 := p0.keepK K (by omega)
  replace p1 := p1.keepK K (by omega)
  replace B := B.trans (K.toBelow B.size (fun q hq => by omega))
  have zs1 : Hid (X0.heap.size ≤ (X0.setCell ⟨w.heap.size + 1 + 1, 0, none⟩ (.int .i64 p.node)).heap.size) := K.size
  obtain ⟨X1, hY⟩ : ∃ Y, (X0.setCell ⟨w.heap.size + 1 + 1, 0, none⟩ (.int .i64 p.node)) = Y := ⟨_, rfl⟩
  rw [hY] at B p0 p1 p2 zs1  ⊢
  clear hY K d0 f0
  clear c0
  have c0 : X1.cell? ⟨w.heap.size, 1, none⟩ = some (.int .i64 p.num) := p0.cell 1
  have d0 : X1.cell? ⟨w.heap.size + 1 + 1, 1, none⟩ = some (.int .i64 0) := p2.cell 1
  have f0 := p2.fz 1
  go_upto_region 4 with fail
  have K : Keeps (fun q => q ≠ w.heap.size + 1 + 1) X1 (X1.setCell ⟨w.heap.size + 1 + 1, 1, none⟩ (.int .i64 p.num)) := ((Keeps.refl (fun q => q ≠ w.heap.size + 1 + 1) X1).setCell (p := ⟨w.heap.size + 1 + 1, 1, none⟩) (fun h => h rfl) (.int .i64 p.num))
  replace p2 : BlkIs (X1.setCell ⟨w.heap.size + 1 + 1, 1, none⟩ (.int .i64 p.num)) (w.heap.size + 1 + 1) 29 #[.int .i64 p.node, .int .i64 p.num, .int .i64 0, .bool false] := by have := (p2.put 1 (.int .i64 p.num)); simpa using this
  replace p0 := p0.keepK K (by omega)
  replace p1 := p1.keepK K (by omega)
  replace B := B.trans (K.toBelow B.size (fun q hq => by omega))
  have zs2 : Hid (X1.heap.size ≤ (X1.setCell ⟨w.heap.size + 1 + 1, 1, none⟩ (.int .i64 p.num)).heap.size) := K.size
  obtain ⟨X2, hY⟩ : ∃ Y, (X1.setCell ⟨w.heap.size + 1 + 1, 1, none⟩ (.int .i64 p.num)) = Y := ⟨_, rfl⟩
  rw [hY] at B p0 p1 p2 zs2  ⊢
  clear hY K d0 f0
  clear c0
  have c0 : X2.cell? ⟨w.heap.size, 2, none⟩ = some (.int .i64 p.due) := p0.cell 2
  have d0 : X2.cell? ⟨w.heap.size + 1 + 1, 2, none⟩ = some (.int .i64 0) := p2.cell 2
  have f0 := p2.fz 2
  go_upto_region 5 with fail
  have K : Keeps (fun q => q ≠ w.heap.size + 1 + 1) X2 (X2.setCell ⟨w.heap.size + 1 + 1, 2, none⟩ (.int .i64 p.due)) := ((Keeps.refl (fun q => q ≠ w.heap.size + 1 + 1) X2).setCell (p := ⟨w.heap.size + 1 + 1, 2, none⟩) (fun h => h rfl) (.int .i64 p.due))
  replace p2 : BlkIs (X2.setCell ⟨w.heap.size + 1 + 1, 2, none⟩ (.int .i64 p.due)) (w.heap.size + 1 + 1) 29 #[.int .i64 p.node, .int .i64 p.num, .int .i64 p.due, .bool false] := by have := (p2.put 2 (.int .i64 p.due)); simpa using this
  replace p0 := p0.keepK K (by omega)
  replace p1 := p1.keepK K (by omega)
  replace B := B.trans (K.toBelow B.size (fun q hq => by omega))
  have zs3 : Hid (X2.heap.size ≤ (X2.setCell ⟨w.heap.size + 1 + 1, 2, none⟩ (.int .i64 p.due)).heap.size) := K.size
  obtain ⟨X3, hY⟩ : ∃ Y, (X2.setCell ⟨w.heap.size + 1 + 1, 2, none⟩ (.int .i64 p.due)) = Y := ⟨_, rfl⟩
  rw [hY] at B p0 p1 p2 zs3  ⊢
  clear hY K d0 f0
  clear c0
  have c0 : X3.cell? ⟨w.heap.size, 3, none⟩ = some (.bool p.asked) := p0.cell 3
  have d0 : X3.cell? ⟨w.heap.size + 1 + 1, 3, none⟩ = some (.bool false) := p2.cell 3
  have f0 := p2.fz 3
  go_upto_region 6 with fail
  have K : Keeps (fun q => q ≠ w.heap.size + 1 + 1) X3 (X3.setCell ⟨w.heap.size + 1 + 1, 3, none⟩ (.bool p.asked)) := ((Keeps.refl (fun q => q ≠ w.heap.size + 1 + 1) X3).setCell (p := ⟨w.heap.size + 1 + 1, 3, none⟩) (fun h => h rfl) (.bool p.asked))
  replace p2 : BlkIs (X3.setCell ⟨w.heap.size + 1 + 1, 3, none⟩ (.bool p.asked)) (w.heap.size + 1 + 1) 29 #[.int .i64 p.node, .int .i64 p.num, .int .i64 p.due, .bool p.asked] := by have := (p2.put 3 (.bool p.asked)); simpa using this
  replace p0 := p0.keepK K (by omega)
  replace p1 := p1.keepK K (by omega)
  replace B := B.trans (K.toBelow B.size (fun q hq => by omega))
  have zs4 : Hid (X3.heap.size ≤ (X3.setCell ⟨w.heap.size + 1 + 1, 3, none⟩ (.bool p.asked)).heap.size) := K.size
  obtain ⟨X4, hY⟩ : ∃ Y, (X3.setCell ⟨w.heap.size + 1 + 1, 3, none⟩ (.bool p.asked)) = Y := ⟨_, rfl⟩
  rw [hY] at B p0 p1 p2 zs4  ⊢
  clear hY K d0 f0
  clear c0
  have c0 : X4.cell? ⟨w.heap.size + 1 + 1, 0, none⟩ = some (.int .i64 p.node) := p2.cell 0
  have d0 : X4.cell? ⟨w.heap.size + 1, 0, none⟩ = some (.int .i64 0) := p1.cell 0
  have f0 := p1.fz 0
  have c1 : X4.cell? ⟨w.heap.size + 1 + 1, 1, none⟩ = some (.int .i64 p.num) := p2.cell 1
  have d1 : X4.cell? ⟨w.heap.size + 1, 1, none⟩ = some (.int .i64 0) := p1.cell 1
  have f1 := p1.fz 1
  have c2 : X4.cell? ⟨w.heap.size + 1 + 1, 2, none⟩ = some (.int .i64 p.due) := p2.cell 2
  have d2 : X4.cell? ⟨w.heap.size + 1, 2, none⟩ = some (.int .i64 0) := p1.cell 2
  have f2 := p1.fz 2
  have c3 : X4.cell? ⟨w.heap.size + 1 + 1, 3, none⟩ = some (.bool p.asked) := p2.cell 3
  have d3 : X4.cell? ⟨w.heap.size + 1, 3, none⟩ = some (.bool false) := p1.cell 3
  have f3 := p1.fz 3
  have K : Keeps (fun q => q ≠ w.heap.size + 1) X4 ((((X4.setCell ⟨w.heap.size + 1, 0, none⟩ (.int .i64 p.node)).setCell ⟨w.heap.size + 1, 1, none⟩ (.int .i64 p.num)).setCell ⟨w.heap.size + 1, 2, none⟩ (.int .i64 p.due)).setCell ⟨w.heap.size + 1, 3, none⟩ (.bool p.asked)) := (((((Keeps.refl (fun q => q ≠ w.heap.size + 1) X4).setCell (p := ⟨w.heap.size + 1, 0, none⟩) (fun h => h rfl) (.int .i64 p.node)).setCell (p := ⟨w.heap.size + 1, 1, none⟩) (fun h => h rfl) (.int .i64 p.num)).setCell (p := ⟨w.heap.size + 1, 2, none⟩) (fun h => h rfl) (.int .i64 p.due)).setCell (p := ⟨w.heap.size + 1, 3, none⟩) (fun h => h rfl) (.bool p.asked))
  have r1 : BlkIs ((((X4.setCell ⟨w.heap.size + 1, 0, none⟩ (.int .i64 p.node)).setCell ⟨w.heap.size + 1, 1, none⟩ (.int .i64 p.num)).setCell ⟨w.heap.size + 1, 2, none⟩ (.int .i64 p.due)).setCell ⟨w.heap.size + 1, 3, none⟩ (.bool p.asked)) (w.heap.size + 1) 29 #[.int .i64 p.node, .int .i64 p.num, .int .i64 p.due, .bool p.asked] := by have := ((((p1.put 0 (.int .i64 p.node)).put 1 (.int .i64 p.num)).put 2 (.int .i64 p.due)).put 3 (.bool p.asked)); simpa using this
  replace B := B.trans (K.toBelow B.size (fun q hq => by omega))
  clear K p0 p1 p2
  go_wp2
  obtain ⟨Z, hZ⟩ : ∃ Z, ((((X4.setCell ⟨w.heap.size + 1, 0, none⟩ (.int .i64 p.node)).setCell ⟨w.heap.size + 1, 1, none⟩ (.int .i64 p.num)).setCell ⟨w.heap.size + 1, 2, none⟩ (.int .i64 p.due)).setCell ⟨w.heap.size + 1, 3, none⟩ (.bool p.asked)) = Z := ⟨_, rfl⟩
  rw [hZ] at r1 B ⊢
  clear hZ c0 d0 f0 c1 d1 f1 c2 d2 f2 c3 d3 f3
  have t0 : Z.cell? ⟨w.heap.size + 1, 0, none⟩ = some (.int .i64 p.node) := r1.cell 0
  have t1 : Z.cell? ⟨w.heap.size + 1, 1, none⟩ = some (.int .i64 p.num) := r1.cell 1
  have t2 : Z.cell? ⟨w.heap.size + 1, 2, none⟩ = some (.int .i64 p.due) := r1.cell 2
  have t3 : Z.cell? ⟨w.heap.size + 1, 3, none⟩ = some (.bool p.asked) := r1.cell 3
  exact bodyPost_ret (v := .agg #[.int .i64 p.node, .int .i64 p.num, .int .i64 p.due, .bool p.asked]) (by simp [results, Tryz.results107, go_sem, t0, t1, t2, t3]) rfl ⟨rfl, B⟩
set_option maxRecDepth 100000 in
theorem eqProbe_same (p : ProbeV) (w : World) : Calls Tryz.prog 113 #[p.val, p.val] w fun e w' => e = .returned (.bool true) ∧ Below w.heap.size w w' := by
  unfold ProbeV.val
  go_enter Tryz.func113, Tryz.ntmps113
  go_wp2
  go_ret
  exact ⟨rfl, ((Below.refl _ _).alloc (Nat.le_refl _) _).alloc (by simp) _⟩
theorem leftOf_no {left : Int} {n : Nat} (h : left < (n : Int)) : leftOf left n = -1 := if_pos h
theorem leftOf_yes {left : Int} {n : Nat} (h : ¬ left < (n : Int)) : leftOf left n = left - n := if_neg h
theorem leftT_eq (left : Int) (n : Nat) : leftT left n = leftOf left n := rfl
/-- What is measured. -/
def SzPost (n : NodeV) (left : Int) (w : World) (e : Ending) (w' : World) : Prop := ∃ r : Int, e = .returned (.int .i64 r) ∧ (r = -1 ∨ (0 ≤ r ∧ r ≤ left ∧ NodeLen n 1048576)) ∧ Below w.heap.size w w'
set_option maxHeartbeats 1000000 in
set_option maxRecDepth 100000 in
theorem szNode_any (x : NodeA) (left : Int) (w : World) (h0 : 0 ≤ left) (h1 : left ≤ 1048576) (hl : NodeLen x.n maxLen) :
    Calls Tryz.prog 34 #[x.val, .int .i64 left] w (SzPost x.n left w) := by
  obtain ⟨a, n⟩ := x
  obtain ⟨hv, hr, ht, hd⟩ := hl
  unfold maxLen at hv hr ht hd
  dsimp only at hv hr ht hd
  unfold NodeA.val nodeVal nodeCells
  dsimp only
  have p0 := BlkIs.new w 67 #[.int .i64 n.id, .int .i64 n.inc, .int .i64 n.num, .int .i64 n.seed, .int .i64 n.next, .slice a.va n.view.length a.vc, .slice a.ra n.rum.length a.rc, .slice a.ta n.tl.length a.tc, .int .i64 n.at0, .int .i64 n.pb.node, .int .i64 n.pb.num, .int .i64 n.pb.due, .bool n.pb.asked, .slice a.da n.db.length a.dc]
  have B := (Below.refl w.heap.size w).alloc (Nat.le_refl _) (.cells #[.int .i64 n.id, .int .i64 n.inc, .int .i64 n.num, .int .i64 n.seed, .int .i64 n.next, .slice a.va n.view.length a.vc, .slice a.ra n.rum.length a.rc, .slice a.ta n.tl.length a.tc, .int .i64 n.at0, .int .i64 n.pb.node, .int .i64 n.pb.num, .int .i64 n.pb.due, .bool n.pb.asked, .slice a.da n.db.length a.dc] 67)
  go_enter Tryz.func34, Tryz.ntmps34
  go_upto_region 1 with fail
  obtain ⟨W, hW⟩ : ∃ W, w.alloc (.cells #[.int .i64 n.id, .int .i64 n.inc, .int .i64 n.num, .int .i64 n.seed, .int .i64 n.next, .slice a.va n.view.length a.vc, .slice a.ra n.rum.length a.rc, .slice a.ta n.tl.length a.tc, .int .i64 n.at0, .int .i64 n.pb.node, .int .i64 n.pb.num, .int .i64 n.pb.due, .bool n.pb.asked, .slice a.da n.db.length a.dc] 67) = W := ⟨_, rfl⟩
  rw [hW] at p0 B ⊢
  clear hW
  have c5 : W.cell? ⟨w.heap.size, 5, none⟩ = some (.slice a.va n.view.length a.vc) := p0.cell 5
  go_wp2_with fail
  refine (szFacts_any a.va a.vc n.view.length left _ (by omega) (by omega) hv).mono ?_
  rintro e x0 ⟨rfl, hz⟩
  subst hz
  clear c5
  by_cases s0 : left < (n.view.length : Int)
  · have e1 := leftOf_no s0
    rw [e1]
    clear e1
    go_wp2
    go_ret
    exact ⟨_, rfl, .inl rfl, B⟩
  have e0 := leftOf_yes s0
  obtain ⟨l1, hl1⟩ : ∃ q : Int, leftOf left n.view.length = q := ⟨_, rfl⟩
  rw [hl1] at e0 ⊢
  have n0 : ¬ l1 < 0 := by omega
  have m0 : l1 ≤ left := by omega
  have k0 : n.view.length ≤ 1048576 := by omega
  clear hl1 e0 s0
  have c6 : W.cell? ⟨w.heap.size, 6, none⟩ = some (.slice a.ra n.rum.length a.rc) := p0.cell 6
  go_wp2_with fail
  refine (szRums_any a.ra a.rc n.rum.length l1 _ (by omega) (by omega) hr).mono ?_
  rintro e x1 ⟨rfl, hz⟩
  subst hz
  clear c6
  by_cases s1 : l1 < (n.rum.length : Int)
  · have e1 := leftOf_no s1
    rw [e1]
    clear e1
    go_wp2
    go_ret
    exact ⟨_, rfl, .inl rfl, B⟩
  have e1 := leftOf_yes s1
  obtain ⟨l2, hl2⟩ : ∃ q : Int, leftOf l1 n.rum.length = q := ⟨_, rfl⟩
  rw [hl2] at e1 ⊢
  have n1 : ¬ l2 < 0 := by omega
  have m1 : l2 ≤ l1 := by omega
  have k1 : n.rum.length ≤ 1048576 := by omega
  clear hl2 e1 s1
  have c7 : W.cell? ⟨w.heap.size, 7, none⟩ = some (.slice a.ta n.tl.length a.tc) := p0.cell 7
  have c8 : W.cell? ⟨w.heap.size, 8, none⟩ = some (.int .i64 n.at0) := p0.cell 8
  go_wp2_with fail
  refine (szTurn_any ⟨a.ta, a.tc, n.tl, n.at0⟩ l2 _ (by omega) (by omega) ht).mono ?_
  rintro e x2 ⟨rfl, bz⟩
  replace p0 := p0.keep bz
  replace B := B.trans (bz.mono B.size)
  clear bz
  dsimp only
  rw [leftT_eq]
  clear c7 c8
  by_cases s2 : l2 < (n.tl.length : Int)
  · have e1 := leftOf_no s2
    rw [e1]
    clear e1
    go_wp2
    go_ret
    exact ⟨_, rfl, .inl rfl, B⟩
  have e2 := leftOf_yes s2
  obtain ⟨l3, hl3⟩ : ∃ q : Int, leftOf l2 n.tl.length = q := ⟨_, rfl⟩
  rw [hl3] at e2 ⊢
  have n2 : ¬ l3 < 0 := by omega
  have m2 : l3 ≤ l2 := by omega
  have k2 : n.tl.length ≤ 1048576 := by omega
  clear hl3 e2 s2
  have c13 : x2.cell? ⟨w.heap.size, 13, none⟩ = some (.slice a.da n.db.length a.dc) := p0.cell 13
  go_wp2_with fail
  refine (szDoubts_any a.da a.dc n.db.length l3 _ (by omega) (by omega) hd).mono ?_
  rintro e x3 ⟨rfl, hz⟩
  subst hz
  clear c13
  by_cases s3 : l3 < (n.db.length : Int)
  · have e1 := leftOf_no s3
    rw [e1]
    clear e1
    go_wp2
    go_ret
    exact ⟨_, rfl, .inl rfl, B⟩
  have e3 := leftOf_yes s3
  obtain ⟨l4, hl4⟩ : ∃ q : Int, leftOf l3 n.db.length = q := ⟨_, rfl⟩
  rw [hl4] at e3 ⊢
  have n3 : ¬ l4 < 0 := by omega
  have m3 : l4 ≤ l3 := by omega
  have k3 : n.db.length ≤ 1048576 := by omega
  clear hl4 e3 s3
  go_wp2
  go_ret
  exact ⟨_, rfl, .inr ⟨by omega, by omega, ⟨k0, k1, k2, k3⟩⟩, B⟩
/-- A copy of a node: where its lists lie. -/
structure CopyAt (w w' : World) (n : NodeV) (gv gr gt gd : Nat) : Prop where
  v : OwnCells w' w.heap.size (some ⟨gv, 0, none⟩) (cellsOf FactV.cells n.view)
  r : OwnCells w' w.heap.size (some ⟨gr, 0, none⟩) (cellsOf RumV.cells n.rum)
  t : OwnNums w' w.heap.size (some ⟨gt, 0, none⟩) n.tl
  d : OwnCells w' w.heap.size (some ⟨gd, 0, none⟩) (cellsOf FactV.cells n.db)
  o0 : w.heap.size ≤ gv
  o1 : gv ≤ gr ∧ (gv < gr ∨ n.view.length = 0)
  o2 : gr ≤ gt ∧ (gr < gt ∨ n.rum.length = 0)
  o3 : gt < gd
  o4 : gd ≤ w'.heap.size ∧ (gd < w'.heap.size ∨ n.db.length = 0)
def NodeV.copied (n : NodeV) (gv gr gt gd : Nat) : NodeM := ⟨some ⟨gv, 0, none⟩, n.view.length, some ⟨gr, 0, none⟩, n.rum.length, some ⟨gt, 0, none⟩, n.tl.length, some ⟨gd, 0, none⟩, n.db.length⟩
def ToPost (n : NodeV) (w : World) (e : Ending) (w' : World) : Prop := ∃ gv gr gt gd, e = .returned (nodeVal (n.copied gv gr gt gd) n) ∧ CopyAt w w' n gv gr gt gd ∧ Below w.heap.size w w'
theorem own_ltR2 {w : World} {b : Nat} {l : List RumV} (h : OwnCells w b (some ⟨b, 0, none⟩) (cellsOf RumV.cells l)) : b < w.heap.size ∨ l.length = 0 := by
  rcases h with h | ⟨q, off, e, hlo, hlt, _⟩
  · right
    have := cellsOf_length RumV.cells_len l; rw [h] at this; simp at this
    omega
  · left; have : b = q := by simpa using congrArg (Option.map Addr.block) e
    omega
set_option maxHeartbeats 4000000 in
set_option maxRecDepth 100000 in
theorem toNode_any (a : NodeM) (n : NodeV) (w : World) (hl : NodeLen n 1048576) (hrow : NodeRows w a n) :
    Calls Tryz.prog 35 #[nodeVal a n] w (ToPost n w) := by
  have hlv := hl.v
  have hlr := hl.r
  have hlt := hl.t
  have hld := hl.d
  unfold nodeVal nodeCells
  have B := (((Below.refl w.heap.size w).alloc (Nat.le_refl _) (.cells #[.int .i64 n.id, .int .i64 n.inc, .int .i64 n.num, .int .i64 n.seed, .int .i64 n.next, .slice a.va n.view.length a.vc, .slice a.ra n.rum.length a.rc, .slice a.ta n.tl.length a.tc, .int .i64 n.at0, .int .i64 n.pb.node, .int .i64 n.pb.num, .int .i64 n.pb.due, .bool n.pb.asked, .slice a.da n.db.length a.dc] 67)).alloc (by simp) (.cells #[.int .i64 0, .int .i64 0, .int .i64 0, .int .i64 0, .int .i64 0, .slice none 0 0, .slice none 0 0, .slice none 0 0, .int .i64 0, .int .i64 0, .int .i64 0, .int .i64 0, .bool false, .slice none 0 0] 32)).alloc (by simp; omega) (.cells #[.int .i64 0, .int .i64 0, .int .i64 0, .int .i64 0, .int .i64 0, .slice none 0 0, .slice none 0 0, .slice none 0 0, .int .i64 0, .int .i64 0, .int .i64 0, .int .i64 0, .bool false, .slice none 0 0] 32)
  have p0 := ((BlkIs.new w 67 #[.int .i64 n.id, .int .i64 n.inc, .int .i64 n.num, .int .i64 n.seed, .int .i64 n.next, .slice a.va n.view.length a.vc, .slice a.ra n.rum.length a.rc, .slice a.ta n.tl.length a.tc, .int .i64 n.at0, .int .i64 n.pb.node, .int .i64 n.pb.num, .int .i64 n.pb.due, .bool n.pb.asked, .slice a.da n.db.length a.dc]).keep ((Below.refl _ _).alloc (Nat.le_refl _) (.cells #[.int .i64 0, .int .i64 0, .int .i64 0, .int .i64 0, .int .i64 0, .slice none 0 0, .slice none 0 0, .slice none 0 0, .int .i64 0, .int .i64 0, .int .i64 0, .int .i64 0, .bool false, .slice none 0 0] 32))).keep ((Below.refl _ _).alloc (Nat.le_refl _) (.cells #[.int .i64 0, .int .i64 0, .int .i64 0, .int .i64 0, .int .i64 0, .slice none 0 0, .slice none 0 0, .slice none 0 0, .int .i64 0, .int .i64 0, .int .i64 0, .int .i64 0, .bool false, .slice none 0 0] 32))
  have p1 := (BlkIs.new (w.alloc (.cells #[.int .i64 n.id, .int .i64 n.inc, .int .i64 n.num, .int .i64 n.seed, .int .i64 n.next, .slice a.va n.view.length a.vc, .slice a.ra n.rum.length a.rc, .slice a.ta n.tl.length a.tc, .int .i64 n.at0, .int .i64 n.pb.node, .int .i64 n.pb.num, .int .i64 n.pb.due, .bool n.pb.asked, .slice a.da n.db.length a.dc] 67)) 32 #[.int .i64 0, .int .i64 0, .int .i64 0, .int .i64 0, .int .i64 0, .slice none 0 0, .slice none 0 0, .slice none 0 0, .int .i64 0, .int .i64 0, .int .i64 0, .int .i64 0, .bool false, .slice none 0 0]).keep ((Below.refl _ _).alloc (Nat.le_refl _) (.cells #[.int .i64 0, .int .i64 0, .int .i64 0, .int .i64 0, .int .i64 0, .slice none 0 0, .slice none 0 0, .slice none 0 0, .int .i64 0, .int .i64 0, .int .i64 0, .int .i64 0, .bool false, .slice none 0 0] 32))
  have p2 := BlkIs.new ((w.alloc (.cells #[.int .i64 n.id, .int .i64 n.inc, .int .i64 n.num, .int .i64 n.seed, .int .i64 n.next, .slice a.va n.view.length a.vc, .slice a.ra n.rum.length a.rc, .slice a.ta n.tl.length a.tc, .int .i64 n.at0, .int .i64 n.pb.node, .int .i64 n.pb.num, .int .i64 n.pb.due, .bool n.pb.asked, .slice a.da n.db.length a.dc] 67)).alloc (.cells #[.int .i64 0, .int .i64 0, .int .i64 0, .int .i64 0, .int .i64 0, .slice none 0 0, .slice none 0 0, .slice none 0 0, .int .i64 0, .int .i64 0, .int .i64 0, .int .i64 0, .bool false, .slice none 0 0] 32)) 32 #[.int .i64 0, .int .i64 0, .int .i64 0, .int .i64 0, .int .i64 0, .slice none 0 0, .slice none 0 0, .slice none 0 0, .int .i64 0, .int .i64 0, .int .i64 0, .int .i64 0, .bool false, .slice none 0 0]
  rw [World.size_alloc] at p1
  rw [World.size_alloc, World.size_alloc] at p2
  go_enter Tryz.func35, Tryz.ntmps35
  go_upto_region 2 with fail
  obtain ⟨X0, hX⟩ : ∃ W, ((w.alloc (.cells #[.int .i64 n.id, .int .i64 n.inc, .int .i64 n.num, .int .i64 n.seed, .int .i64 n.next, .slice a.va n.view.length a.vc, .slice a.ra n.rum.length a.rc, .slice a.ta n.tl.length a.tc, .int .i64 n.at0, .int .i64 n.pb.node, .int .i64 n.pb.num, .int .i64 n.pb.due, .bool n.pb.asked, .slice a.da n.db.length a.dc] 67)).alloc (.cells #[.int .i64 0, .int .i64 0, .int .i64 0, .int .i64 0, .int .i64 0, .slice none 0 0, .slice none 0 0, .slice none 0 0, .int .i64 0, .int .i64 0, .int .i64 0, .int .i64 0, .bool false, .slice none 0 0] 32)).alloc (.cells #[.int .i64 0, .int .i64 0, .int .i64 0, .int .i64 0, .int .i64 0, .slice none 0 0, .slice none 0 0, .slice none 0 0, .int .i64 0, .int .i64 0, .int .i64 0, .int .i64 0, .bool false, .slice none 0 0] 32) = W := ⟨_, rfl⟩
  rw [hX] at B p0 p1 p2 ⊢
  have hs : w.heap.size + 3 ≤ X0.heap.size := by rw [← hX]; simp
  have HS : Hid (w.heap.size + 3 ≤ X0.heap.size) := hs
  clear hX hs hl
  have c0 : X0.cell? ⟨w.heap.size, 0, none⟩ = some (.int .i64 n.id) := p0.cell 0
  have d0 : X0.cell? ⟨w.heap.size + 1 + 1, 0, none⟩ = some (.int .i64 0) := p2.cell 0
  have f0 := p2.fz 0
  go_upto_region 3 with fail
  have K : Keeps (fun q => q ≠ w.heap.size + 1 + 1) X0 (X0.setCell ⟨w.heap.size + 1 + 1, 0, none⟩ (.int .i64 n.id)) := ((Keeps.refl (fun q => q ≠ w.heap.size + 1 + 1) X0).setCell (p := ⟨w.heap.size + 1 + 1, 0, none⟩) (fun h => h rfl) (.int .i64 n.id))
  replace p2 : BlkIs (X0.setCell ⟨w.heap.size + 1 + 1, 0, none⟩ (.int .i64 n.id)) (w.heap.size + 1 + 1) 32 #[.int .i64 n.id, .int .i64 0, .int .i64 0, .int .i64 0, .int .i64 0, .slice none 0 0, .slice none 0 0, .slice none 0 0, .int .i64 0, .int .i64 0, .int .i64 0, .int .i64 0, .bool false, .slice none 0 0] := by have := (p2.put 0 (.int .i64 n.id)); simpa using this
  replace p0 := p0.keepK K (by omega)
  replace p1 := p1.keepK K (by omega)
  replace B := B.trans (K.toBelow B.size (fun q hq => by omega))
  have zs1 : Hid (X0.heap.size ≤ (X0.setCell ⟨w.heap.size + 1 + 1, 0, none⟩ (.int .i64 n.id)).heap.size) := K.size
  obtain ⟨X1, hY⟩ : ∃ Y, (X0.setCell ⟨w.heap.size + 1 + 1, 0, none⟩ (.int .i64 n.id)) = Y := ⟨_, rfl⟩
  rw [hY] at B p0 p1 p2 zs1  ⊢
  clear hY K d0 f0
  clear c0
  have c0 : X1.cell? ⟨w.heap.size, 1, none⟩ = some (.int .i64 n.inc) := p0.cell 1
  have d0 : X1.cell? ⟨w.heap.size + 1 + 1, 1, none⟩ = some (.int .i64 0) := p2.cell 1
  have f0 := p2.fz 1
  go_upto_region 4 with fail
  have K : Keeps (fun q => q ≠ w.heap.size + 1 + 1) X1 (X1.setCell ⟨w.heap.size + 1 + 1, 1, none⟩ (.int .i64 n.inc)) := ((Keeps.refl (fun q => q ≠ w.heap.size + 1 + 1) X1).setCell (p := ⟨w.heap.size + 1 + 1, 1, none⟩) (fun h => h rfl) (.int .i64 n.inc))
  replace p2 : BlkIs (X1.setCell ⟨w.heap.size + 1 + 1, 1, none⟩ (.int .i64 n.inc)) (w.heap.size + 1 + 1) 32 #[.int .i64 n.id, .int .i64 n.inc, .int .i64 0, .int .i64 0, .int .i64 0, .slice none 0 0, .slice none 0 0, .slice none 0 0, .int .i64 0, .int .i64 0, .int .i64 0, .int .i64 0, .bool false, .slice none 0 0] := by have := (p2.put 1 (.int .i64 n.inc)); simpa using this
  replace p0 := p0.keepK K (by omega)
  replace p1 := p1.keepK K (by omega)
  replace B := B.trans (K.toBelow B.size (fun q hq => by omega))
  have zs2 : Hid (X1.heap.size ≤ (X1.setCell ⟨w.heap.size + 1 + 1, 1, none⟩ (.int .i64 n.inc)).heap.size) := K.size
  obtain ⟨X2, hY⟩ : ∃ Y, (X1.setCell ⟨w.heap.size + 1 + 1, 1, none⟩ (.int .i64 n.inc)) = Y := ⟨_, rfl⟩
  rw [hY] at B p0 p1 p2 zs2  ⊢
  clear hY K d0 f0
  clear c0
  have c0 : X2.cell? ⟨w.heap.size, 2, none⟩ = some (.int .i64 n.num) := p0.cell 2
  have d0 : X2.cell? ⟨w.heap.size + 1 + 1, 2, none⟩ = some (.int .i64 0) := p2.cell 2
  have f0 := p2.fz 2
  go_upto_region 5 with fail
  have K : Keeps (fun q => q ≠ w.heap.size + 1 + 1) X2 (X2.setCell ⟨w.heap.size + 1 + 1, 2, none⟩ (.int .i64 n.num)) := ((Keeps.refl (fun q => q ≠ w.heap.size + 1 + 1) X2).setCell (p := ⟨w.heap.size + 1 + 1, 2, none⟩) (fun h => h rfl) (.int .i64 n.num))
  replace p2 : BlkIs (X2.setCell ⟨w.heap.size + 1 + 1, 2, none⟩ (.int .i64 n.num)) (w.heap.size + 1 + 1) 32 #[.int .i64 n.id, .int .i64 n.inc, .int .i64 n.num, .int .i64 0, .int .i64 0, .slice none 0 0, .slice none 0 0, .slice none 0 0, .int .i64 0, .int .i64 0, .int .i64 0, .int .i64 0, .bool false, .slice none 0 0] := by have := (p2.put 2 (.int .i64 n.num)); simpa using this
  replace p0 := p0.keepK K (by omega)
  replace p1 := p1.keepK K (by omega)
  replace B := B.trans (K.toBelow B.size (fun q hq => by omega))
  have zs3 : Hid (X2.heap.size ≤ (X2.setCell ⟨w.heap.size + 1 + 1, 2, none⟩ (.int .i64 n.num)).heap.size) := K.size
  obtain ⟨X3, hY⟩ : ∃ Y, (X2.setCell ⟨w.heap.size + 1 + 1, 2, none⟩ (.int .i64 n.num)) = Y := ⟨_, rfl⟩
  rw [hY] at B p0 p1 p2 zs3  ⊢
  clear hY K d0 f0
  clear c0
  have c0 : X3.cell? ⟨w.heap.size, 3, none⟩ = some (.int .i64 n.seed) := p0.cell 3
  have d0 : X3.cell? ⟨w.heap.size + 1 + 1, 3, none⟩ = some (.int .i64 0) := p2.cell 3
  have f0 := p2.fz 3
  go_upto_region 6 with fail
  have K : Keeps (fun q => q ≠ w.heap.size + 1 + 1) X3 (X3.setCell ⟨w.heap.size + 1 + 1, 3, none⟩ (.int .i64 n.seed)) := ((Keeps.refl (fun q => q ≠ w.heap.size + 1 + 1) X3).setCell (p := ⟨w.heap.size + 1 + 1, 3, none⟩) (fun h => h rfl) (.int .i64 n.seed))
  replace p2 : BlkIs (X3.setCell ⟨w.heap.size + 1 + 1, 3, none⟩ (.int .i64 n.seed)) (w.heap.size + 1 + 1) 32 #[.int .i64 n.id, .int .i64 n.inc, .int .i64 n.num, .int .i64 n.seed, .int .i64 0, .slice none 0 0, .slice none 0 0, .slice none 0 0, .int .i64 0, .int .i64 0, .int .i64 0, .int .i64 0, .bool false, .slice none 0 0] := by have := (p2.put 3 (.int .i64 n.seed)); simpa using this
  replace p0 := p0.keepK K (by omega)
  replace p1 := p1.keepK K (by omega)
  replace B := B.trans (K.toBelow B.size (fun q hq => by omega))
  have zs4 : Hid (X3.heap.size ≤ (X3.setCell ⟨w.heap.size + 1 + 1, 3, none⟩ (.int .i64 n.seed)).heap.size) := K.size
  obtain ⟨X4, hY⟩ : ∃ Y, (X3.setCell ⟨w.heap.size + 1 + 1, 3, none⟩ (.int .i64 n.seed)) = Y := ⟨_, rfl⟩
  rw [hY] at B p0 p1 p2 zs4  ⊢
  clear hY K d0 f0
  clear c0
  have c0 : X4.cell? ⟨w.heap.size, 4, none⟩ = some (.int .i64 n.next) := p0.cell 4
  have d0 : X4.cell? ⟨w.heap.size + 1 + 1, 4, none⟩ = some (.int .i64 0) := p2.cell 4
  have f0 := p2.fz 4
  go_upto_region 7 with fail
  have K : Keeps (fun q => q ≠ w.heap.size + 1 + 1) X4 (X4.setCell ⟨w.heap.size + 1 + 1, 4, none⟩ (.int .i64 n.next)) := ((Keeps.refl (fun q => q ≠ w.heap.size + 1 + 1) X4).setCell (p := ⟨w.heap.size + 1 + 1, 4, none⟩) (fun h => h rfl) (.int .i64 n.next))
  replace p2 : BlkIs (X4.setCell ⟨w.heap.size + 1 + 1, 4, none⟩ (.int .i64 n.next)) (w.heap.size + 1 + 1) 32 #[.int .i64 n.id, .int .i64 n.inc, .int .i64 n.num, .int .i64 n.seed, .int .i64 n.next, .slice none 0 0, .slice none 0 0, .slice none 0 0, .int .i64 0, .int .i64 0, .int .i64 0, .int .i64 0, .bool false, .slice none 0 0] := by have := (p2.put 4 (.int .i64 n.next)); simpa using this
  replace p0 := p0.keepK K (by omega)
  replace p1 := p1.keepK K (by omega)
  replace B := B.trans (K.toBelow B.size (fun q hq => by omega))
  have zs5 : Hid (X4.heap.size ≤ (X4.setCell ⟨w.heap.size + 1 + 1, 4, none⟩ (.int .i64 n.next)).heap.size) := K.size
  obtain ⟨X5, hY⟩ : ∃ Y, (X4.setCell ⟨w.heap.size + 1 + 1, 4, none⟩ (.int .i64 n.next)) = Y := ⟨_, rfl⟩
  rw [hY] at B p0 p1 p2 zs5  ⊢
  clear hY K d0 f0
  clear c0
  have c0 : X5.cell? ⟨w.heap.size, 5, none⟩ = some (.slice a.va n.view.length a.vc) := p0.cell 5
  go_wp2_with fail
  refine (toFacts_any a.va a.vc n.view _ hlv (hrow.v.keep B)).mono ?_
  rintro e X6 ⟨rfl, ov, bx⟩
  replace p0 := p0.keep bx
  replace p1 := p1.keep bx
  replace p2 := p2.keep bx
  replace B := B.trans (bx.mono B.size)
  have zs6 : Hid (X5.heap.size ≤ X6.heap.size) := bx.size
  clear bx
  clear c0
  have ltov : Hid (X5.heap.size < X6.heap.size ∨ n.view.length = 0) := own_lt ov
  obtain ⟨gv, hgv⟩ : ∃ g, X5.heap.size = g := ⟨_, rfl⟩
  have HGgv : Hid (X5.heap.size = gv) := hgv
  rw [hgv] at ov ltov ⊢
  clear hgv
  have d0 : X6.cell? ⟨w.heap.size + 1 + 1, 5, none⟩ = some (.slice none 0 0) := p2.cell 5
  have f0 := p2.fz 5
  go_upto_region 8 with fail
  have K : Keeps (fun q => q ≠ w.heap.size + 1 + 1) X6 (X6.setCell ⟨w.heap.size + 1 + 1, 5, none⟩ (.slice (some ⟨gv, 0, none⟩) n.view.length n.view.length)) := ((Keeps.refl (fun q => q ≠ w.heap.size + 1 + 1) X6).setCell (p := ⟨w.heap.size + 1 + 1, 5, none⟩) (fun h => h rfl) (.slice (some ⟨gv, 0, none⟩) n.view.length n.view.length))
  replace p2 : BlkIs (X6.setCell ⟨w.heap.size + 1 + 1, 5, none⟩ (.slice (some ⟨gv, 0, none⟩) n.view.length n.view.length)) (w.heap.size + 1 + 1) 32 #[.int .i64 n.id, .int .i64 n.inc, .int .i64 n.num, .int .i64 n.seed, .int .i64 n.next, .slice (some ⟨gv, 0, none⟩) n.view.length n.view.length, .slice none 0 0, .slice none 0 0, .int .i64 0, .int .i64 0, .int .i64 0, .int .i64 0, .bool false, .slice none 0 0] := by have := (p2.put 5 (.slice (some ⟨gv, 0, none⟩) n.view.length n.view.length)); simpa using this
  replace p0 := p0.keepK K (by omega)
  replace p1 := p1.keepK K (by omega)
  replace ov := ov.keepK K (fun b hb => by have := HS.out; have := zs1.out; have := zs2.out; have := zs3.out; have := zs4.out; have := zs5.out; have := zs6.out; have := HGgv.out; omega)
  replace B := B.trans (K.toBelow B.size (fun q hq => by omega))
  have zs7 : Hid (X6.heap.size ≤ (X6.setCell ⟨w.heap.size + 1 + 1, 5, none⟩ (.slice (some ⟨gv, 0, none⟩) n.view.length n.view.length)).heap.size) := K.size
  obtain ⟨X7, hY⟩ : ∃ Y, (X6.setCell ⟨w.heap.size + 1 + 1, 5, none⟩ (.slice (some ⟨gv, 0, none⟩) n.view.length n.view.length)) = Y := ⟨_, rfl⟩
  rw [hY] at B p0 p1 p2 zs7 ov ⊢
  clear hY K d0 f0
  have c0 : X7.cell? ⟨w.heap.size, 6, none⟩ = some (.slice a.ra n.rum.length a.rc) := p0.cell 6
  go_wp2_with fail
  refine (toRums_any a.ra a.rc n.rum _ hlr (hrow.r.keep B)).mono ?_
  rintro e X8 ⟨rfl, orr, bx⟩
  replace p0 := p0.keep bx
  replace p1 := p1.keep bx
  replace p2 := p2.keep bx
  replace ov := ov.keep bx
  replace B := B.trans (bx.mono B.size)
  have zs8 : Hid (X7.heap.size ≤ X8.heap.size) := bx.size
  clear bx
  clear c0
  have ltorr : Hid (X7.heap.size < X8.heap.size ∨ n.rum.length = 0) := own_ltR2 orr
  obtain ⟨gr, hgr⟩ : ∃ g, X7.heap.size = g := ⟨_, rfl⟩
  have HGgr : Hid (X7.heap.size = gr) := hgr
  rw [hgr] at orr ltorr ⊢
  clear hgr
  have d0 : X8.cell? ⟨w.heap.size + 1 + 1, 6, none⟩ = some (.slice none 0 0) := p2.cell 6
  have f0 := p2.fz 6
  go_upto_region 9 with fail
  have K : Keeps (fun q => q ≠ w.heap.size + 1 + 1) X8 (X8.setCell ⟨w.heap.size + 1 + 1, 6, none⟩ (.slice (some ⟨gr, 0, none⟩) n.rum.length n.rum.length)) := ((Keeps.refl (fun q => q ≠ w.heap.size + 1 + 1) X8).setCell (p := ⟨w.heap.size + 1 + 1, 6, none⟩) (fun h => h rfl) (.slice (some ⟨gr, 0, none⟩) n.rum.length n.rum.length))
  replace p2 : BlkIs (X8.setCell ⟨w.heap.size + 1 + 1, 6, none⟩ (.slice (some ⟨gr, 0, none⟩) n.rum.length n.rum.length)) (w.heap.size + 1 + 1) 32 #[.int .i64 n.id, .int .i64 n.inc, .int .i64 n.num, .int .i64 n.seed, .int .i64 n.next, .slice (some ⟨gv, 0, none⟩) n.view.length n.view.length, .slice (some ⟨gr, 0, none⟩) n.rum.length n.rum.length, .slice none 0 0, .int .i64 0, .int .i64 0, .int .i64 0, .int .i64 0, .bool false, .slice none 0 0] := by have := (p2.put 6 (.slice (some ⟨gr, 0, none⟩) n.rum.length n.rum.length)); simpa using this
  replace p0 := p0.keepK K (by omega)
  replace p1 := p1.keepK K (by omega)
  replace ov := ov.keepK K (fun b hb => by have := HS.out; have := zs1.out; have := zs2.out; have := zs3.out; have := zs4.out; have := zs5.out; have := zs6.out; have := HGgv.out; have := zs7.out; have := zs8.out; have := HGgr.out; omega)
  replace orr := orr.keepK K (fun b hb => by have := HS.out; have := zs1.out; have := zs2.out; have := zs3.out; have := zs4.out; have := zs5.out; have := zs6.out; have := HGgv.out; have := zs7.out; have := zs8.out; have := HGgr.out; omega)
  replace B := B.trans (K.toBelow B.size (fun q hq => by omega))
  have zs9 : Hid (X8.heap.size ≤ (X8.setCell ⟨w.heap.size + 1 + 1, 6, none⟩ (.slice (some ⟨gr, 0, none⟩) n.rum.length n.rum.length)).heap.size) := K.size
  obtain ⟨X9, hY⟩ : ∃ Y, (X8.setCell ⟨w.heap.size + 1 + 1, 6, none⟩ (.slice (some ⟨gr, 0, none⟩) n.rum.length n.rum.length)) = Y := ⟨_, rfl⟩
  rw [hY] at B p0 p1 p2 zs9 ov orr ⊢
  clear hY K d0 f0
  have c0 : X9.cell? ⟨w.heap.size, 7, none⟩ = some (.slice a.ta n.tl.length a.tc) := p0.cell 7
  have c1 : X9.cell? ⟨w.heap.size, 8, none⟩ = some (.int .i64 n.at0) := p0.cell 8
  go_wp2_with fail
  refine (toTurn_any a.ta a.tc n.tl n.at0 _ hlt (hrow.t.keep B)).mono ?_
  rintro e X10 ⟨gt, rfl, ot, hgt, bx⟩
  replace p0 := p0.keep bx
  replace p1 := p1.keep bx
  replace p2 := p2.keep bx
  replace ov := ov.keep bx
  replace orr := orr.keep bx
  replace B := B.trans (bx.mono B.size)
  have zs10 : Hid (X9.heap.size ≤ X10.heap.size) := bx.size
  clear bx
  clear c0 c1
  have HGgt : Hid (X9.heap.size ≤ gt ∧ gt < X10.heap.size) := hgt
  clear hgt
  unfold turnV
  have d0 : X10.cell? ⟨w.heap.size + 1 + 1, 7, none⟩ = some (.slice none 0 0) := p2.cell 7
  have f0 := p2.fz 7
  have d1 : X10.cell? ⟨w.heap.size + 1 + 1, 8, none⟩ = some (.int .i64 0) := p2.cell 8
  have f1 := p2.fz 8
  go_upto_region 10 with fail
  have K : Keeps (fun q => q ≠ w.heap.size + 1 + 1) X10 ((X10.setCell ⟨w.heap.size + 1 + 1, 7, none⟩ (.slice (some ⟨gt, 0, none⟩) n.tl.length n.tl.length)).setCell ⟨w.heap.size + 1 + 1, 8, none⟩ (.int .i64 n.at0)) := (((Keeps.refl (fun q => q ≠ w.heap.size + 1 + 1) X10).setCell (p := ⟨w.heap.size + 1 + 1, 7, none⟩) (fun h => h rfl) (.slice (some ⟨gt, 0, none⟩) n.tl.length n.tl.length)).setCell (p := ⟨w.heap.size + 1 + 1, 8, none⟩) (fun h => h rfl) (.int .i64 n.at0))
  replace p2 : BlkIs ((X10.setCell ⟨w.heap.size + 1 + 1, 7, none⟩ (.slice (some ⟨gt, 0, none⟩) n.tl.length n.tl.length)).setCell ⟨w.heap.size + 1 + 1, 8, none⟩ (.int .i64 n.at0)) (w.heap.size + 1 + 1) 32 #[.int .i64 n.id, .int .i64 n.inc, .int .i64 n.num, .int .i64 n.seed, .int .i64 n.next, .slice (some ⟨gv, 0, none⟩) n.view.length n.view.length, .slice (some ⟨gr, 0, none⟩) n.rum.length n.rum.length, .slice (some ⟨gt, 0, none⟩) n.tl.length n.tl.length, .int .i64 n.at0, .int .i64 0, .int .i64 0, .int .i64 0, .bool false, .slice none 0 0] := by have := ((p2.put 7 (.slice (some ⟨gt, 0, none⟩) n.tl.length n.tl.length)).put 8 (.int .i64 n.at0)); simpa using this
  replace p0 := p0.keepK K (by omega)
  replace p1 := p1.keepK K (by omega)
  replace ov := ov.keepK K (fun b hb => by have := HS.out; have := zs1.out; have := zs2.out; have := zs3.out; have := zs4.out; have := zs5.out; have := zs6.out; have := HGgv.out; have := zs7.out; have := zs8.out; have := HGgr.out; have := zs9.out; have := zs10.out; have := HGgt.out; omega)
  replace orr := orr.keepK K (fun b hb => by have := HS.out; have := zs1.out; have := zs2.out; have := zs3.out; have := zs4.out; have := zs5.out; have := zs6.out; have := HGgv.out; have := zs7.out; have := zs8.out; have := HGgr.out; have := zs9.out; have := zs10.out; have := HGgt.out; omega)
  replace ot := ot.keepK K (fun b hb _ => by have := HS.out; have := zs1.out; have := zs2.out; have := zs3.out; have := zs4.out; have := zs5.out; have := zs6.out; have := HGgv.out; have := zs7.out; have := zs8.out; have := HGgr.out; have := zs9.out; have := zs10.out; have := HGgt.out; omega)
  replace B := B.trans (K.toBelow B.size (fun q hq => by omega))
  have zs11 : Hid (X10.heap.size ≤ ((X10.setCell ⟨w.heap.size + 1 + 1, 7, none⟩ (.slice (some ⟨gt, 0, none⟩) n.tl.length n.tl.length)).setCell ⟨w.heap.size + 1 + 1, 8, none⟩ (.int .i64 n.at0)).heap.size) := K.size
  obtain ⟨X11, hY⟩ : ∃ Y, ((X10.setCell ⟨w.heap.size + 1 + 1, 7, none⟩ (.slice (some ⟨gt, 0, none⟩) n.tl.length n.tl.length)).setCell ⟨w.heap.size + 1 + 1, 8, none⟩ (.int .i64 n.at0)) = Y := ⟨_, rfl⟩
  rw [hY] at B p0 p1 p2 zs11 ov orr ot ⊢
  clear hY K d0 f0 d1 f1
  have c0 : X11.cell? ⟨w.heap.size, 9, none⟩ = some (.int .i64 n.pb.node) := p0.cell 9
  have c1 : X11.cell? ⟨w.heap.size, 10, none⟩ = some (.int .i64 n.pb.num) := p0.cell 10
  have c2 : X11.cell? ⟨w.heap.size, 11, none⟩ = some (.int .i64 n.pb.due) := p0.cell 11
  have c3 : X11.cell? ⟨w.heap.size, 12, none⟩ = some (.bool n.pb.asked) := p0.cell 12
  go_wp2_with fail
  refine (toProbe_any n.pb _).mono ?_
  rintro e X12 ⟨rfl, bx⟩
  replace p0 := p0.keep bx
  replace p1 := p1.keep bx
  replace p2 := p2.keep bx
  replace ov := ov.keep bx
  replace orr := orr.keep bx
  replace ot := ot.keep bx
  replace B := B.trans (bx.mono B.size)
  have zs12 : Hid (X11.heap.size ≤ X12.heap.size) := bx.size
  clear bx
  clear c0 c1 c2 c3
  unfold ProbeV.val
  have d0 : X12.cell? ⟨w.heap.size + 1 + 1, 9, none⟩ = some (.int .i64 0) := p2.cell 9
  have f0 := p2.fz 9
  have d1 : X12.cell? ⟨w.heap.size + 1 + 1, 10, none⟩ = some (.int .i64 0) := p2.cell 10
  have f1 := p2.fz 10
  have d2 : X12.cell? ⟨w.heap.size + 1 + 1, 11, none⟩ = some (.int .i64 0) := p2.cell 11
  have f2 := p2.fz 11
  have d3 : X12.cell? ⟨w.heap.size + 1 + 1, 12, none⟩ = some (.bool false) := p2.cell 12
  have f3 := p2.fz 12
  go_upto_region 11 with fail
  have K : Keeps (fun q => q ≠ w.heap.size + 1 + 1) X12 ((((X12.setCell ⟨w.heap.size + 1 + 1, 9, none⟩ (.int .i64 n.pb.node)).setCell ⟨w.heap.size + 1 + 1, 10, none⟩ (.int .i64 n.pb.num)).setCell ⟨w.heap.size + 1 + 1, 11, none⟩ (.int .i64 n.pb.due)).setCell ⟨w.heap.size + 1 + 1, 12, none⟩ (.bool n.pb.asked)) := (((((Keeps.refl (fun q => q ≠ w.heap.size + 1 + 1) X12).setCell (p := ⟨w.heap.size + 1 + 1, 9, none⟩) (fun h => h rfl) (.int .i64 n.pb.node)).setCell (p := ⟨w.heap.size + 1 + 1, 10, none⟩) (fun h => h rfl) (.int .i64 n.pb.num)).setCell (p := ⟨w.heap.size + 1 + 1, 11, none⟩) (fun h => h rfl) (.int .i64 n.pb.due)).setCell (p := ⟨w.heap.size + 1 + 1, 12, none⟩) (fun h => h rfl) (.bool n.pb.asked))
  replace p2 : BlkIs ((((X12.setCell ⟨w.heap.size + 1 + 1, 9, none⟩ (.int .i64 n.pb.node)).setCell ⟨w.heap.size + 1 + 1, 10, none⟩ (.int .i64 n.pb.num)).setCell ⟨w.heap.size + 1 + 1, 11, none⟩ (.int .i64 n.pb.due)).setCell ⟨w.heap.size + 1 + 1, 12, none⟩ (.bool n.pb.asked)) (w.heap.size + 1 + 1) 32 #[.int .i64 n.id, .int .i64 n.inc, .int .i64 n.num, .int .i64 n.seed, .int .i64 n.next, .slice (some ⟨gv, 0, none⟩) n.view.length n.view.length, .slice (some ⟨gr, 0, none⟩) n.rum.length n.rum.length, .slice (some ⟨gt, 0, none⟩) n.tl.length n.tl.length, .int .i64 n.at0, .int .i64 n.pb.node, .int .i64 n.pb.num, .int .i64 n.pb.due, .bool n.pb.asked, .slice none 0 0] := by have := ((((p2.put 9 (.int .i64 n.pb.node)).put 10 (.int .i64 n.pb.num)).put 11 (.int .i64 n.pb.due)).put 12 (.bool n.pb.asked)); simpa using this
  replace p0 := p0.keepK K (by omega)
  replace p1 := p1.keepK K (by omega)
  replace ov := ov.keepK K (fun b hb => by have := HS.out; have := zs1.out; have := zs2.out; have := zs3.out; have := zs4.out; have := zs5.out; have := zs6.out; have := HGgv.out; have := zs7.out; have := zs8.out; have := HGgr.out; have := zs9.out; have := zs10.out; have := HGgt.out; have := zs11.out; have := zs12.out; omega)
  replace orr := orr.keepK K (fun b hb => by have := HS.out; have := zs1.out; have := zs2.out; have := zs3.out; have := zs4.out; have := zs5.out; have := zs6.out; have := HGgv.out; have := zs7.out; have := zs8.out; have := HGgr.out; have := zs9.out; have := zs10.out; have := HGgt.out; have := zs11.out; have := zs12.out; omega)
  replace ot := ot.keepK K (fun b hb _ => by have := HS.out; have := zs1.out; have := zs2.out; have := zs3.out; have := zs4.out; have := zs5.out; have := zs6.out; have := HGgv.out; have := zs7.out; have := zs8.out; have := HGgr.out; have := zs9.out; have := zs10.out; have := HGgt.out; have := zs11.out; have := zs12.out; omega)
  replace B := B.trans (K.toBelow B.size (fun q hq => by omega))
  have zs13 : Hid (X12.heap.size ≤ ((((X12.setCell ⟨w.heap.size + 1 + 1, 9, none⟩ (.int .i64 n.pb.node)).setCell ⟨w.heap.size + 1 + 1, 10, none⟩ (.int .i64 n.pb.num)).setCell ⟨w.heap.size + 1 + 1, 11, none⟩ (.int .i64 n.pb.due)).setCell ⟨w.heap.size + 1 + 1, 12, none⟩ (.bool n.pb.asked)).heap.size) := K.size
  obtain ⟨X13, hY⟩ : ∃ Y, ((((X12.setCell ⟨w.heap.size + 1 + 1, 9, none⟩ (.int .i64 n.pb.node)).setCell ⟨w.heap.size + 1 + 1, 10, none⟩ (.int .i64 n.pb.num)).setCell ⟨w.heap.size + 1 + 1, 11, none⟩ (.int .i64 n.pb.due)).setCell ⟨w.heap.size + 1 + 1, 12, none⟩ (.bool n.pb.asked)) = Y := ⟨_, rfl⟩
  rw [hY] at B p0 p1 p2 zs13 ov orr ot ⊢
  clear hY K d0 f0 d1 f1 d2 f2 d3 f3
  have c0 : X13.cell? ⟨w.heap.size, 13, none⟩ = some (.slice a.da n.db.length a.dc) := p0.cell 13
  go_wp2_with fail
  refine (toDoubts_any a.da a.dc n.db _ hld (hrow.d.keep B)).mono ?_
  rintro e X14 ⟨rfl, od, bx⟩
  replace p0 := p0.keep bx
  replace p1 := p1.keep bx
  replace p2 := p2.keep bx
  replace ov := ov.keep bx
  replace orr := orr.keep bx
  replace ot := ot.keep bx
  replace B := B.trans (bx.mono B.size)
  have zs14 : Hid (X13.heap.size ≤ X14.heap.size) := bx.size
  clear bx
  clear c0
  have ltod : Hid (X13.heap.size < X14.heap.size ∨ n.db.length = 0) := own_lt od
  obtain ⟨gd, hgd⟩ : ∃ g, X13.heap.size = g := ⟨_, rfl⟩
  have HGgd : Hid (X13.heap.size = gd) := hgd
  rw [hgd] at od ltod ⊢
  clear hgd
  have d0 : X14.cell? ⟨w.heap.size + 1 + 1, 13, none⟩ = some (.slice none 0 0) := p2.cell 13
  have f0 := p2.fz 13
  go_upto_region 12 with fail
  have K : Keeps (fun q => q ≠ w.heap.size + 1 + 1) X14 (X14.setCell ⟨w.heap.size + 1 + 1, 13, none⟩ (.slice (some ⟨gd, 0, none⟩) n.db.length n.db.length)) := ((Keeps.refl (fun q => q ≠ w.heap.size + 1 + 1) X14).setCell (p := ⟨w.heap.size + 1 + 1, 13, none⟩) (fun h => h rfl) (.slice (some ⟨gd, 0, none⟩) n.db.length n.db.length))
  replace p2 : BlkIs (X14.setCell ⟨w.heap.size + 1 + 1, 13, none⟩ (.slice (some ⟨gd, 0, none⟩) n.db.length n.db.length)) (w.heap.size + 1 + 1) 32 #[.int .i64 n.id, .int .i64 n.inc, .int .i64 n.num, .int .i64 n.seed, .int .i64 n.next, .slice (some ⟨gv, 0, none⟩) n.view.length n.view.length, .slice (some ⟨gr, 0, none⟩) n.rum.length n.rum.length, .slice (some ⟨gt, 0, none⟩) n.tl.length n.tl.length, .int .i64 n.at0, .int .i64 n.pb.node, .int .i64 n.pb.num, .int .i64 n.pb.due, .bool n.pb.asked, .slice (some ⟨gd, 0, none⟩) n.db.length n.db.length] := by have := (p2.put 13 (.slice (some ⟨gd, 0, none⟩) n.db.length n.db.length)); simpa using this
  replace p0 := p0.keepK K (by omega)
  replace p1 := p1.keepK K (by omega)
  replace ov := ov.keepK K (fun b hb => by have := HS.out; have := zs1.out; have := zs2.out; have := zs3.out; have := zs4.out; have := zs5.out; have := zs6.out; have := HGgv.out; have := zs7.out; have := zs8.out; have := HGgr.out; have := zs9.out; have := zs10.out; have := HGgt.out; have := zs11.out; have := zs12.out; have := zs13.out; have := zs14.out; have := HGgd.out; omega)
  replace orr := orr.keepK K (fun b hb => by have := HS.out; have := zs1.out; have := zs2.out; have := zs3.out; have := zs4.out; have := zs5.out; have := zs6.out; have := HGgv.out; have := zs7.out; have := zs8.out; have := HGgr.out; have := zs9.out; have := zs10.out; have := HGgt.out; have := zs11.out; have := zs12.out; have := zs13.out; have := zs14.out; have := HGgd.out; omega)
  replace ot := ot.keepK K (fun b hb _ => by have := HS.out; have := zs1.out; have := zs2.out; have := zs3.out; have := zs4.out; have := zs5.out; have := zs6.out; have := HGgv.out; have := zs7.out; have := zs8.out; have := HGgr.out; have := zs9.out; have := zs10.out; have := HGgt.out; have := zs11.out; have := zs12.out; have := zs13.out; have := zs14.out; have := HGgd.out; omega)
  replace od := od.keepK K (fun b hb => by have := HS.out; have := zs1.out; have := zs2.out; have := zs3.out; have := zs4.out; have := zs5.out; have := zs6.out; have := HGgv.out; have := zs7.out; have := zs8.out; have := HGgr.out; have := zs9.out; have := zs10.out; have := HGgt.out; have := zs11.out; have := zs12.out; have := zs13.out; have := zs14.out; have := HGgd.out; omega)
  replace B := B.trans (K.toBelow B.size (fun q hq => by omega))
  have zs15 : Hid (X14.heap.size ≤ (X14.setCell ⟨w.heap.size + 1 + 1, 13, none⟩ (.slice (some ⟨gd, 0, none⟩) n.db.length n.db.length)).heap.size) := K.size
  obtain ⟨X15, hY⟩ : ∃ Y, (X14.setCell ⟨w.heap.size + 1 + 1, 13, none⟩ (.slice (some ⟨gd, 0, none⟩) n.db.length n.db.length)) = Y := ⟨_, rfl⟩
  rw [hY] at B p0 p1 p2 zs15 ov orr ot od ⊢
  clear hY K d0 f0
  have c0 : X15.cell? ⟨w.heap.size + 1 + 1, 0, none⟩ = some (.int .i64 n.id) := p2.cell 0
  have c1 : X15.cell? ⟨w.heap.size + 1 + 1, 1, none⟩ = some (.int .i64 n.inc) := p2.cell 1
  have c2 : X15.cell? ⟨w.heap.size + 1 + 1, 2, none⟩ = some (.int .i64 n.num) := p2.cell 2
  have c3 : X15.cell? ⟨w.heap.size + 1 + 1, 3, none⟩ = some (.int .i64 n.seed) := p2.cell 3
  have c4 : X15.cell? ⟨w.heap.size + 1 + 1, 4, none⟩ = some (.int .i64 n.next) := p2.cell 4
  have c5 : X15.cell? ⟨w.heap.size + 1 + 1, 5, none⟩ = some (.slice (some ⟨gv, 0, none⟩) n.view.length n.view.length) := p2.cell 5
  have c6 : X15.cell? ⟨w.heap.size + 1 + 1, 6, none⟩ = some (.slice (some ⟨gr, 0, none⟩) n.rum.length n.rum.length) := p2.cell 6
  have c7 : X15.cell? ⟨w.heap.size + 1 + 1, 7, none⟩ = some (.slice (some ⟨gt, 0, none⟩) n.tl.length n.tl.length) := p2.cell 7
  have c8 : X15.cell? ⟨w.heap.size + 1 + 1, 8, none⟩ = some (.int .i64 n.at0) := p2.cell 8
  have c9 : X15.cell? ⟨w.heap.size + 1 + 1, 9, none⟩ = some (.int .i64 n.pb.node) := p2.cell 9
  have c10 : X15.cell? ⟨w.heap.size + 1 + 1, 10, none⟩ = some (.int .i64 n.pb.num) := p2.cell 10
  have c11 : X15.cell? ⟨w.heap.size + 1 + 1, 11, none⟩ = some (.int .i64 n.pb.due) := p2.cell 11
  have c12 : X15.cell? ⟨w.heap.size + 1 + 1, 12, none⟩ = some (.bool n.pb.asked) := p2.cell 12
  have c13 : X15.cell? ⟨w.heap.size + 1 + 1, 13, none⟩ = some (.slice (some ⟨gd, 0, none⟩) n.db.length n.db.length) := p2.cell 13
  have d0 : X15.cell? ⟨w.heap.size + 1, 0, none⟩ = some (.int .i64 0) := p1.cell 0
  have f0 := p1.fz 0
  have d1 : X15.cell? ⟨w.heap.size + 1, 1, none⟩ = some (.int .i64 0) := p1.cell 1
  have f1 := p1.fz 1
  have d2 : X15.cell? ⟨w.heap.size + 1, 2, none⟩ = some (.int .i64 0) := p1.cell 2
  have f2 := p1.fz 2
  have d3 : X15.cell? ⟨w.heap.size + 1, 3, none⟩ = some (.int .i64 0) := p1.cell 3
  have f3 := p1.fz 3
  have d4 : X15.cell? ⟨w.heap.size + 1, 4, none⟩ = some (.int .i64 0) := p1.cell 4
  have f4 := p1.fz 4
  have d5 : X15.cell? ⟨w.heap.size + 1, 5, none⟩ = some (.slice none 0 0) := p1.cell 5
  have f5 := p1.fz 5
  have d6 : X15.cell? ⟨w.heap.size + 1, 6, none⟩ = some (.slice none 0 0) := p1.cell 6
  have f6 := p1.fz 6
  have d7 : X15.cell? ⟨w.heap.size + 1, 7, none⟩ = some (.slice none 0 0) := p1.cell 7
  have f7 := p1.fz 7
  have d8 : X15.cell? ⟨w.heap.size + 1, 8, none⟩ = some (.int .i64 0) := p1.cell 8
  have f8 := p1.fz 8
  have d9 : X15.cell? ⟨w.heap.size + 1, 9, none⟩ = some (.int .i64 0) := p1.cell 9
  have f9 := p1.fz 9
  have d10 : X15.cell? ⟨w.heap.size + 1, 10, none⟩ = some (.int .i64 0) := p1.cell 10
  have f10 := p1.fz 10
  have d11 : X15.cell? ⟨w.heap.size + 1, 11, none⟩ = some (.int .i64 0) := p1.cell 11
  have f11 := p1.fz 11
  have d12 : X15.cell? ⟨w.heap.size + 1, 12, none⟩ = some (.bool false) := p1.cell 12
  have f12 := p1.fz 12
  have d13 : X15.cell? ⟨w.heap.size + 1, 13, none⟩ = some (.slice none 0 0) := p1.cell 13
  have f13 := p1.fz 13
  have K : Keeps (fun q => q ≠ w.heap.size + 1) X15 ((((((((((((((X15.setCell ⟨w.heap.size + 1, 0, none⟩ (.int .i64 n.id)).setCell ⟨w.heap.size + 1, 1, none⟩ (.int .i64 n.inc)).setCell ⟨w.heap.size + 1, 2, none⟩ (.int .i64 n.num)).setCell ⟨w.heap.size + 1, 3, none⟩ (.int .i64 n.seed)).setCell ⟨w.heap.size + 1, 4, none⟩ (.int .i64 n.next)).setCell ⟨w.heap.size + 1, 5, none⟩ (.slice (some ⟨gv, 0, none⟩) n.view.length n.view.length)).setCell ⟨w.heap.size + 1, 6, none⟩ (.slice (some ⟨gr, 0, none⟩) n.rum.length n.rum.length)).setCell ⟨w.heap.size + 1, 7, none⟩ (.slice (some ⟨gt, 0, none⟩) n.tl.length n.tl.length)).setCell ⟨w.heap.size + 1, 8, none⟩ (.int .i64 n.at0)).setCell ⟨w.heap.size + 1, 9, none⟩ (.int .i64 n.pb.node)).setCell ⟨w.heap.size + 1, 10, none⟩ (.int .i64 n.pb.num)).setCell ⟨w.heap.size + 1, 11, none⟩ (.int .i64 n.pb.due)).setCell ⟨w.heap.size + 1, 12, none⟩ (.bool n.pb.asked)).setCell ⟨w.heap.size + 1, 13, none⟩ (.slice (some ⟨gd, 0, none⟩) n.db.length n.db.length)) := (((((((((((((((Keeps.refl (fun q => q ≠ w.heap.size + 1) X15).setCell (p := ⟨w.heap.size + 1, 0, none⟩) (fun h => h rfl) (.int .i64 n.id)).setCell (p := ⟨w.heap.size + 1, 1, none⟩) (fun h => h rfl) (.int .i64 n.inc)).setCell (p := ⟨w.heap.size + 1, 2, none⟩) (fun h => h rfl) (.int .i64 n.num)).setCell (p := ⟨w.heap.size + 1, 3, none⟩) (fun h => h rfl) (.int .i64 n.seed)).setCell (p := ⟨w.heap.size + 1, 4, none⟩) (fun h => h rfl) (.int .i64 n.next)).setCell (p := ⟨w.heap.size + 1, 5, none⟩) (fun h => h rfl) (.slice (some ⟨gv, 0, none⟩) n.view.length n.view.length)).setCell (p := ⟨w.heap.size + 1, 6, none⟩) (fun h => h rfl) (.slice (some ⟨gr, 0, none⟩) n.rum.length n.rum.length)).setCell (p := ⟨w.heap.size + 1, 7, none⟩) (fun h => h rfl) (.slice (some ⟨gt, 0, none⟩) n.tl.length n.tl.length)).setCell (p := ⟨w.heap.size + 1, 8, none⟩) (fun h => h rfl) (.int .i64 n.at0)).setCell (p := ⟨w.heap.size + 1, 9, none⟩) (fun h => h rfl) (.int .i64 n.pb.node)).setCell (p := ⟨w.heap.size + 1, 10, none⟩) (fun h => h rfl) (.int .i64 n.pb.num)).setCell (p := ⟨w.heap.size + 1, 11, none⟩) (fun h => h rfl) (.int .i64 n.pb.due)).setCell (p := ⟨w.heap.size + 1, 12, none⟩) (fun h => h rfl) (.bool n.pb.asked)).setCell (p := ⟨w.heap.size + 1, 13, none⟩) (fun h => h rfl) (.slice (some ⟨gd, 0, none⟩) n.db.length n.db.length))
  have r1 : BlkIs ((((((((((((((X15.setCell ⟨w.heap.size + 1, 0, none⟩ (.int .i64 n.id)).setCell ⟨w.heap.size + 1, 1, none⟩ (.int .i64 n.inc)).setCell ⟨w.heap.size + 1, 2, none⟩ (.int .i64 n.num)).setCell ⟨w.heap.size + 1, 3, none⟩ (.int .i64 n.seed)).setCell ⟨w.heap.size + 1, 4, none⟩ (.int .i64 n.next)).setCell ⟨w.heap.size + 1, 5, none⟩ (.slice (some ⟨gv, 0, none⟩) n.view.length n.view.length)).setCell ⟨w.heap.size + 1, 6, none⟩ (.slice (some ⟨gr, 0, none⟩) n.rum.length n.rum.length)).setCell ⟨w.heap.size + 1, 7, none⟩ (.slice (some ⟨gt, 0, none⟩) n.tl.length n.tl.length)).setCell ⟨w.heap.size + 1, 8, none⟩ (.int .i64 n.at0)).setCell ⟨w.heap.size + 1, 9, none⟩ (.int .i64 n.pb.node)).setCell ⟨w.heap.size + 1, 10, none⟩ (.int .i64 n.pb.num)).setCell ⟨w.heap.size + 1, 11, none⟩ (.int .i64 n.pb.due)).setCell ⟨w.heap.size + 1, 12, none⟩ (.bool n.pb.asked)).setCell ⟨w.heap.size + 1, 13, none⟩ (.slice (some ⟨gd, 0, none⟩) n.db.length n.db.length)) (w.heap.size + 1) 32 #[.int .i64 n.id, .int .i64 n.inc, .int .i64 n.num, .int .i64 n.seed, .int .i64 n.next, .slice (some ⟨gv, 0, none⟩) n.view.length n.view.length, .slice (some ⟨gr, 0, none⟩) n.rum.length n.rum.length, .slice (some ⟨gt, 0, none⟩) n.tl.length n.tl.length, .int .i64 n.at0, .int .i64 n.pb.node, .int .i64 n.pb.num, .int .i64 n.pb.due, .bool n.pb.asked, .slice (some ⟨gd, 0, none⟩) n.db.length n.db.length] := by have := ((((((((((((((p1.put 0 (.int .i64 n.id)).put 1 (.int .i64 n.inc)).put 2 (.int .i64 n.num)).put 3 (.int .i64 n.seed)).put 4 (.int .i64 n.next)).put 5 (.slice (some ⟨gv, 0, none⟩) n.view.length n.view.length)).put 6 (.slice (some ⟨gr, 0, none⟩) n.rum.length n.rum.length)).put 7 (.slice (some ⟨gt, 0, none⟩) n.tl.length n.tl.length)).put 8 (.int .i64 n.at0)).put 9 (.int .i64 n.pb.node)).put 10 (.int .i64 n.pb.num)).put 11 (.int .i64 n.pb.due)).put 12 (.bool n.pb.asked)).put 13 (.slice (some ⟨gd, 0, none⟩) n.db.length n.db.length)); simpa using this
  replace ov := ov.keepK K (fun b hb => by have := HS.out; have := zs1.out; have := zs2.out; have := zs3.out; have := zs4.out; have := zs5.out; have := zs6.out; have := HGgv.out; have := zs7.out; have := zs8.out; have := HGgr.out; have := zs9.out; have := zs10.out; have := HGgt.out; have := zs11.out; have := zs12.out; have := zs13.out; have := zs14.out; have := HGgd.out; have := zs15.out; omega)
  replace orr := orr.keepK K (fun b hb => by have := HS.out; have := zs1.out; have := zs2.out; have := zs3.out; have := zs4.out; have := zs5.out; have := zs6.out; have := HGgv.out; have := zs7.out; have := zs8.out; have := HGgr.out; have := zs9.out; have := zs10.out; have := HGgt.out; have := zs11.out; have := zs12.out; have := zs13.out; have := zs14.out; have := HGgd.out; have := zs15.out; omega)
  replace ot := ot.keepK K (fun b hb _ => by have := HS.out; have := zs1.out; have := zs2.out; have := zs3.out; have := zs4.out; have := zs5.out; have := zs6.out; have := HGgv.out; have := zs7.out; have := zs8.out; have := HGgr.out; have := zs9.out; have := zs10.out; have := HGgt.out; have := zs11.out; have := zs12.out; have := zs13.out; have := zs14.out; have := HGgd.out; have := zs15.out; omega)
  replace od := od.keepK K (fun b hb => by have := HS.out; have := zs1.out; have := zs2.out; have := zs3.out; have := zs4.out; have := zs5.out; have := zs6.out; have := HGgv.out; have := zs7.out; have := zs8.out; have := HGgr.out; have := zs9.out; have := zs10.out; have := HGgt.out; have := zs11.out; have := zs12.out; have := zs13.out; have := zs14.out; have := HGgd.out; have := zs15.out; omega)
  replace B := B.trans (K.toBelow B.size (fun q hq => by omega))
  have zz : Hid (X15.heap.size ≤ ((((((((((((((X15.setCell ⟨w.heap.size + 1, 0, none⟩ (.int .i64 n.id)).setCell ⟨w.heap.size + 1, 1, none⟩ (.int .i64 n.inc)).setCell ⟨w.heap.size + 1, 2, none⟩ (.int .i64 n.num)).setCell ⟨w.heap.size + 1, 3, none⟩ (.int .i64 n.seed)).setCell ⟨w.heap.size + 1, 4, none⟩ (.int .i64 n.next)).setCell ⟨w.heap.size + 1, 5, none⟩ (.slice (some ⟨gv, 0, none⟩) n.view.length n.view.length)).setCell ⟨w.heap.size + 1, 6, none⟩ (.slice (some ⟨gr, 0, none⟩) n.rum.length n.rum.length)).setCell ⟨w.heap.size + 1, 7, none⟩ (.slice (some ⟨gt, 0, none⟩) n.tl.length n.tl.length)).setCell ⟨w.heap.size + 1, 8, none⟩ (.int .i64 n.at0)).setCell ⟨w.heap.size + 1, 9, none⟩ (.int .i64 n.pb.node)).setCell ⟨w.heap.size + 1, 10, none⟩ (.int .i64 n.pb.num)).setCell ⟨w.heap.size + 1, 11, none⟩ (.int .i64 n.pb.due)).setCell ⟨w.heap.size + 1, 12, none⟩ (.bool n.pb.asked)).setCell ⟨w.heap.size + 1, 13, none⟩ (.slice (some ⟨gd, 0, none⟩) n.db.length n.db.length)).heap.size) := K.size
  clear K p0 p1 p2 hrow
  go_wp2
  obtain ⟨Z, hZ⟩ : ∃ Z, ((((((((((((((X15.setCell ⟨w.heap.size + 1, 0, none⟩ (.int .i64 n.id)).setCell ⟨w.heap.size + 1, 1, none⟩ (.int .i64 n.inc)).setCell ⟨w.heap.size + 1, 2, none⟩ (.int .i64 n.num)).setCell ⟨w.heap.size + 1, 3, none⟩ (.int .i64 n.seed)).setCell ⟨w.heap.size + 1, 4, none⟩ (.int .i64 n.next)).setCell ⟨w.heap.size + 1, 5, none⟩ (.slice (some ⟨gv, 0, none⟩) n.view.length n.view.length)).setCell ⟨w.heap.size + 1, 6, none⟩ (.slice (some ⟨gr, 0, none⟩) n.rum.length n.rum.length)).setCell ⟨w.heap.size + 1, 7, none⟩ (.slice (some ⟨gt, 0, none⟩) n.tl.length n.tl.length)).setCell ⟨w.heap.size + 1, 8, none⟩ (.int .i64 n.at0)).setCell ⟨w.heap.size + 1, 9, none⟩ (.int .i64 n.pb.node)).setCell ⟨w.heap.size + 1, 10, none⟩ (.int .i64 n.pb.num)).setCell ⟨w.heap.size + 1, 11, none⟩ (.int .i64 n.pb.due)).setCell ⟨w.heap.size + 1, 12, none⟩ (.bool n.pb.asked)).setCell ⟨w.heap.size + 1, 13, none⟩ (.slice (some ⟨gd, 0, none⟩) n.db.length n.db.length)) = Z := ⟨_, rfl⟩
  rw [hZ] at r1 B zz ov orr ot od ⊢
  clear hZ c0 d0 f0 c1 d1 f1 c2 d2 f2 c3 d3 f3 c4 d4 f4 c5 d5 f5 c6 d6 f6 c7 d7 f7 c8 d8 f8 c9 d9 f9 c10 d10 f10 c11 d11 f11 c12 d12 f12 c13 d13 f13
  have t0 : Z.cell? ⟨w.heap.size + 1, 0, none⟩ = some (.int .i64 n.id) := r1.cell 0
  have t1 : Z.cell? ⟨w.heap.size + 1, 1, none⟩ = some (.int .i64 n.inc) := r1.cell 1
  have t2 : Z.cell? ⟨w.heap.size + 1, 2, none⟩ = some (.int .i64 n.num) := r1.cell 2
  have t3 : Z.cell? ⟨w.heap.size + 1, 3, none⟩ = some (.int .i64 n.seed) := r1.cell 3
  have t4 : Z.cell? ⟨w.heap.size + 1, 4, none⟩ = some (.int .i64 n.next) := r1.cell 4
  have t5 : Z.cell? ⟨w.heap.size + 1, 5, none⟩ = some (.slice (some ⟨gv, 0, none⟩) n.view.length n.view.length) := r1.cell 5
  have t6 : Z.cell? ⟨w.heap.size + 1, 6, none⟩ = some (.slice (some ⟨gr, 0, none⟩) n.rum.length n.rum.length) := r1.cell 6
  have t7 : Z.cell? ⟨w.heap.size + 1, 7, none⟩ = some (.slice (some ⟨gt, 0, none⟩) n.tl.length n.tl.length) := r1.cell 7
  have t8 : Z.cell? ⟨w.heap.size + 1, 8, none⟩ = some (.int .i64 n.at0) := r1.cell 8
  have t9 : Z.cell? ⟨w.heap.size + 1, 9, none⟩ = some (.int .i64 n.pb.node) := r1.cell 9
  have t10 : Z.cell? ⟨w.heap.size + 1, 10, none⟩ = some (.int .i64 n.pb.num) := r1.cell 10
  have t11 : Z.cell? ⟨w.heap.size + 1, 11, none⟩ = some (.int .i64 n.pb.due) := r1.cell 11
  have t12 : Z.cell? ⟨w.heap.size + 1, 12, none⟩ = some (.bool n.pb.asked) := r1.cell 12
  have t13 : Z.cell? ⟨w.heap.size + 1, 13, none⟩ = some (.slice (some ⟨gd, 0, none⟩) n.db.length n.db.length) := r1.cell 13
  exact bodyPost_ret (v := .agg #[.int .i64 n.id, .int .i64 n.inc, .int .i64 n.num, .int .i64 n.seed, .int .i64 n.next, .slice (some ⟨gv, 0, none⟩) n.view.length n.view.length, .slice (some ⟨gr, 0, none⟩) n.rum.length n.rum.length, .slice (some ⟨gt, 0, none⟩) n.tl.length n.tl.length, .int .i64 n.at0, .int .i64 n.pb.node, .int .i64 n.pb.num, .int .i64 n.pb.due, .bool n.pb.asked, .slice (some ⟨gd, 0, none⟩) n.db.length n.db.length]) (by simp [results, Tryz.results35, go_sem, t0, t1, t2, t3, t4, t5, t6, t7, t8, t9, t10, t11, t12, t13]) rfl ⟨gv, gr, gt, gd, rfl,
    ⟨ov.mono (by have := HS.out; have := zs1.out; have := zs2.out; have := zs3.out; have := zs4.out; have := zs5.out; have := zs6.out; have := HGgv.out; have := zs7.out; have := zs8.out; have := HGgr.out; have := zs9.out; have := zs10.out; have := HGgt.out; have := zs11.out; have := zs12.out; have := zs13.out; have := zs14.out; have := HGgd.out; have := zs15.out; have := zz.out; omega), orr.mono (by have := HS.out; have := zs1.out; have := zs2.out; have := zs3.out; have := zs4.out; have := zs5.out; have := zs6.out; have := HGgv.out; have := zs7.out; have := zs8.out; have := HGgr.out; have := zs9.out; have := zs10.out; have := HGgt.out; have := zs11.out; have := zs12.out; have := zs13.out; have := zs14.out; have := HGgd.out; have := zs15.out; have := zz.out; omega), ot.le (by have := HS.out; have := zs1.out; have := zs2.out; have := zs3.out; have := zs4.out; have := zs5.out; have := zs6.out; have := HGgv.out; have := zs7.out; have := zs8.out; have := HGgr.out; have := zs9.out; have := zs10.out; have := HGgt.out; have := zs11.out; have := zs12.out; have := zs13.out; have := zs14.out; have := HGgd.out; have := zs15.out; have := zz.out; omega), od.mono (by have := HS.out; have := zs1.out; have := zs2.out; have := zs3.out; have := zs4.out; have := zs5.out; have := zs6.out; have := HGgv.out; have := zs7.out; have := zs8.out; have := HGgr.out; have := zs9.out; have := zs10.out; have := HGgt.out; have := zs11.out; have := zs12.out; have := zs13.out; have := zs14.out; have := HGgd.out; have := zs15.out; have := zz.out; omega), by have := HS.out; have := zs1.out; have := zs2.out; have := zs3.out; have := zs4.out; have := zs5.out; have := zs6.out; have := HGgv.out; have := zs7.out; have := zs8.out; have := HGgr.out; have := zs9.out; have := zs10.out; have := HGgt.out; have := zs11.out; have := zs12.out; have := zs13.out; have := zs14.out; have := HGgd.out; have := zs15.out; have := zz.out; omega, by have := ltov.out; have := HS.out; have := zs1.out; have := zs2.out; have := zs3.out; have := zs4.out; have := zs5.out; have := zs6.out; have := HGgv.out; have := zs7.out; have := zs8.out; have := HGgr.out; have := zs9.out; have := zs10.out; have := HGgt.out; have := zs11.out; have := zs12.out; have := zs13.out; have := zs14.out; have := HGgd.out; have := zs15.out; have := zz.out; omega, by have := ltorr.out; have := HS.out; have := zs1.out; have := zs2.out; have := zs3.out; have := zs4.out; have := zs5.out; have := zs6.out; have := HGgv.out; have := zs7.out; have := zs8.out; have := HGgr.out; have := zs9.out; have := zs10.out; have := HGgt.out; have := zs11.out; have := zs12.out; have := zs13.out; have := zs14.out; have := HGgd.out; have := zs15.out; have := zz.out; omega, by have := HS.out; have := zs1.out; have := zs2.out; have := zs3.out; have := zs4.out; have := zs5.out; have := zs6.out; have := HGgv.out; have := zs7.out; have := zs8.out; have := HGgr.out; have := zs9.out; have := zs10.out; have := HGgt.out; have := zs11.out; have := zs12.out; have := zs13.out; have := zs14.out; have := HGgd.out; have := zs15.out; have := zz.out; omega, by have := ltod.out; have := HS.out; have := zs1.out; have := zs2.out; have := zs3.out; have := zs4.out; have := zs5.out; have := zs6.out; have := HGgv.out; have := zs7.out; have := zs8.out; have := HGgr.out; have := zs9.out; have := zs10.out; have := HGgt.out; have := zs11.out; have := zs12.out; have := zs13.out; have := zs14.out; have := HGgd.out; have := zs15.out; have := zz.out; omega⟩, B⟩
set_option maxHeartbeats 2000000 in
set_option maxRecDepth 100000 in
theorem eqNode_same (a b : NodeM) (n : NodeV) (w : World) (hl : NodeLen n 1048576) (h1 : NodeRows w a n) (h2 : NodeRows w b n) :
    Calls Tryz.prog 37 #[nodeVal a n, nodeVal b n] w fun e w' => e = .returned (.bool true) ∧ Below w.heap.size w w' := by
  have hlv := hl.v
  have hlr := hl.r
  have hlt := hl.t
  have hld := hl.d
  unfold nodeVal nodeCells
  have B := ((Below.refl w.heap.size w).alloc (Nat.le_refl _) (.cells #[.int .i64 n.id, .int .i64 n.inc, .int .i64 n.num, .int .i64 n.seed, .int .i64 n.next, .slice a.va n.view.length a.vc, .slice a.ra n.rum.length a.rc, .slice a.ta n.tl.length a.tc, .int .i64 n.at0, .int .i64 n.pb.node, .int .i64 n.pb.num, .int .i64 n.pb.due, .bool n.pb.asked, .slice a.da n.db.length a.dc] 32)).alloc (by simp) (.cells #[.int .i64 n.id, .int .i64 n.inc, .int .i64 n.num, .int .i64 n.seed, .int .i64 n.next, .slice b.va n.view.length b.vc, .slice b.ra n.rum.length b.rc, .slice b.ta n.tl.length b.tc, .int .i64 n.at0, .int .i64 n.pb.node, .int .i64 n.pb.num, .int .i64 n.pb.due, .bool n.pb.asked, .slice b.da n.db.length b.dc] 32)
  have p0 := (BlkIs.new w 32 #[.int .i64 n.id, .int .i64 n.inc, .int .i64 n.num, .int .i64 n.seed, .int .i64 n.next, .slice a.va n.view.length a.vc, .slice a.ra n.rum.length a.rc, .slice a.ta n.tl.length a.tc, .int .i64 n.at0, .int .i64 n.pb.node, .int .i64 n.pb.num, .int .i64 n.pb.due, .bool n.pb.asked, .slice a.da n.db.length a.dc]).keep ((Below.refl _ _).alloc (Nat.le_refl _) (.cells #[.int .i64 n.id, .int .i64 n.inc, .int .i64 n.num, .int .i64 n.seed, .int .i64 n.next, .slice b.va n.view.length b.vc, .slice b.ra n.rum.length b.rc, .slice b.ta n.tl.length b.tc, .int .i64 n.at0, .int .i64 n.pb.node, .int .i64 n.pb.num, .int .i64 n.pb.due, .bool n.pb.asked, .slice b.da n.db.length b.dc] 32))
  have p1 := BlkIs.new (w.alloc (.cells #[.int .i64 n.id, .int .i64 n.inc, .int .i64 n.num, .int .i64 n.seed, .int .i64 n.next, .slice a.va n.view.length a.vc, .slice a.ra n.rum.length a.rc, .slice a.ta n.tl.length a.tc, .int .i64 n.at0, .int .i64 n.pb.node, .int .i64 n.pb.num, .int .i64 n.pb.due, .bool n.pb.asked, .slice a.da n.db.length a.dc] 32)) 32 #[.int .i64 n.id, .int .i64 n.inc, .int .i64 n.num, .int .i64 n.seed, .int .i64 n.next, .slice b.va n.view.length b.vc, .slice b.ra n.rum.length b.rc, .slice b.ta n.tl.length b.tc, .int .i64 n.at0, .int .i64 n.pb.node, .int .i64 n.pb.num, .int .i64 n.pb.due, .bool n.pb.asked, .slice b.da n.db.length b.dc]
  rw [World.size_alloc] at p1
  go_enter Tryz.func37, Tryz.ntmps37
  go_upto_region 1 with fail
  obtain ⟨X, hX⟩ : ∃ W, (w.alloc (.cells #[.int .i64 n.id, .int .i64 n.inc, .int .i64 n.num, .int .i64 n.seed, .int .i64 n.next, .slice a.va n.view.length a.vc, .slice a.ra n.rum.length a.rc, .slice a.ta n.tl.length a.tc, .int .i64 n.at0, .int .i64 n.pb.node, .int .i64 n.pb.num, .int .i64 n.pb.due, .bool n.pb.asked, .slice a.da n.db.length a.dc] 32)).alloc (.cells #[.int .i64 n.id, .int .i64 n.inc, .int .i64 n.num, .int .i64 n.seed, .int .i64 n.next, .slice b.va n.view.length b.vc, .slice b.ra n.rum.length b.rc, .slice b.ta n.tl.length b.tc, .int .i64 n.at0, .int .i64 n.pb.node, .int .i64 n.pb.num, .int .i64 n.pb.due, .bool n.pb.asked, .slice b.da n.db.length b.dc] 32) = W := ⟨_, rfl⟩
  rw [hX] at B p0 p1 ⊢
  clear hX hl
  have a0 : X.cell? ⟨w.heap.size, 0, none⟩ = some (.int .i64 n.id) := p0.cell 0
  have b0 : X.cell? ⟨w.heap.size + 1, 0, none⟩ = some (.int .i64 n.id) := p1.cell 0
  have a1 : X.cell? ⟨w.heap.size, 1, none⟩ = some (.int .i64 n.inc) := p0.cell 1
  have b1 : X.cell? ⟨w.heap.size + 1, 1, none⟩ = some (.int .i64 n.inc) := p1.cell 1
  have a2 : X.cell? ⟨w.heap.size, 2, none⟩ = some (.int .i64 n.num) := p0.cell 2
  have b2 : X.cell? ⟨w.heap.size + 1, 2, none⟩ = some (.int .i64 n.num) := p1.cell 2
  have a3 : X.cell? ⟨w.heap.size, 3, none⟩ = some (.int .i64 n.seed) := p0.cell 3
  have b3 : X.cell? ⟨w.heap.size + 1, 3, none⟩ = some (.int .i64 n.seed) := p1.cell 3
  have a4 : X.cell? ⟨w.heap.size, 4, none⟩ = some (.int .i64 n.next) := p0.cell 4
  have b4 : X.cell? ⟨w.heap.size + 1, 4, none⟩ = some (.int .i64 n.next) := p1.cell 4
  have a5 : X.cell? ⟨w.heap.size, 5, none⟩ = some (.slice a.va n.view.length a.vc) := p0.cell 5
  have b5 : X.cell? ⟨w.heap.size + 1, 5, none⟩ = some (.slice b.va n.view.length b.vc) := p1.cell 5
  go_wp2_with fail
  refine (eqFacts_same a.va a.vc b.va b.vc n.view _ hlv (h1.v.keep B) (h2.v.keep B)).mono ?_
  rintro e YX ⟨rfl, bx⟩
  replace p0 := p0.keep bx
  replace p1 := p1.keep bx
  replace B := B.trans (bx.mono B.size)
  clear bx a0 b0 a1 b1 a2 b2 a3 b3 a4 b4 a5 b5
  have a6 : YX.cell? ⟨w.heap.size, 6, none⟩ = some (.slice a.ra n.rum.length a.rc) := p0.cell 6
  have b6 : YX.cell? ⟨w.heap.size + 1, 6, none⟩ = some (.slice b.ra n.rum.length b.rc) := p1.cell 6
  go_wp2_with fail
  refine (eqRums_same a.ra a.rc b.ra b.rc n.rum _ hlr (h1.r.keep B) (h2.r.keep B)).mono ?_
  rintro e YYX ⟨rfl, bx⟩
  replace p0 := p0.keep bx
  replace p1 := p1.keep bx
  replace B := B.trans (bx.mono B.size)
  clear bx a6 b6
  have a7 : YYX.cell? ⟨w.heap.size, 7, none⟩ = some (.slice a.ta n.tl.length a.tc) := p0.cell 7
  have b7 : YYX.cell? ⟨w.heap.size + 1, 7, none⟩ = some (.slice b.ta n.tl.length b.tc) := p1.cell 7
  have a8 : YYX.cell? ⟨w.heap.size, 8, none⟩ = some (.int .i64 n.at0) := p0.cell 8
  have b8 : YYX.cell? ⟨w.heap.size + 1, 8, none⟩ = some (.int .i64 n.at0) := p1.cell 8
  go_wp2_with fail
  refine (eqTurn_same a.ta b.ta a.tc b.tc n.tl n.at0 _ hlt (h1.t.keep B) (h2.t.keep B)).mono ?_
  rintro e YYYX ⟨rfl, bx⟩
  replace p0 := p0.keep bx
  replace p1 := p1.keep bx
  replace B := B.trans (bx.mono B.size)
  clear bx a7 b7 a8 b8
  have a9 : YYYX.cell? ⟨w.heap.size, 9, none⟩ = some (.int .i64 n.pb.node) := p0.cell 9
  have b9 : YYYX.cell? ⟨w.heap.size + 1, 9, none⟩ = some (.int .i64 n.pb.node) := p1.cell 9
  have a10 : YYYX.cell? ⟨w.heap.size, 10, none⟩ = some (.int .i64 n.pb.num) := p0.cell 10
  have b10 : YYYX.cell? ⟨w.heap.size + 1, 10, none⟩ = some (.int .i64 n.pb.num) := p1.cell 10
  have a11 : YYYX.cell? ⟨w.heap.size, 11, none⟩ = some (.int .i64 n.pb.due) := p0.cell 11
  have b11 : YYYX.cell? ⟨w.heap.size + 1, 11, none⟩ = some (.int .i64 n.pb.due) := p1.cell 11
  have a12 : YYYX.cell? ⟨w.heap.size, 12, none⟩ = some (.bool n.pb.asked) := p0.cell 12
  have b12 : YYYX.cell? ⟨w.heap.size + 1, 12, none⟩ = some (.bool n.pb.asked) := p1.cell 12
  go_wp2_with fail
  refine (eqProbe_same n.pb _).mono ?_
  rintro e YYYYX ⟨rfl, bx⟩
  replace p0 := p0.keep bx
  replace p1 := p1.keep bx
  replace B := B.trans (bx.mono B.size)
  clear bx a9 b9 a10 b10 a11 b11 a12 b12
  have a13 : YYYYX.cell? ⟨w.heap.size, 13, none⟩ = some (.slice a.da n.db.length a.dc) := p0.cell 13
  have b13 : YYYYX.cell? ⟨w.heap.size + 1, 13, none⟩ = some (.slice b.da n.db.length b.dc) := p1.cell 13
  go_wp2_with fail
  refine (eqDoubts_same a.da a.dc b.da b.dc n.db _ hld (h1.d.keep B) (h2.d.keep B)).mono ?_
  rintro e YYYYYX ⟨rfl, bx⟩
  replace p0 := p0.keep bx
  replace p1 := p1.keep bx
  replace B := B.trans (bx.mono B.size)
  clear bx a13 b13
  clear p0 p1 h1 h2
  go_wp2
  go_ret
  exact ⟨rfl, B⟩
end Go.Proofs.YtmdcankfjmkkeaaGreat
