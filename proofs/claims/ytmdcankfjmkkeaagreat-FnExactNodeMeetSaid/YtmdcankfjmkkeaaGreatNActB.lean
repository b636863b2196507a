/- The contracts of the program's out and spread. -/
import Derived.Test.YtmdcankfjmkkeaaGreatG40
import Derived.Test.YtmdcankfjmkkeaaGreatG41
import Derived.Test.YtmdcankfjmkkeaaGreatRPut
namespace Go.Proofs.YtmdcankfjmkkeaaGreat
open Go Go.RowKit
set_option linter.unusedVariables false
set_option linter.unusedSimpArgs false

set_option maxHeartbeats 4000000 in
set_option maxRecDepth 100000 in
theorem out_any (c b : Nat) (a : NodeM) (n : NodeV) (x : Value) (ma : Option Addr) (mn mc : Nat) (miss : Int) (w : World) (h : NodeSt 92 w c b a n x (.slice ma mn mc) (.int .i64 miss)) :
    Calls Tryz.prog 54 #[.pointer (some ⟨b, 0, none⟩)] w fun e w' => e = .returned (outVal a n (.slice ma mn mc) miss 0) ∧ Below w.heap.size w w' := by
  have O0 : BlkIs w b 92 #[.int .i64 n.id, .int .i64 n.inc, .int .i64 n.num, .int .i64 n.seed, .int .i64 n.next, .slice a.va n.view.length a.vc, .slice a.ra n.rum.length a.rc, .slice a.ta n.tl.length a.tc, .int .i64 n.at0, .int .i64 n.pb.node, .int .i64 n.pb.num, .int .i64 n.pb.due, .bool n.pb.asked, .slice a.da n.db.length a.dc, x, .slice ma mn mc, .int .i64 miss] := h.blk
  have hlt := O0.lt
  clear h
  have B := (Below.refl w.heap.size w).alloc (Nat.le_refl _) (.cells #[.int .i64 0, .int .i64 0, .int .i64 0, .int .i64 0, .int .i64 0, .slice none 0 0, .slice none 0 0, .slice none 0 0, .int .i64 0, .int .i64 0, .int .i64 0, .int .i64 0, .bool false, .slice none 0 0, .slice none 0 0, .int .i64 0, .int .i64 0] 37)
  have P := BlkIs.new w 37 #[.int .i64 0, .int .i64 0, .int .i64 0, .int .i64 0, .int .i64 0, .slice none 0 0, .slice none 0 0, .slice none 0 0, .int .i64 0, .int .i64 0, .int .i64 0, .int .i64 0, .bool false, .slice none 0 0, .slice none 0 0, .int .i64 0, .int .i64 0]
  have O := O0.keep B
  go_enter Tryz.func54, Tryz.ntmps54
  go_upto_region 1 with fail
  obtain ⟨X, hX⟩ : ∃ W, w.alloc (.cells #[.int .i64 0, .int .i64 0, .int .i64 0, .int .i64 0, .int .i64 0, .slice none 0 0, .slice none 0 0, .slice none 0 0, .int .i64 0, .int .i64 0, .int .i64 0, .int .i64 0, .bool false, .slice none 0 0, .slice none 0 0, .int .i64 0, .int .i64 0] 37) = W := ⟨_, rfl⟩
  rw [hX] at P B O ⊢
  clear hX O0
  obtain ⟨kr, hkr⟩ : ∃ k, w.heap.size = k := ⟨_, rfl⟩
  rw [hkr] at P ⊢
  have hbk : b ≠ kr := by omega
  refine wp_region_held_drew (S := fun w' => Keeps (fun q => q ≠ kr) X w') (by kernel_rfl) ?hS0 (fun hHeld => ?_)
  case hS0 => exact (Keeps.refl _ _).drew
  refine takeG 0 (v := .pointer (some ⟨b, 0, none⟩)) rfl (by kernel_rfl) (by kernel_rfl) (by kernel_rfl) (by kernel_rfl) (fun _ _ _ h => h) ?hy (by assumption) ?_
  case hy => (intro w' hSw; go_simp)
  try simp only [List.setIfInBounds_toArray, List.set_cons_zero, List.set_cons_succ]
  refine takeG 1 (v := .pointer (some ⟨b, 0, none⟩)) rfl (by kernel_rfl) (by kernel_rfl) (by kernel_rfl) (by kernel_rfl) (fun _ _ _ h => h) ?hy (by assumption) ?_
  case hy => (intro w' hSw; go_simp)
  try simp only [List.setIfInBounds_toArray, List.set_cons_zero, List.set_cons_succ]
  refine takeG 2 (v := .pointer (some ⟨b, 0, none⟩)) rfl (by kernel_rfl) (by kernel_rfl) (by kernel_rfl) (by kernel_rfl) (fun _ _ _ h => h) ?hy (by assumption) ?_
  case hy => (intro w' hSw; go_simp)
  try simp only [List.setIfInBounds_toArray, List.set_cons_zero, List.set_cons_succ]
  refine takeG 3 (v := .agg #[.int .i64 n.id, .int .i64 n.inc, .int .i64 n.num, .int .i64 n.seed, .int .i64 n.next, .slice a.va n.view.length a.vc, .slice a.ra n.rum.length a.rc, .slice a.ta n.tl.length a.tc, .int .i64 n.at0, .int .i64 n.pb.node, .int .i64 n.pb.num, .int .i64 n.pb.due, .bool n.pb.asked, .slice a.da n.db.length a.dc]) rfl (by kernel_rfl) (by kernel_rfl) (by kernel_rfl) (by kernel_rfl) (fun _ _ _ h => h) ?hy (by assumption) ?_
  case hy => (intro w' hSw; have s0 := (show w'.cell? ⟨b, 0, none⟩ = some (.int .i64 n.id) from (O.keepK hSw hbk).cell 0); (try dsimp only at s0); have s1 := (show w'.cell? ⟨b, 1, none⟩ = some (.int .i64 n.inc) from (O.keepK hSw hbk).cell 1); (try dsimp only at s1); have s2 := (show w'.cell? ⟨b, 2, none⟩ = some (.int .i64 n.num) from (O.keepK hSw hbk).cell 2); (try dsimp only at s2); have s3 := (show w'.cell? ⟨b, 3, none⟩ = some (.int .i64 n.seed) from (O.keepK hSw hbk).cell 3); (try dsimp only at s3); have s4 := (show w'.cell? ⟨b, 4, none⟩ = some (.int .i64 n.next) from (O.keepK hSw hbk).cell 4); (try dsimp only at s4); have s5 := (show w'.cell? ⟨b, 5, none⟩ = some (.slice a.va n.view.length a.vc) from (O.keepK hSw hbk).cell 5); (try dsimp only at s5); have s6 := (show w'.cell? ⟨b, 6, none⟩ = some (.slice a.ra n.rum.length a.rc) from (O.keepK hSw hbk).cell 6); (try dsimp only at s6); have s7 := (show w'.cell? ⟨b, 7, none⟩ = some (.slice a.ta n.tl.length a.tc) from (O.keepK hSw hbk).cell 7); (try dsimp only at s7); have s8 := (show w'.cell? ⟨b, 8, none⟩ = some (.int .i64 n.at0) from (O.keepK hSw hbk).cell 8); (try dsimp only at s8); have s9 := (show w'.cell? ⟨b, 9, none⟩ = some (.int .i64 n.pb.node) from (O.keepK hSw hbk).cell 9); (try dsimp only at s9); have s10 := (show w'.cell? ⟨b, 10, none⟩ = some (.int .i64 n.pb.num) from (O.keepK hSw hbk).cell 10); (try dsimp only at s10); have s11 := (show w'.cell? ⟨b, 11, none⟩ = some (.int .i64 n.pb.due) from (O.keepK hSw hbk).cell 11); (try dsimp only at s11); have s12 := (show w'.cell? ⟨b, 12, none⟩ = some (.bool n.pb.asked) from (O.keepK hSw hbk).cell 12); (try dsimp only at s12); have s13 := (show w'.cell? ⟨b, 13, none⟩ = some (.slice a.da n.db.length a.dc) from (O.keepK hSw hbk).cell 13); (try dsimp only at s13); go_simp)
  try simp only [List.setIfInBounds_toArray, List.set_cons_zero, List.set_cons_succ]
  refine takeG 4 (v := .pointer (some ⟨b, 0, none⟩)) rfl (by kernel_rfl) (by kernel_rfl) (by kernel_rfl) (by kernel_rfl) (fun _ _ _ h => h) ?hy (by assumption) ?_
  case hy => (intro w' hSw; go_simp)
  try simp only [List.setIfInBounds_toArray, List.set_cons_zero, List.set_cons_succ]
  refine takeG 5 (v := .pointer (some ⟨b, 0, none⟩)) rfl (by kernel_rfl) (by kernel_rfl) (by kernel_rfl) (by kernel_rfl) (fun _ _ _ h => h) ?hy (by assumption) ?_
  case hy => (intro w' hSw; go_simp)
  try simp only [List.setIfInBounds_toArray, List.set_cons_zero, List.set_cons_succ]
  refine takeG 6 (v := .pointer (some ⟨b, 15, none⟩)) rfl (by kernel_rfl) (by kernel_rfl) (by kernel_rfl) (by kernel_rfl) (fun _ _ _ h => h) ?hy (by assumption) ?_
  case hy => (intro w' hSw; go_simp)
  try simp only [List.setIfInBounds_toArray, List.set_cons_zero, List.set_cons_succ]
  refine takeG 7 (v := .slice ma mn mc) rfl (by kernel_rfl) (by kernel_rfl) (by kernel_rfl) (by kernel_rfl) (fun _ _ _ h => h) ?hy (by assumption) ?_
  case hy => (intro w' hSw; have s0 := (show w'.cell? ⟨b, 15, none⟩ = some (.slice ma mn mc) from (O.keepK hSw hbk).cell 15); (try dsimp only at s0); go_simp)
  try simp only [List.setIfInBounds_toArray, List.set_cons_zero, List.set_cons_succ]
  refine takeG 8 (v := .pointer (some ⟨b, 0, none⟩)) rfl (by kernel_rfl) (by kernel_rfl) (by kernel_rfl) (by kernel_rfl) (fun _ _ _ h => h) ?hy (by assumption) ?_
  case hy => (intro w' hSw; go_simp)
  try simp only [List.setIfInBounds_toArray, List.set_cons_zero, List.set_cons_succ]
  refine takeG 9 (v := .pointer (some ⟨b, 0, none⟩)) rfl (by kernel_rfl) (by kernel_rfl) (by kernel_rfl) (by kernel_rfl) (fun _ _ _ h => h) ?hy (by assumption) ?_
  case hy => (intro w' hSw; go_simp)
  try simp only [List.setIfInBounds_toArray, List.set_cons_zero, List.set_cons_succ]
  refine takeG 10 (v := .pointer (some ⟨b, 16, none⟩)) rfl (by kernel_rfl) (by kernel_rfl) (by kernel_rfl) (by kernel_rfl) (fun _ _ _ h => h) ?hy (by assumption) ?_
  case hy => (intro w' hSw; go_simp)
  try simp only [List.setIfInBounds_toArray, List.set_cons_zero, List.set_cons_succ]
  refine takeG 11 (v := .int .i64 miss) rfl (by kernel_rfl) (by kernel_rfl) (by kernel_rfl) (by kernel_rfl) (fun _ _ _ h => h) ?hy (by assumption) ?_
  case hy => (intro w' hSw; have s0 := (show w'.cell? ⟨b, 16, none⟩ = some (.int .i64 miss) from (O.keepK hSw hbk).cell 16); (try dsimp only at s0); go_simp)
  try simp only [List.setIfInBounds_toArray, List.set_cons_zero, List.set_cons_succ]
  refine takeG 12 (v := .agg #[.int .i64 n.id, .int .i64 n.inc, .int .i64 n.num, .int .i64 n.seed, .int .i64 n.next, .slice a.va n.view.length a.vc, .slice a.ra n.rum.length a.rc, .slice a.ta n.tl.length a.tc, .int .i64 n.at0, .int .i64 n.pb.node, .int .i64 n.pb.num, .int .i64 n.pb.due, .bool n.pb.asked, .slice a.da n.db.length a.dc, .slice ma mn mc, .int .i64 miss, .int .i64 0]) rfl (by kernel_rfl) (by kernel_rfl) (by kernel_rfl) (by kernel_rfl) (fun _ _ _ h => h) ?hy (by assumption) ?_
  case hy => (intro w' hSw; go_simp)
  try simp only [List.setIfInBounds_toArray, List.set_cons_zero, List.set_cons_succ]
  have PD := P.keep (Below.refl X.heap.size X).drew
  have hnew : BlkIs (X.drew.setRow kr #[.int .i64 n.id, .int .i64 n.inc, .int .i64 n.num, .int .i64 n.seed, .int .i64 n.next, .slice a.va n.view.length a.vc, .slice a.ra n.rum.length a.rc, .slice a.ta n.tl.length a.tc, .int .i64 n.at0, .int .i64 n.pb.node, .int .i64 n.pb.num, .int .i64 n.pb.due, .bool n.pb.asked, .slice a.da n.db.length a.dc, .slice ma mn mc, .int .i64 miss, .int .i64 0]) kr 37 #[.int .i64 n.id, .int .i64 n.inc, .int .i64 n.num, .int .i64 n.seed, .int .i64 n.next, .slice a.va n.view.length a.vc, .slice a.ra n.rum.length a.rc, .slice a.ta n.tl.length a.tc, .int .i64 n.at0, .int .i64 n.pb.node, .int .i64 n.pb.num, .int .i64 n.pb.due, .bool n.pb.asked, .slice a.da n.db.length a.dc, .slice ma mn mc, .int .i64 miss, .int .i64 0] := setRow_heap _ _ _ _ _ _ PD
  have hkr2 := hHeld.trans ((keeps_setRow X.drew kr #[.int .i64 n.id, .int .i64 n.inc, .int .i64 n.num, .int .i64 n.seed, .int .i64 n.next, .slice a.va n.view.length a.vc, .slice a.ra n.rum.length a.rc, .slice a.ta n.tl.length a.tc, .int .i64 n.at0, .int .i64 n.pb.node, .int .i64 n.pb.num, .int .i64 n.pb.due, .bool n.pb.asked, .slice a.da n.db.length a.dc, .slice ma mn mc, .int .i64 miss, .int .i64 0]).mono (fun k _ h => h))
  refine runG 13 (by kernel_rfl) rfl (by kernel_rfl) ?_
  refine step_skip (exec_store_blk PD _ _ _ rfl rfl rfl (by kernel_rfl) rfl (by kernel_rfl)) ?_
  refine ⟨hkr2, ?_⟩
  refine wpAnyH_done (by kernel_rfl) ?_ _
  obtain ⟨Y, hY⟩ : ∃ Y, X.drew.setRow kr #[.int .i64 n.id, .int .i64 n.inc, .int .i64 n.num, .int .i64 n.seed, .int .i64 n.next, .slice a.va n.view.length a.vc, .slice a.ra n.rum.length a.rc, .slice a.ta n.tl.length a.tc, .int .i64 n.at0, .int .i64 n.pb.node, .int .i64 n.pb.num, .int .i64 n.pb.due, .bool n.pb.asked, .slice a.da n.db.length a.dc, .slice ma mn mc, .int .i64 miss, .int .i64 0] = Y := ⟨_, rfl⟩
  rw [hY] at hnew hkr2 ⊢
  clear hY PD hHeld
  have hb : Below w.heap.size w Y := B.trans (hkr2.belowNe (by omega) B.size)
  go_wp2_with fail
  exact ret_blk hnew Tryz.results54 rfl _ Tryz.underlying37 (by kernel_rfl) rfl ⟨rfl, hb⟩
/-- A row of rumors of one's own, as a slot holds it; and as an answer has it. -/
def RowR (base : Nat) (l : List RumV) (v : Value) (w : World) : Prop := ∃ s k, v = .slice s l.length k ∧ w.ownsRow base 59 4 (.slice s l.length k) l.length (cellsOf RumV.cells l)
def RowOutR (base : Nat) (l : List RumV) (v : Value) (w : World) : Prop := ∃ s k u, v = outR (.slice s l.length k) u 0 ∧ w.ownsRow base 59 4 (.slice s l.length k) l.length (cellsOf RumV.cells l)
theorem RowR.keep {base : Nat} {l : List RumV} {v : Value} {w w' : World} (h : RowR base l v w) (k : Below w.heap.size w w') : RowR base l v w' := by
  obtain ⟨s, q, h1, h2⟩ := h
  exact ⟨s, q, h1, rowBelow h2 k⟩
theorem RowOutR.keep {base : Nat} {l : List RumV} {v : Value} {w w' : World} (h : RowOutR base l v w) (k : Below w.heap.size w w') : RowOutR base l v w' := by
  obtain ⟨s, q, u, h1, h2⟩ := h
  exact ⟨s, q, u, h1, rowBelow h2 k⟩
/-- What spread leaves. -/
def SpreadPost (T : TypeId) (c b : Nat) (a : NodeM) (n : NodeV) (f : FactV) (x y z : Value) (w : World) (e : Ending) (w' : World) : Prop := e = .returned (.tuple #[]) ∧ ∃ ra rc, NodeSt T w' c b { a with ra := ra, rc := rc } { n with rum := putR n.rum f } x y z ∧ Keeps (fun q => q ≠ b) w w'
set_option maxHeartbeats 4000000 in
set_option maxRecDepth 100000 in
theorem spread_any (T : TypeId) (hT : NotEl T) (c b : Nat) (a : NodeM) (n : NodeV) (f : FactV) (x y z : Value) (w : World) (hr : rightR n.rum) (hf : f.ok) (H : NodeSt T w c b a n x y z) :
    Calls Tryz.prog 82 #[.pointer (some ⟨b, 0, none⟩), f.val] w (SpreadPost T c b a n f x y z w) := by
  have HR : Hid (rightR n.rum) := hr
  have HF : Hid (f.ok) := hf
  have hl6 := rightR_len hr
  have R := H.rows.nodeRows.r
  have O0 : BlkIs w b T #[.int .i64 n.id, .int .i64 n.inc, .int .i64 n.num, .int .i64 n.seed, .int .i64 n.next, .slice a.va n.view.length a.vc, .slice a.ra n.rum.length a.rc, .slice a.ta n.tl.length a.tc, .int .i64 n.at0, .int .i64 n.pb.node, .int .i64 n.pb.num, .int .i64 n.pb.due, .bool n.pb.asked, .slice a.da n.db.length a.dc, x, y, z] := H.blk
  have hlt := O0.lt
  have hlo := H.lo
  clear hr hf
  unfold FactV.val
  have B := (Below.refl w.heap.size w).alloc (Nat.le_refl _) (.cells #[.int .i64 f.node, .int .i64 f.inc, .int .i64 f.st] 54)
  have P := BlkIs.new w 54 #[.int .i64 f.node, .int .i64 f.inc, .int .i64 f.st]
  have O := O0.keep B
  go_enter Tryz.func82, Tryz.ntmps82
  go_upto_region 1 with fail
  obtain ⟨X, hX⟩ : ∃ W, w.alloc (.cells #[.int .i64 f.node, .int .i64 f.inc, .int .i64 f.st] 54) = W := ⟨_, rfl⟩
  have hcx : c ≤ X.heap.size := by rw [← hX]; simp; omega
  rw [hX] at P B O ⊢
  clear hX O0
  obtain ⟨kf, hkf⟩ : ∃ k, w.heap.size = k := ⟨_, rfl⟩
  rw [hkf] at P ⊢
  clear hkf
  go_upto_region 1 with fail
  refine wp_region_any (by kernel_rfl) ?_
  refine wpAny_box 10 (fun i => [4, 5, 6, 7, 8, 9, 10, 11, 12, 13].getD i 0) (fun kq v wq => match kq with | 0 => v = .pointer (some ⟨b, 0, none⟩) | 1 => v = .pointer (some ⟨b, 0, none⟩) | 2 => v = .pointer (some ⟨b, 0, none⟩) | 3 => v = .pointer (some ⟨b, 6, none⟩) | 4 => v = .slice a.ra n.rum.length a.rc | 5 => v = .agg #[.int .i64 f.node, .int .i64 f.inc, .int .i64 f.st] | 6 => RowOutR X.heap.size (putR n.rum f) v wq | 7 => RowR X.heap.size (putR n.rum f) v wq | 8 => v = .pointer (some ⟨b, 0, none⟩) | 9 => v = .pointer (some ⟨b, 6, none⟩) | _ => True) _ X (by kernel_rfl) ?inj ?stab ?step ?last _ _ _ _ (List.range 11) (by kernel_rfl) (Nat.le_refl 11) ?un (by kernel_rfl) ?down ⟨rfl, rfl, fun _ _ => rfl⟩ (Below.refl _ _).drew ?none
  case inj => exact (show ∀ i, i < 10 → ∀ j, j < 10 → [4, 5, 6, 7, 8, 9, 10, 11, 12, 13].getD i 0 = [4, 5, 6, 7, 8, 9, 10, 11, 12, 13].getD j 0 → i = j by decide)
  case un => exact fun i hi _ => List.mem_range.2 hi
  case down =>
    intro j hj
    exfalso
    by_cases hi : j < 11
    · simp [hi] at hj
    · simp [hi] at hj
  case none =>
    intro i hi hj
    exfalso
    have hi2 : i < 11 := by omega
    simp [hi2] at hj
  case stab =>
    intro kq u wa wb h hB
    match kq, h with
    | 0, h => exact h
    | 1, h => exact h
    | 2, h => exact h
    | 3, h => exact h
    | 4, h => exact h
    | 5, h => exact h
    | 6, h => exact (show RowOutR X.heap.size (putR n.rum f) u wb from RowOutR.keep h hB)
    | 7, h => exact (show RowR X.heap.size (putR n.rum f) u wb from RowR.keep h hB)
    | 8, h => exact h
    | 9, h => exact h
    | _ + 10, _ => exact trivial
  case step =>
    intro i o hin ho fa fw hF hJ hpre
    obtain rfl | rfl | rfl | rfl | rfl | rfl | rfl | rfl | rfl | rfl : i = 0 ∨ i = 1 ∨ i = 2 ∨ i = 3 ∨ i = 4 ∨ i = 5 ∨ i = 6 ∨ i = 7 ∨ i = 8 ∨ i = 9 := by omega
    all_goals (obtain rfl := Option.some.inj ho)
    · have hs0 : fa.tmps[0]?.getD undef = .pointer (some ⟨b, 0, none⟩) := by
        have := hF.2.2 0 (show ∀ i, i < 10 → [4, 5, 6, 7, 8, 9, 10, 11, 12, 13].getD i 0 ≠ 0 by decide)
        simpa using this
      exact step_val (v := .pointer (some ⟨b, 0, none⟩)) (w' := fw) (by go_simp) ⟨_, rfl, rfl, Below.refl _ _⟩
    · have hs0 : fa.tmps[0]?.getD undef = .pointer (some ⟨b, 0, none⟩) := by
        have := hF.2.2 0 (show ∀ i, i < 10 → [4, 5, 6, 7, 8, 9, 10, 11, 12, 13].getD i 0 ≠ 0 by decide)
        simpa using this
      exact step_val (v := .pointer (some ⟨b, 0, none⟩)) (w' := fw) (by go_simp) ⟨_, rfl, rfl, Below.refl _ _⟩
    · have hd1 : fa.tmps[5]?.getD undef = .pointer (some ⟨b, 0, none⟩) := by simpa using (hpre ⟨1, .data⟩ (by simp) rfl : fa.tmps.getD 5 undef = .pointer (some ⟨b, 0, none⟩))
      exact step_val (v := .pointer (some ⟨b, 0, none⟩)) (w' := fw) (by go_simp) ⟨_, rfl, rfl, Below.refl _ _⟩
    · have hd2 : fa.tmps[6]?.getD undef = .pointer (some ⟨b, 0, none⟩) := by simpa using (hpre ⟨2, .data⟩ (by simp) rfl : fa.tmps.getD 6 undef = .pointer (some ⟨b, 0, none⟩))
      exact step_val (v := .pointer (some ⟨b, 6, none⟩)) (w' := fw) (by go_simp) ⟨_, rfl, rfl, Below.refl _ _⟩
    · have hd3 : fa.tmps[7]?.getD undef = .pointer (some ⟨b, 6, none⟩) := by simpa using (hpre ⟨3, .data⟩ (by simp) rfl : fa.tmps.getD 7 undef = .pointer (some ⟨b, 6, none⟩))
      have m0 := (show fw.cell? ⟨b, 6, none⟩ = some (.slice a.ra n.rum.length a.rc) from (O.keep hJ).cell 6)
      try dsimp only at m0
      exact step_val (v := .slice a.ra n.rum.length a.rc) (w' := fw) (by go_simp) ⟨_, rfl, rfl, Below.refl _ _⟩
    · have hs3 : fa.tmps[3]?.getD undef = .pointer (some ⟨kf, 0, none⟩) := by
        have := hF.2.2 3 (show ∀ i, i < 10 → [4, 5, 6, 7, 8, 9, 10, 11, 12, 13].getD i 0 ≠ 3 by decide)
        simpa using this
      have m0 := (show fw.cell? ⟨kf, 0, none⟩ = some (.int .i64 f.node) from (P.keep hJ).cell 0)
      try dsimp only at m0
      have m1 := (show fw.cell? ⟨kf, 1, none⟩ = some (.int .i64 f.inc) from (P.keep hJ).cell 1)
      try dsimp only at m1
      have m2 := (show fw.cell? ⟨kf, 2, none⟩ = some (.int .i64 f.st) from (P.keep hJ).cell 2)
      try dsimp only at m2
      exact step_val (v := .agg #[.int .i64 f.node, .int .i64 f.inc, .int .i64 f.st]) (w' := fw) (by go_simp) ⟨_, rfl, rfl, Below.refl _ _⟩
    · have hd4 : fa.tmps[8]?.getD undef = .slice a.ra n.rum.length a.rc := by simpa using (hpre ⟨4, .data⟩ (by simp) rfl : fa.tmps.getD 8 undef = .slice a.ra n.rum.length a.rc)
      have hd5 : fa.tmps[9]?.getD undef = .agg #[.int .i64 f.node, .int .i64 f.inc, .int .i64 f.st] := by simpa using (hpre ⟨5, .data⟩ (by simp) rfl : fa.tmps.getD 9 undef = .agg #[.int .i64 f.node, .int .i64 f.inc, .int .i64 f.st])
      go_simp
      refine (implRPut_any a.ra a.rc n.rum f 0 (putR n.rum f) _ (.inr (.inr ⟨HR.out, HF.out, rfl, rfl⟩)) (by omega) (R.keep (B.trans (hJ.mono B.size)))).mono ?_
      rintro e wy ⟨v, u, rfl, row, fr, bb⟩
      obtain ⟨ra, rc, rfl⟩ := rowSlice row
      exact ⟨_, rfl, ⟨ra, rc, u, rfl, rowLe row hJ.size⟩, bb⟩
    · obtain ⟨ra, rc, ux, q6, hrow6⟩ := (hpre ⟨6, .data⟩ (by simp) rfl : RowOutR X.heap.size (putR n.rum f) (fa.tmps.getD 10 undef) fw)
      have hd6 : fa.tmps[10]?.getD undef = outR (.slice ra (putR n.rum f).length rc) ux 0 := by simpa using q6
      go_simp
      exact ⟨_, rfl, ⟨ra, rc, rfl, hrow6⟩, Below.refl _ _⟩
    · have hd0 : fa.tmps[4]?.getD undef = .pointer (some ⟨b, 0, none⟩) := by simpa using (hpre ⟨0, .data⟩ (by simp) rfl : fa.tmps.getD 4 undef = .pointer (some ⟨b, 0, none⟩))
      exact step_val (v := .pointer (some ⟨b, 0, none⟩)) (w' := fw) (by go_simp) ⟨_, rfl, rfl, Below.refl _ _⟩
    · have hd8 : fa.tmps[12]?.getD undef = .pointer (some ⟨b, 0, none⟩) := by simpa using (hpre ⟨8, .data⟩ (by simp) rfl : fa.tmps.getD 12 undef = .pointer (some ⟨b, 0, none⟩))
      exact step_val (v := .pointer (some ⟨b, 6, none⟩)) (w' := fw) (by go_simp) ⟨_, rfl, rfl, Below.refl _ _⟩
  case last =>
    intro o ho fa fw hF hJ hφ
    obtain rfl := Option.some.inj ho
    have hd9 : fa.tmps[13]?.getD undef = .pointer (some ⟨b, 6, none⟩) := by simpa using (hφ 9 (by decide) : fa.tmps.getD 13 undef = .pointer (some ⟨b, 6, none⟩))
    obtain ⟨ra, rc, q7, hrow7⟩ := (hφ 7 (by decide) : RowR X.heap.size (putR n.rum f) (fa.tmps.getD 11 undef) fw)
    have hd7 : fa.tmps[11]?.getD undef = .slice ra (putR n.rum f).length rc := by simpa using q7
    have hO := O.keep hJ
    have hnew : BlkIs (fw.setCell ⟨b, 6, none⟩ (.slice ra (putR n.rum f).length rc)) b T #[.int .i64 n.id, .int .i64 n.inc, .int .i64 n.num, .int .i64 n.seed, .int .i64 n.next, .slice a.va n.view.length a.vc, .slice ra (putR n.rum f).length rc, .slice a.ta n.tl.length a.tc, .int .i64 n.at0, .int .i64 n.pb.node, .int .i64 n.pb.num, .int .i64 n.pb.due, .bool n.pb.asked, .slice a.da n.db.length a.dc, x, y, z] := hO.put 6 (.slice ra (putR n.rum f).length rc)
    have hkz := keeps_setCell fw b 6 (.slice ra (putR n.rum f).length rc)
    have hwf : Below w.heap.size w fw := B.trans (hJ.mono B.size)
    have hr0 : StRows fw c { a with ra := ra, rc := rc } { n with rum := putR n.rum f } := ⟨(H.rows.keep hwf).v, rowLe hrow7 hcx, (H.rows.keep hwf).t, (H.rows.keep hwf).d⟩
    have hrn := hr0.keepB hO hT hkz
    have hkn : Keeps (fun q => q ≠ b) w (fw.setCell ⟨b, 6, none⟩ (.slice ra (putR n.rum f).length rc)) := (Keeps.ofBelow hwf (fun k hk _ => hk)).trans (hkz.mono (fun k _ h => h))
    refine step_skip (w' := fw.setCell ⟨b, 6, none⟩ (.slice ra (putR n.rum f).length rc)) (exec_store_cell hO _ _ _ rfl (show fa.tmps.getD 13 undef = _ by simpa using hd9) (show fa.tmps.getD 11 undef = _ by simpa using hd7) (show 6 < 17 by decide) (by kernel_rfl) rfl) ?_
    obtain ⟨wn, hwn⟩ : ∃ wn, fw.setCell ⟨b, 6, none⟩ (.slice ra (putR n.rum f).length rc) = wn := ⟨_, rfl⟩
    rw [hwn] at hnew hrn hkn ⊢
    clear hwn hO hkz hr0 hwf
    obtain ⟨ft, fd⟩ := fa
    obtain ⟨hd, hz, hs⟩ := hF
    have e := tmps_slots ft 14 hz
    simp only [List.range, List.range.loop, List.map] at e
    have hu : ∀ s, (∀ i, i < 10 → [4, 5, 6, 7, 8, 9, 10, 11, 12, 13].getD i 0 ≠ s) → ft.getD s undef = _ := hs
    rw [hu 0 (by decide), hu 1 (by decide), hu 2 (by decide), hu 3 (by decide)] at e
    obtain ⟨y4, hy4⟩ : ∃ z, ft.getD 4 undef = z := ⟨_, rfl⟩
    obtain ⟨y5, hy5⟩ : ∃ z, ft.getD 5 undef = z := ⟨_, rfl⟩
    obtain ⟨y6, hy6⟩ : ∃ z, ft.getD 6 undef = z := ⟨_, rfl⟩
    obtain ⟨y7, hy7⟩ : ∃ z, ft.getD 7 undef = z := ⟨_, rfl⟩
    obtain ⟨y8, hy8⟩ : ∃ z, ft.getD 8 undef = z := ⟨_, rfl⟩
    obtain ⟨y9, hy9⟩ : ∃ z, ft.getD 9 undef = z := ⟨_, rfl⟩
    obtain ⟨y10, hy10⟩ : ∃ z, ft.getD 10 undef = z := ⟨_, rfl⟩
    obtain ⟨y11, hy11⟩ : ∃ z, ft.getD 11 undef = z := ⟨_, rfl⟩
    obtain ⟨y12, hy12⟩ : ∃ z, ft.getD 12 undef = z := ⟨_, rfl⟩
    obtain ⟨y13, hy13⟩ : ∃ z, ft.getD 13 undef = z := ⟨_, rfl⟩
    rw [hy4, hy5, hy6, hy7, hy8, hy9, hy10, hy11, hy12, hy13] at e
    clear hy4 hy5 hy6 hy7 hy8 hy9 hy10 hy11 hy12 hy13 hu hs hz hφ hd9 hd7 q7
    subst e
    obtain rfl : fd = [] := hd
    go_wp2_with fail
    exact bodyPost_ret (v := .tuple #[]) (by simp [results, Tryz.results82]) rfl ⟨rfl, ra, rc, ⟨hnew, hlo, hrn⟩, hkn⟩
end Go.Proofs.YtmdcankfjmkkeaaGreat
