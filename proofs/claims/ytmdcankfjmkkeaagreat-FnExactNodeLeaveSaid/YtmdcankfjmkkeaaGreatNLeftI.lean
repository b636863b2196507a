/- Who has left, and whom a node could ask: the program's; the specification's test. -/
import Derived.Test.YtmdcankfjmkkeaaGreatG34
import Derived.Test.YtmdcankfjmkkeaaGreatG36
import Derived.Test.YtmdcankfjmkkeaaGreatG4
namespace Go.Proofs.YtmdcankfjmkkeaaGreat
open Go Go.RowKit
set_option linter.unusedVariables false
set_option linter.unusedSimpArgs false

theorem field_factN (x0 x1 x2 : Value) (w : World) : (Instr.field 54 (.agg #[x0, x1, x2]) 2).run Tryz.prog w = .ok x2 w := by kernel_rfl
set_option maxHeartbeats 2000000 in
set_option maxRecDepth 100000 in
theorem hasLeft_any (T c b : Nat) (a : NodeM) (n : NodeV) (x y z0 : Value) (q : Bool) (w : World) (hr : rightV n.view) (hq : q = true ↔ goneN n) (H : NodeSt T w c b a n x y z0) :
    Calls Tryz.prog 50 #[.pointer (some ⟨b, 0, none⟩)] w fun e w' => e = .returned (.bool q) ∧ Below w.heap.size w w' := by
  obtain ⟨⟨f1, f2, f3⟩, hf⟩ : ∃ f, atF n.view n.id = f := ⟨_, rfl⟩
  have HFA : Hid (atF n.view n.id = ⟨f1, f2, f3⟩) := hf
  have HQ : Hid (q = true ↔ f3 = 3) := by
    show _ ↔ _
    rw [hq]
    unfold goneN
    rw [hf]
  have HRV : Hid (rightV n.view) := hr
  have hrow := H.rows.nodeRows.v
  have hlen : n.view.length ≤ 1048576 := by have := rightV_len hr; omega
  have O : BlkIs w b T #[.int .i64 n.id, .int .i64 n.inc, .int .i64 n.num, .int .i64 n.seed, .int .i64 n.next, .slice a.va n.view.length a.vc, .slice a.ra n.rum.length a.rc, .slice a.ta n.tl.length a.tc, .int .i64 n.at0, .int .i64 n.pb.node, .int .i64 n.pb.num, .int .i64 n.pb.due, .bool n.pb.asked, .slice a.da n.db.length a.dc, x, y, z0] := H.blk
  have hlt := O.lt
  clear hf hq hr H
  go_enter Tryz.func50, Tryz.ntmps50
  go_upto_region 1 with fail
  by_cases h3 : f3 = 3
  · obtain rfl : q = true := HQ.out.2 h3
    have h3b : (f3 == 3) = true := by simp [h3]
    have hfd := field_factN (.int .i64 f1) (.int .i64 f2) (.int .i64 f3)
    clear h3 HQ
    refine wp_region_held_drew (S := (fun w' => Below w.heap.size w w')) (by kernel_rfl) ?hS0 (fun hHeld => ?_)
    case hS0 => exact (Below.refl _ _).drew
    refine takeG 0 (v := .pointer (some ⟨b, 0, none⟩)) rfl (by kernel_rfl) (by kernel_rfl) (by kernel_rfl) (by kernel_rfl) (fun _ _ _ h => h) ?hy (by assumption) ?_
    case hy => (intro w' hSw; go_simp)
    try simp only [List.setIfInBounds_toArray, List.set_cons_zero, List.set_cons_succ]
    refine takeG 1 (v := .pointer (some ⟨b, 0, none⟩)) rfl (by kernel_rfl) (by kernel_rfl) (by kernel_rfl) (by kernel_rfl) (fun _ _ _ h => h) ?hy (by assumption) ?_
    case hy => (intro w' hSw; go_simp)
    try simp only [List.setIfInBounds_toArray, List.set_cons_zero, List.set_cons_succ]
    refine takeG 2 (v := .pointer (some ⟨b, 5, none⟩)) rfl (by kernel_rfl) (by kernel_rfl) (by kernel_rfl) (by kernel_rfl) (fun _ _ _ h => h) ?hy (by assumption) ?_
    case hy => (intro w' hSw; go_simp)
    try simp only [List.setIfInBounds_toArray, List.set_cons_zero, List.set_cons_succ]
    refine takeG 3 (v := .slice a.va n.view.length a.vc) rfl (by kernel_rfl) (by kernel_rfl) (by kernel_rfl) (by kernel_rfl) (fun _ _ _ h => h) ?hy (by assumption) ?_
    case hy => (intro w' hSw; have s0 := (show w'.cell? ⟨b, 5, none⟩ = some (.slice a.va n.view.length a.vc) from (O.keep (hSw.mono (Nat.le_refl _))).cell 5); (try dsimp only at s0); go_simp)
    try simp only [List.setIfInBounds_toArray, List.set_cons_zero, List.set_cons_succ]
    refine takeG 4 (v := .pointer (some ⟨b, 0, none⟩)) rfl (by kernel_rfl) (by kernel_rfl) (by kernel_rfl) (by kernel_rfl) (fun _ _ _ h => h) ?hy (by assumption) ?_
    case hy => (intro w' hSw; go_simp)
    try simp only [List.setIfInBounds_toArray, List.set_cons_zero, List.set_cons_succ]
    refine takeG 5 (v := .pointer (some ⟨b, 0, none⟩)) rfl (by kernel_rfl) (by kernel_rfl) (by kernel_rfl) (by kernel_rfl) (fun _ _ _ h => h) ?hy (by assumption) ?_
    case hy => (intro w' hSw; go_simp)
    try simp only [List.setIfInBounds_toArray, List.set_cons_zero, List.set_cons_succ]
    refine takeG 6 (v := .pointer (some ⟨b, 0, none⟩)) rfl (by kernel_rfl) (by kernel_rfl) (by kernel_rfl) (by kernel_rfl) (fun _ _ _ h => h) ?hy (by assumption) ?_
    case hy => (intro w' hSw; go_simp)
    try simp only [List.setIfInBounds_toArray, List.set_cons_zero, List.set_cons_succ]
    refine takeG 7 (v := .int .i64 n.id) rfl (by kernel_rfl) (by kernel_rfl) (by kernel_rfl) (by kernel_rfl) (fun _ _ _ h => h) ?hy (by assumption) ?_
    case hy => (intro w' hSw; have s0 := (show w'.cell? ⟨b, 0, none⟩ = some (.int .i64 n.id) from (O.keep (hSw.mono (Nat.le_refl _))).cell 0); (try dsimp only at s0); go_simp)
    try simp only [List.setIfInBounds_toArray, List.set_cons_zero, List.set_cons_succ]
    refine runG 8 (by kernel_rfl) rfl (by kernel_rfl) ?_
    go_simp
    refine (implAt_any a.va a.vc n.view n.id ⟨f1, f2, f3⟩ (.inl ⟨HRV.out, HFA.out.symm⟩) _ hlen (hrow.keep hHeld)).mono ?_
    rintro e z ⟨rfl, bz⟩
    unfold FactV.val
    have hH2 := hHeld.trans (bz.mono hHeld.size)
    refine ⟨hH2, ?_⟩
    try simp only [Act.put, List.setIfInBounds_toArray, List.set_cons_zero, List.set_cons_succ]
    refine takeG 9 (v := .int .i64 f3) rfl (by kernel_rfl) (by kernel_rfl) (by kernel_rfl) (by kernel_rfl) (fun _ _ _ h => h) ?hy (by assumption) ?_
    case hy => (intro w' hSw; go_simp)
    try simp only [List.setIfInBounds_toArray, List.set_cons_zero, List.set_cons_succ]
    refine takeG 10 (v := .bool true) rfl (by kernel_rfl) (by kernel_rfl) (by kernel_rfl) (by kernel_rfl) (fun _ _ _ h => h) ?hy (by assumption) ?_
    case hy => (intro w' hSw; go_simp)
    try simp only [List.setIfInBounds_toArray, List.set_cons_zero, List.set_cons_succ]
    refine takeG 11 (v := .bool true) rfl (by kernel_rfl) (by kernel_rfl) (by kernel_rfl) (by kernel_rfl) (fun _ _ _ h => h) ?hy (by assumption) ?_
    case hy => (intro w' hSw; go_simp)
    try simp only [List.setIfInBounds_toArray, List.set_cons_zero, List.set_cons_succ]
    refine wpAnyH_done (by kernel_rfl) ?_ _
    go_wp2_with fail
    go_ret
    exact ⟨rfl, hH2⟩
  · obtain rfl : q = false := by
      cases q with
      | false => rfl
      | true => exact absurd (HQ.out.1 rfl) h3
    have h3b : (f3 == 3) = false := beq_eq_false_iff_ne.2 h3
    have hfd := field_factN (.int .i64 f1) (.int .i64 f2) (.int .i64 f3)
    clear h3 HQ
    refine wp_region_held_drew (S := (fun w' => Below w.heap.size w w')) (by kernel_rfl) ?hS0 (fun hHeld => ?_)
    case hS0 => exact (Below.refl _ _).drew
    refine takeG 0 (v := .pointer (some ⟨b, 0, none⟩)) rfl (by kernel_rfl) (by kernel_rfl) (by kernel_rfl) (by kernel_rfl) (fun _ _ _ h => h) ?hy (by assumption) ?_
    case hy => (intro w' hSw; go_simp)
    try simp only [List.setIfInBounds_toArray, List.set_cons_zero, List.set_cons_succ]
    refine takeG 1 (v := .pointer (some ⟨b, 0, none⟩)) rfl (by kernel_rfl) (by kernel_rfl) (by kernel_rfl) (by kernel_rfl) (fun _ _ _ h => h) ?hy (by assumption) ?_
    case hy => (intro w' hSw; go_simp)
    try simp only [List.setIfInBounds_toArray, List.set_cons_zero, List.set_cons_succ]
    refine takeG 2 (v := .pointer (some ⟨b, 5, none⟩)) rfl (by kernel_rfl) (by kernel_rfl) (by kernel_rfl) (by kernel_rfl) (fun _ _ _ h => h) ?hy (by assumption) ?_
    case hy => (intro w' hSw; go_simp)
    try simp only [List.setIfInBounds_toArray, List.set_cons_zero, List.set_cons_succ]
    refine takeG 3 (v := .slice a.va n.view.length a.vc) rfl (by kernel_rfl) (by kernel_rfl) (by kernel_rfl) (by kernel_rfl) (fun _ _ _ h => h) ?hy (by assumption) ?_
    case hy => (intro w' hSw; have s0 := (show w'.cell? ⟨b, 5, none⟩ = some (.slice a.va n.view.length a.vc) from (O.keep (hSw.mono (Nat.le_refl _))).cell 5); (try dsimp only at s0); go_simp)
    try simp only [List.setIfInBounds_toArray, List.set_cons_zero, List.set_cons_succ]
    refine takeG 4 (v := .pointer (some ⟨b, 0, none⟩)) rfl (by kernel_rfl) (by kernel_rfl) (by kernel_rfl) (by kernel_rfl) (fun _ _ _ h => h) ?hy (by assumption) ?_
    case hy => (intro w' hSw; go_simp)
    try simp only [List.setIfInBounds_toArray, List.set_cons_zero, List.set_cons_succ]
    refine takeG 5 (v := .pointer (some ⟨b, 0, none⟩)) rfl (by kernel_rfl) (by kernel_rfl) (by kernel_rfl) (by kernel_rfl) (fun _ _ _ h => h) ?hy (by assumption) ?_
    case hy => (intro w' hSw; go_simp)
    try simp only [List.setIfInBounds_toArray, List.set_cons_zero, List.set_cons_succ]
    refine takeG 6 (v := .pointer (some ⟨b, 0, none⟩)) rfl (by kernel_rfl) (by kernel_rfl) (by kernel_rfl) (by kernel_rfl) (fun _ _ _ h => h) ?hy (by assumption) ?_
    case hy => (intro w' hSw; go_simp)
    try simp only [List.setIfInBounds_toArray, List.set_cons_zero, List.set_cons_succ]
    refine takeG 7 (v := .int .i64 n.id) rfl (by kernel_rfl) (by kernel_rfl) (by kernel_rfl) (by kernel_rfl) (fun _ _ _ h => h) ?hy (by assumption) ?_
    case hy => (intro w' hSw; have s0 := (show w'.cell? ⟨b, 0, none⟩ = some (.int .i64 n.id) from (O.keep (hSw.mono (Nat.le_refl _))).cell 0); (try dsimp only at s0); go_simp)
    try simp only [List.setIfInBounds_toArray, List.set_cons_zero, List.set_cons_succ]
    refine runG 8 (by kernel_rfl) rfl (by kernel_rfl) ?_
    go_simp
    refine (implAt_any a.va a.vc n.view n.id ⟨f1, f2, f3⟩ (.inl ⟨HRV.out, HFA.out.symm⟩) _ hlen (hrow.keep hHeld)).mono ?_
    rintro e z ⟨rfl, bz⟩
    unfold FactV.val
    have hH2 := hHeld.trans (bz.mono hHeld.size)
    refine ⟨hH2, ?_⟩
    try simp only [Act.put, List.setIfInBounds_toArray, List.set_cons_zero, List.set_cons_succ]
    refine takeG 9 (v := .int .i64 f3) rfl (by kernel_rfl) (by kernel_rfl) (by kernel_rfl) (by kernel_rfl) (fun _ _ _ h => h) ?hy (by assumption) ?_
    case hy => (intro w' hSw; go_simp)
    try simp only [List.setIfInBounds_toArray, List.set_cons_zero, List.set_cons_succ]
    refine takeG 10 (v := .bool false) rfl (by kernel_rfl) (by kernel_rfl) (by kernel_rfl) (by kernel_rfl) (fun _ _ _ h => h) ?hy (by assumption) ?_
    case hy => (intro w' hSw; go_simp)
    try simp only [List.setIfInBounds_toArray, List.set_cons_zero, List.set_cons_succ]
    refine takeG 11 (v := .bool false) rfl (by kernel_rfl) (by kernel_rfl) (by kernel_rfl) (by kernel_rfl) (fun _ _ _ h => h) ?hy (by assumption) ?_
    case hy => (intro w' hSw; go_simp)
    try simp only [List.setIfInBounds_toArray, List.set_cons_zero, List.set_cons_succ]
    refine wpAnyH_done (by kernel_rfl) ?_ _
    go_wp2_with fail
    go_ret
    exact ⟨rfl, hH2⟩
set_option maxHeartbeats 2000000 in
set_option maxRecDepth 100000 in
theorem others_any (T c b : Nat) (a : NodeM) (n : NodeV) (x y z0 : Value) (w : World) (hr : rightV n.view) (H : NodeSt T w c b a n x y z0) :
    Calls Tryz.prog 63 #[.pointer (some ⟨b, 0, none⟩)] w (LeftPost (othersM n) w) := by
  have HRV : Hid (rightV n.view) := hr
  have hrow := H.rows.nodeRows.v
  have hlen : n.view.length ≤ 1048576 := by have := rightV_len hr; omega
  have O : BlkIs w b T #[.int .i64 n.id, .int .i64 n.inc, .int .i64 n.num, .int .i64 n.seed, .int .i64 n.next, .slice a.va n.view.length a.vc, .slice a.ra n.rum.length a.rc, .slice a.ta n.tl.length a.tc, .int .i64 n.at0, .int .i64 n.pb.node, .int .i64 n.pb.num, .int .i64 n.pb.due, .bool n.pb.asked, .slice a.da n.db.length a.dc, x, y, z0] := H.blk
  have hlt := O.lt
  clear hr H
  go_enter Tryz.func63, Tryz.ntmps63
  go_upto_region 1 with fail
  refine wp_region_held_drew (S := (fun w' => Below w.heap.size w w')) (by kernel_rfl) ?hS0 (fun hHeld => ?_)
  case hS0 => exact (Below.refl _ _).drew
  refine takeG 0 (v := .pointer (some ⟨b, 0, none⟩)) rfl (by kernel_rfl) (by kernel_rfl) (by kernel_rfl) (by kernel_rfl) (fun _ _ _ h => h) ?hy (by assumption) ?_
  case hy => (intro w' hSw; go_simp)
  try simp only [List.setIfInBounds_toArray, List.set_cons_zero, List.set_cons_succ]
  refine takeG 1 (v := .pointer (some ⟨b, 0, none⟩)) rfl (by kernel_rfl) (by kernel_rfl) (by kernel_rfl) (by kernel_rfl) (fun _ _ _ h => h) ?hy (by assumption) ?_
  case hy => (intro w' hSw; go_simp)
  try simp only [List.setIfInBounds_toArray, List.set_cons_zero, List.set_cons_succ]
  refine takeG 2 (v := .pointer (some ⟨b, 5, none⟩)) rfl (by kernel_rfl) (by kernel_rfl) (by kernel_rfl) (by kernel_rfl) (fun _ _ _ h => h) ?hy (by assumption) ?_
  case hy => (intro w' hSw; go_simp)
  try simp only [List.setIfInBounds_toArray, List.set_cons_zero, List.set_cons_succ]
  refine takeG 3 (v := .slice a.va n.view.length a.vc) rfl (by kernel_rfl) (by kernel_rfl) (by kernel_rfl) (by kernel_rfl) (fun _ _ _ h => h) ?hy (by assumption) ?_
  case hy => (intro w' hSw; have s0 := (show w'.cell? ⟨b, 5, none⟩ = some (.slice a.va n.view.length a.vc) from (O.keep (hSw.mono (Nat.le_refl _))).cell 5); (try dsimp only at s0); go_simp)
  try simp only [List.setIfInBounds_toArray, List.set_cons_zero, List.set_cons_succ]
  refine takeG 5 (v := .pointer (some ⟨b, 0, none⟩)) rfl (by kernel_rfl) (by kernel_rfl) (by kernel_rfl) (by kernel_rfl) (fun _ _ _ h => h) ?hy (by assumption) ?_
  case hy => (intro w' hSw; go_simp)
  try simp only [List.setIfInBounds_toArray, List.set_cons_zero, List.set_cons_succ]
  refine takeG 6 (v := .pointer (some ⟨b, 0, none⟩)) rfl (by kernel_rfl) (by kernel_rfl) (by kernel_rfl) (by kernel_rfl) (fun _ _ _ h => h) ?hy (by assumption) ?_
  case hy => (intro w' hSw; go_simp)
  try simp only [List.setIfInBounds_toArray, List.set_cons_zero, List.set_cons_succ]
  refine takeG 7 (v := .pointer (some ⟨b, 0, none⟩)) rfl (by kernel_rfl) (by kernel_rfl) (by kernel_rfl) (by kernel_rfl) (fun _ _ _ h => h) ?hy (by assumption) ?_
  case hy => (intro w' hSw; go_simp)
  try simp only [List.setIfInBounds_toArray, List.set_cons_zero, List.set_cons_succ]
  refine takeG 8 (v := .int .i64 n.id) rfl (by kernel_rfl) (by kernel_rfl) (by kernel_rfl) (by kernel_rfl) (fun _ _ _ h => h) ?hy (by assumption) ?_
  case hy => (intro w' hSw; have s0 := (show w'.cell? ⟨b, 0, none⟩ = some (.int .i64 n.id) from (O.keep (hSw.mono (Nat.le_refl _))).cell 0); (try dsimp only at s0); go_simp)
  try simp only [List.setIfInBounds_toArray, List.set_cons_zero, List.set_cons_succ]
  refine runG 4 (by kernel_rfl) rfl (by kernel_rfl) ?_
  go_simp
  refine (implLeft_any a.va a.vc n.view (goneL n.view) (.inl ⟨HRV.out, rfl⟩) _ hlen (hrow.keep hHeld)).mono ?_
  rintro e z ⟨v1, rfl, o1, bz⟩
  obtain ⟨a1, c1, rfl, r1⟩ := own_nums o1
  have hH2 := hHeld.trans (bz.mono hHeld.size)
  refine ⟨hH2, ?_⟩
  try simp only [Act.put, List.setIfInBounds_toArray, List.set_cons_zero, List.set_cons_succ]
  refine runG 9 (by kernel_rfl) rfl (by kernel_rfl) ?_
  go_simp
  refine (implDrop_any a1 c1 (goneL n.view) n.id _ (by have := goneL_len n.view; omega) r1.row).mono ?_
  rintro e z2 ⟨v2, rfl, o2, bz2⟩
  have hH3 := hH2.trans (bz2.mono hH2.size)
  refine ⟨hH3, ?_⟩
  try simp only [Act.put, List.setIfInBounds_toArray, List.set_cons_zero, List.set_cons_succ]
  refine takeG 10 (v := v2) rfl (by kernel_rfl) (by kernel_rfl) (by kernel_rfl) (by kernel_rfl) (fun _ _ _ h => h) ?hy (by assumption) ?_
  case hy => (intro w' hSw; go_simp)
  try simp only [List.setIfInBounds_toArray, List.set_cons_zero, List.set_cons_succ]
  refine wpAnyH_done (by kernel_rfl) ?_ _
  go_wp2_with fail
  go_ret
  exact ⟨_, rfl, rowLe o2 hH2.size, hH3⟩
end Go.Proofs.YtmdcankfjmkkeaaGreat
