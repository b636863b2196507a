/- The contracts of the specification's ItemRight. -/
import Derived.Test.YtddlccepgeekcaaDoorItBlk
import Derived.Test.YtddlccepgeekcaaDoorReg
namespace Go.Proofs.YtddlccepgeekcaaDoor
open Go Go.RowKit
set_option linter.unusedVariables false
set_option linter.unusedSimpArgs false

/-- The least and the greatest A of a kind. -/
def lowA (k : Int) : Int := if k = 1 ∨ k = 2 ∨ k = 7 ∨ k = 3 then 1 else 0
def highA (k : Int) : Int := if k = 1 ∨ k = 2 ∨ k = 7 then 6 else if k = 3 then 63 else if k = 5 then 100 else if k = 6 ∨ k = 8 then 9 else 0
theorem ok_parts (k t a b : Int) (hk : 1 ≤ k ∧ k ≤ 9) (ht : 0 ≤ t ∧ t ≤ 2000) (h9 : k = 9 → t = 0) : ItemV.ok ⟨k, t, a, b⟩ ↔ (lowA k ≤ a ∧ a ≤ highA k) ∧ (if k = 8 then 0 ≤ b ∧ b ≤ 500 else b = 0) := by
  unfold ItemV.ok ItemV.aR ItemV.bR lowA highA
  dsimp only
  obtain h | h | h | h | h | h | h | h | h : k = 1 ∨ k = 2 ∨ k = 3 ∨ k = 4 ∨ k = 5 ∨ k = 6 ∨ k = 7 ∨ k = 8 ∨ k = 9 := by omega
  all_goals
    subst h
    simp
    omega
set_option maxHeartbeats 2000000 in
set_option maxRecDepth 100000 in
theorem specItem_any (d : ItemV) (w : World) : Calls Tryd.prog 17 #[d.val] w fun e w' => Tells d.ok e ∧ Below w.heap.size w w' := by
  obtain ⟨x1, x2, x3, x4⟩ := d
  have P0 := BlkIs.new w 32 #[.int .i64 x1, .int .i64 x2, .int .i64 x3, .int .i64 x4]
  have B0 := (Below.refl w.heap.size w).alloc (Nat.le_refl _) (.cells #[.int .i64 x1, .int .i64 x2, .int .i64 x3, .int .i64 x4] 32)
  have HO := ok_parts x1 x2 x3 x4
  unfold ItemV.val
  obtain ⟨W, hW⟩ : ∃ W, w.alloc (.cells #[.int .i64 x1, .int .i64 x2, .int .i64 x3, .int .i64 x4] 32) = W := ⟨_, rfl⟩
  rw [hW] at P0 B0
  have HP : Hid (∀ hk : 1 ≤ x1 ∧ x1 ≤ 9, ∀ ht : 0 ≤ x2 ∧ x2 ≤ 2000, ∀ h9 : x1 = 9 → x2 = 0, (ItemV.ok ⟨x1, x2, x3, x4⟩ ↔ (lowA x1 ≤ x3 ∧ x3 ≤ highA x1) ∧ (if x1 = 8 then 0 ≤ x4 ∧ x4 ≤ 500 else x4 = 0))) := HO
  have HN1 : Hid (¬ (1 ≤ x1 ∧ x1 ≤ 9) → ¬ ItemV.ok ⟨x1, x2, x3, x4⟩) := fun h k => by
    unfold ItemV.ok ItemV.aR at k
    dsimp only at k
    omega
  have HN2 : Hid (¬ (0 ≤ x2 ∧ x2 ≤ 2000) → ¬ ItemV.ok ⟨x1, x2, x3, x4⟩) := fun h k => by
    unfold ItemV.ok at k
    dsimp only at k
    omega
  have HN3 : Hid (x1 = 9 → ¬ x2 = 0 → ¬ ItemV.ok ⟨x1, x2, x3, x4⟩) := fun h h' k => by
    unfold ItemV.ok at k
    dsimp only at k
    omega
  have c0 : W.cell? ⟨w.heap.size, 0, none⟩ = some (.int .i64 x1) := P0.cell 0
  have c1 : W.cell? ⟨w.heap.size, 1, none⟩ = some (.int .i64 x2) := P0.cell 1
  have c2 : W.cell? ⟨w.heap.size, 2, none⟩ = some (.int .i64 x3) := P0.cell 2
  have c3 : W.cell? ⟨w.heap.size, 3, none⟩ = some (.int .i64 x4) := P0.cell 3
  have HW : Hid (_ = W) := hW
  clear hW HO P0
  go_enter Tryd.func17, Tryd.ntmps17
  go_upto_region 1 with fail
  rw [HW.out]
  clear HW
  go_wp2_with fail
  refine (is_any x1 1 9 _).mono ?_
  rintro e w1 ⟨⟨r1, rfl, h1⟩, rfl⟩
  have H1 : Hid (r1 = true ↔ isIn x1 1 9) := h1
  clear h1
  cases r1 with
  | false =>
    go_wp2
    go_ret
    exact ⟨.no (HN1.out (fun h => by have := H1.out.2 h; cases this)), B0⟩
  | true =>
  have T1 : Hid (isIn x1 1 9) := H1.out.1 rfl
  clear H1 HN1
  go_wp2_with fail
  refine (is_any x2 0 2000 _).mono ?_
  rintro e w2 ⟨⟨r2, rfl, h2⟩, rfl⟩
  have H2 : Hid (r2 = true ↔ isIn x2 0 2000) := h2
  clear h2
  cases r2 with
  | false =>
    go_wp2
    go_ret
    exact ⟨.no (HN2.out (fun h => by have := H2.out.2 h; cases this)), B0⟩
  | true =>
  have T2 : Hid (isIn x2 0 2000) := H2.out.1 rfl
  clear H2 HN2
  by_cases hz : x1 = 9 ∧ ¬ x2 = 0
  · obtain ⟨h9, h0⟩ := hz
    subst h9
    have HN : Hid (¬ ItemV.ok ⟨9, x2, x3, x4⟩) := HN3.out rfl h0
    clear HN3 HP
    go_wp2
    go_ret
    exact ⟨.no HN.out, B0⟩
  have HQ : Hid (ItemV.ok ⟨x1, x2, x3, x4⟩ ↔ (lowA x1 ≤ x3 ∧ x3 ≤ highA x1) ∧ (if x1 = 8 then 0 ≤ x4 ∧ x4 ≤ 500 else x4 = 0)) := HP.out T1.out T2.out (fun h => by omega)
  have hk : x1 = 1 ∨ x1 = 2 ∨ x1 = 3 ∨ x1 = 4 ∨ x1 = 5 ∨ x1 = 6 ∨ x1 = 7 ∨ x1 = 8 ∨ x1 = 9 := by have := T1.out; unfold isIn at this; omega
  clear HP HN3 T1 T2
  rcases hk with h | h | h | h | h | h | h | h | h
  · subst h
    have HL : Hid (ItemV.ok ⟨1, x2, x3, x4⟩ ↔ isIn x3 1 6 ∧ x4 = 0) := HQ.out
    clear HQ hz
    go_wp2_with fail
    refine (is_any x3 1 6 _).mono ?_
    rintro e w3 ⟨⟨r3, rfl, h3⟩, rfl⟩
    have H3 : Hid (r3 = true ↔ isIn x3 1 6) := h3
    clear h3
    cases r3 with
    | false =>
      go_wp2
      go_ret
      exact ⟨.no (fun h => by have := H3.out.2 (HL.out.1 h).1; cases this), B0⟩
    | true =>
      have T3 : Hid (isIn x3 1 6) := H3.out.1 rfl
      clear H3
      go_wp2
      go_ret
      exact ⟨⟨_, rfl, by rw [HL.out]; simp [T3.out]⟩, B0⟩
  · subst h
    have HL : Hid (ItemV.ok ⟨2, x2, x3, x4⟩ ↔ isIn x3 1 6 ∧ x4 = 0) := HQ.out
    clear HQ hz
    go_wp2_with fail
    refine (is_any x3 1 6 _).mono ?_
    rintro e w3 ⟨⟨r3, rfl, h3⟩, rfl⟩
    have H3 : Hid (r3 = true ↔ isIn x3 1 6) := h3
    clear h3
    cases r3 with
    | false =>
      go_wp2
      go_ret
      exact ⟨.no (fun h => by have := H3.out.2 (HL.out.1 h).1; cases this), B0⟩
    | true =>
      have T3 : Hid (isIn x3 1 6) := H3.out.1 rfl
      clear H3
      go_wp2
      go_ret
      exact ⟨⟨_, rfl, by rw [HL.out]; simp [T3.out]⟩, B0⟩
  · subst h
    have HL : Hid (ItemV.ok ⟨3, x2, x3, x4⟩ ↔ isIn x3 1 63 ∧ x4 = 0) := HQ.out
    clear HQ hz
    go_wp2_with fail
    refine (is_any x3 1 63 _).mono ?_
    rintro e w3 ⟨⟨r3, rfl, h3⟩, rfl⟩
    have H3 : Hid (r3 = true ↔ isIn x3 1 63) := h3
    clear h3
    cases r3 with
    | false =>
      go_wp2
      go_ret
      exact ⟨.no (fun h => by have := H3.out.2 (HL.out.1 h).1; cases this), B0⟩
    | true =>
      have T3 : Hid (isIn x3 1 63) := H3.out.1 rfl
      clear H3
      go_wp2
      go_ret
      exact ⟨⟨_, rfl, by rw [HL.out]; simp [T3.out]⟩, B0⟩
  · subst h
    have HL : Hid (ItemV.ok ⟨4, x2, x3, x4⟩ ↔ isIn x3 0 0 ∧ x4 = 0) := HQ.out
    clear HQ hz
    go_wp2_with fail
    refine (is_any x3 0 0 _).mono ?_
    rintro e w3 ⟨⟨r3, rfl, h3⟩, rfl⟩
    have H3 : Hid (r3 = true ↔ isIn x3 0 0) := h3
    clear h3
    cases r3 with
    | false =>
      go_wp2
      go_ret
      exact ⟨.no (fun h => by have := H3.out.2 (HL.out.1 h).1; cases this), B0⟩
    | true =>
      have T3 : Hid (isIn x3 0 0) := H3.out.1 rfl
      clear H3
      go_wp2
      go_ret
      exact ⟨⟨_, rfl, by rw [HL.out]; simp [T3.out]⟩, B0⟩
  · subst h
    have HL : Hid (ItemV.ok ⟨5, x2, x3, x4⟩ ↔ isIn x3 0 100 ∧ x4 = 0) := HQ.out
    clear HQ hz
    go_wp2_with fail
    refine (is_any x3 0 100 _).mono ?_
    rintro e w3 ⟨⟨r3, rfl, h3⟩, rfl⟩
    have H3 : Hid (r3 = true ↔ isIn x3 0 100) := h3
    clear h3
    cases r3 with
    | false =>
      go_wp2
      go_ret
      exact ⟨.no (fun h => by have := H3.out.2 (HL.out.1 h).1; cases this), B0⟩
    | true =>
      have T3 : Hid (isIn x3 0 100) := H3.out.1 rfl
      clear H3
      go_wp2
      go_ret
      exact ⟨⟨_, rfl, by rw [HL.out]; simp [T3.out]⟩, B0⟩
  · subst h
    have HL : Hid (ItemV.ok ⟨6, x2, x3, x4⟩ ↔ isIn x3 0 9 ∧ x4 = 0) := HQ.out
    clear HQ hz
    go_wp2_with fail
    refine (is_any x3 0 9 _).mono ?_
    rintro e w3 ⟨⟨r3, rfl, h3⟩, rfl⟩
    have H3 : Hid (r3 = true ↔ isIn x3 0 9) := h3
    clear h3
    cases r3 with
    | false =>
      go_wp2
      go_ret
      exact ⟨.no (fun h => by have := H3.out.2 (HL.out.1 h).1; cases this), B0⟩
    | true =>
      have T3 : Hid (isIn x3 0 9) := H3.out.1 rfl
      clear H3
      go_wp2
      go_ret
      exact ⟨⟨_, rfl, by rw [HL.out]; simp [T3.out]⟩, B0⟩
  · subst h
    have HL : Hid (ItemV.ok ⟨7, x2, x3, x4⟩ ↔ isIn x3 1 6 ∧ x4 = 0) := HQ.out
    clear HQ hz
    go_wp2_with fail
    refine (is_any x3 1 6 _).mono ?_
    rintro e w3 ⟨⟨r3, rfl, h3⟩, rfl⟩
    have H3 : Hid (r3 = true ↔ isIn x3 1 6) := h3
    clear h3
    cases r3 with
    | false =>
      go_wp2
      go_ret
      exact ⟨.no (fun h => by have := H3.out.2 (HL.out.1 h).1; cases this), B0⟩
    | true =>
      have T3 : Hid (isIn x3 1 6) := H3.out.1 rfl
      clear H3
      go_wp2
      go_ret
      exact ⟨⟨_, rfl, by rw [HL.out]; simp [T3.out]⟩, B0⟩
  · subst h
    have HL : Hid (ItemV.ok ⟨8, x2, x3, x4⟩ ↔ isIn x3 0 9 ∧ isIn x4 0 500) := HQ.out
    clear HQ hz
    go_wp2_with fail
    refine (is_any x3 0 9 _).mono ?_
    rintro e w3 ⟨⟨r3, rfl, h3⟩, rfl⟩
    have H3 : Hid (r3 = true ↔ isIn x3 0 9) := h3
    clear h3
    cases r3 with
    | false =>
      go_wp2
      go_ret
      exact ⟨.no (fun h => by have := H3.out.2 (HL.out.1 h).1; cases this), B0⟩
    | true =>
      have T3 : Hid (isIn x3 0 9) := H3.out.1 rfl
      clear H3
      go_wp2_with fail
      refine (is_any x4 0 500 _).mono ?_
      rintro e w4 ⟨⟨r4, rfl, h4⟩, rfl⟩
      have H4 : Hid (r4 = true ↔ isIn x4 0 500) := h4
      clear h4
      go_wp2
      go_ret
      exact ⟨⟨r4, rfl, by rw [HL.out, H4.out]; exact ⟨fun h => ⟨T3.out, h⟩, fun h => h.2⟩⟩, B0⟩
  · subst h
    obtain rfl : x2 = 0 := by omega
    have HL : Hid (ItemV.ok ⟨9, 0, x3, x4⟩ ↔ isIn x3 0 0 ∧ x4 = 0) := HQ.out
    clear HQ hz
    go_wp2_with fail
    refine (is_any x3 0 0 _).mono ?_
    rintro e w3 ⟨⟨r3, rfl, h3⟩, rfl⟩
    have H3 : Hid (r3 = true ↔ isIn x3 0 0) := h3
    clear h3
    cases r3 with
    | false =>
      go_wp2
      go_ret
      exact ⟨.no (fun h => by have := H3.out.2 (HL.out.1 h).1; cases this), B0⟩
    | true =>
      have T3 : Hid (isIn x3 0 0) := H3.out.1 rfl
      clear H3
      go_wp2
      go_ret
      exact ⟨⟨_, rfl, by rw [HL.out]; simp [T3.out]⟩, B0⟩
theorem specItem_is (d : ItemV) (w : World) (r : Bool) (hr : r = true ↔ d.ok) : Calls Tryd.prog 17 #[d.val] w fun e w' => e = .returned (.bool r) ∧ Below w.heap.size w w' :=
  (specItem_any d w).mono fun e w' ⟨h, hb⟩ => ⟨h.is hr, hb⟩
end Go.Proofs.YtddlccepgeekcaaDoor
