/- The contracts of what is right of a queue: the program's and the specification's. -/
import Derived.Test.YtlnkcbojoaoehaaQOrd
namespace Go.Proofs.Ytlnkcbojoaoehaa
open Go Go.RowKit
set_option linter.unusedVariables false

/-- An answer that tells whether p. -/
def Tells (p : Prop) (e : Ending) : Prop := ∃ r : Bool, e = .returned (.bool r) ∧ (r = true ↔ p)
theorem Tells.yes {p : Prop} (h : p) : Tells p (.returned (.bool true)) := ⟨true, rfl, by simp [h]⟩
theorem Tells.no {p : Prop} (h : ¬ p) : Tells p (.returned (.bool false)) := ⟨false, rfl, by simp [h]⟩
theorem timeRight_any (n : Int) (w : World) : Calls Try.prog 64 #[.int .i64 n] w fun e w' => Tells (timeR n) e ∧ w = w' := by
  by_cases h0 : 0 ≤ n
  · by_cases h1 : n ≤ 1000000
    · have HR : Hid (timeR n) := ⟨h0, h1⟩
      go_enter Try.func64, Try.ntmps64
      go_wp2
      go_ret
      exact ⟨.yes HR.out, rfl⟩
    · have HR : Hid (¬ timeR n) := fun h => h1 h.2
      go_enter Try.func64, Try.ntmps64
      go_wp2
      go_ret
      exact ⟨.no HR.out, rfl⟩
  · have HR : Hid (¬ timeR n) := fun h => h0 h.1
    go_enter Try.func64, Try.ntmps64
    go_wp2
    go_ret
    exact ⟨.no HR.out, rfl⟩
/-- A number between two. -/
def isIn (n lo hi : Int) : Prop := lo ≤ n ∧ n ≤ hi
theorem is_any (n lo hi : Int) (w : World) : Calls Try.prog 63 #[.int .i64 n, .int .i64 lo, .int .i64 hi] w fun e w' => Tells (isIn n lo hi) e ∧ w = w' := by
  by_cases h0 : lo ≤ n
  · by_cases h1 : n ≤ hi
    · have HR : Hid (isIn n lo hi) := ⟨h0, h1⟩
      go_enter Try.func63, Try.ntmps63
      go_wp2
      go_ret
      exact ⟨.yes HR.out, rfl⟩
    · have HR : Hid (¬ isIn n lo hi) := fun h => h1 h.2
      go_enter Try.func63, Try.ntmps63
      go_wp2
      go_ret
      exact ⟨.no HR.out, rfl⟩
  · have HR : Hid (¬ isIn n lo hi) := fun h => h0 h.1
    go_enter Try.func63, Try.ntmps63
    go_wp2
    go_ret
    exact ⟨.no HR.out, rfl⟩
theorem specTime_any (n : Int) (w : World) : Calls Try.prog 62 #[.int .i64 n] w fun e w' => Tells (timeR n) e ∧ w = w' := by
  go_enter Try.func62, Try.ntmps62
  go_wp2_with fail
  refine (is_any n 0 1000000 _).mono ?_
  rintro e w' ⟨⟨r, rfl, hr⟩, rfl⟩
  have HR : Hid (r = true ↔ timeR n) := hr
  clear hr
  go_wp2
  go_ret
  exact ⟨⟨r, rfl, HR.out⟩, rfl⟩
set_option maxHeartbeats 1000000 in
set_option maxRecDepth 100000 in
theorem dueRight_any (d : DueV) (w : World) : Calls Try.prog 44 #[d.val] w fun e w' => Tells d.ok e ∧ Below w.heap.size w w' := by
  obtain ⟨x1, x2, x3, x4⟩ := d
  have HO : Hid (DueV.ok ⟨x1, x2, x3, x4⟩ ↔ (timeR x1 ∧ timeR x2 ∧ (0 ≤ x3 ∧ x3 ≤ 99) ∧ x4.size ≤ 400)) := Iff.rfl
  have b1 := (Below.refl w.heap.size w).alloc (Nat.le_refl _) (.cells #[.int .i64 x1, .int .i64 x2, .int .i64 x3, .string x4] 25)
  unfold DueV.val
  go_enter Try.func44, Try.ntmps44
  go_wp2_with fail
  refine (timeRight_any x1 _).mono ?_
  rintro e w' ⟨⟨r1, rfl, h1⟩, rfl⟩
  have H1 : Hid (r1 = true ↔ timeR x1) := h1
  clear h1
  cases r1 with
  | false =>
    go_wp2
    go_ret
    exact ⟨.no (fun h => by have := H1.out.2 (HO.out.1 h).1; cases this), b1⟩
  | true =>
    have T1 : Hid (timeR x1) := H1.out.1 rfl
    go_wp2_with fail
    refine (timeRight_any x2 _).mono ?_
    rintro e w' ⟨⟨r2, rfl, h2⟩, rfl⟩
    have H2 : Hid (r2 = true ↔ timeR x2) := h2
    clear h2
    cases r2 with
    | false =>
      go_wp2
      go_ret
      exact ⟨.no (fun h => by have := H2.out.2 (HO.out.1 h).2.1; cases this), b1⟩
    | true =>
      have T2 : Hid (timeR x2) := H2.out.1 rfl
      by_cases h3 : 0 ≤ x3
      · by_cases h4 : x3 ≤ 99
        · go_wp2
          go_ret
          exact ⟨⟨_, rfl, by rw [HO.out]; simp [T1.out, T2.out, h3, h4]; omega⟩, b1⟩
        · go_wp2
          go_ret
          exact ⟨.no (fun h => by have := (HO.out.1 h).2.2.1; omega), b1⟩
      · go_wp2
        go_ret
        exact ⟨.no (fun h => by have := (HO.out.1 h).2.2.1; omega), b1⟩
set_option maxHeartbeats 1000000 in
set_option maxRecDepth 100000 in
theorem specDue_any (d : DueV) (w : World) : Calls Try.prog 41 #[d.val] w fun e w' => Tells d.ok e ∧ Below w.heap.size w w' := by
  obtain ⟨x1, x2, x3, x4⟩ := d
  have HO : Hid (DueV.ok ⟨x1, x2, x3, x4⟩ ↔ (timeR x1 ∧ timeR x2 ∧ (0 ≤ x3 ∧ x3 ≤ 99) ∧ x4.size ≤ 400)) := Iff.rfl
  have b1 := (Below.refl w.heap.size w).alloc (Nat.le_refl _) (.cells #[.int .i64 x1, .int .i64 x2, .int .i64 x3, .string x4] 25)
  unfold DueV.val
  go_enter Try.func41, Try.ntmps41
  go_wp2_with fail
  refine (specTime_any x1 _).mono ?_
  rintro e w' ⟨⟨r1, rfl, h1⟩, rfl⟩
  have H1 : Hid (r1 = true ↔ timeR x1) := h1
  clear h1
  cases r1 with
  | false =>
    go_wp2
    go_ret
    exact ⟨.no (fun h => by have := H1.out.2 (HO.out.1 h).1; cases this), b1⟩
  | true =>
    have T1 : Hid (timeR x1) := H1.out.1 rfl
    go_wp2_with fail
    refine (specTime_any x2 _).mono ?_
    rintro e w' ⟨⟨r2, rfl, h2⟩, rfl⟩
    have H2 : Hid (r2 = true ↔ timeR x2) := h2
    clear h2
    cases r2 with
    | false =>
      go_wp2
      go_ret
      exact ⟨.no (fun h => by have := H2.out.2 (HO.out.1 h).2.1; cases this), b1⟩
    | true =>
      have T2 : Hid (timeR x2) := H2.out.1 rfl
      go_wp2_with fail
      refine (is_any x3 0 99 _).mono ?_
      rintro e w' ⟨⟨r3, rfl, h3⟩, rfl⟩
      have H3 : Hid (r3 = true ↔ isIn x3 0 99) := h3
      clear h3
      cases r3 with
      | false =>
        go_wp2
        go_ret
        exact ⟨.no (fun h => by have := H3.out.2 (HO.out.1 h).2.2.1; cases this), b1⟩
      | true =>
        have T3 : Hid (isIn x3 0 99) := H3.out.1 rfl
        go_wp2
        go_ret
        exact ⟨⟨_, rfl, by rw [HO.out]; simp [T1.out, T2.out, T3.out.1, T3.out.2]; omega⟩, b1⟩
set_option maxHeartbeats 1000000 in
set_option maxRecDepth 100000 in
theorem specLess_any (x y : DueV) (w : World) : Calls Try.prog 46 #[x.val, y.val] w fun e w' => Tells (x.lt y) e ∧ Below w.heap.size w w' := by
  obtain ⟨x1, x2, x3, x4⟩ := x
  obtain ⟨y1, y2, y3, y4⟩ := y
  unfold DueV.val
  have HO : Hid (DueV.lt ⟨x1, x2, x3, x4⟩ ⟨y1, y2, y3, y4⟩ ↔ (x1 < y1 ∨ (x1 = y1 ∧ x2 < y2))) := Iff.rfl
  have b1 := ((Below.refl w.heap.size w).alloc (Nat.le_refl _) (.cells #[.int .i64 x1, .int .i64 x2, .int .i64 x3, .string x4] 25)).alloc (by simp) (.cells #[.int .i64 y1, .int .i64 y2, .int .i64 y3, .string y4] 25)
  by_cases h1 : x1 < y1
  · go_enter Try.func46, Try.ntmps46
    go_wp2
    go_ret
    exact ⟨.yes (HO.out.2 (.inl h1)), b1⟩
  · by_cases h2 : x1 = y1
    · subst h2
      go_enter Try.func46, Try.ntmps46
      go_wp2
      go_ret
      exact ⟨⟨_, rfl, by rw [HO.out]; simp⟩, b1⟩
    · have h2' : (x1 == y1) = false := beq_eq_false_iff_ne.2 h2
      go_enter Try.func46, Try.ntmps46
      go_wp2
      go_ret
      exact ⟨.no (fun h => by have := HO.out.1 h; omega), b1⟩
end Go.Proofs.Ytlnkcbojoaoehaa
