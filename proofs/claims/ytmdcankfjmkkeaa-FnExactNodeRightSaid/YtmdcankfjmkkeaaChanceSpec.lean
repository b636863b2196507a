/- The contracts of chapter 3's specification: what chance tells. -/
import Derived.Test.YtmdcankfjmkkeaaNums
import Derived.Test.YtmdcankfjmkkeaaPlainC
namespace Go.Proofs.Ytmdcankfjmkkeaa
open Go Go.RowKit
set_option linter.unusedVariables false

theorem l02Is_any (n low high : Int) (w : World) :
    Calls Try.prog 59 #[.int .i64 n, .int .i64 low, .int .i64 high] w fun e w' => e = .returned (.bool (decide (low ≤ n) && decide (n ≤ high))) ∧ w' = w := by
  by_cases h1 : low ≤ n
  · by_cases h2 : n ≤ high
    · have HD : Hid ((decide (low ≤ n) && decide (n ≤ high)) = true) := by show _ = _; simp [h1, h2]
      go_enter Try.func59, Try.ntmps59
      go_wp2
      go_ret
      exact ⟨ret_boolE HD.out.symm, rfl⟩
    · have HD : Hid ((decide (low ≤ n) && decide (n ≤ high)) = false) := by show _ = _; simp [h2]
      have hd2 : decide (n ≤ high) = false := decide_eq_false h2
      go_enter Try.func59, Try.ntmps59
      go_wp2
      go_ret
      first
        | exact ⟨ret_boolE HD.out.symm, rfl⟩
        | exact ⟨ret_boolE hd2.symm, rfl⟩
        | exact ⟨rfl, rfl⟩
  · have HD : Hid ((decide (low ≤ n) && decide (n ≤ high)) = false) := by show _ = _; simp [h1]
    go_enter Try.func59, Try.ntmps59
    go_wp2
    go_ret
    exact ⟨ret_boolE HD.out.symm, rfl⟩
theorem l02Seed_any (n : Int) (w : World) :
    Calls Try.prog 24 #[.int .i64 n] w fun e w' => e = .returned (.bool (decide (0 ≤ n) && decide (n ≤ 2147483647))) ∧ w' = w := by
  go_enter Try.func24, Try.ntmps24
  go_wp2_with fail
  refine (l02Is_any n 0 2147483647 _).mono ?_
  rintro e x1 ⟨rfl, rfl⟩
  go_wp2
  go_ret
  exact ⟨rfl, rfl⟩
theorem two_kept {w w2 : World} {x y : Value} {t : Nat} (hb : Below (w.alloc (.cells #[x, y] t)).heap.size (w.alloc (.cells #[x, y] t)) w2) :
    w2.cell? ⟨w.heap.size, 0, none⟩ = some x ∧ w2.cell? ⟨w.heap.size, 1, none⟩ = some y ∧ w2.frozen? ⟨w.heap.size, 0, none⟩ = false ∧ w2.frozen? ⟨w.heap.size, 1, none⟩ = false := by
  refine ⟨?_, ?_, ?_, ?_⟩
  · rw [hb.cell (by simp), World.cell?_alloc_at _ _ _ _ rfl]; rfl
  · rw [hb.cell (by simp), World.cell?_alloc_at _ _ _ _ rfl]; rfl
  · rw [hb.frozen (by simp)]; simp
  · rw [hb.frozen (by simp)]; simp
theorem two_below {w w2 : World} {x y : Value} (hb : Below w.heap.size w w2) : Below w.heap.size w ((w2.setCell ⟨w.heap.size, 0, none⟩ x).setCell ⟨w.heap.size, 1, none⟩ y) :=
  (hb.setCell (Nat.le_refl _) _).setCell (Nat.le_refl _) _
/-- What chance tells. -/
def chanceV (seed most : Int) : Int × Int := if (0 ≤ seed ∧ seed ≤ 2147483647) ∧ 1 ≤ most ∧ most ≤ 1000000 then (nextS seed, drawN seed most) else (0, 0)
def chanceOut (r : Int × Int) : Value := .agg #[.int .i64 r.1, .int .i64 r.2]
theorem chance_yes {seed most : Int} (h1 : (decide (0 ≤ seed) && decide (seed ≤ 2147483647)) = true) (h2 : (decide (1 ≤ most) && decide (most ≤ 1000000)) = true) : chanceV seed most = (nextS seed, drawN seed most) := by
  simp at h1 h2
  exact if_pos ⟨h1, h2⟩
theorem chance_no1 {seed most : Int} (h1 : (decide (0 ≤ seed) && decide (seed ≤ 2147483647)) = false) : chanceV seed most = (0, 0) := by
  simp at h1
  exact if_neg (fun h => by have := h1 h.1.1; omega)
theorem chance_no2 {seed most : Int} (h2 : (decide (1 ≤ most) && decide (most ≤ 1000000)) = false) : chanceV seed most = (0, 0) := by
  simp at h2
  exact if_neg (fun h => by have := h2 h.2.1; omega)
end Go.Proofs.Ytmdcankfjmkkeaa
