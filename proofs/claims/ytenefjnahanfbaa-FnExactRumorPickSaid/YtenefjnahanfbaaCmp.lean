/- What cmp.Compare tells of two numbers. -/
import Derived.Test.YtenefjnahanfbaaTimeR
namespace Go.Proofs.Ytenefjnahanfbaa
open Go Go.RowKit
set_option linter.unusedVariables false

def ordI (a b : Int) : Int := if a < b then -1 else if b < a then 1 else 0
theorem ordI_cases (a b : Int) : (ordI a b = -1 ∧ a < b) ∨ (ordI a b = 1 ∧ b < a) ∨ (ordI a b = 0 ∧ a = b) := by
  unfold ordI
  by_cases h : a < b
  · exact .inl ⟨if_pos h, h⟩
  · by_cases k : b < a
    · exact .inr (.inl ⟨by rw [if_neg h, if_pos k], k⟩)
    · exact .inr (.inr ⟨by rw [if_neg h, if_neg k], by omega⟩)
theorem ordI_neg {a b : Int} : ordI a b < 0 ↔ a < b := by rcases ordI_cases a b with ⟨h, k⟩ | ⟨h, k⟩ | ⟨h, k⟩ <;> rw [h] <;> omega
theorem ordI_zero {a b : Int} : ordI a b = 0 ↔ a = b := by rcases ordI_cases a b with ⟨h, k⟩ | ⟨h, k⟩ | ⟨h, k⟩ <;> rw [h] <;> omega
theorem isNaN_any (a : Int) (w : World) : Calls Try.prog 66 #[.int .i64 a] w fun e w' => e = .returned (.bool false) ∧ w = w' := by
  go_enter Try.func66, Try.ntmps66
  go_wp2
  go_ret
  exact ⟨by simp, rfl⟩
theorem compare_any (a b : Int) (w : World) : Calls Try.prog 61 #[.int .i64 a, .int .i64 b] w fun e w' => e = .returned (.int .i64 (ordI a b)) ∧ w = w' := by
  rcases ordI_cases a b with ⟨h, k⟩ | ⟨h, k⟩ | ⟨h, k⟩
  · have HH : Hid (ordI a b = -1) := h
    clear h
    go_enter Try.func61, Try.ntmps61
    go_wp2_with (go_at_call 66; refine (isNaN_any _ _).mono ?_; rintro e w' ⟨rfl, rfl⟩)
    go_ret
    exact ⟨by rw [HH.out]; rfl, rfl⟩
  · have HH : Hid (ordI a b = 1) := h
    have k2 : ¬ a < b := by omega
    clear h
    go_enter Try.func61, Try.ntmps61
    go_wp2_with (go_at_call 66; refine (isNaN_any _ _).mono ?_; rintro e w' ⟨rfl, rfl⟩)
    go_ret
    exact ⟨by rw [HH.out]; rfl, rfl⟩
  · subst k
    have HH : Hid (ordI a a = 0) := h
    clear h
    go_enter Try.func61, Try.ntmps61
    go_wp2_with (go_at_call 66; refine (isNaN_any _ _).mono ?_; rintro e w' ⟨rfl, rfl⟩)
    go_ret
    exact ⟨by rw [HH.out]; rfl, rfl⟩
end Go.Proofs.Ytenefjnahanfbaa
