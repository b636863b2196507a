/- The contracts of NameRight: the specification's and the program's answer the same plain function, nameB. -/
import Derived.Test.YtgngegammingoaaChecked
import Derived.Test.YtgngegammingoaaPlain1
import Derived.WalkKit
import Derived.WalkLawsBesides
import Derived.WalkSpells
namespace Go.Proofs.Ytgngegammingoaa
open Go Go.RowKit

def letB (c : UInt8) : Bool := decide (97 ≤ (c.toNat : Int)) && decide ((c.toNat : Int) ≤ 122)
def digB (c : UInt8) : Bool := decide (48 ≤ (c.toNat : Int)) && decide ((c.toNat : Int) ≤ 57)
theorem letter_any (c : UInt8) (w : World) : Calls Try.prog 24 #[.int .u8 c.toNat] w fun e w' => e = .returned (.bool (letB c)) ∧ w = w' := by
  by_cases h : 97 ≤ (c.toNat : Int)
  all_goals
    go_enter Try.func24, Try.ntmps24
    go_wp2
    go_ret
    exact ⟨ret_bool (by simp [letB]; omega), rfl⟩
theorem digit_any (c : UInt8) (w : World) : Calls Try.prog 25 #[.int .u8 c.toNat] w fun e w' => e = .returned (.bool (digB c)) ∧ w = w' := by
  by_cases h : 48 ≤ (c.toNat : Int)
  all_goals
    go_enter Try.func25, Try.ntmps25
    go_wp2
    go_ret
    exact ⟨ret_bool (by simp [digB]; omega), rfl⟩

theorem specName_any (s : ByteArray) (w : World) (hs : s.size ≤ maxLen) :
    Calls Try.prog 13 #[.string s] w fun e w' => e = .returned (.bool (nameB s)) ∧ w = w' := by
  unfold maxLen at hs
  by_cases h1 : s.size < 1
  · have h1' : (s.size : Int) < 1 := by omega
    go_enter Try.func13, Try.ntmps13
    go_wp2
    go_ret
    exact ⟨ret_bool (nameB_size (.inl h1)).symm, rfl⟩
  by_cases h2 : 20 < s.size
  · have h1' : ¬ (s.size : Int) < 1 := by omega
    have h2' : 20 < (s.size : Int) := by omega
    go_enter Try.func13, Try.ntmps13
    go_wp2
    go_ret
    exact ⟨ret_bool (nameB_size (.inr h2)).symm, rfl⟩
  have h1' : ¬ (s.size : Int) < 1 := by omega
  have h2' : ¬ 20 < (s.size : Int) := by omega
  go_enter Try.func13, Try.ntmps13
  go_wp2
  go_loop [3, 4] (fun i _ => ∃ k : Nat, k ≤ s.size ∧ i = .int .i64 k ∧ nameTo s k) (fun i _ => s.size - (intOf i).toNat)
  case atStart => exact ⟨0, Nat.zero_le _, rfl, nameTo_zero s⟩
  case round =>
    obtain ⟨k, hk, rfl, hok⟩ := hrel
    by_cases hlt : k < s.size
    · rcases byteCases (s[k].toNat : Int) with ⟨a, b⟩ | a | ⟨a, b⟩ | a | a | ⟨a, b⟩ | a
      all_goals
        rcases Nat.eq_zero_or_pos k with hk0 | hk0
        · subst hk0
          go_wp2
          all_goals first
            | (rename_i hh; exfalso; simp at hh; omega)
            | (go_ret; exact ⟨ret_bool (nameB_false hlt (nameCh_false (by omega))).symm, rfl⟩)
            | exact ⟨⟨1, by omega, rfl, nameTo_succ hlt hok (nameCh_true (by omega))⟩, by simp [intOf]; omega⟩
        · have hk1 : ((k : Int) == 0) = false := by simp; omega
          go_wp2
          all_goals first
            | (rename_i hh; exfalso; simp at hh; omega)
            | (go_ret; exact ⟨ret_bool (nameB_false hlt (nameCh_false (by omega))).symm, rfl⟩)
            | exact ⟨⟨k + 1, by omega, by go_num, nameTo_succ hlt hok (nameCh_true (by omega))⟩, by simp [intOf]; omega⟩
    · obtain rfl : k = s.size := by omega
      go_wp2
      go_ret
      exact ⟨ret_bool (nameB_true (by omega) (by omega) hok).symm, rfl⟩

theorem implName_any (s : ByteArray) (w : World) (hs : s.size ≤ maxLen) :
    Calls Try.prog 14 #[.string s] w fun e w' => e = .returned (.bool (nameB s)) ∧ w = w' := by
  unfold maxLen at hs
  by_cases h1 : s.size < 1
  · have h1' : (s.size : Int) < 1 := by omega
    go_enter Try.func14, Try.ntmps14
    go_wp2
    go_ret
    exact ⟨ret_bool (nameB_size (.inl h1)).symm, rfl⟩
  by_cases h2 : 20 < s.size
  · have h1' : ¬ (s.size : Int) < 1 := by omega
    have h2' : 20 < (s.size : Int) := by omega
    go_enter Try.func14, Try.ntmps14
    go_wp2
    go_ret
    exact ⟨ret_bool (nameB_size (.inr h2)).symm, rfl⟩
  have h1' : ¬ (s.size : Int) < 1 := by omega
  have h2' : ¬ 20 < (s.size : Int) := by omega
  have h0 : 0 < s.size := by omega
  cases hl : letB s[0] with
  | false =>
    go_enter Try.func14, Try.ntmps14
    go_wp2_with (go_at_call 24; refine (letter_any _ _).mono ?_; rintro e w' ⟨rfl, rfl⟩)
    go_ret
    exact ⟨ret_bool (nameB_false h0 (nameCh_false (by simp [letB] at hl; omega))).symm, rfl⟩
  | true =>
    go_enter Try.func14, Try.ntmps14
    go_wp2_with (go_at_call 24; refine (letter_any _ _).mono ?_; rintro e w' ⟨rfl, rfl⟩)
    go_loop [20, 3] (fun i _ => ∃ k : Nat, k ≤ s.size ∧ i = .int .i64 k ∧ nameTo s k) (fun i _ => s.size - (intOf i).toNat)
    case atStart => exact ⟨0, Nat.zero_le _, rfl, nameTo_zero s⟩
    case round =>
      obtain ⟨k, hk, rfl, hok⟩ := hrel
      by_cases hlt : k < s.size
      · cases hlk : letB s[k] with
        | true =>
          go_wp2_with (first | (go_at_call 24; refine (letter_any _ _).mono ?_; rintro e w' ⟨rfl, rfl⟩) | (go_at_call 25; refine (digit_any _ _).mono ?_; rintro e w' ⟨rfl, rfl⟩))
          exact ⟨⟨k + 1, by omega, by go_num, nameTo_succ hlt hok (nameCh_true (by simp [letB] at hlk; omega))⟩, by simp [intOf]; omega⟩
        | false =>
          have hk0 : 0 < k := by
            rcases Nat.eq_zero_or_pos k with e | e
            · subst e; rw [hl] at hlk; exact absurd hlk (by decide)
            · exact e
          cases hdk : digB s[k] with
          | true =>
            go_wp2_with (first | (go_at_call 24; refine (letter_any _ _).mono ?_; rintro e w' ⟨rfl, rfl⟩) | (go_at_call 25; refine (digit_any _ _).mono ?_; rintro e w' ⟨rfl, rfl⟩))
            exact ⟨⟨k + 1, by omega, by go_num, nameTo_succ hlt hok (nameCh_true (by simp [digB] at hdk; omega))⟩, by simp [intOf]; omega⟩
          | false =>
            by_cases hu : (s[k].toNat : Int) = 95
            · have hu' : ((s[k].toNat : Int) != 95) = false := by simp; omega
              have HU : Hid ((s[k].toNat : Int) = 95) := hu
              clear hu
              go_wp2_with (first | (go_at_call 24; refine (letter_any _ _).mono ?_; rintro e w' ⟨rfl, rfl⟩) | (go_at_call 25; refine (digit_any _ _).mono ?_; rintro e w' ⟨rfl, rfl⟩))
              exact ⟨⟨k + 1, by omega, by go_num, nameTo_succ hlt hok (nameCh_true (by have := HU.out; omega))⟩, by simp [intOf]; omega⟩
            · have hu' : ((s[k].toNat : Int) != 95) = true := by simp; omega
              go_wp2_with (first | (go_at_call 24; refine (letter_any _ _).mono ?_; rintro e w' ⟨rfl, rfl⟩) | (go_at_call 25; refine (digit_any _ _).mono ?_; rintro e w' ⟨rfl, rfl⟩))
              go_ret
              exact ⟨ret_bool (nameB_false hlt (nameCh_false (by simp [letB] at hlk; simp [digB] at hdk; omega))).symm, rfl⟩
      · obtain rfl : k = s.size := by omega
        go_wp2
        go_ret
        exact ⟨ret_bool (nameB_true (by omega) (by omega) hok).symm, rfl⟩
end Go.Proofs.Ytgngegammingoaa
