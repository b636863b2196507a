/- The contracts of chapter 3's specification: what may be a set, and what is in a list. -/
import Derived.Test.YtpjmhaegdnahmaaNums
import Derived.Test.YtpjmhaegdnahmaaPlainC
namespace Go.Proofs.Ytpjmhaegdnahmaa
open Go Go.RowKit
set_option linter.unusedVariables false

/-- A right set: no longer than may be, and rising. -/
abbrev rightL (l : List Int) : Prop := l.length ≤ 400 ∧ rises l
set_option maxHeartbeats 1000000 in
set_option maxRecDepth 100000 in
theorem specRight_any (a : Option Addr) (cap : Nat) (l : List Int) (w : World) (hl : l.length ≤ 1048576) (hrow : NumRow w a l) :
    Calls Try.prog 46 #[.slice a l.length cap] w fun e w' => e = .returned (.bool (decide (rightL l))) ∧ Below w.heap.size w w' := by
  by_cases h1 : 400 < (l.length : Int)
  · have HN : Hid (decide (rightL l) = false) := decide_eq_false (fun h => by have := h.1; omega)
    go_enter Try.func46, Try.ntmps46
    go_wp2
    go_ret
    exact ⟨ret_boolE HN.out.symm, Below.refl _ _⟩
  go_enter Try.func46, Try.ntmps46
  go_wp2
  go_loopw [3] (fun i wr => ∃ k : Nat, 1 ≤ k ∧ (k ≤ l.length ∨ k = 1) ∧ i = .int .i64 k ∧ (∀ j (h : j + 1 < l.length), j + 1 < k → l[j] < l[j + 1]) ∧ Below w.heap.size w wr) (fun i _ => l.length - (intOf i).toNat)
  case atStart => exact ⟨1, by omega, .inr rfl, rfl, fun j _ h => by omega, Below.refl _ _⟩
  case round =>
    obtain ⟨k, hk1, hk2, rfl, hup, hb⟩ := hrel
    have HU : Hid (∀ j (h : j + 1 < l.length), j + 1 < k → l[j] < l[j + 1]) := hup
    clear hup
    by_cases hx : k < l.length
    · rcases hrow.keep hb with h | ⟨b, off, rfl, hlt, hc⟩
      · have : l.length = 0 := by rw [h]; rfl
        omega
      obtain ⟨q, rfl⟩ : ∃ q, k = q + 1 := ⟨k - 1, by omega⟩
      have h2 := hc (q + 1) hx
      have h3 := hc q (by omega)
      obtain ⟨x, hxx⟩ : ∃ x, l[q] = x := ⟨_, rfl⟩
      obtain ⟨y, hyy⟩ : ∃ y, l[q + 1] = y := ⟨_, rfl⟩
      rw [hyy] at h2
      rw [hxx] at h3
      have HX : Hid (l[q] = x) := hxx
      have HY : Hid (l[q + 1] = y) := hyy
      have ew : (((q + 1 : Nat) : Int) - 1) = (q : Int) := by omega
      have eww : IntKind.i64.wrap (((q + 1 : Nat) : Int) - 1) = (q : Int) := by rw [IntKind.wrap_i64]; omega
      clear hc hxx hyy
      by_cases e : x < y
      · have ed : decide (y ≤ x) = false := decide_eq_false (by omega)
        go_wp2
        go_region
        go_wp2
        go_roundw
        case rel => exact ⟨q + 2, by omega, .inl (by omega), by go_num, fun j hj hjk => by
          by_cases ej : j = q
          · subst ej; rw [HX.out, HY.out]; exact e
          · exact HU.out j hj (by omega), hb.drew⟩
        case measure => simp [intOf]; omega
      · have ed : decide (y ≤ x) = true := decide_eq_true (by omega)
        have HN : Hid (decide (rightL l) = false) := decide_eq_false (fun h => by
          have := rises_next.1 h.2 q hx
          rw [HX.out, HY.out] at this
          exact e this)
        go_wp2
        go_region
        go_wp2
        go_ret
        exact ⟨ret_boolE HN.out.symm, hb.drew⟩
    · have HD : Hid (decide (rightL l) = true) := decide_eq_true ⟨by omega, rises_next.2 fun j hj => HU.out j hj (by omega)⟩
      go_wp2
      go_ret
      exact ⟨ret_boolE HD.out.symm, hb⟩

set_option maxHeartbeats 1000000 in
set_option maxRecDepth 100000 in
theorem l02Has_any (a : Option Addr) (cap : Nat) (l : List Int) (n : Int) (w : World) (hl : l.length ≤ 1048576) (hrow : NumRow w a l) :
    Calls Try.prog 59 #[.slice a l.length cap, .int .i64 n] w fun e w' => e = .returned (.bool (decide (n ∈ l))) ∧ w' = w := by
  go_enter Try.func59, Try.ntmps59
  go_wp2
  go_loop [5] (fun i => ∃ k : Nat, k ≤ l.length ∧ i = .int .i64 k ∧ ¬ n ∈ l.take k) (fun i => l.length - (intOf i).toNat)
  case atStart => exact ⟨0, Nat.zero_le _, rfl, by simp⟩
  case round =>
    obtain ⟨k, hk, rfl, hn⟩ := hrel
    have HN : Hid (¬ n ∈ l.take k) := hn
    clear hn
    by_cases hx : k < l.length
    · rcases hrow with h | ⟨b, off, rfl, hlt, hc⟩
      · have : l.length = 0 := by rw [h]; rfl
        omega
      have hck := hc k hx
      obtain ⟨x, hxx⟩ : ∃ x, l[k] = x := ⟨_, rfl⟩
      rw [hxx] at hck
      have HX : Hid (l[k] = x) := hxx
      clear hc hxx
      by_cases e : x = n
      · subst e
        have HM : Hid (decide (x ∈ l) = true) := decide_eq_true (by have := List.getElem_mem hx; rw [HX.out] at this; exact this)
        go_wp2
        go_ret
        exact ⟨ret_boolE HM.out.symm, rfl⟩
      · have eb : (x == n) = false := by simp [e]
        go_wp2
        go_round
        case rel => exact ⟨k + 1, by omega, by go_num, by
          rw [List.take_succ_eq_append_getElem hx, List.mem_append, HX.out]
          rintro (q | q)
          · exact HN.out q
          · simp at q; exact e q.symm⟩
        case measure => simp [intOf]; omega
    · have HM : Hid (decide (n ∈ l) = false) := decide_eq_false (fun q => HN.out (by rw [List.take_of_length_le (by omega)]; exact q))
      go_wp2
      go_ret
      exact ⟨ret_boolE HM.out.symm, rfl⟩
end Go.Proofs.Ytpjmhaegdnahmaa
