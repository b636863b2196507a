/- The contracts of the program's Chance: it answers as the specification's. -/
import Derived.Test.YtpjmhaegdnahmaaChanceSpec
namespace Go.Proofs.Ytpjmhaegdnahmaa
open Go Go.RowKit
set_option linter.unusedVariables false

set_option maxRecDepth 100000 in
theorem seedRight_any (n : Int) (w : World) :
    Calls Try.prog 43 #[.int .i64 n] w fun e w' => e = .returned (.bool (decide (0 ≤ n) && decide (n ≤ 2147483647))) ∧ w' = w := by
  by_cases h1 : 0 ≤ n
  · have HD : Hid ((decide (0 ≤ n) && decide (n ≤ 2147483647)) = decide (n ≤ 2147483647)) := by show _ = _; simp [h1]
    go_enter Try.func43, Try.ntmps43
    go_wp2
    go_ret
    exact ⟨ret_boolE HD.out.symm, rfl⟩
  · have HD : Hid ((decide (0 ≤ n) && decide (n ≤ 2147483647)) = false) := by show _ = _; simp [h1]
    go_enter Try.func43, Try.ntmps43
    go_wp2
    go_ret
    exact ⟨ret_boolE HD.out.symm, rfl⟩
theorem and_seed {x : Nat} (h : (x : Int) < 18446744073709551616) : bits BinOp.and IntKind.u64 (x : Int) 2147483647 = (x : Int) % 2147483648 := by
  have e : bits BinOp.and IntKind.u64 (x : Int) 2147483647 = ((x &&& 2147483647 : Nat) : Int) := by
    have := u64_and_nat x 2147483647 (by omega) (by omega)
    exact this
  rw [e, Nat.and_two_pow_sub_one_eq_mod x 31]
  omega
set_option maxHeartbeats 1000000 in
set_option maxRecDepth 100000 in
theorem implChance_any (seed most : Int) (w : World) :
    Calls Try.prog 57 #[.int .i64 seed, .int .i64 most] w fun e w' => e = .returned (chanceOut (chanceV seed most)) ∧ Below w.heap.size w w' := by
  have b0 : Below w.heap.size w (w.alloc (.cells #[.int .i64 0, .int .i64 0] 74)) := (Below.refl _ _).alloc (Nat.le_refl _) _
  cases h1 : (decide (0 ≤ seed) && decide (seed ≤ 2147483647)) with
  | false =>
    have HE : Hid (chanceV seed most = (0, 0)) := chance_no1 h1
    have HD : Hid ((decide (0 ≤ seed) && decide (seed ≤ 2147483647)) = false) := h1
    clear h1
    go_enter Try.func57, Try.ntmps57
    go_wp2_with fail
    refine (seedRight_any seed _).mono ?_
    rintro e x1 ⟨rfl, rfl⟩
    rw [HD.out]
    go_wp2
    exact bodyPost_ret (v := .agg #[.int .i64 0, .int .i64 0]) (by simp [results, Try.results57, go_sem]) rfl ⟨by rw [HE.out]; rfl, b0⟩
  | true =>
    by_cases h2 : most < 1
    · have HE : Hid (chanceV seed most = (0, 0)) := chance_no2 (by simp; omega)
      have HD : Hid ((decide (0 ≤ seed) && decide (seed ≤ 2147483647)) = true) := h1
      clear h1
      go_enter Try.func57, Try.ntmps57
      go_wp2_with fail
      refine (seedRight_any seed _).mono ?_
      rintro e x1 ⟨rfl, rfl⟩
      rw [HD.out]
      go_wp2
      exact bodyPost_ret (v := .agg #[.int .i64 0, .int .i64 0]) (by simp [results, Try.results57, go_sem]) rfl ⟨by rw [HE.out]; rfl, b0⟩
    by_cases h3 : 1000000 < most
    · have HE : Hid (chanceV seed most = (0, 0)) := chance_no2 (by simp; omega)
      have HD : Hid ((decide (0 ≤ seed) && decide (seed ≤ 2147483647)) = true) := h1
      clear h1
      go_enter Try.func57, Try.ntmps57
      go_wp2_with fail
      refine (seedRight_any seed _).mono ?_
      rintro e x1 ⟨rfl, rfl⟩
      rw [HD.out]
      go_wp2
      exact bodyPost_ret (v := .agg #[.int .i64 0, .int .i64 0]) (by simp [results, Try.results57, go_sem]) rfl ⟨by rw [HE.out]; rfl, b0⟩
    have HE : Hid (chanceV seed most = (nextS seed, drawN seed most)) := chance_yes h1 (by simp; omega)
    have HD : Hid ((decide (0 ≤ seed) && decide (seed ≤ 2147483647)) = true) := h1
    simp at h1
    obtain ⟨s0, s1⟩ := h1
    obtain ⟨s, rfl⟩ := Int.eq_ofNat_of_zero_le s0
    have hw0 : IntKind.u64.wrap (s : Int) = (s : Int) := by rw [IntKind.wrap_u64]; omega
    have hw1 : IntKind.u64.wrap ((s : Int) * 91813) = (s : Int) * 91813 := by rw [IntKind.wrap_u64]; omega
    have hw2 : IntKind.u64.wrap ((s : Int) * 91813 + 30011) = (s : Int) * 91813 + 30011 := by rw [IntKind.wrap_u64]; omega
    have ha : bits BinOp.and IntKind.u64 ((s : Int) * 91813 + 30011) 2147483647 = nextS (s : Int) := by
      have := and_seed (x := s * 91813 + 30011) (by omega)
      have e : ((s * 91813 + 30011 : Nat) : Int) = (s : Int) * 91813 + 30011 := by omega
      rw [e] at this
      exact this
    have hnb := nextS_bd (s : Int)
    obtain ⟨q, hq⟩ : ∃ q : Nat, nextS (s : Int) = (q : Int) := Int.eq_ofNat_of_zero_le hnb.1
    have HQ : Hid (nextS (s : Int) = (q : Int)) := hq
    have HR : Hid (drawN (s : Int) most = (q : Int) / 256 % most) := by show _ = _; unfold drawN; rw [hq]
    rw [hq] at ha hnb
    clear hq
    have hd0 : 0 ≤ (q : Int) / 256 % most := Int.emod_nonneg _ (by omega)
    have hd1 : (q : Int) / 256 % most < most := Int.emod_lt_of_pos _ (by omega)
    have hwm : IntKind.u64.wrap most = most := by rw [IntKind.wrap_u64]; omega
    have hwq : IntKind.i64.wrap (q : Int) = (q : Int) := by rw [IntKind.wrap_i64]; omega
    have hwr : IntKind.i64.wrap ((q : Int) / 256 % most) = (q : Int) / 256 % most := by rw [IntKind.wrap_i64]; omega
    have hm0 : ¬ most = 0 := by omega
    go_enter Try.func57, Try.ntmps57
    go_wp2_with fail
    refine (seedRight_any _ _).mono ?_
    rintro e x1 ⟨rfl, rfl⟩
    rw [HD.out]
    go_wp2
    exact bodyPost_ret (v := .agg #[.int .i64 (q : Int), .int .i64 ((q : Int) / 256 % most)]) (by simp [results, Try.results57, go_sem]) rfl ⟨by rw [HE.out, HQ.out, HR.out]; rfl, (Below.refl _ _).alloc (Nat.le_refl _) _⟩
end Go.Proofs.Ytpjmhaegdnahmaa
