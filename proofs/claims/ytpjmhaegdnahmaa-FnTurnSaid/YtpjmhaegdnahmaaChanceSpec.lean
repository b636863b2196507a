/- The contracts of chapter 3's specification: what chance tells. -/
import Derived.Test.YtpjmhaegdnahmaaNums
import Derived.Test.YtpjmhaegdnahmaaPlainC
namespace Go.Proofs.Ytpjmhaegdnahmaa
open Go Go.RowKit
set_option linter.unusedVariables false

theorem l02Is_any (n low high : Int) (w : World) :
    Calls Try.prog 48 #[.int .i64 n, .int .i64 low, .int .i64 high] w fun e w' => e = .returned (.bool (decide (low ≤ n) && decide (n ≤ high))) ∧ w' = w := by
  by_cases h1 : low ≤ n
  · by_cases h2 : n ≤ high
    · have HD : Hid ((decide (low ≤ n) && decide (n ≤ high)) = true) := by show _ = _; simp [h1, h2]
      go_enter Try.func48, Try.ntmps48
      go_wp2
      go_ret
      exact ⟨ret_boolE HD.out.symm, rfl⟩
    · have HD : Hid ((decide (low ≤ n) && decide (n ≤ high)) = false) := by show _ = _; simp [h2]
      have hd2 : decide (n ≤ high) = false := decide_eq_false h2
      go_enter Try.func48, Try.ntmps48
      go_wp2
      go_ret
      first
        | exact ⟨ret_boolE HD.out.symm, rfl⟩
        | exact ⟨ret_boolE hd2.symm, rfl⟩
        | exact ⟨rfl, rfl⟩
  · have HD : Hid ((decide (low ≤ n) && decide (n ≤ high)) = false) := by show _ = _; simp [h1]
    go_enter Try.func48, Try.ntmps48
    go_wp2
    go_ret
    exact ⟨ret_boolE HD.out.symm, rfl⟩
theorem l02Seed_any (n : Int) (w : World) :
    Calls Try.prog 47 #[.int .i64 n] w fun e w' => e = .returned (.bool (decide (0 ≤ n) && decide (n ≤ 2147483647))) ∧ w' = w := by
  go_enter Try.func47, Try.ntmps47
  go_wp2_with fail
  refine (l02Is_any n 0 2147483647 _).mono ?_
  rintro e x1 ⟨rfl, rfl⟩
  go_wp2
  go_ret
  exact ⟨rfl, rfl⟩
theorem two_kept {w w2 : World} {x y : Value} {t : Nat} (hb : Below (w.alloc (.cells #[x, y] t)).heap.size (w.alloc (.cells #[x, y] t)) w2) :
    w2.cell? ⟨w.heap.size, 0, none⟩ = some x ∧ w2.cell? ⟨w.heap.size, 1, none⟩ = some y ∧ w2.frozen? ⟨w.heap.size, 0, none⟩ = false ∧ w2.frozen? ⟨w.heap.size, 1, none⟩ = false := by
  refine ⟨?_, ?_, ?_, ?_⟩
  · rw [hb.cell (by simp), World.cell?_alloc_at _ _ _ _ rfl]; rfl
  · rw [hb.cell (by simp), World.cell?_alloc_at _ _ _ _ rfl]; rfl
  · rw [hb.frozen (by simp)]; simp
  · rw [hb.frozen (by simp)]; simp
theorem two_below {w w2 : World} {x y : Value} (hb : Below w.heap.size w w2) : Below w.heap.size w ((w2.setCell ⟨w.heap.size, 0, none⟩ x).setCell ⟨w.heap.size, 1, none⟩ y) :=
  (hb.setCell (Nat.le_refl _) _).setCell (Nat.le_refl _) _
/-- What chance tells. -/
def chanceV (seed most : Int) : Int × Int := if (0 ≤ seed ∧ seed ≤ 2147483647) ∧ 1 ≤ most ∧ most ≤ 1000000 then (nextS seed, drawN seed most) else (0, 0)
def chanceOut (r : Int × Int) : Value := .agg #[.int .i64 r.1, .int .i64 r.2]
set_option maxHeartbeats 1000000 in
set_option maxRecDepth 100000 in
theorem l02Draw_any (seed most : Int) (w : World) (h0 : 0 ≤ seed) (h1 : seed ≤ 2147483647) (h2 : 1 ≤ most) (h3 : most ≤ 1000000) :
    Calls Try.prog 63 #[.int .i64 seed, .int .i64 most] w fun e w' => e = .returned (chanceOut (nextS seed, drawN seed most)) ∧ Below w.heap.size w w' := by
  have hnb := nextS_bd seed
  have hdb := drawN_bd seed h2
  have hns : nextS seed = (seed * 91813 + 30011) % 2147483648 := rfl
  have hw1 : IntKind.i64.wrap (seed * 91813) = seed * 91813 := by rw [IntKind.wrap_i64]; omega
  have hw2 : IntKind.i64.wrap (seed * 91813 + 30011) = seed * 91813 + 30011 := by rw [IntKind.wrap_i64]; omega
  go_enter Try.func63, Try.ntmps63
  go_wp2
  exact bodyPost_ret (v := .agg #[.int .i64 (nextS seed), .int .i64 (drawN seed most)]) (by simp [results, Try.results63, go_sem, nextS, drawN]) rfl ⟨rfl, (Below.refl _ _).alloc (Nat.le_refl _) _⟩

theorem chance_yes {seed most : Int} (h1 : (decide (0 ≤ seed) && decide (seed ≤ 2147483647)) = true) (h2 : (decide (1 ≤ most) && decide (most ≤ 1000000)) = true) : chanceV seed most = (nextS seed, drawN seed most) := by
  simp at h1 h2
  exact if_pos ⟨h1, h2⟩
theorem chance_no1 {seed most : Int} (h1 : (decide (0 ≤ seed) && decide (seed ≤ 2147483647)) = false) : chanceV seed most = (0, 0) := by
  simp at h1
  exact if_neg (fun h => by have := h1 h.1.1; omega)
theorem chance_no2 {seed most : Int} (h2 : (decide (1 ≤ most) && decide (most ≤ 1000000)) = false) : chanceV seed most = (0, 0) := by
  simp at h2
  exact if_neg (fun h => by have := h2 h.2.1; omega)
end Go.Proofs.Ytpjmhaegdnahmaa
