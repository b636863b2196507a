/- The contract of the program's RecRight: where each number of a record may be, and the nearest that is. -/
import Derived.Test.YtgmdgjkmdnpmiaaRcSpec
import Derived.Test.YtgmdgjkmdnpmiaaKeep
namespace Go.Proofs.Ytgmdgjkmdnpmiaa
open Go Go.RowKit
set_option linter.unusedVariables false
set_option linter.unusedSimpArgs false

set_option maxHeartbeats 2000000 in
set_option maxRecDepth 100000 in
theorem spansOf_1 (w : World) : Calls Try.prog 28 #[.int .i64 1] w fun e w' => e = .returned (.agg #[.int .i64 0, .int .i64 1000000, .int .i64 1, .int .i64 6, .int .i64 1, .int .i64 6, .int .i64 0, .int .i64 1000000, .int .i64 0, .int .i64 0, .int .i64 0, .int .i64 0]) ∧ Below w.heap.size w w' := by
  go_enter Try.func28, Try.ntmps28
  go_wp2
  go_region
  all_goals go_wp2
  all_goals
    refine bodyPost_ret (v := .agg #[.int .i64 0, .int .i64 1000000, .int .i64 1, .int .i64 6, .int .i64 1, .int .i64 6, .int .i64 0, .int .i64 1000000, .int .i64 0, .int .i64 0, .int .i64 0, .int .i64 0]) (by simp [results, Try.results28, go_sem]) rfl ⟨rfl, ?_⟩
    repeat first
      | exact Below.refl _ _
      | refine Below.setCell ?_ (by simp) _
      | refine Below.alloc ?_ (by simp <;> omega) _
      | refine Below.drew ?_
set_option maxHeartbeats 2000000 in
set_option maxRecDepth 100000 in
theorem spansOf_3 (w : World) : Calls Try.prog 28 #[.int .i64 3] w fun e w' => e = .returned (.agg #[.int .i64 0, .int .i64 1000000, .int .i64 1, .int .i64 6, .int .i64 1, .int .i64 6, .int .i64 0, .int .i64 1000000, .int .i64 1, .int .i64 6, .int .i64 0, .int .i64 0]) ∧ Below w.heap.size w w' := by
  go_enter Try.func28, Try.ntmps28
  go_wp2
  go_region
  all_goals go_wp2
  all_goals
    refine bodyPost_ret (v := .agg #[.int .i64 0, .int .i64 1000000, .int .i64 1, .int .i64 6, .int .i64 1, .int .i64 6, .int .i64 0, .int .i64 1000000, .int .i64 1, .int .i64 6, .int .i64 0, .int .i64 0]) (by simp [results, Try.results28, go_sem]) rfl ⟨rfl, ?_⟩
    repeat first
      | exact Below.refl _ _
      | refine Below.setCell ?_ (by simp) _
      | refine Below.alloc ?_ (by simp <;> omega) _
      | refine Below.drew ?_
set_option maxHeartbeats 2000000 in
set_option maxRecDepth 100000 in
theorem spansOf_4 (w : World) : Calls Try.prog 28 #[.int .i64 4] w fun e w' => e = .returned (.agg #[.int .i64 0, .int .i64 1000000, .int .i64 1, .int .i64 6, .int .i64 1, .int .i64 6, .int .i64 0, .int .i64 1000000, .int .i64 1, .int .i64 6, .int .i64 0, .int .i64 0]) ∧ Below w.heap.size w w' := by
  go_enter Try.func28, Try.ntmps28
  go_wp2
  go_region
  all_goals go_wp2
  all_goals
    refine bodyPost_ret (v := .agg #[.int .i64 0, .int .i64 1000000, .int .i64 1, .int .i64 6, .int .i64 1, .int .i64 6, .int .i64 0, .int .i64 1000000, .int .i64 1, .int .i64 6, .int .i64 0, .int .i64 0]) (by simp [results, Try.results28, go_sem]) rfl ⟨rfl, ?_⟩
    repeat first
      | exact Below.refl _ _
      | refine Below.setCell ?_ (by simp) _
      | refine Below.alloc ?_ (by simp <;> omega) _
      | refine Below.drew ?_
set_option maxHeartbeats 2000000 in
set_option maxRecDepth 100000 in
theorem spansOf_5 (w : World) : Calls Try.prog 28 #[.int .i64 5] w fun e w' => e = .returned (.agg #[.int .i64 0, .int .i64 1000000, .int .i64 1, .int .i64 6, .int .i64 1, .int .i64 6, .int .i64 1, .int .i64 6, .int .i64 0, .int .i64 1000000, .int .i64 1, .int .i64 3]) ∧ Below w.heap.size w w' := by
  go_enter Try.func28, Try.ntmps28
  go_wp2
  go_region
  all_goals go_wp2
  all_goals
    refine bodyPost_ret (v := .agg #[.int .i64 0, .int .i64 1000000, .int .i64 1, .int .i64 6, .int .i64 1, .int .i64 6, .int .i64 1, .int .i64 6, .int .i64 0, .int .i64 1000000, .int .i64 1, .int .i64 3]) (by simp [results, Try.results28, go_sem]) rfl ⟨rfl, ?_⟩
    repeat first
      | exact Below.refl _ _
      | refine Below.setCell ?_ (by simp) _
      | refine Below.alloc ?_ (by simp <;> omega) _
      | refine Below.drew ?_
set_option maxHeartbeats 2000000 in
set_option maxRecDepth 100000 in
theorem spansOf_6 (w : World) : Calls Try.prog 28 #[.int .i64 6] w fun e w' => e = .returned (.agg #[.int .i64 0, .int .i64 1000000, .int .i64 1, .int .i64 6, .int .i64 1, .int .i64 6, .int .i64 1, .int .i64 6, .int .i64 0, .int .i64 0, .int .i64 0, .int .i64 0]) ∧ Below w.heap.size w w' := by
  go_enter Try.func28, Try.ntmps28
  go_wp2
  go_region
  all_goals go_wp2
  all_goals
    refine bodyPost_ret (v := .agg #[.int .i64 0, .int .i64 1000000, .int .i64 1, .int .i64 6, .int .i64 1, .int .i64 6, .int .i64 1, .int .i64 6, .int .i64 0, .int .i64 0, .int .i64 0, .int .i64 0]) (by simp [results, Try.results28, go_sem]) rfl ⟨rfl, ?_⟩
    repeat first
      | exact Below.refl _ _
      | refine Below.setCell ?_ (by simp) _
      | refine Below.alloc ?_ (by simp <;> omega) _
      | refine Below.drew ?_
set_option maxHeartbeats 2000000 in
set_option maxRecDepth 100000 in
theorem spansOf_none (w : World) (k : Int) (h1 : k ≠ 1) (h3 : k ≠ 3) (h4 : k ≠ 4) (h5 : k ≠ 5) (h6 : k ≠ 6) : Calls Try.prog 28 #[.int .i64 k] w fun e w' => e = .returned (.agg #[.int .i64 0, .int .i64 1000000, .int .i64 1, .int .i64 6, .int .i64 1, .int .i64 6, .int .i64 0, .int .i64 0, .int .i64 0, .int .i64 0, .int .i64 0, .int .i64 0]) ∧ Below w.heap.size w w' := by
  go_enter Try.func28, Try.ntmps28
  go_wp2
  all_goals
    refine bodyPost_ret (v := .agg #[.int .i64 0, .int .i64 1000000, .int .i64 1, .int .i64 6, .int .i64 1, .int .i64 6, .int .i64 0, .int .i64 0, .int .i64 0, .int .i64 0, .int .i64 0, .int .i64 0]) (by simp [results, Try.results28, go_sem]) rfl ⟨rfl, ?_⟩
    repeat first
      | exact Below.refl _ _
      | refine Below.setCell ?_ (by simp) _
      | refine Below.alloc ?_ (by simp <;> omega) _
      | refine Below.drew ?_
end Go.Proofs.Ytgmdgjkmdnpmiaa
