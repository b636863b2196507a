/- Facts compared as wholes. -/
import Derived.Test.YtenefjnahanfbaaFactOne
import Derived.Laws.StructEq
namespace Go.Proofs.Ytenefjnahanfbaa
open Go Go.RowKit
set_option linter.unusedVariables false

theorem eqF_run (a b c d e f : Int) (w : World) : (Op.equalIn 10000 25 (.agg #[.int .i64 a, .int .i64 b, .int .i64 c]) (.agg #[.int .i64 d, .int .i64 e, .int .i64 f])).run Try.prog w = .ok (a == d && (b == e && c == f)) w := by
  have u := Try.underlying2
  have hS : Try.prog.underlying 25 = some (.struct (Try.prog.fieldsOf 25)) := by kernel_rfl
  have hp : Try.prog.stoodInHeld 25 = false := by kernel_rfl
  rw [show (10000 : Nat) = 9999 + 1 from rfl, run_equalIn_agg w 9999 25 _ _ hS hp]
  simp only [Program.fieldsOf, Try.underlying25]
  go_simp
  by_cases h1 : a = d <;> by_cases h2 : b = e <;> by_cases h3 : c = f <;> simp [h1, h2, h3]
theorem guardF : Try.prog.eqGuardType Try.prog.depth 25 = false := by kernel_rfl
theorem eqF_is {m y : FactV} {q : Bool} (h : q = true ↔ m = y) : (m.node == y.node && (m.inc == y.inc && m.st == y.st)) = q := by
  cases m; cases y
  cases q with
  | true => simpa using h
  | false =>
    have : ¬ _ := fun e => by have := h.2 e; cases this
    simp at this ⊢
    exact this
/-- Two facts compared: as q tells. -/
theorem eqF_q {m y : FactV} {q : Bool} (h : q = true ↔ m = y) (w : World) : (Op.equalIn 10000 25 (.agg #[.int .i64 m.node, .int .i64 m.inc, .int .i64 m.st]) (.agg #[.int .i64 y.node, .int .i64 y.inc, .int .i64 y.st])).run Try.prog w = .ok q w := by
  rw [eqF_run, eqF_is h]
end Go.Proofs.Ytenefjnahanfbaa
