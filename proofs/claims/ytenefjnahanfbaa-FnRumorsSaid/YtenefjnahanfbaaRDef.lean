/- A rumor: a fact, and how often it was sent; its cells. No program. -/
import Derived.Test.YtenefjnahanfbaaFPlain
namespace Go.Proofs.Ytenefjnahanfbaa
open Go Go.RowKit
set_option linter.unusedVariables false

/-- A rumor. -/
structure RumV where
  node : Int
  inc : Int
  st : Int
  sent : Int
def RumV.fact (x : RumV) : FactV := ⟨x.node, x.inc, x.st⟩
def RumV.cells (d : RumV) : List Value := [.int .i64 d.node, .int .i64 d.inc, .int .i64 d.st, .int .i64 d.sent]
theorem RumV.cells_len (d : RumV) : d.cells.length = 4 := rfl
def RumV.val (d : RumV) : Value := .agg #[.int .i64 d.node, .int .i64 d.inc, .int .i64 d.st, .int .i64 d.sent]
theorem RumV.ext' {a b : RumV} (h1 : a.node = b.node) (h2 : a.inc = b.inc) (h3 : a.st = b.st) (h4 : a.sent = b.sent) : a = b := by
  cases a; cases b; simp_all
/-- A right rumor. -/
def RumV.ok (d : RumV) : Prop := d.fact.ok ∧ 0 ≤ d.sent ∧ d.sent ≤ 3
end Go.Proofs.Ytenefjnahanfbaa
