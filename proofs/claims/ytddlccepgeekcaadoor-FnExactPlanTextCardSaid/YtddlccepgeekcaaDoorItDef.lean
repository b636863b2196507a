/- An item of a plan, its cells, and what is right; how deep loops stand. No program. -/
import Derived.Test.YtddlccepgeekcaaDoorTimeR
namespace Go.Proofs.YtddlccepgeekcaaDoor
open Go Go.RowKit
set_option linter.unusedVariables false

/-- An item. -/
structure ItemV where
  kind : Int
  tm : Int
  pa : Int
  pb : Int
def ItemV.cells (d : ItemV) : List Value := [.int .i64 d.kind, .int .i64 d.tm, .int .i64 d.pa, .int .i64 d.pb]
theorem ItemV.cells_len (d : ItemV) : d.cells.length = 4 := rfl
def ItemV.val (d : ItemV) : Value := .agg #[.int .i64 d.kind, .int .i64 d.tm, .int .i64 d.pa, .int .i64 d.pb]
theorem ItemV.ext' {a b : ItemV} (h1 : a.kind = b.kind) (h2 : a.tm = b.tm) (h3 : a.pa = b.pa) (h4 : a.pb = b.pb) : a = b := by
  cases a; cases b; simp_all
/-- From nothing up to so many. -/
def upR (n m : Int) : Prop := 0 ≤ n ∧ n ≤ m
/-- A node's number. -/
def nodR (n : Int) : Prop := 1 ≤ n ∧ n ≤ 6
/-- What is right of A, of all kinds but the end's. -/
def ItemV.aR (x : ItemV) : Prop :=
  (x.kind = 1 ∧ 1 ≤ x.pa ∧ x.pa ≤ 6) ∨ (x.kind = 2 ∧ 1 ≤ x.pa ∧ x.pa ≤ 6) ∨ (x.kind = 7 ∧ 1 ≤ x.pa ∧ x.pa ≤ 6) ∨ (x.kind = 3 ∧ 1 ≤ x.pa ∧ x.pa ≤ 63) ∨ (x.kind = 4 ∧ x.pa = 0) ∨
    (x.kind = 5 ∧ 0 ≤ x.pa ∧ x.pa ≤ 100) ∨ (x.kind = 6 ∧ 0 ≤ x.pa ∧ x.pa ≤ 9) ∨ (x.kind = 8 ∧ 0 ≤ x.pa ∧ x.pa ≤ 9)
/-- What is right of B. -/
def ItemV.bR (x : ItemV) : Prop := (x.kind = 8 ∧ 0 ≤ x.pb ∧ x.pb ≤ 500) ∨ (¬ x.kind = 8 ∧ x.pb = 0)
/-- A right item. -/
def ItemV.ok (x : ItemV) : Prop := (x.kind = 9 ∧ x.tm = 0 ∧ x.pa = 0 ∧ x.pb = 0) ∨ (¬ x.kind = 9 ∧ 0 ≤ x.tm ∧ x.tm ≤ 2000 ∧ x.aR ∧ x.bR)
/-- How many loops are open behind an item. -/
def ItemV.deep (x : ItemV) (d : Int) : Int := if x.kind = 8 then d + 1 else if x.kind = 9 then d - 1 else d
/-- A plan's rest is right, so many loops being open. -/
def planFrom : Int → List ItemV → Prop
  | d, [] => d = 0
  | d, x :: l => x.ok ∧ 0 ≤ x.deep d ∧ x.deep d ≤ 3 ∧ planFrom (x.deep d) l
/-- A right plan. -/
def planR (l : List ItemV) : Prop := l.length ≤ 40 ∧ planFrom 0 l
end Go.Proofs.YtddlccepgeekcaaDoor
