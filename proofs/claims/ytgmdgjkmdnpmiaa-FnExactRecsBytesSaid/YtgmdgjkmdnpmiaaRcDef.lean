/- A record, its cells, and what is right. No program. -/
import Derived.Test.YtgmdgjkmdnpmiaaTimeR
import Derived.Test.YtgmdgjkmdnpmiaaCells
namespace Go.Proofs.Ytgmdgjkmdnpmiaa
open Go Go.RowKit
set_option linter.unusedVariables false

/-- A record. -/
structure RecV where
  tm : Int
  node : Int
  kind : Int
  pa : Int
  pb : Int
  pc : Int
def RecV.cells (d : RecV) : List Value := [.int .i64 d.tm, .int .i64 d.node, .int .i64 d.kind, .int .i64 d.pa, .int .i64 d.pb, .int .i64 d.pc]
theorem RecV.cells_len (d : RecV) : d.cells.length = 6 := rfl
def RecV.val (d : RecV) : Value := .agg #[.int .i64 d.tm, .int .i64 d.node, .int .i64 d.kind, .int .i64 d.pa, .int .i64 d.pb, .int .i64 d.pc]
def RecV.nums (d : RecV) : List Int := [d.tm, d.node, d.kind, d.pa, d.pb, d.pc]
/-- A time. -/
def tmR (n : Int) : Prop := 0 ≤ n ∧ n ≤ 1000000
/-- A node. -/
def ndR (n : Int) : Prop := 1 ≤ n ∧ n ≤ 6
/-- What is right behind the kind. -/
def RecV.rest (x : RecV) : Prop :=
  (x.kind = 1 ∧ tmR x.pa ∧ x.pb = 0 ∧ x.pc = 0) ∨ (x.kind = 2 ∧ x.pa = 0 ∧ x.pb = 0 ∧ x.pc = 0) ∨ (x.kind = 3 ∧ tmR x.pa ∧ ndR x.pb ∧ x.pc = 0) ∨ (x.kind = 4 ∧ tmR x.pa ∧ ndR x.pb ∧ x.pc = 0) ∨
    (x.kind = 5 ∧ ndR x.pa ∧ tmR x.pb ∧ 1 ≤ x.pc ∧ x.pc ≤ 3) ∨ (x.kind = 6 ∧ ndR x.pa ∧ x.pb = 0 ∧ x.pc = 0)
/-- A right record. -/
def RecV.ok (x : RecV) : Prop := tmR x.tm ∧ ndR x.node ∧ x.rest
theorem RecV.ok_bound {x : RecV} (h : x.ok) : ∀ n ∈ x.nums, 0 ≤ n ∧ n ≤ 1000000 := by
  obtain ⟨x1, x2, x3, x4, x5, x6⟩ := x
  unfold RecV.ok RecV.rest tmR ndR at h
  dsimp only at h
  intro n hn
  simp only [RecV.nums, List.mem_cons, List.not_mem_nil, or_false] at hn
  rcases hn with rfl | rfl | rfl | rfl | rfl | rfl <;> omega
theorem set_six {X Y : List Value} {a1 a2 a3 a4 a5 a6 b1 b2 b3 b4 b5 b6 : Value} {n : Nat} (hn : X.length = n) : ((((((X ++ a1 :: a2 :: a3 :: a4 :: a5 :: a6 :: Y).set n b1).set (n + 1) b2).set (n + 2) b3).set (n + 3) b4).set (n + 4) b5).set (n + 5) b6 = X ++ b1 :: b2 :: b3 :: b4 :: b5 :: b6 :: Y := by
  subst hn
  rw [List.set_append_right _ _ (Nat.le_refl _), List.set_append_right _ _ (by omega), List.set_append_right _ _ (by omega), List.set_append_right _ _ (by omega), List.set_append_right _ _ (by omega), List.set_append_right _ _ (by omega)]
  simp
end Go.Proofs.Ytgmdgjkmdnpmiaa
