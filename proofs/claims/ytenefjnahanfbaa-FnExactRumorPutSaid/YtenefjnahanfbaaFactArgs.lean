/- A slice of facts, and a fact, that come in as arguments of a law. -/
import Derived.Test.YtenefjnahanfbaaFactSpec
import Derived.OpenShut
import Derived.Deep.Slices
import Derived.Lib.SmallJoins
namespace Go.Proofs.Ytenefjnahanfbaa
open Go Go.RowKit Go.ChangeShapes Go.WideShapes Go.Deep
set_option linter.unusedVariables false

def FactArg (w : World) (a : Option Addr) (cap : Nat) (l : List FactV) : Prop := CellRow w a (cellsOf FactV.cells l) ∧ l.length ≤ maxLen ∧ l.length ≤ cap
theorem factArg_nil (w : World) : FactArg w none 0 [] := ⟨.inl rfl, Nat.zero_le _, Nat.zero_le _⟩
set_option maxRecDepth 100000 in
theorem cells_fact {H : Type} {enc : TypeId × Value → H} {w : World} {base : Nat} {spare : Nat → Bool} {held : Bool} {n : Nat} {cs : List Value} {x : DataW H × List MemPlace} (hl : cs.length = 3) (h : DataW.trod enc Try.prog w base spare held n 46 cs = some x) :
    ∃ d : FactV, cs = d.cells := by
  obtain ⟨y0, y1, y2, k, _, _, h0, h1, h2⟩ := trod_struct3 Try.underlying46 h
  match cs, hl with
  | [v0, v1, v2], _ =>
    have c1 : Try.prog.cellsOf 2 = 1 := by kernel_rfl
    simp only [c1, List.drop_zero, List.drop_succ_cons, List.take_succ_cons, List.take_zero] at h0 h1 h2
    obtain ⟨i0, e0, _, _⟩ := DataW.trod_int Try.underlying2 h0
    obtain ⟨i1, e1, _, _⟩ := DataW.trod_int Try.underlying2 h1
    obtain ⟨i2, e2, _, _⟩ := DataW.trod_int Try.underlying2 h2
    simp only [List.cons.injEq, and_true] at e0 e1 e2
    exact ⟨⟨i0, i1, i2⟩, by rw [e0, e1, e2]; rfl⟩
set_option maxRecDepth 100000 in
theorem factVal_open {H : Type} {enc : TypeId × Value → H} {w : World} {r : Reach} {b0 base : Nat} {spare : Nat → Bool} {held : Bool} {v : Value} {d : DataW H} {p : List MemPlace} (hv : Value.okWide Try.prog w r b0 46 v) (h : DataW.Trod enc Try.prog w base spare held 46 v d p) :
    ∃ x : FactV, v = x.val ∧ True := by
  obtain ⟨v0, v1, v2, y0, y1, y2, n, rfl, _, _, h0, h1, h2⟩ := Joins.open_agg3 Try.underlying46 (by kernel_rfl) (by kernel_rfl) hv h
  obtain ⟨i0, e0, _, _⟩ := DataW.trod_int Try.underlying2 h0
  obtain ⟨i1, e1, _, _⟩ := DataW.trod_int Try.underlying2 h1
  obtain ⟨i2, e2, _, _⟩ := DataW.trod_int Try.underlying2 h2
  simp only [List.cons.injEq, and_true] at e0 e1 e2
  exact ⟨⟨i0, i1, i2⟩, by rw [e0, e1, e2]; rfl, trivial⟩
end Go.Proofs.Ytenefjnahanfbaa
