/- The contracts of promise 3's draws of lists: what is to be shuffled, and a set with a number. -/
import Derived.Test.YtpjmhaegdnahmaaDrawM
namespace Go.Proofs.Ytpjmhaegdnahmaa
open Go Go.RowKit
set_option linter.unusedVariables false

theorem RowSome.kept {w w' : World} {base b : Nat} {v : Value} {l : List Int} (h : RowSome w base v l) (hb : b < base) (hg : w.grownBy w' (some b)) : RowSome w' base v l :=
  ⟨h.1.kept hg (.inr (fun e => by have := (h.1.lt b e).1; omega)), h.2⟩
theorem grown_below {w w1 w2 : World} {b : Nat} (h1 : Below w.heap.size w w1) (h2 : w1.grownBy w2 (some b)) (hb : w.heap.size ≤ b) : Below w.heap.size w w2 :=
  h1.grown h2 h1.size (fun k e => by obtain rfl := Option.some.inj e; exact hb)
end Go.Proofs.Ytpjmhaegdnahmaa
