/- What is beside a block that is marked stays; how long a set is. -/
import Derived.Test.YtpjmhaegdnahmaaSetSpecC
namespace Go.Proofs.Ytpjmhaegdnahmaa
open Go Go.RowKit
set_option linter.unusedVariables false

theorem OwnNums.beside {w w' : World} {lo b : Nat} {a : Option Addr} {l : List Int} (h : OwnNums w lo a l) (hb : b < lo) (hk : ∀ c, c ≠ b → w'.heap[c]? = w.heap[c]?) (hs : w.heap.size ≤ w'.heap.size) : OwnNums w' lo a l := by
  rcases h with h | ⟨q, off, rfl, hlo, hlt, hc, hf⟩
  · exact .inl h
  · have hq : w'.heap[q]? = w.heap[q]? := hk q (by omega)
    exact .inr ⟨q, off, rfl, hlo, by omega, fun i hi => (World.cell?_of_block (a := ⟨q, off + i, none⟩) hq).trans (hc i hi), fun i hi => (World.frozen?_of_block (a := ⟨q, off + i, none⟩) hq).trans (hf i hi)⟩
theorem setDropL_length (l : List Int) (n : Int) : (setDropL l n).length ≤ l.length := by
  unfold setDropL
  split
  · simp
  · split
    · exact dropL_length l n
    · exact Nat.le_refl _
theorem setPutL_length (l : List Int) (n : Int) : (setPutL l n).length ≤ 401 := by
  unfold setPutL
  split
  · simp
  · split
    · have := insL_length l n; omega
    · omega
end Go.Proofs.Ytpjmhaegdnahmaa
