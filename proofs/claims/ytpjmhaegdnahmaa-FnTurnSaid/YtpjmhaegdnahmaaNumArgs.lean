/- A slice of numbers that comes in as an argument of a law, as the walks take it. -/
import Derived.Test.YtpjmhaegdnahmaaNums
import Derived.OpenShut
namespace Go.Proofs.Ytpjmhaegdnahmaa
open Go Go.RowKit
set_option linter.unusedVariables false

def NumArg (w : World) (a : Option Addr) (cap : Nat) (l : List Int) : Prop := NumRow w a l ∧ l.length ≤ cap ∧ (a = none → cap = 0) ∧ ∀ x ∈ l, (Lit.int .i64 x).wf = true
theorem numArg_nil (w : World) : NumArg w none 0 [] := ⟨.inl rfl, Nat.zero_le _, fun _ => rfl, fun x h => absurd h (by simp)⟩
theorem numArg_of {w : World} {x : Addr} {l c : Nat} {zs : List Int} (hl : l ≤ c) (hz : zs.length = c) (hcell : ∀ i, i < zs.length → w.cell? (x.add i) = some (.int .i64 (zs.getD i 0))) (hwz : ∀ n ∈ zs, (Lit.int .i64 n).wf = true) : ∃ L : List Int, l = L.length ∧ NumArg w (some x) c L := by
  have hlen : (zs.take l).length = l := by rw [List.length_take]; omega
  refine ⟨zs.take l, hlen.symm, ?_, by omega, (fun e => by cases e), fun n hn => hwz n (List.mem_of_mem_take hn)⟩
  by_cases h0 : l = 0
  · exact .inl (by subst h0; simp)
  obtain ⟨b, off, spot⟩ := x
  have hc := hcell 0 (by omega)
  have hspot : spot = none := by simpa [Addr.add] using World.cell?_spot hc
  subst hspot
  have hb : b < w.heap.size := by
    rcases Nat.lt_or_ge b w.heap.size with k | k
    · exact k
    · simp [World.cell?, Addr.add, Array.getElem?_eq_none k] at hc
  refine .inr ⟨b, off, rfl, hb, fun i hi => ?_⟩
  have := hcell i (by omega)
  have e : (⟨b, off, none⟩ : Addr).add i = ⟨b, off + i, none⟩ := by by_cases e0 : i = 0 <;> simp [Addr.add, e0]
  rw [e, List.getD_eq_getElem?_getD, List.getElem?_eq_getElem (by omega)] at this
  rw [this]
  simp
theorem eqNums_same (a b : Option Addr) (ca cb : Nat) (l : List Int) (w : World) (hl : l.length ≤ 1048576) (ha : NumRow w a l) (hb : NumRow w b l) :
    Calls Try.prog 23 #[.slice a l.length ca, .slice b l.length cb] w fun e w' => e = .returned (.bool true) ∧ Below w.heap.size w w' := by
  refine (eqNums_any a b ca cb l l w hl ha hb).mono ?_
  rintro e w' ⟨rfl, h⟩
  exact ⟨ret_boolE (decide_eq_true rfl), h⟩
end Go.Proofs.Ytpjmhaegdnahmaa
