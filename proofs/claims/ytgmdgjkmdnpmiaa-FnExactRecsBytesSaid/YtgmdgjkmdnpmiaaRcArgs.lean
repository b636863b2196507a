/- A slice of records, and a record, that come in as arguments of a law. -/
import Derived.Test.YtgmdgjkmdnpmiaaRcSpec
import Derived.OpenShut
import Derived.Deep.Slices
import Derived.Lib.SmallJoins
namespace Go.Proofs.Ytgmdgjkmdnpmiaa
open Go Go.RowKit Go.ChangeShapes Go.WideShapes Go.Deep
set_option linter.unusedVariables false

def RecArg (w : World) (a : Option Addr) (cap : Nat) (l : List RecV) : Prop := CellRow w a (cellsOf RecV.cells l) ∧ l.length ≤ maxLen ∧ l.length ≤ cap
theorem recArg_nil (w : World) : RecArg w none 0 [] := ⟨.inl rfl, Nat.zero_le _, Nat.zero_le _⟩
set_option maxRecDepth 100000 in
theorem trod_fieldsR {H : Type} {enc : TypeId × Value → H} {P : Program} {w : World} {base : Nat} {spare : Nat → Bool} {held : Bool} {t : TypeId} {fs : Array Field} {fuel : Nat} {cs : List Value} {x : DataW H × List MemPlace} (ht : P.underlying t = some (.struct fs)) (h : DataW.trod enc P w base spare held fuel t cs = some x) :
    cs.length = P.cellsOf t ∧ ∃ n, ∀ (i : Nat) (f : Field), fs[i]? = some f → ∃ y, DataW.trod enc P w base spare held n f.type ((cs.drop f.offset).take (P.cellsOf f.type)) = some y := by
  obtain ⟨xs, n, _, rfl, hl, hlen, hf⟩ := DataW.trod_struct ht h
  refine ⟨hl, n, fun i f hi => ?_⟩
  have hif : i < fs.size := (Array.getElem?_eq_some_iff.1 hi).1
  have := hf i f hi
  rw [List.getElem?_eq_getElem (by omega)] at this
  exact ⟨_, this⟩
set_option maxRecDepth 100000 in
theorem array6 {α : Type} {cs : Array α} (h : cs.size = 6) : ∃ c0 c1 c2 c3 c4 c5, cs = #[c0, c1, c2, c3, c4, c5] := by
  obtain ⟨l⟩ := cs
  match l, h with
  | [c0, c1, c2, c3, c4, c5], _ => exact ⟨c0, c1, c2, c3, c4, c5, rfl⟩
set_option maxRecDepth 100000 in
theorem cells_rec {H : Type} {enc : TypeId × Value → H} {w : World} {base : Nat} {spare : Nat → Bool} {held : Bool} {n : Nat} {cs : List Value} {x : DataW H × List MemPlace} (hl : cs.length = 6) (h : DataW.trod enc Try.prog w base spare held n 23 cs = some x) :
    ∃ d : RecV, cs = d.cells := by
  obtain ⟨_, n, hx⟩ := trod_fieldsR Try.underlying23 h
  match cs, hl with
  | [v0, v1, v2, v3, v4, v5], _ =>
    have k1 : Try.prog.cellsOf 2 = 1 := by kernel_rfl
    obtain ⟨y0, h0⟩ := hx 0 _ rfl
    obtain ⟨y1, h1⟩ := hx 1 _ rfl
    obtain ⟨y2, h2⟩ := hx 2 _ rfl
    obtain ⟨y3, h3⟩ := hx 3 _ rfl
    obtain ⟨y4, h4⟩ := hx 4 _ rfl
    obtain ⟨y5, h5⟩ := hx 5 _ rfl
    simp [k1] at h0 h1 h2 h3 h4 h5
    obtain ⟨i0, e0, _, _⟩ := DataW.trod_int Try.underlying2 h0
    obtain ⟨i1, e1, _, _⟩ := DataW.trod_int Try.underlying2 h1
    obtain ⟨i2, e2, _, _⟩ := DataW.trod_int Try.underlying2 h2
    obtain ⟨i3, e3, _, _⟩ := DataW.trod_int Try.underlying2 h3
    obtain ⟨i4, e4, _, _⟩ := DataW.trod_int Try.underlying2 h4
    obtain ⟨i5, e5, _, _⟩ := DataW.trod_int Try.underlying2 h5
    simp only [List.cons.injEq, and_true] at e0 e1 e2 e3 e4 e5
    exact ⟨⟨i0, i1, i2, i3, i4, i5⟩, by rw [e0, e1, e2, e3, e4, e5]; rfl⟩
set_option maxRecDepth 100000 in
theorem recArg_open {H : Type} {enc : TypeId × Value → H} {w : World} {spare : Nat → Bool} {held : Bool} {fuel : Nat} {a : Option Addr} {len cap : Nat} {x : DataW H × List MemPlace} (h : DataW.trod enc Try.prog w 0 spare held fuel 29 [.slice a len cap] = some x) :
    ∃ l : List RecV, len = l.length ∧ RecArg w a cap l := by
  rcases open_slice Try.underlying29 h with ⟨hcs, _⟩ | ⟨ad, len', cap', m, n, D, Pl, hcs, _, hl, hm, hmm, _, hx⟩
  · simp only [List.cons.injEq, Value.slice.injEq, and_true] at hcs
    obtain ⟨rfl, rfl, rfl⟩ := hcs
    exact ⟨[], rfl, recArg_nil _⟩
  · simp only [List.cons.injEq, Value.slice.injEq, and_true] at hcs
    obtain ⟨rfl, rfl, rfl⟩ := hcs
    have hle : len ≤ m := by rw [hmm]; split <;> omega
    have c4 : Try.prog.cellsOf 23 = 6 := by kernel_rfl
    rw [c4] at hx
    have each : ∀ i, i < len → ∃ d : RecV, w.cells? 0 (ad.add (i * 6)) 6 = some d.cells := fun i hi => by
      obtain ⟨cs', h1, h2⟩ := hx i (by omega)
      obtain ⟨_, hlen, _⟩ := World.cells?_some h1
      obtain ⟨d, rfl⟩ := cells_rec hlen h2
      exact ⟨d, h1⟩
    obtain ⟨f, hf⟩ := @choose_lt RecV ⟨⟨0, 0, 0, 0, 0, 0⟩⟩ len _ each
    have hlen : ((List.range len).map f).length = len := by simp
    refine ⟨(List.range len).map f, hlen.symm, ?_, by rw [hlen]; omega, by rw [hlen]; exact hl⟩
    by_cases h0 : len = 0
    · exact .inl (by subst h0; rfl)
    have hc0 := hf 0 (by omega)
    obtain ⟨_, _, hcell⟩ := World.cells?_some hc0
    have h00 := hcell 0 (by omega)
    obtain ⟨b, off, spot⟩ := ad
    have hspot : spot = none := by
      have := World.cell?_spot h00
      simpa [Addr.add] using this
    subst hspot
    have hb : b < w.heap.size := by
      rcases Nat.lt_or_ge b w.heap.size with k | k
      · exact k
      · simp [World.cell?, Addr.add, Array.getElem?_eq_none k, RecV.cells] at h00
    refine .inr ⟨b, off, rfl, hb, fun j hj => ?_⟩
    have hjl : j < len * 6 := by rw [cellsOf_length RecV.cells_len, hlen] at hj; exact hj
    have hq : j / 6 < len := by omega
    obtain ⟨_, _, hcell⟩ := World.cells?_some (hf (j / 6) hq)
    have hr := hcell (j % 6) (Nat.mod_lt _ (by omega))
    have hat := cellsOf_at RecV.cells_len ((List.range len).map f) (j / 6) (j % 6) (by rw [hlen]; exact hq) (Nat.mod_lt _ (by omega))
    rw [show j / 6 * 6 + j % 6 = j by omega, List.getElem?_eq_getElem hj] at hat
    have hg : ((List.range len).map f)[j / 6]'(by rw [hlen]; exact hq) = f (j / 6) := by simp
    rw [hg] at hat
    rw [hat, ← hr, add_add]
    have e : (⟨b, off, none⟩ : Addr).add (j / 6 * 6 + j % 6) = ⟨b, off + j, none⟩ := by
      rw [show j / 6 * 6 + j % 6 = j by omega]
      by_cases e0 : j = 0 <;> simp [Addr.add, e0]
    rw [e]
set_option maxRecDepth 100000 in
theorem recVal_open {H : Type} {enc : TypeId × Value → H} {w : World} {r : Reach} {b0 base : Nat} {spare : Nat → Bool} {held : Bool} {v : Value} {d : DataW H} {p : List MemPlace} (hv : Value.okWide Try.prog w r b0 23 v) (h : DataW.Trod enc Try.prog w base spare held 23 v d p) :
    ∃ x : RecV, v = x.val ∧ True := by
  obtain ⟨cs, rfl, hsz⟩ := okWide_struct Try.underlying23 hv
  obtain ⟨c0, c1, c2, c3, c4, c5, rfl⟩ := array6 (hsz.trans (by kernel_rfl))
  obtain ⟨fuel, hf⟩ := h
  obtain ⟨x, hx⟩ := cells_rec (by rfl) hf
  refine ⟨x, ?_, trivial⟩
  simp only [Value.cells, RecV.cells, List.cons.injEq, and_true] at hx
  obtain ⟨rfl, rfl, rfl, rfl, rfl, rfl⟩ := hx
  rfl
end Go.Proofs.Ytgmdgjkmdnpmiaa
