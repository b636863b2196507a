/- A slice of items, and an item, that come in as arguments of a law. -/
import Derived.Test.YtddlccepgeekcaaDoorItSpec
import Derived.OpenShut
import Derived.Deep.Slices
import Derived.Lib.SmallJoins
namespace Go.Proofs.YtddlccepgeekcaaDoor
open Go Go.RowKit Go.ChangeShapes Go.WideShapes Go.Deep
set_option linter.unusedVariables false

def ItemArg (w : World) (a : Option Addr) (cap : Nat) (l : List ItemV) : Prop := CellRow w a (cellsOf ItemV.cells l) ∧ l.length ≤ maxLen ∧ l.length ≤ cap
theorem itemArg_nil (w : World) : ItemArg w none 0 [] := ⟨.inl rfl, Nat.zero_le _, Nat.zero_le _⟩
set_option maxRecDepth 100000 in
theorem cells_item {H : Type} {enc : TypeId × Value → H} {w : World} {base : Nat} {spare : Nat → Bool} {held : Bool} {n : Nat} {cs : List Value} {x : DataW H × List MemPlace} (hl : cs.length = 4) (h : DataW.trod enc Tryd.prog w base spare held n 35 cs = some x) :
    ∃ d : ItemV, cs = d.cells := by
  obtain ⟨y0, y1, y2, y3, k, _, _, h0, h1, h2, h3⟩ := Joins.trod_struct4 Tryd.underlying35 h
  match cs, hl with
  | [v0, v1, v2, v3], _ =>
    have c1 : Tryd.prog.cellsOf 2 = 1 := by kernel_rfl
    simp only [c1, List.drop_zero, List.drop_succ_cons, List.take_succ_cons, List.take_zero] at h0 h1 h2 h3
    obtain ⟨i0, e0, _, _⟩ := DataW.trod_int Tryd.underlying2 h0
    obtain ⟨i1, e1, _, _⟩ := DataW.trod_int Tryd.underlying2 h1
    obtain ⟨i2, e2, _, _⟩ := DataW.trod_int Tryd.underlying2 h2
    obtain ⟨i3, e3, _, _⟩ := DataW.trod_int Tryd.underlying2 h3
    simp only [List.cons.injEq, and_true] at e0 e1 e2 e3
    exact ⟨⟨i0, i1, i2, i3⟩, by rw [e0, e1, e2, e3]; rfl⟩
set_option maxRecDepth 100000 in
theorem itemArg_open {H : Type} {enc : TypeId × Value → H} {w : World} {spare : Nat → Bool} {held : Bool} {fuel : Nat} {a : Option Addr} {len cap : Nat} {x : DataW H × List MemPlace} (h : DataW.trod enc Tryd.prog w 0 spare held fuel 22 [.slice a len cap] = some x) :
    ∃ l : List ItemV, len = l.length ∧ ItemArg w a cap l := by
  rcases open_slice Tryd.underlying22 h with ⟨hcs, _⟩ | ⟨ad, len', cap', m, n, D, Pl, hcs, _, hl, hm, hmm, _, hx⟩
  · simp only [List.cons.injEq, Value.slice.injEq, and_true] at hcs
    obtain ⟨rfl, rfl, rfl⟩ := hcs
    exact ⟨[], rfl, itemArg_nil _⟩
  · simp only [List.cons.injEq, Value.slice.injEq, and_true] at hcs
    obtain ⟨rfl, rfl, rfl⟩ := hcs
    have hle : len ≤ m := by rw [hmm]; split <;> omega
    have c4 : Tryd.prog.cellsOf 35 = 4 := by kernel_rfl
    rw [c4] at hx
    have each : ∀ i, i < len → ∃ d : ItemV, w.cells? 0 (ad.add (i * 4)) 4 = some d.cells := fun i hi => by
      obtain ⟨cs', h1, h2⟩ := hx i (by omega)
      obtain ⟨_, hlen, _⟩ := World.cells?_some h1
      obtain ⟨d, rfl⟩ := cells_item hlen h2
      exact ⟨d, h1⟩
    obtain ⟨f, hf⟩ := @choose_lt ItemV ⟨⟨0, 0, 0, 0⟩⟩ len _ each
    have hlen : ((List.range len).map f).length = len := by simp
    refine ⟨(List.range len).map f, hlen.symm, ?_, by rw [hlen]; omega, by rw [hlen]; exact hl⟩
    by_cases h0 : len = 0
    · exact .inl (by subst h0; rfl)
    have hc0 := hf 0 (by omega)
    obtain ⟨_, _, hcell⟩ := World.cells?_some hc0
    have h00 := hcell 0 (by omega)
    obtain ⟨b, off, spot⟩ := ad
    have hspot : spot = none := by
      have := World.cell?_spot h00
      simpa [Addr.add] using this
    subst hspot
    have hb : b < w.heap.size := by
      rcases Nat.lt_or_ge b w.heap.size with k | k
      · exact k
      · simp [World.cell?, Addr.add, Array.getElem?_eq_none k, ItemV.cells] at h00
    refine .inr ⟨b, off, rfl, hb, fun j hj => ?_⟩
    have hjl : j < len * 4 := by rw [cellsOf_length ItemV.cells_len, hlen] at hj; exact hj
    have hq : j / 4 < len := by omega
    obtain ⟨_, _, hcell⟩ := World.cells?_some (hf (j / 4) hq)
    have hr := hcell (j % 4) (Nat.mod_lt _ (by omega))
    have hat := cellsOf_at ItemV.cells_len ((List.range len).map f) (j / 4) (j % 4) (by rw [hlen]; exact hq) (Nat.mod_lt _ (by omega))
    rw [show j / 4 * 4 + j % 4 = j by omega, List.getElem?_eq_getElem hj] at hat
    have hg : ((List.range len).map f)[j / 4]'(by rw [hlen]; exact hq) = f (j / 4) := by simp
    rw [hg] at hat
    rw [hat, ← hr, add_add]
    have e : (⟨b, off, none⟩ : Addr).add (j / 4 * 4 + j % 4) = ⟨b, off + j, none⟩ := by
      rw [show j / 4 * 4 + j % 4 = j by omega]
      by_cases e0 : j = 0 <;> simp [Addr.add, e0]
    rw [e]
theorem itemVal_open {H : Type} {enc : TypeId × Value → H} {w : World} {r : Reach} {b0 base : Nat} {spare : Nat → Bool} {held : Bool} {v : Value} {d : DataW H} {p : List MemPlace} (hv : Value.okWide Tryd.prog w r b0 35 v) (h : DataW.Trod enc Tryd.prog w base spare held 35 v d p) :
    ∃ x : ItemV, v = x.val ∧ True := by
  obtain ⟨v0, v1, v2, v3, y0, y1, y2, y3, n, rfl, _, _, h0, h1, h2, h3⟩ := Joins.open_agg4 Tryd.underlying35 (by kernel_rfl) (by kernel_rfl) hv h
  obtain ⟨i0, e0, _, _⟩ := DataW.trod_int Tryd.underlying2 h0
  obtain ⟨i1, e1, _, _⟩ := DataW.trod_int Tryd.underlying2 h1
  obtain ⟨i2, e2, _, _⟩ := DataW.trod_int Tryd.underlying2 h2
  obtain ⟨i3, e3, _, _⟩ := DataW.trod_int Tryd.underlying2 h3
  simp only [List.cons.injEq, and_true] at e0 e1 e2 e3
  exact ⟨⟨i0, i1, i2, i3⟩, by rw [e0, e1, e2, e3]; rfl, trivial⟩
end Go.Proofs.YtddlccepgeekcaaDoor
