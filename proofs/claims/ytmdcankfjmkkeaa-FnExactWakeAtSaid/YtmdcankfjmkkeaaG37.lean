/- A slice of rumors that comes in as an argument of a law. -/
import Derived.Test.YtmdcankfjmkkeaaRumSpec
import Derived.Test.YtmdcankfjmkkeaaG36
import Derived.Test.YtmdcankfjmkkeaaMPlain
namespace Go.Proofs.Ytmdcankfjmkkeaa
open Go Go.RowKit Go.ChangeShapes Go.WideShapes Go.Deep
set_option linter.unusedVariables false

def RumorArg (w : World) (a : Option Addr) (cap : Nat) (l : List RumV) : Prop := CellRow w a (cellsOf RumV.cells l) ∧ l.length ≤ maxLen ∧ l.length ≤ cap
theorem rumorArg_nil (w : World) : RumorArg w none 0 [] := ⟨.inl rfl, Nat.zero_le _, Nat.zero_le _⟩
set_option maxRecDepth 100000 in
theorem cells_rum {H : Type} {enc : TypeId × Value → H} {w : World} {base : Nat} {spare : Nat → Bool} {held : Bool} {n : Nat} {cs : List Value} {x : DataW H × List MemPlace} (hl : cs.length = 4) (h : DataW.trod enc Try.prog w base spare held n 99 cs = some x) :
    ∃ d : RumV, cs = d.cells := by
  obtain ⟨y0, y1, k, _, _, h0, h1⟩ := trod_struct2 Try.underlying99 h
  match cs, hl with
  | [v0, v1, v2, v3], _ =>
    have c3 : Try.prog.cellsOf 96 = 3 := by kernel_rfl
    have c1 : Try.prog.cellsOf 2 = 1 := by kernel_rfl
    simp only [c1, c3, List.drop_zero, List.drop_succ_cons, List.take_succ_cons, List.take_zero] at h0 h1
    obtain ⟨d, hd⟩ := cells_fact rfl h0
    obtain ⟨i3, e3, _, _⟩ := DataW.trod_int Try.underlying2 h1
    simp only [List.cons.injEq, and_true] at e3
    unfold FactV.cells at hd
    simp only [List.cons.injEq, and_true] at hd
    obtain ⟨r0, r1, r2⟩ := hd
    exact ⟨⟨d.node, d.inc, d.st, i3⟩, by rw [r0, r1, r2, e3]; rfl⟩
set_option maxRecDepth 100000 in
theorem rumorArg_open {H : Type} {enc : TypeId × Value → H} {w : World} {spare : Nat → Bool} {held : Bool} {fuel : Nat} {a : Option Addr} {len cap : Nat} {x : DataW H × List MemPlace} (h : DataW.trod enc Try.prog w 0 spare held fuel 23 [.slice a len cap] = some x) :
    ∃ l : List RumV, len = l.length ∧ RumorArg w a cap l := by
  rcases open_slice Try.underlying23 h with ⟨hcs, _⟩ | ⟨ad, len', cap', m, n, D, Pl, hcs, _, hl, hm, hmm, _, hx⟩
  · simp only [List.cons.injEq, Value.slice.injEq, and_true] at hcs
    obtain ⟨rfl, rfl, rfl⟩ := hcs
    exact ⟨[], rfl, rumorArg_nil _⟩
  · simp only [List.cons.injEq, Value.slice.injEq, and_true] at hcs
    obtain ⟨rfl, rfl, rfl⟩ := hcs
    have hle : len ≤ m := by rw [hmm]; split <;> omega
    have c4 : Try.prog.cellsOf 99 = 4 := by kernel_rfl
    rw [c4] at hx
    have each : ∀ i, i < len → ∃ d : RumV, w.cells? 0 (ad.add (i * 4)) 4 = some d.cells := fun i hi => by
      obtain ⟨cs', h1, h2⟩ := hx i (by omega)
      obtain ⟨_, hlen, _⟩ := World.cells?_some h1
      obtain ⟨d, rfl⟩ := cells_rum hlen h2
      exact ⟨d, h1⟩
    obtain ⟨f, hf⟩ := @choose_lt RumV ⟨⟨0, 0, 0, 0⟩⟩ len _ each
    have hlen : ((List.range len).map f).length = len := by simp
    refine ⟨(List.range len).map f, hlen.symm, ?_, by rw [hlen]; omega, by rw [hlen]; exact hl⟩
    by_cases h0 : len = 0
    · exact .inl (by subst h0; rfl)
    have hc0 := hf 0 (by omega)
    obtain ⟨_, _, hcell⟩ := World.cells?_some hc0
    have h00 := hcell 0 (by omega)
    obtain ⟨b, off, spot⟩ := ad
    have hspot : spot = none := by
      have := World.cell?_spot h00
      simpa [Addr.add] using this
    subst hspot
    have hb : b < w.heap.size := by
      rcases Nat.lt_or_ge b w.heap.size with k | k
      · exact k
      · simp [World.cell?, Addr.add, Array.getElem?_eq_none k, RumV.cells] at h00
    refine .inr ⟨b, off, rfl, hb, fun j hj => ?_⟩
    have hjl : j < len * 4 := by rw [cellsOf_length RumV.cells_len, hlen] at hj; exact hj
    have hq : j / 4 < len := by omega
    obtain ⟨_, _, hcell⟩ := World.cells?_some (hf (j / 4) hq)
    have hr := hcell (j % 4) (Nat.mod_lt _ (by omega))
    have hat := cellsOf_at RumV.cells_len ((List.range len).map f) (j / 4) (j % 4) (by rw [hlen]; exact hq) (Nat.mod_lt _ (by omega))
    rw [show j / 4 * 4 + j % 4 = j by omega, List.getElem?_eq_getElem hj] at hat
    have hg : ((List.range len).map f)[j / 4]'(by rw [hlen]; exact hq) = f (j / 4) := by simp
    rw [hg] at hat
    rw [hat, ← hr, add_add]
    have e : (⟨b, off, none⟩ : Addr).add (j / 4 * 4 + j % 4) = ⟨b, off + j, none⟩ := by
      rw [show j / 4 * 4 + j % 4 = j by omega]
      by_cases e0 : j = 0 <;> simp [Addr.add, e0]
    rw [e]
end Go.Proofs.Ytmdcankfjmkkeaa
/- A mail that comes in as an argument of a law; a struct's fields, however many. -/
namespace Go.Proofs.Ytmdcankfjmkkeaa
open Go Go.RowKit Go.ChangeShapes Go.WideShapes Go.Deep
set_option linter.unusedVariables false

theorem trod_fields {H : Type} {enc : TypeId × Value → H} {P : Program} {w : World} {base : Nat} {spare : Nat → Bool} {held : Bool} {t : TypeId} {fs : Array Field} {fuel : Nat} {cs : List Value} {x : DataW H × List MemPlace} (ht : P.underlying t = some (.struct fs)) (h : DataW.trod enc P w base spare held fuel t cs = some x) :
    cs.length = P.cellsOf t ∧ ∃ n, ∀ (i : Nat) (f : Field), fs[i]? = some f → ∃ y, DataW.trod enc P w base spare held n f.type ((cs.drop f.offset).take (P.cellsOf f.type)) = some y := by
  obtain ⟨xs, n, _, rfl, hl, hlen, hf⟩ := DataW.trod_struct ht h
  refine ⟨hl, n, fun i f hi => ?_⟩
  have hif : i < fs.size := (Array.getElem?_eq_some_iff.1 hi).1
  have := hf i f hi
  rw [List.getElem?_eq_getElem (by omega)] at this
  exact ⟨_, this⟩
theorem array7 {α : Type} {cs : Array α} (h : cs.size = 7) : ∃ c0 c1 c2 c3 c4 c5 c6, cs = #[c0, c1, c2, c3, c4, c5, c6] := by
  obtain ⟨l⟩ := cs
  match l, h with
  | [c0, c1, c2, c3, c4, c5, c6], _ => exact ⟨c0, c1, c2, c3, c4, c5, c6, rfl⟩
/-- A mail, and where its facts lie. -/
structure MailA where
  k : Int
  f : Int
  t : Int
  n : Int
  a : Int
  r : Int
  p : Option Addr
  cap : Nat
  l : List FactV
def MailA.val (m : MailA) : Value := .agg #[.int .i64 m.k, .int .i64 m.f, .int .i64 m.t, .int .i64 m.n, .int .i64 m.a, .int .i64 m.r, .slice m.p m.l.length m.cap]
/-- The numbers are such. -/
def MailA.wf (m : MailA) : Prop := (Lit.int .i64 m.k).wf = true ∧ (Lit.int .i64 m.f).wf = true ∧ (Lit.int .i64 m.t).wf = true ∧ (Lit.int .i64 m.n).wf = true ∧ (Lit.int .i64 m.a).wf = true ∧ (Lit.int .i64 m.r).wf = true
end Go.Proofs.Ytmdcankfjmkkeaa
