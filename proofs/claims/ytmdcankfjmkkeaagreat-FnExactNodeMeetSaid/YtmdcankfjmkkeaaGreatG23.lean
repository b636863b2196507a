/- A slice of facts, and a fact, that come in as arguments of a law. -/
import Derived.Test.YtmdcankfjmkkeaaGreatG3
import Derived.OpenShut
import Derived.Deep.Slices
import Derived.Lib.SmallJoins
import Derived.Test.YtmdcankfjmkkeaaGreatRumSpec
import Derived.Test.YtmdcankfjmkkeaaGreatG17
namespace Go.Proofs.YtmdcankfjmkkeaaGreat
open Go Go.RowKit Go.ChangeShapes Go.WideShapes Go.Deep
set_option linter.unusedVariables false

def FactArg (w : World) (a : Option Addr) (cap : Nat) (l : List FactV) : Prop := CellRow w a (cellsOf FactV.cells l) ∧ l.length ≤ maxLen ∧ l.length ≤ cap
theorem factArg_nil (w : World) : FactArg w none 0 [] := ⟨.inl rfl, Nat.zero_le _, Nat.zero_le _⟩
set_option maxRecDepth 100000 in
theorem cells_fact {H : Type} {enc : TypeId × Value → H} {w : World} {base : Nat} {spare : Nat → Bool} {held : Bool} {n : Nat} {cs : List Value} {x : DataW H × List MemPlace} (hl : cs.length = 3) (h : DataW.trod enc Tryz.prog w base spare held n 185 cs = some x) :
    ∃ d : FactV, cs = d.cells := by
  obtain ⟨y0, y1, y2, k, _, _, h0, h1, h2⟩ := trod_struct3 Tryz.underlying185 h
  match cs, hl with
  | [v0, v1, v2], _ =>
    have c1 : Tryz.prog.cellsOf 2 = 1 := by kernel_rfl
    simp only [c1, List.drop_zero, List.drop_succ_cons, List.take_succ_cons, List.take_zero] at h0 h1 h2
    obtain ⟨i0, e0, _, _⟩ := DataW.trod_int Tryz.underlying2 h0
    obtain ⟨i1, e1, _, _⟩ := DataW.trod_int Tryz.underlying2 h1
    obtain ⟨i2, e2, _, _⟩ := DataW.trod_int Tryz.underlying2 h2
    simp only [List.cons.injEq, and_true] at e0 e1 e2
    exact ⟨⟨i0, i1, i2⟩, by rw [e0, e1, e2]; rfl⟩
theorem factArg_open {H : Type} {enc : TypeId × Value → H} {w : World} {spare : Nat → Bool} {held : Bool} {fuel : Nat} {a : Option Addr} {len cap : Nat} {x : DataW H × List MemPlace} (h : DataW.trod enc Tryz.prog w 0 spare held fuel 61 [.slice a len cap] = some x) :
    ∃ l : List FactV, len = l.length ∧ FactArg w a cap l := by
  rcases open_slice Tryz.underlying61 h with ⟨hcs, _⟩ | ⟨ad, len', cap', m, n, D, Pl, hcs, _, hl, hm, hmm, _, hx⟩
  · simp only [List.cons.injEq, Value.slice.injEq, and_true] at hcs
    obtain ⟨rfl, rfl, rfl⟩ := hcs
    exact ⟨[], rfl, factArg_nil _⟩
  · simp only [List.cons.injEq, Value.slice.injEq, and_true] at hcs
    obtain ⟨rfl, rfl, rfl⟩ := hcs
    have hle : len ≤ m := by rw [hmm]; split <;> omega
    have c4 : Tryz.prog.cellsOf 185 = 3 := by kernel_rfl
    rw [c4] at hx
    have each : ∀ i, i < len → ∃ d : FactV, w.cells? 0 (ad.add (i * 3)) 3 = some d.cells := fun i hi => by
      obtain ⟨cs', h1, h2⟩ := hx i (by omega)
      obtain ⟨_, hlen, _⟩ := World.cells?_some h1
      obtain ⟨d, rfl⟩ := cells_fact hlen h2
      exact ⟨d, h1⟩
    obtain ⟨f, hf⟩ := @choose_lt FactV ⟨⟨0, 0, 0⟩⟩ len _ each
    have hlen : ((List.range len).map f).length = len := by simp
    refine ⟨(List.range len).map f, hlen.symm, ?_, by rw [hlen]; omega, by rw [hlen]; exact hl⟩
    by_cases h0 : len = 0
    · exact .inl (by subst h0; rfl)
    have hc0 := hf 0 (by omega)
    obtain ⟨_, _, hcell⟩ := World.cells?_some hc0
    have h00 := hcell 0 (by omega)
    obtain ⟨b, off, spot⟩ := ad
    have hspot : spot = none := by
      have := World.cell?_spot h00
      simpa [Addr.add] using this
    subst hspot
    have hb : b < w.heap.size := by
      rcases Nat.lt_or_ge b w.heap.size with k | k
      · exact k
      · simp [World.cell?, Addr.add, Array.getElem?_eq_none k, FactV.cells] at h00
    refine .inr ⟨b, off, rfl, hb, fun j hj => ?_⟩
    have hjl : j < len * 3 := by rw [cellsOf_length FactV.cells_len, hlen] at hj; exact hj
    have hq : j / 3 < len := by omega
    obtain ⟨_, _, hcell⟩ := World.cells?_some (hf (j / 3) hq)
    have hr := hcell (j % 3) (Nat.mod_lt _ (by omega))
    have hat := cellsOf_at FactV.cells_len ((List.range len).map f) (j / 3) (j % 3) (by rw [hlen]; exact hq) (Nat.mod_lt _ (by omega))
    rw [show j / 3 * 3 + j % 3 = j by omega, List.getElem?_eq_getElem hj] at hat
    have hg : ((List.range len).map f)[j / 3]'(by rw [hlen]; exact hq) = f (j / 3) := by simp
    rw [hg] at hat
    rw [hat, ← hr, add_add]
    have e : (⟨b, off, none⟩ : Addr).add (j / 3 * 3 + j % 3) = ⟨b, off + j, none⟩ := by
      rw [show j / 3 * 3 + j % 3 = j by omega]
      by_cases e0 : j = 0 <;> simp [Addr.add, e0]
    rw [e]
set_option maxRecDepth 100000 in
theorem factVal_open {H : Type} {enc : TypeId × Value → H} {w : World} {r : Reach} {b0 base : Nat} {spare : Nat → Bool} {held : Bool} {v : Value} {d : DataW H} {p : List MemPlace} (hv : Value.okWide Tryz.prog w r b0 185 v) (h : DataW.Trod enc Tryz.prog w base spare held 185 v d p) :
    ∃ x : FactV, v = x.val ∧ True := by
  obtain ⟨v0, v1, v2, y0, y1, y2, n, rfl, _, _, h0, h1, h2⟩ := Joins.open_agg3 Tryz.underlying185 (by kernel_rfl) (by kernel_rfl) hv h
  obtain ⟨i0, e0, _, _⟩ := DataW.trod_int Tryz.underlying2 h0
  obtain ⟨i1, e1, _, _⟩ := DataW.trod_int Tryz.underlying2 h1
  obtain ⟨i2, e2, _, _⟩ := DataW.trod_int Tryz.underlying2 h2
  simp only [List.cons.injEq, and_true] at e0 e1 e2
  exact ⟨⟨i0, i1, i2⟩, by rw [e0, e1, e2]; rfl, trivial⟩
end Go.Proofs.YtmdcankfjmkkeaaGreat
/- A slice of doubts that comes in as an argument of a law. -/
namespace Go.Proofs.YtmdcankfjmkkeaaGreat
open Go Go.RowKit Go.ChangeShapes Go.WideShapes Go.Deep
set_option linter.unusedVariables false

set_option maxRecDepth 100000 in
theorem cells_doubt {H : Type} {enc : TypeId × Value → H} {w : World} {base : Nat} {spare : Nat → Bool} {held : Bool} {n : Nat} {cs : List Value} {x : DataW H × List MemPlace} (hl : cs.length = 3) (h : DataW.trod enc Tryz.prog w base spare held n 190 cs = some x) :
    ∃ d : FactV, cs = d.cells := by
  obtain ⟨y0, y1, y2, k, _, _, h0, h1, h2⟩ := trod_struct3 Tryz.underlying190 h
  match cs, hl with
  | [v0, v1, v2], _ =>
    have c1 : Tryz.prog.cellsOf 2 = 1 := by kernel_rfl
    simp only [c1, List.drop_zero, List.drop_succ_cons, List.take_succ_cons, List.take_zero] at h0 h1 h2
    obtain ⟨i0, e0, _, _⟩ := DataW.trod_int Tryz.underlying2 h0
    obtain ⟨i1, e1, _, _⟩ := DataW.trod_int Tryz.underlying2 h1
    obtain ⟨i2, e2, _, _⟩ := DataW.trod_int Tryz.underlying2 h2
    simp only [List.cons.injEq, and_true] at e0 e1 e2
    exact ⟨⟨i0, i1, i2⟩, by rw [e0, e1, e2]; rfl⟩
theorem doubtArg_open {H : Type} {enc : TypeId × Value → H} {w : World} {spare : Nat → Bool} {held : Bool} {fuel : Nat} {a : Option Addr} {len cap : Nat} {x : DataW H × List MemPlace} (h : DataW.trod enc Tryz.prog w 0 spare held fuel 65 [.slice a len cap] = some x) :
    ∃ l : List FactV, len = l.length ∧ FactArg w a cap l := by
  rcases open_slice Tryz.underlying65 h with ⟨hcs, _⟩ | ⟨ad, len', cap', m, n, D, Pl, hcs, _, hl, hm, hmm, _, hx⟩
  · simp only [List.cons.injEq, Value.slice.injEq, and_true] at hcs
    obtain ⟨rfl, rfl, rfl⟩ := hcs
    exact ⟨[], rfl, factArg_nil _⟩
  · simp only [List.cons.injEq, Value.slice.injEq, and_true] at hcs
    obtain ⟨rfl, rfl, rfl⟩ := hcs
    have hle : len ≤ m := by rw [hmm]; split <;> omega
    have c4 : Tryz.prog.cellsOf 190 = 3 := by kernel_rfl
    rw [c4] at hx
    have each : ∀ i, i < len → ∃ d : FactV, w.cells? 0 (ad.add (i * 3)) 3 = some d.cells := fun i hi => by
      obtain ⟨cs', h1, h2⟩ := hx i (by omega)
      obtain ⟨_, hlen, _⟩ := World.cells?_some h1
      obtain ⟨d, rfl⟩ := cells_doubt hlen h2
      exact ⟨d, h1⟩
    obtain ⟨f, hf⟩ := @choose_lt FactV ⟨⟨0, 0, 0⟩⟩ len _ each
    have hlen : ((List.range len).map f).length = len := by simp
    refine ⟨(List.range len).map f, hlen.symm, ?_, by rw [hlen]; omega, by rw [hlen]; exact hl⟩
    by_cases h0 : len = 0
    · exact .inl (by subst h0; rfl)
    have hc0 := hf 0 (by omega)
    obtain ⟨_, _, hcell⟩ := World.cells?_some hc0
    have h00 := hcell 0 (by omega)
    obtain ⟨b, off, spot⟩ := ad
    have hspot : spot = none := by
      have := World.cell?_spot h00
      simpa [Addr.add] using this
    subst hspot
    have hb : b < w.heap.size := by
      rcases Nat.lt_or_ge b w.heap.size with k | k
      · exact k
      · simp [World.cell?, Addr.add, Array.getElem?_eq_none k, FactV.cells] at h00
    refine .inr ⟨b, off, rfl, hb, fun j hj => ?_⟩
    have hjl : j < len * 3 := by rw [cellsOf_length FactV.cells_len, hlen] at hj; exact hj
    have hq : j / 3 < len := by omega
    obtain ⟨_, _, hcell⟩ := World.cells?_some (hf (j / 3) hq)
    have hr := hcell (j % 3) (Nat.mod_lt _ (by omega))
    have hat := cellsOf_at FactV.cells_len ((List.range len).map f) (j / 3) (j % 3) (by rw [hlen]; exact hq) (Nat.mod_lt _ (by omega))
    rw [show j / 3 * 3 + j % 3 = j by omega, List.getElem?_eq_getElem hj] at hat
    have hg : ((List.range len).map f)[j / 3]'(by rw [hlen]; exact hq) = f (j / 3) := by simp
    rw [hg] at hat
    rw [hat, ← hr, add_add]
    have e : (⟨b, off, none⟩ : Addr).add (j / 3 * 3 + j % 3) = ⟨b, off + j, none⟩ := by
      rw [show j / 3 * 3 + j % 3 = j by omega]
      by_cases e0 : j = 0 <;> simp [Addr.add, e0]
    rw [e]
end Go.Proofs.YtmdcankfjmkkeaaGreat
/- A slice of rumors that comes in as an argument of a law. -/
namespace Go.Proofs.YtmdcankfjmkkeaaGreat
open Go Go.RowKit Go.ChangeShapes Go.WideShapes Go.Deep
set_option linter.unusedVariables false

def RumorArg (w : World) (a : Option Addr) (cap : Nat) (l : List RumV) : Prop := CellRow w a (cellsOf RumV.cells l) ∧ l.length ≤ maxLen ∧ l.length ≤ cap
theorem rumorArg_nil (w : World) : RumorArg w none 0 [] := ⟨.inl rfl, Nat.zero_le _, Nat.zero_le _⟩
set_option maxRecDepth 100000 in
theorem cells_rum {H : Type} {enc : TypeId × Value → H} {w : World} {base : Nat} {spare : Nat → Bool} {held : Bool} {n : Nat} {cs : List Value} {x : DataW H × List MemPlace} (hl : cs.length = 4) (h : DataW.trod enc Tryz.prog w base spare held n 188 cs = some x) :
    ∃ d : RumV, cs = d.cells := by
  obtain ⟨y0, y1, k, _, _, h0, h1⟩ := trod_struct2 Tryz.underlying188 h
  match cs, hl with
  | [v0, v1, v2, v3], _ =>
    have c3 : Tryz.prog.cellsOf 185 = 3 := by kernel_rfl
    have c1 : Tryz.prog.cellsOf 2 = 1 := by kernel_rfl
    simp only [c1, c3, List.drop_zero, List.drop_succ_cons, List.take_succ_cons, List.take_zero] at h0 h1
    obtain ⟨d, hd⟩ := cells_fact rfl h0
    obtain ⟨i3, e3, _, _⟩ := DataW.trod_int Tryz.underlying2 h1
    simp only [List.cons.injEq, and_true] at e3
    unfold FactV.cells at hd
    simp only [List.cons.injEq, and_true] at hd
    obtain ⟨r0, r1, r2⟩ := hd
    exact ⟨⟨d.node, d.inc, d.st, i3⟩, by rw [r0, r1, r2, e3]; rfl⟩
set_option maxRecDepth 100000 in
theorem rumorArg_open {H : Type} {enc : TypeId × Value → H} {w : World} {spare : Nat → Bool} {held : Bool} {fuel : Nat} {a : Option Addr} {len cap : Nat} {x : DataW H × List MemPlace} (h : DataW.trod enc Tryz.prog w 0 spare held fuel 62 [.slice a len cap] = some x) :
    ∃ l : List RumV, len = l.length ∧ RumorArg w a cap l := by
  rcases open_slice Tryz.underlying62 h with ⟨hcs, _⟩ | ⟨ad, len', cap', m, n, D, Pl, hcs, _, hl, hm, hmm, _, hx⟩
  · simp only [List.cons.injEq, Value.slice.injEq, and_true] at hcs
    obtain ⟨rfl, rfl, rfl⟩ := hcs
    exact ⟨[], rfl, rumorArg_nil _⟩
  · simp only [List.cons.injEq, Value.slice.injEq, and_true] at hcs
    obtain ⟨rfl, rfl, rfl⟩ := hcs
    have hle : len ≤ m := by rw [hmm]; split <;> omega
    have c4 : Tryz.prog.cellsOf 188 = 4 := by kernel_rfl
    rw [c4] at hx
    have each : ∀ i, i < len → ∃ d : RumV, w.cells? 0 (ad.add (i * 4)) 4 = some d.cells := fun i hi => by
      obtain ⟨cs', h1, h2⟩ := hx i (by omega)
      obtain ⟨_, hlen, _⟩ := World.cells?_some h1
      obtain ⟨d, rfl⟩ := cells_rum hlen h2
      exact ⟨d, h1⟩
    obtain ⟨f, hf⟩ := @choose_lt RumV ⟨⟨0, 0, 0, 0⟩⟩ len _ each
    have hlen : ((List.range len).map f).length = len := by simp
    refine ⟨(List.range len).map f, hlen.symm, ?_, by rw [hlen]; omega, by rw [hlen]; exact hl⟩
    by_cases h0 : len = 0
    · exact .inl (by subst h0; rfl)
    have hc0 := hf 0 (by omega)
    obtain ⟨_, _, hcell⟩ := World.cells?_some hc0
    have h00 := hcell 0 (by omega)
    obtain ⟨b, off, spot⟩ := ad
    have hspot : spot = none := by
      have := World.cell?_spot h00
      simpa [Addr.add] using this
    subst hspot
    have hb : b < w.heap.size := by
      rcases Nat.lt_or_ge b w.heap.size with k | k
      · exact k
      · simp [World.cell?, Addr.add, Array.getElem?_eq_none k, RumV.cells] at h00
    refine .inr ⟨b, off, rfl, hb, fun j hj => ?_⟩
    have hjl : j < len * 4 := by rw [cellsOf_length RumV.cells_len, hlen] at hj; exact hj
    have hq : j / 4 < len := by omega
    obtain ⟨_, _, hcell⟩ := World.cells?_some (hf (j / 4) hq)
    have hr := hcell (j % 4) (Nat.mod_lt _ (by omega))
    have hat := cellsOf_at RumV.cells_len ((List.range len).map f) (j / 4) (j % 4) (by rw [hlen]; exact hq) (Nat.mod_lt _ (by omega))
    rw [show j / 4 * 4 + j % 4 = j by omega, List.getElem?_eq_getElem hj] at hat
    have hg : ((List.range len).map f)[j / 4]'(by rw [hlen]; exact hq) = f (j / 4) := by simp
    rw [hg] at hat
    rw [hat, ← hr, add_add]
    have e : (⟨b, off, none⟩ : Addr).add (j / 4 * 4 + j % 4) = ⟨b, off + j, none⟩ := by
      rw [show j / 4 * 4 + j % 4 = j by omega]
      by_cases e0 : j = 0 <;> simp [Addr.add, e0]
    rw [e]
end Go.Proofs.YtmdcankfjmkkeaaGreat
/- A mail that comes in as an argument of a law; a struct's fields, however many. -/
namespace Go.Proofs.YtmdcankfjmkkeaaGreat
open Go Go.RowKit Go.ChangeShapes Go.WideShapes Go.Deep
set_option linter.unusedVariables false

set_option maxRecDepth 100000 in
theorem trod_fields {H : Type} {enc : TypeId × Value → H} {P : Program} {w : World} {base : Nat} {spare : Nat → Bool} {held : Bool} {t : TypeId} {fs : Array Field} {fuel : Nat} {cs : List Value} {x : DataW H × List MemPlace} (ht : P.underlying t = some (.struct fs)) (h : DataW.trod enc P w base spare held fuel t cs = some x) :
    cs.length = P.cellsOf t ∧ ∃ n, ∀ (i : Nat) (f : Field), fs[i]? = some f → ∃ y, DataW.trod enc P w base spare held n f.type ((cs.drop f.offset).take (P.cellsOf f.type)) = some y := by
  obtain ⟨xs, n, _, rfl, hl, hlen, hf⟩ := DataW.trod_struct ht h
  refine ⟨hl, n, fun i f hi => ?_⟩
  have hif : i < fs.size := (Array.getElem?_eq_some_iff.1 hi).1
  have := hf i f hi
  rw [List.getElem?_eq_getElem (by omega)] at this
  exact ⟨_, this⟩
set_option maxRecDepth 100000 in
theorem array7 {α : Type} {cs : Array α} (h : cs.size = 7) : ∃ c0 c1 c2 c3 c4 c5 c6, cs = #[c0, c1, c2, c3, c4, c5, c6] := by
  obtain ⟨l⟩ := cs
  match l, h with
  | [c0, c1, c2, c3, c4, c5, c6], _ => exact ⟨c0, c1, c2, c3, c4, c5, c6, rfl⟩
/-- A mail, and where its facts lie. -/
structure MailA where
  k : Int
  f : Int
  t : Int
  n : Int
  a : Int
  r : Int
  p : Option Addr
  cap : Nat
  l : List FactV
def MailA.val (m : MailA) : Value := .agg #[.int .i64 m.k, .int .i64 m.f, .int .i64 m.t, .int .i64 m.n, .int .i64 m.a, .int .i64 m.r, .slice m.p m.l.length m.cap]
/-- The numbers are such. -/
def MailA.wf (m : MailA) : Prop := (Lit.int .i64 m.k).wf = true ∧ (Lit.int .i64 m.f).wf = true ∧ (Lit.int .i64 m.t).wf = true ∧ (Lit.int .i64 m.n).wf = true ∧ (Lit.int .i64 m.a).wf = true ∧ (Lit.int .i64 m.r).wf = true
set_option maxRecDepth 100000 in
theorem mailVal_open {H : Type} {enc : TypeId × Value → H} {w : World} {r : Reach} {b0 : Nat} {spare : Nat → Bool} {held : Bool} {v : Value} {d : DataW H} {p : List MemPlace} (hv : Value.okWide Tryz.prog w r b0 75 v) (h : DataW.Trod enc Tryz.prog w 0 spare held 75 v d p) :
    ∃ m : MailA, v = m.val ∧ (FactArg w m.p m.cap m.l ∧ m.wf) := by
  obtain ⟨cs, rfl, hsz⟩ := okWide_struct Tryz.underlying75 hv
  obtain ⟨c0, c1, c2, c3, c4, c5, c6, rfl⟩ := array7 (hsz.trans (by kernel_rfl))
  obtain ⟨fuel, hf⟩ := h
  obtain ⟨_, n, hx⟩ := trod_fields Tryz.underlying75 hf
  have k1 : Tryz.prog.cellsOf 2 = 1 := by kernel_rfl
  have k2 : Tryz.prog.cellsOf 61 = 1 := by kernel_rfl
  obtain ⟨y0, h0⟩ := hx 0 _ rfl
  obtain ⟨y1, h1⟩ := hx 1 _ rfl
  obtain ⟨y2, h2⟩ := hx 2 _ rfl
  obtain ⟨y3, h3⟩ := hx 3 _ rfl
  obtain ⟨y4, h4⟩ := hx 4 _ rfl
  obtain ⟨y5, h5⟩ := hx 5 _ rfl
  obtain ⟨y6, h6⟩ := hx 6 _ rfl
  simp [Value.cells, k1, k2] at h0 h1 h2 h3 h4 h5 h6
  obtain ⟨i0, e0, _, w0⟩ := DataW.trod_int Tryz.underlying2 h0
  obtain ⟨i1, e1, _, w1⟩ := DataW.trod_int Tryz.underlying2 h1
  obtain ⟨i2, e2, _, w2⟩ := DataW.trod_int Tryz.underlying2 h2
  obtain ⟨i3, e3, _, w3⟩ := DataW.trod_int Tryz.underlying2 h3
  obtain ⟨i4, e4, _, w4⟩ := DataW.trod_int Tryz.underlying2 h4
  obtain ⟨i5, e5, _, w5⟩ := DataW.trod_int Tryz.underlying2 h5
  obtain ⟨a, len, cap, e6⟩ := Joins.slice_form Tryz.underlying61 h6
  simp only [List.cons.injEq, and_true] at e0 e1 e2 e3 e4 e5 e6
  subst e6
  obtain ⟨l, rfl, hl⟩ := factArg_open h6
  exact ⟨⟨i0, i1, i2, i3, i4, i5, a, cap, l⟩, by rw [e0, e1, e2, e3, e4, e5]; rfl, hl, w0, w1, w2, w3, w4, w5⟩
end Go.Proofs.YtmdcankfjmkkeaaGreat
