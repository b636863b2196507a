/- The contracts of a copy of facts, and of the faults of views. -/
import Derived.Test.YtpjdkgcdkfmkiaaDoorVRightI
import Derived.Test.YtpjdkgcdkfmkiaaDoorMarkF
import Derived.Test.YtpjdkgcdkfmkiaaDoorKeep
import Derived.Test.YtpjdkgcdkfmkiaaDoorSlc
import Derived.Test.YtpjdkgcdkfmkiaaDoorG26
import Derived.Laws.Externs
import Derived.Shelf.RegionOpenPlain
namespace Go.Proofs.YtpjdkgcdkfmkiaaDoor
open Go Go.RowKit
set_option linter.unusedVariables false

/-- A whole row copied into one of one's own: elements of whatever size. -/
theorem run_copy_whole {P : Program} (w : World) (dT sT ty elem : TypeId) (size g n dCap : Nat) (a : Addr) (sCap : Nat) (cur : Array Value) (t : TypeId) (cs : List Value)
    (hu : P.underlying dT = some (.slice elem)) (hs : (P.info? elem).map (·.size) = some size)
    (hg : w.heap[g]? = some (.cells cur t (0, 0))) (hn : cs.length = n * size)
    (hsrc : ∀ j v, cs[j]? = some v → w.cell? (a.add j) = some v) (hfit : cs.length = cur.size) (h1 : ∀ v ∈ cs, v.oneCell' = true) :
    (Builtin.copy_ #[dT, sT] ty #[.slice (some ⟨g, 0, none⟩) n dCap, .slice (some a) n sCap]).run P w = .ok (goInt n) (w.setRow g cs.toArray) := by
  have hl := run_loadCells_list (P := P) w a cs hsrc
  have hst := run_storeCells_at P g 0 t cs 0 cur w hg (by simpa using Nat.le_of_eq hfit) h1
  have e : (cur.toList.take (0 + 0) ++ cs ++ cur.toList.drop (0 + 0 + cs.length)) = cs := by
    rw [Nat.zero_add, List.take_zero, List.nil_append, List.drop_eq_nil_of_le (by simp; omega), List.append_nil]
  rw [e] at hst
  cases hq : P.info? elem with
  | none => simp [hq] at hs
  | some i =>
    have hi : i.size = size := by simpa [hq] using hs
    simp [Builtin.copy_, run_underlying hu, Builtin.lenOf, Builtin.firstCells, sizeOf, typeInfo, hq, hi, ← hn, hl, hst]
theorem oneCells (x : FactV) : ∀ v ∈ x.cells, v.oneCell' = true := by
  intro v hv
  unfold FactV.cells at hv
  simp at hv
  rcases hv with rfl | rfl | rfl <;> rfl
theorem cellsOf_one (l : List FactV) : ∀ v ∈ cellsOf FactV.cells l, v.oneCell' = true := by
  intro v hv
  obtain ⟨x, _, hx⟩ := List.mem_flatMap.1 hv
  exact oneCells x v hx
theorem below_setRow {B : Nat} {a w : World} (h : Below B a w) {g : Nat} (hg : B ≤ g) (c : Array Value) : Below B a (w.setRow g c) := by
  refine h.trans ⟨rfl, rfl, rfl, ?_, fun k hk => ?_⟩
  · simp [World.setRow]
  · simp only [World.setRow, Array.getElem?_modify]
    rw [if_neg (by omega)]
theorem CellRow.reads {w : World} {ad : Addr} {cs : List Value} (h : CellRow w (some ad) cs) : ∀ j u, cs[j]? = some u → w.cell? (ad.add j) = some u := by
  intro j u hj
  obtain ⟨hlt, hv⟩ := List.getElem?_eq_some_iff.1 hj
  rcases h with h | ⟨b, off, e, _, hc⟩
  · rw [h] at hlt; simp at hlt
  · obtain rfl := Option.some.inj e
    have e2 : (⟨b, off, none⟩ : Addr).add j = ⟨b, off + j, none⟩ := by by_cases e0 : j = 0 <;> simp [Addr.add, e0]
    rw [e2, hc j hlt, hv]
/-- What is wrong with a view. -/
def FaultIs (l : List FactV) (c : Int) : Prop := (400 < l.length ∧ c = 2) ∨ (l.length ≤ 400 ∧ ¬ rightV l ∧ c = 1) ∨ (rightV l ∧ c = 0)
theorem fault_ex (l : List FactV) : ∃ c, FaultIs l c := by
  by_cases h1 : 400 < l.length
  · exact ⟨2, .inl ⟨h1, rfl⟩⟩
  · by_cases h2 : rightV l
    · exact ⟨0, .inr (.inr ⟨h2, rfl⟩)⟩
    · exact ⟨1, .inr (.inl ⟨by omega, h2, rfl⟩)⟩
def Fault2Is (l m : List FactV) (c : Int) : Prop := ((400 < l.length ∨ 400 < m.length) ∧ c = 2) ∨ (l.length ≤ 400 ∧ m.length ≤ 400 ∧ (¬ rightV l ∨ ¬ rightV m) ∧ c = 1) ∨ (rightV l ∧ rightV m ∧ c = 0)
end Go.Proofs.YtpjdkgcdkfmkiaaDoor
/- The contract of slices.Insert over facts: one is put, in place or into new memory. -/
namespace Go.Proofs.YtpjdkgcdkfmkiaaDoor
open Go Go.RowKit
set_option linter.unusedVariables false

/-- One put among others. -/
def insF (l : List FactV) (f : FactV) (k : Nat) : List FactV := l.take k ++ f :: l.drop k
theorem insF_len (l : List FactV) (f : FactV) (k : Nat) : (insF l f k).length = l.length + 1 := by
  unfold insF
  rw [List.length_append, List.length_take, List.length_cons, List.length_drop]
  omega
theorem insF_cells (l : List FactV) (f : FactV) (k : Nat) : cellsOf FactV.cells (insF l f k) = cellsOf FactV.cells (l.take k) ++ (f.cells ++ cellsOf FactV.cells (l.drop k)) := by
  unfold insF
  rw [cellsOf_append]
  rfl
/-- What an Insert answers. -/
def InsPost (base : Nat) (v : Value) (l : List FactV) (w : World) (e : Ending) (w' : World) : Prop := ∃ v', e = .returned v' ∧ w'.ownsRow base 43 3 v' l.length (cellsOf FactV.cells l) ∧ Keeps (fun q => v.ownBlock ≠ some q) w w'
theorem fcells_src {w : World} {b : Nat} {f : FactV} (h : BlkIs w b 43 #[.int .i64 f.node, .int .i64 f.inc, .int .i64 f.st]) : ∀ j u, f.cells[j]? = some u → w.cell? ((⟨b, 0, none⟩ : Addr).add j) = some u := by
  intro j u hj
  have e : (⟨b, 0, none⟩ : Addr).add j = ⟨b, j, none⟩ := by by_cases e0 : j = 0 <;> simp [Addr.add, e0]
  rw [e, h.cell]
  simpa [FactV.cells] using hj
theorem info_partsF : ∃ i, Tryd.prog.info? 43 = some i ∧ i.zero = some (.agg #[.int .i64 0, .int .i64 0, .int .i64 0]) ∧ i.size = 3 ∧ i.bytes = 24 := by
  obtain ⟨i, hi, hz⟩ := Option.map_eq_some_iff.1 Tryd.infoFact
  simp only [Prod.mk.injEq] at hz
  exact ⟨i, hi, hz.1, hz.2.1, hz.2.2⟩
theorem size3F : (Tryd.prog.info? 43).map (·.size) = some 3 := by
  obtain ⟨i, hi, _, hs, _⟩ := info_partsF
  rw [hi]; simp [hs]
theorem zero_cells3 (k : Nat) : (Builtin.zeroCells (Value.agg #[.int .i64 0, .int .i64 0, .int .i64 0]).cells k).size = k * 3 := by
  rw [size_zeroCells]; rfl
end Go.Proofs.YtpjdkgcdkfmkiaaDoor
