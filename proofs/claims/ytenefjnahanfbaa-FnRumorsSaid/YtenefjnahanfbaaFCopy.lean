/- The contracts of a copy of facts, and of the faults of views. -/
import Derived.Test.YtenefjnahanfbaaVRightI
import Derived.Test.YtenefjnahanfbaaMarkF
import Derived.Test.YtenefjnahanfbaaKeep
namespace Go.Proofs.Ytenefjnahanfbaa
open Go Go.RowKit
set_option linter.unusedVariables false

/-- A whole row copied into one of one's own: elements of whatever size. -/
theorem run_copy_whole {P : Program} (w : World) (dT sT ty elem : TypeId) (size g n dCap : Nat) (a : Addr) (sCap : Nat) (cur : Array Value) (t : TypeId) (cs : List Value)
    (hu : P.underlying dT = some (.slice elem)) (hs : (P.info? elem).map (·.size) = some size)
    (hg : w.heap[g]? = some (.cells cur t (0, 0))) (hn : cs.length = n * size)
    (hsrc : ∀ j v, cs[j]? = some v → w.cell? (a.add j) = some v) (hfit : cs.length = cur.size) (h1 : ∀ v ∈ cs, v.oneCell' = true) :
    (Builtin.copy_ #[dT, sT] ty #[.slice (some ⟨g, 0, none⟩) n dCap, .slice (some a) n sCap]).run P w = .ok (goInt n) (w.setRow g cs.toArray) := by
  have hl := run_loadCells_list (P := P) w a cs hsrc
  have hst := run_storeCells_at P g 0 t cs 0 cur w hg (by simpa using Nat.le_of_eq hfit) h1
  have e : (cur.toList.take (0 + 0) ++ cs ++ cur.toList.drop (0 + 0 + cs.length)) = cs := by
    rw [Nat.zero_add, List.take_zero, List.nil_append, List.drop_eq_nil_of_le (by simp; omega), List.append_nil]
  rw [e] at hst
  cases hq : P.info? elem with
  | none => simp [hq] at hs
  | some i =>
    have hi : i.size = size := by simpa [hq] using hs
    simp [Builtin.copy_, run_underlying hu, Builtin.lenOf, Builtin.firstCells, sizeOf, typeInfo, hq, hi, ← hn, hl, hst]
theorem oneCells (x : FactV) : ∀ v ∈ x.cells, v.oneCell' = true := by
  intro v hv
  unfold FactV.cells at hv
  simp at hv
  rcases hv with rfl | rfl | rfl <;> rfl
theorem cellsOf_one (l : List FactV) : ∀ v ∈ cellsOf FactV.cells l, v.oneCell' = true := by
  intro v hv
  obtain ⟨x, _, hx⟩ := List.mem_flatMap.1 hv
  exact oneCells x v hx
theorem below_setRow {B : Nat} {a w : World} (h : Below B a w) {g : Nat} (hg : B ≤ g) (c : Array Value) : Below B a (w.setRow g c) := by
  refine h.trans ⟨rfl, rfl, rfl, ?_, fun k hk => ?_⟩
  · simp [World.setRow]
  · simp only [World.setRow, Array.getElem?_modify]
    rw [if_neg (by omega)]
theorem CellRow.reads {w : World} {ad : Addr} {cs : List Value} (h : CellRow w (some ad) cs) : ∀ j u, cs[j]? = some u → w.cell? (ad.add j) = some u := by
  intro j u hj
  obtain ⟨hlt, hv⟩ := List.getElem?_eq_some_iff.1 hj
  rcases h with h | ⟨b, off, e, _, hc⟩
  · rw [h] at hlt; simp at hlt
  · obtain rfl := Option.some.inj e
    have e2 : (⟨b, off, none⟩ : Addr).add j = ⟨b, off + j, none⟩ := by by_cases e0 : j = 0 <;> simp [Addr.add, e0]
    rw [e2, hc j hlt, hv]
/-- What is wrong with a view. -/
def FaultIs (l : List FactV) (c : Int) : Prop := (400 < l.length ∧ c = 2) ∨ (l.length ≤ 400 ∧ ¬ rightV l ∧ c = 1) ∨ (rightV l ∧ c = 0)
theorem fault_ex (l : List FactV) : ∃ c, FaultIs l c := by
  by_cases h1 : 400 < l.length
  · exact ⟨2, .inl ⟨h1, rfl⟩⟩
  · by_cases h2 : rightV l
    · exact ⟨0, .inr (.inr ⟨h2, rfl⟩)⟩
    · exact ⟨1, .inr (.inl ⟨by omega, h2, rfl⟩)⟩
def Fault2Is (l m : List FactV) (c : Int) : Prop := ((400 < l.length ∨ 400 < m.length) ∧ c = 2) ∨ (l.length ≤ 400 ∧ m.length ≤ 400 ∧ (¬ rightV l ∨ ¬ rightV m) ∧ c = 1) ∨ (rightV l ∧ rightV m ∧ c = 0)
end Go.Proofs.Ytenefjnahanfbaa
