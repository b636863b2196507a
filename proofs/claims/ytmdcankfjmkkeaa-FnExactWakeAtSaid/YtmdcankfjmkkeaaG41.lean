/- The contracts of what is asked ahead of a turn, and of the place of the next one. -/
import Derived.Test.YtmdcankfjmkkeaaTImplB
import Derived.WalkMore
import Derived.Test.YtmdcankfjmkkeaaG32
import Derived.Test.YtmdcankfjmkkeaaG38
import Derived.Test.YtmdcankfjmkkeaaG8
import Derived.Test.YtmdcankfjmkkeaaG17
namespace Go.Proofs.Ytmdcankfjmkkeaa
open Go Go.RowKit
set_option linter.unusedVariables false
set_option linter.unusedSimpArgs false

/-- The code ahead of a turn. -/
def FaultT (t : TurnV) (nodes : List Int) (seed c : Int) : Prop :=
  (400 < nodes.length ∧ c = 2) ∨ (nodes.length ≤ 400 ∧ ¬ (t.ok ∧ askT nodes seed) ∧ c = 1) ∨ (t.ok ∧ askT nodes seed ∧ nodes = [] ∧ c = 6) ∨ (t.ok ∧ askT nodes seed ∧ nodes ≠ [] ∧ c = 0)
theorem askT_iff {nodes : List Int} {seed : Int} : askT nodes seed ↔ setT nodes ∧ (0 ≤ seed ∧ seed ≤ 2147483647) := by
  unfold askT setT
  constructor
  · rintro ⟨a, b, c, d⟩; exact ⟨⟨a, b⟩, c, d⟩
  · rintro ⟨⟨a, b⟩, c, d⟩; exact ⟨a, b, c, d⟩
/-- The place of the first one that is one of nodes; behind the last one, if none is. -/
def PlaceT (row nodes : List Int) (p : Nat) : Prop := p ≤ row.length ∧ (∀ j (hj : j < row.length), j < p → row[j] ∉ nodes) ∧ ∀ h : p < row.length, row[p] ∈ nodes
end Go.Proofs.Ytmdcankfjmkkeaa
/- The contract of the program's Shuffle: it answers as the specification's. -/
namespace Go.Proofs.Ytmdcankfjmkkeaa
open Go Go.RowKit
set_option linter.unusedVariables false
set_option linter.unusedSimpArgs false

theorem NumBlk.set {w : World} {g : Nat} {m : List Int} (h : NumBlk w g m) (i : Nat) (x : Int) : NumBlk (w.setCell ⟨g, i, none⟩ (.int .i64 x)) g (m.set i x) := by
  have := heap_setCell_same w g i _ 2 (.int .i64 x) h
  have e : ((numsV m).toArray.setIfInBounds i (.int .i64 x)) = (numsV (m.set i x)).toArray := by rw [numsV_set]; simp
  rw [e] at this
  exact this
theorem NumBlk.cellD {w : World} {g : Nat} {m : List Int} (h : NumBlk w g m) {i : Nat} (hi : i < m.length) : w.cell? ⟨g, i, none⟩ = some (.int .i64 (m.getD i 0)) := by
  have h' : w.heap[g]? = some (.cells (numsV m).toArray 2 (0, 0)) := h
  rw [getD_at hi]
  simp [World.cell?, h', numsV, List.getElem?_eq_getElem hi]
theorem NumBlk.frz {w : World} {g : Nat} {m : List Int} (h : NumBlk w g m) (i : Nat) : w.frozen? ⟨g, i, none⟩ = false := frozen_of_row w g i _ _ h
/-- A block of two cells: a seed and a list. -/
def PairIs (w : World) (o : Nat) (s : Int) (v : Value) : Prop := w.cell? ⟨o, 0, none⟩ = some (.int .i64 s) ∧ w.cell? ⟨o, 1, none⟩ = some v ∧ w.frozen? ⟨o, 0, none⟩ = false ∧ w.frozen? ⟨o, 1, none⟩ = false
theorem PairIs.lt {w : World} {o : Nat} {s : Int} {v : Value} (h : PairIs w o s v) : o < w.heap.size := by
  rcases Nat.lt_or_ge o w.heap.size with k | k
  · exact k
  · have := h.1
    simp [World.cell?, Array.getElem?_eq_none k] at this
theorem PairIs.keep {w w' : World} {o : Nat} {s : Int} {v : Value} (h : PairIs w o s v) (hb : Below w.heap.size w w') : PairIs w' o s v := by
  have hl := h.lt
  obtain ⟨a, b, c, d⟩ := h
  exact ⟨(hb.cell (p := ⟨o, 0, none⟩) hl).trans a, (hb.cell (p := ⟨o, 1, none⟩) hl).trans b, (hb.frozen (p := ⟨o, 0, none⟩) hl).trans c, (hb.frozen (p := ⟨o, 1, none⟩) hl).trans d⟩
theorem PairIs.other {w : World} {o g : Nat} {s : Int} {v : Value} (h : PairIs w o s v) (hne : g ≠ o) (i : Nat) (u : Value) : PairIs (w.setCell ⟨g, i, none⟩ u) o s v := by
  obtain ⟨a, b, c, d⟩ := h
  refine ⟨?_, ?_, by rw [World.frozen?_setCell]; exact c, by rw [World.frozen?_setCell]; exact d⟩
  · rw [World.cell?_setCell_other _ _ _ _ (fun e => hne (by have := congrArg Addr.block e; simpa using this))]; exact a
  · rw [World.cell?_setCell_other _ _ _ _ (fun e => hne (by have := congrArg Addr.block e; simpa using this))]; exact b
theorem PairIs.seed {w : World} {o : Nat} {s t : Int} {v : Value} (h : PairIs w o s v) : PairIs (w.setCell ⟨o, 0, none⟩ (.int .i64 t)) o t v := by
  obtain ⟨a, b, c, d⟩ := h
  refine ⟨World.cell?_setCell_same' _ _ _ (by rw [a]; rfl), ?_, by rw [World.frozen?_setCell]; exact c, by rw [World.frozen?_setCell]; exact d⟩
  rw [World.cell?_setCell_other _ _ _ _ (fun e => by have := congrArg Addr.off e; simp at this)]; exact b
theorem NumBlk.other {w : World} {g o : Nat} {m : List Int} (h : NumBlk w g m) (hne : g ≠ o) (i : Nat) (u : Value) : NumBlk (w.setCell ⟨o, i, none⟩ u) g m := (Below.heap_setCell _ _ _ _ hne).trans h
theorem pair_new (w : World) (s : Int) (v : Value) (t : Nat) : PairIs (w.alloc (.cells #[.int .i64 s, v] t)) w.heap.size s v := by
  refine ⟨?_, ?_, ?_, ?_⟩
  · rw [World.cell?_alloc_at _ _ _ _ rfl]; rfl
  · rw [World.cell?_alloc_at _ _ _ _ rfl]; rfl
  · simp
  · simp
end Go.Proofs.Ytmdcankfjmkkeaa
/- The contracts of the program's newRound and TurnNext. -/
namespace Go.Proofs.Ytmdcankfjmkkeaa
open Go Go.RowKit
set_option linter.unusedVariables false
set_option linter.unusedSimpArgs false

end Go.Proofs.Ytmdcankfjmkkeaa
/- The contract of the program's Some. -/
namespace Go.Proofs.Ytmdcankfjmkkeaa
open Go Go.RowKit
set_option linter.unusedVariables false
set_option linter.unusedSimpArgs false

/-- What an answer of Some says, and what it owns. -/
def SomePostI (l : List Int) (s : Int) (w : World) (e : Ending) (w' : World) : Prop :=
  ∃ a cap, e = .returned (shufOut s (.slice a l.length cap)) ∧ OwnNums w' w.heap.size a l ∧ (∀ b off, a = some ⟨b, off, none⟩ → w.heap.size ≤ b ∧ b < w'.heap.size) ∧ Below w.heap.size w w'
theorem somePost_own {l : List Int} {s : Int} {w : World} {e : Ending} {w' : World} (h : SomePost l s w e w') : SomePostI l s w e w' := by
  obtain ⟨v, rfl, own, b⟩ := h
  obtain ⟨a, cap, rfl, o⟩ := own_nums own
  exact ⟨a, cap, rfl, o, fun b off e => own.lt b (by rw [e]; rfl), b⟩
theorem OwnNums.keepK {w w' : World} {lo : Nat} {a : Option Addr} {l : List Int} (h : OwnNums w lo a l) {G : Nat → Prop} (k : Keeps G w w') (hg : ∀ b, lo ≤ b → b < w.heap.size → G b) : OwnNums w' lo a l := by
  rcases h with h | ⟨b, off, rfl, hlo, hlt, hc, hf⟩
  · exact .inl h
  · exact .inr ⟨b, off, rfl, hlo, Nat.lt_of_lt_of_le hlt k.size, fun i hi => (k.cell (p := ⟨b, off + i, none⟩) hlt (hg b hlo hlt)).trans (hc i hi), fun i hi => (k.frozen (p := ⟨b, off + i, none⟩) hlt (hg b hlo hlt)).trans (hf i hi)⟩
theorem OwnNums.takeN {w : World} {lo : Nat} {a : Option Addr} {l : List Int} (h : OwnNums w lo a l) (k : Nat) (hk : k ≤ l.length) : OwnNums w lo (rowA a 0 k) (l.take k) := by
  by_cases e : k = 0
  · subst e
    exact .inl (by simp)
  · rcases h with h | ⟨b, off, rfl, hlo, hlt, hc, hf⟩
    · rw [h] at hk
      simp at hk
      exact absurd hk e
    · refine .inr ⟨b, off, by unfold rowA; rw [if_neg e]; simp [Addr.add], hlo, hlt, fun i hi => ?_, fun i hi => ?_⟩
      · rw [List.length_take] at hi
        rw [hc i (by omega)]; simp
      · rw [List.length_take] at hi
        exact hf i (by omega)
theorem OwnNums.le {w : World} {lo lo' : Nat} {a : Option Addr} {l : List Int} (h : OwnNums w lo a l) (hb : lo' ≤ lo) : OwnNums w lo' a l := by
  rcases h with h | ⟨b, off, e, hlo, r⟩
  · exact .inl h
  · exact .inr ⟨b, off, e, Nat.le_trans hb hlo, r⟩

end Go.Proofs.Ytmdcankfjmkkeaa
/- The contracts of the exact laws' helpers over what a shuffle answers. -/
namespace Go.Proofs.Ytmdcankfjmkkeaa
open Go Go.RowKit
set_option linter.unusedVariables false

theorem PairIs.beside {w w' : World} {o : Nat} {s : Int} {v : Value} (h : PairIs w o s v) (hk : w'.heap[o]? = w.heap[o]?) : PairIs w' o s v := by
  obtain ⟨a, b, c, d⟩ := h
  exact ⟨(World.cell?_of_block (a := ⟨o, 0, none⟩) hk).trans a, (World.cell?_of_block (a := ⟨o, 1, none⟩) hk).trans b, (World.frozen?_of_block (a := ⟨o, 0, none⟩) hk).trans c, (World.frozen?_of_block (a := ⟨o, 1, none⟩) hk).trans d⟩
theorem shufL_length (l : List Int) (s : Int) : (shufL l s).1.length ≤ 400 := by
  unfold shufL
  split
  · simp
  · rename_i h
    rw [mixL_length]
    omega
end Go.Proofs.Ytmdcankfjmkkeaa
