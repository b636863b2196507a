/- The contracts of the exact laws' helpers over []int64: copy, compare, mark, held. -/
import Derived.Test.YtgmdgjkmdnpmiaaChecked
import Derived.Test.YtgmdgjkmdnpmiaaPlain1
import Derived.WalkKit
import Derived.WalkLawsBesides
import Derived.WalkSpells
import Derived.BigRegion
import Derived.OpenShut
import Derived.Deep.DeepCutAuto
import Derived.Deep.OwnRows
namespace Go.Proofs.Ytgmdgjkmdnpmiaa
open Go Go.RowKit
set_option linter.unusedVariables false

theorem Try.infoI64 : (Try.prog.info? 2).map (fun i => (i.zero, i.size, i.bytes)) = some (some (.int .i64 0), 1, 8) := by kernel_rfl
/-- A slice of numbers, to read. -/
def NumRow (w : World) (a : Option Addr) (l : List Int) : Prop :=
  l = [] ∨ ∃ b off : Nat, a = some ⟨b, off, none⟩ ∧ b < w.heap.size ∧ ∀ i (h : i < l.length), w.cell? ⟨b, off + i, none⟩ = some (.int .i64 l[i])
theorem NumRow.keep {w w' : World} {a : Option Addr} {l : List Int} (h : NumRow w a l) (hb : Below w.heap.size w w') : NumRow w' a l := by
  rcases h with h | ⟨b, off, rfl, hlt, hc⟩
  · exact .inl h
  · exact .inr ⟨b, off, rfl, Nat.lt_of_lt_of_le hlt hb.size, fun i hi => (hb.cell (p := ⟨b, off + i, none⟩) hlt).trans (hc i hi)⟩
theorem NumRow.of_row {w : World} {b t : Nat} {l : List Int} (h : w.rowIs b t l.length (fun j => .int .i64 (l.getD j 0))) : NumRow w (some ⟨b, 0, none⟩) l :=
  .inr ⟨b, 0, rfl, h.lt, fun i hi => by rw [Nat.zero_add, h.cell hi, List.getD_eq_getElem?_getD, List.getElem?_eq_getElem hi]; rfl⟩
theorem ret_boolE {x y : Bool} (h : x = y) : Ending.returned (.bool x) = .returned (.bool y) := by rw [h]
theorem ret_intE {k : IntKind} {x y : Int} (h : x = y) : Ending.returned (.int k x) = .returned (.int k y) := by rw [h]
theorem getD_at {l : List Int} {i : Nat} (h : i < l.length) : l.getD i 0 = l[i] := by rw [List.getD_eq_getElem?_getD, List.getElem?_eq_getElem h]; rfl



/-- A slice of numbers that may be written: its block is no lesser than lo. -/
def OwnNums (w : World) (lo : Nat) (a : Option Addr) (l : List Int) : Prop :=
  l = [] ∨ ∃ b off : Nat, a = some ⟨b, off, none⟩ ∧ lo ≤ b ∧ b < w.heap.size ∧ (∀ i (h : i < l.length), w.cell? ⟨b, off + i, none⟩ = some (.int .i64 l[i])) ∧ ∀ i, i < l.length → w.frozen? ⟨b, off + i, none⟩ = false
theorem OwnNums.row {w : World} {lo : Nat} {a : Option Addr} {l : List Int} (h : OwnNums w lo a l) : NumRow w a l := by
  rcases h with h | ⟨b, off, rfl, _, hlt, hc, _⟩
  · exact .inl h
  · exact .inr ⟨b, off, rfl, hlt, hc⟩
theorem OwnNums.keep {w w' : World} {lo : Nat} {a : Option Addr} {l : List Int} (h : OwnNums w lo a l) (hb : Below w.heap.size w w') : OwnNums w' lo a l := by
  rcases h with h | ⟨b, off, rfl, hlo, hlt, hc, hf⟩
  · exact .inl h
  · exact .inr ⟨b, off, rfl, hlo, Nat.lt_of_lt_of_le hlt hb.size, fun i hi => (hb.cell (p := ⟨b, off + i, none⟩) hlt).trans (hc i hi), fun i hi => (hb.frozen (p := ⟨b, off + i, none⟩) hlt).trans (hf i hi)⟩
theorem OwnNums.of_row {w : World} {lo b t : Nat} {l : List Int} (h : w.rowIs b t l.length (fun j => .int .i64 (l.getD j 0))) (hlo : lo ≤ b) : OwnNums w lo (some ⟨b, 0, none⟩) l :=
  .inr ⟨b, 0, rfl, hlo, h.lt, fun i hi => by rw [Nat.zero_add, h.cell hi, getD_at hi], fun i _ => h.frozen _⟩
/-- The marks: k, k + 1, .. -/
def marks (k : Int) (n : Nat) : List Int := List.map (fun i : Nat => k + (i : Int)) (List.range n)
theorem marks_length (k : Int) (n : Nat) : (marks k n).length = n := by simp [marks]
theorem marks_at (k : Int) (n i : Nat) (h : i < (marks k n).length) : (marks k n)[i] = k + (i : Int) := by simp [marks]

theorem marks_succ (k : Int) (n : Nat) : marks k (n + 1) = marks k n ++ [k + (n : Int)] := by simp [marks, List.range_succ]
theorem marks_step {k : Int} {n : Nat} {l : List Int} (hx : n < l.length) : (marks k n ++ l.drop n).set n (k + (n : Int)) = marks k (n + 1) ++ l.drop (n + 1) := by
  rw [List.set_append_right _ _ (by rw [marks_length]; exact Nat.le_refl _), marks_length, Nat.sub_self, List.drop_eq_getElem_cons hx, List.set_cons_zero, marks_succ, List.append_assoc]
  rfl
theorem own_step {w : World} {lo b off n : Nat} {T : List Int} (x : Int) (hn : n < T.length) (hlo : lo ≤ b) (hlt : b < w.heap.size) (hc : ∀ i (h : i < T.length), w.cell? ⟨b, off + i, none⟩ = some (.int .i64 T[i])) (hf : ∀ i, i < T.length → w.frozen? ⟨b, off + i, none⟩ = false) :
    OwnNums (w.setCell ⟨b, off + n, none⟩ (.int .i64 x)) lo (some ⟨b, off, none⟩) (T.set n x) := by
  refine .inr ⟨b, off, rfl, hlo, by simpa [World.setCell] using hlt, fun i hi => ?_, fun i hi => ?_⟩
  · have hi' : i < T.length := by rw [List.length_set] at hi; exact hi
    by_cases e : i = n
    · subst e
      rw [World.cell?_setCell_same' _ _ _ (by rw [hc i hn]; rfl)]
      simp
    · rw [World.cell?_setCell_other _ _ _ _ (fun q => e (by have := congrArg Addr.off q; simp at this; omega)), hc i hi', List.getElem_set_ne (fun q => e q.symm)]
  · rw [World.frozen?_setCell]
    exact hf i (by rw [List.length_set] at hi; exact hi)


end Go.Proofs.Ytgmdgjkmdnpmiaa
