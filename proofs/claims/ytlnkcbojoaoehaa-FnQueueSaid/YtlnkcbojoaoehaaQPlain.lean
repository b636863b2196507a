/- What is due, in order: plain. No program. -/
import Derived.Test.YtlnkcbojoaoehaaDueSpec
namespace Go.Proofs.Ytlnkcbojoaoehaa
open Go Go.RowKit
set_option linter.unusedVariables false

/-- What cmp.Compare tells of two numbers. -/
def ordI (a b : Int) : Int := if a < b then -1 else if b < a then 1 else 0
/-- What is due ahead of another. -/
def DueV.lt (x y : DueV) : Prop := x.at0 < y.at0 ∨ (x.at0 = y.at0 ∧ x.seq < y.seq)
theorem DueV.lt_irrefl (x : DueV) : ¬ x.lt x := by unfold DueV.lt; omega
theorem DueV.lt_trans {x y z : DueV} (h : x.lt y) (k : y.lt z) : x.lt z := by unfold DueV.lt at *; omega
theorem DueV.nlt_trans {x y z : DueV} (h : ¬ x.lt y) (k : ¬ y.lt z) : ¬ x.lt z := by unfold DueV.lt at *; omega
theorem DueV.lt_nlt {x y : DueV} (h : x.lt y) : ¬ y.lt x := by unfold DueV.lt at *; omega
/-- The first that is not zero. -/
def orI (a b : Int) : Int := if a = 0 then b else a
/-- What the program's order of two tells. -/
def ordD (x y : DueV) : Int := orI (ordI x.at0 y.at0) (ordI x.seq y.seq)
theorem ordI_cases (a b : Int) : (ordI a b = -1 ∧ a < b) ∨ (ordI a b = 1 ∧ b < a) ∨ (ordI a b = 0 ∧ a = b) := by
  unfold ordI
  by_cases h : a < b
  · exact .inl ⟨if_pos h, h⟩
  · by_cases k : b < a
    · exact .inr (.inl ⟨by rw [if_neg h, if_pos k], k⟩)
    · exact .inr (.inr ⟨by rw [if_neg h, if_neg k], by omega⟩)
theorem ordD_neg {x y : DueV} : ordD x y < 0 ↔ x.lt y := by
  unfold ordD orI DueV.lt
  rcases ordI_cases x.at0 y.at0 with ⟨h, k⟩ | ⟨h, k⟩ | ⟨h, k⟩ <;> rcases ordI_cases x.seq y.seq with ⟨h2, k2⟩ | ⟨h2, k2⟩ | ⟨h2, k2⟩ <;> rw [h, h2] <;> simp <;> omega
theorem ordD_zero {x y : DueV} : ordD x y = 0 ↔ (x.at0 = y.at0 ∧ x.seq = y.seq) := by
  unfold ordD orI
  rcases ordI_cases x.at0 y.at0 with ⟨h, k⟩ | ⟨h, k⟩ | ⟨h, k⟩ <;> rcases ordI_cases x.seq y.seq with ⟨h2, k2⟩ | ⟨h2, k2⟩ | ⟨h2, k2⟩ <;> rw [h, h2] <;> simp <;> omega
theorem ordD_bd (x y : DueV) : -1 ≤ ordD x y ∧ ordD x y ≤ 1 := by
  unfold ordD orI
  rcases ordI_cases x.at0 y.at0 with ⟨h, k⟩ | ⟨h, k⟩ | ⟨h, k⟩ <;> rcases ordI_cases x.seq y.seq with ⟨h2, k2⟩ | ⟨h2, k2⟩ | ⟨h2, k2⟩ <;> rw [h, h2] <;> simp
theorem ordD_nonneg {x y : DueV} : 0 ≤ ordD x y ↔ ¬ x.lt y := by rw [← ordD_neg]; omega
/-- A time. -/
def timeR (n : Int) : Prop := 0 ≤ n ∧ n ≤ 1000000
/-- What could stand in a queue. -/
def DueV.ok (d : DueV) : Prop := timeR d.at0 ∧ timeR d.seq ∧ (0 ≤ d.node ∧ d.node ≤ 99) ∧ d.text.size ≤ 400
abbrev DueV.ltDec (x y : DueV) : Decidable (x.lt y) := by unfold DueV.lt; infer_instance
abbrev DueV.okDec (d : DueV) : Decidable d.ok := by unfold DueV.ok timeR; infer_instance
/-- What could stand at a place of a queue. -/
def okAt (l : List DueV) (i : Nat) : Prop := ∃ h : i < l.length, l[i].ok ∧ ∀ k : 0 < i, (l[i - 1]'(by omega)).lt l[i]
/-- A right queue. -/
def rightQ (l : List DueV) : Prop := l.length ≤ 200 ∧ ∀ i, i < l.length → okAt l i
theorem rightQ_ok {l : List DueV} (h : rightQ l) : ∀ d ∈ l, d.ok := by
  intro d hd
  obtain ⟨i, hi, rfl⟩ := List.getElem_of_mem hd
  exact (h.2 i hi).2.1
theorem rightQ_lt {l : List DueV} (h : rightQ l) : l.Pairwise DueV.lt := by
  refine List.pairwise_iff_getElem.2 fun i j hi hj hij => ?_
  obtain ⟨k, rfl⟩ : ∃ k, j = i + 1 + k := ⟨j - i - 1, by omega⟩
  clear hij
  induction k with
  | zero => exact (h.2 (i + 1) hj).2.2 (by omega)
  | succ k ih => exact DueV.lt_trans (ih (by omega)) ((h.2 (i + 1 + (k + 1)) hj).2.2 (by omega))
theorem rightQ_of {l : List DueV} (h1 : l.length ≤ 200) (h2 : ∀ d ∈ l, d.ok) (h3 : l.Pairwise DueV.lt) : rightQ l :=
  ⟨h1, fun i hi => ⟨hi, h2 _ (List.getElem_mem hi), fun k => List.pairwise_iff_getElem.1 h3 (i - 1) i (by omega) hi (by omega)⟩⟩
/-- The first place that is not right. -/
theorem rightQ_bad {l : List DueV} {k : Nat} (hk : k < l.length) (h : ¬ okAt l k) : ¬ rightQ l := fun r => h (r.2 k hk)
end Go.Proofs.Ytlnkcbojoaoehaa
