/- Heaps of what is due: plain. No program. -/
import Derived.Test.YtlnkcbojoaoehaaQPlain
namespace Go.Proofs.Ytlnkcbojoaoehaa
open Go Go.RowKit
set_option linter.unusedVariables false

/-- The Due at a place. -/
def dAt (l : List DueV) (i : Nat) : DueV := l.getD i ⟨0, 0, 0, ByteArray.empty⟩
theorem dAt_eq {l : List DueV} {i : Nat} (h : i < l.length) : dAt l i = l[i] := by simp [dAt, List.getD, List.getElem?_eq_getElem h]
/-- Two places changed for each other. -/
def swapD (l : List DueV) (i j : Nat) : List DueV := (l.set i (dAt l j)).set j (dAt l i)
theorem swapD_length (l : List DueV) (i j : Nat) : (swapD l i j).length = l.length := by simp [swapD]
theorem swapD_perm {l : List DueV} {i j : Nat} (hi : i < l.length) (hj : j < l.length) : (swapD l i j).Perm l := by
  unfold swapD
  rw [dAt_eq hi, dAt_eq hj]
  exact List.set_set_perm hi hj
theorem dAt_swap {l : List DueV} {i j : Nat} (hi : i < l.length) (hj : j < l.length) (k : Nat) : dAt (swapD l i j) k = if k = j then dAt l i else if k = i then dAt l j else dAt l k := by
  unfold swapD dAt
  by_cases h1 : k = j
  · subst h1
    simp [List.getD, hj, hi]
  · by_cases h2 : k = i
    · subst h2
      rw [if_neg h1, if_pos rfl]
      simp only [List.getD, List.getElem?_set_ne (Ne.symm h1), List.getElem?_set_self hi, Option.getD_some]
    · simp [List.getD, h1, h2, List.getElem?_set_ne (Ne.symm h1), List.getElem?_set_ne (Ne.symm h2)]
/-- Below n, from place i on, no child is due ahead of its parent. -/
def heapFrom (l : List DueV) (i n : Nat) : Prop := ∀ c, 0 < c → c < n → i ≤ (c - 1) / 2 → ¬ (dAt l c).lt (dAt l ((c - 1) / 2))
/-- .. but at place i; and its children are no less than its parent. -/
def heapBut (l : List DueV) (i0 i n : Nat) : Prop :=
  (∀ c, 0 < c → c < n → i0 ≤ (c - 1) / 2 → (c - 1) / 2 ≠ i → ¬ (dAt l c).lt (dAt l ((c - 1) / 2))) ∧
  (∀ c, 0 < c → c < n → (c - 1) / 2 = i → 0 < i → i0 ≤ (i - 1) / 2 → ¬ (dAt l c).lt (dAt l ((i - 1) / 2)))
theorem heapBut_start {l : List DueV} {i n : Nat} (h : heapFrom l (i + 1) n) : heapBut l i i n :=
  ⟨fun c h0 h1 h2 h3 => h c h0 h1 (by omega), fun c h0 h1 h2 h3 h4 => by omega⟩
/-- Where nothing is wrong at i it is a heap. -/
theorem heapBut_done {l : List DueV} {i0 i n : Nat} (h : heapBut l i0 i n) (hc : ∀ c, 0 < c → c < n → (c - 1) / 2 = i → ¬ (dAt l c).lt (dAt l i)) : heapFrom l i0 n := fun c h0 h1 h2 => by
  by_cases e : (c - 1) / 2 = i
  · rw [e]; exact hc c h0 h1 e
  · exact h.1 c h0 h1 h2 e
/-- One step down: j is the lesser child of i, and less than i. -/
theorem heapBut_step {l : List DueV} {i0 i j n : Nat} (h : heapBut l i0 i n) (h0 : i0 ≤ i) (hj0 : 0 < j) (hj : (j - 1) / 2 = i) (hjn : j < n) (hn : n ≤ l.length) (hm : ∀ c, 0 < c → c < n → (c - 1) / 2 = i → ¬ (dAt l c).lt (dAt l j)) (hlt : (dAt l j).lt (dAt l i)) : heapBut (swapD l i j) i0 j n := by
  have hi : i < l.length := by omega
  have hjl : j < l.length := by omega
  have sw := fun k => dAt_swap hi hjl k
  refine ⟨fun c c0 cn cp cne => ?_, fun c c0 cn cp jp jq => ?_⟩
  · rw [sw, sw]
    by_cases e1 : (c - 1) / 2 = i
    · -- a child of i
      have hn2 : (c - 1) / 2 ≠ j := cne
      rw [if_neg hn2, if_pos e1]
      by_cases e2 : c = j
      · rw [if_pos e2]; exact DueV.lt_nlt hlt
      · rw [if_neg e2, if_neg (by omega)]; exact hm c c0 cn e1
    · rw [if_neg cne, if_neg e1]
      by_cases e2 : c = j
      · omega
      · rw [if_neg e2]
        by_cases e3 : c = i
        · rw [if_pos e3]
          subst e3
          exact h.2 j hj0 hjn hj (by omega) cp
        · rw [if_neg e3]
          exact h.1 c c0 cn cp e1
  · rw [sw, sw, hj]
    rw [if_neg (by omega), if_neg (by omega), if_neg (by omega : i ≠ j), if_pos rfl]
    have := h.1 c c0 cn (by omega) (by omega)
    rw [cp] at this
    exact this
/-- The first of a heap is due first. -/
theorem heap_min {l : List DueV} {n : Nat} (h : heapFrom l 0 n) : ∀ k, k < n → ¬ (dAt l k).lt (dAt l 0) := by
  intro k
  induction k using Nat.strongRecOn with
  | ind k ih =>
    intro hk
    by_cases e : k = 0
    · subst e; exact DueV.lt_irrefl _
    · exact DueV.nlt_trans (h k (by omega) hk (by omega)) (ih ((k - 1) / 2) (by omega) (by omega))
theorem heapFrom_far {l : List DueV} {i n : Nat} (h : n ≤ 2 * i + 1) : heapFrom l i n := fun c c0 cn ci => by omega
/-- What rises is a heap. -/
theorem heapFrom_rises {l : List DueV} (h : l.Pairwise DueV.lt) (i n : Nat) (hn : n ≤ l.length) : heapFrom l i n := fun c c0 cn _ => by
  rw [dAt_eq (by omega), dAt_eq (by omega)]
  exact DueV.lt_nlt (List.pairwise_iff_getElem.1 h _ _ (by omega) (by omega) (by omega))
/-- But for place j and its parent. -/
def heapUp (l : List DueV) (j n : Nat) : Prop :=
  (∀ c, 0 < c → c < n → c ≠ j → ¬ (dAt l c).lt (dAt l ((c - 1) / 2))) ∧
  (∀ c, 0 < c → c < n → (c - 1) / 2 = j → 0 < j → ¬ (dAt l c).lt (dAt l ((j - 1) / 2)))
theorem heapUp_done {l : List DueV} {j n : Nat} (h : heapUp l j n) (hj : 0 < j → ¬ (dAt l j).lt (dAt l ((j - 1) / 2))) : heapFrom l 0 n := fun c c0 cn _ => by
  by_cases e : c = j
  · subst e; exact hj c0
  · exact h.1 c c0 cn e
theorem heapUp_step {l : List DueV} {j n : Nat} (h : heapUp l j n) (hj0 : 0 < j) (hjn : j < n) (hn : n ≤ l.length) (hlt : (dAt l j).lt (dAt l ((j - 1) / 2))) : heapUp (swapD l ((j - 1) / 2) j) ((j - 1) / 2) n := by
  have hi : (j - 1) / 2 < l.length := by omega
  have hjl : j < l.length := by omega
  have sw := fun k => dAt_swap hi hjl k
  refine ⟨fun c c0 cn cne => ?_, fun c c0 cn cp jp => ?_⟩
  · rw [sw, sw]
    by_cases e1 : c = j
    · subst e1
      rw [if_pos rfl, if_neg (by omega), if_pos rfl]
      exact DueV.lt_nlt hlt
    · rw [if_neg e1, if_neg cne]
      by_cases e2 : (c - 1) / 2 = j
      · rw [if_pos e2]; exact h.2 c c0 cn e2 hj0
      · rw [if_neg e2]
        by_cases e3 : (c - 1) / 2 = (j - 1) / 2
        · rw [if_pos e3]
          have := h.1 c c0 cn e1
          rw [e3] at this
          exact DueV.nlt_trans this (DueV.lt_nlt hlt)
        · rw [if_neg e3]; exact h.1 c c0 cn e1
  · have hq : ¬ (dAt l ((j - 1) / 2)).lt (dAt l (((j - 1) / 2 - 1) / 2)) := h.1 ((j - 1) / 2) jp (by omega) (by omega)
    rw [sw, sw, if_neg (by omega : ((j - 1) / 2 - 1) / 2 ≠ j), if_neg (by omega : ((j - 1) / 2 - 1) / 2 ≠ (j - 1) / 2)]
    by_cases e1 : c = j
    · rw [if_pos e1]; exact hq
    · rw [if_neg e1, if_neg (by omega)]
      have := h.1 c c0 cn e1
      rw [cp] at this
      exact DueV.nlt_trans this hq
/-- One more at the end. -/
theorem heapUp_push {l : List DueV} {d : DueV} (h : heapFrom l 0 l.length) : heapUp (l ++ [d]) l.length (l.length + 1) := by
  have e : ∀ k, k < l.length → dAt (l ++ [d]) k = dAt l k := fun k hk => by
    rw [dAt_eq (by rw [List.length_append]; omega), dAt_eq hk, List.getElem_append_left hk]
  refine ⟨fun c c0 cn cne => ?_, fun c c0 cn cp jp => by omega⟩
  rw [e c (by omega), e _ (by omega)]
  exact h c c0 (by omega) (by omega)
/-- The first of a heap of what rises is the first. -/
theorem heap_first {l : List DueV} {x : DueV} {r : List DueV} (h : heapFrom l 0 l.length) (hp : l.Perm (x :: r)) (hr : (x :: r).Pairwise DueV.lt) : dAt l 0 = x := by
  have hlen : l.length = r.length + 1 := by rw [hp.length_eq]; simp
  have h0 : 0 < l.length := by omega
  have hm : dAt l 0 ∈ x :: r := by rw [dAt_eq h0]; exact hp.mem_iff.1 (List.getElem_mem h0)
  rcases List.mem_cons.1 hm with e | e
  · exact e
  · exfalso
    have hx : x ∈ l := hp.mem_iff.2 List.mem_cons_self
    obtain ⟨k, hk, he⟩ := List.getElem_of_mem hx
    have := heap_min h k hk
    rw [dAt_eq hk, he] at this
    exact this ((List.pairwise_cons.1 hr).1 _ e)
/-- What is left behind a swap of the ends, without the last one. -/
theorem pop_perm {l : List DueV} (h0 : 0 < l.length) : ∃ l1, swapD l 0 (l.length - 1) = l1 ++ [dAt l 0] ∧ l1.length = l.length - 1 ∧ (dAt l 0 :: l1).Perm l := by
  have hl : (swapD l 0 (l.length - 1)).length = l.length := swapD_length _ _ _
  have hne : swapD l 0 (l.length - 1) ≠ [] := fun e => by rw [e] at hl; simp at hl; omega
  have hlast : (swapD l 0 (l.length - 1)).getLast hne = dAt l 0 := by
    rw [List.getLast_eq_getElem]
    have h1 : (swapD l 0 (l.length - 1)).length - 1 < (swapD l 0 (l.length - 1)).length := by omega
    rw [← dAt_eq h1, dAt_swap h0 (by omega), if_pos (by omega)]
  refine ⟨(swapD l 0 (l.length - 1)).dropLast, ?_, by rw [List.length_dropLast, hl], ?_⟩
  · rw [← hlast]; exact (List.dropLast_concat_getLast hne).symm
  · have := swapD_perm h0 (by omega : l.length - 1 < l.length)
    refine List.Perm.trans ?_ this
    have e : swapD l 0 (l.length - 1) = (swapD l 0 (l.length - 1)).dropLast ++ [dAt l 0] := by rw [← hlast]; exact (List.dropLast_concat_getLast hne).symm
    conv => rhs; rw [e]
    exact (List.perm_append_singleton _ _).symm
end Go.Proofs.Ytlnkcbojoaoehaa
