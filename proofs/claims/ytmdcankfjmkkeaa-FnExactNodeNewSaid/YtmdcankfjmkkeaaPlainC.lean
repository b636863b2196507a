/- Plain functions of chapter 3, 'Chance', and what promise 3 says of them: no program. -/
import Derived.Test.YtmdcankfjmkkeaaPlain1
namespace Go.Proofs.Ytmdcankfjmkkeaa
open Go Go.RowKit
set_option linter.unusedVariables false

/-- The next seed. -/
def nextS (s : Int) : Int := (s * 91813 + 30011) % 2147483648
theorem nextS_bd (s : Int) : 0 ≤ nextS s ∧ nextS s ≤ 2147483647 := by unfold nextS; omega
/-- What is drawn with it. -/
def drawN (s most : Int) : Int := nextS s / 256 % most
theorem drawN_bd (s : Int) {most : Int} (h : 1 ≤ most) : 0 ≤ drawN s most ∧ drawN s most < most := by
  unfold drawN
  exact ⟨Int.emod_nonneg _ (by omega), Int.emod_lt_of_pos _ (by omega)⟩

/-- Two places of a list changed for each other. -/
def swapL (l : List Int) (i j : Nat) : List Int := (l.set i (l.getD j 0)).set j (l.getD i 0)
theorem swapL_length (l : List Int) (i j : Nat) : (swapL l i j).length = l.length := by simp [swapL]
theorem swapL_perm {l : List Int} {i j : Nat} (hi : i < l.length) (hj : j < l.length) : (swapL l i j).Perm l := by
  unfold swapL
  rw [List.getD_eq_getElem?_getD, List.getD_eq_getElem?_getD, List.getElem?_eq_getElem hi, List.getElem?_eq_getElem hj]
  exact List.set_set_perm hi hj
/-- What is left to shuffle below place i. -/
def mixL : Nat → List Int → Int → List Int × Int
  | 0, l, s => (l, s)
  | i + 1, l, s => mixL i (swapL l (i + 1) (drawN s ((i : Int) + 2)).toNat) (nextS s)
theorem mixL_length (i : Nat) (l : List Int) (s : Int) : (mixL i l s).1.length = l.length := by
  induction i generalizing l s with
  | zero => rfl
  | succ i ih => rw [mixL, ih, swapL_length]
theorem mixL_perm (i : Nat) (l : List Int) (s : Int) (h : i < l.length ∨ i = 0) : (mixL i l s).1.Perm l := by
  induction i generalizing l s with
  | zero => exact List.Perm.refl _
  | succ i ih =>
    have hi : i + 1 < l.length := by omega
    have hb := drawN_bd s (most := (i : Int) + 2) (by omega)
    rw [mixL]
    refine (ih _ _ (.inl (by rw [swapL_length]; omega))).trans (swapL_perm hi (by omega))
theorem mixL_seed (i : Nat) (l : List Int) (s : Int) (h : 0 ≤ s ∧ s ≤ 2147483647) : 0 ≤ (mixL i l s).2 ∧ (mixL i l s).2 ≤ 2147483647 := by
  induction i generalizing l s with
  | zero => exact h
  | succ i ih => rw [mixL]; exact ih _ _ (nextS_bd s)
/-- How often a number is in a list. -/
def manyL (l : List Int) (n : Int) : Nat := l.count n
theorem mixL_many (l : List Int) (s n : Int) : manyL (mixL (l.length - 1) l s).1 n = manyL l n := (mixL_perm _ l s (by omega)).count_eq n

/-- Rising, no two alike. -/
abbrev rises (l : List Int) : Prop := l.Pairwise (· < ·)
theorem rises_next {l : List Int} : rises l ↔ ∀ i (h : i + 1 < l.length), l[i] < l[i + 1] := by
  constructor
  · intro h i hi
    exact List.pairwise_iff_getElem.1 h i (i + 1) (by omega) hi (by omega)
  · intro h
    refine List.pairwise_iff_getElem.2 fun i j hi hj hij => ?_
    obtain ⟨k, rfl⟩ : ∃ k, j = i + 1 + k := ⟨j - i - 1, by omega⟩
    clear hij
    induction k with
    | zero => exact h i hj
    | succ k ih =>
      have h1 := ih (by omega)
      have h2 := h (i + 1 + k) (by omega)
      exact Int.lt_trans h1 h2
/-- A set with a number. -/
def insL : List Int → Int → List Int
  | [], n => [n]
  | x :: r, n => if x < n then x :: insL r n else if x = n then x :: r else n :: x :: r
/-- A list without a number. -/
def dropL (l : List Int) (n : Int) : List Int := l.filter fun x => decide (x ≠ n)
theorem insL_mem (l : List Int) (n : Int) : n ∈ insL l n := by
  induction l with
  | nil => simp [insL]
  | cons x r ih =>
    unfold insL
    by_cases h1 : x < n
    · rw [if_pos h1]; exact List.mem_cons_of_mem _ ih
    · rw [if_neg h1]
      by_cases h2 : x = n
      · rw [if_pos h2, h2]; exact List.mem_cons_self
      · rw [if_neg h2]; exact List.mem_cons_self
theorem insL_sub {l : List Int} {n y : Int} (h : y ∈ insL l n) : y = n ∨ y ∈ l := by
  induction l with
  | nil => simp [insL] at h; exact .inl h
  | cons x r ih =>
    unfold insL at h
    by_cases h1 : x < n
    · rw [if_pos h1] at h
      rcases List.mem_cons.1 h with e | e
      · exact .inr (by rw [e]; exact List.mem_cons_self)
      · rcases ih e with e | e
        · exact .inl e
        · exact .inr (List.mem_cons_of_mem _ e)
    · rw [if_neg h1] at h
      by_cases h2 : x = n
      · rw [if_pos h2] at h; exact .inr h
      · rw [if_neg h2] at h
        rcases List.mem_cons.1 h with e | e
        · exact .inl e
        · exact .inr e
theorem insL_rises {l : List Int} (n : Int) (h : rises l) : rises (insL l n) := by
  induction l with
  | nil => exact List.pairwise_singleton _ _
  | cons x r ih =>
    obtain ⟨hx, hr⟩ := List.pairwise_cons.1 h
    unfold insL
    by_cases h1 : x < n
    · rw [if_pos h1]
      refine List.pairwise_cons.2 ⟨fun y hy => ?_, ih hr⟩
      rcases insL_sub hy with e | e
      · omega
      · exact hx y e
    · rw [if_neg h1]
      by_cases h2 : x = n
      · rw [if_pos h2]; exact h
      · rw [if_neg h2]
        refine List.pairwise_cons.2 ⟨fun y hy => ?_, h⟩
        rcases List.mem_cons.1 hy with e | e
        · omega
        · have := hx y e; omega
theorem insL_length (l : List Int) (n : Int) : (insL l n).length ≤ l.length + 1 := by
  induction l with
  | nil => simp [insL]
  | cons x r ih =>
    unfold insL
    by_cases h1 : x < n
    · rw [if_pos h1]; simp; omega
    · rw [if_neg h1]
      by_cases h2 : x = n
      · rw [if_pos h2]; simp
      · rw [if_neg h2]; simp
theorem dropL_not (l : List Int) (n : Int) : ¬ n ∈ dropL l n := by simp [dropL]
theorem dropL_length (l : List Int) (n : Int) : (dropL l n).length ≤ l.length := List.length_filter_le _ _
theorem dropL_rises {l : List Int} (n : Int) (h : rises l) : rises (dropL l n) := List.Pairwise.filter _ h
theorem dropL_out {l : List Int} {n : Int} (h : ¬ n ∈ l) : dropL l n = l := by
  unfold dropL
  refine List.filter_eq_self.2 fun x hx => ?_
  simp only [decide_eq_true_eq]
  intro e
  exact h (e ▸ hx)
/-- A number that is put is dropped again. -/
theorem drop_ins (l : List Int) (n : Int) : dropL (insL l n) n = dropL l n := by
  induction l with
  | nil => simp [insL, dropL]
  | cons x r ih =>
    unfold insL
    by_cases h1 : x < n
    · rw [if_pos h1]
      unfold dropL at ih ⊢
      rw [List.filter_cons_of_pos (by simp; omega), List.filter_cons_of_pos (by simp; omega), ih]
    · rw [if_neg h1]
      by_cases h2 : x = n
      · rw [if_pos h2]
      · rw [if_neg h2]
        unfold dropL
        rw [List.filter_cons_of_neg (by simp)]
/-- Dropped and put again it is the set with it. -/
theorem ins_drop {l : List Int} (n : Int) (h : rises l) : insL (dropL l n) n = insL l n := by
  induction l with
  | nil => rfl
  | cons x r ih =>
    obtain ⟨hx, hr⟩ := List.pairwise_cons.1 h
    by_cases h1 : x < n
    · have e : dropL (x :: r) n = x :: dropL r n := by unfold dropL; rw [List.filter_cons_of_pos (by simp; omega)]
      rw [e, insL, insL, if_pos h1, if_pos h1, ih hr]
    · by_cases h2 : x = n
      · have e : dropL (x :: r) n = r := by
          have hn : ¬ n ∈ r := fun q => by have := hx n q; omega
          have := dropL_out hn
          unfold dropL at this ⊢
          rw [List.filter_cons_of_neg (by simp [h2]), this]
        rw [e, insL, if_neg h1, if_pos h2]
        cases r with
        | nil => rw [insL, h2]
        | cons y t =>
          have := hx y List.mem_cons_self
          rw [insL, if_neg (by omega), if_neg (by omega), h2]
      · have hn : ¬ n ∈ x :: r := by
          intro q
          rcases List.mem_cons.1 q with e | e
          · exact h2 e.symm
          · have := hx n e; omega
        rw [dropL_out hn]
theorem ins_has {l : List Int} {n : Int} (h : rises l) (hm : n ∈ l) : insL l n = l := by
  induction l with
  | nil => exact absurd hm (by simp)
  | cons x r ih =>
    obtain ⟨hx, hr⟩ := List.pairwise_cons.1 h
    rw [insL]
    rcases List.mem_cons.1 hm with e | e
    · rw [if_neg (by omega), if_pos e.symm]
    · rw [if_pos (hx n e), ih hr e]
/-- Where it is put. -/
theorem ins_at {l : List Int} {n : Int} {k : Nat} (hm : ¬ n ∈ l) (hk : k ≤ l.length) (hb : ∀ i (h : i < l.length), i < k → l[i] < n) (ha : ∀ h : k < l.length, ¬ l[k] < n) : insL l n = l.take k ++ n :: l.drop k := by
  induction l generalizing k with
  | nil => simp at hk; subst hk; rfl
  | cons x r ih =>
    have hxn : x ≠ n := fun e => hm (by rw [e]; exact List.mem_cons_self)
    have hrn : ¬ n ∈ r := fun e => hm (List.mem_cons_of_mem _ e)
    cases k with
    | zero =>
      have := ha (by simp)
      simp only [List.getElem_cons_zero] at this
      rw [insL, if_neg this, if_neg hxn]; rfl
    | succ k =>
      have h0 := hb 0 (by simp) (by omega)
      simp only [List.getElem_cons_zero] at h0
      rw [insL, if_pos h0, ih hrn (by simp at hk; omega) (fun i h hik => by have := hb (i + 1) (by simp; omega) (by omega); simpa using this) (fun h => by have := ha (by simp; omega); simpa using this)]
      rfl
end Go.Proofs.Ytmdcankfjmkkeaa
