/- What chapter 4 answers, plain; and a block of an answer. -/
import Derived.Test.YtlnkcbojoaoehaaSearch
import Derived.Test.YtlnkcbojoaoehaaHeapM
namespace Go.Proofs.Ytlnkcbojoaoehaa
open Go Go.RowKit
set_option linter.unusedVariables false

def d0 : DueV := ⟨0, 0, 0, ⟨#[]⟩⟩
/-- An answer. -/
def outV (v : Value) (d : DueV) (c : Int) : Value := .agg #[v, .int .i64 d.at0, .int .i64 d.seq, .int .i64 d.node, .string d.text, .int .i64 c]
def FaultIs (l : List DueV) (c : Int) : Prop := (400 < l.length ∧ c = 2) ∨ (l.length ≤ 400 ∧ ¬ rightQ l ∧ c = 1) ∨ (rightQ l ∧ c = 0)
theorem fault_ex (l : List DueV) : ∃ c, FaultIs l c := by
  by_cases h1 : 400 < l.length
  · exact ⟨2, .inl ⟨h1, rfl⟩⟩
  · by_cases h2 : rightQ l
    · exact ⟨0, .inr (.inr ⟨h2, rfl⟩)⟩
    · exact ⟨1, .inr (.inl ⟨by omega, h2, rfl⟩)⟩
/-- Where a Due comes. -/
def putAt (l : List DueV) (d : DueV) (k : Nat) : Prop := k ≤ l.length ∧ (∀ j (h : j < l.length), j < k → l[j].lt d) ∧ ∀ h : k < l.length, ¬ l[k].lt d
theorem putAt_ex (l : List DueV) (d : DueV) : ∃ k, putAt l d k := by
  induction l with
  | nil => exact ⟨0, Nat.le_refl _, fun j h => absurd h (by simp), fun h => absurd h (by simp)⟩
  | cons x r ih =>
    by_cases hx : x.lt d
    · obtain ⟨k, h1, h2, h3⟩ := ih
      refine ⟨k + 1, by simp; omega, fun j hj hjk => ?_, fun h => ?_⟩
      · cases j with
        | zero => exact hx
        | succ j => simpa using h2 j (by simpa using hj) (by omega)
      · simpa using h3 (by simpa using h)
    · exact ⟨0, Nat.zero_le _, fun j _ h => by omega, fun _ => hx⟩
def putL (l : List DueV) (d : DueV) (k : Nat) : List DueV := l.take k ++ d :: l.drop k
theorem putL_perm (l : List DueV) (d : DueV) (k : Nat) : (l ++ [d]).Perm (putL l d k) := by
  unfold putL
  have h1 : (l ++ [d]).Perm (d :: l) := List.perm_append_singleton _ _
  have h2 : (d :: l).Perm (l.take k ++ d :: l.drop k) := by
    conv => lhs; rw [← List.take_append_drop k l]
    exact (List.perm_middle).symm
  exact h1.trans h2
theorem putL_rises {l : List DueV} {d : DueV} {k : Nat} (hl : l.Pairwise DueV.lt) (hk : putAt l d k) (ht : ¬ thereD l d) : (putL l d k).Pairwise DueV.lt := by
  unfold putL
  have e := hl
  rw [← List.take_append_drop k l] at e
  obtain ⟨e1, e2, e3⟩ := List.pairwise_append.1 e
  have hd : ∀ y ∈ l.drop k, d.lt y := fun y hy => by
    obtain ⟨i, hi, rfl⟩ := List.getElem_of_mem hy
    rw [List.length_drop] at hi
    rw [List.getElem_drop]
    have hkl : k < l.length := by omega
    have h1 := hk.2.2 hkl
    have h2 : d.lt l[k] := by
      by_cases c : d.lt l[k]
      · exact c
      · exact absurd ⟨k, hkl, h1, c⟩ ht
    by_cases ei : i = 0
    · subst ei; simpa using h2
    · exact DueV.lt_trans h2 (rises_at hl (show k < k + i by omega) (by omega))
  have ht' : ∀ y ∈ l.take k, y.lt d := fun y hy => by
    obtain ⟨i, hi, rfl⟩ := List.getElem_of_mem hy
    rw [List.length_take] at hi
    rw [List.getElem_take]
    exact hk.2.1 i (by omega) (by omega)
  refine List.pairwise_append.2 ⟨e1, List.pairwise_cons.2 ⟨hd, e2⟩, fun a ha b hb => ?_⟩
  rcases List.mem_cons.1 hb with rfl | hb
  · exact ht' a ha
  · exact e3 a ha b hb
def PutIs (l : List DueV) (d : DueV) (c : Int) (m : List DueV) : Prop :=
  (400 < l.length ∧ c = 2 ∧ m = []) ∨ (l.length ≤ 400 ∧ (¬ rightQ l ∨ ¬ d.ok) ∧ c = 1 ∧ m = []) ∨ (rightQ l ∧ d.ok ∧ thereD l d ∧ c = 7 ∧ m = []) ∨
    (rightQ l ∧ d.ok ∧ ¬ thereD l d ∧ 200 ≤ l.length ∧ c = 9 ∧ m = []) ∨ (rightQ l ∧ d.ok ∧ ¬ thereD l d ∧ l.length < 200 ∧ c = 0 ∧ ∃ k, putAt l d k ∧ m = putL l d k)
theorem put_ex (l : List DueV) (d : DueV) : ∃ c m, PutIs l d c m := by
  by_cases h1 : 400 < l.length
  · exact ⟨2, [], .inl ⟨h1, rfl, rfl⟩⟩
  by_cases h2 : rightQ l
  · by_cases h3 : d.ok
    · by_cases h4 : thereD l d
      · exact ⟨7, [], .inr (.inr (.inl ⟨h2, h3, h4, rfl, rfl⟩))⟩
      · by_cases h5 : 200 ≤ l.length
        · exact ⟨9, [], .inr (.inr (.inr (.inl ⟨h2, h3, h4, h5, rfl, rfl⟩)))⟩
        · obtain ⟨k, hk⟩ := putAt_ex l d
          exact ⟨0, _, .inr (.inr (.inr (.inr ⟨h2, h3, h4, by omega, rfl, k, hk, rfl⟩)))⟩
    · exact ⟨1, [], .inr (.inl ⟨by omega, .inr h3, rfl, rfl⟩)⟩
  · exact ⟨1, [], .inr (.inl ⟨by omega, .inl h2, rfl, rfl⟩)⟩
def TakeIs (l : List DueV) (c : Int) (x : DueV) (m : List DueV) : Prop :=
  (400 < l.length ∧ c = 2 ∧ x = d0 ∧ m = []) ∨ (l.length ≤ 400 ∧ ¬ rightQ l ∧ c = 1 ∧ x = d0 ∧ m = []) ∨ (l = [] ∧ c = 6 ∧ x = d0 ∧ m = []) ∨ (rightQ l ∧ l = x :: m ∧ c = 0)
theorem take_ex (l : List DueV) : ∃ c x m, TakeIs l c x m := by
  by_cases h1 : 400 < l.length
  · exact ⟨2, d0, [], .inl ⟨h1, rfl, rfl, rfl⟩⟩
  by_cases h2 : rightQ l
  · cases l with
    | nil => exact ⟨6, d0, [], .inr (.inr (.inl ⟨rfl, rfl, rfl, rfl⟩))⟩
    | cons x m => exact ⟨0, x, m, .inr (.inr (.inr ⟨h2, rfl, rfl⟩))⟩
  · exact ⟨1, d0, [], .inr (.inl ⟨by omega, h2, rfl, rfl, rfl⟩)⟩
def dropN (l : List DueV) (node : Int) : List DueV := l.filter fun d => d.node != node
def DropIs (l : List DueV) (node : Int) (c : Int) (m : List DueV) : Prop :=
  (400 < l.length ∧ c = 2 ∧ m = []) ∨ (l.length ≤ 400 ∧ ¬ rightQ l ∧ c = 1 ∧ m = []) ∨ (rightQ l ∧ c = 0 ∧ m = dropN l node)
theorem drop_ex (l : List DueV) (node : Int) : ∃ c m, DropIs l node c m := by
  by_cases h1 : 400 < l.length
  · exact ⟨2, [], .inl ⟨h1, rfl, rfl⟩⟩
  by_cases h2 : rightQ l
  · exact ⟨0, _, .inr (.inr ⟨h2, rfl, rfl⟩)⟩
  · exact ⟨1, [], .inr (.inl ⟨by omega, h2, rfl, rfl⟩)⟩
theorem put_len {l : List DueV} {d : DueV} {c : Int} {m : List DueV} (h : PutIs l d c m) : m.length ≤ 200 := by
  rcases h with ⟨_, _, rfl⟩ | ⟨_, _, _, rfl⟩ | ⟨_, _, _, _, rfl⟩ | ⟨_, _, _, _, _, rfl⟩ | ⟨_, _, _, h, _, k, hk, rfl⟩
  all_goals first | (simp [putL]; have := hk.1; omega) | simp
theorem take_len' {l : List DueV} {c : Int} {x : DueV} {m : List DueV} (h : TakeIs l c x m) : m.length ≤ 200 := by
  rcases h with ⟨_, _, _, rfl⟩ | ⟨_, _, _, _, rfl⟩ | ⟨_, _, _, rfl⟩ | ⟨h, e, _⟩
  · simp
  · simp
  · simp
  · have := h.1; rw [e] at this; simp at this; omega
theorem drop_len {l : List DueV} {node c : Int} {m : List DueV} (h : DropIs l node c m) : m.length ≤ 200 := by
  rcases h with ⟨_, _, rfl⟩ | ⟨_, _, _, rfl⟩ | ⟨h, _, rfl⟩
  · simp
  · simp
  · exact Nat.le_trans (List.length_filter_le _ _) h.1
/-- A block of six cells, to be written. -/
def ResBlk (w : World) (b : Nat) : Prop := ∃ u0 u1 u2 u3 u4 u5 : Value, w.heap[b]? = some (.cells #[u0, u1, u2, u3, u4, u5] 29 (0, 0))
theorem ResBlk.lt {w : World} {b : Nat} (h : ResBlk w b) : b < w.heap.size := by
  obtain ⟨u0, u1, u2, u3, u4, u5, h⟩ := h
  exact (Array.getElem?_eq_some_iff.1 h).1
theorem ResBlk.keep {w w' : World} {b : Nat} (h : ResBlk w b) {G : Nat → Prop} (k : Keeps G w w') (hg : G b) : ResBlk w' b := by
  have hl := h.lt
  obtain ⟨u0, u1, u2, u3, u4, u5, h⟩ := h
  exact ⟨u0, u1, u2, u3, u4, u5, (k.block b hl hg).trans h⟩
theorem ResBlk.below {w w' : World} {b : Nat} (h : ResBlk w b) (k : Below w.heap.size w w') : ResBlk w' b := h.keep (G := fun _ => True) (Keeps.ofBelow k (fun _ hk _ => hk)) trivial
theorem ResBlk.cells {w : World} {b : Nat} (h : ResBlk w b) : ∃ u0 u1 u2 u3 u4 u5 : Value, (w.cell? ⟨b, 0, none⟩ = some u0 ∧ w.cell? ⟨b, 1, none⟩ = some u1 ∧ w.cell? ⟨b, 2, none⟩ = some u2 ∧ w.cell? ⟨b, 3, none⟩ = some u3 ∧ w.cell? ⟨b, 4, none⟩ = some u4 ∧ w.cell? ⟨b, 5, none⟩ = some u5) ∧
    (w.frozen? ⟨b, 0, none⟩ = false ∧ w.frozen? ⟨b, 1, none⟩ = false ∧ w.frozen? ⟨b, 2, none⟩ = false ∧ w.frozen? ⟨b, 3, none⟩ = false ∧ w.frozen? ⟨b, 4, none⟩ = false ∧ w.frozen? ⟨b, 5, none⟩ = false) := by
  obtain ⟨u0, u1, u2, u3, u4, u5, h⟩ := h
  refine ⟨u0, u1, u2, u3, u4, u5, ?_, ?_⟩ <;> simp [World.cell?, World.frozen?, h]
end Go.Proofs.Ytlnkcbojoaoehaa
