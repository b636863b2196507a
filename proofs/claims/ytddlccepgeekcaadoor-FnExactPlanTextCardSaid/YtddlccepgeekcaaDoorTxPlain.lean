/- The text of a plan, plain. No program. -/
import Derived.Test.YtddlccepgeekcaaDoorItBlk
import Derived.Test.YtddlccepgeekcaaDoorPlain1
import Derived.Lib.ItoaMem
import Derived.Lib.Repeat
namespace Go.Proofs.YtddlccepgeekcaaDoor
open Go Go.RowKit
set_option linter.unusedVariables false

/-- The word of a kind. -/
def wordL (k : Int) : List UInt8 :=
  if k = 1 then [99, 114, 97, 115, 104] else if k = 2 then [115, 116, 97, 114, 116] else if k = 3 then [99, 117, 116] else if k = 4 then [104, 101, 97, 108] else if k = 5 then [108, 111, 115, 115] else if k = 6 then [100, 101, 108, 97, 121] else if k = 7 then [108, 101, 97, 118, 101] else if k = 8 then [108, 111, 111, 112] else if k = 9 then [101, 110, 100] else []
/-- The numbers of a line. -/
def numsT (x : ItemV) : List Int := if x.kind = 9 then [] else if x.kind = 4 then [x.tm] else if x.kind = 8 then [x.tm, x.pa, x.pb] else [x.tm, x.pa]
def numT : List Int → List UInt8
  | [] => []
  | n :: l => 32 :: Lib.itoa n ++ numT l
theorem numT_append (l m : List Int) : numT (l ++ m) = numT l ++ numT m := by
  induction l with
  | nil => rfl
  | cons a l ih => simp only [List.cons_append, numT, ih, List.append_assoc]
/-- A line, without its end. -/
def lineL (x : ItemV) (d : Nat) : List UInt8 := Lib.repeatL [32, 32] d ++ wordL x.kind ++ numT (numsT x)
/-- How deep its line stands. -/
def ItemV.stand (x : ItemV) (d : Int) : Int := if x.kind = 9 then d - 1 else d
def textFrom : Int → List ItemV → List UInt8
  | _, [] => []
  | d, x :: l => lineL x (x.stand d).toNat ++ 10 :: textFrom (x.deep d) l
/-- The text of a plan. -/
def TextIs (l : List ItemV) (t : List UInt8) : Prop := (planR l ∧ t = textFrom 0 l) ∨ (¬ planR l ∧ t = [])
theorem textIs_ex (l : List ItemV) : ∃ t, TextIs l t := by
  by_cases h : planR l
  · exact ⟨_, .inl ⟨h, rfl⟩⟩
  · exact ⟨_, .inr ⟨h, rfl⟩⟩
/-- So far, so deep, and this is the text so far. -/
structure TextAt (l : List ItemV) (k : Nat) (d : Int) (t : List UInt8) : Prop where
  plan : planFrom d (l.drop k)
  lo : 0 ≤ d
  hi : d ≤ 3
  text : textFrom 0 l = t ++ textFrom d (l.drop k)
  size : t.length ≤ 100 * k
theorem TextAt.zero {l : List ItemV} (h : planFrom 0 l) : TextAt l 0 0 [] := ⟨h, by omega, by omega, rfl, Nat.le_refl _⟩
theorem ItemV.stand_min (x : ItemV) (d : Int) : x.stand d = min d (x.deep d) := by
  unfold ItemV.stand ItemV.deep
  split
  · rw [if_neg (by omega)]; omega
  · split <;> omega
theorem itoa_len {n : Int} (h0 : 0 ≤ n) (h1 : n ≤ 9999) : (Lib.itoa n).length ≤ 4 := by
  obtain ⟨m, rfl⟩ : ∃ m : Nat, n = m := ⟨n.toNat, by omega⟩
  rw [Lib.itoa_nonneg]
  rw [Lib.decDigits]
  split
  · simp
  · rw [List.length_append, Lib.decDigits]
    split
    · simp
    · rw [List.length_append, Lib.decDigits]
      split
      · simp
      · rw [List.length_append, Lib.decDigits, dif_pos (by omega)]
        simp
theorem ok_nums {x : ItemV} (h : x.ok) : ∀ n ∈ numsT x, 0 ≤ n ∧ n ≤ 9999 := by
  obtain ⟨k, t, a, b⟩ := x
  unfold numsT
  unfold ItemV.ok ItemV.aR ItemV.bR at h
  dsimp only at h ⊢
  intro n hn
  split at hn
  · simp at hn
  · split at hn
    · simp only [List.mem_singleton] at hn; omega
    · split at hn
      · simp only [List.mem_cons, List.not_mem_nil, or_false] at hn; omega
      · simp only [List.mem_cons, List.not_mem_nil, or_false] at hn; omega
theorem numT_len : ∀ (l : List Int), (∀ n ∈ l, 0 ≤ n ∧ n ≤ 9999) → (numT l).length ≤ 5 * l.length
  | [], _ => Nat.le_refl _
  | n :: l, h => by
    have h1 := itoa_len (h n (List.mem_cons_self ..)).1 (h n (List.mem_cons_self ..)).2
    have h2 := numT_len l (fun m hm => h m (List.mem_cons_of_mem _ hm))
    simp only [numT, List.cons_append, List.length_cons, List.length_append]
    omega
theorem numsT_len (x : ItemV) : (numsT x).length ≤ 3 := by
  unfold numsT
  split
  · simp
  · split
    · simp
    · split <;> simp
theorem wordL_len (k : Int) : (wordL k).length ≤ 5 := by
  unfold wordL
  repeat (split; simp)
  simp
theorem lineL_len {x : ItemV} (h : x.ok) (d : Nat) (hd : d ≤ 3) : (lineL x d).length ≤ 30 := by
  have h1 := numT_len _ (ok_nums h)
  have h2 := numsT_len x
  have h3 := wordL_len x.kind
  unfold lineL
  rw [List.length_append, List.length_append, Lib.repeatL_length]
  simp only [List.length_cons, List.length_nil]
  omega
theorem TextAt.step {l : List ItemV} {k : Nat} {d : Int} {t : List UInt8} (h : TextAt l k d t) (hk : k < l.length) {x : ItemV} (hx : l[k] = x) :
    x.ok ∧ 0 ≤ x.stand d ∧ x.stand d ≤ 3 ∧ (0 ≤ x.deep d ∧ x.deep d ≤ 3) ∧ TextAt l (k + 1) (x.deep d) (t ++ (lineL x (x.stand d).toNat ++ [10])) := by
  have hp := h.plan
  have ht := h.text
  rw [List.drop_eq_getElem_cons hk, hx] at hp ht
  obtain ⟨h1, h2, h3, h4⟩ := hp
  have hlo := h.lo
  have hhi := h.hi
  have hs : 0 ≤ x.stand d ∧ x.stand d ≤ 3 := by
    rw [ItemV.stand_min]
    omega
  refine ⟨h1, hs.1, hs.2, ⟨h2, h3⟩, ⟨h4, h2, h3, ?_, ?_⟩⟩
  · rw [ht]
    simp only [textFrom, List.append_assoc, List.cons_append, List.nil_append]
  · have h5 := lineL_len h1 (x.stand d).toNat (by omega)
    have h6 := h.size
    rw [List.length_append, List.length_append]
    simp only [List.length_cons, List.length_nil]
    omega
theorem TextAt.done {l : List ItemV} {d : Int} {t : List UInt8} (h : TextAt l l.length d t) : t = textFrom 0 l := by
  have := h.text
  rw [List.drop_length] at this
  rw [this]
  simp [textFrom]
end Go.Proofs.YtddlccepgeekcaaDoor
