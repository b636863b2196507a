/- Rows of things of several cells each: their cells stand one behind the other. No program. -/
import Derived.Test.YtgmdgjkmdnpmiaaChecked
import Derived.WalkKit
import Derived.Deep.OwnRows
namespace Go.Proofs.Ytgmdgjkmdnpmiaa
open Go Go.RowKit
set_option linter.unusedVariables false

/-- Cells that stand in a row, to read. -/
def CellRow (w : World) (a : Option Addr) (cs : List Value) : Prop :=
  cs = [] ∨ ∃ b off : Nat, a = some ⟨b, off, none⟩ ∧ b < w.heap.size ∧ ∀ i (h : i < cs.length), w.cell? ⟨b, off + i, none⟩ = some cs[i]
theorem CellRow.keep {w w' : World} {a : Option Addr} {cs : List Value} (h : CellRow w a cs) (hb : Below w.heap.size w w') : CellRow w' a cs := by
  rcases h with h | ⟨b, off, rfl, hlt, hc⟩
  · exact .inl h
  · exact .inr ⟨b, off, rfl, Nat.lt_of_lt_of_le hlt hb.size, fun i hi => (hb.cell (p := ⟨b, off + i, none⟩) hlt).trans (hc i hi)⟩
theorem CellRow.addr {w : World} {a : Option Addr} {cs : List Value} (h : CellRow w a cs) (hp : 0 < cs.length) : ∃ b off, a = some ⟨b, off, none⟩ := by
  rcases h with h | ⟨b, off, e, _⟩
  · rw [h] at hp; simp at hp
  · exact ⟨b, off, e⟩
/-- Cells that may be written: their block is no lesser than lo. -/
def OwnCells (w : World) (lo : Nat) (a : Option Addr) (cs : List Value) : Prop :=
  cs = [] ∨ ∃ b off : Nat, a = some ⟨b, off, none⟩ ∧ lo ≤ b ∧ b < w.heap.size ∧ (∀ i (h : i < cs.length), w.cell? ⟨b, off + i, none⟩ = some cs[i]) ∧ ∀ i, i < cs.length → w.frozen? ⟨b, off + i, none⟩ = false
theorem OwnCells.row {w : World} {lo : Nat} {a : Option Addr} {cs : List Value} (h : OwnCells w lo a cs) : CellRow w a cs := by
  rcases h with h | ⟨b, off, rfl, _, hlt, hc, _⟩
  · exact .inl h
  · exact .inr ⟨b, off, rfl, hlt, hc⟩
theorem OwnCells.keep {w w' : World} {lo : Nat} {a : Option Addr} {cs : List Value} (h : OwnCells w lo a cs) (hb : Below w.heap.size w w') : OwnCells w' lo a cs := by
  rcases h with h | ⟨b, off, rfl, hlo, hlt, hc, hf⟩
  · exact .inl h
  · exact .inr ⟨b, off, rfl, hlo, Nat.lt_of_lt_of_le hlt hb.size, fun i hi => (hb.cell (p := ⟨b, off + i, none⟩) hlt).trans (hc i hi), fun i hi => (hb.frozen (p := ⟨b, off + i, none⟩) hlt).trans (hf i hi)⟩
theorem OwnCells.mono {w : World} {lo lo' : Nat} {a : Option Addr} {cs : List Value} (h : OwnCells w lo a cs) (hl : lo' ≤ lo) : OwnCells w lo' a cs :=
  h.imp id fun ⟨b, off, e, hlo, r⟩ => ⟨b, off, e, Nat.le_trans hl hlo, r⟩
theorem OwnCells.beside {w w' : World} {lo b : Nat} {a : Option Addr} {cs : List Value} (h : OwnCells w lo a cs) (hb : b < lo) (hk : ∀ c, c ≠ b → w'.heap[c]? = w.heap[c]?) (hs : w.heap.size ≤ w'.heap.size) : OwnCells w' lo a cs := by
  rcases h with h | ⟨q, off, rfl, hlo, hlt, hc, hf⟩
  · exact .inl h
  · have hq : w'.heap[q]? = w.heap[q]? := hk q (by omega)
    exact .inr ⟨q, off, rfl, hlo, by omega, fun i hi => (World.cell?_of_block (a := ⟨q, off + i, none⟩) hq).trans (hc i hi), fun i hi => (World.frozen?_of_block (a := ⟨q, off + i, none⟩) hq).trans (hf i hi)⟩
theorem OwnCells.set {w : World} {lo b off n : Nat} {T : List Value} (v : Value) (hn : n < T.length) (hlo : lo ≤ b) (hlt : b < w.heap.size) (hc : ∀ i (h : i < T.length), w.cell? ⟨b, off + i, none⟩ = some T[i]) (hf : ∀ i, i < T.length → w.frozen? ⟨b, off + i, none⟩ = false) :
    OwnCells (w.setCell ⟨b, off + n, none⟩ v) lo (some ⟨b, off, none⟩) (T.set n v) := by
  refine .inr ⟨b, off, rfl, hlo, by simpa [World.setCell] using hlt, fun i hi => ?_, fun i hi => ?_⟩
  · have hi' : i < T.length := by rw [List.length_set] at hi; exact hi
    by_cases e : i = n
    · subst e
      rw [World.cell?_setCell_same' _ _ _ (by rw [hc i hn]; rfl)]
      simp
    · rw [World.cell?_setCell_other _ _ _ _ (fun q => e (by have := congrArg Addr.off q; simp at this; omega)), hc i hi', List.getElem_set_ne (fun q => e q.symm)]
  · rw [World.frozen?_setCell]
    exact hf i (by rw [List.length_set] at hi; exact hi)

theorem OwnCells.put0 {w : World} {lo b n : Nat} {T : List Value} (h : OwnCells w lo (some ⟨b, 0, none⟩) T) (v : Value) (hn : n < T.length) : OwnCells (w.setCell ⟨b, n, none⟩ v) lo (some ⟨b, 0, none⟩) (T.set n v) := by
  rcases h with h | ⟨b', off', e, hlo, hlt, hc, hf⟩
  · rw [h] at hn; simp at hn
  · simp only [Option.some.injEq, Addr.mk.injEq, and_true] at e
    obtain ⟨rfl, rfl⟩ := e
    have := OwnCells.set (lo := lo) v hn hlo hlt hc hf
    rwa [Nat.zero_add] at this
theorem OwnCells.at0 {w : World} {lo b n : Nat} {T : List Value} (h : OwnCells w lo (some ⟨b, 0, none⟩) T) (hn : n < T.length) : w.cell? ⟨b, n, none⟩ = some T[n] ∧ w.frozen? ⟨b, n, none⟩ = false := by
  rcases h with h | ⟨b', off', e, hlo, hlt, hc, hf⟩
  · rw [h] at hn; simp at hn
  · simp only [Option.some.injEq, Addr.mk.injEq, and_true] at e
    obtain ⟨rfl, rfl⟩ := e
    exact ⟨by rw [← hc n hn, Nat.zero_add], by rw [← hf n hn, Nat.zero_add]⟩
/-- Four cells in the midst of a row are put anew. -/
theorem set_four {X Y : List Value} {a b c d e f g h : Value} {n : Nat} (hn : X.length = n) : ((((X ++ a :: b :: c :: d :: Y).set n e).set (n + 1) f).set (n + 2) g).set (n + 3) h = X ++ e :: f :: g :: h :: Y := by
  subst hn
  rw [List.set_append_right _ _ (Nat.le_refl _), List.set_append_right _ _ (by omega), List.set_append_right _ _ (by omega), List.set_append_right _ _ (by omega)]
  simp
/-- The cells of a list of things, each of s cells. -/
def cellsOf {α : Type} (enc : α → List Value) (l : List α) : List Value := l.flatMap enc
theorem cellsOf_length {α : Type} {enc : α → List Value} {s : Nat} (he : ∀ x, (enc x).length = s) (l : List α) : (cellsOf enc l).length = l.length * s := by
  induction l with
  | nil => simp [cellsOf]
  | cons x r ih =>
    unfold cellsOf at ih ⊢
    rw [List.flatMap_cons, List.length_append, he, ih, List.length_cons, Nat.add_mul]
    omega
theorem cellsOf_append {α : Type} {enc : α → List Value} (l m : List α) : cellsOf enc (l ++ m) = cellsOf enc l ++ cellsOf enc m := by simp [cellsOf]
theorem cellsOf_at {α : Type} {enc : α → List Value} {s : Nat} (he : ∀ x, (enc x).length = s) (l : List α) (i j : Nat) (hi : i < l.length) (hj : j < s) : (cellsOf enc l)[i * s + j]? = (enc l[i])[j]? := by
  induction l generalizing i with
  | nil => simp at hi
  | cons x r ih =>
    have e : cellsOf enc (x :: r) = enc x ++ cellsOf enc r := by simp [cellsOf]
    rw [e]
    cases i with
    | zero =>
      rw [Nat.zero_mul, Nat.zero_add, List.getElem?_append_left (by rw [he]; exact hj)]
      rfl
    | succ i =>
      rw [List.getElem?_append_right (by rw [he, Nat.add_mul]; omega), he, show (i + 1) * s + j - s = i * s + j by rw [Nat.add_mul]; omega]
      rw [ih i (by simpa using hi)]
      simp
theorem cellsOf_take {α : Type} {enc : α → List Value} {s : Nat} (he : ∀ x, (enc x).length = s) (l : List α) (k : Nat) (hk : k ≤ l.length) : (cellsOf enc l).take (k * s) = cellsOf enc (l.take k) := by
  conv => lhs; rw [← List.take_append_drop k l]
  rw [cellsOf_append, List.take_append_of_le_length (by rw [cellsOf_length he, List.length_take, Nat.min_eq_left hk]; exact Nat.le_refl _), List.take_of_length_le (by rw [cellsOf_length he, List.length_take, Nat.min_eq_left hk]; exact Nat.le_refl _)]
theorem cellsOf_drop {α : Type} {enc : α → List Value} {s : Nat} (he : ∀ x, (enc x).length = s) (l : List α) (k : Nat) (hk : k ≤ l.length) : (cellsOf enc l).drop (k * s) = cellsOf enc (l.drop k) := by
  conv => lhs; rw [← List.take_append_drop k l]
  have hl : (cellsOf enc (l.take k)).length = k * s := by rw [cellsOf_length he, List.length_take, Nat.min_eq_left hk]
  rw [cellsOf_append, ← hl, List.drop_left]
/-- One of a row's things, cell by cell. -/
theorem CellRow.thing {α : Type} {enc : α → List Value} {s : Nat} {w : World} {b off : Nat} {l : List α} (he : ∀ x, (enc x).length = s) (h : CellRow w (some ⟨b, off, none⟩) (cellsOf enc l)) {i j : Nat} {v : Value} (hi : i < l.length) (hj : j < s) (hv : (enc l[i])[j]? = some v) : w.cell? ⟨b, off + (i * s + j), none⟩ = some v := by
  have hlen := cellsOf_length he l
  have hlt : i * s + j < (cellsOf enc l).length := by
    rw [hlen]
    have : (i + 1) * s ≤ l.length * s := Nat.mul_le_mul_right _ hi
    rw [Nat.add_mul] at this
    omega
  rcases h with h | ⟨b', off', e, _, hc⟩
  · rw [h] at hlt; simp at hlt
  · simp only [Option.some.injEq, Addr.mk.injEq, and_true] at e
    obtain ⟨rfl, rfl⟩ := e
    rw [hc _ hlt]
    have := cellsOf_at he l i j hi hj
    rw [List.getElem?_eq_getElem hlt, hv] at this
    exact this
theorem CellRow.thing0 {α : Type} {enc : α → List Value} {s : Nat} {w : World} {b off : Nat} {l : List α} (he : ∀ x, (enc x).length = s) (h : CellRow w (some ⟨b, off, none⟩) (cellsOf enc l)) {i : Nat} {v : Value} (hi : i < l.length) (hs : 0 < s) (hv : (enc l[i])[0]? = some v) : w.cell? ⟨b, off + i * s, none⟩ = some v := h.thing he (j := 0) hi hs hv
theorem CellRow.thingj {α : Type} {enc : α → List Value} {s : Nat} {w : World} {b off : Nat} {l : List α} (he : ∀ x, (enc x).length = s) (h : CellRow w (some ⟨b, off, none⟩) (cellsOf enc l)) {i j : Nat} {v : Value} (hi : i < l.length) (hj : j < s) (hv : (enc l[i])[j]? = some v) : w.cell? ⟨b, off + i * s + j, none⟩ = some v := by
  rw [Nat.add_assoc]
  exact h.thing he hi hj hv
end Go.Proofs.Ytgmdgjkmdnpmiaa
