/- The contracts of GetText. -/
import Derived.Test.YtpjdkgcdkfmkiaaDoorGetSpec
import Derived.Test.YtpjdkgcdkfmkiaaDoorSeal
import Derived.BigRegion
import Derived.ChangeAlike
namespace Go.Proofs.YtpjdkgcdkfmkiaaDoor
open Go Go.RowKit
set_option linter.unusedVariables false

/-- GetText. -/
def getT (s : ByteArray) (a : Int) : ByteArray × Int × Int :=
  if ¬ (getN s a).2.2 = 0 then (⟨#[]⟩, 0, (getN s a).2.2) else if (getN s a).1 < 0 ∨ 8000 < (getN s a).1 then (⟨#[]⟩, 0, 3) else
    if (s.size : Int) - (getN s a).2.1 < (getN s a).1 then (⟨#[]⟩, 0, 4) else (s.extract (getN s a).2.1.toNat ((getN s a).2.1 + (getN s a).1).toNat, (getN s a).2.1 + (getN s a).1, 0)
theorem getT_bad {s : ByteArray} {a c : Int} (h : getN s a = (0, 0, c)) (hc : c ≠ 0) : getT s a = (⟨#[]⟩, 0, c) := by unfold getT; rw [h, if_pos hc]
theorem getT_syn {s : ByteArray} {a n k : Int} (h : getN s a = (n, k, 0)) (hn : n < 0 ∨ 8000 < n) : getT s a = (⟨#[]⟩, 0, 3) := by unfold getT; rw [h, if_neg (by simp), if_pos hn]
theorem getT_short {s : ByteArray} {a n k : Int} (h : getN s a = (n, k, 0)) (hn : ¬ (n < 0 ∨ 8000 < n)) (h2 : (s.size : Int) - k < n) : getT s a = (⟨#[]⟩, 0, 4) := by unfold getT; rw [h, if_neg (by simp), if_neg hn, if_pos h2]
theorem getT_ok {s : ByteArray} {a : Int} {n k : Nat} (h : getN s a = ((n : Int), (k : Int), 0)) (hn : ¬ ((n : Int) < 0 ∨ 8000 < (n : Int))) (h2 : ¬ (s.size : Int) - (k : Int) < (n : Int)) : getT s a = (s.extract k (k + n), (k : Int) + (n : Int), 0) := by
  unfold getT; rw [h, if_neg (by simp), if_neg hn, if_neg h2]
  show (s.extract (k : Int).toNat ((k : Int) + (n : Int)).toNat, _, _) = _
  rw [show (k : Int).toNat = k from by omega, show ((k : Int) + (n : Int)).toNat = k + n from by omega]
/-- The place behind a number that is read lies within the text. -/
theorem getN_place {s : ByteArray} {a n k : Int} (h : getN s a = (n, k, 0)) : 0 ≤ k ∧ k ≤ (s.size : Int) ∧ (s.size : Int) ≤ 8000 ∧ -9223372036854775808 ≤ n ∧ n ≤ 9223372036854775807 := by
  unfold getN at h
  by_cases h1 : 8000 < (s.size : Int)
  · rw [if_pos h1] at h; simp at h
  rw [if_neg h1] at h
  by_cases h2 : a < 0
  · rw [if_pos h2] at h; simp at h
  rw [if_neg h2] at h
  by_cases h3 : (rdOf s a.toNat).2.2 = 0
  · rw [if_pos h3] at h
    have hf := rdOf_fits s a.toNat
    have hp : a.toNat < s.size := by
      rcases Nat.lt_or_ge a.toNat s.size with hl | hl
      · exact hl
      · rw [(RdAt_zero s a.toNat).short (by omega)] at h3; simp at h3
    simp only [Prod.mk.injEq] at h
    have hw := unfold_wf hf.1
    obtain ⟨e1, e2, _⟩ := h
    omega
  · rw [if_neg h3] at h; simp only [Prod.mk.injEq] at h; exact absurd h.2.2 h3

def textV (ps : List ByteArray) (r : ByteArray × Int × Int) : Value := if r.2.2 = 0 then .tuple #[.string r.1, .int .i64 r.2.1, .nilIface] else .tuple #[.string ⟨#[]⟩, .int .i64 0, errV ps r.2.2]
theorem textV_bad {ps : List ByteArray} {r : ByteArray × Int × Int} {c : Int} (h : r = (⟨#[]⟩, 0, c)) (hc : c ≠ 0) : textV ps r = .tuple #[.string ⟨#[]⟩, .int .i64 0, errV ps c] := by
  subst h; unfold textV; rw [if_neg hc]
theorem textV_ok {ps : List ByteArray} {r : ByteArray × Int × Int} {t : ByteArray} {k : Int} (h : r = (t, k, 0)) : textV ps r = .tuple #[.string t, .int .i64 k, .nilIface] := by
  subst h; unfold textV; rw [if_pos rfl]
theorem ret_val {a b : Value} (h : a = b) : Ending.returned a = .returned b := by rw [h]
theorem joined_one (p : ByteArray) (w : World) (hp : p.size ≤ 10000) :
    Calls Tryd.prog 46 #[.slice (some ⟨w.heap.size, 0, none⟩) 1 1] (w.alloc (.cells #[.string p] 9)) fun e w' => e = .returned (.string p) ∧ Below w.heap.size w w' := by
  have hcat : cat [p] = p.data.toList := by simp [cat]
  refine (joined_any [p] w.heap.size 1 _ (by simp) (by rw [hcat]; simp; omega) (by simp) (fun j hj => ?_)).mono ?_
  · match j, hj with
    | 0, _ => exact World.cell?_alloc_at _ _ _ _ rfl
  · rintro e w' ⟨rfl, hb⟩
    exact ⟨ret_str' (by rw [hcat]), ((Below.refl _ _).alloc (Nat.le_refl _) _).trans (hb.mono (by simp))⟩

/-- What GetText and Unseal answer. -/
def textOut (r : ByteArray × Int × Int) : Value := .agg #[.string r.1, .int .i64 r.2.1, .int .i64 r.2.2]
theorem getT_code (s : ByteArray) (a : Int) : (∃ t k, getT s a = (t, k, 0)) ∨ ∃ c : Int, getT s a = (⟨#[]⟩, 0, c) ∧ c ≠ 0 := by
  unfold getT
  by_cases h1 : (getN s a).2.2 = 0
  · rw [if_neg (by simpa using h1)]
    by_cases h2 : (getN s a).1 < 0 ∨ 8000 < (getN s a).1
    · rw [if_pos h2]; exact .inr ⟨3, rfl, by omega⟩
    · rw [if_neg h2]
      by_cases h3 : (s.size : Int) - (getN s a).2.1 < (getN s a).1
      · rw [if_pos h3]; exact .inr ⟨4, rfl, by omega⟩
      · rw [if_neg h3]; exact .inl ⟨_, _, rfl⟩
  · rw [if_pos h1]; exact .inr ⟨_, rfl, h1⟩

theorem two_kept {w x1 : World} {x y z a b c : Value} {t u : Nat} (hb : Below (w.alloc (.cells #[x, y, z] t)).heap.size (w.alloc (.cells #[x, y, z] t)) x1) :
    ∀ W, W = x1.alloc (.cells #[a, b, c] u) → W.cell? ⟨w.heap.size, 0, none⟩ = some x ∧ W.cell? ⟨w.heap.size, 1, none⟩ = some y ∧ W.cell? ⟨w.heap.size, 2, none⟩ = some z ∧
      W.frozen? ⟨w.heap.size, 0, none⟩ = false ∧ W.frozen? ⟨w.heap.size, 1, none⟩ = false ∧ W.frozen? ⟨w.heap.size, 2, none⟩ = false := by
  rintro W rfl
  exact three_kept (hb.alloc hb.size _)

end Go.Proofs.YtpjdkgcdkfmkiaaDoor
