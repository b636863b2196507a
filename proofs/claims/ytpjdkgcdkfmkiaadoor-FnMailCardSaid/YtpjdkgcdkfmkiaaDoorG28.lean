/- The contracts of GetText. -/
import Derived.Test.YtpjdkgcdkfmkiaaDoorG26
import Derived.Test.YtpjdkgcdkfmkiaaDoorG27
import Derived.BigRegion
import Derived.ChangeAlike
import Derived.Deep.RegionWith
namespace Go.Proofs.YtpjdkgcdkfmkiaaDoor
open Go Go.RowKit
set_option linter.unusedVariables false

/-- GetText. -/
def getT (s : ByteArray) (a : Int) : ByteArray × Int × Int :=
  if ¬ (getN s a).2.2 = 0 then (⟨#[]⟩, 0, (getN s a).2.2) else if (getN s a).1 < 0 ∨ 8000 < (getN s a).1 then (⟨#[]⟩, 0, 3) else
    if (s.size : Int) - (getN s a).2.1 < (getN s a).1 then (⟨#[]⟩, 0, 4) else (s.extract (getN s a).2.1.toNat ((getN s a).2.1 + (getN s a).1).toNat, (getN s a).2.1 + (getN s a).1, 0)
theorem getT_bad {s : ByteArray} {a c : Int} (h : getN s a = (0, 0, c)) (hc : c ≠ 0) : getT s a = (⟨#[]⟩, 0, c) := by unfold getT; rw [h, if_pos hc]
theorem getT_syn {s : ByteArray} {a n k : Int} (h : getN s a = (n, k, 0)) (hn : n < 0 ∨ 8000 < n) : getT s a = (⟨#[]⟩, 0, 3) := by unfold getT; rw [h, if_neg (by simp), if_pos hn]
theorem getT_short {s : ByteArray} {a n k : Int} (h : getN s a = (n, k, 0)) (hn : ¬ (n < 0 ∨ 8000 < n)) (h2 : (s.size : Int) - k < n) : getT s a = (⟨#[]⟩, 0, 4) := by unfold getT; rw [h, if_neg (by simp), if_neg hn, if_pos h2]
theorem getT_ok {s : ByteArray} {a : Int} {n k : Nat} (h : getN s a = ((n : Int), (k : Int), 0)) (hn : ¬ ((n : Int) < 0 ∨ 8000 < (n : Int))) (h2 : ¬ (s.size : Int) - (k : Int) < (n : Int)) : getT s a = (s.extract k (k + n), (k : Int) + (n : Int), 0) := by
  unfold getT; rw [h, if_neg (by simp), if_neg hn, if_neg h2]
  show (s.extract (k : Int).toNat ((k : Int) + (n : Int)).toNat, _, _) = _
  rw [show (k : Int).toNat = k from by omega, show ((k : Int) + (n : Int)).toNat = k + n from by omega]
/-- The place behind a number that is read lies within the text. -/
theorem getN_place {s : ByteArray} {a n k : Int} (h : getN s a = (n, k, 0)) : 0 ≤ k ∧ k ≤ (s.size : Int) ∧ (s.size : Int) ≤ 8000 ∧ -9223372036854775808 ≤ n ∧ n ≤ 9223372036854775807 := by
  unfold getN at h
  by_cases h1 : 8000 < (s.size : Int)
  · rw [if_pos h1] at h; simp at h
  rw [if_neg h1] at h
  by_cases h2 : a < 0
  · rw [if_pos h2] at h; simp at h
  rw [if_neg h2] at h
  by_cases h3 : (rdOf s a.toNat).2.2 = 0
  · rw [if_pos h3] at h
    have hf := rdOf_fits s a.toNat
    have hp : a.toNat < s.size := by
      rcases Nat.lt_or_ge a.toNat s.size with hl | hl
      · exact hl
      · rw [(RdAt_zero s a.toNat).short (by omega)] at h3; simp at h3
    simp only [Prod.mk.injEq] at h
    have hw := unfold_wf hf.1
    obtain ⟨e1, e2, _⟩ := h
    omega
  · rw [if_neg h3] at h; simp only [Prod.mk.injEq] at h; exact absurd h.2.2 h3

def textV (ps : List ByteArray) (r : ByteArray × Int × Int) : Value := if r.2.2 = 0 then .tuple #[.string r.1, .int .i64 r.2.1, .nilIface] else .tuple #[.string ⟨#[]⟩, .int .i64 0, errV ps r.2.2]
theorem textV_bad {ps : List ByteArray} {r : ByteArray × Int × Int} {c : Int} (h : r = (⟨#[]⟩, 0, c)) (hc : c ≠ 0) : textV ps r = .tuple #[.string ⟨#[]⟩, .int .i64 0, errV ps c] := by
  subst h; unfold textV; rw [if_neg hc]
theorem textV_ok {ps : List ByteArray} {r : ByteArray × Int × Int} {t : ByteArray} {k : Int} (h : r = (t, k, 0)) : textV ps r = .tuple #[.string t, .int .i64 k, .nilIface] := by
  subst h; unfold textV; rw [if_pos rfl]
theorem ret_val {a b : Value} (h : a = b) : Ending.returned a = .returned b := by rw [h]
theorem joined_one (p : ByteArray) (w : World) (hp : p.size ≤ 10000) :
    Calls Tryd.prog 46 #[.slice (some ⟨w.heap.size, 0, none⟩) 1 1] (w.alloc (.cells #[.string p] 9)) fun e w' => e = .returned (.string p) ∧ Below w.heap.size w w' := by
  have hcat : cat [p] = p.data.toList := by simp [cat]
  refine (joined_any [p] w.heap.size 1 _ (by simp) (by rw [hcat]; simp; omega) (by simp) (fun j hj => ?_)).mono ?_
  · match j, hj with
    | 0, _ => exact World.cell?_alloc_at _ _ _ _ rfl
  · rintro e w' ⟨rfl, hb⟩
    exact ⟨ret_str' (by rw [hcat]), ((Below.refl _ _).alloc (Nat.le_refl _) _).trans (hb.mono (by simp))⟩

/-- What GetText and Unseal answer. -/
def textOut (r : ByteArray × Int × Int) : Value := .agg #[.string r.1, .int .i64 r.2.1, .int .i64 r.2.2]
theorem getT_code (s : ByteArray) (a : Int) : (∃ t k, getT s a = (t, k, 0)) ∨ ∃ c : Int, getT s a = (⟨#[]⟩, 0, c) ∧ c ≠ 0 := by
  unfold getT
  by_cases h1 : (getN s a).2.2 = 0
  · rw [if_neg (by simpa using h1)]
    by_cases h2 : (getN s a).1 < 0 ∨ 8000 < (getN s a).1
    · rw [if_pos h2]; exact .inr ⟨3, rfl, by omega⟩
    · rw [if_neg h2]
      by_cases h3 : (s.size : Int) - (getN s a).2.1 < (getN s a).1
      · rw [if_pos h3]; exact .inr ⟨4, rfl, by omega⟩
      · rw [if_neg h3]; exact .inl ⟨_, _, rfl⟩
  · rw [if_pos h1]; exact .inr ⟨_, rfl, h1⟩

theorem two_kept {w x1 : World} {x y z a b c : Value} {t u : Nat} (hb : Below (w.alloc (.cells #[x, y, z] t)).heap.size (w.alloc (.cells #[x, y, z] t)) x1) :
    ∀ W, W = x1.alloc (.cells #[a, b, c] u) → W.cell? ⟨w.heap.size, 0, none⟩ = some x ∧ W.cell? ⟨w.heap.size, 1, none⟩ = some y ∧ W.cell? ⟨w.heap.size, 2, none⟩ = some z ∧
      W.frozen? ⟨w.heap.size, 0, none⟩ = false ∧ W.frozen? ⟨w.heap.size, 1, none⟩ = false ∧ W.frozen? ⟨w.heap.size, 2, none⟩ = false := by
  rintro W rfl
  exact three_kept (hb.alloc hb.size _)

end Go.Proofs.YtpjdkgcdkfmkiaaDoor
/- The contracts of Unseal. -/
namespace Go.Proofs.YtpjdkgcdkfmkiaaDoor
open Go Go.RowKit
set_option linter.unusedVariables false

/-- Unseal. -/
def getU (s : ByteArray) : ByteArray × Int × Int :=
  if 8000 < (s.size : Int) then (⟨#[]⟩, 0, 2) else if (s.size : Int) < 4 then (⟨#[]⟩, 0, 4) else
    if sealB (s.extract 0 (s.size - 4)) = s.data.toList then (s.extract 0 (s.size - 4), 0, 0) else (⟨#[]⟩, 0, 5)
def unsV (ps : List ByteArray) (r : ByteArray × Int × Int) : Value := if r.2.2 = 0 then .tuple #[.string r.1, .nilIface] else .tuple #[.string ⟨#[]⟩, errV ps r.2.2]
theorem unsV_bad {ps : List ByteArray} {r : ByteArray × Int × Int} {c : Int} (h : r = (⟨#[]⟩, 0, c)) (hc : c ≠ 0) : unsV ps r = .tuple #[.string ⟨#[]⟩, errV ps c] := by
  subst h; unfold unsV; rw [if_neg hc]
theorem unsV_ok {ps : List ByteArray} {r : ByteArray × Int × Int} {t : ByteArray} (h : r = (t, 0, 0)) : unsV ps r = .tuple #[.string t, .nilIface] := by
  subst h; unfold unsV; rw [if_pos rfl]
theorem getU_size {s : ByteArray} (h : 8000 < (s.size : Int)) : getU s = (⟨#[]⟩, 0, 2) := if_pos h
theorem getU_short {s : ByteArray} (h : ¬ 8000 < (s.size : Int)) (h2 : (s.size : Int) < 4) : getU s = (⟨#[]⟩, 0, 4) := by unfold getU; rw [if_neg h, if_pos h2]
theorem getU_ok {s : ByteArray} (h : ¬ 8000 < (s.size : Int)) (h2 : ¬ (s.size : Int) < 4) (h3 : sealB (s.extract 0 (s.size - 4)) = s.data.toList) : getU s = (s.extract 0 (s.size - 4), 0, 0) := by unfold getU; rw [if_neg h, if_neg h2, if_pos h3]
theorem getU_sum {s : ByteArray} (h : ¬ 8000 < (s.size : Int)) (h2 : ¬ (s.size : Int) < 4) (h3 : ¬ sealB (s.extract 0 (s.size - 4)) = s.data.toList) : getU s = (⟨#[]⟩, 0, 5) := by unfold getU; rw [if_neg h, if_neg h2, if_neg h3]

set_option maxHeartbeats 1000000 in
set_option maxRecDepth 100000 in
theorem unsealed_any (s : ByteArray) (w : World) :
    Calls Tryd.prog 52 #[.string s] w fun e w' => (∃ ps, e = .returned (unsV ps (getU s))) ∧ Below w.heap.size w w' := by
  by_cases h1 : 8000 < (s.size : Int)
  · go_enter Tryd.func52, Tryd.ntmps52
    go_wp2
    go_ret2
    exact ⟨⟨[], ret_val (unsV_bad (ps := []) (getU_size h1) (by omega)).symm⟩, Below.refl _ _⟩
  by_cases h2 : (s.size : Int) < 4
  · go_enter Tryd.func52, Tryd.ntmps52
    go_wp2
    go_ret2
    exact ⟨⟨[], ret_val (unsV_bad (ps := []) (getU_short (by omega) h2) (by omega)).symm⟩, Below.refl _ _⟩
  have hsz : (s.extract 0 (s.size - 4)).size ≤ maxLen := by simp [maxLen]; omega
  by_cases h3 : sealB (s.extract 0 (s.size - 4)) = s.data.toList
  · have H3 : Hid (sealB (s.extract 0 (s.size - 4)) = s.data.toList) := h3
    have hbq : (sealB (s.extract 0 (s.size - 4)) == s.toList) = true := by rw [ByteArray.toList_eq, h3]; simp
    clear h3
    go_enter Tryd.func52, Tryd.ntmps52
    go_wp2_with (first | (go_at_call 20; refine (implSeal_any _ _ hsz).mono ?_; rintro e w1 ⟨rfl, hb1⟩) | (go_at_call 46; refine (joined_one _ _ (by simp; omega)).mono ?_; rintro e w2 ⟨rfl, hb2⟩))
    go_ret2
    exact ⟨⟨[], ret_val (unsV_ok (ps := []) (getU_ok (by omega) (by omega) H3.out)).symm⟩, hb1.trans (hb2.mono hb1.size)⟩
  · have H3 : Hid (¬ sealB (s.extract 0 (s.size - 4)) = s.data.toList) := h3
    have hbq : (sealB (s.extract 0 (s.size - 4)) == s.toList) = false := by rw [ByteArray.toList_eq]; simpa using h3
    clear h3
    go_enter Tryd.func52, Tryd.ntmps52
    go_wp2_with (go_at_call 20; refine (implSeal_any _ _ hsz).mono ?_; rintro e w1 ⟨rfl, hb1⟩)
    go_ret2
    exact ⟨⟨[⟨#[115, 101, 97, 108]⟩], ret_val (unsV_bad (ps := [⟨#[115, 101, 97, 108]⟩]) (getU_sum (by omega) (by omega) H3.out) (by omega)).symm⟩, hb1⟩

theorem extract_data' (s : ByteArray) (a b : Nat) : (s.extract a b).data.toList = (s.data.toList.drop a).take (b - a) := by
  rw [ByteArray.data_extract]
  simp [Array.toList_extract, List.extract]
theorem four_iff {s : ByteArray} (h1 : s.size ≤ 8000) (h2 : 4 ≤ s.size) : sealB (s.extract 0 (s.size - 4)) = s.data.toList ↔ fourB ((crcOf 0 (s.extract 0 (s.size - 4)).data.toList : Nat) : Int) = (s.extract (s.size - 4) s.size).data.toList := by
  rw [sealB_yes (by simp; omega), extract_data' s 0, extract_data' s (s.size - 4)]
  have hl : s.data.toList.length = s.size := by simp
  rw [List.drop_zero, List.take_of_length_le (l := s.data.toList.drop (s.size - 4)) (by rw [List.length_drop, hl]; omega), Nat.sub_zero]
  constructor
  · intro h
    have h' := h.trans (List.take_append_drop (s.size - 4) s.data.toList).symm
    exact (List.append_cancel_left h')
  · intro h
    rw [h, List.take_append_drop]

theorem below_undrew {W x : World} (h : Below W.drew.heap.size W.drew x) : Below W.heap.size W x := ⟨h.os, h.tape, h.output, h.size, h.block⟩
set_option maxHeartbeats 1000000 in
set_option maxRecDepth 100000 in
theorem specUnseal_any (s : ByteArray) (w : World) :
    Calls Tryd.prog 25 #[.string s] w fun e w' => e = .returned (textOut (getU s)) ∧ Below w.heap.size w w' := by
  have hb0 : ∀ x y z, Below w.heap.size w (w.alloc (.cells #[x, y, z] 48)) := fun _ _ _ => (Below.refl _ _).alloc (Nat.le_refl _) _
  by_cases h1 : 8000 < (s.size : Int)
  · rw [getU_size h1]
    go_enter Tryd.func25, Tryd.ntmps25
    go_wp2
    exact bodyPost_ret (v := .agg #[.string ⟨#[]⟩, .int .i64 0, .int .i64 2]) (by simp [results, Tryd.results25, go_sem]) rfl ⟨rfl, hb0 _ _ _⟩
  by_cases h2 : (s.size : Int) < 4
  · rw [getU_short h1 h2]
    go_enter Tryd.func25, Tryd.ntmps25
    go_wp2
    exact bodyPost_ret (v := .agg #[.string ⟨#[]⟩, .int .i64 0, .int .i64 4]) (by simp [results, Tryd.results25, go_sem]) rfl ⟨rfl, hb0 _ _ _⟩
  have hsz : (s.extract 0 (s.size - 4)).size ≤ maxLen := by simp [maxLen]; omega
  have hlt := crcOf_lt 0 (s.extract 0 (s.size - 4)).data.toList (by omega)
  obtain ⟨c, hcc⟩ : ∃ c, crcOf 0 (s.extract 0 (s.size - 4)).data.toList = c := ⟨_, rfl⟩
  rw [hcc] at hlt
  have HC : Hid (crcOf 0 (s.extract 0 (s.size - 4)).data.toList = c) := hcc
  have hfi := four_iff (s := s) (by omega) (by omega)
  rw [hcc] at hfi
  have fin : ∀ {x2 : World} {x y z : Value}, Below (w.alloc (.cells #[.string ⟨#[]⟩, .int .i64 0, .int .i64 0] 48)).heap.size (w.alloc (.cells #[.string ⟨#[]⟩, .int .i64 0, .int .i64 0] 48)) x2 →
      Below w.heap.size w (((x2.setCell ⟨w.heap.size, 0, none⟩ x).setCell ⟨w.heap.size, 1, none⟩ y).setCell ⟨w.heap.size, 2, none⟩ z) := by
    intro x2 x y z hb1
    have h0 := hb0 (.string ⟨#[]⟩) (.int .i64 0) (.int .i64 0)
    exact three_below (h0.trans (hb1.mono h0.size))
  clear hcc
  by_cases h3 : sealB (s.extract 0 (s.size - 4)) = s.data.toList
  · have hbq : (fourB (c : Int) == (s.extract (s.size - 4) s.size).toList) = true := by rw [ByteArray.toList_eq, hfi.1 h3]; simp
    rw [getU_ok h1 h2 h3]
    clear h3 hfi
    have hwrp : IntKind.i64.wrap ((s.size : Int) - 4) = (s.size : Int) - 4 := by rw [IntKind.wrap_i64]; omega
    have hl4 : (0 : Int) ≤ (s.size : Int) - 4 := by omega
    have ht4 : ((s.size : Int) - 4).toNat = s.size - 4 := by omega
    have hle4 : (s.size : Int) - 4 ≤ (s.size : Int) := by omega
    go_enter Tryd.func25, Tryd.ntmps25
    go_wp2
    go_region_with (first | (go_at_call 51; refine (l01Crc_any _ _ _ hsz (by omega) (by omega)).mono ?_; rintro e x1 ⟨rfl, rfl⟩; rw [HC.out]) | (go_at_call 50; refine (four_any _ _ (by omega) (by omega)).mono ?_; rintro e x2 ⟨rfl, hb2⟩))
    have hb3 := below_undrew hb2
    obtain ⟨q0, q1, q2, f0, f1, f2⟩ := three_kept hb3
    go_wp2
    exact bodyPost_ret (v := .agg #[.string (s.extract 0 (s.size - 4)), .int .i64 0, .int .i64 0]) (by simp [results, Tryd.results25, go_sem, q0, q1, q2]) rfl ⟨rfl, fin hb3⟩
  · have hbq : (fourB (c : Int) == (s.extract (s.size - 4) s.size).toList) = false := by rw [ByteArray.toList_eq]; simpa using fun h => h3 (hfi.2 h)
    rw [getU_sum h1 h2 h3]
    clear h3 hfi
    have hwrp : IntKind.i64.wrap ((s.size : Int) - 4) = (s.size : Int) - 4 := by rw [IntKind.wrap_i64]; omega
    have hl4 : (0 : Int) ≤ (s.size : Int) - 4 := by omega
    have ht4 : ((s.size : Int) - 4).toNat = s.size - 4 := by omega
    have hle4 : (s.size : Int) - 4 ≤ (s.size : Int) := by omega
    go_enter Tryd.func25, Tryd.ntmps25
    go_wp2
    go_region_with (first | (go_at_call 51; refine (l01Crc_any _ _ _ hsz (by omega) (by omega)).mono ?_; rintro e x1 ⟨rfl, rfl⟩; rw [HC.out]) | (go_at_call 50; refine (four_any _ _ (by omega) (by omega)).mono ?_; rintro e x2 ⟨rfl, hb2⟩))
    have hb3 := below_undrew hb2
    obtain ⟨q0, q1, q2, f0, f1, f2⟩ := three_kept hb3
    go_wp2
    exact bodyPost_ret (v := .agg #[.string ⟨#[]⟩, .int .i64 0, .int .i64 5]) (by simp [results, Tryd.results25, go_sem, q0, q1, q2]) rfl ⟨rfl, fin hb3⟩

theorem getU_code (s : ByteArray) : (∃ t, getU s = (t, 0, 0)) ∨ ∃ c : Int, getU s = (⟨#[]⟩, 0, c) ∧ c ≠ 0 := by
  unfold getU
  by_cases h1 : 8000 < (s.size : Int)
  · rw [if_pos h1]; exact .inr ⟨2, rfl, by omega⟩
  · rw [if_neg h1]
    by_cases h2 : (s.size : Int) < 4
    · rw [if_pos h2]; exact .inr ⟨4, rfl, by omega⟩
    · rw [if_neg h2]
      by_cases h3 : sealB (s.extract 0 (s.size - 4)) = s.data.toList
      · rw [if_pos h3]; exact .inl ⟨_, rfl⟩
      · rw [if_neg h3]; exact .inr ⟨5, rfl, by omega⟩

end Go.Proofs.YtpjdkgcdkfmkiaaDoor
