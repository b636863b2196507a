/- The contracts of Unseal. -/
import Derived.Test.YtpjdkgcdkfmkiaaDoorText
import Derived.Deep.RegionWith
namespace Go.Proofs.YtpjdkgcdkfmkiaaDoor
open Go Go.RowKit
set_option linter.unusedVariables false

/-- Unseal. -/
def getU (s : ByteArray) : ByteArray × Int × Int :=
  if 8000 < (s.size : Int) then (⟨#[]⟩, 0, 2) else if (s.size : Int) < 4 then (⟨#[]⟩, 0, 4) else
    if sealB (s.extract 0 (s.size - 4)) = s.data.toList then (s.extract 0 (s.size - 4), 0, 0) else (⟨#[]⟩, 0, 5)
def unsV (ps : List ByteArray) (r : ByteArray × Int × Int) : Value := if r.2.2 = 0 then .tuple #[.string r.1, .nilIface] else .tuple #[.string ⟨#[]⟩, errV ps r.2.2]
theorem unsV_bad {ps : List ByteArray} {r : ByteArray × Int × Int} {c : Int} (h : r = (⟨#[]⟩, 0, c)) (hc : c ≠ 0) : unsV ps r = .tuple #[.string ⟨#[]⟩, errV ps c] := by
  subst h; unfold unsV; rw [if_neg hc]
theorem unsV_ok {ps : List ByteArray} {r : ByteArray × Int × Int} {t : ByteArray} (h : r = (t, 0, 0)) : unsV ps r = .tuple #[.string t, .nilIface] := by
  subst h; unfold unsV; rw [if_pos rfl]
theorem getU_size {s : ByteArray} (h : 8000 < (s.size : Int)) : getU s = (⟨#[]⟩, 0, 2) := if_pos h
theorem getU_short {s : ByteArray} (h : ¬ 8000 < (s.size : Int)) (h2 : (s.size : Int) < 4) : getU s = (⟨#[]⟩, 0, 4) := by unfold getU; rw [if_neg h, if_pos h2]
theorem getU_ok {s : ByteArray} (h : ¬ 8000 < (s.size : Int)) (h2 : ¬ (s.size : Int) < 4) (h3 : sealB (s.extract 0 (s.size - 4)) = s.data.toList) : getU s = (s.extract 0 (s.size - 4), 0, 0) := by unfold getU; rw [if_neg h, if_neg h2, if_pos h3]
theorem getU_sum {s : ByteArray} (h : ¬ 8000 < (s.size : Int)) (h2 : ¬ (s.size : Int) < 4) (h3 : ¬ sealB (s.extract 0 (s.size - 4)) = s.data.toList) : getU s = (⟨#[]⟩, 0, 5) := by unfold getU; rw [if_neg h, if_neg h2, if_neg h3]

set_option maxHeartbeats 1000000 in
set_option maxRecDepth 100000 in
theorem unsealed_any (s : ByteArray) (w : World) :
    Calls Tryd.prog 52 #[.string s] w fun e w' => (∃ ps, e = .returned (unsV ps (getU s))) ∧ Below w.heap.size w w' := by
  by_cases h1 : 8000 < (s.size : Int)
  · go_enter Tryd.func52, Tryd.ntmps52
    go_wp2
    go_ret2
    exact ⟨⟨[], ret_val (unsV_bad (ps := []) (getU_size h1) (by omega)).symm⟩, Below.refl _ _⟩
  by_cases h2 : (s.size : Int) < 4
  · go_enter Tryd.func52, Tryd.ntmps52
    go_wp2
    go_ret2
    exact ⟨⟨[], ret_val (unsV_bad (ps := []) (getU_short (by omega) h2) (by omega)).symm⟩, Below.refl _ _⟩
  have hsz : (s.extract 0 (s.size - 4)).size ≤ maxLen := by simp [maxLen]; omega
  by_cases h3 : sealB (s.extract 0 (s.size - 4)) = s.data.toList
  · have H3 : Hid (sealB (s.extract 0 (s.size - 4)) = s.data.toList) := h3
    have hbq : (sealB (s.extract 0 (s.size - 4)) == s.toList) = true := by rw [ByteArray.toList_eq, h3]; simp
    clear h3
    go_enter Tryd.func52, Tryd.ntmps52
    go_wp2_with (first | (go_at_call 20; refine (implSeal_any _ _ hsz).mono ?_; rintro e w1 ⟨rfl, hb1⟩) | (go_at_call 46; refine (joined_one _ _ (by simp; omega)).mono ?_; rintro e w2 ⟨rfl, hb2⟩))
    go_ret2
    exact ⟨⟨[], ret_val (unsV_ok (ps := []) (getU_ok (by omega) (by omega) H3.out)).symm⟩, hb1.trans (hb2.mono hb1.size)⟩
  · have H3 : Hid (¬ sealB (s.extract 0 (s.size - 4)) = s.data.toList) := h3
    have hbq : (sealB (s.extract 0 (s.size - 4)) == s.toList) = false := by rw [ByteArray.toList_eq]; simpa using h3
    clear h3
    go_enter Tryd.func52, Tryd.ntmps52
    go_wp2_with (go_at_call 20; refine (implSeal_any _ _ hsz).mono ?_; rintro e w1 ⟨rfl, hb1⟩)
    go_ret2
    exact ⟨⟨[⟨#[115, 101, 97, 108]⟩], ret_val (unsV_bad (ps := [⟨#[115, 101, 97, 108]⟩]) (getU_sum (by omega) (by omega) H3.out) (by omega)).symm⟩, hb1⟩

theorem extract_data' (s : ByteArray) (a b : Nat) : (s.extract a b).data.toList = (s.data.toList.drop a).take (b - a) := by
  rw [ByteArray.data_extract]
  simp [Array.toList_extract, List.extract]
theorem four_iff {s : ByteArray} (h1 : s.size ≤ 8000) (h2 : 4 ≤ s.size) : sealB (s.extract 0 (s.size - 4)) = s.data.toList ↔ fourB ((crcOf 0 (s.extract 0 (s.size - 4)).data.toList : Nat) : Int) = (s.extract (s.size - 4) s.size).data.toList := by
  rw [sealB_yes (by simp; omega), extract_data' s 0, extract_data' s (s.size - 4)]
  have hl : s.data.toList.length = s.size := by simp
  rw [List.drop_zero, List.take_of_length_le (l := s.data.toList.drop (s.size - 4)) (by rw [List.length_drop, hl]; omega), Nat.sub_zero]
  constructor
  · intro h
    have h' := h.trans (List.take_append_drop (s.size - 4) s.data.toList).symm
    exact (List.append_cancel_left h')
  · intro h
    rw [h, List.take_append_drop]

theorem below_undrew {W x : World} (h : Below W.drew.heap.size W.drew x) : Below W.heap.size W x := ⟨h.os, h.tape, h.output, h.size, h.block⟩
set_option maxHeartbeats 1000000 in
set_option maxRecDepth 100000 in
theorem specUnseal_any (s : ByteArray) (w : World) :
    Calls Tryd.prog 25 #[.string s] w fun e w' => e = .returned (textOut (getU s)) ∧ Below w.heap.size w w' := by
  have hb0 : ∀ x y z, Below w.heap.size w (w.alloc (.cells #[x, y, z] 48)) := fun _ _ _ => (Below.refl _ _).alloc (Nat.le_refl _) _
  by_cases h1 : 8000 < (s.size : Int)
  · rw [getU_size h1]
    go_enter Tryd.func25, Tryd.ntmps25
    go_wp2
    exact bodyPost_ret (v := .agg #[.string ⟨#[]⟩, .int .i64 0, .int .i64 2]) (by simp [results, Tryd.results25, go_sem]) rfl ⟨rfl, hb0 _ _ _⟩
  by_cases h2 : (s.size : Int) < 4
  · rw [getU_short h1 h2]
    go_enter Tryd.func25, Tryd.ntmps25
    go_wp2
    exact bodyPost_ret (v := .agg #[.string ⟨#[]⟩, .int .i64 0, .int .i64 4]) (by simp [results, Tryd.results25, go_sem]) rfl ⟨rfl, hb0 _ _ _⟩
  have hsz : (s.extract 0 (s.size - 4)).size ≤ maxLen := by simp [maxLen]; omega
  have hlt := crcOf_lt 0 (s.extract 0 (s.size - 4)).data.toList (by omega)
  obtain ⟨c, hcc⟩ : ∃ c, crcOf 0 (s.extract 0 (s.size - 4)).data.toList = c := ⟨_, rfl⟩
  rw [hcc] at hlt
  have HC : Hid (crcOf 0 (s.extract 0 (s.size - 4)).data.toList = c) := hcc
  have hfi := four_iff (s := s) (by omega) (by omega)
  rw [hcc] at hfi
  have fin : ∀ {x2 : World} {x y z : Value}, Below (w.alloc (.cells #[.string ⟨#[]⟩, .int .i64 0, .int .i64 0] 48)).heap.size (w.alloc (.cells #[.string ⟨#[]⟩, .int .i64 0, .int .i64 0] 48)) x2 →
      Below w.heap.size w (((x2.setCell ⟨w.heap.size, 0, none⟩ x).setCell ⟨w.heap.size, 1, none⟩ y).setCell ⟨w.heap.size, 2, none⟩ z) := by
    intro x2 x y z hb1
    have h0 := hb0 (.string ⟨#[]⟩) (.int .i64 0) (.int .i64 0)
    exact three_below (h0.trans (hb1.mono h0.size))
  clear hcc
  by_cases h3 : sealB (s.extract 0 (s.size - 4)) = s.data.toList
  · have hbq : (fourB (c : Int) == (s.extract (s.size - 4) s.size).toList) = true := by rw [ByteArray.toList_eq, hfi.1 h3]; simp
    rw [getU_ok h1 h2 h3]
    clear h3 hfi
    have hwrp : IntKind.i64.wrap ((s.size : Int) - 4) = (s.size : Int) - 4 := by rw [IntKind.wrap_i64]; omega
    have hl4 : (0 : Int) ≤ (s.size : Int) - 4 := by omega
    have ht4 : ((s.size : Int) - 4).toNat = s.size - 4 := by omega
    have hle4 : (s.size : Int) - 4 ≤ (s.size : Int) := by omega
    go_enter Tryd.func25, Tryd.ntmps25
    go_wp2
    go_region_with (first | (go_at_call 51; refine (l01Crc_any _ _ _ hsz (by omega) (by omega)).mono ?_; rintro e x1 ⟨rfl, rfl⟩; rw [HC.out]) | (go_at_call 50; refine (four_any _ _ (by omega) (by omega)).mono ?_; rintro e x2 ⟨rfl, hb2⟩))
    have hb3 := below_undrew hb2
    obtain ⟨q0, q1, q2, f0, f1, f2⟩ := three_kept hb3
    go_wp2
    exact bodyPost_ret (v := .agg #[.string (s.extract 0 (s.size - 4)), .int .i64 0, .int .i64 0]) (by simp [results, Tryd.results25, go_sem, q0, q1, q2]) rfl ⟨rfl, fin hb3⟩
  · have hbq : (fourB (c : Int) == (s.extract (s.size - 4) s.size).toList) = false := by rw [ByteArray.toList_eq]; simpa using fun h => h3 (hfi.2 h)
    rw [getU_sum h1 h2 h3]
    clear h3 hfi
    have hwrp : IntKind.i64.wrap ((s.size : Int) - 4) = (s.size : Int) - 4 := by rw [IntKind.wrap_i64]; omega
    have hl4 : (0 : Int) ≤ (s.size : Int) - 4 := by omega
    have ht4 : ((s.size : Int) - 4).toNat = s.size - 4 := by omega
    have hle4 : (s.size : Int) - 4 ≤ (s.size : Int) := by omega
    go_enter Tryd.func25, Tryd.ntmps25
    go_wp2
    go_region_with (first | (go_at_call 51; refine (l01Crc_any _ _ _ hsz (by omega) (by omega)).mono ?_; rintro e x1 ⟨rfl, rfl⟩; rw [HC.out]) | (go_at_call 50; refine (four_any _ _ (by omega) (by omega)).mono ?_; rintro e x2 ⟨rfl, hb2⟩))
    have hb3 := below_undrew hb2
    obtain ⟨q0, q1, q2, f0, f1, f2⟩ := three_kept hb3
    go_wp2
    exact bodyPost_ret (v := .agg #[.string ⟨#[]⟩, .int .i64 0, .int .i64 5]) (by simp [results, Tryd.results25, go_sem, q0, q1, q2]) rfl ⟨rfl, fin hb3⟩

theorem getU_code (s : ByteArray) : (∃ t, getU s = (t, 0, 0)) ∨ ∃ c : Int, getU s = (⟨#[]⟩, 0, c) ∧ c ≠ 0 := by
  unfold getU
  by_cases h1 : 8000 < (s.size : Int)
  · rw [if_pos h1]; exact .inr ⟨2, rfl, by omega⟩
  · rw [if_neg h1]
    by_cases h2 : (s.size : Int) < 4
    · rw [if_pos h2]; exact .inr ⟨4, rfl, by omega⟩
    · rw [if_neg h2]
      by_cases h3 : sealB (s.extract 0 (s.size - 4)) = s.data.toList
      · rw [if_pos h3]; exact .inl ⟨_, rfl⟩
      · rw [if_neg h3]; exact .inr ⟨5, rfl, by omega⟩

end Go.Proofs.YtpjdkgcdkfmkiaaDoor
