/- The contracts of joined, PutText and Seal. -/
import Derived.Test.YtgmdgjkmdnpmiaaPut
import Derived.Test.YtgmdgjkmdnpmiaaCrc
import Derived.Deep.OwnRows
import Derived.Lib.LazyBuf
namespace Go.Proofs.Ytgmdgjkmdnpmiaa
open Go Go.RowKit
set_option linter.unusedVariables false

theorem four_any (n : Int) (w : World) (h0 : 0 ≤ n) (h1 : n < 4294967296) :
    Calls Try.prog 35 #[.int .i64 n] w fun e w' => e = .returned (.string ⟨(fourB n).toArray⟩) ∧ Below w.heap.size w w' := by
  have hcv := fun w => four_conv (P := Try.prog) (src := 44) (dst := 9) Try.underlying44 Try.underlying5 Try.underlying9 w h0 h1
  go_enter Try.func35, Try.ntmps35
  go_wp2
  go_ret
  exact ⟨rfl, (Below.refl _ _).alloc (Nat.le_refl _) _⟩
theorem crcText_any (n : Int) (w : World) (h0 : 0 ≤ n) (h1 : n < 4294967296) :
    Calls Try.prog 33 #[.int .i64 n] w fun e w' => e = .returned (.string ⟨(fourB n).toArray⟩) ∧ Below w.heap.size w w' := by
  have hcv := fun w => four_conv (P := Try.prog) (src := 44) (dst := 9) Try.underlying44 Try.underlying5 Try.underlying9 w h0 h1
  go_enter Try.func33, Try.ntmps33
  go_wp2
  go_ret
  exact ⟨rfl, (Below.refl _ _).alloc (Nat.le_refl _) _⟩

theorem hsz8 (w : World) : (Go.sizeOf 5).run Try.prog w = .ok 1 w := by
  obtain ⟨i0, hi, hz0, hz1, hz2⟩ := info_parts Try.infoU8
  simp [Go.sizeOf, typeInfo, hi, hz1]
theorem joined_row {e k b : Nat} {ps : List ByteArray} {wr : World} (hlt : k < ps.length) (hrow : wr.rowIs b e (cat ps).length (fun j => .int .u8 (((cat (ps.take k)).getD j 0).toNat : Int))) :
    (wr.setCells b (cat (ps.take k)).length (ps[k].data.toList.map fun x => Value.int .u8 (x.toNat : Int))).rowIs b e (cat ps).length (fun j => .int .u8 (((cat (ps.take (k + 1))).getD j 0).toNat : Int)) := by
  refine (rowIs_setCells _ _ _ _ hrow).congr fun j _ => ?_
  rw [cat_take ps k hlt]
  by_cases h : (cat (ps.take k)).length ≤ j ∧ j < (cat (ps.take k)).length + ps[k].data.toList.length
  · rw [if_pos (by simpa using h)]
    simp only [List.getD_eq_getElem?_getD, List.getElem?_map]
    rw [List.getElem?_append_right h.1, List.getElem?_eq_getElem (by omega)]
    simp
  · rw [if_neg (by simpa using h)]
    simp only [List.getD_eq_getElem?_getD]
    by_cases h2 : j < (cat (ps.take k)).length
    · rw [List.getElem?_append_left h2]
    · rw [List.getElem?_append_right (by omega), List.getElem?_eq_none (by omega), List.getElem?_eq_none (by omega)]

set_option maxHeartbeats 1000000 in
set_option maxRecDepth 100000 in
theorem joined_any (ps : List ByteArray) (b cap : Nat) (w : World) (hlen : ps.length ≤ 1000) (hsum : (cat ps).length ≤ 1000000000) (hbw : b < w.heap.size)
    (hc : ∀ j (h : j < ps.length), w.cell? ⟨b, j, none⟩ = some (.string ps[j])) :
    Calls Try.prog 26 #[.slice (some ⟨b, 0, none⟩) ps.length cap] w fun e w' => e = .returned (.string ⟨(cat ps).toArray⟩) ∧ Below w.heap.size w w' := by
  obtain ⟨i0, hi, hz0, hz1, hz2⟩ := info_parts Try.infoU8
  go_enter Try.func26, Try.ntmps26
  go_wp2
  go_loop [12, 3, 5] (fun i z _ => ∃ k : Nat, k ≤ ps.length ∧ i = .int .i64 k ∧ z = .int .i64 (cat (ps.take k)).length) (fun i _ _ => ps.length - (intOf i).toNat)
  case atStart => exact ⟨0, Nat.zero_le _, rfl, rfl⟩
  case round =>
    obtain ⟨k, hk, rfl, rfl⟩ := hrel
    have hle := cat_take_le ps k
    by_cases hlt : k < ps.length
    · have hck := hc k hlt
      have hs := cat_take_succ ps k hlt
      have HS : Hid ((cat (ps.take (k + 1))).length = (cat (ps.take k)).length + ps[k].size) := hs
      have hle1 := cat_take_le ps (k + 1)
      clear hs
      have hz : ((cat (ps.take k)).length : Int) + (ps[k].size : Int) ≤ 1000000000 := by have := HS.out; omega
      go_wp2
      exact ⟨⟨k + 1, by omega, by go_num, by have := HS.out; go_num⟩, by simp [intOf]; omega⟩
    · obtain rfl : k = ps.length := by omega
      rw [List.take_length]
      go_wp2_with (refine wpList_make_row _ rfl _ _ 44 rfl 5 i0 (.int .u8 0) Try.underlying44 hi hz0 hz1 rfl _ _ (cat ps).length rfl rfl (by rw [hz2]; omega) (by omega) ?_)
      go_loopw [25, 7, 9] (fun i z _ wr => ∃ k : Nat, k ≤ ps.length ∧ i = .int .i64 k ∧ z = .int .i64 (cat (ps.take k)).length ∧ wr.rowIs w.heap.size 5 (cat ps).length (fun j => .int .u8 (((cat (ps.take k)).getD j 0).toNat : Int)) ∧ Below w.heap.size w wr) (fun i _ _ _ => ps.length - (intOf i).toNat)
      case atStart => exact ⟨0, Nat.zero_le _, rfl, rfl, (World.rowIs_made _ _ _ _).congr (fun _ _ => rfl), (Below.refl _ _).alloc (Nat.le_refl _) _⟩
      case round =>
        obtain ⟨k, hk, rfl, rfl, hrow, hnx⟩ := hrel
        have hle := cat_take_le ps k
        by_cases hlt : k < ps.length
        · have hck : wr.cell? ⟨b, k, none⟩ = some (.string ps[k]) := (hnx.cell hbw).trans (hc k hlt)
          have HS : Hid ((cat (ps.take (k + 1))).length = (cat (ps.take k)).length + ps[k].size) := cat_take_succ ps k hlt
          have hle1 := cat_take_le ps (k + 1)
          have hz : ((cat (ps.take k)).length : Int) + (ps[k].size : Int) ≤ 1000000000 := by have := HS.out; omega
          by_cases heq : (cat ps).length = (cat (ps.take k)).length
          · have h0 : ps[k].size = 0 := by have := HS.out; omega
            have hcp := fun (o : Nat) => run_copy_string (P := Try.prog) wr 44 9 3 5 w.heap.size o 0 0 ps[k] Try.underlying44 hsz8 (by omega) (fun j hj => by omega) (fun j hj => by omega)
            have hnil : ps[k].data.toList = [] := List.eq_nil_of_length_eq_zero (by simpa using h0)
            simp only [hnil, List.map_nil, World.setCells, h0] at hcp
            have he : cat (ps.take (k + 1)) = cat (ps.take k) := by rw [cat_take ps k hlt, hnil, List.append_nil]
            have HE : Hid (cat (ps.take (k + 1)) = cat (ps.take k)) := he
            have HQ : Hid ((cat ps).length = (cat (ps.take k)).length) := heq
            rw [← heq]
            clear he hnil h0 heq hz hle
            go_wp2
            exact ⟨⟨k + 1, by omega, by go_num, by rw [HE.out, ← HQ.out], by rw [HE.out]; exact hrow, hnx⟩, by simp [intOf]; omega⟩
          · have hle2 : (cat (ps.take k)).length + ps[k].size ≤ (cat ps).length := by have := HS.out; omega
            have hcp := run_copy_string (P := Try.prog) wr 44 9 3 5 w.heap.size (cat (ps.take k)).length ((cat ps).length - (cat (ps.take k)).length) ((cat ps).length - (cat (ps.take k)).length) ps[k] Try.underlying44 hsz8 (by omega) (fun j hj => by rw [hrow.cell (by omega)]; rfl) (fun j _ => hrow.frozen _)
            have hr := joined_row hlt hrow
            have hb := below_setCells (B := w.heap.size) (Nat.le_refl _) (ps[k].data.toList.map fun x => Value.int .u8 (x.toNat : Int)) (cat (ps.take k)).length wr hnx
            go_wp2
            exact ⟨⟨k + 1, by omega, by go_num, by have := HS.out; go_num, hr, hb⟩, by simp [intOf]; omega⟩
        · obtain rfl : k = ps.length := by omega
          rw [List.take_length] at hrow
          have hcv := run_convert_bytes_back (P := Try.prog) wr 44 9 5 ⟨w.heap.size, 0, none⟩ (cat ps).length (cat ps) Try.underlying44 Try.underlying5 Try.underlying9 (fun j hj => by
            rw [addr_add, hrow.cell hj, List.getD_eq_getElem?_getD, List.getElem?_eq_getElem hj]; rfl)
          go_wp2
          go_ret
          exact ⟨rfl, hnx⟩
theorem joined_two (p q : ByteArray) (w : World) (hp : p.size ≤ 10000) (hq : q.size ≤ 10000) :
    Calls Try.prog 26 #[.slice (some ⟨w.heap.size, 0, none⟩) 2 2] (w.alloc (.cells #[.string p, .string q] 9)) fun e w' => e = .returned (.string ⟨(p.data.toList ++ q.data.toList).toArray⟩) ∧ Below w.heap.size w w' := by
  have hcat : cat [p, q] = p.data.toList ++ q.data.toList := by simp [cat]
  refine (joined_any [p, q] w.heap.size 2 _ (by simp) (by rw [hcat, List.length_append]; simp; omega) (by simp) (fun j hj => ?_)).mono ?_
  · match j, hj with
    | 0, _ => exact World.cell?_alloc_at _ _ _ _ rfl
    | 1, _ => exact World.cell?_alloc_at _ _ _ _ rfl
  · rintro e w' ⟨rfl, hb⟩
    exact ⟨ret_str hcat, ((Below.refl _ _).alloc (Nat.le_refl _) _).trans (hb.mono (by simp))⟩

set_option maxRecDepth 100000 in
theorem specPutText_any (s : ByteArray) (w : World) (hs : s.size ≤ maxLen) :
    Calls Try.prog 29 #[.string s] w fun e w' => e = .returned (.string ⟨(putTextB s).toArray⟩) ∧ Below w.heap.size w w' := by
  by_cases h1 : 8000 < (s.size : Int)
  · go_enter Try.func29, Try.ntmps29
    go_wp2
    go_ret
    exact ⟨ret_str (by rw [putTextB_no h1]), Below.refl _ _⟩
  have hpl := putN_len s.size
  go_enter Try.func29, Try.ntmps29
  go_wp2_with (go_at_call 31; refine (specPut_any _ _ (wf_size (by omega))).mono ?_; rintro e w' ⟨rfl, hb⟩)
  go_ret
  exact ⟨ret_str' (by rw [putTextB_yes (by omega)]; exact bytes_append _ _), hb⟩
set_option maxRecDepth 100000 in
theorem implPutText_any (s : ByteArray) (w : World) (hs : s.size ≤ maxLen) :
    Calls Try.prog 22 #[.string s] w fun e w' => e = .returned (.string ⟨(putTextB s).toArray⟩) ∧ Below w.heap.size w w' := by
  by_cases h1 : 8000 < (s.size : Int)
  · go_enter Try.func22, Try.ntmps22
    go_wp2
    go_ret
    exact ⟨ret_str (by rw [putTextB_no h1]), Below.refl _ _⟩
  go_enter Try.func22, Try.ntmps22
  go_wp2_with (first | (go_at_call 32; refine (implPut_any _ _ (wf_size (by omega))).mono ?_; rintro e w' ⟨rfl, hb⟩) | (go_at_call 26; refine (joined_two _ _ _ (putN_size _) (by omega)).mono ?_; rintro e w2 ⟨rfl, hb2⟩))
  go_ret
  exact ⟨ret_str (by rw [putTextB_yes (by omega)]), hb.trans (hb2.mono hb.size)⟩

set_option maxRecDepth 100000 in
theorem specSeal_any (s : ByteArray) (w : World) (hs : s.size ≤ maxLen) :
    Calls Try.prog 30 #[.string s] w fun e w' => e = .returned (.string ⟨(sealB s).toArray⟩) ∧ Below w.heap.size w w' := by
  by_cases h1 : 7996 < (s.size : Int)
  · go_enter Try.func30, Try.ntmps30
    go_wp2
    go_ret
    exact ⟨ret_str (by rw [sealB_no h1]), Below.refl _ _⟩
  have hlt := crcOf_lt 0 s.data.toList (by omega)
  have hfl : ∀ n, (fourB n).length = 4 := fun _ => rfl
  go_enter Try.func30, Try.ntmps30
  go_wp2_with (first | (go_at_call 36; refine (l01Crc_any _ _ _ hs (by omega) (by omega)).mono ?_; rintro e w' ⟨rfl, rfl⟩) | (go_at_call 35; refine (four_any _ _ (by omega) (by omega)).mono ?_; rintro e w2 ⟨rfl, hb⟩))
  go_ret
  exact ⟨ret_str' (by rw [sealB_yes (by omega)]; exact append_bytes _ _), hb⟩
set_option maxRecDepth 100000 in
theorem implSeal_any (s : ByteArray) (w : World) (hs : s.size ≤ maxLen) :
    Calls Try.prog 23 #[.string s] w fun e w' => e = .returned (.string ⟨(sealB s).toArray⟩) ∧ Below w.heap.size w w' := by
  by_cases h1 : 7996 < (s.size : Int)
  · go_enter Try.func23, Try.ntmps23
    go_wp2
    go_ret
    exact ⟨ret_str (by rw [sealB_no h1]), Below.refl _ _⟩
  have hlt := crcOf_lt 0 s.data.toList (by omega)
  have he := crcMore_yes (c := 0) (l := s.data.toList) (by simp; omega) (by omega) (by omega)
  have HE : Hid (crcMore 0 s.data.toList = crcOf 0 s.data.toList) := he
  clear he
  go_enter Try.func23, Try.ntmps23
  go_wp2_with (first | (go_at_call 34; refine (implCrc_any _ _ hs).mono ?_; rintro e w' ⟨rfl, rfl⟩; rw [HE.out]) | (go_at_call 33; refine (crcText_any _ _ (by omega) (by omega)).mono ?_; rintro e w2 ⟨rfl, hb⟩) | (go_at_call 26; refine (joined_two _ _ _ (by omega) (four_size _)).mono ?_; rintro e w3 ⟨rfl, hb2⟩))
  go_ret
  exact ⟨ret_str (by rw [sealB_yes (by omega)]), hb.trans (hb2.mono hb.size)⟩
end Go.Proofs.Ytgmdgjkmdnpmiaa
