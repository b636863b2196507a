/- The contracts of the CRC. -/
import Derived.Test.YtpjdkgcdkfmkiaaDoorChecked
import Derived.Test.YtpjdkgcdkfmkiaaDoorPlain1
import Derived.WalkKit
import Derived.WalkLawsBesides
import Derived.WalkSpells
import Derived.Test.YtpjdkgcdkfmkiaaDoorPut
import Derived.Deep.OwnRows
import Derived.Lib.LazyBuf
namespace Go.Proofs.YtpjdkgcdkfmkiaaDoor
set_option linter.unusedVariables false
open Go Go.RowKit
set_option maxHeartbeats 400000 in
theorem crcOver_any (r : Nat) (s : ByteArray) (w : World) (hs : s.size ≤ maxLen) (hr : r < 4294967296) :
    Calls Tryd.prog 78 #[.int .u32 r, .string s] w fun e w' => e = .returned (.int .u32 (crcRun r s.data.toList : Nat)) ∧ w = w' := by
  unfold maxLen at hs
  go_enter Tryd.func78, Tryd.ntmps78
  go_wp2
  go_loop [9, 0, 5, 6] (fun i a _ _ => ∃ k x : Nat, k ≤ s.size ∧ i = .int .i64 k ∧ x < 4294967296 ∧ a = .int .u32 x ∧ crcRun x (s.data.toList.drop k) = crcRun r s.data.toList) (fun i _ _ _ => s.size - (intOf i).toNat)
  case atStart => exact ⟨0, r, Nat.zero_le _, rfl, hr, rfl, rfl⟩
  case round =>
    obtain ⟨k, x, hk, rfl, hx, rfl, hrun⟩ := hrel
    have HR : Hid (crcRun x (s.data.toList.drop k) = crcRun r s.data.toList) := hrun
    clear hrun
    by_cases hlt : k < s.size
    · go_wp2
      go_loop [18, 0, 6] (fun i a _ => ∃ j y : Nat, j ≤ 8 ∧ i = .int .i64 j ∧ y < 4294967296 ∧ a = .int .u32 y ∧ crcBits (8 - j) y = crcByte x s[k]) (fun i _ _ => 8 - (intOf i).toNat)
      case atStart => exact ⟨0, x ^^^ s[k].toNat, by omega, rfl, xor_lt32 hx (by have := byte_lt s[k]; omega), by rw [xor_byte hx], rfl⟩
      case round =>
        obtain ⟨j, y, hj, rfl, hy, rfl, hbits⟩ := hrel
        have HB : Hid (crcBits (8 - j) y = crcByte x s[k]) := hbits
        clear hbits
        by_cases hlj : j < 8
        · by_cases hodd : y % 2 = 1
          · have e1 : (bits BinOp.and IntKind.u32 (y : Int) 1 == 1) = true := and_one_odd hy hodd
            go_wp2
            exact ⟨⟨j + 1, y / 2 ^^^ 3988292384, by omega, by go_num, xor_lt32 (by omega) (by omega), by rw [xor_poly hy], by rw [← HB.out, crcBits_step y hlj, crcBit_odd hodd]⟩, by simp [intOf]; omega⟩
          · have e1 : (bits BinOp.and IntKind.u32 (y : Int) 1 == 1) = false := and_one_even hy hodd
            go_wp2
            exact ⟨⟨j + 1, y / 2, by omega, by go_num, by omega, by go_num, by rw [← HB.out, crcBits_step y hlj, crcBit_even hodd]⟩, by simp [intOf]; omega⟩
        · go_wp2
          obtain rfl : j = 8 := by omega
          exact ⟨⟨k + 1, y, by omega, by go_num, hy, rfl, by rw [← HR.out, drop_cons s k hlt]; exact congrArg (fun z => crcRun z _) HB.out⟩, by simp [intOf]; omega⟩
    · obtain rfl : k = s.size := by omega
      go_wp2
      go_ret
      exact ⟨ret_int (by rw [← HR.out, drop_all]; rfl), rfl⟩

set_option maxHeartbeats 400000 in
theorem l01Crc_any (c : Int) (s : ByteArray) (w : World) (hs : s.size ≤ maxLen) (h0 : 0 ≤ c) (h1 : c < 4294967296) :
    Calls Tryd.prog 51 #[.int .i64 c, .string s] w fun e w' => e = .returned (.int .i64 (crcOf c s.data.toList : Nat)) ∧ w = w' := by
  unfold maxLen at hs
  go_enter Tryd.func51, Tryd.ntmps51
  go_wp2
  go_loop [6, 5, 7] (fun i a _ => ∃ k x : Nat, k ≤ s.size ∧ i = .int .i64 k ∧ x < 4294967296 ∧ a = .int .u32 x ∧ crcRun x (s.data.toList.drop k) = crcRun (c.toNat ^^^ 4294967295) s.data.toList) (fun i _ _ => s.size - (intOf i).toNat)
  case atStart => exact ⟨0, c.toNat ^^^ 4294967295, Nat.zero_le _, rfl, xor_lt32 (by omega) (by omega), by rw [xor_ones h0 h1], rfl⟩
  case round =>
    obtain ⟨k, x, hk, rfl, hx, rfl, hrun⟩ := hrel
    have HR : Hid (crcRun x (s.data.toList.drop k) = crcRun (c.toNat ^^^ 4294967295) s.data.toList) := hrun
    clear hrun
    by_cases hlt : k < s.size
    · go_wp2
      go_loop [7, 5] (fun i a => ∃ j y : Nat, j ≤ 8 ∧ i = .int .i64 j ∧ y < 4294967296 ∧ a = .int .u32 y ∧ crcBits (8 - j) y = crcByte x s[k]) (fun i _ => 8 - (intOf i).toNat)
      case atStart => exact ⟨0, x ^^^ s[k].toNat, by omega, rfl, xor_lt32 hx (by have := byte_lt s[k]; omega), by rw [xor_byte hx], rfl⟩
      case round =>
        obtain ⟨j, y, hj, rfl, hy, rfl, hbits⟩ := hrel
        have HB : Hid (crcBits (8 - j) y = crcByte x s[k]) := hbits
        clear hbits
        by_cases hlj : j < 8
        · by_cases hodd : y % 2 = 1
          · have e1 : (bits BinOp.and IntKind.u32 (y : Int) 1 == 1) = true := and_one_odd hy hodd
            go_wp2
            exact ⟨⟨j + 1, y / 2 ^^^ 3988292384, by omega, by go_num, xor_lt32 (by omega) (by omega), by rw [xor_poly hy], by rw [← HB.out, crcBits_step y hlj, crcBit_odd hodd]⟩, by simp [intOf]; omega⟩
          · have e1 : (bits BinOp.and IntKind.u32 (y : Int) 1 == 1) = false := and_one_even hy hodd
            go_wp2
            exact ⟨⟨j + 1, y / 2, by omega, by go_num, by omega, by go_num, by rw [← HB.out, crcBits_step y hlj, crcBit_even hodd]⟩, by simp [intOf]; omega⟩
        · go_wp2
          obtain rfl : j = 8 := by omega
          exact ⟨⟨k + 1, y, by omega, by go_num, hy, rfl, by rw [← HR.out, drop_cons s k hlt]; exact congrArg (fun z => crcRun z _) HB.out⟩, by simp [intOf]; omega⟩
    · obtain rfl : k = s.size := by omega
      go_wp2
      go_ret
      exact ⟨ret_int (by rw [crc_end HR.out hx]; exact wrap_lt32 (crcOf_lt _ _ h1)), rfl⟩

set_option maxHeartbeats 400000 in
theorem implCrcMore_any (c : Int) (s : ByteArray) (w : World) (hs : s.size ≤ maxLen) :
    Calls Tryd.prog 66 #[.int .i64 c, .string s] w fun e w' => e = .returned (.int .i64 (crcMore c s.data.toList : Nat)) ∧ w = w' := by
  by_cases h1 : 8000 < (s.size : Int)
  · go_enter Tryd.func66, Tryd.ntmps66
    go_wp2
    go_ret
    exact ⟨ret_int (by rw [crcMore_no (.inl (by simpa using h1))]; rfl), rfl⟩
  by_cases h2 : c < 0
  · go_enter Tryd.func66, Tryd.ntmps66
    go_wp2
    go_ret
    exact ⟨ret_int (by rw [crcMore_no (.inr (.inl h2))]; rfl), rfl⟩
  by_cases h3 : 4294967295 < c
  · go_enter Tryd.func66, Tryd.ntmps66
    go_wp2
    go_ret
    exact ⟨ret_int (by rw [crcMore_no (.inr (.inr h3))]; rfl), rfl⟩
  go_enter Tryd.func66, Tryd.ntmps66
  go_wp2_with fail
  rw [xor_max h2 (by omega)]
  refine (crcOver_any _ _ _ hs (xor_lt32 (by omega) (by omega))).mono ?_
  rintro e w' ⟨rfl, rfl⟩
  have hlt := crcRun_lt s.data.toList (xor_lt32 (show c.toNat < 4294967296 by omega) (show 4294967295 < 4294967296 by omega))
  generalize hg : crcRun (c.toNat ^^^ 4294967295) s.data.toList = x at *
  have HG : Hid (crcRun (c.toNat ^^^ 4294967295) s.data.toList = x) := hg
  clear hg
  go_wp2
  go_ret
  exact ⟨ret_int (by rw [crcMore_yes (by simp; omega) (by omega) (by omega), xor_max_nat hlt]; unfold crcOf; rw [HG.out]; exact wrap_lt32 (xor_lt32 hlt (by omega))), rfl⟩

theorem implCrc_any (s : ByteArray) (w : World) (hs : s.size ≤ maxLen) :
    Calls Tryd.prog 48 #[.string s] w fun e w' => e = .returned (.int .i64 (crcMore 0 s.data.toList : Nat)) ∧ w = w' := by
  go_enter Tryd.func48, Tryd.ntmps48
  go_wp2_with (go_at_call 66; refine (implCrcMore_any _ _ _ hs).mono ?_; rintro e w' ⟨rfl, rfl⟩)
  go_ret
  exact ⟨rfl, rfl⟩
end Go.Proofs.YtpjdkgcdkfmkiaaDoor
/- The contracts of joined, PutText and Seal. -/
namespace Go.Proofs.YtpjdkgcdkfmkiaaDoor
open Go Go.RowKit
set_option linter.unusedVariables false

theorem four_any (n : Int) (w : World) (h0 : 0 ≤ n) (h1 : n < 4294967296) :
    Calls Tryd.prog 50 #[.int .i64 n] w fun e w' => e = .returned (.string ⟨(fourB n).toArray⟩) ∧ Below w.heap.size w w' := by
  have hcv := fun w => four_conv (P := Tryd.prog) (src := 22) (dst := 9) Tryd.underlying22 Tryd.underlying5 Tryd.underlying9 w h0 h1
  go_enter Tryd.func50, Tryd.ntmps50
  go_wp2
  go_ret
  exact ⟨rfl, (Below.refl _ _).alloc (Nat.le_refl _) _⟩
theorem crcText_any (n : Int) (w : World) (h0 : 0 ≤ n) (h1 : n < 4294967296) :
    Calls Tryd.prog 47 #[.int .i64 n] w fun e w' => e = .returned (.string ⟨(fourB n).toArray⟩) ∧ Below w.heap.size w w' := by
  have hcv := fun w => four_conv (P := Tryd.prog) (src := 22) (dst := 9) Tryd.underlying22 Tryd.underlying5 Tryd.underlying9 w h0 h1
  go_enter Tryd.func47, Tryd.ntmps47
  go_wp2
  go_ret
  exact ⟨rfl, (Below.refl _ _).alloc (Nat.le_refl _) _⟩

theorem hsz8 (w : World) : (Go.sizeOf 5).run Tryd.prog w = .ok 1 w := by
  obtain ⟨i0, hi, hz0, hz1, hz2⟩ := info_parts Tryd.infoU8
  simp [Go.sizeOf, typeInfo, hi, hz1]
theorem joined_row {e k b : Nat} {ps : List ByteArray} {wr : World} (hlt : k < ps.length) (hrow : wr.rowIs b e (cat ps).length (fun j => .int .u8 (((cat (ps.take k)).getD j 0).toNat : Int))) :
    (wr.setCells b (cat (ps.take k)).length (ps[k].data.toList.map fun x => Value.int .u8 (x.toNat : Int))).rowIs b e (cat ps).length (fun j => .int .u8 (((cat (ps.take (k + 1))).getD j 0).toNat : Int)) := by
  refine (rowIs_setCells _ _ _ _ hrow).congr fun j _ => ?_
  rw [cat_take ps k hlt]
  by_cases h : (cat (ps.take k)).length ≤ j ∧ j < (cat (ps.take k)).length + ps[k].data.toList.length
  · rw [if_pos (by simpa using h)]
    simp only [List.getD_eq_getElem?_getD, List.getElem?_map]
    rw [List.getElem?_append_right h.1, List.getElem?_eq_getElem (by omega)]
    simp
  · rw [if_neg (by simpa using h)]
    simp only [List.getD_eq_getElem?_getD]
    by_cases h2 : j < (cat (ps.take k)).length
    · rw [List.getElem?_append_left h2]
    · rw [List.getElem?_append_right (by omega), List.getElem?_eq_none (by omega), List.getElem?_eq_none (by omega)]

set_option maxHeartbeats 1000000 in
set_option maxRecDepth 100000 in
theorem joined_any (ps : List ByteArray) (b cap : Nat) (w : World) (hlen : ps.length ≤ 1000) (hsum : (cat ps).length ≤ 1000000000) (hbw : b < w.heap.size)
    (hc : ∀ j (h : j < ps.length), w.cell? ⟨b, j, none⟩ = some (.string ps[j])) :
    Calls Tryd.prog 46 #[.slice (some ⟨b, 0, none⟩) ps.length cap] w fun e w' => e = .returned (.string ⟨(cat ps).toArray⟩) ∧ Below w.heap.size w w' := by
  obtain ⟨i0, hi, hz0, hz1, hz2⟩ := info_parts Tryd.infoU8
  go_enter Tryd.func46, Tryd.ntmps46
  go_wp2
  go_loop [12, 3, 5] (fun i z _ => ∃ k : Nat, k ≤ ps.length ∧ i = .int .i64 k ∧ z = .int .i64 (cat (ps.take k)).length) (fun i _ _ => ps.length - (intOf i).toNat)
  case atStart => exact ⟨0, Nat.zero_le _, rfl, rfl⟩
  case round =>
    obtain ⟨k, hk, rfl, rfl⟩ := hrel
    have hle := cat_take_le ps k
    by_cases hlt : k < ps.length
    · have hck := hc k hlt
      have hs := cat_take_succ ps k hlt
      have HS : Hid ((cat (ps.take (k + 1))).length = (cat (ps.take k)).length + ps[k].size) := hs
      have hle1 := cat_take_le ps (k + 1)
      clear hs
      have hz : ((cat (ps.take k)).length : Int) + (ps[k].size : Int) ≤ 1000000000 := by have := HS.out; omega
      go_wp2
      exact ⟨⟨k + 1, by omega, by go_num, by have := HS.out; go_num⟩, by simp [intOf]; omega⟩
    · obtain rfl : k = ps.length := by omega
      rw [List.take_length]
      go_wp2_with (refine wpList_make_row _ rfl _ _ 22 rfl 5 i0 (.int .u8 0) Tryd.underlying22 hi hz0 hz1 rfl _ _ (cat ps).length rfl rfl (by rw [hz2]; omega) (by omega) ?_)
      go_loopw [25, 7, 9] (fun i z _ wr => ∃ k : Nat, k ≤ ps.length ∧ i = .int .i64 k ∧ z = .int .i64 (cat (ps.take k)).length ∧ wr.rowIs w.heap.size 5 (cat ps).length (fun j => .int .u8 (((cat (ps.take k)).getD j 0).toNat : Int)) ∧ Below w.heap.size w wr) (fun i _ _ _ => ps.length - (intOf i).toNat)
      case atStart => exact ⟨0, Nat.zero_le _, rfl, rfl, (World.rowIs_made _ _ _ _).congr (fun _ _ => rfl), (Below.refl _ _).alloc (Nat.le_refl _) _⟩
      case round =>
        obtain ⟨k, hk, rfl, rfl, hrow, hnx⟩ := hrel
        have hle := cat_take_le ps k
        by_cases hlt : k < ps.length
        · have hck : wr.cell? ⟨b, k, none⟩ = some (.string ps[k]) := (hnx.cell hbw).trans (hc k hlt)
          have HS : Hid ((cat (ps.take (k + 1))).length = (cat (ps.take k)).length + ps[k].size) := cat_take_succ ps k hlt
          have hle1 := cat_take_le ps (k + 1)
          have hz : ((cat (ps.take k)).length : Int) + (ps[k].size : Int) ≤ 1000000000 := by have := HS.out; omega
          by_cases heq : (cat ps).length = (cat (ps.take k)).length
          · have h0 : ps[k].size = 0 := by have := HS.out; omega
            have hcp := fun (o : Nat) => run_copy_string (P := Tryd.prog) wr 22 9 3 5 w.heap.size o 0 0 ps[k] Tryd.underlying22 hsz8 (by omega) (fun j hj => by omega) (fun j hj => by omega)
            have hnil : ps[k].data.toList = [] := List.eq_nil_of_length_eq_zero (by simpa using h0)
            simp only [hnil, List.map_nil, World.setCells, h0] at hcp
            have he : cat (ps.take (k + 1)) = cat (ps.take k) := by rw [cat_take ps k hlt, hnil, List.append_nil]
            have HE : Hid (cat (ps.take (k + 1)) = cat (ps.take k)) := he
            have HQ : Hid ((cat ps).length = (cat (ps.take k)).length) := heq
            rw [← heq]
            clear he hnil h0 heq hz hle
            go_wp2
            exact ⟨⟨k + 1, by omega, by go_num, by rw [HE.out, ← HQ.out], by rw [HE.out]; exact hrow, hnx⟩, by simp [intOf]; omega⟩
          · have hle2 : (cat (ps.take k)).length + ps[k].size ≤ (cat ps).length := by have := HS.out; omega
            have hcp := run_copy_string (P := Tryd.prog) wr 22 9 3 5 w.heap.size (cat (ps.take k)).length ((cat ps).length - (cat (ps.take k)).length) ((cat ps).length - (cat (ps.take k)).length) ps[k] Tryd.underlying22 hsz8 (by omega) (fun j hj => by rw [hrow.cell (by omega)]; rfl) (fun j _ => hrow.frozen _)
            have hr := joined_row hlt hrow
            have hb := below_setCells (B := w.heap.size) (Nat.le_refl _) (ps[k].data.toList.map fun x => Value.int .u8 (x.toNat : Int)) (cat (ps.take k)).length wr hnx
            go_wp2
            exact ⟨⟨k + 1, by omega, by go_num, by have := HS.out; go_num, hr, hb⟩, by simp [intOf]; omega⟩
        · obtain rfl : k = ps.length := by omega
          rw [List.take_length] at hrow
          have hcv := run_convert_bytes_back (P := Tryd.prog) wr 22 9 5 ⟨w.heap.size, 0, none⟩ (cat ps).length (cat ps) Tryd.underlying22 Tryd.underlying5 Tryd.underlying9 (fun j hj => by
            rw [addr_add, hrow.cell hj, List.getD_eq_getElem?_getD, List.getElem?_eq_getElem hj]; rfl)
          go_wp2
          go_ret
          exact ⟨rfl, hnx⟩
theorem joined_two (p q : ByteArray) (w : World) (hp : p.size ≤ 10000) (hq : q.size ≤ 10000) :
    Calls Tryd.prog 46 #[.slice (some ⟨w.heap.size, 0, none⟩) 2 2] (w.alloc (.cells #[.string p, .string q] 9)) fun e w' => e = .returned (.string ⟨(p.data.toList ++ q.data.toList).toArray⟩) ∧ Below w.heap.size w w' := by
  have hcat : cat [p, q] = p.data.toList ++ q.data.toList := by simp [cat]
  refine (joined_any [p, q] w.heap.size 2 _ (by simp) (by rw [hcat, List.length_append]; simp; omega) (by simp) (fun j hj => ?_)).mono ?_
  · match j, hj with
    | 0, _ => exact World.cell?_alloc_at _ _ _ _ rfl
    | 1, _ => exact World.cell?_alloc_at _ _ _ _ rfl
  · rintro e w' ⟨rfl, hb⟩
    exact ⟨ret_str hcat, ((Below.refl _ _).alloc (Nat.le_refl _) _).trans (hb.mono (by simp))⟩

set_option maxRecDepth 100000 in
theorem specSeal_any (s : ByteArray) (w : World) (hs : s.size ≤ maxLen) :
    Calls Tryd.prog 24 #[.string s] w fun e w' => e = .returned (.string ⟨(sealB s).toArray⟩) ∧ Below w.heap.size w w' := by
  by_cases h1 : 7996 < (s.size : Int)
  · go_enter Tryd.func24, Tryd.ntmps24
    go_wp2
    go_ret
    exact ⟨ret_str (by rw [sealB_no h1]), Below.refl _ _⟩
  have hlt := crcOf_lt 0 s.data.toList (by omega)
  have hfl : ∀ n, (fourB n).length = 4 := fun _ => rfl
  go_enter Tryd.func24, Tryd.ntmps24
  go_wp2_with (first | (go_at_call 51; refine (l01Crc_any _ _ _ hs (by omega) (by omega)).mono ?_; rintro e w' ⟨rfl, rfl⟩) | (go_at_call 50; refine (four_any _ _ (by omega) (by omega)).mono ?_; rintro e w2 ⟨rfl, hb⟩))
  go_ret
  exact ⟨ret_str' (by rw [sealB_yes (by omega)]; exact append_bytes _ _), hb⟩
set_option maxRecDepth 100000 in
theorem implSeal_any (s : ByteArray) (w : World) (hs : s.size ≤ maxLen) :
    Calls Tryd.prog 20 #[.string s] w fun e w' => e = .returned (.string ⟨(sealB s).toArray⟩) ∧ Below w.heap.size w w' := by
  by_cases h1 : 7996 < (s.size : Int)
  · go_enter Tryd.func20, Tryd.ntmps20
    go_wp2
    go_ret
    exact ⟨ret_str (by rw [sealB_no h1]), Below.refl _ _⟩
  have hlt := crcOf_lt 0 s.data.toList (by omega)
  have he := crcMore_yes (c := 0) (l := s.data.toList) (by simp; omega) (by omega) (by omega)
  have HE : Hid (crcMore 0 s.data.toList = crcOf 0 s.data.toList) := he
  clear he
  go_enter Tryd.func20, Tryd.ntmps20
  go_wp2_with (first | (go_at_call 48; refine (implCrc_any _ _ hs).mono ?_; rintro e w' ⟨rfl, rfl⟩; rw [HE.out]) | (go_at_call 47; refine (crcText_any _ _ (by omega) (by omega)).mono ?_; rintro e w2 ⟨rfl, hb⟩) | (go_at_call 46; refine (joined_two _ _ _ (by omega) (four_size _)).mono ?_; rintro e w3 ⟨rfl, hb2⟩))
  go_ret
  exact ⟨ret_str (by rw [sealB_yes (by omega)]), hb.trans (hb2.mono hb.size)⟩
end Go.Proofs.YtpjdkgcdkfmkiaaDoor
