/- The contracts of the CRC. -/
import Derived.Test.YtgmdgjkmdnpmiaaChecked
import Derived.Test.YtgmdgjkmdnpmiaaPlain1
import Derived.WalkKit
import Derived.WalkLawsBesides
import Derived.WalkSpells
namespace Go.Proofs.Ytgmdgjkmdnpmiaa
set_option linter.unusedVariables false
open Go Go.RowKit
set_option maxHeartbeats 400000 in
theorem crcOver_any (r : Nat) (s : ByteArray) (w : World) (hs : s.size ≤ maxLen) (hr : r < 4294967296) :
    Calls Try.prog 40 #[.int .u32 r, .string s] w fun e w' => e = .returned (.int .u32 (crcRun r s.data.toList : Nat)) ∧ w = w' := by
  unfold maxLen at hs
  go_enter Try.func40, Try.ntmps40
  go_wp2
  go_loop [9, 0, 5, 6] (fun i a _ _ => ∃ k x : Nat, k ≤ s.size ∧ i = .int .i64 k ∧ x < 4294967296 ∧ a = .int .u32 x ∧ crcRun x (s.data.toList.drop k) = crcRun r s.data.toList) (fun i _ _ _ => s.size - (intOf i).toNat)
  case atStart => exact ⟨0, r, Nat.zero_le _, rfl, hr, rfl, rfl⟩
  case round =>
    obtain ⟨k, x, hk, rfl, hx, rfl, hrun⟩ := hrel
    have HR : Hid (crcRun x (s.data.toList.drop k) = crcRun r s.data.toList) := hrun
    clear hrun
    by_cases hlt : k < s.size
    · go_wp2
      go_loop [18, 0, 6] (fun i a _ => ∃ j y : Nat, j ≤ 8 ∧ i = .int .i64 j ∧ y < 4294967296 ∧ a = .int .u32 y ∧ crcBits (8 - j) y = crcByte x s[k]) (fun i _ _ => 8 - (intOf i).toNat)
      case atStart => exact ⟨0, x ^^^ s[k].toNat, by omega, rfl, xor_lt32 hx (by have := byte_lt s[k]; omega), by rw [xor_byte hx], rfl⟩
      case round =>
        obtain ⟨j, y, hj, rfl, hy, rfl, hbits⟩ := hrel
        have HB : Hid (crcBits (8 - j) y = crcByte x s[k]) := hbits
        clear hbits
        by_cases hlj : j < 8
        · by_cases hodd : y % 2 = 1
          · have e1 : (bits BinOp.and IntKind.u32 (y : Int) 1 == 1) = true := and_one_odd hy hodd
            go_wp2
            exact ⟨⟨j + 1, y / 2 ^^^ 3988292384, by omega, by go_num, xor_lt32 (by omega) (by omega), by rw [xor_poly hy], by rw [← HB.out, crcBits_step y hlj, crcBit_odd hodd]⟩, by simp [intOf]; omega⟩
          · have e1 : (bits BinOp.and IntKind.u32 (y : Int) 1 == 1) = false := and_one_even hy hodd
            go_wp2
            exact ⟨⟨j + 1, y / 2, by omega, by go_num, by omega, by go_num, by rw [← HB.out, crcBits_step y hlj, crcBit_even hodd]⟩, by simp [intOf]; omega⟩
        · go_wp2
          obtain rfl : j = 8 := by omega
          exact ⟨⟨k + 1, y, by omega, by go_num, hy, rfl, by rw [← HR.out, drop_cons s k hlt]; exact congrArg (fun z => crcRun z _) HB.out⟩, by simp [intOf]; omega⟩
    · obtain rfl : k = s.size := by omega
      go_wp2
      go_ret
      exact ⟨ret_int (by rw [← HR.out, drop_all]; rfl), rfl⟩

set_option maxHeartbeats 400000 in
theorem l01Crc_any (c : Int) (s : ByteArray) (w : World) (hs : s.size ≤ maxLen) (h0 : 0 ≤ c) (h1 : c < 4294967296) :
    Calls Try.prog 36 #[.int .i64 c, .string s] w fun e w' => e = .returned (.int .i64 (crcOf c s.data.toList : Nat)) ∧ w = w' := by
  unfold maxLen at hs
  go_enter Try.func36, Try.ntmps36
  go_wp2
  go_loop [6, 5, 7] (fun i a _ => ∃ k x : Nat, k ≤ s.size ∧ i = .int .i64 k ∧ x < 4294967296 ∧ a = .int .u32 x ∧ crcRun x (s.data.toList.drop k) = crcRun (c.toNat ^^^ 4294967295) s.data.toList) (fun i _ _ => s.size - (intOf i).toNat)
  case atStart => exact ⟨0, c.toNat ^^^ 4294967295, Nat.zero_le _, rfl, xor_lt32 (by omega) (by omega), by rw [xor_ones h0 h1], rfl⟩
  case round =>
    obtain ⟨k, x, hk, rfl, hx, rfl, hrun⟩ := hrel
    have HR : Hid (crcRun x (s.data.toList.drop k) = crcRun (c.toNat ^^^ 4294967295) s.data.toList) := hrun
    clear hrun
    by_cases hlt : k < s.size
    · go_wp2
      go_loop [7, 5] (fun i a => ∃ j y : Nat, j ≤ 8 ∧ i = .int .i64 j ∧ y < 4294967296 ∧ a = .int .u32 y ∧ crcBits (8 - j) y = crcByte x s[k]) (fun i _ => 8 - (intOf i).toNat)
      case atStart => exact ⟨0, x ^^^ s[k].toNat, by omega, rfl, xor_lt32 hx (by have := byte_lt s[k]; omega), by rw [xor_byte hx], rfl⟩
      case round =>
        obtain ⟨j, y, hj, rfl, hy, rfl, hbits⟩ := hrel
        have HB : Hid (crcBits (8 - j) y = crcByte x s[k]) := hbits
        clear hbits
        by_cases hlj : j < 8
        · by_cases hodd : y % 2 = 1
          · have e1 : (bits BinOp.and IntKind.u32 (y : Int) 1 == 1) = true := and_one_odd hy hodd
            go_wp2
            exact ⟨⟨j + 1, y / 2 ^^^ 3988292384, by omega, by go_num, xor_lt32 (by omega) (by omega), by rw [xor_poly hy], by rw [← HB.out, crcBits_step y hlj, crcBit_odd hodd]⟩, by simp [intOf]; omega⟩
          · have e1 : (bits BinOp.and IntKind.u32 (y : Int) 1 == 1) = false := and_one_even hy hodd
            go_wp2
            exact ⟨⟨j + 1, y / 2, by omega, by go_num, by omega, by go_num, by rw [← HB.out, crcBits_step y hlj, crcBit_even hodd]⟩, by simp [intOf]; omega⟩
        · go_wp2
          obtain rfl : j = 8 := by omega
          exact ⟨⟨k + 1, y, by omega, by go_num, hy, rfl, by rw [← HR.out, drop_cons s k hlt]; exact congrArg (fun z => crcRun z _) HB.out⟩, by simp [intOf]; omega⟩
    · obtain rfl : k = s.size := by omega
      go_wp2
      go_ret
      exact ⟨ret_int (by rw [crc_end HR.out hx]; exact wrap_lt32 (crcOf_lt _ _ h1)), rfl⟩

set_option maxHeartbeats 400000 in
theorem implCrcMore_any (c : Int) (s : ByteArray) (w : World) (hs : s.size ≤ maxLen) :
    Calls Try.prog 39 #[.int .i64 c, .string s] w fun e w' => e = .returned (.int .i64 (crcMore c s.data.toList : Nat)) ∧ w = w' := by
  by_cases h1 : 8000 < (s.size : Int)
  · go_enter Try.func39, Try.ntmps39
    go_wp2
    go_ret
    exact ⟨ret_int (by rw [crcMore_no (.inl (by simpa using h1))]; rfl), rfl⟩
  by_cases h2 : c < 0
  · go_enter Try.func39, Try.ntmps39
    go_wp2
    go_ret
    exact ⟨ret_int (by rw [crcMore_no (.inr (.inl h2))]; rfl), rfl⟩
  by_cases h3 : 4294967295 < c
  · go_enter Try.func39, Try.ntmps39
    go_wp2
    go_ret
    exact ⟨ret_int (by rw [crcMore_no (.inr (.inr h3))]; rfl), rfl⟩
  go_enter Try.func39, Try.ntmps39
  go_wp2_with fail
  rw [xor_max h2 (by omega)]
  refine (crcOver_any _ _ _ hs (xor_lt32 (by omega) (by omega))).mono ?_
  rintro e w' ⟨rfl, rfl⟩
  have hlt := crcRun_lt s.data.toList (xor_lt32 (show c.toNat < 4294967296 by omega) (show 4294967295 < 4294967296 by omega))
  generalize hg : crcRun (c.toNat ^^^ 4294967295) s.data.toList = x at *
  have HG : Hid (crcRun (c.toNat ^^^ 4294967295) s.data.toList = x) := hg
  clear hg
  go_wp2
  go_ret
  exact ⟨ret_int (by rw [crcMore_yes (by simp; omega) (by omega) (by omega), xor_max_nat hlt]; unfold crcOf; rw [HG.out]; exact wrap_lt32 (xor_lt32 hlt (by omega))), rfl⟩

theorem implCrc_any (s : ByteArray) (w : World) (hs : s.size ≤ maxLen) :
    Calls Try.prog 34 #[.string s] w fun e w' => e = .returned (.int .i64 (crcMore 0 s.data.toList : Nat)) ∧ w = w' := by
  go_enter Try.func34, Try.ntmps34
  go_wp2_with (go_at_call 39; refine (implCrcMore_any _ _ _ hs).mono ?_; rintro e w' ⟨rfl, rfl⟩)
  go_ret
  exact ⟨rfl, rfl⟩
end Go.Proofs.Ytgmdgjkmdnpmiaa
