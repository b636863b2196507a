/- Plain facts on numbers, bytes and lists that the contracts of chapter 2 (Bytes) use. Nothing of the program stands here. -/
import Derived.WalkKit
import Derived.Laws.BitsAllLaws
namespace Go.Proofs.Ytgngegammingoaa
open Go Go.RowKit

theorem ret_int {k : IntKind} {a b : Int} (h : a = b) : Ending.returned (.int k a) = .returned (.int k b) := by rw [h]

/-- May this byte stand at this place of a name? -/
def nameCh (i : Nat) (c : UInt8) : Bool := (decide (97 ≤ (c.toNat : Int)) && decide ((c.toNat : Int) ≤ 122)) || (decide (0 < i) && ((decide (48 ≤ (c.toNat : Int)) && decide ((c.toNat : Int) ≤ 57)) || decide ((c.toNat : Int) = 95)))
/-- Are the first k bytes as a name has them? -/
def nameTo (s : ByteArray) (k : Nat) : Prop := ∀ j (h : j < s.size), j < k → nameCh j s[j] = true
/-- Is it a name? -/
def nameB (s : ByteArray) : Bool := decide (1 ≤ s.size) && decide (s.size ≤ 20) && decide (∀ j (h : j < s.size), nameCh j s[j] = true)
theorem nameTo_zero (s : ByteArray) : nameTo s 0 := fun _ _ h => absurd h (by omega)
theorem nameTo_succ {s : ByteArray} {k : Nat} (hk : k < s.size) (h : nameTo s k) (hc : nameCh k s[k] = true) : nameTo s (k + 1) := by
  intro j hj hlt
  by_cases e : j = k
  · subst e; exact hc
  · exact h j hj (by omega)
theorem nameB_true {s : ByteArray} (h1 : 1 ≤ s.size) (h2 : s.size ≤ 20) (h : nameTo s s.size) : nameB s = true := by
  unfold nameB
  simp only [Bool.and_eq_true, decide_eq_true_eq]
  exact ⟨⟨h1, h2⟩, fun j hj => h j hj hj⟩
theorem nameB_false {s : ByteArray} {k : Nat} (hk : k < s.size) (hc : nameCh k s[k] = false) : nameB s = false := by
  unfold nameB
  rw [Bool.and_eq_false_iff]
  right
  rw [decide_eq_false_iff_not]
  intro h
  rw [h k hk] at hc
  exact absurd hc (by decide)
theorem nameB_size {s : ByteArray} (h : s.size < 1 ∨ 20 < s.size) : nameB s = false := by
  unfold nameB
  rw [Bool.and_eq_false_iff]
  left
  rw [Bool.and_eq_false_iff, decide_eq_false_iff_not, decide_eq_false_iff_not]
  omega
theorem ret_bool {a b : Bool} (h : a = b) : Ending.returned (.bool a) = .returned (.bool b) := by rw [h]
theorem byteCases (c : Int) : (97 ≤ c ∧ c ≤ 122) ∨ 122 < c ∨ (48 ≤ c ∧ c ≤ 57) ∨ c = 95 ∨ c < 48 ∨ (57 < c ∧ c < 95) ∨ c = 96 := by omega
theorem nameCh_true {k : Nat} {c : UInt8} (h : (97 ≤ (c.toNat : Int) ∧ (c.toNat : Int) ≤ 122) ∨ (0 < k ∧ ((48 ≤ (c.toNat : Int) ∧ (c.toNat : Int) ≤ 57) ∨ (c.toNat : Int) = 95))) : nameCh k c = true := by
  unfold nameCh; simp only [Bool.or_eq_true, Bool.and_eq_true, decide_eq_true_eq]; exact h
theorem nameCh_false {k : Nat} {c : UInt8} (h : ¬ ((97 ≤ (c.toNat : Int) ∧ (c.toNat : Int) ≤ 122) ∨ (0 < k ∧ ((48 ≤ (c.toNat : Int) ∧ (c.toNat : Int) ≤ 57) ∨ (c.toNat : Int) = 95)))) : nameCh k c = false := by
  cases e : nameCh k c with
  | false => rfl
  | true => unfold nameCh at e; simp only [Bool.or_eq_true, Bool.and_eq_true, decide_eq_true_eq] at e; exact absurd e h

/-- One bit of the CRC's register. -/
def crcBit (r : Nat) : Nat := if r % 2 = 1 then (r / 2) ^^^ 3988292384 else r / 2
def crcBits : Nat → Nat → Nat
  | 0, r => r
  | n + 1, r => crcBits n (crcBit r)
def crcByte (r : Nat) (c : UInt8) : Nat := crcBits 8 (r ^^^ c.toNat)
/-- The register behind a text. -/
def crcRun : Nat → List UInt8 → Nat
  | r, [] => r
  | r, c :: l => crcRun (crcByte r c) l
theorem xor_lt32 {a b : Nat} (ha : a < 4294967296) (hb : b < 4294967296) : a ^^^ b < 4294967296 := Nat.xor_lt_two_pow (n := 32) ha hb
theorem crcBit_lt {r : Nat} (h : r < 4294967296) : crcBit r < 4294967296 := by
  unfold crcBit
  split
  · exact xor_lt32 (by omega) (by omega)
  · omega
theorem crcBits_lt {n r : Nat} (h : r < 4294967296) : crcBits n r < 4294967296 := by
  induction n generalizing r with
  | zero => exact h
  | succ n ih => exact ih (crcBit_lt h)
theorem byte_lt (c : UInt8) : c.toNat < 256 := c.toNat_lt
theorem crcByte_lt {r : Nat} (c : UInt8) (h : r < 4294967296) : crcByte r c < 4294967296 := crcBits_lt (xor_lt32 h (by have := byte_lt c; omega))
theorem crcRun_lt {r : Nat} (l : List UInt8) (h : r < 4294967296) : crcRun r l < 4294967296 := by
  induction l generalizing r with
  | nil => exact h
  | cons c l ih => exact ih (crcByte_lt c h)
theorem crcRun_append (r : Nat) (l m : List UInt8) : crcRun r (l ++ m) = crcRun (crcRun r l) m := by
  induction l generalizing r with
  | nil => rfl
  | cons c l ih => exact ih _
theorem drop_cons (s : ByteArray) (k : Nat) (h : k < s.size) : s.data.toList.drop k = s[k] :: s.data.toList.drop (k + 1) := by
  rw [List.drop_eq_getElem_cons (by simpa using h)]; rfl
theorem drop_all (s : ByteArray) : s.data.toList.drop s.size = [] := List.drop_eq_nil_of_le (by simp)
theorem xor_byte {x : Nat} {c : UInt8} (h : x < 4294967296) : bits BinOp.xor IntKind.u32 (x : Int) ((c.toNat : Int) % 4294967296) = ((x ^^^ c.toNat : Nat) : Int) := by
  have := byte_lt c
  rw [show (c.toNat : Int) % 4294967296 = (c.toNat : Int) from by omega, u32_xor_nat _ _ h (by omega)]
theorem and_one_nat {y : Nat} (h : y < 4294967296) : bits BinOp.and IntKind.u32 (y : Int) 1 = ((y % 2 : Nat) : Int) := by
  have := u32_and_nat y 1 h (by omega)
  rw [Nat.and_one_is_mod] at this
  exact this
theorem and_one_odd {y : Nat} (h : y < 4294967296) (ho : y % 2 = 1) : (bits BinOp.and IntKind.u32 (y : Int) 1 == 1) = true := by rw [and_one_nat h, ho]; rfl
theorem and_one_even {y : Nat} (h : y < 4294967296) (ho : ¬ y % 2 = 1) : (bits BinOp.and IntKind.u32 (y : Int) 1 == 1) = false := by
  rw [and_one_nat h, show y % 2 = 0 from by omega]; rfl
theorem xor_poly {y : Nat} (h : y < 4294967296) : bits BinOp.xor IntKind.u32 ((y : Int) / 2) 3988292384 = ((y / 2 ^^^ 3988292384 : Nat) : Int) := by
  have := u32_xor_nat (y / 2) 3988292384 (by omega) (by omega)
  rw [show (y : Int) / 2 = ((y / 2 : Nat) : Int) from by omega]
  exact this
theorem xor_ones {c : Int} (h0 : 0 ≤ c) (h1 : c < 4294967296) : bits BinOp.xor IntKind.u32 c 4294967295 = ((c.toNat ^^^ 4294967295 : Nat) : Int) := by
  have := u32_xor_nat c.toNat 4294967295 (by omega) (by omega)
  rw [show ((c.toNat : Nat) : Int) = c from by omega] at this
  exact this
theorem crcBits_step {j : Nat} (y : Nat) (h : j < 8) : crcBits (8 - j) y = crcBits (8 - (j + 1)) (crcBit y) := by
  rw [show 8 - j = (8 - (j + 1)) + 1 from by omega]; rfl
theorem crcBit_odd {y : Nat} (h : y % 2 = 1) : crcBit y = y / 2 ^^^ 3988292384 := by unfold crcBit; rw [if_pos h]
theorem crcBit_even {y : Nat} (h : ¬ y % 2 = 1) : crcBit y = y / 2 := by unfold crcBit; rw [if_neg h]
/-- The CRC of a text that goes on with the CRC c. -/
def crcOf (c : Int) (l : List UInt8) : Nat := crcRun (c.toNat ^^^ 4294967295) l ^^^ 4294967295
theorem crcOf_lt (c : Int) (l : List UInt8) (h1 : c < 4294967296) : crcOf c l < 4294967296 := xor_lt32 (crcRun_lt l (xor_lt32 (by omega) (by omega))) (by omega)
theorem xor_ones_nat {x : Nat} (h : x < 4294967296) : bits BinOp.xor IntKind.u32 (x : Int) 4294967295 = ((x ^^^ 4294967295 : Nat) : Int) := u32_xor_nat x 4294967295 h (by omega)
theorem crc_end {s : ByteArray} {x : Nat} {c : Int} (h : crcRun x (s.data.toList.drop s.size) = crcRun (c.toNat ^^^ 4294967295) s.data.toList) (hx : x < 4294967296) :
    bits BinOp.xor IntKind.u32 (x : Int) 4294967295 = ((crcOf c s.data.toList : Nat) : Int) := by
  rw [xor_ones_nat hx]
  unfold crcOf
  rw [← h, drop_all]
  rfl
/-- CrcMore. -/
def crcMore (c : Int) (l : List UInt8) : Nat := if 8000 < (l.length : Int) ∨ c < 0 ∨ 4294967295 < c then 0 else crcOf c l
theorem crcMore_no {c : Int} {l : List UInt8} (h : 8000 < (l.length : Int) ∨ c < 0 ∨ 4294967295 < c) : crcMore c l = 0 := if_pos h
theorem crcMore_yes {c : Int} {l : List UInt8} (h1 : ¬ 8000 < (l.length : Int)) (h2 : ¬ c < 0) (h3 : ¬ 4294967295 < c) : crcMore c l = crcOf c l := if_neg (by omega)
theorem wrap_lt32 {n : Nat} (h : n < 4294967296) : wrap64 (n : Int) = (n : Int) := by unfold wrap64; omega
theorem xor_max_nat {x : Nat} (h : x < 4294967296) : bits BinOp.xor IntKind.u32 IntKind.u32.max (x : Int) = ((x ^^^ 4294967295 : Nat) : Int) := by
  have := u32_xor_nat 4294967295 x (by omega) h
  rw [Nat.xor_comm] at this
  exact this
theorem xor_max {c : Int} (h0 : 0 ≤ c) (h1 : c < 4294967296) : bits BinOp.xor IntKind.u32 IntKind.u32.max c = ((c.toNat ^^^ 4294967295 : Nat) : Int) := by
  have := xor_max_nat (x := c.toNat) (by omega)
  rw [show ((c.toNat : Nat) : Int) = c from by omega] at this
  exact this
end Go.Proofs.Ytgngegammingoaa
