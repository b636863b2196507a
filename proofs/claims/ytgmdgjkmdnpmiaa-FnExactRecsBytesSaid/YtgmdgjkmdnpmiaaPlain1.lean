/- Plain facts on numbers, bytes and lists that the contracts of chapter 2 (Bytes) use. Nothing of the program stands here. -/
import Derived.WalkKit
import Derived.Laws.IdiomStrings
import Derived.Laws.BytesArg
import Derived.Laws.BitsAllLaws
import Derived.Laws.Bits64
namespace Go.Proofs.Ytgmdgjkmdnpmiaa
set_option linter.unusedVariables false
open Go Go.RowKit

theorem ret_int {k : IntKind} {a b : Int} (h : a = b) : Ending.returned (.int k a) = .returned (.int k b) := by rw [h]

/-- May this byte stand at this place of a name? -/
def nameCh (i : Nat) (c : UInt8) : Bool := (decide (97 ≤ (c.toNat : Int)) && decide ((c.toNat : Int) ≤ 122)) || (decide (0 < i) && ((decide (48 ≤ (c.toNat : Int)) && decide ((c.toNat : Int) ≤ 57)) || decide ((c.toNat : Int) = 95)))
/-- Are the first k bytes as a name has them? -/
def nameTo (s : ByteArray) (k : Nat) : Prop := ∀ j (h : j < s.size), j < k → nameCh j s[j] = true
/-- Is it a name? -/
def nameB (s : ByteArray) : Bool := decide (1 ≤ s.size) && decide (s.size ≤ 20) && decide (∀ j (h : j < s.size), nameCh j s[j] = true)
theorem nameTo_zero (s : ByteArray) : nameTo s 0 := fun _ _ h => absurd h (by omega)
theorem nameTo_succ {s : ByteArray} {k : Nat} (hk : k < s.size) (h : nameTo s k) (hc : nameCh k s[k] = true) : nameTo s (k + 1) := by
  intro j hj hlt
  by_cases e : j = k
  · subst e; exact hc
  · exact h j hj (by omega)
theorem nameB_true {s : ByteArray} (h1 : 1 ≤ s.size) (h2 : s.size ≤ 20) (h : nameTo s s.size) : nameB s = true := by
  unfold nameB
  simp only [Bool.and_eq_true, decide_eq_true_eq]
  exact ⟨⟨h1, h2⟩, fun j hj => h j hj hj⟩
theorem nameB_false {s : ByteArray} {k : Nat} (hk : k < s.size) (hc : nameCh k s[k] = false) : nameB s = false := by
  unfold nameB
  rw [Bool.and_eq_false_iff]
  right
  rw [decide_eq_false_iff_not]
  intro h
  rw [h k hk] at hc
  exact absurd hc (by decide)
theorem nameB_size {s : ByteArray} (h : s.size < 1 ∨ 20 < s.size) : nameB s = false := by
  unfold nameB
  rw [Bool.and_eq_false_iff]
  left
  rw [Bool.and_eq_false_iff, decide_eq_false_iff_not, decide_eq_false_iff_not]
  omega
theorem ret_bool {a b : Bool} (h : a = b) : Ending.returned (.bool a) = .returned (.bool b) := by rw [h]
theorem byteCases (c : Int) : (97 ≤ c ∧ c ≤ 122) ∨ 122 < c ∨ (48 ≤ c ∧ c ≤ 57) ∨ c = 95 ∨ c < 48 ∨ (57 < c ∧ c < 95) ∨ c = 96 := by omega
theorem nameCh_true {k : Nat} {c : UInt8} (h : (97 ≤ (c.toNat : Int) ∧ (c.toNat : Int) ≤ 122) ∨ (0 < k ∧ ((48 ≤ (c.toNat : Int) ∧ (c.toNat : Int) ≤ 57) ∨ (c.toNat : Int) = 95))) : nameCh k c = true := by
  unfold nameCh; simp only [Bool.or_eq_true, Bool.and_eq_true, decide_eq_true_eq]; exact h
theorem nameCh_false {k : Nat} {c : UInt8} (h : ¬ ((97 ≤ (c.toNat : Int) ∧ (c.toNat : Int) ≤ 122) ∨ (0 < k ∧ ((48 ≤ (c.toNat : Int) ∧ (c.toNat : Int) ≤ 57) ∨ (c.toNat : Int) = 95)))) : nameCh k c = false := by
  cases e : nameCh k c with
  | false => rfl
  | true => unfold nameCh at e; simp only [Bool.or_eq_true, Bool.and_eq_true, decide_eq_true_eq] at e; exact absurd e h

/-- One bit of the CRC's register. -/
def crcBit (r : Nat) : Nat := if r % 2 = 1 then (r / 2) ^^^ 3988292384 else r / 2
def crcBits : Nat → Nat → Nat
  | 0, r => r
  | n + 1, r => crcBits n (crcBit r)
def crcByte (r : Nat) (c : UInt8) : Nat := crcBits 8 (r ^^^ c.toNat)
/-- The register behind a text. -/
def crcRun : Nat → List UInt8 → Nat
  | r, [] => r
  | r, c :: l => crcRun (crcByte r c) l
theorem xor_lt32 {a b : Nat} (ha : a < 4294967296) (hb : b < 4294967296) : a ^^^ b < 4294967296 := Nat.xor_lt_two_pow (n := 32) ha hb
theorem crcBit_lt {r : Nat} (h : r < 4294967296) : crcBit r < 4294967296 := by
  unfold crcBit
  split
  · exact xor_lt32 (by omega) (by omega)
  · omega
theorem crcBits_lt {n r : Nat} (h : r < 4294967296) : crcBits n r < 4294967296 := by
  induction n generalizing r with
  | zero => exact h
  | succ n ih => exact ih (crcBit_lt h)
theorem byte_lt (c : UInt8) : c.toNat < 256 := c.toNat_lt
theorem crcByte_lt {r : Nat} (c : UInt8) (h : r < 4294967296) : crcByte r c < 4294967296 := crcBits_lt (xor_lt32 h (by have := byte_lt c; omega))
theorem crcRun_lt {r : Nat} (l : List UInt8) (h : r < 4294967296) : crcRun r l < 4294967296 := by
  induction l generalizing r with
  | nil => exact h
  | cons c l ih => exact ih (crcByte_lt c h)
theorem crcRun_append (r : Nat) (l m : List UInt8) : crcRun r (l ++ m) = crcRun (crcRun r l) m := by
  induction l generalizing r with
  | nil => rfl
  | cons c l ih => exact ih _
theorem drop_cons (s : ByteArray) (k : Nat) (h : k < s.size) : s.data.toList.drop k = s[k] :: s.data.toList.drop (k + 1) := by
  rw [List.drop_eq_getElem_cons (by simpa using h)]; rfl
theorem drop_all (s : ByteArray) : s.data.toList.drop s.size = [] := List.drop_eq_nil_of_le (by simp)
theorem xor_byte {x : Nat} {c : UInt8} (h : x < 4294967296) : bits BinOp.xor IntKind.u32 (x : Int) ((c.toNat : Int) % 4294967296) = ((x ^^^ c.toNat : Nat) : Int) := by
  have := byte_lt c
  rw [show (c.toNat : Int) % 4294967296 = (c.toNat : Int) from by omega, u32_xor_nat _ _ h (by omega)]
theorem and_one_nat {y : Nat} (h : y < 4294967296) : bits BinOp.and IntKind.u32 (y : Int) 1 = ((y % 2 : Nat) : Int) := by
  have := u32_and_nat y 1 h (by omega)
  rw [Nat.and_one_is_mod] at this
  exact this
theorem and_one_odd {y : Nat} (h : y < 4294967296) (ho : y % 2 = 1) : (bits BinOp.and IntKind.u32 (y : Int) 1 == 1) = true := by rw [and_one_nat h, ho]; rfl
theorem and_one_even {y : Nat} (h : y < 4294967296) (ho : ¬ y % 2 = 1) : (bits BinOp.and IntKind.u32 (y : Int) 1 == 1) = false := by
  rw [and_one_nat h, show y % 2 = 0 from by omega]; rfl
theorem xor_poly {y : Nat} (h : y < 4294967296) : bits BinOp.xor IntKind.u32 ((y : Int) / 2) 3988292384 = ((y / 2 ^^^ 3988292384 : Nat) : Int) := by
  have := u32_xor_nat (y / 2) 3988292384 (by omega) (by omega)
  rw [show (y : Int) / 2 = ((y / 2 : Nat) : Int) from by omega]
  exact this
theorem xor_ones {c : Int} (h0 : 0 ≤ c) (h1 : c < 4294967296) : bits BinOp.xor IntKind.u32 c 4294967295 = ((c.toNat ^^^ 4294967295 : Nat) : Int) := by
  have := u32_xor_nat c.toNat 4294967295 (by omega) (by omega)
  rw [show ((c.toNat : Nat) : Int) = c from by omega] at this
  exact this
theorem crcBits_step {j : Nat} (y : Nat) (h : j < 8) : crcBits (8 - j) y = crcBits (8 - (j + 1)) (crcBit y) := by
  rw [show 8 - j = (8 - (j + 1)) + 1 from by omega]; rfl
theorem crcBit_odd {y : Nat} (h : y % 2 = 1) : crcBit y = y / 2 ^^^ 3988292384 := by unfold crcBit; rw [if_pos h]
theorem crcBit_even {y : Nat} (h : ¬ y % 2 = 1) : crcBit y = y / 2 := by unfold crcBit; rw [if_neg h]
/-- The CRC of a text that goes on with the CRC c. -/
def crcOf (c : Int) (l : List UInt8) : Nat := crcRun (c.toNat ^^^ 4294967295) l ^^^ 4294967295
theorem crcOf_lt (c : Int) (l : List UInt8) (h1 : c < 4294967296) : crcOf c l < 4294967296 := xor_lt32 (crcRun_lt l (xor_lt32 (by omega) (by omega))) (by omega)
theorem xor_ones_nat {x : Nat} (h : x < 4294967296) : bits BinOp.xor IntKind.u32 (x : Int) 4294967295 = ((x ^^^ 4294967295 : Nat) : Int) := u32_xor_nat x 4294967295 h (by omega)
theorem crc_end {s : ByteArray} {x : Nat} {c : Int} (h : crcRun x (s.data.toList.drop s.size) = crcRun (c.toNat ^^^ 4294967295) s.data.toList) (hx : x < 4294967296) :
    bits BinOp.xor IntKind.u32 (x : Int) 4294967295 = ((crcOf c s.data.toList : Nat) : Int) := by
  rw [xor_ones_nat hx]
  unfold crcOf
  rw [← h, drop_all]
  rfl
/-- CrcMore. -/
def crcMore (c : Int) (l : List UInt8) : Nat := if 8000 < (l.length : Int) ∨ c < 0 ∨ 4294967295 < c then 0 else crcOf c l
theorem crcMore_no {c : Int} {l : List UInt8} (h : 8000 < (l.length : Int) ∨ c < 0 ∨ 4294967295 < c) : crcMore c l = 0 := if_pos h
theorem crcMore_yes {c : Int} {l : List UInt8} (h1 : ¬ 8000 < (l.length : Int)) (h2 : ¬ c < 0) (h3 : ¬ 4294967295 < c) : crcMore c l = crcOf c l := if_neg (by omega)
theorem wrap_lt32 {n : Nat} (h : n < 4294967296) : wrap64 (n : Int) = (n : Int) := by unfold wrap64; omega
theorem xor_max_nat {x : Nat} (h : x < 4294967296) : bits BinOp.xor IntKind.u32 IntKind.u32.max (x : Int) = ((x ^^^ 4294967295 : Nat) : Int) := by
  have := u32_xor_nat 4294967295 x (by omega) h
  rw [Nat.xor_comm] at this
  exact this
theorem xor_max {c : Int} (h0 : 0 ≤ c) (h1 : c < 4294967296) : bits BinOp.xor IntKind.u32 IntKind.u32.max c = ((c.toNat ^^^ 4294967295 : Nat) : Int) := by
  have := xor_max_nat (x := c.toNat) (by omega)
  rw [show ((c.toNat : Nat) : Int) = c from by omega] at this
  exact this

/-- A number of int64 as a number from 0 to 2^64-1. -/
def foldN (n : Int) : Nat := if n < 0 then (-2 * n - 1).toNat else (2 * n).toNat
theorem wf_bounds {n : Int} (h : (Lit.int .i64 n).wf = true) : -9223372036854775808 ≤ n ∧ n ≤ 9223372036854775807 := by
  simp [Lit.wf, IntKind.min, IntKind.max, IntKind.bits, IntKind.signed] at h; omega
theorem fold_lt {n : Int} (h : (Lit.int .i64 n).wf = true) : foldN n < 18446744073709551616 := by
  have := wf_bounds h
  unfold foldN; split <;> omega
theorem fold_a {n : Int} (hn : (Lit.int .i64 n).wf = true) (h : n < 0) : IntKind.u64.wrap (IntKind.u64.wrap (2 * IntKind.u64.wrap (wrap64 (-wrap64 (n + 1)))) + 1) = ((foldN n : Nat) : Int) := by
  have := wf_bounds hn
  unfold foldN wrap64; rw [if_pos h]; simp only [IntKind.wrap_u64]; omega
theorem fold_b {n : Int} (hn : (Lit.int .i64 n).wf = true) (h : 0 ≤ n) : IntKind.u64.wrap (2 * IntKind.u64.wrap n) = ((foldN n : Nat) : Int) := by
  have := wf_bounds hn
  unfold foldN; rw [if_neg (by omega)]; simp only [IntKind.wrap_u64]; omega
theorem fold_c {n : Int} (hn : (Lit.int .i64 n).wf = true) (h : 0 ≤ n) : IntKind.u64.wrap (IntKind.u64.wrap n * 2) = ((foldN n : Nat) : Int) := by
  rw [Int.mul_comm]; exact fold_b hn h
theorem compl64 {x : Nat} (h : x < 18446744073709551616) : 18446744073709551615 ^^^ x = 18446744073709551615 - x := by
  have := BitVec.not_def (x := BitVec.ofNat 64 x)
  have e := congrArg BitVec.toNat (BitVec.allOnes_xor (x := BitVec.ofNat 64 x))
  simp only [BitVec.toNat_xor, BitVec.toNat_allOnes, BitVec.toNat_not, BitVec.toNat_ofNat, Nat.mod_eq_of_lt h] at e
  omega
theorem fold_d {n : Int} (hn : (Lit.int .i64 n).wf = true) (h : n < 0) : bits BinOp.xor IntKind.u64 IntKind.u64.max (IntKind.u64.wrap (IntKind.u64.wrap n * 2)) = ((foldN n : Nat) : Int) := by
  have := wf_bounds hn
  have e : IntKind.u64.wrap (IntKind.u64.wrap n * 2) = (((2 * n + 18446744073709551616).toNat : Nat) : Int) := by simp only [IntKind.wrap_u64]; omega
  have x := u64_xor_nat 18446744073709551615 (2 * n + 18446744073709551616).toNat (by omega) (by omega)
  rw [e, show IntKind.u64.max = ((18446744073709551615 : Nat) : Int) from by rfl, x, compl64 (by omega)]
  unfold foldN; rw [if_pos h]; omega

/-- A number from 0 to 2^64-1 in bytes of seven bits. -/
def vb : Nat → Nat → List UInt8
  | 0, u => [UInt8.ofNat u]
  | f + 1, u => if u < 128 then [UInt8.ofNat u] else UInt8.ofNat (u % 128 + 128) :: vb f (u / 128)
/-- The bytes of a number. -/
def putN (n : Int) : List UInt8 := vb 9 (foldN n)
/-- Bytes as cells. -/
def bytesV (l : List UInt8) : List Value := l.map fun c => Value.int .u8 (c.toNat : Int)
theorem bytesV_length (l : List UInt8) : (bytesV l).length = l.length := by simp [bytesV]
theorem bytesV_append (l m : List UInt8) : bytesV (l ++ m) = bytesV l ++ bytesV m := by simp [bytesV]
theorem vb_last (f : Nat) {u : Nat} (h : u < 128) : vb f u = [UInt8.ofNat u] := by
  cases f with
  | zero => rfl
  | succ f => unfold vb; rw [if_pos h]
theorem vb_more {f u : Nat} (h : ¬ u < 128) : vb (f + 1) u = UInt8.ofNat (u % 128 + 128) :: vb f (u / 128) := by
  show (if u < 128 then _ else _) = _
  rw [if_neg h]
theorem vb_len {l x : Nat} (hl : l ≤ 9) (h : x * 128 ^ l < 18446744073709551616) (hx : ¬ x < 128) : l ≤ 8 := by
  by_cases e : l = 9
  · subst e
    have : (128 : Nat) ^ 9 = 9223372036854775808 := by decide
    rw [this] at h; omega
  · omega
theorem vb_pow {l x : Nat} (h : x * 128 ^ l < 18446744073709551616) : x / 128 * 128 ^ (l + 1) < 18446744073709551616 := by
  have e : x / 128 * 128 ^ (l + 1) = x / 128 * 128 * 128 ^ l := by rw [Nat.pow_succ]; rw [Nat.mul_comm (128 ^ l), Nat.mul_assoc]
  rw [e]
  exact Nat.lt_of_le_of_lt (Nat.mul_le_mul_right _ (by omega)) h
theorem vb_step {n : Int} {x : Nat} {l : List UInt8} (hl : l.length ≤ 9) (h : x * 128 ^ l.length < 18446744073709551616) (hx : ¬ x < 128) (hp : l ++ vb (9 - l.length) x = putN n) :
    (l ++ [UInt8.ofNat (x % 128 + 128)]).length ≤ 9 ∧ x / 128 * 128 ^ (l ++ [UInt8.ofNat (x % 128 + 128)]).length < 18446744073709551616 ∧
      (l ++ [UInt8.ofNat (x % 128 + 128)]) ++ vb (9 - (l ++ [UInt8.ofNat (x % 128 + 128)]).length) (x / 128) = putN n := by
  have h8 := vb_len hl h hx
  simp only [List.length_append, List.length_cons, List.length_nil]
  refine ⟨by omega, vb_pow h, ?_⟩
  rw [← hp, show 9 - l.length = (9 - (l.length + (0 + 1))) + 1 from by omega, vb_more hx]
  simp
theorem vb_length (f u : Nat) : 1 ≤ (vb f u).length ∧ (vb f u).length ≤ f + 1 := by
  induction f generalizing u with
  | zero => simp [vb]
  | succ f ih =>
    unfold vb
    split
    · simp
    · have := ih (u / 128); simp; omega
theorem x_lt {x l : Nat} (h : x * 128 ^ l < 18446744073709551616) : (x : Int) < 18446744073709551616 := by
  have : x * 1 ≤ x * 128 ^ l := Nat.mul_le_mul_left x (Nat.pow_pos (by omega))
  omega
theorem byteMore {x : Nat} : (((UInt8.ofNat (x % 128 + 128)).toNat : Nat) : Int) = (x : Int) % 128 + 128 := by
  rw [UInt8.toNat_ofNat']; omega
theorem byteLast {x : Nat} (h : x < 128) : (((UInt8.ofNat x).toNat : Nat) : Int) = (x : Int) := by
  rw [UInt8.toNat_ofNat']; omega
theorem addr_add (g j : Nat) : (⟨g, 0, none⟩ : Addr).add j = ⟨g, j, none⟩ := by by_cases e0 : j = 0 <;> simp [Addr.add, e0]
/-- string(b), where b owns these bytes. -/
theorem convert_own {P : Program} {w : World} {base src dst e : Nat} {v : Value} {l : List UInt8} (hs : P.underlying src = some (.slice e)) (he : P.underlying e = some (.int .u8)) (hd : P.underlying dst = some .string)
    (h : w.ownsRow base e 1 v l.length (bytesV l)) : (convert src dst v).run P w = .ok (.string ⟨l.toArray⟩) w := by
  have hf : (v = .slice none 0 0 ∧ l.length = 0) ∨ ∃ g cap, v = .slice (some ⟨g, 0, none⟩) l.length cap := by
    rcases h.2 with ⟨a, b⟩ | ⟨g, cap, cur, a, _⟩
    · exact .inl ⟨a, b⟩
    · exact .inr ⟨g, cap, a⟩
  rcases hf with ⟨rfl, hn⟩ | ⟨g, cap, rfl⟩
  · obtain rfl : l = [] := List.eq_nil_of_length_eq_zero hn
    exact run_convert_bytes_nil w src e hs he 0 0 dst hd
  · refine run_convert_bytes_back w src dst e ⟨g, 0, none⟩ cap l hs he hd fun j hj => ?_
    have := h.cellAt j (by omega)
    rw [addr_add, this]
    simp [bytesV, List.getElem?_eq_getElem hj]
theorem or_128 {m : Nat} (h : m < 128) : m ||| 128 = m + 128 := by
  have := Nat.two_pow_add_eq_or_of_lt (i := 7) (b := m) (by simpa using h) 1
  rw [Nat.or_comm]; simp at this; omega
theorem and_127 (x : Nat) : x &&& 127 = x % 128 := Nat.and_two_pow_sub_one_eq_mod x 7
theorem byteOr {x : Nat} (h : (x : Int) < 18446744073709551616) : bits BinOp.or IntKind.u8 (IntKind.u8.wrap (bits BinOp.and IntKind.u64 (x : Int) 127)) 128 = (x : Int) % 128 + 128 := by
  have e : bits BinOp.and IntKind.u64 (x : Int) 127 = ((x % 128 : Nat) : Int) := by
    have := u64_and_nat x 127 (by omega) (by omega)
    rw [and_127] at this; exact this
  rw [e, IntKind.wrap_u8', show (((x % 128 : Nat) : Int)) % 256 = ((x % 128 : Nat) : Int) from by omega]
  have := u8_or_nat (x % 128) 128 (by omega) (by omega)
  rw [or_128 (by omega)] at this
  have e2 : (((x % 128 + 128 : Nat)) : Int) = (x : Int) % 128 + 128 := by omega
  rw [← e2]; exact this

/-- The four bytes of a number. -/
def fourB (n : Int) : List UInt8 := [UInt8.ofNat n.toNat, UInt8.ofNat (n / 256).toNat, UInt8.ofNat (n / 65536).toNat, UInt8.ofNat (n / 16777216).toNat]
/-- Texts one behind the other. -/
def cat (ps : List ByteArray) : List UInt8 := ps.flatMap fun p => p.data.toList
theorem cat_nil : cat [] = [] := rfl
theorem cat_cons (p : ByteArray) (ps : List ByteArray) : cat (p :: ps) = p.data.toList ++ cat ps := rfl
theorem cat_append (ps qs : List ByteArray) : cat (ps ++ qs) = cat ps ++ cat qs := by simp [cat]
theorem cat_take (ps : List ByteArray) (k : Nat) (h : k < ps.length) : cat (ps.take (k + 1)) = cat (ps.take k) ++ ps[k].data.toList := by
  rw [List.take_succ_eq_append_getElem h, cat_append]; simp [cat]
theorem cat_take_succ (ps : List ByteArray) (k : Nat) (h : k < ps.length) : (cat (ps.take (k + 1))).length = (cat (ps.take k)).length + ps[k].size := by
  rw [cat_take ps k h, List.length_append]; simp
theorem cat_take_le (ps : List ByteArray) (k : Nat) : (cat (ps.take k)).length ≤ (cat ps).length := by
  have : cat ps = cat (ps.take k) ++ cat (ps.drop k) := by rw [← cat_append, List.take_append_drop]
  rw [this, List.length_append]; omega
theorem four_conv {P : Program} {src dst e : Nat} (hs : P.underlying src = some (.slice e)) (he : P.underlying e = some (.int .u8)) (hd : P.underlying dst = some .string) (w : World) {n : Int} (h0 : 0 ≤ n) (h1 : n < 4294967296) :
    (convert src dst (.slice (some ⟨w.heap.size, 0, none⟩) 4 4)).run P (w.alloc (.cells #[.int .u8 (n % 256), .int .u8 (n / 256 % 256), .int .u8 (n / 65536 % 256), .int .u8 (n / 16777216)] e)) =
      .ok (.string ⟨(fourB n).toArray⟩) (w.alloc (.cells #[.int .u8 (n % 256), .int .u8 (n / 256 % 256), .int .u8 (n / 65536 % 256), .int .u8 (n / 16777216)] e)) := by
  have ho := World.ownsRow_lit (e := e) (size := 1) (base := w.heap.size) w #[.int .u8 (n % 256), .int .u8 (n / 256 % 256), .int .u8 (n / 65536 % 256), .int .u8 (n / 16777216)] 4 (Nat.le_refl _) (by simp [maxLen]) rfl
  have eb : bytesV (fourB n) = [.int .u8 (n % 256), .int .u8 (n / 256 % 256), .int .u8 (n / 65536 % 256), .int .u8 (n / 16777216)] := by
    simp only [bytesV, fourB, List.map_cons, List.map_nil, UInt8.toNat_ofNat', List.cons.injEq, Value.int.injEq, true_and, and_true]
    omega
  exact convert_own hs he hd (l := fourB n) (by rw [eb]; exact ho)

theorem ret_str {a b : List UInt8} (h : a = b) : Ending.returned (.string ⟨a.toArray⟩) = .returned (.string ⟨b.toArray⟩) := by rw [h]
theorem wf_size {n : Int} (h : 0 ≤ n ∧ n ≤ 1000000000) : (Lit.int .i64 n).wf = true := by
  simp [Lit.wf, IntKind.min, IntKind.max, IntKind.bits, IntKind.signed]; omega
/-- PutText. -/
def putTextB (s : ByteArray) : List UInt8 := if 8000 < (s.size : Int) then [] else putN s.size ++ s.data.toList
theorem putTextB_no {s : ByteArray} (h : 8000 < (s.size : Int)) : putTextB s = [] := if_pos h
theorem putTextB_yes {s : ByteArray} (h : ¬ 8000 < (s.size : Int)) : putTextB s = putN s.size ++ s.data.toList := if_neg h
theorem putN_size (n : Int) : (⟨(putN n).toArray⟩ : ByteArray).size ≤ 10000 := by
  have := vb_length 9 (foldN n)
  show (putN n).toArray.size ≤ 10000
  simp only [List.size_toArray]
  unfold putN; omega
theorem putN_len (n : Int) : (putN n).length ≤ 10 := (vb_length 9 (foldN n)).2
theorem four_size (n : Int) : (⟨(fourB n).toArray⟩ : ByteArray).size ≤ 10000 := by show 4 ≤ 10000; omega
theorem ret_str' {a b : ByteArray} (h : a = b) : Ending.returned (.string a) = .returned (.string b) := by rw [h]
theorem bytes_append (l : List UInt8) (s : ByteArray) : (⟨l.toArray⟩ : ByteArray) ++ s = ⟨(l ++ s.data.toList).toArray⟩ := by
  apply ByteArray.ext; simp
theorem append_bytes (s : ByteArray) (l : List UInt8) : s ++ (⟨l.toArray⟩ : ByteArray) = ⟨(s.data.toList ++ l).toArray⟩ := by
  apply ByteArray.ext; simp
/-- Seal. -/
def sealB (s : ByteArray) : List UInt8 := if 7996 < (s.size : Int) then [] else s.data.toList ++ fourB ((crcOf 0 s.data.toList : Nat) : Int)
theorem sealB_no {s : ByteArray} (h : 7996 < (s.size : Int)) : sealB s = [] := if_pos h
theorem sealB_yes {s : ByteArray} (h : ¬ 7996 < (s.size : Int)) : sealB s = s.data.toList ++ fourB ((crcOf 0 s.data.toList : Nat) : Int) := if_neg h
end Go.Proofs.Ytgmdgjkmdnpmiaa
