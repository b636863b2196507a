/- Plain facts on reading a number out of bytes. Nothing of the program stands here. -/
import Derived.Test.YtpjdkgcdkfmkiaaDoorPlain1
namespace Go.Proofs.YtpjdkgcdkfmkiaaDoor
set_option linter.unusedVariables false
open Go Go.RowKit

/-- A number is read out of bytes: i bytes of it are read, u is their worth; told is the whole number, how many bytes it has, and a code. -/
def rd : Nat → Nat → Nat → List UInt8 → Nat × Nat × Int
  | 0, _, _, _ => (0, 0, 3)
  | _ + 1, _, _, [] => (0, 0, 4)
  | f + 1, i, u, c :: l =>
    if c.toNat < 128 then (if (i = 9 ∧ 1 < c.toNat) ∨ (0 < i ∧ c.toNat = 0) then (0, 0, 3) else (u + c.toNat * 2 ^ (7 * i), i + 1, 0))
    else if i = 9 then (0, 0, 3) else rd f (i + 1) (u + c.toNat % 128 * 2 ^ (7 * i)) l
def rdOf (s : ByteArray) (p : Nat) : Nat × Nat × Int := rd 10 0 0 (s.data.toList.drop p)
/-- i bytes are read, all of 128 or more. -/
def RdAt (s : ByteArray) (p q i h u : Nat) : Prop := q = p + i ∧ h = 7 * i ∧ i ≤ 9 ∧ (i = 0 ∨ q ≤ s.size) ∧ u < 2 ^ h ∧ rdOf s p = rd (10 - i) i u (s.data.toList.drop q)
/-- The last byte is read. -/
def RdLast (s : ByteArray) (p q i h u c : Nat) : Prop := q = p + i + 1 ∧ h = 7 * i ∧ i ≤ 9 ∧ q ≤ s.size ∧ u < 2 ^ h ∧ c < 128 ∧ rdOf s p = (if (i = 9 ∧ 1 < c) ∨ (0 < i ∧ c = 0) then (0, 0, 3) else (u + c * 2 ^ h, i + 1, 0))
theorem RdAt_zero (s : ByteArray) (p : Nat) : RdAt s p p 0 0 0 := ⟨rfl, rfl, by omega, .inl rfl, by simp, rfl⟩
theorem RdAt.short {s : ByteArray} {p q i h u : Nat} (r : RdAt s p q i h u) (hq : ¬ q < s.size) : rdOf s p = (0, 0, 4) := by
  obtain ⟨_, _, hi, _, _, e⟩ := r
  rw [e, List.drop_eq_nil_of_le (by simp; omega), show 10 - i = (9 - i) + 1 from by omega]
  rfl
theorem RdAt.step {s : ByteArray} {p q i h u : Nat} (r : RdAt s p q i h u) (hq : q < s.size) : rdOf s p = (if s[q].toNat < 128 then (if (i = 9 ∧ 1 < s[q].toNat) ∨ (0 < i ∧ s[q].toNat = 0) then (0, 0, 3) else (u + s[q].toNat * 2 ^ (7 * i), i + 1, 0))
    else if i = 9 then (0, 0, 3) else rd (9 - i) (i + 1) (u + s[q].toNat % 128 * 2 ^ (7 * i)) (s.data.toList.drop (q + 1))) := by
  obtain ⟨_, _, hi, _, _, e⟩ := r
  rw [e, drop_cons s q hq, show 10 - i = (9 - i) + 1 from by omega]
  rfl
theorem RdAt.last {s : ByteArray} {p q i h u : Nat} (r : RdAt s p q i h u) (hq : q < s.size) (hc : s[q].toNat < 128) : RdLast s p (q + 1) i h u s[q].toNat := by
  have st := r.step hq
  obtain ⟨e1, e2, hi, _, hu, _⟩ := r
  rw [if_pos hc, ← e2] at st
  exact ⟨by omega, e2, hi, by omega, hu, hc, st⟩
theorem RdAt.wrong {s : ByteArray} {p q i h u : Nat} (r : RdAt s p q i h u) (hq : q < s.size) (hc : ¬ s[q].toNat < 128) (hi : i = 9) : rdOf s p = (0, 0, 3) := by
  have st := r.step hq
  rw [if_neg hc, if_pos hi] at st
  exact st
theorem RdAt.more {s : ByteArray} {p q i h u : Nat} (r : RdAt s p q i h u) (hq : q < s.size) (hc : ¬ s[q].toNat < 128) (hi : ¬ i = 9) : RdAt s p (q + 1) (i + 1) (h + 7) (u + s[q].toNat % 128 * 2 ^ h) := by
  have st := r.step hq
  obtain ⟨e1, e2, hi9, _, hu, _⟩ := r
  rw [if_neg hc, if_neg hi, ← e2] at st
  refine ⟨by omega, by omega, by omega, .inr (by omega), ?_, ?_⟩
  · have : s[q].toNat % 128 * 2 ^ h ≤ 127 * 2 ^ h := Nat.mul_le_mul_right _ (by omega)
    rw [Nat.pow_add]; omega
  · rw [st, show 10 - (i + 1) = 9 - i from by omega]
theorem or_sum {u c h : Nat} (hu : u < 2 ^ h) : u ||| c * 2 ^ h = u + c * 2 ^ h := by
  have := Nat.two_pow_add_eq_or_of_lt (i := h) (b := u) hu c
  rw [Nat.or_comm, Nat.mul_comm c, ← this]; omega
theorem and_byte (c : UInt8) : bits BinOp.and IntKind.u8 (c.toNat : Int) 127 = ((c.toNat % 128 : Nat) : Int) := by
  have hb := byte_lt c
  have := u8_and_nat c.toNat 127 hb (by omega)
  rw [and_127] at this; exact this
theorem or_first {c : UInt8} : bits BinOp.or IntKind.u64 0 (IntKind.u64.wrap (IntKind.u64.wrap (bits BinOp.and IntKind.u8 (c.toNat : Int) 127))) = ((0 + c.toNat % 128 * 2 ^ 0 : Nat) : Int) := by
  rw [and_byte]
  have hb := byte_lt c
  simp only [IntKind.wrap_u64]
  rw [show (((c.toNat % 128 : Nat) : Int)) % 18446744073709551616 % 18446744073709551616 = ((c.toNat % 128 : Nat) : Int) from by omega]
  have := u64_or_nat 0 (c.toNat % 128) (by omega) (by omega)
  simpa using this
theorem pow_le56 {h : Nat} (hh : h ≤ 56) : 2 ^ h ≤ 72057594037927936 := Nat.pow_le_pow_right (by omega) hh
theorem pow_le63 {h : Nat} (hh : h ≤ 63) : 2 ^ h ≤ 9223372036854775808 := Nat.pow_le_pow_right (by omega) hh
theorem or_shift {u h : Nat} {c : UInt8} (hu : u < 2 ^ h) (hh : h ≤ 56) : bits BinOp.or IntKind.u64 (u : Int) (IntKind.u64.wrap (IntKind.u64.wrap (bits BinOp.and IntKind.u8 (c.toNat : Int) 127) * 2 ^ h)) = ((u + c.toNat % 128 * 2 ^ h : Nat) : Int) := by
  rw [and_byte]
  have hp := pow_le56 hh
  have hm : c.toNat % 128 * 2 ^ h ≤ 127 * 2 ^ h := Nat.mul_le_mul_right _ (by omega)
  simp only [IntKind.wrap_u64]
  rw [show (((c.toNat % 128 : Nat) : Int)) % 18446744073709551616 = ((c.toNat % 128 : Nat) : Int) from by omega]
  have e : ((c.toNat % 128 : Nat) : Int) * 2 ^ h = ((c.toNat % 128 * 2 ^ h : Nat) : Int) := by rw [Int.natCast_mul, Int.natCast_pow]; rfl
  rw [e, show ((c.toNat % 128 * 2 ^ h : Nat) : Int) % 18446744073709551616 = ((c.toNat % 128 * 2 ^ h : Nat) : Int) from by omega]
  rw [u64_or_nat u (c.toNat % 128 * 2 ^ h) (by omega) (by omega), or_sum hu]
theorem or_last {u h c : Nat} (hu : u < 2 ^ h) (hh : h ≤ 63) (hc : h ≤ 56 ∧ c < 128 ∨ h = 63 ∧ c ≤ 1) : bits BinOp.or IntKind.u64 (u : Int) (IntKind.u64.wrap ((c : Int) * 2 ^ h)) = ((u + c * 2 ^ h : Nat) : Int) := by
  have hp := pow_le63 hh
  have hm : c * 2 ^ h ≤ 9223372036854775808 := by
    rcases hc with ⟨a, b⟩ | ⟨a, b⟩
    · have := pow_le56 a
      have h2 : c * 2 ^ h ≤ 127 * 2 ^ h := Nat.mul_le_mul_right _ (by omega)
      omega
    · have h2 : c * 2 ^ h ≤ 1 * 2 ^ h := Nat.mul_le_mul_right _ b
      omega
  have e : (c : Int) * 2 ^ h = ((c * 2 ^ h : Nat) : Int) := by rw [Int.natCast_mul, Int.natCast_pow]; rfl
  rw [e]
  simp only [IntKind.wrap_u64]
  rw [show ((c * 2 ^ h : Nat) : Int) % 18446744073709551616 = ((c * 2 ^ h : Nat) : Int) from by omega]
  rw [u64_or_nat u (c * 2 ^ h) (by omega) (by omega), or_sum hu]

theorem pow_mono7 {i : Nat} (h : i ≤ 9) : 2 ^ (7 * i) ≤ 9223372036854775808 := pow_le63 (by omega)
/-- What is read fits in, and lies within the text. -/
theorem rd_fits (f i u : Nat) (l : List UInt8) (hf : f + i = 10) (hu : u < 2 ^ (7 * i)) : (rd f i u l).1 < 18446744073709551616 ∧ (rd f i u l).2.1 ≤ i + l.length ∧ (rd f i u l).2.1 ≤ 10 ∧ 0 ≤ (rd f i u l).2.2 ∧ (rd f i u l).2.2 ≤ 4 := by
  induction f generalizing i u l with
  | zero => exact ⟨by simp [rd], by simp [rd], by simp [rd], by simp [rd], by simp [rd]⟩
  | succ f ih =>
    cases l with
    | nil => exact ⟨by simp [rd], by simp [rd], by simp [rd], by simp [rd], by simp [rd]⟩
    | cons c l =>
      have hc := byte_lt c
      have hp := pow_mono7 (i := i) (by omega)
      unfold rd
      by_cases h1 : c.toNat < 128
      · rw [if_pos h1]
        by_cases h2 : (i = 9 ∧ 1 < c.toNat) ∨ (0 < i ∧ c.toNat = 0)
        · rw [if_pos h2]; exact ⟨by simp, by simp, by simp, by simp, by simp⟩
        · rw [if_neg h2]
          refine ⟨?_, by show i + 1 ≤ i + (l.length + 1); omega, by show i + 1 ≤ 10; omega, by simp, by simp⟩
          show u + c.toNat * 2 ^ (7 * i) < _
          by_cases h3 : i = 9
          · have : c.toNat * 2 ^ (7 * i) ≤ 1 * 2 ^ (7 * i) := Nat.mul_le_mul_right _ (by omega)
            omega
          · have h56 := pow_le56 (h := 7 * i) (by omega)
            have : c.toNat * 2 ^ (7 * i) ≤ 127 * 2 ^ (7 * i) := Nat.mul_le_mul_right _ (by omega)
            omega
      · rw [if_neg h1]
        by_cases h3 : i = 9
        · rw [if_pos h3]; exact ⟨by simp, by simp, by simp, by simp, by simp⟩
        · rw [if_neg h3]
          have hu' : u + c.toNat % 128 * 2 ^ (7 * i) < 2 ^ (7 * (i + 1)) := by
            have : c.toNat % 128 * 2 ^ (7 * i) ≤ 127 * 2 ^ (7 * i) := Nat.mul_le_mul_right _ (by omega)
            rw [show 7 * (i + 1) = 7 * i + 7 from by omega, Nat.pow_add]; omega
          have := ih (i + 1) _ l (by omega) hu'
          refine ⟨this.1, by have := this.2.1; simp; omega, this.2.2.1, this.2.2.2⟩
theorem rdOf_fits (s : ByteArray) (p : Nat) : (rdOf s p).1 < 18446744073709551616 ∧ ((rdOf s p).2.1 ≤ (s.size - p) ∧ (rdOf s p).2.1 ≤ 10) ∧ 0 ≤ (rdOf s p).2.2 ∧ (rdOf s p).2.2 ≤ 4 := by
  have := rd_fits 10 0 0 (s.data.toList.drop p) (by omega) (by simp)
  refine ⟨this.1, ⟨by have := this.2.1; simpa [rdOf] using this, this.2.2.1⟩, this.2.2.2⟩
/-- A number from 0 to 2^64-1 as one of int64. -/
def unfoldN (u : Nat) : Int := if u % 2 = 1 then -((u / 2 : Nat) : Int) - 1 else ((u / 2 : Nat) : Int)
theorem unfold_odd {u : Nat} (hu : u < 18446744073709551616) (h : u % 2 = 1) : wrap64 (bits BinOp.xor IntKind.u64 IntKind.u64.max ((u : Int) / 2)) = unfoldN u := by
  have x := u64_xor_nat 18446744073709551615 (u / 2) (by omega) (by omega)
  rw [show (u : Int) / 2 = ((u / 2 : Nat) : Int) from by omega, show IntKind.u64.max = ((18446744073709551615 : Nat) : Int) from by rfl, x, compl64 (by omega)]
  unfold unfoldN wrap64; rw [if_pos h]; omega
theorem unfold_even {u : Nat} (hu : u < 18446744073709551616) (h : ¬ u % 2 = 1) : (u : Int) / 2 = unfoldN u := by
  unfold unfoldN; rw [if_neg h]; omega
theorem unfold_wf {u : Nat} (hu : u < 18446744073709551616) : -9223372036854775808 ≤ unfoldN u ∧ unfoldN u ≤ 9223372036854775807 := by
  unfold unfoldN; split <;> omega
theorem and_one64 {y : Nat} (h : y < 18446744073709551616) : bits BinOp.and IntKind.u64 (y : Int) 1 = ((y % 2 : Nat) : Int) := by
  have := u64_and_nat y 1 h (by omega)
  rw [Nat.and_one_is_mod] at this
  exact this
theorem and_one64_odd {y : Nat} (h : y < 18446744073709551616) (ho : y % 2 = 1) : (bits BinOp.and IntKind.u64 (y : Int) 1 == 1) = true := by rw [and_one64 h, ho]; rfl
theorem and_one64_even {y : Nat} (h : y < 18446744073709551616) (ho : ¬ y % 2 = 1) : (bits BinOp.and IntKind.u64 (y : Int) 1 == 1) = false := by
  rw [and_one64 h, show y % 2 = 0 from by omega]; rfl
/-- GetNum. -/
def getN (s : ByteArray) (a : Int) : Int × Int × Int :=
  if 8000 < (s.size : Int) then (0, 0, 2) else if a < 0 then (0, 0, 1) else
    if (rdOf s a.toNat).2.2 = 0 then (unfoldN (rdOf s a.toNat).1, a + (rdOf s a.toNat).2.1, 0) else (0, 0, (rdOf s a.toNat).2.2)
theorem getN_size {s : ByteArray} {a : Int} (h : 8000 < (s.size : Int)) : getN s a = (0, 0, 2) := if_pos h
theorem getN_form {s : ByteArray} {a : Int} (h : ¬ 8000 < (s.size : Int)) (h2 : a < 0) : getN s a = (0, 0, 1) := by unfold getN; rw [if_neg h, if_pos h2]
theorem getN_ok {s : ByteArray} {p : Nat} {u k : Nat} (h : ¬ 8000 < (s.size : Int)) (e : rdOf s p = (u, k, 0)) : getN s (p : Nat) = (unfoldN u, ((p + k : Nat) : Int), 0) := by
  unfold getN; rw [if_neg h, if_neg (by omega), Int.toNat_natCast, e, if_pos rfl]; simp
theorem getN_bad {s : ByteArray} {p : Nat} {c : Int} (h : ¬ 8000 < (s.size : Int)) (e : (rdOf s p).2.2 = c) (hc : c ≠ 0) : getN s (p : Nat) = (0, 0, c) := by
  unfold getN; rw [if_neg h, if_neg (by omega), Int.toNat_natCast, e, if_neg hc]
theorem wrap_byte (c : UInt8) : IntKind.u64.wrap (c.toNat : Int) = (c.toNat : Int) := by
  have := byte_lt c
  rw [IntKind.wrap_u64]; omega
theorem RdAt.nine {s : ByteArray} {p q i h u : Nat} (r : RdAt s p q i h u) (hq : q < s.size) (hi : i = 9) (hc : 1 < s[q].toNat) : rdOf s p = (0, 0, 3) := by
  have st := r.step hq
  by_cases h1 : s[q].toNat < 128
  · rw [if_pos h1, if_pos (.inl ⟨hi, hc⟩)] at st; exact st
  · rw [if_neg h1, if_pos hi] at st; exact st
theorem RdAt.zero {s : ByteArray} {p q i h u : Nat} (r : RdAt s p q i h u) (hq : q < s.size) (hc : s[q].toNat = 0) (hi : 0 < i) : rdOf s p = (0, 0, 3) := by
  have st := r.step hq
  rw [if_pos (by omega), if_pos (.inr ⟨hi, hc⟩)] at st; exact st
theorem RdAt.okay {s : ByteArray} {p q i h u : Nat} (r : RdAt s p q i h u) (hq : q < s.size) (hc : s[q].toNat < 128) (hn : ¬ ((i = 9 ∧ 1 < s[q].toNat) ∨ (0 < i ∧ s[q].toNat = 0))) : rdOf s p = (u + s[q].toNat % 128 * 2 ^ (7 * i), i + 1, 0) := by
  have st := r.step hq
  rw [if_pos hc, if_neg hn] at st
  rw [st, Nat.mod_eq_of_lt hc]
theorem sum_wrap {x k : Nat} {c : Nat} (hb : x + c % 128 * 2 ^ (7 * k) < 18446744073709551616) : IntKind.u64.wrap ((x : Int) + IntKind.u64.wrap ((c : Int) % 128 * 2 ^ (7 * k))) = ((x + c % 128 * 2 ^ (7 * k) : Nat) : Int) := by
  have e : (c : Int) % 128 * 2 ^ (7 * k) = ((c % 128 * 2 ^ (7 * k) : Nat) : Int) := by rw [Int.natCast_mul, Int.natCast_pow, Int.natCast_emod]; rfl
  rw [e]
  simp only [IntKind.wrap_u64]
  omega
theorem sum_at {x k c : Nat} (hu : x < 2 ^ (7 * k)) (hk : k ≤ 9) (hc : c < 128) (h : ¬ k = 9 ∨ k = 9 ∧ c ≤ 1) : ∃ v : Nat, Hid (x + c % 128 * 2 ^ (7 * k) = v) ∧ Hid ((v : Int) < 18446744073709551616) ∧ Hid (IntKind.u64.wrap ((x : Int) + IntKind.u64.wrap ((c : Int) % 128 * 2 ^ (7 * k))) = (v : Int)) := by
  have hb : x + c % 128 * 2 ^ (7 * k) < 18446744073709551616 := by
    have hp := pow_mono7 hk
    rcases h with h | ⟨h, h2⟩
    · have h56 := pow_le56 (h := 7 * k) (by omega)
      have : c % 128 * 2 ^ (7 * k) ≤ 127 * 2 ^ (7 * k) := Nat.mul_le_mul_right _ (by omega)
      omega
    · have : c % 128 * 2 ^ (7 * k) ≤ 1 * 2 ^ (7 * k) := Nat.mul_le_mul_right _ (by omega)
      omega
  exact ⟨_, rfl, show (_ : Int) < _ by omega, sum_wrap hb⟩
theorem sum_more {x k : Nat} {c : UInt8} (hu : x < 2 ^ (7 * k)) (hk : k ≤ 8) : IntKind.u64.wrap ((x : Int) + IntKind.u64.wrap ((c.toNat : Int) % 128 * 2 ^ (7 * k))) = ((x + c.toNat % 128 * 2 ^ (7 * k) : Nat) : Int) := by
  have h56 := pow_le56 (h := 7 * k) (by omega)
  have : c.toNat % 128 * 2 ^ (7 * k) ≤ 127 * 2 ^ (7 * k) := Nat.mul_le_mul_right _ (by omega)
  exact sum_wrap (by omega)
theorem odd_worth {S : Int} {v : Nat} (h : S = (v : Int)) (hv : (v : Int) < 18446744073709551616) (ho : (S.tmod 2 == 1) = true) : unfoldN v = wrap64 (wrap64 (-wrap64 (IntKind.u64.wrap (S.tdiv 2))) - 1) := by
  subst h
  rw [Int.tmod_eq_emod_of_nonneg (by omega)] at ho
  rw [Int.tdiv_eq_ediv_of_nonneg (by omega)]
  have ho' : (v : Int) % 2 = 1 := by simpa using ho
  unfold unfoldN wrap64; rw [if_pos (by omega)]; simp only [IntKind.wrap_u64]; omega
theorem even_worth {S : Int} {v : Nat} (h : S = (v : Int)) (hv : (v : Int) < 18446744073709551616) (ho : (S.tmod 2 == 1) = false) : unfoldN v = wrap64 (IntKind.u64.wrap (S.tdiv 2)) := by
  subst h
  rw [Int.tmod_eq_emod_of_nonneg (by omega)] at ho
  rw [Int.tdiv_eq_ediv_of_nonneg (by omega)]
  have ho' : ¬ (v : Int) % 2 = 1 := by simpa using ho
  unfold unfoldN wrap64; rw [if_neg (by omega)]; simp only [IntKind.wrap_u64]; omega
theorem unfold_o {u : Nat} (h : u % 2 = 1) : unfoldN u = -((u : Int) / 2) - 1 := by unfold unfoldN; rw [if_pos h]; omega
theorem unfold_e {u : Nat} (h : ¬ u % 2 = 1) : unfoldN u = (u : Int) / 2 := by unfold unfoldN; rw [if_neg h]; omega
end Go.Proofs.YtpjdkgcdkfmkiaaDoor
