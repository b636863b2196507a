/- Plain facts for promise 2: a CRC tells two texts apart that part in one byte; it goes on from text to text. -/
import Derived.Test.YtpjdkgcdkfmkiaaDoorG28
namespace Go.Proofs.YtpjdkgcdkfmkiaaDoor
open Go Go.RowKit
set_option linter.unusedVariables false

theorem turn_high {x : Nat} (h : x < 2147483648) : (x ^^^ 3988292384).testBit 31 = true := by
  rw [Nat.testBit_xor, Nat.testBit_lt_two_pow (show x < 2 ^ 31 from h)]; decide
theorem half_low {x : Nat} (h : x < 2147483648) : x.testBit 31 = false := Nat.testBit_lt_two_pow (show x < 2 ^ 31 from h)
theorem xor_cancel {a b c : Nat} (h : a ^^^ c = b ^^^ c) : a = b := by
  have := congrArg (· ^^^ c) h
  simpa [Nat.xor_assoc] using this
theorem crcBit_inj {a b : Nat} (ha : a < 4294967296) (hb : b < 4294967296) (h : crcBit a = crcBit b) : a = b := by
  unfold crcBit at h
  by_cases h1 : a % 2 = 1
  · rw [if_pos h1] at h
    by_cases h2 : b % 2 = 1
    · rw [if_pos h2] at h
      have := xor_cancel h
      omega
    · rw [if_neg h2] at h
      have e := congrArg (fun x => x.testBit 31) h
      rw [turn_high (by omega), half_low (by omega)] at e
      exact absurd e (by decide)
  · rw [if_neg h1] at h
    by_cases h2 : b % 2 = 1
    · rw [if_pos h2] at h
      have e := congrArg (fun x => x.testBit 31) h
      rw [turn_high (by omega), half_low (by omega)] at e
      exact absurd e (by decide)
    · rw [if_neg h2] at h; omega
theorem crcBits_inj (n : Nat) {a b : Nat} (ha : a < 4294967296) (hb : b < 4294967296) (h : crcBits n a = crcBits n b) : a = b := by
  induction n generalizing a b with
  | zero => exact h
  | succ n ih => exact crcBit_inj ha hb (ih (crcBit_lt ha) (crcBit_lt hb) h)
theorem byte_lt32 (c : UInt8) : c.toNat < 4294967296 := by have := byte_lt c; omega
theorem crcByte_inj {a b : Nat} (c : UInt8) (ha : a < 4294967296) (hb : b < 4294967296) (h : crcByte a c = crcByte b c) : a = b :=
  xor_cancel (crcBits_inj 8 (xor_lt32 ha (byte_lt32 c)) (xor_lt32 hb (byte_lt32 c)) h)
theorem crcByte_byte {r : Nat} {c d : UInt8} (hr : r < 4294967296) (h : crcByte r c = crcByte r d) : c = d := by
  have := crcBits_inj 8 (xor_lt32 hr (byte_lt32 c)) (xor_lt32 hr (byte_lt32 d)) h
  rw [Nat.xor_comm r, Nat.xor_comm r] at this
  exact UInt8.toNat_inj.1 (xor_cancel this)
theorem crcRun_inj (l : List UInt8) {a b : Nat} (ha : a < 4294967296) (hb : b < 4294967296) (h : crcRun a l = crcRun b l) : a = b := by
  induction l generalizing a b with
  | nil => exact h
  | cons c l ih => exact crcByte_inj c ha hb (ih (crcByte_lt c ha) (crcByte_lt c hb) h)
/-- With one byte turned the CRC is another. -/
theorem crcOf_turned {A B : List UInt8} {c d : UInt8} (h : crcOf 0 (A ++ c :: B) = crcOf 0 (A ++ d :: B)) : c = d := by
  unfold crcOf at h
  have h1 := xor_cancel h
  rw [crcRun_append, crcRun_append] at h1
  have hr : crcRun ((0 : Int).toNat ^^^ 4294967295) A < 4294967296 := crcRun_lt A (xor_lt32 (by decide) (by omega))
  exact crcByte_byte hr (crcRun_inj B (crcByte_lt c hr) (crcByte_lt d hr) h1)
theorem fourB_inj {m n : Nat} (hm : m < 4294967296) (hn : n < 4294967296) (h : fourB (m : Int) = fourB (n : Int)) : m = n := by
  unfold fourB at h
  simp only [List.cons.injEq, and_true] at h
  obtain ⟨h1, h2, h3, h4⟩ := h
  have e1 := congrArg UInt8.toNat h1
  have e2 := congrArg UInt8.toNat h2
  have e3 := congrArg UInt8.toNat h3
  have e4 := congrArg UInt8.toNat h4
  simp only [UInt8.toNat_ofNat'] at e1 e2 e3 e4
  omega
theorem size_of_list' {s : ByteArray} {l : List UInt8} (h : s.data.toList = l) : s.size = l.length := by rw [← h]; simp
theorem size_data {l : List UInt8} : (⟨l.toArray⟩ : ByteArray).size = l.length := by show l.toArray.size = _; simp
theorem crc_lt (l : List UInt8) : crcOf 0 l < 4294967296 := crcOf_lt 0 l (by omega)
theorem sealB_list {t : ByteArray} (h : t.size ≤ 7996) : sealB t = t.data.toList ++ fourB ((crcOf 0 t.data.toList : Nat) : Int) := sealB_yes (by omega)
theorem sealB_len {t : ByteArray} (h : t.size ≤ 7996) : (sealB t).length = t.size + 4 := by rw [sealB_list h, List.length_append]; simp [fourB]
/-- A sealed text comes back. -/
theorem getU_seal {t : ByteArray} (h : t.size ≤ 7996) : getU ⟨(sealB t).toArray⟩ = (t, 0, 0) := by
  have hs : (⟨(sealB t).toArray⟩ : ByteArray).size = t.size + 4 := by rw [size_data, sealB_len h]
  have hb : (⟨(sealB t).toArray⟩ : ByteArray).extract 0 ((⟨(sealB t).toArray⟩ : ByteArray).size - 4) = t := by
    apply WideShapes.bytes_inj
    rw [extract_data', hs, List.drop_zero, show t.size + 4 - 4 - 0 = t.size from by omega]
    show (sealB t).toArray.toList.take t.size = _
    rw [List.toList_toArray, sealB_list h, List.take_append_of_le_length (by simp), List.take_of_length_le (by simp)]
  have := getU_ok (s := ⟨(sealB t).toArray⟩) (by rw [hs]; omega) (by rw [hs]; omega) (by rw [hb])
  rw [this, hb]
theorem set_split {T : List UInt8} {i : Nat} (h : i < T.length) (d : UInt8) : T = T.take i ++ T[i] :: T.drop (i + 1) ∧ T.set i d = T.take i ++ d :: T.drop (i + 1) := by
  constructor
  · rw [← List.drop_eq_getElem_cons h, List.take_append_drop]
  · rw [List.set_eq_take_append_cons_drop, if_pos h]
/-- With any one byte turned it is refused. -/
theorem getU_turned {t : ByteArray} (h : t.size ≤ 7996) (i : Nat) (d : UInt8) (hi : i < (sealB t).length) (hd : d ≠ (sealB t)[i]) : getU ⟨((sealB t).set i d).toArray⟩ = (⟨#[]⟩, 0, 5) := by
  have hl := sealB_len h
  have hs : (⟨((sealB t).set i d).toArray⟩ : ByteArray).size = t.size + 4 := by rw [size_data, List.length_set, hl]
  have hb : ((⟨((sealB t).set i d).toArray⟩ : ByteArray).extract 0 ((⟨((sealB t).set i d).toArray⟩ : ByteArray).size - 4)).data.toList = ((sealB t).set i d).take t.size := by
    rw [extract_data', hs, List.drop_zero, show t.size + 4 - 4 - 0 = t.size from by omega]
  refine getU_sum (by rw [hs]; omega) (by rw [hs]; omega) ?_
  have hbs : ((⟨((sealB t).set i d).toArray⟩ : ByteArray).extract 0 ((⟨((sealB t).set i d).toArray⟩ : ByteArray).size - 4)).size ≤ 7996 := by
    have := size_of_list' hb
    rw [List.length_take, List.length_set, hl] at this
    omega
  rw [sealB_list hbs, hb]
  intro heq
  have heq : ((sealB t).set i d).take t.size ++ fourB ((crcOf 0 (((sealB t).set i d).take t.size) : Nat) : Int) = (sealB t).set i d := by simpa using heq
  have hL := sealB_list h
  have hT : t.data.toList.length = t.size := by simp
  by_cases hlt : i < t.size
  · have e1 : (sealB t).set i d = t.data.toList.set i d ++ fourB ((crcOf 0 t.data.toList : Nat) : Int) := by rw [hL, List.set_append_left _ _ (by omega)]
    have e2 : ((sealB t).set i d).take t.size = t.data.toList.set i d := by
      rw [e1, List.take_append_of_le_length (by simp), List.take_of_length_le (by simp)]
    rw [e2, e1] at heq
    have hf := fourB_inj (crc_lt _) (crc_lt _) (List.append_cancel_left heq)
    have hsp := set_split (T := t.data.toList) (i := i) (by omega) d
    rw [hsp.2] at hf
    have hf' : crcOf 0 (t.data.toList.take i ++ d :: t.data.toList.drop (i + 1)) = crcOf 0 (t.data.toList.take i ++ t.data.toList[i] :: t.data.toList.drop (i + 1)) := by rw [hf]; exact congrArg _ hsp.1
    have := crcOf_turned hf'
    apply hd
    rw [this]
    have : (sealB t)[i]? = t.data.toList[i]? := by rw [hL, List.getElem?_append_left (by omega)]
    rw [List.getElem?_eq_getElem hi, List.getElem?_eq_getElem (by omega)] at this
    exact (Option.some.inj this).symm
  · have e1 : (sealB t).set i d = t.data.toList ++ (fourB ((crcOf 0 t.data.toList : Nat) : Int)).set (i - t.size) d := by rw [hL, List.set_append_right _ _ (by omega), hT]
    have e2 : ((sealB t).set i d).take t.size = t.data.toList := by
      rw [e1, List.take_append_of_le_length (by omega), List.take_of_length_le (by omega)]
    rw [e2] at heq
    rw [← hL] at heq
    apply hd
    have h3 : (sealB t)[i]? = ((sealB t).set i d)[i]? := by rw [← heq]
    rw [List.getElem?_set_self hi, List.getElem?_eq_getElem hi] at h3
    exact (Option.some.inj h3).symm
/-- A CRC goes on from text to text. -/
theorem crc_goes_on (t u : List UInt8) (h : t.length + u.length ≤ 8000) : crcMore ((crcMore 0 t : Nat) : Int) u = crcMore 0 (t ++ u) := by
  have hlt := crc_lt t
  rw [crcMore_yes (c := 0) (l := t) (by omega) (by omega) (by omega), crcMore_yes (c := 0) (l := t ++ u) (by rw [List.length_append]; omega) (by omega) (by omega), crcMore_yes (by omega) (by omega) (by omega)]
  unfold crcOf
  rw [Int.toNat_natCast, crcRun_append]
  have : (crcRun ((0 : Int).toNat ^^^ 4294967295) t ^^^ 4294967295) ^^^ 4294967295 = crcRun ((0 : Int).toNat ^^^ 4294967295) t := by rw [Nat.xor_assoc, Nat.xor_self, Nat.xor_zero]
  rw [this]
end Go.Proofs.YtpjdkgcdkfmkiaaDoor
