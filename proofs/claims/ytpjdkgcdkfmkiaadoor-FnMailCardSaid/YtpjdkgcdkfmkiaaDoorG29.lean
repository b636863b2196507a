/- Plain facts for promise 1: what is put is got back. Nothing of the program stands here but the shape of texts. -/
import Derived.Test.YtpjdkgcdkfmkiaaDoorG28
import Derived.Test.YtpjdkgcdkfmkiaaDoorG21
import Derived.Test.YtpjdkgcdkfmkiaaDoorPlain1
namespace Go.Proofs.YtpjdkgcdkfmkiaaDoor
open Go Go.RowKit
set_option linter.unusedVariables false

theorem unfold_fold {n : Int} (h : (Lit.int .i64 n).wf = true) : unfoldN (foldN n) = n := by
  have := wf_bounds h
  unfold unfoldN foldN
  by_cases h0 : n < 0
  · rw [if_pos h0]; split <;> omega
  · rw [if_neg h0]; split <;> omega
theorem toNat_ofNat_lt {x : Nat} (h : x < 256) : (UInt8.ofNat x).toNat = x := by rw [UInt8.toNat_ofNat']; omega
theorem rd_last (f i u : Nat) (c : UInt8) (rest : List UInt8) (hc : c.toNat < 128) (h : ¬ ((i = 9 ∧ 1 < c.toNat) ∨ (0 < i ∧ c.toNat = 0))) : rd (f + 1) i u (c :: rest) = (u + c.toNat * 2 ^ (7 * i), i + 1, 0) := by
  show (if c.toNat < 128 then _ else _) = _
  rw [if_pos hc, if_neg h]
theorem rd_more (f i u : Nat) (c : UInt8) (rest : List UInt8) (hc : ¬ c.toNat < 128) (h : ¬ i = 9) : rd (f + 1) i u (c :: rest) = rd f (i + 1) (u + c.toNat % 128 * 2 ^ (7 * i)) rest := by
  show (if c.toNat < 128 then _ else _) = _
  rw [if_neg hc, if_neg h]
/-- A number's bytes are read, whatever stands behind them. -/
theorem rd_vb (f i x u : Nat) (rest : List UInt8) (hf : f + i = 9) (h0 : 0 < i → 0 < x) (hx : x * 2 ^ (7 * i) < 18446744073709551616) :
    rd (f + 1) i u (vb f x ++ rest) = (u + x * 2 ^ (7 * i), i + (vb f x).length, 0) := by
  induction f generalizing i x u with
  | zero =>
    have hi : i = 9 := by omega
    have h63 : (2 : Nat) ^ (7 * i) = 9223372036854775808 := by subst hi; decide
    rw [h63] at hx
    have hx2 : x < 2 := by omega
    have e := toNat_ofNat_lt (x := x) (by omega)
    show rd 1 i u (UInt8.ofNat x :: rest) = _
    rw [rd_last 0 i u _ rest (by omega) (by rw [e]; omega), e]
    rfl
  | succ f ih =>
    by_cases hl : x < 128
    · have e := toNat_ofNat_lt (x := x) (by omega)
      rw [vb_last (f + 1) hl]
      show rd (f + 1 + 1) i u (UInt8.ofNat x :: rest) = _
      rw [rd_last (f + 1) i u _ rest (by omega) (by rw [e]; omega), e]
      rfl
    · have e := toNat_ofNat_lt (x := x % 128 + 128) (by omega)
      rw [vb_more hl]
      show rd (f + 1 + 1) i u (UInt8.ofNat (x % 128 + 128) :: (vb f (x / 128) ++ rest)) = _
      rw [rd_more (f + 1) i u _ _ (by omega) (by omega), e]
      have hp : (2 : Nat) ^ (7 * (i + 1)) = 128 * 2 ^ (7 * i) := by rw [show 7 * (i + 1) = 7 + 7 * i from by omega, Nat.pow_add]
      have hd : x / 128 * 2 ^ (7 * (i + 1)) ≤ x * 2 ^ (7 * i) := by
        rw [hp, ← Nat.mul_assoc]; exact Nat.mul_le_mul_right _ (by omega)
      rw [ih (i + 1) (x / 128) _ (by omega) (fun _ => by omega) (by omega)]
      have hs : u + (x % 128 + 128) % 128 * 2 ^ (7 * i) + x / 128 * 2 ^ (7 * (i + 1)) = u + x * 2 ^ (7 * i) := by
        have h1 : (x % 128 + 128) % 128 = x % 128 := by omega
        have h2 : x * 2 ^ (7 * i) = x % 128 * 2 ^ (7 * i) + x / 128 * 128 * 2 ^ (7 * i) := by rw [← Nat.add_mul]; congr 1; omega
        rw [h1, hp, ← Nat.mul_assoc, h2]; omega
      rw [hs]
      simp only [List.length_cons, Prod.mk.injEq, true_and, and_true]
      omega
/-- Bytes that end too early. -/
theorem rd_early (f i x u : Nat) (hf : f + i = 9) : rd (f + 1) i u (vb f x).dropLast = (0, 0, 4) := by
  induction f generalizing i x u with
  | zero => rfl
  | succ f ih =>
    by_cases hl : x < 128
    · rw [vb_last (f + 1) hl]; rfl
    · have e := toNat_ofNat_lt (x := x % 128 + 128) (by omega)
      rw [vb_more hl, List.dropLast_cons_of_ne_nil (by have := (vb_length f (x / 128)).1; intro h; rw [h] at this; simp at this)]
      rw [rd_more (f + 1) i u _ _ (by omega) (by omega)]
      exact ih (i + 1) (x / 128) _ (by omega)
theorem rd_put {n : Int} (hn : (Lit.int .i64 n).wf = true) (rest : List UInt8) : rd 10 0 0 (putN n ++ rest) = (foldN n, (putN n).length, 0) := by
  have h := rd_vb 9 0 (foldN n) 0 rest (by omega) (fun h => absurd h (by omega)) (by have := fold_lt hn; simpa using this)
  unfold putN
  rw [h]; simp
/-- A number is got back from its bytes. -/
theorem getN_put {n : Int} (hn : (Lit.int .i64 n).wf = true) (s : ByteArray) (p : Nat) (rest : List UInt8) (hs : s.size ≤ 8000) (hd : s.data.toList.drop p = putN n ++ rest) : getN s (p : Nat) = (n, ((p + (putN n).length : Nat) : Int), 0) := by
  have e : rdOf s p = (foldN n, (putN n).length, 0) := by unfold rdOf; rw [hd, rd_put hn]
  rw [getN_ok (by omega) e, unfold_fold hn]
theorem getN_early {n : Int} (s : ByteArray) (hs : s.size ≤ 8000) (hd : s.data.toList = (putN n).dropLast) : getN s 0 = (0, 0, 4) := by
  have e : rdOf s 0 = (0, 0, 4) := by unfold rdOf; rw [List.drop_zero, hd]; exact rd_early 9 0 (foldN n) 0 (by omega)
  exact getN_bad (p := 0) (by omega) (by rw [e]) (by omega)
theorem size_of_list {s : ByteArray} {l : List UInt8} (h : s.data.toList = l) : s.size = l.length := by rw [← h]; simp
/-- A text is got back from its bytes. -/
theorem getT_put (u : List UInt8) (hu : u.length ≤ 7000) (s : ByteArray) (p : Nat) (pre : List UInt8) (hp : pre.length = p) (hpp : p ≤ 100) (hd : s.data.toList = pre ++ (putN u.length ++ u)) :
    getT s (p : Nat) = (⟨u.toArray⟩, ((p + (putN u.length ++ u).length : Nat) : Int), 0) := by
  have hwf : (Lit.int .i64 (u.length : Int)).wf = true := wf_size (by omega)
  have hl := putN_len u.length
  have hsz := size_of_list hd
  simp only [List.length_append] at hsz
  have hg := getN_put hwf s p u (by omega) (by rw [hd, List.drop_append_of_le_length (by omega), List.drop_of_length_le (by omega), List.nil_append])
  rw [getT_ok hg (by omega) (by omega)]
  have he : s.extract (p + (putN u.length).length) (p + (putN u.length).length + u.length) = ⟨u.toArray⟩ := by
    apply WideShapes.bytes_inj
    rw [extract_data', hd]
    have e1 : (pre ++ (putN (u.length : Int) ++ u)).drop (p + (putN (u.length : Int)).length) = u := by
      rw [← List.append_assoc, List.drop_append_of_le_length (by simp; omega), List.drop_of_length_le (by simp; omega), List.nil_append]
    rw [e1, List.take_of_length_le (by omega)]
  rw [he]
  simp only [List.length_append, Prod.mk.injEq, true_and, and_true]
  omega
theorem getT_early (u : List UInt8) (hu : u.length ≤ 7000) (s : ByteArray) (hd : s.data.toList = (putN u.length ++ u).dropLast) : getT s 0 = (⟨#[]⟩, 0, 4) := by
  have hl := putN_len u.length
  have hsz := size_of_list hd
  by_cases h0 : u = []
  · subst h0
    rw [List.append_nil] at hd hsz
    have hg := getN_early (n := 0) s (by rw [hsz, List.length_dropLast]; omega) (by simpa using hd)
    exact getT_bad hg (by omega)
  · have hpos : 0 < u.length := List.length_pos_iff.2 h0
    rw [List.dropLast_append_of_ne_nil h0] at hd hsz
    simp only [List.length_append, List.length_dropLast] at hsz
    have hwf : (Lit.int .i64 (u.length : Int)).wf = true := wf_size (by omega)
    have hg := getN_put hwf s 0 u.dropLast (by omega) (by rw [List.drop_zero]; exact hd)
    exact getT_short (a := 0) hg (by omega) (by omega)
end Go.Proofs.YtpjdkgcdkfmkiaaDoor
/- A mail's numbers and its bytes, plain. No program. -/
namespace Go.Proofs.YtpjdkgcdkfmkiaaDoor
open Go Go.RowKit
set_option linter.unusedVariables false

/-- The bytes of numbers, one behind the other. -/
def numsB (l : List Int) : List UInt8 := l.flatMap putN
theorem numsB_append (l m : List Int) : numsB (l ++ m) = numsB l ++ numsB m := by simp [numsB]
theorem numsB_len (l : List Int) : (numsB l).length ≤ 10 * l.length := by
  induction l with
  | nil => simp [numsB]
  | cons x r ih =>
    have := putN_len x
    simp only [numsB, List.flatMap_cons, List.length_append, List.length_cons] at *
    omega
theorem numsB_cat (l : List Int) : cat (l.map fun x => (⟨(putN x).toArray⟩ : ByteArray)) = numsB l := by
  simp [cat, numsB, List.flatMap_map]
def factN (f : FactV) : List Int := [f.node, f.inc, f.st]
def factsN (l : List FactV) : List Int := l.flatMap factN
theorem factsN_length (l : List FactV) : (factsN l).length = 3 * l.length := by
  induction l with
  | nil => rfl
  | cons x r ih => simp only [factsN, List.flatMap_cons, List.length_append, List.length_cons, factN, List.length_nil] at *; omega
theorem factsN_take (l : List FactV) (k : Nat) (h : k < l.length) : factsN (l.take (k + 1)) = factsN (l.take k) ++ factN l[k] := by
  unfold factsN; rw [List.take_succ_eq_append_getElem h, List.flatMap_append]; simp
def MailV.head (m : MailV) : List Int := [m.kind, m.frm, m.dst, m.num, m.about, m.fr, (m.facts.length : Int)]
def MailV.nums (m : MailV) : List Int := m.head ++ factsN m.facts
def MailV.bytes (m : MailV) : List UInt8 := sealB ⟨(numsB m.nums).toArray⟩
/-- What MailBytes tells. -/
def MailV.out (m : MailV) (q : Bool) : List UInt8 := if q then m.bytes else []
theorem wf_of {n : Int} (h0 : -9223372036854775808 ≤ n) (h1 : n ≤ 9223372036854775807) : (Lit.int .i64 n).wf = true := by
  simp [Lit.wf, IntKind.min, IntKind.max, IntKind.bits, IntKind.signed]; omega
theorem fact_wf {d : FactV} (h : d.ok) : ∀ x ∈ factN d, (Lit.int .i64 x).wf = true := by
  unfold FactV.ok nodeR timeR at h
  intro x hx
  simp only [factN, List.mem_cons, List.not_mem_nil, or_false] at hx
  rcases hx with rfl | rfl | rfl <;> exact wf_of (by omega) (by omega)
theorem mail_wf {m : MailV} (h : m.ok) : ∀ x ∈ m.nums, (Lit.int .i64 x).wf = true := by
  obtain ⟨h1, ⟨h2, h3, h4, h5⟩, h6, h7⟩ := h
  have hk := MailV.own_kind h1
  have hlen := rightV_len h6
  unfold MailV.own forR at h1
  unfold nodeR timeR at *
  intro x hx
  rcases List.mem_append.1 hx with hx | hx
  · simp only [MailV.head, List.mem_cons, List.not_mem_nil, or_false] at hx
    rcases hx with rfl | rfl | rfl | rfl | rfl | rfl | rfl <;> exact wf_of (by omega) (by omega)
  · obtain ⟨d, hd, hx⟩ := List.mem_flatMap.1 hx
    exact fact_wf (rightV_ok h6 d hd) x hx
theorem nums_len {m : MailV} (h : m.ok) : m.nums.length ≤ 25 := by
  have := rightV_len h.2.2.1
  simp only [MailV.nums, MailV.head, List.length_append, factsN_length, List.length_cons, List.length_nil]
  omega
end Go.Proofs.YtpjdkgcdkfmkiaaDoor
