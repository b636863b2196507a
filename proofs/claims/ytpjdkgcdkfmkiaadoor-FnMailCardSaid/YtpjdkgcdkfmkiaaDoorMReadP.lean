/- What is read out of numbers' bytes, plain. No program. -/
import Derived.Test.YtpjdkgcdkfmkiaaDoorG29
import Derived.Test.YtpjdkgcdkfmkiaaDoorSealP
namespace Go.Proofs.YtpjdkgcdkfmkiaaDoor
open Go Go.RowKit
set_option linter.unusedVariables false

theorem fold_unfold (u : Nat) : foldN (unfoldN u) = u := by
  unfold foldN unfoldN
  split <;> split <;> omega
theorem byte_of (c : UInt8) : UInt8.ofNat c.toNat = c := by simp
/-- What is read has these bytes, and no others. -/
theorem rd_back (f i u : Nat) (l : List UInt8) {v k : Nat} (hf : f + i = 9) (h : rd (f + 1) i u l = (v, k, 0)) :
    ∃ x rest, v = u + x * 2 ^ (7 * i) ∧ (0 < i → 0 < x) ∧ i + (vb f x).length = k ∧ l = vb f x ++ rest := by
  induction f generalizing i u l with
  | zero =>
    obtain rfl : i = 9 := by omega
    cases l with
    | nil => simp [rd] at h
    | cons c r =>
      unfold rd at h
      by_cases hc : c.toNat < 128
      · rw [if_pos hc] at h
        by_cases hb : (9 = 9 ∧ 1 < c.toNat) ∨ (0 < 9 ∧ c.toNat = 0)
        · rw [if_pos hb] at h; simp at h
        · rw [if_neg hb] at h
          simp only [Prod.mk.injEq, and_true] at h
          exact ⟨c.toNat, r, h.1.symm, fun _ => by omega, by rw [← h.2]; rfl, by rw [vb_last 0 hc, byte_of]; rfl⟩
      · rw [if_neg hc, if_pos rfl] at h; simp at h
  | succ f ih =>
    cases l with
    | nil => simp [rd] at h
    | cons c r =>
      unfold rd at h
      by_cases hc : c.toNat < 128
      · rw [if_pos hc] at h
        by_cases hb : (i = 9 ∧ 1 < c.toNat) ∨ (0 < i ∧ c.toNat = 0)
        · rw [if_pos hb] at h; simp at h
        · rw [if_neg hb] at h
          simp only [Prod.mk.injEq, and_true] at h
          exact ⟨c.toNat, r, h.1.symm, fun _ => by omega, by rw [← h.2, vb_last (f + 1) hc]; rfl, by rw [vb_last (f + 1) hc, byte_of]; rfl⟩
      · rw [if_neg hc, if_neg (by omega)] at h
        obtain ⟨x, rest, e1, e2, e3, e4⟩ := ih (i + 1) _ r (by omega) h
        have hcb := byte_lt c
        have hx := e2 (by omega)
        have hm : (c.toNat % 128 + 128 * x) % 128 = c.toNat % 128 := by omega
        have hd : (c.toNat % 128 + 128 * x) / 128 = x := by omega
        have hv : vb (f + 1) (c.toNat % 128 + 128 * x) = c :: vb f x := by
          rw [vb_more (by omega), hm, hd, show c.toNat % 128 + 128 = c.toNat by omega, byte_of]
        refine ⟨c.toNat % 128 + 128 * x, rest, ?_, fun _ => by omega, by rw [hv, ← e3, List.length_cons]; omega, by rw [hv, e4]; rfl⟩
        rw [e1, show 7 * (i + 1) = 7 + 7 * i by omega, Nat.pow_add, Nat.add_mul, ← Nat.add_assoc]
        congr 1
        rw [show (2 : Nat) ^ 7 = 128 from rfl, Nat.mul_comm 128 x, Nat.mul_assoc]
theorem wf_unfold {u : Nat} (h : u < 18446744073709551616) : (Lit.int .i64 (unfoldN u)).wf = true := wf_of (unfold_wf h).1 (unfold_wf h).2
/-- Numbers' bytes. -/
def WfL (l : List Int) : Prop := ∀ x ∈ l, (Lit.int .i64 x).wf = true
theorem getN_back {s : ByteArray} {p : Nat} {n k : Int} (h : getN s (p : Nat) = (n, k, 0)) : (Lit.int .i64 n).wf = true ∧ k = ((p + (putN n).length : Nat) : Int) ∧ ∃ rest, s.data.toList.drop p = putN n ++ rest := by
  unfold getN at h
  by_cases h1 : 8000 < (s.size : Int)
  · rw [if_pos h1] at h; simp at h
  rw [if_neg h1, if_neg (by omega), Int.toNat_natCast] at h
  by_cases h2 : (rdOf s p).2.2 = 0
  · rw [if_pos h2] at h
    simp only [Prod.mk.injEq, and_true] at h
    have hf := rdOf_fits s p
    obtain ⟨x, rest, e1, _, e3, e4⟩ := rd_back 9 0 0 (s.data.toList.drop p) (v := (rdOf s p).1) (k := (rdOf s p).2.1) (by omega) (by show rdOf s p = _; rw [← h2])
    have hx : (rdOf s p).1 = x := by rw [e1]; simp
    have hp : putN n = vb 9 x := by unfold putN; rw [← h.1, fold_unfold, hx]
    refine ⟨by rw [← h.1]; exact wf_unfold hf.1, ?_, rest, by rw [hp]; exact e4⟩
    rw [← h.2, hp, ← e3]
    omega
  · rw [if_neg h2] at h
    simp only [Prod.mk.injEq] at h
    exact absurd h.2.2 h2
theorem fold_inj {a b : Int} (ha : (Lit.int .i64 a).wf = true) (hb : (Lit.int .i64 b).wf = true) (h : foldN a = foldN b) : a = b := by
  rw [← unfold_fold ha, ← unfold_fold hb, h]
theorem putN_pos (n : Int) : 1 ≤ (putN n).length := (vb_length 9 (foldN n)).1
/-- Bytes tell their first number. -/
theorem putN_first {a b : Int} {A B : List UInt8} (ha : (Lit.int .i64 a).wf = true) (hb : (Lit.int .i64 b).wf = true) (h : putN a ++ A = putN b ++ B) : a = b ∧ A = B := by
  have h1 := rd_put ha A
  rw [h, rd_put hb B] at h1
  simp only [Prod.mk.injEq, and_true] at h1
  have := fold_inj hb ha h1.1
  subst this
  exact ⟨rfl, List.append_cancel_left h⟩
theorem numsB_cons (x : Int) (l : List Int) : numsB (x :: l) = putN x ++ numsB l := by simp [numsB]
theorem numsB_split {l m : List Int} {D : List UInt8} (hl : WfL l) (hm : WfL m) (h : numsB m = numsB l ++ D) : ∃ r, m = l ++ r ∧ numsB r = D := by
  induction l generalizing m with
  | nil => exact ⟨m, rfl, by simpa [numsB] using h⟩
  | cons a l ih =>
    cases m with
    | nil =>
      have := congrArg List.length h
      have hp := putN_pos a
      rw [numsB_cons] at this
      simp [numsB] at this
      omega
    | cons b m =>
      rw [numsB_cons, numsB_cons, List.append_assoc] at h
      obtain ⟨rfl, h2⟩ := putN_first (hm b (List.mem_cons_self ..)) (hl a (List.mem_cons_self ..)) h
      obtain ⟨r, rfl, hr⟩ := ih (fun x hx => hl x (List.mem_cons_of_mem _ hx)) (fun x hx => hm x (List.mem_cons_of_mem _ hx)) h2
      exact ⟨r, rfl, hr⟩
theorem numsB_inj {l m : List Int} (hl : WfL l) (hm : WfL m) (h : numsB m = numsB l) : m = l := by
  obtain ⟨r, rfl, hr⟩ := numsB_split (D := []) hl hm (by rw [h, List.append_nil])
  cases r with
  | nil => simp
  | cons a r =>
    have := congrArg List.length hr
    have hp := putN_pos a
    rw [numsB_cons, List.length_append, List.length_nil] at this
    omega
/-- How far it is read. -/
def ReadTo (s : ByteArray) (l : List Int) (p : Nat) : Prop := WfL l ∧ p = (numsB l).length ∧ s.data.toList = numsB l ++ s.data.toList.drop p
theorem ReadTo.zero (s : ByteArray) : ReadTo s [] 0 := ⟨fun x hx => absurd hx (by simp), rfl, by simp [numsB]⟩
theorem ReadTo.le {s : ByteArray} {l : List Int} {p : Nat} (h : ReadTo s l p) : p ≤ s.size := by
  have := congrArg List.length h.2.2
  rw [List.length_append, ← h.2.1] at this
  simp at this
  have : s.data.toList.length = s.size := by simp
  simp at this
  omega
theorem ReadTo.more {s : ByteArray} {l : List Int} {p : Nat} {n k : Int} (h : ReadTo s l p) (e : getN s (p : Nat) = (n, k, 0)) : ∃ q : Nat, k = (q : Int) ∧ p < q ∧ ReadTo s (l ++ [n]) q ∧ l.length < (l ++ [n]).length := by
  obtain ⟨hw, hk, rest, hd⟩ := getN_back e
  have hp := putN_pos n
  refine ⟨p + (putN n).length, hk, by omega, ⟨fun x hx => ?_, ?_, ?_⟩, by simp⟩
  · rcases List.mem_append.1 hx with hx | hx
    · exact h.1 x hx
    · rw [List.mem_singleton.1 hx]; exact hw
  · rw [numsB_append, List.length_append, ← h.2.1]
    simp [numsB]
  · have hdd : s.data.toList.drop (p + (putN n).length) = rest := by
      rw [← List.drop_drop, hd, List.drop_left]
    rw [hdd, numsB_append, List.append_assoc]
    conv => lhs; rw [h.2.2, hd]
    simp [numsB]
theorem ReadTo.bad {s : ByteArray} {l : List Int} {p : Nat} {c : Int} (h : ReadTo s l p) (hs : s.size ≤ 8000) (hlt : p < s.size) (e : getN s (p : Nat) = (0, 0, c)) (hc : c ≠ 0) : ∀ m, WfL m → numsB m ≠ s.data.toList := by
  intro m hm he
  obtain ⟨r, rfl, hr⟩ := numsB_split h.1 hm (he.trans h.2.2)
  cases r with
  | nil =>
    have := congrArg List.length hr
    rw [List.length_drop] at this
    simp [numsB] at this
    omega
  | cons a r =>
    rw [numsB_cons] at hr
    have := getN_put (hm a (by simp)) s p (numsB r) hs hr.symm
    rw [e] at this
    simp only [Prod.mk.injEq] at this
    exact hc this.2.2
theorem ReadTo.all {s : ByteArray} {l : List Int} {p : Nat} (h : ReadTo s l p) (hge : ¬ p < s.size) : numsB l = s.data.toList := by
  have := h.2.2
  rw [List.drop_eq_nil_of_le (by simp; omega), List.append_nil] at this
  exact this.symm
theorem numsB_ge (l : List Int) : l.length ≤ (numsB l).length := by
  induction l with
  | nil => simp
  | cons a l ih =>
    rw [numsB_cons, List.length_append, List.length_cons]
    have := putN_pos a
    omega
/-- A mail by its numbers. -/
theorem mail_inj {m m' : MailV} (h : m.nums = m'.nums) : m = m' := by
  obtain ⟨k, f, t, n, a, r, l⟩ := m
  obtain ⟨k', f', t', n', a', r', l'⟩ := m'
  simp only [MailV.nums, MailV.head, List.cons_append, List.nil_append, List.cons.injEq] at h
  obtain ⟨rfl, rfl, rfl, rfl, rfl, rfl, q, hl⟩ := h
  clear q
  congr 1
  induction l generalizing l' with
  | nil =>
    cases l' with
    | nil => rfl
    | cons a l' => simp [factsN, factN] at hl
  | cons a l ih =>
    cases l' with
    | nil => simp [factsN, factN] at hl
    | cons b l' =>
      obtain ⟨a1, a2, a3⟩ := a
      obtain ⟨b1, b2, b3⟩ := b
      simp only [factsN, List.flatMap_cons, factN, List.cons_append, List.nil_append, List.cons.injEq] at hl
      obtain ⟨rfl, rfl, rfl, hl⟩ := hl
      rw [ih l' hl]
theorem facts_of (n : Nat) : ∀ (l : List Int), l.length = 3 * n → ∃ fs, factsN fs = l ∧ fs.length = n := by
  induction n with
  | zero => intro l h; exact ⟨[], (List.eq_nil_of_length_eq_zero (l := l) (by omega)).symm, rfl⟩
  | succ n ih =>
    intro l h
    match l, h with
    | a :: b :: c :: r, h =>
      obtain ⟨fs, rfl, hl⟩ := ih r (by simp at h; omega)
      exact ⟨⟨a, b, c⟩ :: fs, rfl, by simp [hl]⟩
    | [], h => simp at h
    | [a], h => simp at h; omega
    | [a, b], h => simp at h; omega
/-- Numbers that are a mail's. -/
def mailN (l : List Int) (m : MailV) : Prop := m.nums = l
theorem mailN_head {l : List Int} (h7 : 7 ≤ l.length) : ∃ k f t n a r c rest, l = k :: f :: t :: n :: a :: r :: c :: rest := by
  match l, h7 with
  | k :: f :: t :: n :: a :: r :: c :: rest, _ => exact ⟨k, f, t, n, a, r, c, rest, rfl⟩
theorem nums_length (m : MailV) : m.nums.length = 7 + 3 * m.facts.length := by
  simp only [MailV.nums, MailV.head, List.length_append, factsN_length, List.length_cons, List.length_nil]
end Go.Proofs.YtpjdkgcdkfmkiaaDoor
