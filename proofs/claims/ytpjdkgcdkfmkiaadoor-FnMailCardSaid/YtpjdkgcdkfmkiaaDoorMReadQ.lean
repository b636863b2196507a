/- What the specification's reader comes to, plain. No program but the reader's own step. -/
import Derived.Test.YtpjdkgcdkfmkiaaDoorG44
import Derived.Test.YtpjdkgcdkfmkiaaDoorReadMail
namespace Go.Proofs.YtpjdkgcdkfmkiaaDoor
open Go Go.RowKit
set_option linter.unusedVariables false

/-- The facts that are read behind the first seven numbers. -/
def FRun (t : ByteArray) (n a7 : Int) (b7 : Bool) : Nat → List FactV → Int → Bool → Prop
  | 0, l, a, b => l = [] ∧ a = a7 ∧ b = b7
  | j + 1, l, a, b => ∃ l' a' y1 y2 y3 a1 b1 a2 b2, FRun t n a7 b7 j l' a' false ∧ (j : Int) < n ∧ stepN t a' false = (y1, a1, b1) ∧ stepN t a1 b1 = (y2, a2, b2) ∧ stepN t a2 b2 = (y3, a, b) ∧ l = l' ++ [⟨y1, y2, y3⟩]
theorem step_ok {t : ByteArray} {A B : List Int} {x : Int} (ht : t.size ≤ 8000) (hx : (Lit.int .i64 x).wf = true) (h : t.data.toList = numsB (A ++ x :: B)) : stepN t ((numsB A).length : Int) false = (x, ((numsB (A ++ [x])).length : Int), false) := by
  have hg := getN_put hx t (numsB A).length (numsB B) ht (by rw [h, numsB_append, numsB_cons, List.drop_left])
  unfold stepN
  rw [hg, if_neg (by simp)]
  simp [numsB]
structure Steps7 (t : ByteArray) (m : MailV) (n a7 : Int) (b7 : Bool) : Prop where
  out : ∃ a1 b1 a2 b2 a3 b3 a4 b4 a5 b5 a6 b6, stepN t 0 false = (m.kind, a1, b1) ∧ stepN t a1 b1 = (m.frm, a2, b2) ∧ stepN t a2 b2 = (m.dst, a3, b3) ∧ stepN t a3 b3 = (m.num, a4, b4) ∧ stepN t a4 b4 = (m.about, a5, b5) ∧ stepN t a5 b5 = (m.fr, a6, b6) ∧ stepN t a6 b6 = (n, a7, b7)
theorem steps7_ok {t : ByteArray} {m m' : MailV} {n a7 : Int} {b7 : Bool} (ht : t.size ≤ 8000) (hm : m'.ok) (h : t.data.toList = numsB m'.nums) (hs : Steps7 t m n a7 b7) :
    m.kind = m'.kind ∧ m.frm = m'.frm ∧ m.dst = m'.dst ∧ m.num = m'.num ∧ m.about = m'.about ∧ m.fr = m'.fr ∧ n = (m'.facts.length : Int) ∧ a7 = ((numsB m'.head).length : Int) ∧ b7 = false := by
  obtain ⟨a1, b1, a2, b2, a3, b3, a4, b4, a5, b5, a6, b6, h1, h2, h3, h4, h5, h6, h7⟩ := hs.out
  have hw := mail_wf hm
  obtain ⟨k, f, tt, nn, a, r, l⟩ := m'
  have hn : MailV.nums ⟨k, f, tt, nn, a, r, l⟩ = k :: f :: tt :: nn :: a :: r :: (l.length : Int) :: factsN l := rfl
  rw [hn] at h hw
  have e1 := step_ok (A := []) ht (hw k (by simp)) (by rw [h]; rfl)
  rw [show ((numsB []).length : Int) = 0 from rfl, h1] at e1
  simp only [Prod.mk.injEq] at e1
  obtain ⟨q1, rfl, rfl⟩ := e1
  have e2 := step_ok (A := [k]) ht (hw f (by simp)) (by rw [h]; rfl)
  rw [List.nil_append] at h2
  rw [h2] at e2
  simp only [Prod.mk.injEq] at e2
  obtain ⟨q2, rfl, rfl⟩ := e2
  have e3 := step_ok (A := [k, f]) ht (hw tt (by simp)) (by rw [h]; rfl)
  rw [show [k] ++ [f] = [k, f] from rfl] at h3
  rw [h3] at e3
  simp only [Prod.mk.injEq] at e3
  obtain ⟨q3, rfl, rfl⟩ := e3
  have e4 := step_ok (A := [k, f, tt]) ht (hw nn (by simp)) (by rw [h]; rfl)
  rw [show [k, f] ++ [tt] = [k, f, tt] from rfl] at h4
  rw [h4] at e4
  simp only [Prod.mk.injEq] at e4
  obtain ⟨q4, rfl, rfl⟩ := e4
  have e5 := step_ok (A := [k, f, tt, nn]) ht (hw a (by simp)) (by rw [h]; rfl)
  rw [show [k, f, tt] ++ [nn] = [k, f, tt, nn] from rfl] at h5
  rw [h5] at e5
  simp only [Prod.mk.injEq] at e5
  obtain ⟨q5, rfl, rfl⟩ := e5
  have e6 := step_ok (A := [k, f, tt, nn, a]) ht (hw r (by simp)) (by rw [h]; rfl)
  rw [show [k, f, tt, nn] ++ [a] = [k, f, tt, nn, a] from rfl] at h6
  rw [h6] at e6
  simp only [Prod.mk.injEq] at e6
  obtain ⟨q6, rfl, rfl⟩ := e6
  have e7 := step_ok (A := [k, f, tt, nn, a, r]) ht (hw (l.length : Int) (by simp)) (by rw [h]; rfl)
  rw [show [k, f, tt, nn, a] ++ [r] = [k, f, tt, nn, a, r] from rfl] at h7
  rw [h7] at e7
  simp only [Prod.mk.injEq] at e7
  obtain ⟨q7, rfl, rfl⟩ := e7
  exact ⟨q1, q2, q3, q4, q5, q6, q7, rfl, rfl⟩
theorem frun_ok {t : ByteArray} {m' : MailV} {a7 : Int} {b7 : Bool} (ht : t.size ≤ 8000) (hm : m'.ok) (h : t.data.toList = numsB m'.nums) (ha : a7 = ((numsB m'.head).length : Int)) (hb : b7 = false) :
    ∀ (j : Nat) (l : List FactV) (a : Int) (b : Bool), FRun t (m'.facts.length : Int) a7 b7 j l a b → j ≤ m'.facts.length ∧ l = m'.facts.take j ∧ a = ((numsB (m'.head ++ factsN (m'.facts.take j))).length : Int) ∧ b = false := by
  intro j
  induction j with
  | zero =>
    rintro l a b ⟨rfl, rfl, rfl⟩
    exact ⟨Nat.zero_le _, by simp, by rw [ha]; simp [factsN], hb⟩
  | succ j ih =>
    rintro l a b ⟨l', a', y1, y2, y3, a1, b1, a2, b2, hF, hj, h1, h2, h3, rfl⟩
    obtain ⟨_, rfl, rfl, _⟩ := ih _ _ _ hF
    have hjl : j < m'.facts.length := by omega
    obtain ⟨z, hz⟩ : ∃ z, m'.facts[j] = z := ⟨_, rfl⟩
    have hs : m'.facts = m'.facts.take j ++ z :: m'.facts.drop (j + 1) := by
      conv => lhs; rw [← List.take_append_drop j m'.facts, List.drop_eq_getElem_cons hjl, hz]
    have hN : m'.nums = m'.head ++ factsN (m'.facts.take j) ++ z.node :: z.inc :: z.st :: factsN (m'.facts.drop (j + 1)) := by
      unfold MailV.nums
      conv => lhs; rw [hs]
      have e : factsN (m'.facts.take j ++ z :: m'.facts.drop (j + 1)) = factsN (m'.facts.take j) ++ (z.node :: z.inc :: z.st :: factsN (m'.facts.drop (j + 1))) := by
        simp [factsN, factN]
      rw [e, ← List.append_assoc]
    have hw := mail_wf hm
    rw [hN] at h hw
    obtain ⟨P, hP⟩ : ∃ P, m'.head ++ factsN (m'.facts.take j) = P := ⟨_, rfl⟩
    rw [hP] at h hw h1
    have e1 := step_ok (A := P) ht (hw z.node (by simp)) h
    rw [h1] at e1
    simp only [Prod.mk.injEq] at e1
    obtain ⟨rfl, rfl, rfl⟩ := e1
    have e2 := step_ok (A := P ++ [z.node]) (B := z.st :: factsN (m'.facts.drop (j + 1))) ht (hw z.inc (by simp)) (by rw [h]; simp)
    rw [h2] at e2
    simp only [Prod.mk.injEq] at e2
    obtain ⟨rfl, rfl, rfl⟩ := e2
    have e3 := step_ok (A := P ++ [z.node] ++ [z.inc]) (B := factsN (m'.facts.drop (j + 1))) ht (hw z.st (by simp)) (by rw [h]; simp)
    rw [h3] at e3
    simp only [Prod.mk.injEq] at e3
    obtain ⟨rfl, rfl, rfl⟩ := e3
    refine ⟨by omega, ?_, ?_, rfl⟩
    · rw [List.take_succ_eq_append_getElem hjl, hz]
    · rw [factsN_take _ _ hjl, hz, ← List.append_assoc, hP]
      simp [factN]
theorem seal_inj {a b : ByteArray} (ha : a.size ≤ 7996) (hb : b.size ≤ 7996) (h : sealB a = sealB b) : a.data.toList = b.data.toList := by
  have hl := congrArg List.length h
  rw [sealB_len ha, sealB_len hb] at hl
  rw [sealB_list ha, sealB_list hb] at h
  exact (List.append_inj h (by simp; omega)).1
theorem bytes_small {m : MailV} (h : m.ok) : (⟨(numsB m.nums).toArray⟩ : ByteArray).size ≤ 7996 := by
  rw [size_data]
  have := numsB_len m.nums
  have := nums_len h
  omega
/-- What the specification reads is what is read. -/
theorem spec_reads {s t : ByteArray} {m : MailV} {n a7 a : Int} {b7 b q : Bool} {j : Nat} (hU : getU s = (t, 0, 0)) (hs : Steps7 t m n a7 b7) (hF : FRun t n a7 b7 j m.facts a b) (hx : ¬ ((j : Int) < n ∧ (j : Int) < 9 ∧ b = false)) (hq : q = true ↔ m.ok) :
    ((b = true ∨ m.out q ≠ s.data.toList) → ReadIs s 3 mailZ) ∧ (m.out q = s.data.toList → ReadIs s 0 m) := by
  obtain ⟨ht, hseal⟩ := getU_le hU
  have hlen := sealB_len ht
  constructor
  · intro hbad
    refine .inr ⟨t, hU, .inr ⟨fun m' hm' he => ?_, rfl, rfl⟩⟩
    obtain ⟨k1, k2, k3, k4, k5, k6, rfl, k8, k9⟩ := steps7_ok (by omega) hm' he.symm hs
    obtain ⟨hj, hl, _, rfl⟩ := frun_ok (by omega) hm' he.symm k8 k9 j _ _ _ hF
    have h6 := rightV_len hm'.2.2.1
    have hjj : j = m'.facts.length := by
      by_cases h : j < m'.facts.length
      · exact absurd ⟨by omega, by omega, rfl⟩ hx
      · omega
    have hmm : m = m' := by
      obtain ⟨c0, c1, c2, c3, c4, c5, c6⟩ := m
      obtain ⟨d0, d1, d2, d3, d4, d5, d6⟩ := m'
      dsimp only at k1 k2 k3 k4 k5 k6 hl hjj
      rw [hjj, List.take_length] at hl
      rw [k1, k2, k3, k4, k5, k6, hl]
    subst hmm
    rcases hbad with h | h
    · cases h
    · apply h
      rw [hq.2 hm', ← hseal]
      show sealB ⟨(numsB m.nums).toArray⟩ = _
      congr 1
      apply WideShapes.bytes_inj
      simpa using he
  · intro h
    cases q with
    | false =>
      exfalso
      have := congrArg List.length (h.trans hseal.symm)
      rw [hlen] at this
      simp [MailV.out] at this
    | true =>
      have hm := hq.1 rfl
      refine .inr ⟨t, hU, .inl ⟨hm, ?_, rfl⟩⟩
      have := seal_inj (bytes_small hm) ht (h.trans hseal.symm)
      simpa using this
theorem frun_len {t : ByteArray} {n a7 : Int} {b7 : Bool} : ∀ (j : Nat) (l : List FactV) (a : Int) (b : Bool), FRun t n a7 b7 j l a b → l.length = j := by
  intro j
  induction j with
  | zero => rintro l a b ⟨rfl, _⟩; rfl
  | succ j ih =>
    rintro l a b ⟨l', a', y1, y2, y3, a1, b1, a2, b2, hF, _, _, _, _, rfl⟩
    rw [List.length_append, ih _ _ _ hF]
    rfl
end Go.Proofs.YtpjdkgcdkfmkiaaDoor
