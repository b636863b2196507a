/- The contract of the specification's MailRight. -/
import Derived.Test.YtpjdkgcdkfmkiaaDoorG21
import Derived.Test.YtpjdkgcdkfmkiaaDoorVRightS
import Derived.Test.YtpjdkgcdkfmkiaaDoorG9
namespace Go.Proofs.YtpjdkgcdkfmkiaaDoor
open Go Go.RowKit
set_option linter.unusedVariables false
set_option linter.unusedSimpArgs false

set_option maxHeartbeats 1000000 in
set_option maxRecDepth 100000 in
theorem specMRight_any (k f t n a r : Int) (p : Option Addr) (cap : Nat) (l : List FactV) (w : World) (hl : l.length ≤ 1048576) (hrow : CellRow w p (cellsOf FactV.cells l)) :
    Calls Tryd.prog 13 #[.agg #[.int .i64 k, .int .i64 f, .int .i64 t, .int .i64 n, .int .i64 a, .int .i64 r, .slice p l.length cap]] w fun e w' => Tells (MailV.ok ⟨k, f, t, n, a, r, l⟩) e ∧ Below w.heap.size w w' := by
  have b1 := (Below.refl w.heap.size w).alloc (Nat.le_refl _) (.cells #[.int .i64 k, .int .i64 f, .int .i64 t, .int .i64 n, .int .i64 a, .int .i64 r, .slice p l.length cap] 25)
  have p1 := BlkIs.new w 25 #[.int .i64 k, .int .i64 f, .int .i64 t, .int .i64 n, .int .i64 a, .int .i64 r, .slice p l.length cap]
  obtain ⟨W, hW⟩ : ∃ W, w.alloc (.cells #[.int .i64 k, .int .i64 f, .int .i64 t, .int .i64 n, .int .i64 a, .int .i64 r, .slice p l.length cap] 25) = W := ⟨_, rfl⟩
  rw [hW] at b1 p1
  have HW : Hid (_ = W) := hW
  clear hW
  go_enter Tryd.func13, Tryd.ntmps13
  go_wp2_with fail
  rw [HW.out]
  clear HW
  have c1 := p1.cell 1
  have c2 := p1.cell 2
  have c3 := p1.cell 3
  have c6 := p1.cell 6
  simp only [List.getElem?_toArray, List.getElem?_cons_succ, List.getElem?_cons_zero] at c1 c2 c3 c6
  have hrow1 := hrow.keep b1
  refine (is_any k 1 5 _).mono ?_
  rintro e x3 ⟨⟨q, rfl, hq⟩, rfl⟩
  have HQ : Hid (q = true ↔ isIn k 1 5) := hq
  clear hq
  cases q with
  | false =>
    have HN0 : Hid (¬ isIn k 1 5) := fun h => by simpa using HQ.out.2 h
    clear HQ
    have HN : Hid (¬ MailV.ok2 ⟨k, f, t, n, a, r, l⟩) := fun h => by
      exact HN0.out h.1
    clear p1
    go_wp2
    go_ret
    exact ⟨(Tells.no HN.out).iff (MailV.ok_iff _), b1⟩
  | true =>
  have HK : Hid (isIn k 1 5) := HQ.out.1 rfl
  clear HQ
  go_wp2_with fail
  refine (specNode_any f _).mono ?_
  rintro e x3 ⟨⟨q, rfl, hq⟩, rfl⟩
  have HQ : Hid (q = true ↔ nodeR f) := hq
  clear hq
  cases q with
  | false =>
    have HN0 : Hid (¬ nodeR f) := fun h => by simpa using HQ.out.2 h
    clear HQ
    have HN : Hid (¬ MailV.ok2 ⟨k, f, t, n, a, r, l⟩) := fun h => by
      exact HN0.out h.2.1
    clear p1
    go_wp2
    go_ret
    exact ⟨(Tells.no HN.out).iff (MailV.ok_iff _), b1⟩
  | true =>
  have HF : Hid (nodeR f) := HQ.out.1 rfl
  clear HQ
  go_wp2_with fail
  refine (specNode_any t _).mono ?_
  rintro e x3 ⟨⟨q, rfl, hq⟩, rfl⟩
  have HQ : Hid (q = true ↔ nodeR t) := hq
  clear hq
  cases q with
  | false =>
    have HN0 : Hid (¬ nodeR t) := fun h => by simpa using HQ.out.2 h
    clear HQ
    have HN : Hid (¬ MailV.ok2 ⟨k, f, t, n, a, r, l⟩) := fun h => by
      exact HN0.out h.2.2.1
    clear p1
    go_wp2
    go_ret
    exact ⟨(Tells.no HN.out).iff (MailV.ok_iff _), b1⟩
  | true =>
  have HT : Hid (nodeR t) := HQ.out.1 rfl
  clear HQ
  by_cases hft : f = t
  · have hd : (f == t) = true := by simpa using hft
    have HE : Hid (f = t) := hft
    clear hft
    have HN : Hid (¬ MailV.ok2 ⟨k, f, t, n, a, r, l⟩) := fun h => by
      exact h.2.2.2.1 HE.out
    clear p1
    go_wp2
    go_ret
    exact ⟨(Tells.no HN.out).iff (MailV.ok_iff _), b1⟩
  have hd : (f == t) = false := by simpa using hft
  have HE : Hid (f ≠ t) := hft
  clear hft
  go_wp2_with fail
  refine (specTime_any n _).mono ?_
  rintro e x3 ⟨⟨q, rfl, hq⟩, rfl⟩
  have HQ : Hid (q = true ↔ timeR n) := hq
  clear hq
  cases q with
  | false =>
    have HN0 : Hid (¬ timeR n) := fun h => by simpa using HQ.out.2 h
    clear HQ
    have HN : Hid (¬ MailV.ok2 ⟨k, f, t, n, a, r, l⟩) := fun h => by
      exact HN0.out h.2.2.2.2.1
    clear p1
    go_wp2
    go_ret
    exact ⟨(Tells.no HN.out).iff (MailV.ok_iff _), b1⟩
  | true =>
  have HM : Hid (timeR n) := HQ.out.1 rfl
  clear HQ
  go_wp2_with fail
  refine (specVRight_any p cap l _ hl hrow1).mono ?_
  rintro e x2 ⟨⟨q, rfl, hq⟩, bx⟩
  have HQ : Hid (q = true ↔ rightV l) := hq
  have b2 := b1.trans (bx.mono b1.size)
  have p2 := p1.keep bx
  clear hq b1 p1 c1 c2 c3 c6 hrow1 bx
  cases q with
  | false =>
    have HN0 : Hid (¬ rightV l) := fun h => by simpa using HQ.out.2 h
    clear HQ
    have HN : Hid (¬ MailV.ok2 ⟨k, f, t, n, a, r, l⟩) := fun h => by
      exact HN0.out h.2.2.2.2.2.1
    clear p2
    go_wp2
    go_ret
    exact ⟨(Tells.no HN.out).iff (MailV.ok_iff _), b2⟩
  | true =>
  have HV : Hid (rightV l) := HQ.out.1 rfl
  clear HQ hd
  have c0 := p2.cell 0
  have c1 := p2.cell 1
  have c2 := p2.cell 2
  have c3 := p2.cell 3
  have c4 := p2.cell 4
  have c5 := p2.cell 5
  have c6 := p2.cell 6
  simp only [List.getElem?_toArray, List.getElem?_cons_succ, List.getElem?_cons_zero] at c0 c1 c2 c3 c4 c5 c6
  clear p2 c3
  rcases (by have := HK.out; unfold isIn at this; omega : k = 1 ∨ k = 2 ∨ k = 3 ∨ k = 4 ∨ k = 5) with rfl | rfl | rfl | rfl | rfl
  · by_cases ha : a ≠ 0
    · have HE1 : Hid (a ≠ 0) := ha
      have HN : Hid (¬ MailV.ok2 ⟨1, f, t, n, a, r, l⟩) := fun h => by
        exact HE1.out (h.2.2.2.2.2.2.2.2.1 (by simp) (by simp))
      go_wp2
      go_ret
      exact ⟨(Tells.no HN.out).iff (MailV.ok_iff _), b2⟩
    have HA : Hid (a = 0) := (by omega : a = 0)
    replace ha : a = 0 := HA.out
    by_cases hr : r = 0
    · have HR : Hid (r = 0) := hr
      by_cases hlen : l.length ≤ 3
      · have hdl : decide ((l.length : Int) ≤ 3) = true := decide_eq_true (by omega)
        have HL : Hid (l.length ≤ 3) := hlen
        clear hlen
        go_wp2
        go_ret
        exact ⟨(Tells.yes (show MailV.ok2 ⟨1, f, t, n, a, r, l⟩ from ⟨⟨by simp, by simp⟩, HF.out, HT.out, HE.out, HM.out, HV.out, fun h => absurd h (by simp), fun h => absurd h (by simp), fun _ _ => HA.out, fun h => absurd HR.out h, .inr HL.out⟩)).iff (MailV.ok_iff _), b2⟩
      · have hdl : decide ((l.length : Int) ≤ 3) = false := decide_eq_false (by omega)
        have HL : Hid (¬ l.length ≤ 3) := hlen
        clear hlen
        have HN : Hid (¬ MailV.ok2 ⟨1, f, t, n, a, r, l⟩) := fun h => by
          exact h.2.2.2.2.2.2.2.2.2.2.elim (fun h => by simp at h) HL.out
        go_wp2
        go_ret
        exact ⟨(Tells.no HN.out).iff (MailV.ok_iff _), b2⟩
    · have HR : Hid (r ≠ 0) := hr
      go_wp2_with fail
      refine (specNode_any r _).mono ?_
      rintro e x3 ⟨⟨q, rfl, hq⟩, rfl⟩
      have HQ : Hid (q = true ↔ nodeR r) := hq
      clear hq
      cases q with
      | false =>
        have HN0 : Hid (¬ nodeR r) := fun h => by simpa using HQ.out.2 h
        clear HQ
        have HN : Hid (¬ MailV.ok2 ⟨1, f, t, n, a, r, l⟩) := fun h => by
          exact HN0.out (h.2.2.2.2.2.2.2.2.2.1 HR.out).2
        go_wp2
        go_ret
        exact ⟨(Tells.no HN.out).iff (MailV.ok_iff _), b2⟩
      | true =>
      have HG : Hid (nodeR r) := HQ.out.1 rfl
      clear HQ
      by_cases hlen : l.length ≤ 3
      · have hdl : decide ((l.length : Int) ≤ 3) = true := decide_eq_true (by omega)
        have HL : Hid (l.length ≤ 3) := hlen
        clear hlen
        go_wp2
        go_ret
        exact ⟨(Tells.yes (show MailV.ok2 ⟨1, f, t, n, a, r, l⟩ from ⟨⟨by simp, by simp⟩, HF.out, HT.out, HE.out, HM.out, HV.out, fun h => absurd h (by simp), fun h => absurd h (by simp), fun _ _ => HA.out, fun _ => ⟨by simp, HG.out⟩, .inr HL.out⟩)).iff (MailV.ok_iff _), b2⟩
      · have hdl : decide ((l.length : Int) ≤ 3) = false := decide_eq_false (by omega)
        have HL : Hid (¬ l.length ≤ 3) := hlen
        clear hlen
        have HN : Hid (¬ MailV.ok2 ⟨1, f, t, n, a, r, l⟩) := fun h => by
          exact h.2.2.2.2.2.2.2.2.2.2.elim (fun h => by simp at h) HL.out
        go_wp2
        go_ret
        exact ⟨(Tells.no HN.out).iff (MailV.ok_iff _), b2⟩
  · go_wp2_with fail
    refine (specNode_any a _).mono ?_
    rintro e x3 ⟨⟨q, rfl, hq⟩, rfl⟩
    have HQ : Hid (q = true ↔ nodeR a) := hq
    clear hq
    cases q with
    | false =>
      have HN0 : Hid (¬ nodeR a) := fun h => by simpa using HQ.out.2 h
      clear HQ
      have HN : Hid (¬ MailV.ok2 ⟨2, f, t, n, a, r, l⟩) := fun h => by
        exact HN0.out (h.2.2.2.2.2.2.1 rfl)
      go_wp2
      go_ret
      exact ⟨(Tells.no HN.out).iff (MailV.ok_iff _), b2⟩
    | true =>
    have HA : Hid (nodeR a) := HQ.out.1 rfl
    clear HQ
    by_cases hr : r = 0
    · have HR : Hid (r = 0) := hr
      by_cases hlen : l.length ≤ 3
      · have hdl : decide ((l.length : Int) ≤ 3) = true := decide_eq_true (by omega)
        have HL : Hid (l.length ≤ 3) := hlen
        clear hlen
        go_wp2
        go_ret
        exact ⟨(Tells.yes (show MailV.ok2 ⟨2, f, t, n, a, r, l⟩ from ⟨⟨by simp, by simp⟩, HF.out, HT.out, HE.out, HM.out, HV.out, fun _ => HA.out, fun h => absurd h (by simp), fun h => absurd rfl h, fun h => absurd HR.out h, .inr HL.out⟩)).iff (MailV.ok_iff _), b2⟩
      · have hdl : decide ((l.length : Int) ≤ 3) = false := decide_eq_false (by omega)
        have HL : Hid (¬ l.length ≤ 3) := hlen
        clear hlen
        have HN : Hid (¬ MailV.ok2 ⟨2, f, t, n, a, r, l⟩) := fun h => by
          exact h.2.2.2.2.2.2.2.2.2.2.elim (fun h => by simp at h) HL.out
        go_wp2
        go_ret
        exact ⟨(Tells.no HN.out).iff (MailV.ok_iff _), b2⟩
    · have HR : Hid (r ≠ 0) := hr
      go_wp2_with fail
      refine (specNode_any r _).mono ?_
      rintro e x3 ⟨⟨q, rfl, hq⟩, rfl⟩
      have HQ : Hid (q = true ↔ nodeR r) := hq
      clear hq
      cases q with
      | false =>
        have HN0 : Hid (¬ nodeR r) := fun h => by simpa using HQ.out.2 h
        clear HQ
        have HN : Hid (¬ MailV.ok2 ⟨2, f, t, n, a, r, l⟩) := fun h => by
          exact HN0.out (h.2.2.2.2.2.2.2.2.2.1 HR.out).2
        go_wp2
        go_ret
        exact ⟨(Tells.no HN.out).iff (MailV.ok_iff _), b2⟩
      | true =>
      have HG : Hid (nodeR r) := HQ.out.1 rfl
      clear HQ
      by_cases hlen : l.length ≤ 3
      · have hdl : decide ((l.length : Int) ≤ 3) = true := decide_eq_true (by omega)
        have HL : Hid (l.length ≤ 3) := hlen
        clear hlen
        go_wp2
        go_ret
        exact ⟨(Tells.yes (show MailV.ok2 ⟨2, f, t, n, a, r, l⟩ from ⟨⟨by simp, by simp⟩, HF.out, HT.out, HE.out, HM.out, HV.out, fun _ => HA.out, fun h => absurd h (by simp), fun h => absurd rfl h, fun _ => ⟨by simp, HG.out⟩, .inr HL.out⟩)).iff (MailV.ok_iff _), b2⟩
      · have hdl : decide ((l.length : Int) ≤ 3) = false := decide_eq_false (by omega)
        have HL : Hid (¬ l.length ≤ 3) := hlen
        clear hlen
        have HN : Hid (¬ MailV.ok2 ⟨2, f, t, n, a, r, l⟩) := fun h => by
          exact h.2.2.2.2.2.2.2.2.2.2.elim (fun h => by simp at h) HL.out
        go_wp2
        go_ret
        exact ⟨(Tells.no HN.out).iff (MailV.ok_iff _), b2⟩
  · go_wp2_with fail
    refine (specNode_any a _).mono ?_
    rintro e x3 ⟨⟨q, rfl, hq⟩, rfl⟩
    have HQ : Hid (q = true ↔ nodeR a) := hq
    clear hq
    cases q with
    | false =>
      have HN0 : Hid (¬ nodeR a) := fun h => by simpa using HQ.out.2 h
      clear HQ
      have HN : Hid (¬ MailV.ok2 ⟨3, f, t, n, a, r, l⟩) := fun h => by
        exact HN0.out (h.2.2.2.2.2.2.2.1 rfl).1
      go_wp2
      go_ret
      exact ⟨(Tells.no HN.out).iff (MailV.ok_iff _), b2⟩
    | true =>
    have HA : Hid (nodeR a) := HQ.out.1 rfl
    clear HQ
    by_cases hHA1 : a = f
    · have hdHA1 : (a == f) = true := by simpa using hHA1
      have HE1 : Hid (a = f) := hHA1
      clear hHA1
      have HN : Hid (¬ MailV.ok2 ⟨3, f, t, n, a, r, l⟩) := fun h => by
        exact (h.2.2.2.2.2.2.2.1 rfl).2.1 HE1.out
      go_wp2
      go_ret
      exact ⟨(Tells.no HN.out).iff (MailV.ok_iff _), b2⟩
    have hdHA1 : (a == f) = false := by simpa using hHA1
    have HA1 : Hid (a ≠ f) := hHA1
    clear hHA1
    by_cases hHA2 : a = t
    · have hdHA2 : (a == t) = true := by simpa using hHA2
      have HE1 : Hid (a = t) := hHA2
      clear hHA2
      have HN : Hid (¬ MailV.ok2 ⟨3, f, t, n, a, r, l⟩) := fun h => by
        exact (h.2.2.2.2.2.2.2.1 rfl).2.2 HE1.out
      go_wp2
      go_ret
      exact ⟨(Tells.no HN.out).iff (MailV.ok_iff _), b2⟩
    have hdHA2 : (a == t) = false := by simpa using hHA2
    have HA2 : Hid (a ≠ t) := hHA2
    clear hHA2
    by_cases hr : r = 0
    · have HR : Hid (r = 0) := hr
      by_cases hlen : l.length ≤ 3
      · have hdl : decide ((l.length : Int) ≤ 3) = true := decide_eq_true (by omega)
        have HL : Hid (l.length ≤ 3) := hlen
        clear hlen
        go_wp2
        go_ret
        exact ⟨(Tells.yes (show MailV.ok2 ⟨3, f, t, n, a, r, l⟩ from ⟨⟨by simp, by simp⟩, HF.out, HT.out, HE.out, HM.out, HV.out, fun h => absurd h (by simp), fun _ => ⟨HA.out, HA1.out, HA2.out⟩, fun _ h => absurd rfl h, fun h => absurd HR.out h, .inr HL.out⟩)).iff (MailV.ok_iff _), b2⟩
      · have hdl : decide ((l.length : Int) ≤ 3) = false := decide_eq_false (by omega)
        have HL : Hid (¬ l.length ≤ 3) := hlen
        clear hlen
        have HN : Hid (¬ MailV.ok2 ⟨3, f, t, n, a, r, l⟩) := fun h => by
          exact h.2.2.2.2.2.2.2.2.2.2.elim (fun h => by simp at h) HL.out
        go_wp2
        go_ret
        exact ⟨(Tells.no HN.out).iff (MailV.ok_iff _), b2⟩
    · have HR : Hid (r ≠ 0) := hr
      have HN : Hid (¬ MailV.ok2 ⟨3, f, t, n, a, r, l⟩) := fun h => by
        exact absurd (h.2.2.2.2.2.2.2.2.2.1 HR.out).1 (by simp)
      go_wp2
      go_ret
      exact ⟨(Tells.no HN.out).iff (MailV.ok_iff _), b2⟩
  · by_cases ha : a ≠ 0
    · have HE1 : Hid (a ≠ 0) := ha
      have HN : Hid (¬ MailV.ok2 ⟨4, f, t, n, a, r, l⟩) := fun h => by
        exact HE1.out (h.2.2.2.2.2.2.2.2.1 (by simp) (by simp))
      go_wp2
      go_ret
      exact ⟨(Tells.no HN.out).iff (MailV.ok_iff _), b2⟩
    have HA : Hid (a = 0) := (by omega : a = 0)
    replace ha : a = 0 := HA.out
    by_cases hr : r = 0
    · have HR : Hid (r = 0) := hr
      go_wp2
      go_ret
      exact ⟨(Tells.yes (show MailV.ok2 ⟨4, f, t, n, a, r, l⟩ from ⟨⟨by simp, by simp⟩, HF.out, HT.out, HE.out, HM.out, HV.out, fun h => absurd h (by simp), fun h => absurd h (by simp), fun _ _ => HA.out, fun h => absurd HR.out h, .inl (by simp)⟩)).iff (MailV.ok_iff _), b2⟩
    · have HR : Hid (r ≠ 0) := hr
      have HN : Hid (¬ MailV.ok2 ⟨4, f, t, n, a, r, l⟩) := fun h => by
        exact absurd (h.2.2.2.2.2.2.2.2.2.1 HR.out).1 (by simp)
      go_wp2
      go_ret
      exact ⟨(Tells.no HN.out).iff (MailV.ok_iff _), b2⟩
  · by_cases ha : a ≠ 0
    · have HE1 : Hid (a ≠ 0) := ha
      have HN : Hid (¬ MailV.ok2 ⟨5, f, t, n, a, r, l⟩) := fun h => by
        exact HE1.out (h.2.2.2.2.2.2.2.2.1 (by simp) (by simp))
      go_wp2
      go_ret
      exact ⟨(Tells.no HN.out).iff (MailV.ok_iff _), b2⟩
    have HA : Hid (a = 0) := (by omega : a = 0)
    replace ha : a = 0 := HA.out
    by_cases hr : r = 0
    · have HR : Hid (r = 0) := hr
      go_wp2
      go_ret
      exact ⟨(Tells.yes (show MailV.ok2 ⟨5, f, t, n, a, r, l⟩ from ⟨⟨by simp, by simp⟩, HF.out, HT.out, HE.out, HM.out, HV.out, fun h => absurd h (by simp), fun h => absurd h (by simp), fun _ _ => HA.out, fun h => absurd HR.out h, .inl (by simp)⟩)).iff (MailV.ok_iff _), b2⟩
    · have HR : Hid (r ≠ 0) := hr
      have HN : Hid (¬ MailV.ok2 ⟨5, f, t, n, a, r, l⟩) := fun h => by
        exact absurd (h.2.2.2.2.2.2.2.2.2.1 HR.out).1 (by simp)
      go_wp2
      go_ret
      exact ⟨(Tells.no HN.out).iff (MailV.ok_iff _), b2⟩
theorem specMRight_is (k f t n a r : Int) (p : Option Addr) (cap : Nat) (l : List FactV) (w : World) (q : Bool) (hq : q = true ↔ MailV.ok ⟨k, f, t, n, a, r, l⟩) (hl : l.length ≤ 1048576) (hrow : CellRow w p (cellsOf FactV.cells l)) :
    Calls Tryd.prog 13 #[.agg #[.int .i64 k, .int .i64 f, .int .i64 t, .int .i64 n, .int .i64 a, .int .i64 r, .slice p l.length cap]] w fun e w' => e = .returned (.bool q) ∧ Below w.heap.size w w' := (specMRight_any k f t n a r p cap l w hl hrow).mono fun e w' h => ⟨h.1.is hq, h.2⟩
end Go.Proofs.YtpjdkgcdkfmkiaaDoor
