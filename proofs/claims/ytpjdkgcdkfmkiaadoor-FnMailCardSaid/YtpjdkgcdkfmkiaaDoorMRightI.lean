/- The contract of the program's MailRight. -/
import Derived.Test.YtpjdkgcdkfmkiaaDoorG21
import Derived.Test.YtpjdkgcdkfmkiaaDoorVRightI
import Derived.Test.YtpjdkgcdkfmkiaaDoorG9
namespace Go.Proofs.YtpjdkgcdkfmkiaaDoor
open Go Go.RowKit
set_option linter.unusedVariables false
set_option linter.unusedSimpArgs false

theorem forRight_any (n : Int) (w : World) : Calls Tryd.prog 109 #[.int .i64 n] w fun e w' => Tells (forR n) e ∧ w = w' := by
  by_cases h0 : n = 0
  · have HR : Hid (forR n) := .inl h0
    go_enter Tryd.func109, Tryd.ntmps109
    go_wp2
    go_ret
    exact ⟨.yes HR.out, rfl⟩
  · have HR : Hid (forR n ↔ nodeR n) := ⟨fun h => h.resolve_left h0, .inr⟩
    go_enter Tryd.func109, Tryd.ntmps109
    go_wp2_with fail
    refine (nodeRight_any n _).mono ?_
    rintro e w' ⟨⟨r, rfl, hr⟩, rfl⟩
    have HS : Hid (r = true ↔ forR n) := hr.trans HR.out.symm
    clear hr
    go_wp2
    go_ret
    exact ⟨⟨r, by simp [h0], HS.out⟩, rfl⟩
theorem forRight_is (n : Int) (w : World) (r : Bool) (hr : r = true ↔ forR n) : Calls Tryd.prog 109 #[.int .i64 n] w fun e w' => e = .returned (.bool r) ∧ w = w' := (forRight_any n w).mono fun e w' h => ⟨h.1.is hr, h.2⟩
theorem nodeRight_is (n : Int) (w : World) (r : Bool) (hr : r = true ↔ nodeR n) : Calls Tryd.prog 32 #[.int .i64 n] w fun e w' => e = .returned (.bool r) ∧ w = w' := (nodeRight_any n w).mono fun e w' h => ⟨h.1.is hr, h.2⟩
theorem timeRight_is (n : Int) (w : World) (r : Bool) (hr : r = true ↔ timeR n) : Calls Tryd.prog 33 #[.int .i64 n] w fun e w' => e = .returned (.bool r) ∧ w = w' := (timeRight_any n w).mono fun e w' h => ⟨h.1.is hr, h.2⟩

theorem pingOwn_any (k f t n a r : Int) (s : Value) (w : World) : Calls Tryd.prog 108 #[.agg #[.int .i64 k, .int .i64 f, .int .i64 t, .int .i64 n, .int .i64 a, .int .i64 r, s]] w fun e w' => Tells (a = 0 ∧ forR r) e ∧ Below w.heap.size w w' := by
  by_cases h0 : a = 0
  · subst h0
    have b1 := (Below.refl w.heap.size w).alloc (Nat.le_refl _) (.cells #[.int .i64 k, .int .i64 f, .int .i64 t, .int .i64 n, .int .i64 0, .int .i64 r, s] 95)
    go_enter Tryd.func108, Tryd.ntmps108
    go_wp2_with fail
    refine (forRight_any r _).mono ?_
    rintro e w' ⟨⟨q, rfl, hr⟩, rfl⟩
    have HS : Hid (q = true ↔ forR r) := hr
    clear hr
    go_wp2
    go_ret
    exact ⟨⟨q, rfl, by simpa using HS.out⟩, b1⟩
  · have b1 := (Below.refl w.heap.size w).alloc (Nat.le_refl _) (.cells #[.int .i64 k, .int .i64 f, .int .i64 t, .int .i64 n, .int .i64 a, .int .i64 r, s] 95)
    have HR : Hid (¬ (a = 0 ∧ forR r)) := fun h => h0 h.1
    go_enter Tryd.func108, Tryd.ntmps108
    go_wp2
    go_ret
    exact ⟨⟨false, by simp [h0], by simpa using HR.out⟩, b1⟩
theorem ackOwn_any (k f t n a r : Int) (s : Value) (w : World) : Calls Tryd.prog 110 #[.agg #[.int .i64 k, .int .i64 f, .int .i64 t, .int .i64 n, .int .i64 a, .int .i64 r, s]] w fun e w' => Tells (nodeR a ∧ forR r) e ∧ Below w.heap.size w w' := by
  have b1 := (Below.refl w.heap.size w).alloc (Nat.le_refl _) (.cells #[.int .i64 k, .int .i64 f, .int .i64 t, .int .i64 n, .int .i64 a, .int .i64 r, s] 96)
  go_enter Tryd.func110, Tryd.ntmps110
  go_wp2_with fail
  refine (nodeRight_any a _).mono ?_
  rintro e w' ⟨⟨p, rfl, hp⟩, rfl⟩
  have HP : Hid (p = true ↔ nodeR a) := hp
  clear hp
  cases p with
  | false =>
    have HN : Hid (¬ nodeR a) := fun h => by simpa using HP.out.2 h
    clear HP
    go_wp2
    go_ret
    exact ⟨.no (fun h => HN.out h.1), b1⟩
  | true =>
    have HN : Hid (nodeR a) := HP.out.1 rfl
    clear HP
    go_wp2_with fail
    refine (forRight_any r _).mono ?_
    rintro e w' ⟨⟨q, rfl, hr⟩, rfl⟩
    have HS : Hid (q = true ↔ forR r) := hr
    clear hr
    go_wp2
    go_ret
    exact ⟨⟨q, rfl, HS.out.trans ⟨fun h => ⟨HN.out, h⟩, fun h => h.2⟩⟩, b1⟩
theorem askOwn_any (k f t n a r : Int) (s : Value) (w : World) : Calls Tryd.prog 111 #[.agg #[.int .i64 k, .int .i64 f, .int .i64 t, .int .i64 n, .int .i64 a, .int .i64 r, s]] w fun e w' => Tells (nodeR a ∧ a ≠ f ∧ a ≠ t ∧ r = 0) e ∧ Below w.heap.size w w' := by
  have b1 := (Below.refl w.heap.size w).alloc (Nat.le_refl _) (.cells #[.int .i64 k, .int .i64 f, .int .i64 t, .int .i64 n, .int .i64 a, .int .i64 r, s] 97)
  go_enter Tryd.func111, Tryd.ntmps111
  go_wp2_with fail
  refine (nodeRight_any a _).mono ?_
  rintro e w' ⟨⟨p, rfl, hp⟩, rfl⟩
  have HP : Hid (p = true ↔ nodeR a) := hp
  clear hp
  cases p with
  | false =>
    have HN : Hid (¬ nodeR a) := fun h => by simpa using HP.out.2 h
    clear HP
    go_wp2
    go_ret
    exact ⟨.no (fun h => HN.out h.1), b1⟩
  | true =>
    have HN : Hid (nodeR a) := HP.out.1 rfl
    clear HP
    by_cases h1 : a = f
    · have hd : (a != f) = false := by simp [h1]
      have HR : Hid (¬ (nodeR a ∧ a ≠ f ∧ a ≠ t ∧ r = 0)) := fun h => h.2.1 h1
      clear h1
      go_wp2
      go_ret
      exact ⟨⟨false, by simp [hd], by simpa using HR.out⟩, b1⟩
    have hd : (a != f) = true := by simp [h1]
    by_cases h2 : a = t
    · have hd2 : (a != t) = false := by simp [h2]
      have HR : Hid (¬ (nodeR a ∧ a ≠ f ∧ a ≠ t ∧ r = 0)) := fun h => h.2.2.1 h2
      clear h1 h2
      go_wp2
      go_ret
      exact ⟨⟨false, by simp [hd, hd2], by simpa using HR.out⟩, b1⟩
    have hd2 : (a != t) = true := by simp [h2]
    obtain ⟨q, hq⟩ := tells_bool (r = 0)
    have HR : Hid (q = true ↔ (nodeR a ∧ a ≠ f ∧ a ≠ t ∧ r = 0)) := hq.trans ⟨fun h => ⟨HN.out, h1, h2, h⟩, fun h => h.2.2.2⟩
    have hd3 : (r == 0) = q := by
      cases q with
      | true => simpa using hq
      | false => simpa using hq
    clear h1 h2 hq
    go_wp2
    go_ret
    exact ⟨⟨q, by simp [hd, hd2, hd3], HR.out⟩, b1⟩
theorem syncOwn_any (k f t n a r : Int) (s : Value) (w : World) : Calls Tryd.prog 112 #[.agg #[.int .i64 k, .int .i64 f, .int .i64 t, .int .i64 n, .int .i64 a, .int .i64 r, s]] w fun e w' => Tells (a = 0 ∧ r = 0) e ∧ Below w.heap.size w w' := by
  have b1 := (Below.refl w.heap.size w).alloc (Nat.le_refl _) (.cells #[.int .i64 k, .int .i64 f, .int .i64 t, .int .i64 n, .int .i64 a, .int .i64 r, s] 98)
  obtain ⟨q, hq⟩ := tells_bool (a = 0 ∧ r = 0)
  have HR : Hid (q = true ↔ (a = 0 ∧ r = 0)) := hq
  have HD : Hid ((a == 0 && r == 0) = q) := by
    show _ = _
    cases q with
    | true => simpa using hq
    | false => simpa using hq
  clear hq
  by_cases h0 : a = 0
  · subst h0
    go_enter Tryd.func112, Tryd.ntmps112
    go_wp2
    go_ret
    exact ⟨⟨q, by have := HD.out; simpa using this, by simpa using HR.out⟩, b1⟩
  · go_enter Tryd.func112, Tryd.ntmps112
    go_wp2
    go_ret
    exact ⟨⟨q, by have := HD.out; have hd : (a == 0) = false := (by simpa using h0); rw [hd] at this; simpa using this, by simpa using HR.out⟩, b1⟩
theorem tellOwn_any (k f t n a r : Int) (s : Value) (w : World) : Calls Tryd.prog 113 #[.agg #[.int .i64 k, .int .i64 f, .int .i64 t, .int .i64 n, .int .i64 a, .int .i64 r, s]] w fun e w' => Tells (a = 0 ∧ r = 0) e ∧ Below w.heap.size w w' := by
  have b1 := (Below.refl w.heap.size w).alloc (Nat.le_refl _) (.cells #[.int .i64 k, .int .i64 f, .int .i64 t, .int .i64 n, .int .i64 a, .int .i64 r, s] 99)
  obtain ⟨q, hq⟩ := tells_bool (a = 0 ∧ r = 0)
  have HR : Hid (q = true ↔ (a = 0 ∧ r = 0)) := hq
  have HD : Hid ((a == 0 && r == 0) = q) := by
    show _ = _
    cases q with
    | true => simpa using hq
    | false => simpa using hq
  clear hq
  by_cases h0 : a = 0
  · subst h0
    go_enter Tryd.func113, Tryd.ntmps113
    go_wp2
    go_ret
    exact ⟨⟨q, by have := HD.out; simpa using this, by simpa using HR.out⟩, b1⟩
  · go_enter Tryd.func113, Tryd.ntmps113
    go_wp2
    go_ret
    exact ⟨⟨q, by have := HD.out; have hd : (a == 0) = false := (by simpa using h0); rw [hd] at this; simpa using this, by simpa using HR.out⟩, b1⟩
end Go.Proofs.YtpjdkgcdkfmkiaaDoor
