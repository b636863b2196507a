/- What a time is, and answers that tell: the program's and the specification's small tests. -/
import Derived.Test.YtgmdgjkmdnpmiaaCells
import Derived.WalkLawsBesides
import Derived.WalkSpells
import Derived.BigRegion
import Derived.Deep.RegionWith
import Derived.OpenShut
import Derived.Deep.DeepCutAuto
import Derived.Laws.OwnMore
namespace Go.Proofs.Ytgmdgjkmdnpmiaa
open Go Go.RowKit
set_option linter.unusedVariables false

/-- A time. -/
def timeR (n : Int) : Prop := 0 ≤ n ∧ n ≤ 1000000
/-- An answer that tells whether p. -/
def Tells (p : Prop) (e : Ending) : Prop := ∃ r : Bool, e = .returned (.bool r) ∧ (r = true ↔ p)
theorem Tells.yes {p : Prop} (h : p) : Tells p (.returned (.bool true)) := ⟨true, rfl, by simp [h]⟩
theorem Tells.no {p : Prop} (h : ¬ p) : Tells p (.returned (.bool false)) := ⟨false, rfl, by simp [h]⟩
theorem tells_bool (p : Prop) : ∃ r : Bool, (r = true ↔ p) := by
  by_cases h : p
  · exact ⟨true, by simp [h]⟩
  · exact ⟨false, by simp [h]⟩
theorem tells_same {p : Prop} {e e' : Ending} (h : Tells p e) (h' : Tells p e') : e = e' := by
  obtain ⟨r, rfl, hr⟩ := h
  obtain ⟨r', rfl, hr'⟩ := h'
  have : r = r' := by
    cases r <;> cases r' <;> simp_all
  rw [this]
theorem Tells.is {p : Prop} {e : Ending} (h : Tells p e) {r : Bool} (hr : r = true ↔ p) : e = .returned (.bool r) := tells_same h ⟨r, rfl, hr⟩
theorem Tells.iff {p q : Prop} {e : Ending} (h : Tells p e) (hq : p ↔ q) : Tells q e := by
  obtain ⟨r, he, hr⟩ := h
  exact ⟨r, he, hr.trans hq⟩
/-- A number between two. -/
def isIn (n lo hi : Int) : Prop := lo ≤ n ∧ n ≤ hi
theorem is_any (n lo hi : Int) (w : World) : Calls Try.prog 18 #[.int .i64 n, .int .i64 lo, .int .i64 hi] w fun e w' => Tells (isIn n lo hi) e ∧ w = w' := by
  by_cases h0 : lo ≤ n
  · by_cases h1 : n ≤ hi
    · have HR : Hid (isIn n lo hi) := ⟨h0, h1⟩
      go_enter Try.func18, Try.ntmps18
      go_wp2
      go_ret
      exact ⟨.yes HR.out, rfl⟩
    · have HR : Hid (¬ isIn n lo hi) := fun h => h1 h.2
      go_enter Try.func18, Try.ntmps18
      go_wp2
      go_ret
      exact ⟨.no HR.out, rfl⟩
  · have HR : Hid (¬ isIn n lo hi) := fun h => h0 h.1
    go_enter Try.func18, Try.ntmps18
    go_wp2
    go_ret
    exact ⟨.no HR.out, rfl⟩
theorem specTime_any (n : Int) (w : World) : Calls Try.prog 16 #[.int .i64 n] w fun e w' => Tells (timeR n) e ∧ w = w' := by
  go_enter Try.func16, Try.ntmps16
  go_wp2_with fail
  refine (is_any n 0 1000000 _).mono ?_
  rintro e w' ⟨⟨r, rfl, hr⟩, rfl⟩
  have HR : Hid (r = true ↔ timeR n) := hr
  clear hr
  go_wp2
  go_ret
  exact ⟨⟨r, rfl, HR.out⟩, rfl⟩
end Go.Proofs.Ytgmdgjkmdnpmiaa
