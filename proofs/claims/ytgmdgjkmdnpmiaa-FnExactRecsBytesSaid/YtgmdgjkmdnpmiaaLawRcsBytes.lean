/- Proved: laws.FnExactRecsBytes answers true at every list of records: RecsBytes of the program and of the specification are one function, and write into no argument. No condition. -/
import Derived.Test.YtgmdgjkmdnpmiaaRows
import Derived.WalkKit
import Derived.ProofKit
import Derived.OpenShut
import Derived.ShutString
import Derived.ChangeOld
import Derived.Below
import Derived.Test.YtgmdgjkmdnpmiaaRcArgs
import Derived.Test.YtgmdgjkmdnpmiaaRcsS
import Derived.Test.YtgmdgjkmdnpmiaaRcsI
namespace Go.Proofs.Ytgmdgjkmdnpmiaa
open Go Go.ChangeShapes Go.WideShapes Go.ChangeAt Go.RowKit
open Go.ChangeMaps (open_string shut_string)
set_option linter.unusedVariables false

set_option maxHeartbeats 1000000 in
set_option maxRecDepth 100000 in
theorem FnExactRecsBytes_walk (a0 : Option Addr) (cap0 : Nat) (l : List RecV) (w : World) (w0 : RecArg w a0 cap0 l) :
    Calls Try.prog 5 #[.slice a0 l.length cap0] w fun e w' => e = .returned (.bool true) ∧ Below w.heap.size w w' := by
  have hrow := w0.1
  have hlm : l.length ≤ 9223372036854775807 := Nat.le_trans w0.2.1 (by unfold maxLen; omega)
  obtain ⟨r, hr⟩ := tells_bool (recsR l)
  have HR : Hid (r = true ↔ recsR l) := hr
  clear hr w0
  go_enter Try.func5, Try.ntmps5
  go_wp2_with fail
  refine (szRecs_any a0 cap0 l.length 1048576 _ (by omega) (by omega) hlm).mono ?_
  rintro e x0 ⟨rfl, rfl⟩
  by_cases hs : (1048576 : Int) < ((l.length : Nat) : Int)
  · have e1 : leftOf 1048576 l.length = -1 := if_pos hs
    rw [e1]
    clear e1
    go_wp2
    go_ret
    exact ⟨rfl, Below.refl _ _⟩
  obtain ⟨q, hq⟩ : ∃ q : Int, leftOf 1048576 l.length = q := ⟨_, rfl⟩
  have hq0 : ¬ q < 0 := by rw [← hq]; unfold leftOf; rw [if_neg hs]; omega
  rw [hq]
  have hl : l.length ≤ 1048576 := by omega
  clear hq hs hlm
  go_wp2_with fail
  refine (toRecs_any a0 cap0 l _ hl hrow).mono ?_
  rintro e x1 ⟨rfl, o1, b01⟩
  have n1 := o1.row
  clear o1
  go_wp2_with fail
  refine (specRecsB_any _ _ l _ r HR.out hl n1).mono ?_
  rintro e x2 ⟨rfl, b2⟩
  have b12 := b01.trans (b2.mono b01.size)
  have hrow2 := hrow.keep b12
  clear b01 b2 n1
  go_wp2_with fail
  refine (toRecs_any a0 cap0 l _ hl hrow2).mono ?_
  rintro e x3 ⟨rfl, o3, b3⟩
  have n3 := o3.row
  have b13 := b12.trans (b3.mono b12.size)
  clear b12 b3 o3 hrow2
  go_wp2_with fail
  refine (implRecsB_any _ _ l _ r HR.out hl n3).mono ?_
  rintro e x4 ⟨rfl, b4⟩
  have n4 := n3.keep b4
  have b14 := b13.trans (b4.mono b13.size)
  have hrow4 := hrow.keep b14
  clear b13 b4 n3
  go_wp2_with fail
  refine (toRecs_any a0 cap0 l _ hl hrow4).mono ?_
  rintro e x5 ⟨rfl, o5, b5⟩
  have n5 := o5.row
  have n45 := n4.keep b5
  have b15 := b14.trans (b5.mono b14.size)
  clear b14 b5 o5 n4
  go_wp2_with fail
  refine (eqRecs_same _ _ _ _ l _ hl n45 n5).mono ?_
  rintro e x6 ⟨rfl, b6⟩
  have b16 := b15.trans (b6.mono b15.size)
  go_wp2
  go_ret
  exact ⟨rfl, b16⟩

set_option maxRecDepth 100000 in
theorem FnExactRecsBytes_lifted (os : Os) (started : os.Started) (H : Type) (enc : TypeId × Value → H) :
    ReturnsInHanded {} Try.checked os 5 .any (Rows.fnExactRecsBytesSpec.pre6 enc Try.prog Try.f5 Rows.fnExactRecsBytesRow.domain false) (Rows.fnExactRecsBytesSpec.post enc Try.prog Try.f5 false true false false) := by
  refine returnsInHanded_of_change (C := Try.checked) (by kernel_rfl) started (by kernel_rfl) Try.func5
    (ChangeSpec.witness6 (enc := enc) (C := Try.checked) false ⟨#[], #[.slice none 0 0], []⟩ 8 (by kernel_rfl) (by kernel_rfl) (by kernel_rfl) (by kernel_rfl)) ?_
  intro W base args ds gs before hval0 hW hcnd _
  have hval : ∀ (j : Nat) t v, Try.f5.params[j]? = some t → args[j]? = some v → Value.okWide Try.prog W .any base t v := hval0
  have hW' := hW
  obtain ⟨p, q, hA0, hV, rfl, hfz, hnd⟩ := hW
  have hA : DataW.TrodAll enc Try.prog W 0 (fun _ => true) true Try.f5.params.toList args.toList ds p := hA0
  rw [Try.params5] at hA hval
  obtain ⟨v0, vs0, d0, ds0, p0, q0, hargs, rfl, rfl, h0, r0⟩ := trodAll_cons hA
  obtain ⟨rfl, rfl, rfl⟩ := trodAll_nil r0
  obtain rfl : args = #[v0] := by cases args; simp_all
  obtain ⟨rfl, rfl⟩ := trodVars_none hV
  obtain ⟨a0, len0, cap0, rfl⟩ := okWide_slice Try.underlying29 (hval 0 29 v0 rfl rfl)
  have k0 := h0
  have lt0 : ∀ x ∈ p0, x.block < W.heap.size := by obtain ⟨m, hm⟩ := k0; exact DataW.trod_lt m _ _ _ hm
  obtain ⟨l0, el0, w0⟩ : ∃ l, len0 = l.length ∧ RecArg W a0 cap0 l := by
    obtain ⟨fuel, hf⟩ := h0
    exact recArg_open (by simpa [Value.cells] using hf)
  subst el0
  clear hA0 hval0
  refine (FnExactRecsBytes_walk a0 cap0 l0 W w0).mono fun e W' ⟨he, bel⟩ => ?_
  subst he
  exact ⟨_, rfl, _, _, _, [], _, [], hW', trodAll_mk1 (shut_bool Try.underlying4 _), (trodAll_cons_mk (Below.trod (show laidOutB Try.prog = true by kernel_rfl) (by kernel_rfl) (of_decide_eq_true (by kernel_rfl)) k0 bel lt0) trodAll_mk0), rfl, bel.frame _, fun h => by cases h⟩
/-- The statement. -/
theorem FnExactRecsBytes_holds : Rows.FnExactRecsBytesSaid :=
  OpenClaim.holds_of_wide 5 Try.f5 rfl rfl rfl rfl rfl rfl rfl ⟨rfl, rfl, rfl, rfl, rfl⟩ rfl rfl rfl rfl rfl (by kernel_rfl) Try.func5 (by kernel_rfl)
    (of_decide_eq_true (by kernel_rfl)) (by unfold Func.isWrapper; first | (rw [if_pos (by decide +kernel)]; kernel_rfl) | (rw [if_neg (by decide +kernel)]; exact ⟨rfl, rfl⟩))
    (fun os started H enc _ => FnExactRecsBytes_lifted os started H enc)
#print axioms FnExactRecsBytes_holds

end Go.Proofs.Ytgmdgjkmdnpmiaa
