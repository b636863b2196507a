/- Proved: laws.FnExactSetRight answers true at every list: SetRight of the program and of the specification are one function, and write into no argument. No condition. -/
import Derived.Test.YtndflppphhofkaaRows
import Derived.WalkKit
import Derived.ProofKit
import Derived.OpenShut
import Derived.ShutString
import Derived.ChangeOld
import Derived.Below
import Derived.Test.YtndflppphhofkaaNumArgs
import Derived.Test.YtndflppphhofkaaSetImpl
namespace Go.Proofs.Ytndflppphhofkaa
open Go Go.ChangeShapes Go.WideShapes Go.ChangeAt Go.RowKit
open Go.ChangeMaps (open_string shut_string)
set_option linter.unusedVariables false

set_option maxHeartbeats 1000000 in
set_option maxRecDepth 100000 in
theorem FnExactSetRight_walk (a0 : Option Addr) (cap0 : Nat) (l : List Int) (w : World) (w0 : NumArg w a0 cap0 l) :
    Calls Try.prog 6 #[.slice a0 l.length cap0] w fun e w' => e = .returned (.bool true) ∧ Below w.heap.size w w' := by
  by_cases hs : 1048576 < (l.length : Int)
  · go_enter Try.func6, Try.ntmps6
    go_wp2
    go_ret
    exact ⟨rfl, Below.refl _ _⟩
  have hl : l.length ≤ 1048576 := by omega
  have hrow := w0.1
  obtain ⟨r, hr⟩ : ∃ r, decide (rightL l) = r := ⟨_, rfl⟩
  have HR : Hid (decide (rightL l) = r) := hr
  clear hr
  go_enter Try.func6, Try.ntmps6
  go_wp2_with fail
  refine (toNums_any a0 cap0 l _ hl hrow).mono ?_
  rintro e x1 ⟨rfl, r1, b1⟩
  have n1 := NumRow.of_row r1
  go_wp2_with fail
  refine (specRight_any _ _ l _ hl n1).mono ?_
  rintro e x2 ⟨rfl, b2⟩
  rw [HR.out]
  have b12 := b1.trans (b2.mono b1.size)
  have hrow2 := hrow.keep b12
  clear b1 b2 r1 n1
  go_wp2_with fail
  refine (toNums_any a0 cap0 l _ hl hrow2).mono ?_
  rintro e x3 ⟨rfl, r3, b3⟩
  have n3 := NumRow.of_row r3
  have b13 := b12.trans (b3.mono b12.size)
  clear b12 b3 r3
  go_wp2_with fail
  refine (implRight_any _ _ l _ hl n3).mono ?_
  rintro e x4 ⟨rfl, b4⟩
  rw [HR.out]
  have n4 := n3.keep b4
  have b14 := b13.trans (b4.mono b13.size)
  have hrow4 := hrow.keep b14
  clear b13 b4 n3
  go_wp2_with fail
  refine (toNums_any a0 cap0 l _ hl hrow4).mono ?_
  rintro e x5 ⟨rfl, r5, b5⟩
  have n5 := NumRow.of_row r5
  have n45 := n4.keep b5
  have b15 := b14.trans (b5.mono b14.size)
  clear b14 b5 r5 n4
  go_wp2_with fail
  refine (eqNums_same _ _ _ _ l _ hl n45 n5).mono ?_
  rintro e x6 ⟨rfl, b6⟩
  have b16 := b15.trans (b6.mono b15.size)
  go_wp2
  go_ret
  exact ⟨rfl, b16⟩

set_option maxRecDepth 100000 in
theorem FnExactSetRight_lifted (os : Os) (started : os.Started) (H : Type) (enc : TypeId × Value → H) :
    ReturnsInHanded {} Try.checked os 6 .any (Rows.fnExactSetRightSpec.pre6 enc Try.prog Try.f6 Rows.fnExactSetRightRow.domain false) (Rows.fnExactSetRightSpec.post enc Try.prog Try.f6 false true false false) := by
  refine returnsInHanded_of_change (C := Try.checked) (by kernel_rfl) started (by kernel_rfl) Try.func6
    (ChangeSpec.witness6 (enc := enc) (C := Try.checked) false ⟨#[], #[.slice none 0 0], []⟩ 8 (by kernel_rfl) (by kernel_rfl) (by kernel_rfl) (by kernel_rfl)) ?_
  intro W base args ds gs before hval0 hW hcnd _
  have hval : ∀ (j : Nat) t v, Try.f6.params[j]? = some t → args[j]? = some v → Value.okWide Try.prog W .any base t v := hval0
  have hW' := hW
  obtain ⟨p, q, hA0, hV, rfl, hfz, hnd⟩ := hW
  have hA : DataW.TrodAll enc Try.prog W 0 (fun _ => true) true Try.f6.params.toList args.toList ds p := hA0
  rw [Try.params6] at hA hval
  obtain ⟨v0, vs0, d0, ds0, p0, q0, hargs, rfl, rfl, h0, r0⟩ := trodAll_cons hA
  obtain ⟨rfl, rfl, rfl⟩ := trodAll_nil r0
  obtain rfl : args = #[v0] := by cases args; simp_all
  obtain ⟨rfl, rfl⟩ := trodVars_none hV
  obtain ⟨a0, len0, cap0, rfl⟩ := okWide_slice Try.underlying28 (hval 0 28 v0 rfl rfl)
  have k0 := h0
  have lt0 : ∀ x ∈ p0, x.block < W.heap.size := by obtain ⟨m, hm⟩ := k0; exact DataW.trod_lt m _ _ _ hm
  obtain ⟨l0, el0, w0⟩ : ∃ l, len0 = l.length ∧ NumArg W a0 cap0 l := by
    obtain ⟨fuel, hf⟩ := h0
    rcases open_ints Try.underlying28 Try.underlying2 (by kernel_rfl) hf with ⟨hcs, _⟩ | ⟨x, l, c, zs, hcs, _, hl, hm, hz, _, hcell, hwz⟩
    · simp [Value.cells] at hcs
      obtain ⟨rfl, rfl, rfl⟩ := hcs
      exact ⟨[], rfl, numArg_nil _⟩
    · simp [Value.cells] at hcs
      obtain ⟨rfl, rfl, rfl⟩ := hcs
      exact numArg_of hl (by simpa using hz) hcell hwz
  subst el0
  clear hA0 hval0
  refine (FnExactSetRight_walk a0 cap0 l0 W w0).mono fun e W' ⟨he, bel⟩ => ?_
  subst he
  exact ⟨_, rfl, _, _, _, [], _, [], hW', trodAll_mk1 (shut_bool Try.underlying4 _), (trodAll_cons_mk (Below.trod (show laidOutB Try.prog = true by kernel_rfl) (by kernel_rfl) (of_decide_eq_true (by kernel_rfl)) k0 bel lt0) trodAll_mk0), rfl, bel.frame _, fun h => by cases h⟩
/-- The statement. -/
theorem FnExactSetRight_holds : Rows.FnExactSetRightSaid :=
  OpenClaim.holds_of_wide 6 Try.f6 rfl rfl rfl rfl rfl rfl rfl ⟨rfl, rfl, rfl, rfl, rfl⟩ rfl rfl rfl rfl rfl (by kernel_rfl) Try.func6 (by kernel_rfl)
    (of_decide_eq_true (by kernel_rfl)) (by unfold Func.isWrapper; first | (rw [if_pos (by decide +kernel)]; kernel_rfl) | (rw [if_neg (by decide +kernel)]; exact ⟨rfl, rfl⟩))
    (fun os started H enc _ => FnExactSetRight_lifted os started H enc)
#print axioms FnExactSetRight_holds

end Go.Proofs.Ytndflppphhofkaa
