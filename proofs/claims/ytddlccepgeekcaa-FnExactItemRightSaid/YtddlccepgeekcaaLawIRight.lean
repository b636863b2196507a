/- Proved: laws.FnExactItemRight answers true at every item: ItemRight of the program and of the specification are one function. No condition. -/
import Derived.Test.YtddlccepgeekcaaRows
import Derived.WalkKit
import Derived.ProofKit
import Derived.OpenShut
import Derived.ShutString
import Derived.ChangeOld
import Derived.Below
import Derived.Test.YtddlccepgeekcaaItArgs
import Derived.Test.YtddlccepgeekcaaIRightI
import Derived.Test.YtddlccepgeekcaaIRightS
namespace Go.Proofs.Ytddlccepgeekcaa
open Go Go.ChangeShapes Go.WideShapes Go.ChangeAt Go.RowKit
open Go.ChangeMaps (open_string shut_string)
set_option linter.unusedVariables false

set_option maxHeartbeats 1000000 in
set_option maxRecDepth 100000 in
theorem FnExactItemRight_walk (a0 : ItemV) (w : World) (w0 : True) :
    Calls Try.prog 3 #[a0.val] w fun e w' => e = .returned (.bool true) ∧ Below w.heap.size w w' := by
  obtain ⟨r, hr⟩ := tells_bool a0.ok
  have p1 := IBlk.newL w a0
  have B0 := (Below.refl w.heap.size w).alloc (Nat.le_refl _) (.cells #[.int .i64 a0.kind, .int .i64 a0.tm, .int .i64 a0.pa, .int .i64 a0.pb] 23)
  obtain ⟨x1, x2, x3, x4⟩ := a0
  have HR : Hid (r = true ↔ ItemV.ok ⟨x1, x2, x3, x4⟩) := hr
  clear hr
  unfold ItemV.val
  obtain ⟨W, hW⟩ : ∃ W, w.alloc (.cells #[.int .i64 x1, .int .i64 x2, .int .i64 x3, .int .i64 x4] 23) = W := ⟨_, rfl⟩
  dsimp only at p1 B0
  rw [hW] at p1 B0
  have HW : Hid (_ = W) := hW
  clear hW
  go_enter Try.func3, Try.ntmps3
  go_wp2_with fail
  rw [HW.out]
  refine (toItem_any ⟨x1, x2, x3, x4⟩ _).mono ?_
  rintro e z1 ⟨rfl, b1⟩
  unfold ItemV.val
  have p2 := p1.keep b1
  have B1 := B0.trans (b1.mono B0.size)
  clear p1 B0 b1 HW
  go_wp2_with fail
  refine (specItem_is ⟨x1, x2, x3, x4⟩ _ r HR.out).mono ?_
  rintro e z2 ⟨rfl, b2⟩
  have p3 := p2.keep b2
  have B2 := B1.trans (b2.mono B1.size)
  clear p2 B1 b2
  obtain ⟨_, c0, c1, c2, c3⟩ := p3
  dsimp only at c0 c1 c2 c3
  go_wp2_with fail
  refine (toItem_any ⟨x1, x2, x3, x4⟩ _).mono ?_
  rintro e z3 ⟨rfl, b3⟩
  unfold ItemV.val
  have B3 := B2.trans (b3.mono B2.size)
  clear B2 b3 c0 c1 c2 c3
  go_wp2_with fail
  refine (implItem_is ⟨x1, x2, x3, x4⟩ _ r HR.out).mono ?_
  rintro e z4 ⟨rfl, b4⟩
  have B4 := B3.trans (b4.mono B3.size)
  clear B3 b4 HR
  go_wp2
  go_ret
  exact ⟨rfl, B4⟩

set_option maxRecDepth 100000 in
theorem FnExactItemRight_lifted (os : Os) (started : os.Started) (H : Type) (enc : TypeId × Value → H) :
    ReturnsInHanded {} Try.checked os 3 .any (Rows.fnExactItemRightSpec.pre6 enc Try.prog Try.f3 Rows.fnExactItemRightRow.domain false) (Rows.fnExactItemRightSpec.post enc Try.prog Try.f3 false true false false) := by
  refine returnsInHanded_of_change (C := Try.checked) (by kernel_rfl) started (by kernel_rfl) Try.func3
    (ChangeSpec.witness6 (enc := enc) (C := Try.checked) false ⟨#[], #[.agg #[.int .i64 0, .int .i64 0, .int .i64 0, .int .i64 0]], []⟩ 8 (by kernel_rfl) (by kernel_rfl) (by kernel_rfl) (by kernel_rfl)) ?_
  intro W base args ds gs before hval0 hW hcnd _
  have hval : ∀ (j : Nat) t v, Try.f3.params[j]? = some t → args[j]? = some v → Value.okWide Try.prog W .any base t v := hval0
  have hW' := hW
  obtain ⟨p, q, hA0, hV, rfl, hfz, hnd⟩ := hW
  have hA : DataW.TrodAll enc Try.prog W 0 (fun _ => true) true Try.f3.params.toList args.toList ds p := hA0
  rw [Try.params3] at hA hval
  obtain ⟨v0, vs0, d0, ds0, p0, q0, hargs, rfl, rfl, h0, r0⟩ := trodAll_cons hA
  obtain ⟨rfl, rfl, rfl⟩ := trodAll_nil r0
  obtain rfl : args = #[v0] := by cases args; simp_all
  obtain ⟨rfl, rfl⟩ := trodVars_none hV
  have k0 := h0
  have lt0 : ∀ x ∈ p0, x.block < W.heap.size := by obtain ⟨m, hm⟩ := k0; exact DataW.trod_lt m _ _ _ hm
  obtain ⟨a0, rfl, w0⟩ := itemVal_open (hval 0 23 v0 rfl rfl) h0
  clear hA0 hval0
  refine (FnExactItemRight_walk a0 W w0).mono fun e W' ⟨he, bel⟩ => ?_
  subst he
  exact ⟨_, rfl, _, _, _, [], _, [], hW', trodAll_mk1 (shut_bool Try.underlying4 _), (trodAll_cons_mk (Below.trod (show laidOutB Try.prog = true by kernel_rfl) (by kernel_rfl) (of_decide_eq_true (by kernel_rfl)) k0 bel lt0) trodAll_mk0), rfl, bel.frame _, fun h => by cases h⟩
/-- The statement. -/
theorem FnExactItemRight_holds : Rows.FnExactItemRightSaid :=
  OpenClaim.holds_of_wide 3 Try.f3 rfl rfl rfl rfl rfl rfl rfl ⟨rfl, rfl, rfl, rfl, rfl⟩ rfl rfl rfl rfl rfl (by kernel_rfl) Try.func3 (by kernel_rfl)
    (of_decide_eq_true (by kernel_rfl)) (by unfold Func.isWrapper; first | (rw [if_pos (by decide +kernel)]; kernel_rfl) | (rw [if_neg (by decide +kernel)]; exact ⟨rfl, rfl⟩))
    (fun os started H enc _ => FnExactItemRight_lifted os started H enc)
#print axioms FnExactItemRight_holds

end Go.Proofs.Ytddlccepgeekcaa
