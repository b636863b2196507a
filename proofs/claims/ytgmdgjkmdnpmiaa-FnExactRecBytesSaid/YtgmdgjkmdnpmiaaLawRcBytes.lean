/- Proved: laws.FnExactRecBytes answers true at every record: RecBytes of the program and of the specification are one function. No condition. -/
import Derived.Test.YtgmdgjkmdnpmiaaRows
import Derived.WalkKit
import Derived.ProofKit
import Derived.OpenShut
import Derived.ShutString
import Derived.ChangeOld
import Derived.Below
import Derived.Test.YtgmdgjkmdnpmiaaRcArgs
import Derived.Test.YtgmdgjkmdnpmiaaRcB
namespace Go.Proofs.Ytgmdgjkmdnpmiaa
open Go Go.ChangeShapes Go.WideShapes Go.ChangeAt Go.RowKit
open Go.ChangeMaps (open_string shut_string)
set_option linter.unusedVariables false

set_option maxHeartbeats 1000000 in
set_option maxRecDepth 100000 in
theorem FnExactRecBytes_walk (a0 : RecV) (w : World) (w0 : True) :
    Calls Try.prog 4 #[a0.val] w fun e w' => e = .returned (.bool true) ∧ Below w.heap.size w w' := by
  obtain ⟨r, hr⟩ := tells_bool a0.ok
  obtain ⟨x1, x2, x3, x4, x5, x6⟩ := a0
  have P := BlkIs.new w 23 #[.int .i64 x1, .int .i64 x2, .int .i64 x3, .int .i64 x4, .int .i64 x5, .int .i64 x6]
  have B0 := (Below.refl w.heap.size w).alloc (Nat.le_refl _) (.cells #[.int .i64 x1, .int .i64 x2, .int .i64 x3, .int .i64 x4, .int .i64 x5, .int .i64 x6] 23)
  have HR : Hid (r = true ↔ RecV.ok ⟨x1, x2, x3, x4, x5, x6⟩) := hr
  clear hr
  unfold RecV.val
  obtain ⟨W, hW⟩ : ∃ W, w.alloc (.cells #[.int .i64 x1, .int .i64 x2, .int .i64 x3, .int .i64 x4, .int .i64 x5, .int .i64 x6] 23) = W := ⟨_, rfl⟩
  rw [hW] at P B0
  have HW : Hid (_ = W) := hW
  clear hW
  go_enter Try.func4, Try.ntmps4
  go_wp2_with fail
  rw [HW.out]
  refine (toRec_any ⟨x1, x2, x3, x4, x5, x6⟩ _).mono ?_
  rintro e z1 ⟨rfl, b1⟩
  unfold RecV.val
  replace P := P.keep b1
  have B1 := B0.trans (b1.mono B0.size)
  clear B0 b1 HW
  go_wp2_with fail
  refine (specRecB_any ⟨x1, x2, x3, x4, x5, x6⟩ _ r HR.out).mono ?_
  rintro e z2 ⟨rfl, b2⟩
  replace P := P.keep b2
  have B2 := B1.trans (b2.mono B1.size)
  clear B1 b2
  have c0 : z2.cell? ⟨w.heap.size, 0, none⟩ = some (.int .i64 x1) := P.cell 0
  have c1 : z2.cell? ⟨w.heap.size, 1, none⟩ = some (.int .i64 x2) := P.cell 1
  have c2 : z2.cell? ⟨w.heap.size, 2, none⟩ = some (.int .i64 x3) := P.cell 2
  have c3 : z2.cell? ⟨w.heap.size, 3, none⟩ = some (.int .i64 x4) := P.cell 3
  have c4 : z2.cell? ⟨w.heap.size, 4, none⟩ = some (.int .i64 x5) := P.cell 4
  have c5 : z2.cell? ⟨w.heap.size, 5, none⟩ = some (.int .i64 x6) := P.cell 5
  clear P
  go_wp2_with fail
  refine (toRec_any ⟨x1, x2, x3, x4, x5, x6⟩ _).mono ?_
  rintro e z3 ⟨rfl, b3⟩
  unfold RecV.val
  have B3 := B2.trans (b3.mono B2.size)
  clear B2 b3 c0 c1 c2 c3 c4 c5
  go_wp2_with fail
  refine (implRecB_any ⟨x1, x2, x3, x4, x5, x6⟩ _ r HR.out).mono ?_
  rintro e z4 ⟨rfl, b4⟩
  have B4 := B3.trans (b4.mono B3.size)
  clear B3 b4 HR
  go_wp2
  go_ret
  exact ⟨rfl, B4⟩

set_option maxRecDepth 100000 in
theorem FnExactRecBytes_lifted (os : Os) (started : os.Started) (H : Type) (enc : TypeId × Value → H) :
    ReturnsInHanded {} Try.checked os 4 .any (Rows.fnExactRecBytesSpec.pre6 enc Try.prog Try.f4 Rows.fnExactRecBytesRow.domain false) (Rows.fnExactRecBytesSpec.post enc Try.prog Try.f4 false true false false) := by
  refine returnsInHanded_of_change (C := Try.checked) (by kernel_rfl) started (by kernel_rfl) Try.func4
    (ChangeSpec.witness6 (enc := enc) (C := Try.checked) false ⟨#[], #[.agg #[.int .i64 0, .int .i64 0, .int .i64 0, .int .i64 0, .int .i64 0, .int .i64 0]], []⟩ 8 (by kernel_rfl) (by kernel_rfl) (by kernel_rfl) (by kernel_rfl)) ?_
  intro W base args ds gs before hval0 hW hcnd _
  have hval : ∀ (j : Nat) t v, Try.f4.params[j]? = some t → args[j]? = some v → Value.okWide Try.prog W .any base t v := hval0
  have hW' := hW
  obtain ⟨p, q, hA0, hV, rfl, hfz, hnd⟩ := hW
  have hA : DataW.TrodAll enc Try.prog W 0 (fun _ => true) true Try.f4.params.toList args.toList ds p := hA0
  rw [Try.params4] at hA hval
  obtain ⟨v0, vs0, d0, ds0, p0, q0, hargs, rfl, rfl, h0, r0⟩ := trodAll_cons hA
  obtain ⟨rfl, rfl, rfl⟩ := trodAll_nil r0
  obtain rfl : args = #[v0] := by cases args; simp_all
  obtain ⟨rfl, rfl⟩ := trodVars_none hV
  have k0 := h0
  have lt0 : ∀ x ∈ p0, x.block < W.heap.size := by obtain ⟨m, hm⟩ := k0; exact DataW.trod_lt m _ _ _ hm
  obtain ⟨a0, rfl, w0⟩ := recVal_open (hval 0 23 v0 rfl rfl) h0
  clear hA0 hval0
  refine (FnExactRecBytes_walk a0 W w0).mono fun e W' ⟨he, bel⟩ => ?_
  subst he
  exact ⟨_, rfl, _, _, _, [], _, [], hW', trodAll_mk1 (shut_bool Try.underlying4 _), (trodAll_cons_mk (Below.trod (show laidOutB Try.prog = true by kernel_rfl) (by kernel_rfl) (of_decide_eq_true (by kernel_rfl)) k0 bel lt0) trodAll_mk0), rfl, bel.frame _, fun h => by cases h⟩
/-- The statement. -/
theorem FnExactRecBytes_holds : Rows.FnExactRecBytesSaid :=
  OpenClaim.holds_of_wide 4 Try.f4 rfl rfl rfl rfl rfl rfl rfl ⟨rfl, rfl, rfl, rfl, rfl⟩ rfl rfl rfl rfl rfl (by kernel_rfl) Try.func4 (by kernel_rfl)
    (of_decide_eq_true (by kernel_rfl)) (by unfold Func.isWrapper; first | (rw [if_pos (by decide +kernel)]; kernel_rfl) | (rw [if_neg (by decide +kernel)]; exact ⟨rfl, rfl⟩))
    (fun os started H enc _ => FnExactRecBytes_lifted os started H enc)
#print axioms FnExactRecBytes_holds

end Go.Proofs.Ytgmdgjkmdnpmiaa
