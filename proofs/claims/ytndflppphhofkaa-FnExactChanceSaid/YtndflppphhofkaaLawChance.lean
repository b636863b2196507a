/- Proved: laws.FnExactChance answers true at every seed and most: Chance of the program and of the specification are one function. No condition. -/
import Derived.Test.YtndflppphhofkaaRows
import Derived.WalkKit
import Derived.ProofKit
import Derived.OpenShut
import Derived.ShutString
import Derived.ChangeOld
import Derived.Below
import Derived.Test.YtndflppphhofkaaChanceOne
namespace Go.Proofs.Ytndflppphhofkaa
open Go Go.ChangeShapes Go.WideShapes Go.ChangeAt Go.RowKit
open Go.ChangeMaps (open_string shut_string)
set_option linter.unusedVariables false

theorem eqChance_any (a b : Int) (w : World) : Calls Try.prog 27 #[.agg #[.int .i64 a, .int .i64 b], .agg #[.int .i64 a, .int .i64 b]] w fun e w' => e = .returned (.bool true) ∧ Below w.heap.size w w' := by
  go_enter Try.func27, Try.ntmps27
  go_wp2
  go_ret
  exact ⟨rfl, ((Below.refl _ _).alloc (Nat.le_refl _) _).alloc (by simp) _⟩
set_option maxHeartbeats 1000000 in
set_option maxRecDepth 100000 in
theorem FnExactChance_walk (a0 a1 : Int) (w0 : (Lit.int .i64 a0).wf = true) (w1 : (Lit.int .i64 a1).wf = true) (w : World) :
    Calls Try.prog 4 #[.int .i64 a0, .int .i64 a1] w fun e w' => e = .returned (.bool true) ∧ Below w.heap.size w w' := by
  obtain ⟨p, q, e⟩ : ∃ p q, chanceV a0 a1 = (p, q) := ⟨_, _, rfl⟩
  have HE : Hid (chanceV a0 a1 = (p, q)) := e
  clear e
  go_enter Try.func4, Try.ntmps4
  go_wp2_with fail
  refine (specChance_any a0 a1 _).mono ?_
  rintro e x1 ⟨rfl, b1⟩
  rw [HE.out]
  unfold chanceOut
  go_wp2_with fail
  refine (implChance_any a0 a1 _).mono ?_
  rintro e x2 ⟨rfl, b2⟩
  rw [HE.out]
  unfold chanceOut
  obtain ⟨q0, q1, _, _⟩ := two_kept b2
  have b1a := b1.alloc b1.size (.cells #[.int .i64 p, .int .i64 q] 26)
  have b2a := b1a.trans (b2.mono b1a.size)
  have q0a : (x2.alloc (.cells #[.int .i64 p, .int .i64 q] 26)).cell? ⟨x1.heap.size, 0, none⟩ = some (.int .i64 p) := by
    rw [((Below.refl x2.heap.size x2).alloc (Nat.le_refl _) _).cell (by have := b2.size; simp at this; show x1.heap.size < x2.heap.size; omega)]; exact q0
  have q1a : (x2.alloc (.cells #[.int .i64 p, .int .i64 q] 26)).cell? ⟨x1.heap.size, 1, none⟩ = some (.int .i64 q) := by
    rw [((Below.refl x2.heap.size x2).alloc (Nat.le_refl _) _).cell (by have := b2.size; simp at this; show x1.heap.size < x2.heap.size; omega)]; exact q1
  have b3 := b2a.alloc b2a.size (.cells #[.int .i64 p, .int .i64 q] 26)
  clear b1a b2a b2 b1 q0 q1
  go_wp2_with fail
  refine (eqChance_any p q _).mono ?_
  rintro e x3 ⟨rfl, b4⟩
  go_wp2
  go_ret
  exact ⟨rfl, b3.trans (b4.mono b3.size)⟩

set_option maxRecDepth 100000 in
theorem FnExactChance_lifted (os : Os) (started : os.Started) (H : Type) (enc : TypeId × Value → H) :
    ReturnsInHanded {} Try.checked os 4 .any (Rows.fnExactChanceSpec.pre6 enc Try.prog Try.f4 Rows.fnExactChanceRow.domain false) (Rows.fnExactChanceSpec.post enc Try.prog Try.f4 false true false false) := by
  refine returnsInHanded_of_change (C := Try.checked) (by kernel_rfl) started (by kernel_rfl) Try.func4
    (ChangeSpec.witness6 (enc := enc) (C := Try.checked) false ⟨#[], #[.int .i64 0, .int .i64 0], []⟩ 8 (by kernel_rfl) (by kernel_rfl) (by kernel_rfl) (by kernel_rfl)) ?_
  intro W base args ds gs before hval0 hW hcnd _
  have hval : ∀ (j : Nat) t v, Try.f4.params[j]? = some t → args[j]? = some v → Value.okWide Try.prog W .any base t v := hval0
  have hW' := hW
  obtain ⟨p, q, hA0, hV, rfl, hfz, hnd⟩ := hW
  have hA : DataW.TrodAll enc Try.prog W 0 (fun _ => true) true Try.f4.params.toList args.toList ds p := hA0
  rw [Try.params4] at hA hval
  obtain ⟨v0, vs0, d0, ds0, p0, q0, hargs, rfl, rfl, h0, r0⟩ := trodAll_cons hA
  obtain ⟨v1, vs1, d1, ds1, p1, q1, rfl, rfl, rfl, h1, r1⟩ := trodAll_cons r0
  obtain ⟨rfl, rfl, rfl⟩ := trodAll_nil r1
  obtain rfl : args = #[v0, v1] := by cases args; simp_all
  obtain ⟨rfl, rfl⟩ := trodVars_none hV
  obtain ⟨a0, rfl, rfl, rfl, w0⟩ := open_int Try.underlying2 (hval 0 2 v0 rfl rfl) h0
  obtain ⟨a1, rfl, rfl, rfl, w1⟩ := open_int Try.underlying2 (hval 1 2 v1 rfl rfl) h1
  clear hA0 hval0
  simp only [List.append_nil] at hW'
  refine (FnExactChance_walk a0 a1 w0 w1 W).mono fun e W' ⟨he, bel⟩ => ?_
  subst he
  exact ⟨_, rfl, _, _, _, [], _, [], hW', trodAll_mk1 (shut_bool Try.underlying4 _), (trodAll_cons_mk (shut_int Try.underlying2 w0) (trodAll_cons_mk (shut_int Try.underlying2 w1) trodAll_mk0)), rfl, bel.frame _, fun h => by cases h⟩
/-- The statement. -/
theorem FnExactChance_holds : Rows.FnExactChanceSaid :=
  OpenClaim.holds_of_wide 4 Try.f4 rfl rfl rfl rfl rfl rfl rfl ⟨rfl, rfl, rfl, rfl, rfl⟩ rfl rfl rfl rfl rfl (by kernel_rfl) Try.func4 (by kernel_rfl)
    (of_decide_eq_true (by kernel_rfl)) (by unfold Func.isWrapper; first | (rw [if_pos (by decide +kernel)]; kernel_rfl) | (rw [if_neg (by decide +kernel)]; exact ⟨rfl, rfl⟩))
    (fun os started H enc _ => FnExactChance_lifted os started H enc)
#print axioms FnExactChance_holds

end Go.Proofs.Ytndflppphhofkaa
