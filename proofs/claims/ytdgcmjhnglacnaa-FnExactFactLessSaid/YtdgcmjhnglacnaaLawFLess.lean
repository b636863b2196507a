/- Proved: laws.FnExactFactLess answers true at every two facts: FactLess of the program and of the specification are one function. No condition. -/
import Derived.Test.YtdgcmjhnglacnaaRows
import Derived.WalkKit
import Derived.ProofKit
import Derived.OpenShut
import Derived.ShutString
import Derived.ChangeOld
import Derived.Below
import Derived.Test.YtdgcmjhnglacnaaFactArgs
import Derived.Test.YtdgcmjhnglacnaaFactTwo
import Derived.Test.YtdgcmjhnglacnaaReg
namespace Go.Proofs.Ytdgcmjhnglacnaa
open Go Go.ChangeShapes Go.WideShapes Go.ChangeAt Go.RowKit
open Go.ChangeMaps (open_string shut_string)
set_option linter.unusedVariables false

theorem two_blksL (w : World) (x y : FactV) : ∃ W, (w.alloc (.cells #[.int .i64 x.node, .int .i64 x.inc, .int .i64 x.st] 47)).alloc (.cells #[.int .i64 y.node, .int .i64 y.inc, .int .i64 y.st] 47) = W ∧ FBlk W w.heap.size x ∧ FBlk W (w.heap.size + 1) y ∧ Below w.heap.size w W := by
  refine ⟨_, rfl, (BlkIs3.newL w x).keep ((Below.refl _ _).alloc (Nat.le_refl _) _), ?_, ((Below.refl _ _).alloc (Nat.le_refl _) _).alloc (by simp) _⟩
  have := BlkIs3.newL (w.alloc (.cells #[.int .i64 x.node, .int .i64 x.inc, .int .i64 x.st] 47)) y
  rwa [World.size_alloc] at this
set_option maxHeartbeats 4000000 in
set_option maxRecDepth 100000 in
theorem FnExactFactLess_walk (a0 a1 : FactV) (w : World) (w0 : True) (w1 : True) :
    Calls Try.prog 5 #[a0.val, a1.val] w fun e w' => e = .returned (.bool true) ∧ Below w.heap.size w w' := by
  obtain ⟨W, hW, pa, pb, B0⟩ := two_blksL w a0 a1
  obtain ⟨r, hr⟩ := tells_bool (lessF a0 a1)
  obtain ⟨x1, x2, x3⟩ := a0
  obtain ⟨y1, y2, y3⟩ := a1
  have HR : Hid (r = true ↔ lessF ⟨x1, x2, x3⟩ ⟨y1, y2, y3⟩) := hr
  have HW : Hid (_ = W) := hW
  clear hW hr
  unfold FactV.val
  go_enter Try.func5, Try.ntmps5
  go_upto_region 1 with fail
  rw [HW.out]
  clear HW
  refine wp_region_held_drew (S := (fun w' => Below W.heap.size W w')) (by kernel_rfl) ?hS0 (fun hHeld => ?_)
  case hS0 => exact (Below.refl _ _).drew
  refine takeG 0 (v := .agg #[.int .i64 x1, .int .i64 x2, .int .i64 x3]) rfl (by kernel_rfl) (by kernel_rfl) (by kernel_rfl) (by kernel_rfl) (fun _ _ _ h => h) ?hy (by assumption) ?_
  case hy => (intro w' hSw; obtain ⟨_, s0, s1, s2⟩ := (pa).keep hSw; dsimp only at s0 s1 s2; go_simp)
  try simp only [List.setIfInBounds_toArray, List.set_cons_zero, List.set_cons_succ]
  refine takeG 2 (v := .agg #[.int .i64 y1, .int .i64 y2, .int .i64 y3]) rfl (by kernel_rfl) (by kernel_rfl) (by kernel_rfl) (by kernel_rfl) (fun _ _ _ h => h) ?hy (by assumption) ?_
  case hy => (intro w' hSw; obtain ⟨_, s0, s1, s2⟩ := (pb).keep hSw; dsimp only at s0 s1 s2; go_simp)
  try simp only [List.setIfInBounds_toArray, List.set_cons_zero, List.set_cons_succ]
  refine runG 1 (by kernel_rfl) rfl (by kernel_rfl) ?_
  go_simp
  refine (toFact_any ⟨x1, x2, x3⟩ _).mono ?_
  rintro e z11 ⟨rfl, b1⟩
  have h1 : Below W.heap.size W z11 := hHeld.trans (b1.mono hHeld.size)
  refine ⟨h1, ?_⟩
  clear hHeld b1
  unfold FactV.val
  refine runG 3 (by kernel_rfl) rfl (by kernel_rfl) ?_
  go_simp
  refine (toFact_any ⟨y1, y2, y3⟩ _).mono ?_
  rintro e z21 ⟨rfl, b2⟩
  have h2 : Below W.heap.size W z21 := h1.trans (b2.mono h1.size)
  refine ⟨h2, ?_⟩
  clear h1 b2
  unfold FactV.val
  refine runG 4 (by kernel_rfl) rfl (by kernel_rfl) ?_
  go_simp
  refine (specFactLess_is ⟨x1, x2, x3⟩ ⟨y1, y2, y3⟩ _ r HR.out).mono ?_
  rintro e z31 ⟨rfl, b3⟩
  have h3 : Below W.heap.size W z31 := h2.trans (b3.mono h2.size)
  refine ⟨h3, ?_⟩
  clear h2 b3
  refine takeG 5 (v := .bool r) rfl (by kernel_rfl) (by kernel_rfl) (by kernel_rfl) (by kernel_rfl) (fun _ _ _ h => h) ?hy (by assumption) ?_
  case hy => (intro w' hSw; go_simp)
  try simp only [List.setIfInBounds_toArray, List.set_cons_zero, List.set_cons_succ]
  refine wpAnyH_done (by kernel_rfl) ?_ _
  have pa2 := pa.keep h3
  have pb2 := pb.keep h3
  have B3 := B0.trans (h3.mono B0.size)
  clear pa pb B0 h3
  have pa := pa2
  have pb := pb2
  clear pa2 pb2
  go_upto_region 2 with fail
  refine wp_region_held_drew (S := (fun w' => Below z31.heap.size z31 w')) (by kernel_rfl) ?hS0 (fun hHeld => ?_)
  case hS0 => exact (Below.refl _ _).drew
  refine takeG 0 (v := .agg #[.int .i64 x1, .int .i64 x2, .int .i64 x3]) rfl (by kernel_rfl) (by kernel_rfl) (by kernel_rfl) (by kernel_rfl) (fun _ _ _ h => h) ?hy (by assumption) ?_
  case hy => (intro w' hSw; obtain ⟨_, s0, s1, s2⟩ := (pa).keep hSw; dsimp only at s0 s1 s2; go_simp)
  try simp only [List.setIfInBounds_toArray, List.set_cons_zero, List.set_cons_succ]
  refine takeG 2 (v := .agg #[.int .i64 y1, .int .i64 y2, .int .i64 y3]) rfl (by kernel_rfl) (by kernel_rfl) (by kernel_rfl) (by kernel_rfl) (fun _ _ _ h => h) ?hy (by assumption) ?_
  case hy => (intro w' hSw; obtain ⟨_, s0, s1, s2⟩ := (pb).keep hSw; dsimp only at s0 s1 s2; go_simp)
  try simp only [List.setIfInBounds_toArray, List.set_cons_zero, List.set_cons_succ]
  refine runG 1 (by kernel_rfl) rfl (by kernel_rfl) ?_
  go_simp
  refine (toFact_any ⟨x1, x2, x3⟩ _).mono ?_
  rintro e z12 ⟨rfl, b1⟩
  have h1 : Below z31.heap.size z31 z12 := hHeld.trans (b1.mono hHeld.size)
  refine ⟨h1, ?_⟩
  clear hHeld b1
  unfold FactV.val
  refine runG 3 (by kernel_rfl) rfl (by kernel_rfl) ?_
  go_simp
  refine (toFact_any ⟨y1, y2, y3⟩ _).mono ?_
  rintro e z22 ⟨rfl, b2⟩
  have h2 : Below z31.heap.size z31 z22 := h1.trans (b2.mono h1.size)
  refine ⟨h2, ?_⟩
  clear h1 b2
  unfold FactV.val
  refine runG 4 (by kernel_rfl) rfl (by kernel_rfl) ?_
  go_simp
  refine (factLess_is ⟨x1, x2, x3⟩ ⟨y1, y2, y3⟩ _ r HR.out).mono ?_
  rintro e z32 ⟨rfl, b3⟩
  have h3 : Below z31.heap.size z31 z32 := h2.trans (b3.mono h2.size)
  refine ⟨h3, ?_⟩
  clear h2 b3
  refine takeG 5 (v := .bool r) rfl (by kernel_rfl) (by kernel_rfl) (by kernel_rfl) (by kernel_rfl) (fun _ _ _ h => h) ?hy (by assumption) ?_
  case hy => (intro w' hSw; go_simp)
  try simp only [List.setIfInBounds_toArray, List.set_cons_zero, List.set_cons_succ]
  refine wpAnyH_done (by kernel_rfl) ?_ _
  have B6 := B3.trans (h3.mono B3.size)
  clear pa pb B3 h3 HR
  go_wp2
  go_ret
  exact ⟨rfl, B6⟩

set_option maxRecDepth 100000 in
theorem FnExactFactLess_lifted (os : Os) (started : os.Started) (H : Type) (enc : TypeId × Value → H) :
    ReturnsInHanded {} Try.checked os 5 .any (Rows.fnExactFactLessSpec.pre6 enc Try.prog Try.f5 Rows.fnExactFactLessRow.domain false) (Rows.fnExactFactLessSpec.post enc Try.prog Try.f5 false true false false) := by
  refine returnsInHanded_of_change (C := Try.checked) (by kernel_rfl) started (by kernel_rfl) Try.func5
    (ChangeSpec.witness6 (enc := enc) (C := Try.checked) false ⟨#[], #[.agg #[.int .i64 0, .int .i64 0, .int .i64 0], .agg #[.int .i64 0, .int .i64 0, .int .i64 0]], []⟩ 8 (by kernel_rfl) (by kernel_rfl) (by kernel_rfl) (by kernel_rfl)) ?_
  intro W base args ds gs before hval0 hW hcnd _
  have hval : ∀ (j : Nat) t v, Try.f5.params[j]? = some t → args[j]? = some v → Value.okWide Try.prog W .any base t v := hval0
  have hW' := hW
  obtain ⟨p, q, hA0, hV, rfl, hfz, hnd⟩ := hW
  have hA : DataW.TrodAll enc Try.prog W 0 (fun _ => true) true Try.f5.params.toList args.toList ds p := hA0
  rw [Try.params5] at hA hval
  obtain ⟨v0, vs0, d0, ds0, p0, q0, hargs, rfl, rfl, h0, r0⟩ := trodAll_cons hA
  obtain ⟨v1, vs1, d1, ds1, p1, q1, rfl, rfl, rfl, h1, r1⟩ := trodAll_cons r0
  obtain ⟨rfl, rfl, rfl⟩ := trodAll_nil r1
  obtain rfl : args = #[v0, v1] := by cases args; simp_all
  obtain ⟨rfl, rfl⟩ := trodVars_none hV
  have k0 := h0
  have lt0 : ∀ x ∈ p0, x.block < W.heap.size := by obtain ⟨m, hm⟩ := k0; exact DataW.trod_lt m _ _ _ hm
  obtain ⟨a0, rfl, w0⟩ := factVal_open (hval 0 47 v0 rfl rfl) h0
  have k1 := h1
  have lt1 : ∀ x ∈ p1, x.block < W.heap.size := by obtain ⟨m, hm⟩ := k1; exact DataW.trod_lt m _ _ _ hm
  obtain ⟨a1, rfl, w1⟩ := factVal_open (hval 1 47 v1 rfl rfl) h1
  clear hA0 hval0
  refine (FnExactFactLess_walk a0 a1 W w0 w1).mono fun e W' ⟨he, bel⟩ => ?_
  subst he
  exact ⟨_, rfl, _, _, _, [], _, [], hW', trodAll_mk1 (shut_bool Try.underlying4 _), (trodAll_cons_mk (Below.trod (show laidOutB Try.prog = true by kernel_rfl) (by kernel_rfl) (of_decide_eq_true (by kernel_rfl)) k0 bel lt0) (trodAll_cons_mk (Below.trod (show laidOutB Try.prog = true by kernel_rfl) (by kernel_rfl) (of_decide_eq_true (by kernel_rfl)) k1 bel lt1) trodAll_mk0)), rfl, bel.frame _, fun h => by cases h⟩
/-- The statement. -/
theorem FnExactFactLess_holds : Rows.FnExactFactLessSaid :=
  OpenClaim.holds_of_wide 5 Try.f5 rfl rfl rfl rfl rfl rfl rfl ⟨rfl, rfl, rfl, rfl, rfl⟩ rfl rfl rfl rfl rfl (by kernel_rfl) Try.func5 (by kernel_rfl)
    (of_decide_eq_true (by kernel_rfl)) (by unfold Func.isWrapper; first | (rw [if_pos (by decide +kernel)]; kernel_rfl) | (rw [if_neg (by decide +kernel)]; exact ⟨rfl, rfl⟩))
    (fun os started H enc _ => FnExactFactLess_lifted os started H enc)
#print axioms FnExactFactLess_holds

end Go.Proofs.Ytdgcmjhnglacnaa
