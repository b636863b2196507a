/- Proved: laws.FnExactTurnRight answers true at every turn: TurnRight of the program and of the specification are one function, and write into no argument. No condition. -/
import Derived.Test.YtpjmhaegdnahmaaRows
import Derived.WalkKit
import Derived.ProofKit
import Derived.OpenShut
import Derived.ShutString
import Derived.ChangeOld
import Derived.Below
import Derived.Test.YtpjmhaegdnahmaaTArgs
namespace Go.Proofs.Ytpjmhaegdnahmaa
open Go Go.ChangeShapes Go.WideShapes Go.ChangeAt Go.RowKit
open Go.ChangeMaps (open_string shut_string)
set_option linter.unusedVariables false
set_option linter.unusedSimpArgs false

set_option maxHeartbeats 4000000 in
set_option maxRecDepth 100000 in
theorem FnExactTurnRight_walk (a0 : TurnA) (w : World) (w0 : NumArg w a0.p a0.cap a0.l ∧ a0.l.length ≤ 9223372036854775807) :
    Calls Try.prog 4 #[a0.val] w fun e w' => e = .returned (.bool true) ∧ Below w.heap.size w w' := by
  have hrow0 := w0.1.1
  have hlm := w0.2
  obtain ⟨r, hr⟩ := tells_bool (TurnV.ok ⟨a0.l, a0.at0⟩)
  obtain ⟨p, cap, l, at0⟩ := a0
  dsimp only at hrow0 hr hlm
  have HR : Hid (r = true ↔ TurnV.ok ⟨l, at0⟩) := hr
  clear hr w0
  have P := BlkIs.new w 41 #[.slice p l.length cap, .int .i64 at0]
  have B := (Below.refl w.heap.size w).alloc (Nat.le_refl _) (.cells #[.slice p l.length cap, .int .i64 at0] 41)
  have hrow := hrow0.keep B
  obtain ⟨W, hW⟩ : ∃ W, w.alloc (.cells #[.slice p l.length cap, .int .i64 at0] 41) = W := ⟨_, rfl⟩
  rw [hW] at P B hrow
  have HW : Hid (_ = W) := hW
  clear hW
  unfold TurnA.val
  go_enter Try.func4, Try.ntmps4
  go_upto_region 2 with fail
  rw [HW.out]
  clear HW
  have cc0 : W.cell? ⟨w.heap.size, 0, none⟩ = some (.slice p l.length cap) := P.cell 0
  have cc1 : W.cell? ⟨w.heap.size, 1, none⟩ = some (.int .i64 at0) := P.cell 1
  go_wp2_with fail
  refine (szTurn_any ⟨p, cap, l, at0⟩ 1048576 _ (by omega) (by omega) hlm).mono ?_
  rintro e x1 ⟨rfl, bb⟩
  clear cc0 cc1
  replace P := P.keep bb
  replace hrow := hrow.keep bb
  replace B := B.trans (bb.mono B.size)
  clear bb
  by_cases hsl : (1048576 : Int) < ((l.length : Nat) : Int)
  · have e1 : leftT 1048576 l.length = -1 := if_pos hsl
    dsimp only
    rw [e1]
    clear e1
    go_wp2
    go_ret
    exact ⟨rfl, B⟩
  obtain ⟨ql, hql⟩ : ∃ q : Int, leftT 1048576 l.length = q := ⟨_, rfl⟩
  have hq0l : ¬ ql < 0 := by rw [← hql]; unfold leftT; rw [if_neg hsl]; omega
  dsimp only
  rw [hql]
  have hll : l.length ≤ 1048576 := by omega
  clear hql hsl hlm
  have cc0 : x1.cell? ⟨w.heap.size, 0, none⟩ = some (.slice p l.length cap) := P.cell 0
  have cc1 : x1.cell? ⟨w.heap.size, 1, none⟩ = some (.int .i64 at0) := P.cell 1
  go_wp2_with fail
  refine (toTurn_any p cap l at0 _ hll hrow).mono ?_
  rintro e x2 ⟨g1, rfl, og1, hbg1, bb⟩
  clear cc0 cc1
  replace P := P.keep bb
  replace hrow := hrow.keep bb
  replace B := B.trans (bb.mono B.size)
  clear bb
  unfold turnV
  have cc0 : x2.cell? ⟨w.heap.size, 0, none⟩ = some (.slice p l.length cap) := P.cell 0
  have cc1 : x2.cell? ⟨w.heap.size, 1, none⟩ = some (.int .i64 at0) := P.cell 1
  go_wp2_with fail
  refine (specTRight_is _ _ ⟨l, at0⟩ _ r HR.out hll (Nat.le_refl _) og1.row).mono ?_
  rintro e x3 ⟨rfl, bb⟩
  clear cc0 cc1
  replace P := P.keep bb
  replace hrow := hrow.keep bb
  replace og1 := og1.keep bb
  replace B := B.trans (bb.mono B.size)
  clear bb
  clear og1 hbg1
  have cc0 : x3.cell? ⟨w.heap.size, 0, none⟩ = some (.slice p l.length cap) := P.cell 0
  have cc1 : x3.cell? ⟨w.heap.size, 1, none⟩ = some (.int .i64 at0) := P.cell 1
  go_wp2_with fail
  refine (toTurn_any p cap l at0 _ hll hrow).mono ?_
  rintro e x4 ⟨g3, rfl, og3, hbg3, bb⟩
  clear cc0 cc1
  replace P := P.keep bb
  replace hrow := hrow.keep bb
  replace B := B.trans (bb.mono B.size)
  clear bb
  unfold turnV
  have aX := (Below.refl x4.heap.size x4).alloc (Nat.le_refl _) (.cells #[.slice (some ⟨g3, 0, none⟩) l.length l.length, .int .i64 at0] 25)
  have OX := BlkIs.new x4 25 #[.slice (some ⟨g3, 0, none⟩) l.length l.length, .int .i64 at0]
  replace P := P.keep aX
  replace hrow := hrow.keep aX
  replace og3 := og3.keep aX
  replace B := B.trans (aX.mono B.size)
  have hxyX : x4.heap.size < (x4.alloc (.cells #[.slice (some ⟨g3, 0, none⟩) l.length l.length, .int .i64 at0] 25)).heap.size := by simp
  obtain ⟨yX, hyX⟩ : ∃ y, x4.alloc (.cells #[.slice (some ⟨g3, 0, none⟩) l.length l.length, .int .i64 at0] 25) = y := ⟨_, rfl⟩
  obtain ⟨kX, hkX⟩ : ∃ k, x4.heap.size = k := ⟨_, rfl⟩
  rw [hyX] at OX B hxyX P hrow og3
  rw [hkX] at OX hxyX
  have HYX : Hid (_ = yX) := hyX
  have HKX : Hid (x4.heap.size = kX) := hkX
  clear hyX aX
  have cc0 : yX.cell? ⟨w.heap.size, 0, none⟩ = some (.slice p l.length cap) := P.cell 0
  have cc1 : yX.cell? ⟨w.heap.size, 1, none⟩ = some (.int .i64 at0) := P.cell 1
  have cc2 : yX.cell? ⟨kX, 0, none⟩ = some (.slice (some ⟨g3, 0, none⟩) l.length l.length) := OX.cell 0
  have cc3 : yX.cell? ⟨kX, 1, none⟩ = some (.int .i64 at0) := OX.cell 1
  go_wp2_with fail
  rw [HYX.out]
  clear HYX hkX
  refine (implTRight_is _ _ ⟨l, at0⟩ _ r HR.out hll (Nat.le_refl _) og3.row).mono ?_
  rintro e x5 ⟨rfl, bb⟩
  clear cc0 cc1 cc2 cc3
  replace P := P.keep bb
  replace hrow := hrow.keep bb
  replace og3 := og3.keep bb
  replace OX := OX.keep bb
  replace B := B.trans (bb.mono B.size)
  clear bb
  have cc0 : x5.cell? ⟨w.heap.size, 0, none⟩ = some (.slice p l.length cap) := P.cell 0
  have cc1 : x5.cell? ⟨w.heap.size, 1, none⟩ = some (.int .i64 at0) := P.cell 1
  have cc2 : x5.cell? ⟨kX, 0, none⟩ = some (.slice (some ⟨g3, 0, none⟩) l.length l.length) := OX.cell 0
  have cc3 : x5.cell? ⟨kX, 1, none⟩ = some (.int .i64 at0) := OX.cell 1
  go_upto_region 10 with fail
  refine wp_region_held_drew (S := fun w' => Below x5.heap.size x5 w') (by kernel_rfl) ?hS0 (fun hHeld => ?_)
  case hS0 => exact (Below.refl _ _).drew
  refine takeG 0 (v := .agg #[.slice (some ⟨g3, 0, none⟩) l.length l.length, .int .i64 at0]) rfl (by kernel_rfl) (by kernel_rfl) (by kernel_rfl) (by kernel_rfl) (fun _ _ _ h => h) ?hy (by assumption) ?_
  case hy => (intro w' hSw; have s0 := show w'.cell? ⟨kX, 0, none⟩ = some (.slice (some ⟨g3, 0, none⟩) l.length l.length) from (OX.keep hSw).cell 0; (try dsimp only at s0); have s1 := show w'.cell? ⟨kX, 1, none⟩ = some (.int .i64 at0) from (OX.keep hSw).cell 1; (try dsimp only at s1); go_simp)
  try simp only [List.setIfInBounds_toArray, List.set_cons_zero, List.set_cons_succ]
  refine takeG 1 (v := .agg #[.slice p l.length cap, .int .i64 at0]) rfl (by kernel_rfl) (by kernel_rfl) (by kernel_rfl) (by kernel_rfl) (fun _ _ _ h => h) ?hy (by assumption) ?_
  case hy => (intro w' hSw; have s0 := show w'.cell? ⟨w.heap.size, 0, none⟩ = some (.slice p l.length cap) from (P.keep hSw).cell 0; (try dsimp only at s0); have s1 := show w'.cell? ⟨w.heap.size, 1, none⟩ = some (.int .i64 at0) from (P.keep hSw).cell 1; (try dsimp only at s1); go_simp)
  try simp only [List.setIfInBounds_toArray, List.set_cons_zero, List.set_cons_succ]
  refine runG 2 (by kernel_rfl) rfl (by kernel_rfl) ?_
  go_simp
  refine (toTurn_any p cap l at0 _ hll (hrow.keep hHeld)).mono ?_
  rintro e x6 ⟨g4, rfl, og4, _, b4⟩
  unfold turnV
  have b5 : Below x5.heap.size x5 x6 := hHeld.trans (b4.mono hHeld.size)
  clear b4
  refine ⟨b5, ?_⟩
  try simp only [Act.put, List.setIfInBounds_toArray, List.set_cons_zero, List.set_cons_succ]
  refine runG 3 (by kernel_rfl) rfl (by kernel_rfl) ?_
  go_simp
  refine (eqTurn_same _ _ _ _ l at0 _ hll (og3.keep b5).row og4.row).mono ?_
  rintro e x7 ⟨rfl, b6⟩
  have bb : Below x5.heap.size x5 x7 := b5.trans (b6.mono b5.size)
  clear b6 b5
  refine ⟨bb, ?_⟩
  try simp only [Act.put, List.setIfInBounds_toArray, List.set_cons_zero, List.set_cons_succ]
  refine takeG 4 (v := .bool false) rfl (by kernel_rfl) (by kernel_rfl) (by kernel_rfl) (by kernel_rfl) (fun _ _ _ h => h) ?hy (by assumption) ?_
  case hy => (intro w' hSw; go_simp)
  try simp only [List.setIfInBounds_toArray, List.set_cons_zero, List.set_cons_succ]
  refine wpAnyH_done (by kernel_rfl) ?_ _
  clear og4 cc0 cc1 cc2 cc3
  replace P := P.keep bb
  replace hrow := hrow.keep bb
  replace og3 := og3.keep bb
  replace OX := OX.keep bb
  replace B := B.trans (bb.mono B.size)
  clear bb
  clear og3 OX
  have cc0 : x7.cell? ⟨w.heap.size, 0, none⟩ = some (.slice p l.length cap) := P.cell 0
  have cc1 : x7.cell? ⟨w.heap.size, 1, none⟩ = some (.int .i64 at0) := P.cell 1
  go_wp2
  go_ret
  exact ⟨rfl, B⟩

set_option maxRecDepth 100000 in
theorem FnExactTurnRight_lifted (os : Os) (started : os.Started) (H : Type) (enc : TypeId × Value → H) :
    ReturnsInHanded {} Try.checked os 4 .any (Rows.fnExactTurnRightSpec.pre6 enc Try.prog Try.f4 Rows.fnExactTurnRightRow.domain false) (Rows.fnExactTurnRightSpec.post enc Try.prog Try.f4 false true false false) := by
  refine returnsInHanded_of_change (C := Try.checked) (by kernel_rfl) started (by kernel_rfl) Try.func4
    (ChangeSpec.witness6 (enc := enc) (C := Try.checked) false ⟨#[], #[.agg #[.slice none 0 0, .int .i64 0]], []⟩ 8 (by kernel_rfl) (by kernel_rfl) (by kernel_rfl) (by kernel_rfl)) ?_
  intro W base args ds gs before hval0 hW hcnd _
  have hval : ∀ (j : Nat) t v, Try.f4.params[j]? = some t → args[j]? = some v → Value.okWide Try.prog W .any base t v := hval0
  have hW' := hW
  obtain ⟨p, q, hA0, hV, rfl, hfz, hnd⟩ := hW
  have hA : DataW.TrodAll enc Try.prog W 0 (fun _ => true) true Try.f4.params.toList args.toList ds p := hA0
  rw [Try.params4] at hA hval
  obtain ⟨v0, vs0, d0, ds0, p0, q0, hargs, rfl, rfl, h0, r0⟩ := trodAll_cons hA
  obtain ⟨rfl, rfl, rfl⟩ := trodAll_nil r0
  obtain rfl : args = #[v0] := by cases args; simp_all
  obtain ⟨rfl, rfl⟩ := trodVars_none hV
  have k0 := h0
  have lt0 : ∀ x ∈ p0, x.block < W.heap.size := by obtain ⟨m, hm⟩ := k0; exact DataW.trod_lt m _ _ _ hm
  obtain ⟨a0, rfl, w0⟩ := turnVal_open (hval 0 41 v0 rfl rfl) h0
  clear hA0 hval0
  refine (FnExactTurnRight_walk a0 W w0).mono fun e W' ⟨he, bel⟩ => ?_
  subst he
  exact ⟨_, rfl, _, _, _, [], _, [], hW', trodAll_mk1 (shut_bool Try.underlying4 _), (trodAll_cons_mk (Below.trod (show laidOutB Try.prog = true by kernel_rfl) (by kernel_rfl) (of_decide_eq_true (by kernel_rfl)) k0 bel lt0) trodAll_mk0), rfl, bel.frame _, fun h => by cases h⟩
/-- The statement. -/
theorem FnExactTurnRight_holds : Rows.FnExactTurnRightSaid :=
  OpenClaim.holds_of_wide 4 Try.f4 rfl rfl rfl rfl rfl rfl rfl ⟨rfl, rfl, rfl, rfl, rfl⟩ rfl rfl rfl rfl rfl (by kernel_rfl) Try.func4 (by kernel_rfl)
    (of_decide_eq_true (by kernel_rfl)) (by unfold Func.isWrapper; first | (rw [if_pos (by decide +kernel)]; kernel_rfl) | (rw [if_neg (by decide +kernel)]; exact ⟨rfl, rfl⟩))
    (fun os started H enc _ => FnExactTurnRight_lifted os started H enc)
#print axioms FnExactTurnRight_holds

end Go.Proofs.Ytpjmhaegdnahmaa
