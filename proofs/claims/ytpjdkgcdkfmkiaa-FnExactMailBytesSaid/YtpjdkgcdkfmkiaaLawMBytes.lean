/- Proved: laws.FnExactMailBytes answers true at every mail: MailBytes of the program and of the specification are one function, and write into no argument. No condition. -/
import Derived.Test.YtpjdkgcdkfmkiaaRows
import Derived.WalkKit
import Derived.ProofKit
import Derived.OpenShut
import Derived.ShutString
import Derived.ChangeOld
import Derived.Below
import Derived.Test.YtpjdkgcdkfmkiaaMHelp
import Derived.Test.YtpjdkgcdkfmkiaaMBytesI
import Derived.Test.YtpjdkgcdkfmkiaaMBytesS
namespace Go.Proofs.Ytpjdkgcdkfmkiaa
open Go Go.ChangeShapes Go.WideShapes Go.ChangeAt Go.RowKit
open Go.ChangeMaps (open_string shut_string)
set_option linter.unusedVariables false
set_option linter.unusedSimpArgs false

theorem mail_boxed (w : World) (m : MailA) (t : TypeId) : ∃ W, w.alloc (.cells #[.int .i64 m.k, .int .i64 m.f, .int .i64 m.t, .int .i64 m.n, .int .i64 m.a, .int .i64 m.r, .slice m.p m.l.length m.cap] t) = W ∧ BlkIs W w.heap.size t #[.int .i64 m.k, .int .i64 m.f, .int .i64 m.t, .int .i64 m.n, .int .i64 m.a, .int .i64 m.r, .slice m.p m.l.length m.cap] ∧ Below w.heap.size w W :=
  ⟨_, rfl, BlkIs.new w _ _, (Below.refl _ _).alloc (Nat.le_refl _) _⟩
set_option maxHeartbeats 1000000 in
set_option maxRecDepth 100000 in
theorem FnExactMailBytes_walk (m : MailA) (w : World) (w0 : FactArg w m.p m.cap m.l ∧ m.wf) :
    Calls Try.prog 4 #[m.val] w fun e w' => e = .returned (.bool true) ∧ Below w.heap.size w w' := by
  obtain ⟨k, f, t, n, a, r, p, cap, l⟩ := m
  obtain ⟨⟨hrow, hlm, _⟩, _⟩ := w0
  dsimp only at hrow hlm
  replace hlm : l.length ≤ 9223372036854775807 := Nat.le_trans hlm (by unfold maxLen; omega)
  obtain ⟨q, hq⟩ := tells_bool (MailV.ok ⟨k, f, t, n, a, r, l⟩)
  have HR : Hid (q = true ↔ MailV.ok ⟨k, f, t, n, a, r, l⟩) := hq
  clear hq
  obtain ⟨W, hW, P0, B0⟩ := mail_boxed w ⟨k, f, t, n, a, r, p, cap, l⟩ 24
  have HW : Hid (_ = W) := hW
  dsimp only at P0 HW
  clear hW
  unfold MailA.val
  dsimp only
  go_enter Try.func4, Try.ntmps4
  go_wp2_with fail
  rw [HW.out]
  clear HW
  refine (szMail_any ⟨k, f, t, n, a, r, p, cap, l⟩ 1048576 _ (by omega) (by omega) hlm).mono ?_
  rintro e x0 ⟨rfl, b⟩
  dsimp only
  replace P0 := P0.keep b
  replace B0 := B0.trans (b.mono B0.size)
  clear b
  by_cases hs : (1048576 : Int) < ((l.length : Nat) : Int)
  · have e1 : leftOf 1048576 l.length = -1 := if_pos hs
    rw [e1]
    clear e1
    go_wp2
    go_ret
    exact ⟨rfl, B0⟩
  obtain ⟨q0, hq⟩ : ∃ q : Int, leftOf 1048576 l.length = q := ⟨_, rfl⟩
  have hq0 : ¬ q0 < 0 := by rw [← hq]; unfold leftOf; rw [if_neg hs]; omega
  rw [hq]
  have hl : l.length ≤ 1048576 := by omega
  clear hq hs hlm
  have c0 := P0.cell 0
  have c1 := P0.cell 1
  have c2 := P0.cell 2
  have c3 := P0.cell 3
  have c4 := P0.cell 4
  have c5 := P0.cell 5
  have c6 := P0.cell 6
  simp only [List.getElem?_toArray, List.getElem?_cons_succ, List.getElem?_cons_zero] at c0 c1 c2 c3 c4 c5 c6
  go_wp2_with fail
  clear c0 c1 c2 c3 c4 c5 c6 hq0
  refine (toMail_any ⟨k, f, t, n, a, r, p, cap, l⟩ _ hl (hrow.keep B0)).mono ?_
  rintro e x1 ⟨g, rfl, o1, b⟩
  replace P0 := P0.keep b
  replace B0 := B0.trans (b.mono B0.size)
  have n1 := o1.row
  clear b o1
  unfold MailA.val
  dsimp only at n1 ⊢
  go_wp2_with fail
  refine (specMBytes_any k f t n a r _ _ l _ q HR.out hl n1).mono ?_
  rintro e x2 ⟨rfl, b⟩
  replace P0 := P0.keep b
  replace B0 := B0.trans (b.mono B0.size)
  clear b n1
  have c0 := P0.cell 0
  have c1 := P0.cell 1
  have c2 := P0.cell 2
  have c3 := P0.cell 3
  have c4 := P0.cell 4
  have c5 := P0.cell 5
  have c6 := P0.cell 6
  simp only [List.getElem?_toArray, List.getElem?_cons_succ, List.getElem?_cons_zero] at c0 c1 c2 c3 c4 c5 c6
  go_wp2_with fail
  clear c0 c1 c2 c3 c4 c5 c6
  refine (toMail_any ⟨k, f, t, n, a, r, p, cap, l⟩ _ hl (hrow.keep B0)).mono ?_
  rintro e x3 ⟨g', rfl, o3, b⟩
  replace P0 := P0.keep b
  replace B0 := B0.trans (b.mono B0.size)
  have n3 := o3.row
  clear b o3
  unfold MailA.val
  dsimp only at n3 ⊢
  obtain ⟨y3, hy3, P3, b⟩ := mail_boxed x3 ⟨k, f, t, n, a, r, some ⟨g', 0, none⟩, l.length, l⟩ 29
  dsimp only at hy3 P3
  obtain ⟨k3, hk3⟩ : ∃ k3, x3.heap.size = k3 := ⟨_, rfl⟩
  replace n3 := n3.keep b
  replace P0 := P0.keep b
  replace B0 := B0.trans (b.mono B0.size)
  rw [hk3] at P3
  have HY : Hid (_ = y3) := hy3
  have HK : Hid (x3.heap.size = k3) := hk3
  clear b hy3 hk3
  go_upto_region 7 with fail
  rw [HY.out, HK.out]
  clear HY HK
  have d0 := P3.cell 0
  have d1 := P3.cell 1
  have d2 := P3.cell 2
  have d3 := P3.cell 3
  have d4 := P3.cell 4
  have d5 := P3.cell 5
  have d6 := P3.cell 6
  simp only [List.getElem?_toArray, List.getElem?_cons_succ, List.getElem?_cons_zero] at d0 d1 d2 d3 d4 d5 d6
  go_wp2_with fail
  clear d0 d1 d2 d3 d4 d5 d6
  refine (implMBytes_any k f t n a r _ _ l _ q HR.out hl n3).mono ?_
  rintro e x4 ⟨rfl, b⟩
  replace n3 := n3.keep b
  replace P0 := P0.keep b
  replace P3 := P3.keep b
  replace B0 := B0.trans (b.mono B0.size)
  clear b
  go_upto_region 10 with fail
  refine wp_region_held_drew (S := (fun w' => Below x4.heap.size x4 w')) (by kernel_rfl) ?hS0 (fun hHeld => ?_)
  case hS0 => exact (Below.refl _ _).drew
  refine takeG 0 (v := .agg #[.int .i64 k, .int .i64 f, .int .i64 t, .int .i64 n, .int .i64 a, .int .i64 r, .slice (some ⟨g', 0, none⟩) l.length l.length]) rfl (by kernel_rfl) (by kernel_rfl) (by kernel_rfl) (by kernel_rfl) (fun _ _ _ h => h) ?hy (by assumption) ?_
  case hy => (intro w' hSw; obtain ⟨s0, s1, s2, s3, s4, s5, s6⟩ := blk7_cells ((P3).keep hSw); go_simp)
  try simp only [List.setIfInBounds_toArray, List.set_cons_zero, List.set_cons_succ]
  refine takeG 1 (v := .agg #[.int .i64 k, .int .i64 f, .int .i64 t, .int .i64 n, .int .i64 a, .int .i64 r, .slice p l.length cap]) rfl (by kernel_rfl) (by kernel_rfl) (by kernel_rfl) (by kernel_rfl) (fun _ _ _ h => h) ?hy (by assumption) ?_
  case hy => (intro w' hSw; obtain ⟨s0, s1, s2, s3, s4, s5, s6⟩ := blk7_cells ((P0).keep hSw); go_simp)
  try simp only [List.setIfInBounds_toArray, List.set_cons_zero, List.set_cons_succ]
  refine runG 2 (by kernel_rfl) rfl (by kernel_rfl) ?_
  go_simp
  have B5 := B0.trans (hHeld.mono B0.size)
  have n5 := n3.keep hHeld
  refine (toMail_any ⟨k, f, t, n, a, r, p, cap, l⟩ _ hl (hrow.keep B5)).mono ?_
  rintro e x5 ⟨g2, rfl, o5, b⟩
  replace B5 := B5.trans (b.mono B5.size)
  replace n5 := n5.keep b
  have n6 := o5.row
  have hz : Below x4.heap.size x4 x5 := hHeld.trans (b.mono hHeld.size)
  refine ⟨hz, ?_⟩
  clear hHeld b o5
  try simp only [Act.put, List.setIfInBounds_toArray, List.set_cons_zero, List.set_cons_succ]
  dsimp only at n6
  refine runG 3 (by kernel_rfl) rfl (by kernel_rfl) ?_
  go_simp
  refine (eqMail_same k f t n a r _ _ _ _ l _ hl n5 n6).mono ?_
  rintro e x6 ⟨rfl, b⟩
  have B6 := B5.trans (b.mono B5.size)
  have hz2 : Below x4.heap.size x4 x6 := hz.trans (b.mono hz.size)
  refine ⟨hz2, ?_⟩
  clear hz b
  try simp only [Act.put, List.setIfInBounds_toArray, List.set_cons_zero, List.set_cons_succ]
  refine takeG 4 (v := .bool false) rfl (by kernel_rfl) (by kernel_rfl) (by kernel_rfl) (by kernel_rfl) (fun _ _ _ h => h) ?hy (by assumption) ?_
  case hy => (intro w' hSw; go_simp)
  try simp only [List.setIfInBounds_toArray, List.set_cons_zero, List.set_cons_succ]
  refine wpAnyH_done (by kernel_rfl) ?_ _
  go_wp2
  go_ret
  exact ⟨rfl, B6⟩

set_option maxRecDepth 100000 in
theorem FnExactMailBytes_lifted (os : Os) (started : os.Started) (H : Type) (enc : TypeId × Value → H) :
    ReturnsInHanded {} Try.checked os 4 .any (Rows.fnExactMailBytesSpec.pre6 enc Try.prog Try.f4 Rows.fnExactMailBytesRow.domain false) (Rows.fnExactMailBytesSpec.post enc Try.prog Try.f4 false true false false) := by
  refine returnsInHanded_of_change (C := Try.checked) (by kernel_rfl) started (by kernel_rfl) Try.func4
    (ChangeSpec.witness6 (enc := enc) (C := Try.checked) false ⟨#[], #[.agg #[.int .i64 0, .int .i64 0, .int .i64 0, .int .i64 0, .int .i64 0, .int .i64 0, .slice none 0 0]], []⟩ 8 (by kernel_rfl) (by kernel_rfl) (by kernel_rfl) (by kernel_rfl)) ?_
  intro W base args ds gs before hval0 hW hcnd _
  have hval : ∀ (j : Nat) t v, Try.f4.params[j]? = some t → args[j]? = some v → Value.okWide Try.prog W .any base t v := hval0
  have hW' := hW
  obtain ⟨p, q, hA0, hV, rfl, hfz, hnd⟩ := hW
  have hA : DataW.TrodAll enc Try.prog W 0 (fun _ => true) true Try.f4.params.toList args.toList ds p := hA0
  rw [Try.params4] at hA hval
  obtain ⟨v0, vs0, d0, ds0, p0, q0, hargs, rfl, rfl, h0, r0⟩ := trodAll_cons hA
  obtain ⟨rfl, rfl, rfl⟩ := trodAll_nil r0
  obtain rfl : args = #[v0] := by cases args; simp_all
  obtain ⟨rfl, rfl⟩ := trodVars_none hV
  have k0 := h0
  have lt0 : ∀ x ∈ p0, x.block < W.heap.size := by obtain ⟨m, hm⟩ := k0; exact DataW.trod_lt m _ _ _ hm
  obtain ⟨a0, rfl, w0⟩ := mailVal_open (hval 0 24 v0 rfl rfl) h0
  clear hA0 hval0
  refine (FnExactMailBytes_walk a0 W w0).mono fun e W' ⟨he, bel⟩ => ?_
  subst he
  exact ⟨_, rfl, _, _, _, [], _, [], hW', trodAll_mk1 (shut_bool Try.underlying4 _), (trodAll_cons_mk (Below.trod (show laidOutB Try.prog = true by kernel_rfl) (by kernel_rfl) (of_decide_eq_true (by kernel_rfl)) k0 bel lt0) trodAll_mk0), rfl, bel.frame _, fun h => by cases h⟩
/-- The statement. -/
theorem FnExactMailBytes_holds : Rows.FnExactMailBytesSaid :=
  OpenClaim.holds_of_wide 4 Try.f4 rfl rfl rfl rfl rfl rfl rfl ⟨rfl, rfl, rfl, rfl, rfl⟩ rfl rfl rfl rfl rfl (by kernel_rfl) Try.func4 (by kernel_rfl)
    (of_decide_eq_true (by kernel_rfl)) (by unfold Func.isWrapper; first | (rw [if_pos (by decide +kernel)]; kernel_rfl) | (rw [if_neg (by decide +kernel)]; exact ⟨rfl, rfl⟩))
    (fun os started H enc _ => FnExactMailBytes_lifted os started H enc)
#print axioms FnExactMailBytes_holds

end Go.Proofs.Ytpjdkgcdkfmkiaa
