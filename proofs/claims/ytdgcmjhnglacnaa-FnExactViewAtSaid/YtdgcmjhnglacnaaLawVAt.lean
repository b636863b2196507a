/- Proved: laws.FnExactViewAt answers true at every list of facts and every node: ViewAt of the program and of the specification are one function, and write into no argument. No condition. -/
import Derived.Test.YtdgcmjhnglacnaaRows
import Derived.WalkKit
import Derived.ProofKit
import Derived.OpenShut
import Derived.ShutString
import Derived.ChangeOld
import Derived.Below
import Derived.Test.YtdgcmjhnglacnaaFactArgs
import Derived.Test.YtdgcmjhnglacnaaVAt
namespace Go.Proofs.Ytdgcmjhnglacnaa
open Go Go.ChangeShapes Go.WideShapes Go.ChangeAt Go.RowKit
open Go.ChangeMaps (open_string shut_string)
set_option linter.unusedVariables false

/-- A fact in a new box. -/
theorem fact_boxed (w : World) (x1 x2 x3 : Int) : ∃ W, w.alloc (.cells #[.int .i64 x1, .int .i64 x2, .int .i64 x3] 24) = W ∧ BlkIs W w.heap.size 24 #[.int .i64 x1, .int .i64 x2, .int .i64 x3] ∧ Below w.heap.size w W :=
  ⟨_, rfl, BlkIs.new w _ _, (Below.refl _ _).alloc (Nat.le_refl _) _⟩
set_option maxHeartbeats 2000000 in
set_option maxRecDepth 100000 in
theorem FnExactViewAt_walk (a0 : Option Addr) (cap0 : Nat) (l : List FactV) (a1 : Int) (w : World) (w0 : FactArg w a0 cap0 l) (w1 : (Lit.int .i64 a1).wf = true) :
    Calls Try.prog 8 #[.slice a0 l.length cap0, .int .i64 a1] w fun e w' => e = .returned (.bool true) ∧ Below w.heap.size w w' := by
  have hrow := w0.1
  have hlm : l.length ≤ 9223372036854775807 := Nat.le_trans w0.2.1 (by unfold maxLen; omega)
  obtain ⟨m, hm⟩ := atIs_ex l a1
  have HM : Hid (AtIs l a1 m) := hm
  clear hm w0
  go_enter Try.func8, Try.ntmps8
  go_wp2_with fail
  refine (szFacts_any a0 cap0 l.length 1048576 _ (by omega) (by omega) hlm).mono ?_
  rintro e x0 ⟨rfl, rfl⟩
  by_cases hs : (1048576 : Int) < ((l.length : Nat) : Int)
  · have e1 : leftOf 1048576 l.length = -1 := if_pos hs
    rw [e1]
    clear e1
    go_wp2
    go_ret
    exact ⟨rfl, Below.refl _ _⟩
  obtain ⟨q, hq⟩ : ∃ q : Int, leftOf 1048576 l.length = q := ⟨_, rfl⟩
  have hq0 : ¬ q < 0 := by rw [← hq]; unfold leftOf; rw [if_neg hs]; omega
  rw [hq]
  have hl : l.length ≤ 1048576 := by omega
  clear hq hs hlm
  go_wp2_with fail
  refine (toFacts_any a0 cap0 l _ hl hrow).mono ?_
  rintro e x1 ⟨rfl, o1, b01⟩
  have n1 := o1.row
  clear o1
  go_wp2_with fail
  refine (specAt_any _ _ l a1 m HM.out _ hl n1).mono ?_
  rintro e x2 ⟨rfl, b2⟩
  have b12 := b01.trans (b2.mono b01.size)
  clear b01 b2 n1
  obtain ⟨m1, m2, m3⟩ := m
  unfold FactV.val
  obtain ⟨y2, hy2, P6, c2⟩ := fact_boxed x2 m1 m2 m3
  have HY2 : Hid (_ = y2) := hy2
  have B2 := b12.trans (c2.mono b12.size)
  have hrow2 := hrow.keep B2
  clear b12 c2 hy2
  dsimp only
  go_wp2_with fail
  rw [HY2.out]
  clear HY2
  refine (toFacts_any a0 cap0 l _ hl hrow2).mono ?_
  rintro e x3 ⟨rfl, o3, b3⟩
  have n3 := o3.row
  have P63 := P6.keep b3
  have B3 := B2.trans (b3.mono B2.size)
  clear P6 B2 b3 o3 hrow2
  go_wp2_with fail
  refine (implAt_any _ _ l a1 ⟨m1, m2, m3⟩ HM.out _ hl n3).mono ?_
  rintro e x4 ⟨rfl, b4⟩
  have n4 := n3.keep b4
  have P64 := P63.keep b4
  have b14 := B3.trans (b4.mono B3.size)
  clear P63 n3 b4 B3
  unfold FactV.val
  obtain ⟨y4, hy4, P8, c4⟩ := fact_boxed x4 m1 m2 m3
  have HY4 : Hid (_ = y4) := hy4
  have B4 := b14.trans (c4.mono b14.size)
  have n4' := n4.keep c4
  have P6' := P64.keep c4
  have g0 := P6'.cell 0
  have g1 := P6'.cell 1
  have g2 := P6'.cell 2
  have h0 := P8.cell 0
  have h1 := P8.cell 1
  have h2 := P8.cell 2
  have hrow4 := hrow.keep B4
  clear b14 c4 hy4 n4 P64 P6' P8
  dsimp only
  go_upto_region 8 with fail
  rw [HY4.out]
  clear HY4
  go_wp2_with fail
  refine (eqFact_same ⟨m1, m2, m3⟩ _).mono ?_
  rintro e x5 ⟨rfl, b5⟩
  have n5 := n4'.keep b5
  have B5 := B4.trans (b5.mono B4.size)
  have hrow5 := hrow.keep B5
  clear B4 b5 g0 g1 g2 h0 h1 h2 n4' hrow4
  go_wp2_with fail
  refine (toFacts_any a0 cap0 l _ hl hrow5).mono ?_
  rintro e x6 ⟨rfl, o6, b6⟩
  have n6 := o6.row
  have n56 := n5.keep b6
  have B6 := B5.trans (b6.mono B5.size)
  clear B5 b6 o6 n5
  go_wp2_with fail
  refine (eqFacts_same _ _ _ _ l _ hl n56 n6).mono ?_
  rintro e x7 ⟨rfl, b7⟩
  have B7 := B6.trans (b7.mono B6.size)
  go_wp2
  go_ret
  exact ⟨rfl, B7⟩

set_option maxRecDepth 100000 in
theorem FnExactViewAt_lifted (os : Os) (started : os.Started) (H : Type) (enc : TypeId × Value → H) :
    ReturnsInHanded {} Try.checked os 8 .any (Rows.fnExactViewAtSpec.pre6 enc Try.prog Try.f8 Rows.fnExactViewAtRow.domain false) (Rows.fnExactViewAtSpec.post enc Try.prog Try.f8 false true false false) := by
  refine returnsInHanded_of_change (C := Try.checked) (by kernel_rfl) started (by kernel_rfl) Try.func8
    (ChangeSpec.witness6 (enc := enc) (C := Try.checked) false ⟨#[], #[.slice none 0 0, .int .i64 0], []⟩ 8 (by kernel_rfl) (by kernel_rfl) (by kernel_rfl) (by kernel_rfl)) ?_
  intro W base args ds gs before hval0 hW hcnd _
  have hval : ∀ (j : Nat) t v, Try.f8.params[j]? = some t → args[j]? = some v → Value.okWide Try.prog W .any base t v := hval0
  have hW' := hW
  obtain ⟨p, q, hA0, hV, rfl, hfz, hnd⟩ := hW
  have hA : DataW.TrodAll enc Try.prog W 0 (fun _ => true) true Try.f8.params.toList args.toList ds p := hA0
  rw [Try.params8] at hA hval
  obtain ⟨v0, vs0, d0, ds0, p0, q0, hargs, rfl, rfl, h0, r0⟩ := trodAll_cons hA
  obtain ⟨v1, vs1, d1, ds1, p1, q1, rfl, rfl, rfl, h1, r1⟩ := trodAll_cons r0
  obtain ⟨rfl, rfl, rfl⟩ := trodAll_nil r1
  obtain rfl : args = #[v0, v1] := by cases args; simp_all
  obtain ⟨rfl, rfl⟩ := trodVars_none hV
  obtain ⟨a0, len0, cap0, rfl⟩ := okWide_slice Try.underlying51 (hval 0 51 v0 rfl rfl)
  have k0 := h0
  have lt0 : ∀ x ∈ p0, x.block < W.heap.size := by obtain ⟨m, hm⟩ := k0; exact DataW.trod_lt m _ _ _ hm
  obtain ⟨l0, el0, w0⟩ : ∃ l, len0 = l.length ∧ FactArg W a0 cap0 l := by
    obtain ⟨fuel, hf⟩ := h0
    exact factArg_open (by simpa [Value.cells] using hf)
  subst el0
  obtain ⟨a1, rfl, rfl, rfl, w1⟩ := open_int Try.underlying2 (hval 1 2 v1 rfl rfl) h1
  clear hA0 hval0
  refine (FnExactViewAt_walk a0 cap0 l0 a1 W w0 w1).mono fun e W' ⟨he, bel⟩ => ?_
  subst he
  exact ⟨_, rfl, _, _, _, [], _, [], hW', trodAll_mk1 (shut_bool Try.underlying4 _), (trodAll_cons_mk (Below.trod (show laidOutB Try.prog = true by kernel_rfl) (by kernel_rfl) (of_decide_eq_true (by kernel_rfl)) k0 bel lt0) (trodAll_cons_mk (shut_int Try.underlying2 w1) trodAll_mk0)), rfl, bel.frame _, fun h => by cases h⟩
/-- The statement. -/
theorem FnExactViewAt_holds : Rows.FnExactViewAtSaid :=
  OpenClaim.holds_of_wide 8 Try.f8 rfl rfl rfl rfl rfl rfl rfl ⟨rfl, rfl, rfl, rfl, rfl⟩ rfl rfl rfl rfl rfl (by kernel_rfl) Try.func8 (by kernel_rfl)
    (of_decide_eq_true (by kernel_rfl)) (by unfold Func.isWrapper; first | (rw [if_pos (by decide +kernel)]; kernel_rfl) | (rw [if_neg (by decide +kernel)]; exact ⟨rfl, rfl⟩))
    (fun os started H enc _ => FnExactViewAt_lifted os started H enc)
#print axioms FnExactViewAt_holds

end Go.Proofs.Ytdgcmjhnglacnaa
