/- Proved: laws.FnExactUnseal answers true at every text: Unseal of the program and of the specification are one function. No condition but the card's own: the listed variable errors.errorType holds what the program's text lays. -/
import Derived.Test.YtgngegammingoaaDoorRows
import Derived.Test.YtgngegammingoaaDoorCards
import Derived.Test.YtgngegammingoaaDoorTie
import Derived.WalkKit
import Derived.ProofKit
import Derived.OpenShut
import Derived.ShutString
import Derived.ChangeOld
import Derived.Below
import Derived.LaidHandle
import Derived.LaidLaws
import Derived.ChangeVars
import Derived.SevenTiedAt
import Derived.Test.YtgngegammingoaaDoorUns
namespace Go.Proofs.YtgngegammingoaaDoor
open Go Go.ChangeShapes Go.WideShapes Go.ChangeAt Go.RowKit
open Go.ChangeMaps (open_string shut_string)
set_option linter.unusedVariables false

theorem eqText_any (t : ByteArray) (k c : Int) (w : World) : Calls Tryd.prog 28 #[.agg #[.string t, .int .i64 k, .int .i64 c], .agg #[.string t, .int .i64 k, .int .i64 c]] w fun e w' => e = .returned (.bool true) ∧ Below w.heap.size w w' := by
  go_enter Tryd.func28, Tryd.ntmps28
  go_wp2
  go_ret
  exact ⟨rfl, ((Below.refl _ _).alloc (Nat.le_refl _) _).alloc (by simp) _⟩

theorem below_six {w x1 x2 x3 : World} {o o' : Obj} (h1 : Below w.heap.size w x1) (h2 : Below (x1.alloc o).heap.size (x1.alloc o) x2) (h3 : Below (x2.alloc o').heap.size (x2.alloc o') x3) : Below w.heap.size w x3 := by
  have a1 := h1.alloc h1.size o
  have a2 := a1.trans (h2.mono a1.size)
  have a3 := a2.alloc a2.size o'
  exact a3.trans (h3.mono a3.size)
set_option maxHeartbeats 1000000 in
set_option maxRecDepth 100000 in
theorem FnExactUnseal_walk (a0 : ByteArray) (w0 : a0.size ≤ maxLen) (w : World) (hg : errCell w) :
    Calls Tryd.prog 7 #[.string a0] w fun e w' => e = .returned (.bool true) ∧ Below w.heap.size w w' := by
  by_cases hs : 1048576 < (a0.size : Int)
  · go_enter Tryd.func7, Tryd.ntmps7
    go_wp2
    go_ret
    exact ⟨rfl, Below.refl _ _⟩
  obtain ⟨t, k, c, e⟩ : ∃ t k c, getU a0 = (t, k, c) := ⟨_, _, _, rfl⟩
  have HE : Hid (getU a0 = (t, k, c)) := e
  clear e
  go_enter Tryd.func7, Tryd.ntmps7
  go_wp2_with (first | (go_at_call 29; refine (specUnseal_any _ _).mono ?_; rintro e x1 ⟨rfl, hb1⟩; rw [HE.out]; unfold textOut; have hg1 := hg.keep (hb1.alloc hb1.size (.cells #[.string t, .int .i64 k, .int .i64 c] 31))) | (go_at_call 20; refine (implUnseal_any _ _ hg1).mono ?_; rintro e x2 ⟨rfl, hb2⟩; rw [HE.out]; unfold textOut; obtain ⟨q0, q1, q2, _, _, _⟩ := three_kept (hb2.alloc hb2.size (.cells #[.string t, .int .i64 k, .int .i64 c] 31))) | (go_at_call 28; refine (eqText_any _ _ _ _).mono ?_; rintro e x3 ⟨rfl, hb3⟩))
  go_ret
  exact ⟨rfl, below_six hb1 hb2 hb3⟩

theorem FnExactUnseal_et : Tryd.prog.globalNamed "errors.errorType" = some 0 := by kernel_rfl
theorem FnExactUnseal_rt : (Tryd.prog.cutTypes.find? (·.1 == "internal/reflectlite.rtype")).map (·.2) = some 91 := by kernel_rfl
theorem FnExactUnseal_oneRow : ((List.range 133).filter fun t => Tryd.prog.rowNamed t [101, 114, 114, 111, 114]) = [51] := by kernel_rfl
theorem FnExactUnseal_size : Tryd.prog.types.size = 133 := by kernel_rfl
theorem FnExactUnseal_cell {W : World} (h : laidMetH Tryd.prog Rows.fnExactUnsealRow.laid W) : errCell W := by
  have h' : laidMet Tryd.prog [] W ∧ handlesMet Tryd.prog Rows.fnExactUnsealRow.laid W := h
  obtain ⟨name, u, ty, e1, e2, e3, e4, e5⟩ := h'.2 _ (List.mem_singleton.2 rfl)
  have en : name = [101, 114, 114, 111, 114] := (Option.some.inj e1).symm
  subst en
  obtain rfl := Option.some.inj (FnExactUnseal_rt.symm.trans e2)
  have hm : ty ∈ (List.range 133).filter fun t => Tryd.prog.rowNamed t [101, 114, 114, 111, 114] := List.mem_filter.2 ⟨List.mem_range.2 (by rw [← FnExactUnseal_size]; exact e3), e4⟩
  rw [FnExactUnseal_oneRow] at hm
  obtain rfl := List.mem_singleton.1 hm
  have hh : typeHandle Tryd.prog 51 = .pointer (some ⟨1, 51, none⟩) := by kernel_rfl
  rw [hh] at e5
  unfold errCell
  simpa using World.var?_cell FnExactUnseal_et e5 0
set_option maxRecDepth 100000 in
theorem FnExactUnseal_lifted (os : Os) (started : os.Started) (H : Type) (enc : TypeId × Value → H) :
    ReturnsInHanded {} Tryd.checked os 7 .any (fun w args => (Rows.fnExactUnsealSpec.pre enc Tryd.prog Tryd.f7 [] false w args ∧ laidMetH Tryd.prog Rows.fnExactUnsealRow.laid w) ∧ sizedMet enc Tryd.prog Tryd.f7 (OpenSpec.ofChange Rows.fnExactUnsealSpec) false w args)
      (Rows.fnExactUnsealSpec.post enc Tryd.prog Tryd.f7 false true false false) := by
  refine returnsInHanded_of_change_and (C := Tryd.checked) (X := fun w _ => laidMetH Tryd.prog Rows.fnExactUnsealRow.laid w) (fun _ _ _ hh h => h.of_heap hh) (by kernel_rfl) started (by kernel_rfl) Tryd.func7
    (ChangeSpec.witness_at (enc := enc) (C := Tryd.checked) (os := os) (X := fun w _ => laidMetH Tryd.prog Rows.fnExactUnsealRow.laid w) false (let w0 := World.holding Tryd.prog os ⟨#[], #[], []⟩; { w0 with heap := w0.heap.modify 0 fun | .cells _ t frozen => .cells #[.iface 91 (.agg #[.pointer (some ⟨1, 51, none⟩)])] t frozen | o => o }) #[.string ByteArray.empty] 8 rfl (by kernel_rfl) (by kernel_rfl) (by kernel_rfl) (by kernel_rfl) (by kernel_rfl) (laidMetH_of_parts (laidMet_nil _ _) (by kernel_rfl))) ?_
  intro W base args ds gs before hval0 hW _ _ hL _
  have hval : ∀ (j : Nat) t v, Tryd.f7.params[j]? = some t → args[j]? = some v → Value.okWide Tryd.prog W .any base t v := hval0
  have hW' := hW
  obtain ⟨p, q, hA0, hV0, rfl, hfz, hnd⟩ := hW
  have hA : DataW.TrodAll enc Tryd.prog W 0 (fun _ => true) true Tryd.f7.params.toList args.toList ds p := hA0
  have hV : DataW.TrodVars enc Tryd.prog W (fun _ => true) [] gs q := hV0
  rw [Tryd.params7] at hA hval
  obtain ⟨v0, vs0, d0, ds0, p0, q0, hargs, rfl, rfl, h0, r0⟩ := trodAll_cons hA
  obtain ⟨rfl, rfl, rfl⟩ := trodAll_nil r0
  obtain rfl : args = #[v0] := by cases args; simp_all
  obtain ⟨rfl, rfl⟩ : gs = [] ∧ q = [] := by
    cases gs with
    | nil => exact ⟨rfl, hV⟩
    | cons g r => exact absurd hV (by intro h; cases h)
  obtain ⟨a0, rfl, rfl, rfl, w0⟩ := open_string Tryd.underlying9 (hval 0 9 v0 rfl rfl) h0
  clear hA0 hval0
  refine (FnExactUnseal_walk a0 w0 W (FnExactUnseal_cell hL)).mono fun e W' ⟨he, bel⟩ => ?_
  subst he
  exact ⟨_, rfl, _, _, _, [], _, [], hW', trodAll_mk1 (shut_bool Tryd.underlying4 _), (trodAll_cons_mk (shut_string Tryd.underlying9 w0) trodAll_mk0), rfl, bel.frame _, fun h => by cases h⟩
theorem FnExactUnseal_row : Rows.FnExactUnsealSaid :=
  OpenClaim.holds_of_wide 7 Tryd.f7 rfl rfl rfl rfl rfl rfl rfl ⟨rfl, rfl, rfl, rfl, rfl⟩ rfl rfl rfl rfl rfl (by kernel_rfl) Tryd.func7 (by kernel_rfl)
    (of_decide_eq_true (by kernel_rfl)) (by unfold Func.isWrapper; rw [if_neg (of_decide_eq_false (by kernel_rfl))]; exact ⟨rfl, rfl⟩)
    (fun os started H enc _ => FnExactUnseal_lifted os started H enc)
/-- The statement. -/
theorem FnExactUnseal_holds : Rows.FnExactUnsealCardSaid :=
  Claim7.holds_tied_plain_at .later [] [.handle] true _ true
    FnExactUnseal_row (fun _ h => by cases h) (by kernel_rfl) (fun _ h => by cases h) fnExactUnseal_row_tie rfl ⟨rfl, rfl⟩ (by kernel_rfl) rfl
    (fun f fn hf hfn => by
      obtain rfl : f = 7 := Option.some.inj ((show Tryd.prog.funcNamed Rows.fnExactUnsealRow.func = some 7 by kernel_rfl).symm.trans hf) |>.symm
      obtain rfl : fn = Tryd.f7 := (Option.some.inj (Tryd.func7.symm.trans hfn)).symm
      exact ⟨by kernel_rfl, fun j t ht => by
        rw [Tryd.params7] at ht
        rcases j with _ | j
        · obtain rfl : t = 9 := by simpa using ht.symm
          exact (show Tryd.prog.wantsStandIn 9 = false by kernel_rfl)
        simp at ht⟩)
    (by kernel_rfl)
#print axioms FnExactUnseal_holds

end Go.Proofs.YtgngegammingoaaDoor
