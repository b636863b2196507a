/- Proved: laws.FnExactPlanText answers true at every list of items, in every world that holds the three tables that its row lists: PlanText of the program and of the specification are one function, and write into no argument. No other condition. -/
import Derived.Test.YtddlccepgeekcaaDoorRows
import Derived.Test.YtddlccepgeekcaaDoorCards
import Derived.Test.YtddlccepgeekcaaDoorTie
import Derived.Test.YtddlccepgeekcaaDoorItArgs
import Derived.Test.YtddlccepgeekcaaDoorTxP
import Derived.Test.YtddlccepgeekcaaDoorTxT
import Derived.WalkKit
import Derived.ProofKit
import Derived.OpenShut
import Derived.Below
import Derived.Deep.DeepHandedRow
import Derived.Lib.LaidTab
import Derived.Stop.LaidErr
import Derived.SevenTiedAt
import Derived.ChangeVars
namespace Go.Proofs.YtddlccepgeekcaaDoor
open Go Go.ChangeShapes Go.WideShapes Go.ChangeAt Go.RowKit
set_option linter.unusedVariables false

set_option maxHeartbeats 1000000 in
set_option maxRecDepth 100000 in
theorem FnExactPlanText_walk (a0 : Option Addr) (cap0 : Nat) (l : List ItemV) (w : World) (w0 : ItemArg w a0 cap0 l) (ht : Tab w) :
    Calls Tryd.prog 3 #[.slice a0 l.length cap0] w fun e w' => e = .returned (.bool true) ∧ Below w.heap.size w w' := by
  have hrow := w0.1
  have hlm : l.length ≤ 9223372036854775807 := Nat.le_trans w0.2.1 (by unfold maxLen; omega)
  obtain ⟨t, hT⟩ := textIs_ex l
  have HT : Hid (TextIs l t) := hT
  clear hT w0
  go_enter Tryd.func3, Tryd.ntmps3
  go_wp2_with fail
  refine (szItems_any a0 cap0 l.length 1048576 _ (by omega) (by omega) hlm).mono ?_
  rintro e x0 ⟨rfl, rfl⟩
  by_cases hs : (1048576 : Int) < ((l.length : Nat) : Int)
  · have e1 : leftOf 1048576 l.length = -1 := if_pos hs
    rw [e1]
    clear e1
    go_wp2
    go_ret
    exact ⟨rfl, Below.refl _ _⟩
  obtain ⟨q, hq⟩ : ∃ q : Int, leftOf 1048576 l.length = q := ⟨_, rfl⟩
  have hq0 : ¬ q < 0 := by rw [← hq]; unfold leftOf; rw [if_neg hs]; omega
  rw [hq]
  have hl : l.length ≤ 1048576 := by omega
  clear hq hs hlm
  go_wp2_with fail
  refine (toItems_any a0 cap0 l _ hl hrow).mono ?_
  rintro e x1 ⟨rfl, o1, b01⟩
  have n1 := o1.row
  clear o1
  go_wp2_with fail
  refine (specPText_any _ _ l t HT.out _ hl n1).mono ?_
  rintro e x2 ⟨rfl, b2⟩
  have b12 := b01.trans (b2.mono b01.size)
  have hrow2 := hrow.keep b12
  clear b01 b2 n1
  go_wp2_with fail
  refine (toItems_any a0 cap0 l _ hl hrow2).mono ?_
  rintro e x3 ⟨rfl, o3, b3⟩
  have n3 := o3.row
  have b13 := b12.trans (b3.mono b12.size)
  have ht3 := ht.keep b13
  clear b12 b3 o3 hrow2
  go_wp2_with fail
  refine (implPText_any _ _ l t HT.out _ hl ht3 n3).mono ?_
  rintro e x4 ⟨rfl, b4⟩
  have n4 := n3.keep b4
  have b14 := b13.trans (b4.mono b13.size)
  have hrow4 := hrow.keep b14
  clear b13 b4 n3 ht3
  go_wp2_with fail
  refine (toItems_any a0 cap0 l _ hl hrow4).mono ?_
  rintro e x5 ⟨rfl, o5, b5⟩
  have n5 := o5.row
  have n45 := n4.keep b5
  have b15 := b14.trans (b5.mono b14.size)
  clear b14 b5 o5 n4
  go_wp2_with fail
  refine (eqItems_same _ _ _ _ l _ hl n45 n5).mono ?_
  rintro e x6 ⟨rfl, b6⟩
  have b16 := b15.trans (b6.mono b15.size)
  go_wp2
  go_ret
  exact ⟨rfl, b16⟩

theorem FnExactPlanText_own : ownKnob Tryd.prog.godebug = none := by kernel_rfl
theorem FnExactPlanText_gty : (Tryd.prog.globals[0]?).map (·.type) = some 83 := by kernel_rfl
theorem FnExactPlanText_c83 : Tryd.prog.cellsOf 83 = 20 := by kernel_rfl
theorem FnExactPlanText_c53 : Tryd.prog.cellsOf 68 = 1 := by kernel_rfl
/-- What the row's list gives: the table of powers. -/
theorem FnExactPlanText_tab {W : World} (h : laidMetH Tryd.prog Rows.fnExactPlanTextRow.laid W) : Tab W := by
  have h' : laidMet Tryd.prog Rows.fnExactPlanTextRow.laid W := h
  have h2 := h'.tail.tail
  exact Lib.tabIs_of_head (rest := []) powGlobal FnExactPlanText_gty Tryd.underlying83 Tryd.underlying68 FnExactPlanText_c53 FnExactPlanText_c83 h2
theorem FnExactPlanText_met (os : Os) : laidMet Tryd.prog Rows.fnExactPlanTextRow.laid ((let w0 := World.holding Tryd.prog os ⟨#[], #[], []⟩; { w0 with heap := ((w0.heap.modify 0 fun | .cells _ t frozen => .cells (([1, 10, 100, 1000, 10000, 100000, 1000000, 10000000, 100000000, 1000000000, 10000000000, 100000000000, 1000000000000, 10000000000000, 100000000000000, 1000000000000000, 10000000000000000, 100000000000000000, 1000000000000000000, 10000000000000000000] : List Int).map fun z => Value.int .u64 z).toArray t frozen | o => o).modify 2 fun | .cells _ t frozen => .cells (([0, 1, 28, 2, 29, 14, 24, 3, 30, 22, 20, 15, 25, 17, 4, 8, 31, 27, 13, 23, 21, 19, 16, 7, 26, 12, 18, 6, 11, 5, 10, 9] : List Int).map fun z => Value.int .u8 z).toArray t frozen | o => o).modify 3 fun | .cells _ t frozen => .cells (([0, 1, 56, 2, 57, 49, 28, 3, 61, 58, 42, 50, 38, 29, 17, 4, 62, 47, 59, 36, 45, 43, 51, 22, 53, 39, 33, 30, 24, 18, 12, 5, 63, 55, 48, 27, 60, 41, 37, 16, 46, 35, 44, 21, 52, 32, 23, 11, 54, 26, 40, 15, 34, 20, 31, 10, 25, 14, 19, 9, 13, 8, 7, 6] : List Int).map fun z => Value.int .u8 z).toArray t frozen | o => o }).forCall (fun _ _ => 0) ⟨#[], #[.slice none 0 0], []⟩).memory :=
  laidMet_of_run' 8 (by kernel_rfl) (by kernel_rfl)
theorem FnExactPlanText_reads (os : Os) {H : Type} (enc : TypeId × Value → H) : ∃ places, DataW.whole enc Tryd.prog ((let w0 := World.holding Tryd.prog os ⟨#[], #[], []⟩; { w0 with heap := ((w0.heap.modify 0 fun | .cells _ t frozen => .cells (([1, 10, 100, 1000, 10000, 100000, 1000000, 10000000, 100000000, 1000000000, 10000000000, 100000000000, 1000000000000, 10000000000000, 100000000000000, 1000000000000000, 10000000000000000, 100000000000000000, 1000000000000000000, 10000000000000000000] : List Int).map fun z => Value.int .u64 z).toArray t frozen | o => o).modify 2 fun | .cells _ t frozen => .cells (([0, 1, 28, 2, 29, 14, 24, 3, 30, 22, 20, 15, 25, 17, 4, 8, 31, 27, 13, 23, 21, 19, 16, 7, 26, 12, 18, 6, 11, 5, 10, 9] : List Int).map fun z => Value.int .u8 z).toArray t frozen | o => o).modify 3 fun | .cells _ t frozen => .cells (([0, 1, 56, 2, 57, 49, 28, 3, 61, 58, 42, 50, 38, 29, 17, 4, 62, 47, 59, 36, 45, 43, 51, 22, 53, 39, 33, 30, 24, 18, 12, 5, 63, 55, 48, 27, 60, 41, 37, 16, 46, 35, 44, 21, 52, 32, 23, 11, 54, 26, 40, 15, 34, 20, 31, 10, 25, 14, 19, 9, 13, 8, 7, 6] : List Int).map fun z => Value.int .u8 z).toArray t frozen | o => o }).forCall (fun _ _ => 0) ⟨#[], #[.slice none 0 0], []⟩).memory Tryd.f3.params.toList Rows.fnExactPlanTextSpec.vars false #[Value.slice none 0 0].toList 8 = some ([.nil], [], places) :=
  ⟨[], by kernel_rfl⟩
set_option maxRecDepth 100000 in
theorem FnExactPlanText_lifted (os : Os) (started : os.Started) (H : Type) (enc : TypeId × Value → H) (F : Stop.Interp) :
    ReturnsInHanded {} Tryd.checked os 3 .any ((OpenSpec.ofChange Rows.fnExactPlanTextSpec).preRow enc Tryd.prog Tryd.f3 Rows.fnExactPlanTextRow.domain false Rows.fnExactPlanTextRow.laid) (((OpenSpec.ofChange Rows.fnExactPlanTextSpec).at F).post enc Tryd.prog Tryd.f3 false true false false) := by
  obtain ⟨places, hx⟩ := FnExactPlanText_reads os enc
  refine returnsInHanded_of_row (C := Tryd.checked) (s := OpenSpec.ofChange Rows.fnExactPlanTextSpec) FnExactPlanText_own started (by kernel_rfl) Tryd.func3
    (witness_row_at (enc := enc) (C := Tryd.checked) false (let w0 := World.holding Tryd.prog os ⟨#[], #[], []⟩; { w0 with heap := ((w0.heap.modify 0 fun | .cells _ t frozen => .cells (([1, 10, 100, 1000, 10000, 100000, 1000000, 10000000, 100000000, 1000000000, 10000000000, 100000000000, 1000000000000, 10000000000000, 100000000000000, 1000000000000000, 10000000000000000, 100000000000000000, 1000000000000000000, 10000000000000000000] : List Int).map fun z => Value.int .u64 z).toArray t frozen | o => o).modify 2 fun | .cells _ t frozen => .cells (([0, 1, 28, 2, 29, 14, 24, 3, 30, 22, 20, 15, 25, 17, 4, 8, 31, 27, 13, 23, 21, 19, 16, 7, 26, 12, 18, 6, 11, 5, 10, 9] : List Int).map fun z => Value.int .u8 z).toArray t frozen | o => o).modify 3 fun | .cells _ t frozen => .cells (([0, 1, 56, 2, 57, 49, 28, 3, 61, 58, 42, 50, 38, 29, 17, 4, 62, 47, 59, 36, 45, 43, 51, 22, 53, 39, 33, 30, 24, 18, 12, 5, 63, 55, 48, 27, 60, 41, 37, 16, 46, 35, 44, 21, 52, 32, 23, 11, 54, 26, 40, 15, 34, 20, 31, 10, 25, 14, 19, 9, 13, 8, 7, 6] : List Int).map fun z => Value.int .u8 z).toArray t frozen | o => o }) #[.slice none 0 0] rfl (by kernel_rfl) (by kernel_rfl) (by kernel_rfl)
      (OpenSpec.preRow_of_cond 8 hx (by kernel_rfl) (fun k hk => by cases hk) (by kernel_rfl) (FnExactPlanText_met os))) ?_
  intro W base args ds gs before hval0 hW _ _ _ hL _ _
  have hval : ∀ (j : Nat) t v, Tryd.f3.params[j]? = some t → args[j]? = some v → Value.okWide Tryd.prog W .any base t v := hval0
  have hW' := hW
  obtain ⟨p, q, hA0, hV, rfl, hfz, hnd⟩ := hW
  have hA : DataW.TrodAll enc Tryd.prog W 0 (fun _ => true) true Tryd.f3.params.toList args.toList ds p := hA0
  rw [Tryd.params3] at hA hval
  obtain ⟨v0, vs0, d0, ds0, p0, q0, hargs, rfl, rfl, h0, r0⟩ := trodAll_cons hA
  obtain ⟨rfl, rfl, rfl⟩ := trodAll_nil r0
  obtain rfl : args = #[v0] := by cases args; simp_all
  obtain ⟨rfl, rfl⟩ := trodVars_none hV
  obtain ⟨a0, len0, cap0, rfl⟩ := okWide_slice Tryd.underlying22 (hval 0 22 v0 rfl rfl)
  have k0 := h0
  have lt0 : ∀ x ∈ p0, x.block < W.heap.size := by obtain ⟨m, hm⟩ := k0; exact DataW.trod_lt m _ _ _ hm
  obtain ⟨l0, el0, w0⟩ : ∃ l, len0 = l.length ∧ ItemArg W a0 cap0 l := by
    obtain ⟨fuel, hf⟩ := h0
    exact itemArg_open (by simpa [Value.cells] using hf)
  subst el0
  clear hA0 hval0
  refine (FnExactPlanText_walk a0 cap0 l0 W w0 (FnExactPlanText_tab hL)).mono fun e W' ⟨he, bel⟩ => ?_
  subst he
  exact ⟨_, rfl, _, _, _, [], _, [], hW', trodAll_mk1 (shut_bool Tryd.underlying4 _), (trodAll_cons_mk (Below.trod (show laidOutB Tryd.prog = true by kernel_rfl) (by kernel_rfl) (of_decide_eq_true (by kernel_rfl)) k0 bel lt0) trodAll_mk0), rfl, bel.frame _, fun h => by cases h⟩
theorem FnExactPlanText_row : Rows.FnExactPlanTextSaid :=
  OpenClaim.holds_of_cond 3 Tryd.f3 rfl rfl rfl rfl rfl rfl rfl ⟨rfl, rfl, rfl, rfl, rfl⟩ rfl rfl rfl rfl rfl (by kernel_rfl) Tryd.func3 (by kernel_rfl)
    (of_decide_eq_true (by kernel_rfl)) (by unfold Func.isWrapper; first | (rw [if_pos (by decide +kernel)]; kernel_rfl) | (rw [if_neg (by decide +kernel)]; exact ⟨rfl, rfl⟩))
    (fun os started H enc _ F => by rw [OpenClaim.pre_eq_preRow]; exact FnExactPlanText_lifted os started H enc F)
/-- No parameter wants a stand-in. -/
theorem FnExactPlanText_plain (f : FuncId) (fn : Func) (hf : Tryd.pinned.checked.prog.funcNamed Rows.fnExactPlanTextRow.func = some f) (hfn : Tryd.pinned.checked.prog.funcs[f]? = some fn) :
    false = Tryd.pinned.checked.prog.looks [] ∧ ∀ (j : Nat) t, fn.params[j]? = some t → Tryd.pinned.checked.prog.wantsStandIn t = false := by
  obtain rfl : f = 3 := Option.some.inj ((show Tryd.prog.funcNamed Rows.fnExactPlanTextRow.func = some 3 by kernel_rfl).symm.trans hf) |>.symm
  obtain rfl : fn = Tryd.f3 := (Option.some.inj (Tryd.func3.symm.trans hfn)).symm
  refine ⟨by kernel_rfl, fun j t ht => ?_⟩
  rw [Tryd.params3] at ht
  obtain rfl : t = 22 := by simpa using Array.mem_of_getElem? ht
  exact (show Tryd.prog.wantsStandIn 22 = false by kernel_rfl)
/-- The statement. -/
theorem FnExactPlanText_holds : Rows.FnExactPlanTextCardSaid :=
  Claim7.holds_tied_plain_at .later [] _ _ _ _ FnExactPlanText_row (fun _ h => by cases h) (by kernel_rfl) (fun _ h => by cases h) fnExactPlanText_row_tie rfl ⟨rfl, rfl⟩ (by kernel_rfl) rfl FnExactPlanText_plain (by kernel_rfl)
#print axioms FnExactPlanText_holds
end Go.Proofs.YtddlccepgeekcaaDoor
