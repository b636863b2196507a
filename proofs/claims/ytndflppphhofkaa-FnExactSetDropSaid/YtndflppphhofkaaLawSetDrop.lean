/- Proved: laws.FnExactSetDrop answers true at every list and number: SetDrop of the program and of the specification are one function; it writes into no argument, and its answer owns its memory. No condition. -/
import Derived.Test.YtndflppphhofkaaRows
import Derived.WalkKit
import Derived.ProofKit
import Derived.OpenShut
import Derived.ShutString
import Derived.ChangeOld
import Derived.Below
import Derived.Test.YtndflppphhofkaaNumArgs
import Derived.Test.YtndflppphhofkaaSetImplC
import Derived.Test.YtndflppphhofkaaBeside
namespace Go.Proofs.Ytndflppphhofkaa
open Go Go.ChangeShapes Go.WideShapes Go.ChangeAt Go.RowKit
open Go.ChangeMaps (open_string shut_string)
set_option linter.unusedVariables false

set_option maxHeartbeats 4000000 in
set_option maxRecDepth 100000 in
theorem FnExactSetDrop_walk (a0 : Option Addr) (cap0 : Nat) (l : List Int) (a1 : Int) (w : World) (w0 : NumArg w a0 cap0 l) (w1 : (Lit.int .i64 a1).wf = true) :
    Calls Try.prog 8 #[.slice a0 l.length cap0, .int .i64 a1] w fun e w' => e = .returned (.bool true) ∧ Below w.heap.size w w' := by
  by_cases hs : 1048576 < (l.length : Int)
  · go_enter Try.func8, Try.ntmps8
    go_wp2
    go_ret
    exact ⟨rfl, Below.refl _ _⟩
  have hl : l.length ≤ 1048576 := by omega
  have hrow := w0.1
  obtain ⟨m, hm⟩ : ∃ m, setDropL l a1 = m := ⟨_, rfl⟩
  have hml : m.length ≤ 1048576 := by rw [← hm]; exact Nat.le_trans (setDropL_length l a1) (by omega)
  have HM : Hid (setDropL l a1 = m) := hm
  clear hm w0 w1
  go_enter Try.func8, Try.ntmps8
  go_wp2_with fail
  refine (toNums_any a0 cap0 l _ hl hrow).mono ?_
  rintro e x1 ⟨rfl, r1, B1⟩
  have n1 := NumRow.of_row r1
  clear r1
  go_wp2_with fail
  refine (specDrop_any _ _ l a1 _ hl (fun e => by cases e) n1).mono ?_
  rintro e x2 ⟨v0, rfl, own0, b2⟩
  rw [HM.out] at own0
  obtain ⟨p0, c0, rfl, o0⟩ := own_nums own0
  have n0 := o0.row
  have B2 := B1.trans (b2.mono B1.size)
  have S2 := B2.size
  have hrow2 := hrow.keep B2
  clear B1 b2 n1 own0 o0
  go_wp2_with fail
  refine (toNums_any a0 cap0 l _ hl hrow2).mono ?_
  rintro e x3 ⟨rfl, r3, C3⟩
  have ox3 := OwnNums.of_row (lo := x2.heap.size) r3 (Nat.le_refl _)
  have hx3 : x2.heap.size < x3.heap.size := r3.lt
  have B3 := B2.trans (C3.mono B2.size)
  clear B2 r3 hrow2
  go_wp2_with fail
  refine (implDrop_any _ _ l a1 _ hl ox3.row).mono ?_
  rintro e x4 ⟨v1, rfl, own4, b4⟩
  rw [HM.out] at own4
  obtain ⟨p1, c1, rfl, og4⟩ := own_nums own4
  have ox4 := ox3.keep b4
  have C4 := C3.trans (b4.mono C3.size)
  have B4 := B3.trans (b4.mono B3.size)
  have n04 := n0.keep C4
  have S4 := b4.size
  clear own4 ox3 C3 B3 b4
  go_wp2_with fail
  refine (eqNums_same _ _ _ _ m _ hml og4.row n04).mono ?_
  rintro e x5 ⟨rfl, b5⟩
  have og5 := og4.keep b5
  have ox5 := ox4.keep b5
  have C5 := C4.trans (b5.mono C4.size)
  have B5 := B4.trans (b5.mono B4.size)
  have hrow5 := hrow.keep B5
  have S5 := Nat.le_trans S4 b5.size
  clear og4 ox4 C4 B4 b5 n04 S4
  go_wp2_with fail
  refine (toNums_any a0 cap0 l _ hl hrow5).mono ?_
  rintro e x6 ⟨rfl, r6, b6⟩
  have n6 := NumRow.of_row r6
  have og6 := og5.keep b6
  have ox6 := ox5.keep b6
  have C6 := C5.trans (b6.mono C5.size)
  have B6 := B5.trans (b6.mono B5.size)
  have S6 := Nat.le_trans S5 b6.size
  clear og5 ox5 C5 B5 b6 r6 hrow5 S5
  go_wp2_with fail
  refine (eqNums_same _ _ _ _ l _ (by omega) ox6.row n6).mono ?_
  rintro e x7 ⟨rfl, b7⟩
  have og7 := og6.keep b7
  have ox7 := ox6.keep b7
  have C7 := C6.trans (b7.mono C6.size)
  have B7 := B6.trans (b7.mono B6.size)
  have S7 := Nat.le_trans S6 b7.size
  clear og6 ox6 C6 B6 b7 n6 S6
  go_wp2_with fail
  refine (mark_any x2.heap.size _ _ l 1 _ hl (by omega) (by omega) C7.size ox7).mono ?_
  rintro e x8 ⟨rfl, _, b8, k8, s8⟩
  have og8 := og7.beside hx3 (fun c hc => k8 c (fun b off e => by simp at e; omega)) (by omega)
  have C8 := C7.trans b8
  have B8 := B7.trans (b8.mono S2)
  have n08 := n0.keep C8
  have S8 : x3.heap.size ≤ x8.heap.size := by omega
  clear og7 ox7 C7 B7 b8 k8 S7 s8
  go_wp2_with fail
  refine (eqNums_same _ _ _ _ m _ hml og8.row n08).mono ?_
  rintro e x9 ⟨rfl, b9⟩
  have og9 := og8.keep b9
  have C9 := C8.trans (b9.mono C8.size)
  have B9 := B8.trans (b9.mono B8.size)
  have S9 := Nat.le_trans S8 b9.size
  clear og8 C8 B8 b9 n08 S8
  go_wp2_with fail
  refine (mark_any x3.heap.size _ _ m 1 _ hml (by omega) (by omega) S9 og9).mono ?_
  rintro e x10 ⟨rfl, og10, b10, k10, s10⟩
  have C10 := C9.trans (b10.mono (by omega))
  have B10 := B9.trans (b10.mono (by omega))
  have ng10 := og10.row
  have hrow10 := hrow.keep B10
  clear og9 C9 B9 b10 k10 og10 s10 S9
  go_wp2_with fail
  refine (held_any _ _ m.length 1 _ hml (by omega) (by omega) ng10).mono ?_
  rintro e x11 ⟨rfl, rfl⟩
  go_wp2_with fail
  refine (toNums_any a0 cap0 l _ hl hrow10).mono ?_
  rintro e x12 ⟨rfl, r12, b12⟩
  have n12 := NumRow.of_row r12
  have ng12 := ng10.keep b12
  have C12 := C10.trans (b12.mono C10.size)
  have B12 := B10.trans (b12.mono B10.size)
  clear C10 B10 b12 r12 ng10 hrow10
  go_wp2_with fail
  refine (implDrop_any _ _ l a1 _ hl n12).mono ?_
  rintro e x13 ⟨v3, rfl, own13, b13⟩
  rw [HM.out] at own13
  obtain ⟨p3, c3, rfl, oh13⟩ := own_nums own13
  have nh13 := oh13.row
  have ng13 := ng12.keep b13
  have C13 := C12.trans (b13.mono C12.size)
  have B13 := B12.trans (b13.mono B12.size)
  have n013 := n0.keep C13
  clear own13 oh13 n12 ng12 C12 B12 b13
  go_wp2_with fail
  refine (eqNums_same _ _ _ _ m _ hml nh13 n013).mono ?_
  rintro e x14 ⟨rfl, b14⟩
  have ng14 := ng13.keep b14
  have B14 := B13.trans (b14.mono B13.size)
  clear nh13 n013 ng13 C13 B13 b14
  go_wp2_with fail
  refine (held_any _ _ m.length 1 _ hml (by omega) (by omega) ng14).mono ?_
  rintro e x15 ⟨rfl, rfl⟩
  go_wp2
  go_ret
  exact ⟨rfl, B14⟩
set_option maxRecDepth 100000 in
theorem FnExactSetDrop_lifted (os : Os) (started : os.Started) (H : Type) (enc : TypeId × Value → H) :
    ReturnsInHanded {} Try.checked os 8 .any (Rows.fnExactSetDropSpec.pre6 enc Try.prog Try.f8 Rows.fnExactSetDropRow.domain false) (Rows.fnExactSetDropSpec.post enc Try.prog Try.f8 false true false false) := by
  refine returnsInHanded_of_change (C := Try.checked) (by kernel_rfl) started (by kernel_rfl) Try.func8
    (ChangeSpec.witness6 (enc := enc) (C := Try.checked) false ⟨#[], #[.slice none 0 0, .int .i64 0], []⟩ 8 (by kernel_rfl) (by kernel_rfl) (by kernel_rfl) (by kernel_rfl)) ?_
  intro W base args ds gs before hval0 hW hcnd _
  have hval : ∀ (j : Nat) t v, Try.f8.params[j]? = some t → args[j]? = some v → Value.okWide Try.prog W .any base t v := hval0
  have hW' := hW
  obtain ⟨p, q, hA0, hV, rfl, hfz, hnd⟩ := hW
  have hA : DataW.TrodAll enc Try.prog W 0 (fun _ => true) true Try.f8.params.toList args.toList ds p := hA0
  rw [Try.params8] at hA hval
  obtain ⟨v0, vs0, d0, ds0, p0, q0, hargs, rfl, rfl, h0, r0⟩ := trodAll_cons hA
  obtain ⟨v1, vs1, d1, ds1, p1, q1, rfl, rfl, rfl, h1, r1⟩ := trodAll_cons r0
  obtain ⟨rfl, rfl, rfl⟩ := trodAll_nil r1
  obtain rfl : args = #[v0, v1] := by cases args; simp_all
  obtain ⟨rfl, rfl⟩ := trodVars_none hV
  obtain ⟨a0, len0, cap0, rfl⟩ := okWide_slice Try.underlying28 (hval 0 28 v0 rfl rfl)
  have k0 := h0
  have lt0 : ∀ x ∈ p0, x.block < W.heap.size := by obtain ⟨m, hm⟩ := k0; exact DataW.trod_lt m _ _ _ hm
  obtain ⟨l0, el0, w0⟩ : ∃ l, len0 = l.length ∧ NumArg W a0 cap0 l := by
    obtain ⟨fuel, hf⟩ := h0
    rcases open_ints Try.underlying28 Try.underlying2 (by kernel_rfl) hf with ⟨hcs, _⟩ | ⟨x, l, c, zs, hcs, _, hl, hm, hz, _, hcell, hwz⟩
    · simp [Value.cells] at hcs
      obtain ⟨rfl, rfl, rfl⟩ := hcs
      exact ⟨[], rfl, numArg_nil _⟩
    · simp [Value.cells] at hcs
      obtain ⟨rfl, rfl, rfl⟩ := hcs
      exact numArg_of hl (by simpa using hz) hcell hwz
  subst el0
  obtain ⟨a1, rfl, rfl, rfl, w1⟩ := open_int Try.underlying2 (hval 1 2 v1 rfl rfl) h1
  clear hA0 hval0
  refine (FnExactSetDrop_walk a0 cap0 l0 a1 W w0 w1).mono fun e W' ⟨he, bel⟩ => ?_
  subst he
  exact ⟨_, rfl, _, _, _, [], _, [], hW', trodAll_mk1 (shut_bool Try.underlying4 _), (trodAll_cons_mk (Below.trod (show laidOutB Try.prog = true by kernel_rfl) (by kernel_rfl) (of_decide_eq_true (by kernel_rfl)) k0 bel lt0) (trodAll_cons_mk (shut_int Try.underlying2 w1) trodAll_mk0)), rfl, bel.frame _, fun h => by cases h⟩
/-- The statement. -/
theorem FnExactSetDrop_holds : Rows.FnExactSetDropSaid :=
  OpenClaim.holds_of_wide 8 Try.f8 rfl rfl rfl rfl rfl rfl rfl ⟨rfl, rfl, rfl, rfl, rfl⟩ rfl rfl rfl rfl rfl (by kernel_rfl) Try.func8 (by kernel_rfl)
    (of_decide_eq_true (by kernel_rfl)) (by unfold Func.isWrapper; first | (rw [if_pos (by decide +kernel)]; kernel_rfl) | (rw [if_neg (by decide +kernel)]; exact ⟨rfl, rfl⟩))
    (fun os started H enc _ => FnExactSetDrop_lifted os started H enc)
#print axioms FnExactSetDrop_holds

end Go.Proofs.Ytndflppphhofkaa
