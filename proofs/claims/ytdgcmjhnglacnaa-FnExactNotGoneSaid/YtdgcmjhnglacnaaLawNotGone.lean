/- Proved: laws.FnExactNotGone answers true at every list of facts: NotGone of the program and of the specification are one function; it writes into no argument, and its answer owns its memory. No condition. -/
import Derived.Test.YtdgcmjhnglacnaaRows
import Derived.WalkKit
import Derived.ProofKit
import Derived.OpenShut
import Derived.ShutString
import Derived.ChangeOld
import Derived.Below
import Derived.Test.YtdgcmjhnglacnaaFactArgs
import Derived.Test.YtdgcmjhnglacnaaNotGone
import Derived.Test.YtdgcmjhnglacnaaMarkF
namespace Go.Proofs.Ytdgcmjhnglacnaa
open Go Go.ChangeShapes Go.WideShapes Go.ChangeAt Go.RowKit
open Go.ChangeMaps (open_string shut_string)
set_option linter.unusedVariables false

theorem NumRow.keepK {w w' : World} {a : Option Addr} {l : List Int} (h : NumRow w a l) {G : Nat → Prop} (k : Keeps G w w') (hg : ∀ b off, a = some ⟨b, off, none⟩ → G b) : NumRow w' a l := by
  rcases h with h | ⟨b, off, rfl, hlt, hc⟩
  · exact .inl h
  · exact .inr ⟨b, off, rfl, Nat.lt_of_lt_of_le hlt k.size, fun i hi => (k.cell (p := ⟨b, off + i, none⟩) hlt (hg b off rfl)).trans (hc i hi)⟩
theorem OwnNums.keepK {w w' : World} {lo : Nat} {a : Option Addr} {l : List Int} (h : OwnNums w lo a l) {G : Nat → Prop} (k : Keeps G w w') (hg : ∀ b, lo ≤ b → G b) : OwnNums w' lo a l := by
  rcases h with h | ⟨b, off, rfl, hlo, hlt, hc, hf⟩
  · exact .inl h
  · exact .inr ⟨b, off, rfl, hlo, Nat.lt_of_lt_of_le hlt k.size, fun i hi => (k.cell (p := ⟨b, off + i, none⟩) hlt (hg b hlo)).trans (hc i hi), fun i hi => (k.frozen (p := ⟨b, off + i, none⟩) hlt (hg b hlo)).trans (hf i hi)⟩
set_option maxHeartbeats 4000000 in
set_option maxRecDepth 100000 in
theorem FnExactNotGone_walk (a0 : Option Addr) (cap0 : Nat) (l : List FactV) (w : World) (w0 : FactArg w a0 cap0 l) :
    Calls Try.prog 11 #[.slice a0 l.length cap0] w fun e w' => e = .returned (.bool true) ∧ Below w.heap.size w w' := by
  have hrow := w0.1
  have hlm : l.length ≤ 9223372036854775807 := Nat.le_trans w0.2.1 (by unfold maxLen; omega)
  obtain ⟨m, hm⟩ := leftIs_ex l
  have hml : m.length ≤ 1048576 := Nat.le_trans (leftIs_len hm) (by omega)
  have HM : Hid (LeftIs l m) := hm
  clear hm w0
  go_enter Try.func11, Try.ntmps11
  go_wp2_with fail
  refine (szFacts_any a0 cap0 l.length 1048576 _ (by omega) (by omega) hlm).mono ?_
  rintro e x0 ⟨rfl, rfl⟩
  by_cases hs : (1048576 : Int) < ((l.length : Nat) : Int)
  · have e1 : leftOf 1048576 l.length = -1 := if_pos hs
    rw [e1]
    clear e1
    go_wp2
    go_ret
    exact ⟨rfl, Below.refl _ _⟩
  obtain ⟨q, hq⟩ : ∃ q : Int, leftOf 1048576 l.length = q := ⟨_, rfl⟩
  have hq0 : ¬ q < 0 := by rw [← hq]; unfold leftOf; rw [if_neg hs]; omega
  rw [hq]
  have hl : l.length ≤ 1048576 := by omega
  clear hq hs hlm
  go_wp2_with fail
  refine (toFacts_any a0 cap0 l _ hl hrow).mono ?_
  rintro e x1 ⟨rfl, o1, B1⟩
  have n1 := o1.row
  clear o1
  go_wp2_with fail
  refine (specLeft_any _ _ l m HM.out _ hl n1).mono ?_
  rintro e x2 ⟨v0, rfl, own0, b2⟩
  obtain ⟨p0, c0, rfl, o0⟩ := own_nums own0
  have n0 := o0.row
  have B2 := B1.trans (b2.mono B1.size)
  have S2 := B2.size
  have hrow2 := hrow.keep B2
  clear B1 b2 n1 own0 o0
  go_wp2_with fail
  refine (toFacts_any a0 cap0 l _ hl hrow2).mono ?_
  rintro e x3 ⟨rfl, ox3, C3⟩
  have hx3 : x2.heap.size < x3.heap.size ∨ l.length = 0 := own_lt ox3
  have B3 := B2.trans (C3.mono B2.size)
  have hx23 := C3.size
  clear B2 hrow2
  go_wp2_with fail
  refine (implLeft_any _ _ l m HM.out _ hl ox3.row).mono ?_
  rintro e x4 ⟨v1, rfl, own4, b4⟩
  obtain ⟨p1, c1, rfl, og4⟩ := own_nums own4
  have ox4 := ox3.keep b4
  have C4 := C3.trans (b4.mono C3.size)
  have B4 := B3.trans (b4.mono B3.size)
  have n04 := n0.keep C4
  have S4 := b4.size
  clear own4 ox3 C3 B3 b4
  go_wp2_with fail
  refine (eqNums_same _ _ _ _ m _ hml og4.row n04).mono ?_
  rintro e x5 ⟨rfl, b5⟩
  have og5 := og4.keep b5
  have ox5 := ox4.keep b5
  have C5 := C4.trans (b5.mono C4.size)
  have B5 := B4.trans (b5.mono B4.size)
  have hrow5 := hrow.keep B5
  have S5 := Nat.le_trans S4 b5.size
  clear og4 ox4 C4 B4 b5 n04 S4
  go_wp2_with fail
  refine (toFacts_any a0 cap0 l _ hl hrow5).mono ?_
  rintro e x6 ⟨rfl, r6, b6⟩
  have n6 := r6.row
  have og6 := og5.keep b6
  have ox6 := ox5.keep b6
  have C6 := C5.trans (b6.mono C5.size)
  have B6 := B5.trans (b6.mono B5.size)
  have S6 := Nat.le_trans S5 b6.size
  clear og5 ox5 C5 B5 b6 r6 hrow5 S5
  go_wp2_with fail
  refine (eqFacts_same _ _ _ _ l _ hl ox6.row n6).mono ?_
  rintro e x7 ⟨rfl, b7⟩
  have og7 := og6.keep b7
  have ox7 := ox6.keep b7
  have C7 := C6.trans (b7.mono C6.size)
  have B7 := B6.trans (b7.mono B6.size)
  have S7 := Nat.le_trans S6 b7.size
  clear og6 ox6 C6 B6 b7 n6 S6
  go_wp2_with fail
  refine (markF_i x2.heap.size (.slice (some ⟨x2.heap.size, 0, none⟩) l.length l.length) l 1 _ hl (by omega) (by omega) ⟨_, _, rfl, ox7, .inr ⟨_, rfl⟩⟩).mono ?_
  rintro e x8 ⟨rfl, _, k8⟩
  have HKX : Hid (∀ g, g ≠ x2.heap.size ∨ l.length = 0 → blkOf (.slice (some ⟨x2.heap.size, 0, none⟩) l.length l.length) l.length g) := blk_new _ _ _
  have og8 := og7.keepK k8 (fun b hb => HKX.out b (by omega))
  have C8 : Below x2.heap.size x2 x8 := C7.trans (k8.toBelow C7.size (fun g hg => HKX.out g (by omega)))
  have B8 := B7.trans ((k8.toBelow C7.size (fun g hg => HKX.out g (by omega))).mono S2)
  have n08 := n0.keep C8
  have S8 : x3.heap.size ≤ x8.heap.size := Nat.le_trans S7 k8.size
  have hm8 : ¬ ((1 + 3 * l.length : Nat) : Int) < 0 := by omega
  clear og7 ox7 C7 B7 k8 S7 HKX
  go_wp2_with fail
  refine (eqNums_same _ _ _ _ m _ hml og8.row n08).mono ?_
  rintro e x9 ⟨rfl, b9⟩
  have og9 := og8.keep b9
  have C9 := C8.trans (b9.mono C8.size)
  have B9 := B8.trans (b9.mono B8.size)
  have S9 := Nat.le_trans S8 b9.size
  clear og8 C8 B8 b9 n08 S8 hm8
  go_wp2_with fail
  refine (mark_any x3.heap.size _ _ m 1 _ hml (by omega) (by omega) S9 og9).mono ?_
  rintro e x10 ⟨rfl, og10, b10, k10, s10⟩
  have C10 := C9.trans (b10.mono hx23)
  have B10 := B9.trans (b10.mono (Nat.le_trans S2 hx23))
  have ng10 := og10.row
  have hrow10 := hrow.keep B10
  clear og9 C9 B9 b10 k10 og10 s10 S9
  go_wp2_with fail
  refine (held_any _ _ m.length 1 _ hml (by omega) (by omega) ng10).mono ?_
  rintro e x11 ⟨rfl, rfl⟩
  go_wp2_with fail
  refine (toFacts_any a0 cap0 l _ hl hrow10).mono ?_
  rintro e x12 ⟨rfl, r12, b12⟩
  have n12 := r12.row
  have ng12 := ng10.keep b12
  have C12 := C10.trans (b12.mono C10.size)
  have B12 := B10.trans (b12.mono B10.size)
  clear C10 B10 b12 r12 ng10 hrow10
  go_wp2_with fail
  refine (implLeft_any _ _ l m HM.out _ hl n12).mono ?_
  rintro e x13 ⟨v3, rfl, own13, b13⟩
  obtain ⟨p3, c3, rfl, oh13⟩ := own_nums own13
  have nh13 := oh13.row
  have ng13 := ng12.keep b13
  have C13 := C12.trans (b13.mono C12.size)
  have B13 := B12.trans (b13.mono B12.size)
  have n013 := n0.keep C13
  clear own13 oh13 n12 ng12 C12 B12 b13
  go_wp2_with fail
  refine (eqNums_same _ _ _ _ m _ hml nh13 n013).mono ?_
  rintro e x14 ⟨rfl, b14⟩
  have ng14 := ng13.keep b14
  have B14 := B13.trans (b14.mono B13.size)
  clear nh13 n013 ng13 C13 B13 b14
  go_wp2_with fail
  refine (held_any _ _ m.length 1 _ hml (by omega) (by omega) ng14).mono ?_
  rintro e x15 ⟨rfl, rfl⟩
  go_wp2
  go_ret
  exact ⟨rfl, B14⟩

set_option maxRecDepth 100000 in
theorem FnExactNotGone_lifted (os : Os) (started : os.Started) (H : Type) (enc : TypeId × Value → H) :
    ReturnsInHanded {} Try.checked os 11 .any (Rows.fnExactNotGoneSpec.pre6 enc Try.prog Try.f11 Rows.fnExactNotGoneRow.domain false) (Rows.fnExactNotGoneSpec.post enc Try.prog Try.f11 false true false false) := by
  refine returnsInHanded_of_change (C := Try.checked) (by kernel_rfl) started (by kernel_rfl) Try.func11
    (ChangeSpec.witness6 (enc := enc) (C := Try.checked) false ⟨#[], #[.slice none 0 0], []⟩ 8 (by kernel_rfl) (by kernel_rfl) (by kernel_rfl) (by kernel_rfl)) ?_
  intro W base args ds gs before hval0 hW hcnd _
  have hval : ∀ (j : Nat) t v, Try.f11.params[j]? = some t → args[j]? = some v → Value.okWide Try.prog W .any base t v := hval0
  have hW' := hW
  obtain ⟨p, q, hA0, hV, rfl, hfz, hnd⟩ := hW
  have hA : DataW.TrodAll enc Try.prog W 0 (fun _ => true) true Try.f11.params.toList args.toList ds p := hA0
  rw [Try.params11] at hA hval
  obtain ⟨v0, vs0, d0, ds0, p0, q0, hargs, rfl, rfl, h0, r0⟩ := trodAll_cons hA
  obtain ⟨rfl, rfl, rfl⟩ := trodAll_nil r0
  obtain rfl : args = #[v0] := by cases args; simp_all
  obtain ⟨rfl, rfl⟩ := trodVars_none hV
  obtain ⟨a0, len0, cap0, rfl⟩ := okWide_slice Try.underlying51 (hval 0 51 v0 rfl rfl)
  have k0 := h0
  have lt0 : ∀ x ∈ p0, x.block < W.heap.size := by obtain ⟨m, hm⟩ := k0; exact DataW.trod_lt m _ _ _ hm
  obtain ⟨l0, el0, w0⟩ : ∃ l, len0 = l.length ∧ FactArg W a0 cap0 l := by
    obtain ⟨fuel, hf⟩ := h0
    exact factArg_open (by simpa [Value.cells] using hf)
  subst el0
  clear hA0 hval0
  refine (FnExactNotGone_walk a0 cap0 l0 W w0).mono fun e W' ⟨he, bel⟩ => ?_
  subst he
  exact ⟨_, rfl, _, _, _, [], _, [], hW', trodAll_mk1 (shut_bool Try.underlying4 _), (trodAll_cons_mk (Below.trod (show laidOutB Try.prog = true by kernel_rfl) (by kernel_rfl) (of_decide_eq_true (by kernel_rfl)) k0 bel lt0) trodAll_mk0), rfl, bel.frame _, fun h => by cases h⟩
/-- The statement. -/
theorem FnExactNotGone_holds : Rows.FnExactNotGoneSaid :=
  OpenClaim.holds_of_wide 11 Try.f11 rfl rfl rfl rfl rfl rfl rfl ⟨rfl, rfl, rfl, rfl, rfl⟩ rfl rfl rfl rfl rfl (by kernel_rfl) Try.func11 (by kernel_rfl)
    (of_decide_eq_true (by kernel_rfl)) (by unfold Func.isWrapper; first | (rw [if_pos (by decide +kernel)]; kernel_rfl) | (rw [if_neg (by decide +kernel)]; exact ⟨rfl, rfl⟩))
    (fun os started H enc _ => FnExactNotGone_lifted os started H enc)
#print axioms FnExactNotGone_holds

end Go.Proofs.Ytdgcmjhnglacnaa
