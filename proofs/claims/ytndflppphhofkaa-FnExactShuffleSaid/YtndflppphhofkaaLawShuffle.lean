/- Proved: laws.FnExactShuffle answers true at every list and seed: Shuffle of the program and of the specification are one function; it writes into no argument, and its answer owns its memory. No condition. -/
import Derived.Test.YtndflppphhofkaaRows
import Derived.WalkKit
import Derived.ProofKit
import Derived.OpenShut
import Derived.ShutString
import Derived.ChangeOld
import Derived.Below
import Derived.Test.YtndflppphhofkaaShufEq
namespace Go.Proofs.Ytndflppphhofkaa
open Go Go.ChangeShapes Go.WideShapes Go.ChangeAt Go.RowKit
open Go.ChangeMaps (open_string shut_string)
set_option linter.unusedVariables false

set_option maxHeartbeats 4000000 in
set_option maxRecDepth 100000 in
theorem FnExactShuffle_walk (a0 : Option Addr) (cap0 : Nat) (l : List Int) (a1 : Int) (w : World) (w0 : NumArg w a0 cap0 l) (w1 : (Lit.int .i64 a1).wf = true) :
    Calls Try.prog 5 #[.slice a0 l.length cap0, .int .i64 a1] w fun e w' => e = .returned (.bool true) ∧ Below w.heap.size w w' := by
  by_cases hs : 1048576 < (l.length : Int)
  · go_enter Try.func5, Try.ntmps5
    go_wp2
    go_ret
    exact ⟨rfl, Below.refl _ _⟩
  have hl : l.length ≤ 1048576 := by omega
  have hrow := w0.1
  obtain ⟨m, hm⟩ : ∃ m, (shufL l a1).1 = m := ⟨_, rfl⟩
  obtain ⟨q, hq⟩ : ∃ q, (shufL l a1).2 = q := ⟨_, rfl⟩
  have hml : m.length ≤ 1048576 := by rw [← hm]; exact Nat.le_trans (shufL_length l a1) (by omega)
  have HM : Hid ((shufL l a1).1 = m) := hm
  have HQ : Hid ((shufL l a1).2 = q) := hq
  clear hm hq w0 w1
  go_enter Try.func5, Try.ntmps5
  go_wp2_with fail
  refine (toNums_any a0 cap0 l _ hl hrow).mono ?_
  rintro e x1 ⟨rfl, r1, B1⟩
  have n1 := NumRow.of_row r1
  clear r1
  go_wp2_with fail
  refine (specShuffle_any _ _ l a1 _ hl (fun e => by cases e) n1).mono ?_
  rintro e x2 ⟨v0, rfl, own0, b2⟩
  rw [HM.out] at own0
  rw [HQ.out]
  obtain ⟨p0, c0, rfl, o0⟩ := own_nums own0
  unfold shufOut
  have a2 := (Below.refl x2.heap.size x2).alloc (Nat.le_refl _) (.cells #[.int .i64 q, .slice p0 m.length c0] 32)
  have n0 := o0.row.keep a2
  have P5 := pair_new x2 q (.slice p0 m.length c0) 32
  have B2 := (B1.trans (b2.mono B1.size)).trans (a2.mono (B1.trans (b2.mono B1.size)).size)
  obtain ⟨y2, hy2⟩ : ∃ y, x2.alloc (.cells #[.int .i64 q, .slice p0 m.length c0] 32) = y := ⟨_, rfl⟩
  obtain ⟨k5, hk5⟩ : ∃ k, x2.heap.size = k := ⟨_, rfl⟩
  have HY2 : Hid (x2.alloc (.cells #[.int .i64 q, .slice p0 m.length c0] 32) = y2) := hy2
  rw [hy2] at n0 P5 B2
  have hrow2 := hrow.keep B2
  have S2 := B2.size
  clear B1 b2 n1 own0 o0 a2 hy2
  go_wp2_with fail
  rw [HY2.out]
  rw [hk5] at P5
  clear HY2 hk5
  refine (toNums_any a0 cap0 l _ hl hrow2).mono ?_
  rintro e x3 ⟨rfl, r3, C3⟩
  have ox3 := OwnNums.of_row (lo := y2.heap.size) r3 (Nat.le_refl _)
  have hx3 : y2.heap.size < x3.heap.size := r3.lt
  have B3 := B2.trans (C3.mono B2.size)
  clear B2 r3 hrow2
  go_wp2_with fail
  refine (implShuffle_any _ _ l a1 _ hl ox3.row).mono ?_
  rintro e x4 ⟨v1, rfl, own4, b4⟩
  rw [HM.out] at own4
  rw [HQ.out]
  obtain ⟨p1, c1, rfl, og4⟩ := own_nums own4
  unfold shufOut
  have a4 := (Below.refl x4.heap.size x4).alloc (Nat.le_refl _) (.cells #[.int .i64 q, .slice p1 m.length c1] 32)
  have hbg : ∀ b off, p1 = some ⟨b, off, none⟩ → b < x4.heap.size := fun b off e => by
    have := own4.lt b (by rw [e]; rfl)
    exact this.2
  have og4a := og4.keep a4
  have ox4 := (ox3.keep b4).keep a4
  have P7 := pair_new x4 q (.slice p1 m.length c1) 32
  have C4 := (C3.trans (b4.mono C3.size)).trans (a4.mono (C3.trans (b4.mono C3.size)).size)
  have B4 := (B3.trans (b4.mono B3.size)).trans (a4.mono (B3.trans (b4.mono B3.size)).size)
  have S4 := Nat.le_trans b4.size a4.size
  have S34 := b4.size
  obtain ⟨y4, hy4⟩ : ∃ y, x4.alloc (.cells #[.int .i64 q, .slice p1 m.length c1] 32) = y := ⟨_, rfl⟩
  obtain ⟨k7, hk7⟩ : ∃ k, x4.heap.size = k := ⟨_, rfl⟩
  rw [hy4] at og4a ox4 P7 C4 B4 S4
  rw [hk7] at P7 hbg S34
  have n04 := n0.keep C4
  have P54 := P5.keep C4
  have HY4 : Hid (x4.alloc (.cells #[.int .i64 q, .slice p1 m.length c1] 32) = y4) := hy4
  have P74 := P7
  obtain ⟨g70, g71, _, _⟩ := P74
  obtain ⟨g50, g51, _, _⟩ := P54
  clear own4 ox3 C3 B3 b4 og4 a4 hy4
  go_upto_region 6 with fail
  rw [HY4.out]
  clear HY4 hk7
  go_wp2_with fail
  refine (eqShuf_same q _ _ _ _ m _ hml og4a.row n04).mono ?_
  rintro e x5 ⟨rfl, b5⟩
  have og5 := og4a.keep b5
  have ox5 := ox4.keep b5
  have P75 := P7.keep b5
  have C5 := C4.trans (b5.mono C4.size)
  have B5 := B4.trans (b5.mono B4.size)
  have hrow5 := hrow.keep B5
  have S5 := Nat.le_trans S4 b5.size
  clear og4a ox4 C4 B4 b5 n04 S4 g70 g71 g50 g51 P7
  go_wp2_with fail
  refine (toNums_any a0 cap0 l _ hl hrow5).mono ?_
  rintro e x6 ⟨rfl, r6, b6⟩
  have n6 := NumRow.of_row r6
  have og6 := og5.keep b6
  have ox6 := ox5.keep b6
  have P76 := P75.keep b6
  have C6 := C5.trans (b6.mono C5.size)
  have B6 := B5.trans (b6.mono B5.size)
  have S6 := Nat.le_trans S5 b6.size
  clear og5 ox5 C5 B5 b6 r6 hrow5 S5 P75
  go_wp2_with fail
  refine (eqNums_same _ _ _ _ l _ (by omega) ox6.row n6).mono ?_
  rintro e x7 ⟨rfl, b7⟩
  have og7 := og6.keep b7
  have ox7 := ox6.keep b7
  have P77 := P76.keep b7
  have C7 := C6.trans (b7.mono C6.size)
  have B7 := B6.trans (b7.mono B6.size)
  have S7 := Nat.le_trans S6 b7.size
  clear og6 ox6 C6 B6 b7 n6 S6 P76
  go_wp2_with fail
  refine (mark_any y2.heap.size _ _ l 1 _ hl (by omega) (by omega) C7.size ox7).mono ?_
  rintro e x8 ⟨rfl, _, b8, k8, s8⟩
  have og8 := og7.beside hx3 (fun c hc => k8 c (fun b off e => by simp at e; omega)) (by omega)
  have P78 := P77.beside (k8 k7 (fun b off e => by simp at e; omega))
  have C8 := C7.trans b8
  have B8 := B7.trans (b8.mono S2)
  have n08 := n0.keep C8
  have P58 := P5.keep C8
  have S8 : x3.heap.size ≤ x8.heap.size := by omega
  obtain ⟨g70, g71, _, _⟩ := P78
  obtain ⟨g50, g51, _, _⟩ := P58
  have P78 : PairIs x8 k7 q (.slice p1 m.length c1) := ⟨g70, g71, by assumption, by assumption⟩
  clear og7 ox7 C7 B7 b8 k8 S7 s8 P77
  go_wp2_with fail
  refine (eqShuf_same q _ _ _ _ m _ hml og8.row n08).mono ?_
  rintro e x9 ⟨rfl, b9⟩
  have og9 := og8.keep b9
  have P79 := P78.keep b9
  have C9 := C8.trans (b9.mono C8.size)
  have B9 := B8.trans (b9.mono B8.size)
  have S9 := Nat.le_trans S8 b9.size
  clear og8 C8 B8 b9 n08 S8 g70 g71 g50 g51 P78
  obtain ⟨g70, g71, _, _⟩ := P79
  have P79 : PairIs x9 k7 q (.slice p1 m.length c1) := ⟨g70, g71, by assumption, by assumption⟩
  go_wp2_with fail
  refine (markShuf_any q x3.heap.size _ _ m 1 _ hml (by omega) (by omega) S9 og9).mono ?_
  rintro e x10 ⟨rfl, og10, b10, k10⟩
  have C10 := C9.trans (b10.mono (by omega))
  have B10 := B9.trans (b10.mono (by omega))
  have P710 := P79.beside (k10 k7 P79.lt (fun b off e => by have := hbg b off e; omega))
  have ng10 := og10.row
  clear og9 C9 B9 b10 k10 og10 S9 g70 g71 P79
  obtain ⟨g70, g71, _, _⟩ := P710
  have P710 : PairIs x10 k7 q (.slice p1 m.length c1) := ⟨g70, g71, by assumption, by assumption⟩
  go_wp2_with fail
  refine (heldShuf_any q _ _ m.length 1 _ hml (by omega) (by omega) ng10).mono ?_
  rintro e x11 ⟨rfl, b11⟩
  have ng11 := ng10.keep b11
  have P711 := P710.keep b11
  have C11 := C10.trans (b11.mono C10.size)
  have B11 := B10.trans (b11.mono B10.size)
  have hrow11 := hrow.keep B11
  clear C10 B10 b11 ng10 g70 g71 P710
  go_wp2_with fail
  refine (toNums_any a0 cap0 l _ hl hrow11).mono ?_
  rintro e x12 ⟨rfl, r12, b12⟩
  have n12 := NumRow.of_row r12
  have ng12 := ng11.keep b12
  have P712 := P711.keep b12
  have C12 := C11.trans (b12.mono C11.size)
  have B12 := B11.trans (b12.mono B11.size)
  clear C11 B11 b12 r12 ng11 hrow11 P711
  go_wp2_with fail
  refine (implShuffle_any _ _ l a1 _ hl n12).mono ?_
  rintro e x13 ⟨v3, rfl, own13, b13⟩
  rw [HM.out] at own13
  rw [HQ.out]
  obtain ⟨p3, c3, rfl, oh13⟩ := own_nums own13
  unfold shufOut
  have a13 := (Below.refl x13.heap.size x13).alloc (Nat.le_refl _) (.cells #[.int .i64 q, .slice p3 m.length c3] 32)
  have nh13 := oh13.row.keep a13
  have ng13 := (ng12.keep b13).keep a13
  have P713 := (P712.keep b13).keep a13
  have C13 := (C12.trans (b13.mono C12.size)).trans (a13.mono (C12.trans (b13.mono C12.size)).size)
  have B13 := (B12.trans (b13.mono B12.size)).trans (a13.mono (B12.trans (b13.mono B12.size)).size)
  have n013 := n0.keep C13
  have P513 := P5.keep C13
  obtain ⟨g50, g51, _, _⟩ := P513
  clear own13 oh13 n12 ng12 C12 B12 b13 a13 P712
  go_wp2_with fail
  refine (eqShuf_same q _ _ _ _ m _ hml nh13 n013).mono ?_
  rintro e x14 ⟨rfl, b14⟩
  have ng14 := ng13.keep b14
  have P714 := P713.keep b14
  have B14 := B13.trans (b14.mono B13.size)
  clear nh13 n013 ng13 C13 B13 b14 g50 g51 P713
  obtain ⟨g70, g71, _, _⟩ := P714
  go_wp2_with fail
  refine (heldShuf_any q _ _ m.length 1 _ hml (by omega) (by omega) ng14).mono ?_
  rintro e x15 ⟨rfl, b15⟩
  have B15 := B14.trans (b15.mono B14.size)
  go_wp2
  go_ret
  exact ⟨rfl, B15⟩

set_option maxRecDepth 100000 in
theorem FnExactShuffle_lifted (os : Os) (started : os.Started) (H : Type) (enc : TypeId × Value → H) :
    ReturnsInHanded {} Try.checked os 5 .any (Rows.fnExactShuffleSpec.pre6 enc Try.prog Try.f5 Rows.fnExactShuffleRow.domain false) (Rows.fnExactShuffleSpec.post enc Try.prog Try.f5 false true false false) := by
  refine returnsInHanded_of_change (C := Try.checked) (by kernel_rfl) started (by kernel_rfl) Try.func5
    (ChangeSpec.witness6 (enc := enc) (C := Try.checked) false ⟨#[], #[.slice none 0 0, .int .i64 0], []⟩ 8 (by kernel_rfl) (by kernel_rfl) (by kernel_rfl) (by kernel_rfl)) ?_
  intro W base args ds gs before hval0 hW hcnd _
  have hval : ∀ (j : Nat) t v, Try.f5.params[j]? = some t → args[j]? = some v → Value.okWide Try.prog W .any base t v := hval0
  have hW' := hW
  obtain ⟨p, q, hA0, hV, rfl, hfz, hnd⟩ := hW
  have hA : DataW.TrodAll enc Try.prog W 0 (fun _ => true) true Try.f5.params.toList args.toList ds p := hA0
  rw [Try.params5] at hA hval
  obtain ⟨v0, vs0, d0, ds0, p0, q0, hargs, rfl, rfl, h0, r0⟩ := trodAll_cons hA
  obtain ⟨v1, vs1, d1, ds1, p1, q1, rfl, rfl, rfl, h1, r1⟩ := trodAll_cons r0
  obtain ⟨rfl, rfl, rfl⟩ := trodAll_nil r1
  obtain rfl : args = #[v0, v1] := by cases args; simp_all
  obtain ⟨rfl, rfl⟩ := trodVars_none hV
  obtain ⟨a0, len0, cap0, rfl⟩ := okWide_slice Try.underlying28 (hval 0 28 v0 rfl rfl)
  have k0 := h0
  have lt0 : ∀ x ∈ p0, x.block < W.heap.size := by obtain ⟨m, hm⟩ := k0; exact DataW.trod_lt m _ _ _ hm
  obtain ⟨l0, el0, w0⟩ : ∃ l, len0 = l.length ∧ NumArg W a0 cap0 l := by
    obtain ⟨fuel, hf⟩ := h0
    rcases open_ints Try.underlying28 Try.underlying2 (by kernel_rfl) hf with ⟨hcs, _⟩ | ⟨x, l, c, zs, hcs, _, hl, hm, hz, _, hcell, hwz⟩
    · simp [Value.cells] at hcs
      obtain ⟨rfl, rfl, rfl⟩ := hcs
      exact ⟨[], rfl, numArg_nil _⟩
    · simp [Value.cells] at hcs
      obtain ⟨rfl, rfl, rfl⟩ := hcs
      exact numArg_of hl (by simpa using hz) hcell hwz
  subst el0
  obtain ⟨a1, rfl, rfl, rfl, w1⟩ := open_int Try.underlying2 (hval 1 2 v1 rfl rfl) h1
  clear hA0 hval0
  refine (FnExactShuffle_walk a0 cap0 l0 a1 W w0 w1).mono fun e W' ⟨he, bel⟩ => ?_
  subst he
  exact ⟨_, rfl, _, _, _, [], _, [], hW', trodAll_mk1 (shut_bool Try.underlying4 _), (trodAll_cons_mk (Below.trod (show laidOutB Try.prog = true by kernel_rfl) (by kernel_rfl) (of_decide_eq_true (by kernel_rfl)) k0 bel lt0) (trodAll_cons_mk (shut_int Try.underlying2 w1) trodAll_mk0)), rfl, bel.frame _, fun h => by cases h⟩
/-- The statement. -/
theorem FnExactShuffle_holds : Rows.FnExactShuffleSaid :=
  OpenClaim.holds_of_wide 5 Try.f5 rfl rfl rfl rfl rfl rfl rfl ⟨rfl, rfl, rfl, rfl, rfl⟩ rfl rfl rfl rfl rfl (by kernel_rfl) Try.func5 (by kernel_rfl)
    (of_decide_eq_true (by kernel_rfl)) (by unfold Func.isWrapper; first | (rw [if_pos (by decide +kernel)]; kernel_rfl) | (rw [if_neg (by decide +kernel)]; exact ⟨rfl, rfl⟩))
    (fun os started H enc _ => FnExactShuffle_lifted os started H enc)
#print axioms FnExactShuffle_holds

end Go.Proofs.Ytndflppphhofkaa
