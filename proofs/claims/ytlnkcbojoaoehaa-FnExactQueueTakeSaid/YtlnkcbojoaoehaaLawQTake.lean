/- Proved: laws.FnExactQueueTake answers true at every list of Dues: QueueTake of the program and of the specification are one function; it writes into no argument, and its answer owns its memory. No condition. -/
import Derived.Test.YtlnkcbojoaoehaaRows
import Derived.WalkKit
import Derived.ProofKit
import Derived.OpenShut
import Derived.ShutString
import Derived.ChangeOld
import Derived.Below
import Derived.Test.YtlnkcbojoaoehaaDueArgs
import Derived.Test.YtlnkcbojoaoehaaQEqI
import Derived.Test.YtlnkcbojoaoehaaQSpecTake
import Derived.Test.YtlnkcbojoaoehaaQTakeI
namespace Go.Proofs.Ytlnkcbojoaoehaa
open Go Go.ChangeShapes Go.WideShapes Go.ChangeAt Go.RowKit
open Go.ChangeMaps (open_string shut_string)
set_option linter.unusedVariables false

set_option maxHeartbeats 8000000 in
set_option maxRecDepth 100000 in
theorem FnExactQueueTake_walk (a0 : Option Addr) (cap0 : Nat) (l : List DueV) (w : World) (w0 : DueArg w a0 cap0 l) :
    Calls Try.prog 6 #[.slice a0 l.length cap0] w fun e w' => e = .returned (.bool true) ∧ Below w.heap.size w w' := by
  have hrow := w0.1
  have HS : ∀ d ∈ l, d.text.size ≤ 9223372036854775807 := fun d hd => Nat.le_trans (w0.2.1 d hd) (by unfold maxLen; omega)
  have hlm : l.length ≤ 9223372036854775807 := Nat.le_trans w0.2.2.1 (by unfold maxLen; omega)
  obtain ⟨c, y, m, hP⟩ := take_ex l
  obtain ⟨t1, t2, t3, t4⟩ := y
  have hml : m.length ≤ 1048576 := Nat.le_trans (take_len' hP) (by omega)
  have HP : Hid (TakeIs l c ⟨t1, t2, t3, t4⟩ m) := hP
  clear hP w0
  go_enter Try.func6, Try.ntmps6
  go_wp2_with fail
  refine (szDues_any a0 cap0 l 1048576 _ (by omega) (by omega) hlm HS hrow).mono ?_
  rintro e xz ⟨rfl, bz⟩
  by_cases hs : (1048576 : Int) < ((l.length + textSum l : Nat) : Int)
  · have e1 : leftOf 1048576 (l.length + textSum l) = -1 := if_pos hs
    rw [e1]
    clear e1
    go_wp2
    go_ret
    exact ⟨rfl, bz⟩
  obtain ⟨qz, hq⟩ : ∃ qz : Int, leftOf 1048576 (l.length + textSum l) = qz := ⟨_, rfl⟩
  have hq0 : ¬ qz < 0 := by rw [← hq]; unfold leftOf; rw [if_neg hs]; omega
  have hq1 : qz ≤ 1048576 := by rw [← hq]; unfold leftOf; rw [if_neg hs]; omega
  rw [hq]
  have hl : l.length ≤ 1048576 := by omega
  clear hq hs hlm
  have hrowz := hrow.keep bz
  go_wp2_with fail
  refine (toDues_any a0 cap0 l _ hl hrowz).mono ?_
  rintro e x1 ⟨rfl, o1, b1⟩
  have n1 := o1.row
  have B1 := bz.trans (b1.mono bz.size)
  clear bz b1 o1 hrowz
  go_wp2_with fail
  refine (specTakeQ_any _ _ l c ⟨t1, t2, t3, t4⟩ m _ HP.out hl (Nat.le_refl _) n1).mono ?_
  rintro e x2 ⟨v0, rfl, own0, b2⟩
  have hv0 : ∀ g, v0.ownBlock = some g → g < x2.heap.size := fun g e => (own0.lt g e).2
  have s0 := own_sl own0
  have s0k := s0
  obtain ⟨p0, c0, rfl, o0, hz0⟩ := s0
  unfold outV
  dsimp only
  have a2 := (Below.refl x2.heap.size x2).alloc (Nat.le_refl _) (.cells #[.slice p0 m.length c0, .int .i64 t1, .int .i64 t2, .int .i64 t3, .string t4, .int .i64 c] 29)
  have S0 := s0k.keep a2
  have O6 : OutIs (x2.alloc (.cells #[.slice p0 m.length c0, .int .i64 t1, .int .i64 t2, .int .i64 t3, .string t4, .int .i64 c] 29)) x2.heap.size (.slice p0 m.length c0) (.int .i64 t1) (.int .i64 t2) (.int .i64 t3) (.string t4) (.int .i64 c) := heap_alloc_new x2 _
  have B2 := (B1.trans (b2.mono B1.size)).trans (a2.mono (B1.trans (b2.mono B1.size)).size)
  have hxy2 : x2.heap.size < (x2.alloc (.cells #[.slice p0 m.length c0, .int .i64 t1, .int .i64 t2, .int .i64 t3, .string t4, .int .i64 c] 29)).heap.size := by simp
  obtain ⟨y2, hy2⟩ : ∃ y, x2.alloc (.cells #[.slice p0 m.length c0, .int .i64 t1, .int .i64 t2, .int .i64 t3, .string t4, .int .i64 c] 29) = y := ⟨_, rfl⟩
  obtain ⟨k6, hk6⟩ : ∃ k, x2.heap.size = k := ⟨_, rfl⟩
  have HY2 : Hid (x2.alloc (.cells #[.slice p0 m.length c0, .int .i64 t1, .int .i64 t2, .int .i64 t3, .string t4, .int .i64 c] 29) = y2) := hy2
  rw [hy2] at S0 O6 B2 hxy2
  rw [hk6] at O6 hxy2 hv0
  have hrow2 := hrow.keep B2
  have S2 := B2.size
  clear B1 b2 n1 own0 s0k o0 hz0 a2 hy2
  go_wp2_with fail
  rw [HY2.out]
  clear HY2 hk6
  refine (toDues_any a0 cap0 l _ hl hrow2).mono ?_
  rintro e x3 ⟨rfl, ox3, C3⟩
  have hx3 : y2.heap.size < x3.heap.size ∨ l = [] := by
    rcases ox3 with h | ⟨b, off, e, hlo, hlt, _⟩
    · right
      have := cellsOf_length DueV.cells_len l; rw [h] at this; simp at this
      exact List.eq_nil_of_length_eq_zero (by omega)
    · left; have : y2.heap.size = b := by simpa using congrArg (Option.map Addr.block) e
      omega
  have X3 : OwnSl x3 y2.heap.size (.slice (some ⟨y2.heap.size, 0, none⟩) l.length l.length) l := ⟨_, _, rfl, ox3, .inr ⟨_, rfl⟩⟩
  have nx3 := ox3.row
  have B3 := B2.trans (C3.mono B2.size)
  have O63 := O6.below C3
  have S03 := S0.keep C3
  have hs23 := C3.size
  clear B2 ox3 hrow2 O6 S0 C3
  go_wp2_with fail
  refine (implTakeQ_any _ _ l c ⟨t1, t2, t3, t4⟩ m _ HP.out hl nx3).mono ?_
  rintro e x4 ⟨v1, rfl, own4, b4⟩
  have hv1 : ∀ g, v1.ownBlock = some g → x3.heap.size ≤ g ∧ g < x4.heap.size := fun g e => own4.lt g e
  have s1 := own_sl own4
  have s1k := s1
  obtain ⟨p1, c1, rfl, o1, hz1⟩ := s1
  unfold outV
  dsimp only
  have a4 := (Below.refl x4.heap.size x4).alloc (Nat.le_refl _) (.cells #[.slice p1 m.length c1, .int .i64 t1, .int .i64 t2, .int .i64 t3, .string t4, .int .i64 c] 29)
  have G4 := s1k.keep a4
  have X4 := (X3.keep b4).keep a4
  have S04 := (S03.keep b4).keep a4
  have O64 := (O63.below b4).below a4
  have O8 : OutIs (x4.alloc (.cells #[.slice p1 m.length c1, .int .i64 t1, .int .i64 t2, .int .i64 t3, .string t4, .int .i64 c] 29)) x4.heap.size (.slice p1 m.length c1) (.int .i64 t1) (.int .i64 t2) (.int .i64 t3) (.string t4) (.int .i64 c) := heap_alloc_new x4 _
  have B4 := (B3.trans (b4.mono B3.size)).trans (a4.mono (B3.trans (b4.mono B3.size)).size)
  have hs34 := b4.size
  obtain ⟨y4, hy4⟩ : ∃ y, x4.alloc (.cells #[.slice p1 m.length c1, .int .i64 t1, .int .i64 t2, .int .i64 t3, .string t4, .int .i64 c] 29) = y := ⟨_, rfl⟩
  obtain ⟨k8, hk8⟩ : ∃ k, x4.heap.size = k := ⟨_, rfl⟩
  have HY4 : Hid (x4.alloc (.cells #[.slice p1 m.length c1, .int .i64 t1, .int .i64 t2, .int .i64 t3, .string t4, .int .i64 c] 29) = y4) := hy4
  rw [hy4] at G4 X4 S04 O64 O8 B4
  rw [hk8] at O8 hv1 hs34
  obtain ⟨g60, g61, g62, g63, g64, g65⟩ := O64.cells
  obtain ⟨g80, g81, g82, g83, g84, g85⟩ := O8.cells
  have HV0 : Hid (∀ g, Value.ownBlock (.slice p0 m.length c0) = some g → g < k6) := hv0
  have HV1 : Hid (∀ g, Value.ownBlock (.slice p1 m.length c1) = some g → x3.heap.size ≤ g ∧ g < k8) := hv1
  clear own4 X3 B3 O63 S03 b4 s1k o1 hz1 a4 hy4 nx3 hv0 hv1
  go_upto_region 8 with fail
  rw [HY4.out]
  clear HY4 hk8
  go_wp2_with fail
  refine (eqOut_same (.slice p1 m.length c1) (.slice p0 m.length c0) _ _ ⟨t1, t2, t3, t4⟩ c m _ hml G4 S04).mono ?_
  rintro e x5 ⟨rfl, b5⟩
  have G5 := G4.keep b5
  have X5 := X4.keep b5
  have S05 := S04.keep b5
  have O65 := O64.below b5
  have O85 := O8.below b5
  have B5 := B4.trans (b5.mono B4.size)
  have hrow5 := hrow.keep B5
  clear G4 X4 S04 O64 O8 B4 b5 g60 g61 g62 g63 g64 g65 g80 g81 g82 g83 g84 g85
  go_wp2_with fail
  refine (toDues_any a0 cap0 l _ hl hrow5).mono ?_
  rintro e x6 ⟨rfl, o6, b6⟩
  have n6 := o6.row
  have G6 := G5.keep b6
  have X6 := X5.keep b6
  have S06 := S05.keep b6
  have O66 := O65.below b6
  have O86 := O85.below b6
  have B6 := B5.trans (b6.mono B5.size)
  clear G5 X5 S05 O65 O85 B5 b6 o6 hrow5
  obtain ⟨ax, cx, ex, ox6, hzx⟩ := X6
  have nx6 : CellRow x6 (some ⟨y2.heap.size, 0, none⟩) (cellsOf DueV.cells l) := by
    simp only [Value.slice.injEq, true_and] at ex
    obtain ⟨rfl, rfl⟩ := ex
    exact ox6.row
  have X6 : OwnSl x6 y2.heap.size (.slice (some ⟨y2.heap.size, 0, none⟩) l.length l.length) l := ⟨ax, cx, ex, ox6, hzx⟩
  clear ex ox6 hzx
  go_wp2_with fail
  refine (eqDues_same _ _ _ _ l _ hl nx6 n6).mono ?_
  rintro e x7 ⟨rfl, b7⟩
  have G7 := G6.keep b7
  have X7 := X6.keep b7
  have S07 := S06.keep b7
  have O67 := O66.below b7
  have O87 := O86.below b7
  have B7 := B6.trans (b7.mono B6.size)
  clear G6 X6 S06 O66 O86 B6 b7 n6 nx6
  go_wp2_with fail
  refine (markDues_i y2.heap.size (.slice (some ⟨y2.heap.size, 0, none⟩) l.length l.length) l 1 _ hl X7).mono ?_
  rintro e x8 ⟨rfl, _, K8⟩
  have HKX : Hid (∀ g, g ≠ y2.heap.size ∨ l.length = 0 → blkOf (.slice (some ⟨y2.heap.size, 0, none⟩) l.length l.length) l.length g) := fun g hg => by
    rcases hg with hg | hg
    · right
      intro e
      have e2 : y2.heap.size = g := by simpa [Value.ownBlock] using e
      omega
    · exact .inl hg
  have hx3' : y2.heap.size < x3.heap.size ∨ l.length = 0 := hx3.imp id (fun h => by rw [h]; rfl)
  have G8 := G7.keepB K8 (fun g e => HKX.out g (by have := HV1.out g e; omega))
  have S08 := S07.keepB K8 (fun g e => HKX.out g (by have := HV0.out g e; omega))
  have O68 := O67.keep K8 (HKX.out _ (by omega))
  have O88 := O87.keep K8 (HKX.out _ (by omega))
  have B8 := B7.trans (K8.toBelow B7.size (fun q hq => HKX.out q (by omega)))
  have hm8 : ¬ ((1 + 4 * l.length : Nat) : Int) < 0 := by omega
  obtain ⟨g60, g61, g62, g63, g64, g65⟩ := O68.cells
  obtain ⟨g80, g81, g82, g83, g84, g85⟩ := O88.cells
  clear G7 X7 S07 O67 O87 B7 K8
  go_wp2_with fail
  refine (eqOut_same (.slice p1 m.length c1) (.slice p0 m.length c0) _ _ ⟨t1, t2, t3, t4⟩ c m _ hml G8 S08).mono ?_
  rintro e x9 ⟨rfl, b9⟩
  have G9 := G8.keep b9
  have S09 := S08.keep b9
  have O69 := O68.below b9
  have O89 := O88.below b9
  have B9 := B8.trans (b9.mono B8.size)
  clear G8 S08 O68 O88 B8 b9 g60 g61 g62 g63 g64 g65 g80 g81 g82 g83 g84 g85 hm8
  obtain ⟨g80, g81, g82, g83, g84, g85⟩ := O89.cells
  go_wp2_with fail
  refine (markOut_i x3.heap.size (.slice p1 m.length c1) ⟨t1, t2, t3, t4⟩ c m 1 _ hml G9).mono ?_
  rintro e x10 ⟨rfl, G10, K10⟩
  have HKG : Hid (∀ g, g < x3.heap.size ∨ k8 ≤ g → blkOf (.slice p1 m.length c1) m.length g) := fun g hg => .inr (fun e => by have := HV1.out g e; omega)
  have S010 := S09.keepB K10 (fun g e => HKG.out g (by have := HV0.out g e; omega))
  have O610 := O69.keep K10 (HKG.out _ (by omega))
  have O810 := O89.keep K10 (HKG.out _ (by omega))
  have B10 := B9.trans (K10.toBelow B9.size (fun q hq => HKG.out q (by omega)))
  clear G9 S09 O69 O89 B9 K10 g80 g81 g82 g83 g84 g85
  obtain ⟨g80, g81, g82, g83, g84, g85⟩ := O810.cells
  go_wp2_with fail
  refine (heldOut_i x3.heap.size (.slice p1 m.length c1) ⟨t1, t2, t3, t4⟩ c m.length 1 _ hml G10).mono ?_
  rintro e x11 ⟨rfl, b11⟩
  have G11 := G10.keep b11
  have S011 := S010.keep b11
  have O611 := O610.below b11
  have O811 := O810.below b11
  have B11 := B10.trans (b11.mono B10.size)
  have hrow11 := hrow.keep B11
  have hm11 : ¬ ((1 + 4 * m.length : Nat) : Int) < 0 := by omega
  clear G10 S010 O610 O810 B10 b11 g80 g81 g82 g83 g84 g85
  go_wp2_with fail
  refine (toDues_any a0 cap0 l _ hl hrow11).mono ?_
  rintro e x12 ⟨rfl, o12, b12⟩
  have n12 := o12.row
  have G12 := G11.keep b12
  have S012 := S011.keep b12
  have O612 := O611.below b12
  have O812 := O811.below b12
  have B12 := B11.trans (b12.mono B11.size)
  clear G11 S011 O611 O811 B11 b12 o12 hrow11
  go_wp2_with fail
  refine (implTakeQ_any _ _ l c ⟨t1, t2, t3, t4⟩ m _ HP.out hl n12).mono ?_
  rintro e x13 ⟨v3, rfl, own13, b13⟩
  have s3 := own_sl own13
  have s3k := s3
  obtain ⟨p3, c3, rfl, o3, hz3⟩ := s3
  unfold outV
  dsimp only
  have a13 := (Below.refl x13.heap.size x13).alloc (Nat.le_refl _) (.cells #[.slice p3 m.length c3, .int .i64 t1, .int .i64 t2, .int .i64 t3, .string t4, .int .i64 c] 29)
  have H13 := s3k.keep a13
  have G13 := (G12.keep b13).keep a13
  have S013 := (S012.keep b13).keep a13
  have O613 := (O612.below b13).below a13
  have O813 := (O812.below b13).below a13
  have O12 : OutIs (x13.alloc (.cells #[.slice p3 m.length c3, .int .i64 t1, .int .i64 t2, .int .i64 t3, .string t4, .int .i64 c] 29)) x13.heap.size (.slice p3 m.length c3) (.int .i64 t1) (.int .i64 t2) (.int .i64 t3) (.string t4) (.int .i64 c) := heap_alloc_new x13 _
  have B13 := (B12.trans (b13.mono B12.size)).trans (a13.mono (B12.trans (b13.mono B12.size)).size)
  obtain ⟨y13, hy13⟩ : ∃ y, x13.alloc (.cells #[.slice p3 m.length c3, .int .i64 t1, .int .i64 t2, .int .i64 t3, .string t4, .int .i64 c] 29) = y := ⟨_, rfl⟩
  obtain ⟨k12, hk12⟩ : ∃ k, x13.heap.size = k := ⟨_, rfl⟩
  have HY13 : Hid (x13.alloc (.cells #[.slice p3 m.length c3, .int .i64 t1, .int .i64 t2, .int .i64 t3, .string t4, .int .i64 c] 29) = y13) := hy13
  rw [hy13] at H13 G13 S013 O613 O813 O12 B13
  rw [hk12] at O12
  obtain ⟨g60, g61, g62, g63, g64, g65⟩ := O613.cells
  obtain ⟨g120, g121, g122, g123, g124, g125⟩ := O12.cells
  clear own13 n12 G12 S012 O612 O812 B12 b13 s3k o3 hz3 a13 hy13
  go_upto_region 25 with fail
  rw [HY13.out]
  clear HY13 hk12
  go_wp2_with fail
  refine (eqOut_same (.slice p3 m.length c3) (.slice p0 m.length c0) _ _ ⟨t1, t2, t3, t4⟩ c m _ hml H13 S013).mono ?_
  rintro e x14 ⟨rfl, b14⟩
  have G14 := G13.keep b14
  have O814 := O813.below b14
  have B14 := B13.trans (b14.mono B13.size)
  clear H13 G13 S013 O613 O813 O12 B13 b14 g60 g61 g62 g63 g64 g65 g120 g121 g122 g123 g124 g125
  obtain ⟨g80, g81, g82, g83, g84, g85⟩ := O814.cells
  go_wp2_with fail
  refine (heldOut_i x3.heap.size (.slice p1 m.length c1) ⟨t1, t2, t3, t4⟩ c m.length 1 _ hml G14).mono ?_
  rintro e x15 ⟨rfl, b15⟩
  have B15 := B14.trans (b15.mono B14.size)
  go_wp2
  go_ret
  exact ⟨rfl, B15⟩

set_option maxRecDepth 100000 in
theorem FnExactQueueTake_lifted (os : Os) (started : os.Started) (H : Type) (enc : TypeId × Value → H) :
    ReturnsInHanded {} Try.checked os 6 .any (Rows.fnExactQueueTakeSpec.pre6 enc Try.prog Try.f6 Rows.fnExactQueueTakeRow.domain false) (Rows.fnExactQueueTakeSpec.post enc Try.prog Try.f6 false true false false) := by
  refine returnsInHanded_of_change (C := Try.checked) (by kernel_rfl) started (by kernel_rfl) Try.func6
    (ChangeSpec.witness6 (enc := enc) (C := Try.checked) false ⟨#[], #[.slice none 0 0], []⟩ 8 (by kernel_rfl) (by kernel_rfl) (by kernel_rfl) (by kernel_rfl)) ?_
  intro W base args ds gs before hval0 hW hcnd _
  have hval : ∀ (j : Nat) t v, Try.f6.params[j]? = some t → args[j]? = some v → Value.okWide Try.prog W .any base t v := hval0
  have hW' := hW
  obtain ⟨p, q, hA0, hV, rfl, hfz, hnd⟩ := hW
  have hA : DataW.TrodAll enc Try.prog W 0 (fun _ => true) true Try.f6.params.toList args.toList ds p := hA0
  rw [Try.params6] at hA hval
  obtain ⟨v0, vs0, d0, ds0, p0, q0, hargs, rfl, rfl, h0, r0⟩ := trodAll_cons hA
  obtain ⟨rfl, rfl, rfl⟩ := trodAll_nil r0
  obtain rfl : args = #[v0] := by cases args; simp_all
  obtain ⟨rfl, rfl⟩ := trodVars_none hV
  obtain ⟨a0, len0, cap0, rfl⟩ := okWide_slice Try.underlying40 (hval 0 40 v0 rfl rfl)
  have k0 := h0
  have lt0 : ∀ x ∈ p0, x.block < W.heap.size := by obtain ⟨m, hm⟩ := k0; exact DataW.trod_lt m _ _ _ hm
  obtain ⟨l0, el0, w0⟩ : ∃ l, len0 = l.length ∧ DueArg W a0 cap0 l := by
    obtain ⟨fuel, hf⟩ := h0
    exact dueArg_open (by simpa [Value.cells] using hf)
  subst el0
  clear hA0 hval0
  refine (FnExactQueueTake_walk a0 cap0 l0 W w0).mono fun e W' ⟨he, bel⟩ => ?_
  subst he
  exact ⟨_, rfl, _, _, _, [], _, [], hW', trodAll_mk1 (shut_bool Try.underlying4 _), (trodAll_cons_mk (Below.trod (show laidOutB Try.prog = true by kernel_rfl) (by kernel_rfl) (of_decide_eq_true (by kernel_rfl)) k0 bel lt0) trodAll_mk0), rfl, bel.frame _, fun h => by cases h⟩
/-- The statement. -/
theorem FnExactQueueTake_holds : Rows.FnExactQueueTakeSaid :=
  OpenClaim.holds_of_wide 6 Try.f6 rfl rfl rfl rfl rfl rfl rfl ⟨rfl, rfl, rfl, rfl, rfl⟩ rfl rfl rfl rfl rfl (by kernel_rfl) Try.func6 (by kernel_rfl)
    (of_decide_eq_true (by kernel_rfl)) (by unfold Func.isWrapper; first | (rw [if_pos (by decide +kernel)]; kernel_rfl) | (rw [if_neg (by decide +kernel)]; exact ⟨rfl, rfl⟩))
    (fun os started H enc _ => FnExactQueueTake_lifted os started H enc)
#print axioms FnExactQueueTake_holds

end Go.Proofs.Ytlnkcbojoaoehaa
