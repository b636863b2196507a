/- Proved: laws.FnExactQueuePut answers true at every list of Dues and every Due: QueuePut of the program and of the specification are one function; it writes into no argument, and its answer owns its memory. No condition. -/
import Derived.Test.YtlnkcbojoaoehaaRows
import Derived.WalkKit
import Derived.ProofKit
import Derived.OpenShut
import Derived.ShutString
import Derived.ChangeOld
import Derived.Below
import Derived.Test.YtlnkcbojoaoehaaDueArgs
import Derived.Test.YtlnkcbojoaoehaaQEqI
import Derived.Test.YtlnkcbojoaoehaaQSpecPutQ
import Derived.Test.YtlnkcbojoaoehaaReg
import Derived.Test.YtlnkcbojoaoehaaQPutI
namespace Go.Proofs.Ytlnkcbojoaoehaa
open Go Go.ChangeShapes Go.WideShapes Go.ChangeAt Go.RowKit
open Go.ChangeMaps (open_string shut_string)
set_option linter.unusedVariables false

theorem callW {P : Program} {md : Region.Mode} {ops : Array Oper} {Q : Exit → Act → World → Prop} {S : World → Prop} {i : Nat} {d : Option Nat} {op : Op} {ty : TypeId} {pos : String} {after : Array Edge} {g : Option (Nat × Bool)} {fuel : Nat} {listed : Array Bool} {a : Act} {w : World} (hi : ops[i]? = some ⟨d, op, ty, pos, after, g⟩)
    (hw : Region.wanted ⟨d, op, ty, pos, after, g⟩ (yielded ops a.tmps) = true)
    (h : Oper.wp P ⟨d, op, ty, pos, after, g⟩ a w (fun a' w' => S w' ∧ wpAnyH P md ops Q S fuel (listed.setIfInBounds i true) a' w') Q) :
    wpOp P ops Q i (fun a' w' => S w' ∧ wpAnyH P md ops Q S fuel (listed.setIfInBounds i true) a' w') a w := by
  unfold wpOp
  simp only [hi]
  rw [if_pos hw]
  exact .inl h
theorem BlkOf.newL (w : World) (x : DueV) : BlkOf (w.alloc (.cells #[.int .i64 x.at0, .int .i64 x.seq, .int .i64 x.node, .string x.text] 44)) w.heap.size x := by
  have e := heap_alloc_new w (.cells #[.int .i64 x.at0, .int .i64 x.seq, .int .i64 x.node, .string x.text] 44)
  refine ⟨by simp, ?_, ?_, ?_, ?_⟩ <;> simp only [World.cell?, e] <;> simp
set_option maxHeartbeats 8000000 in
set_option maxRecDepth 100000 in
theorem FnExactQueuePut_walk (a0 : Option Addr) (cap0 : Nat) (l : List DueV) (a1 : DueV) (w : World) (w0 : DueArg w a0 cap0 l) (w1 : a1.text.size ≤ maxLen) :
    Calls Try.prog 5 #[.slice a0 l.length cap0, a1.val] w fun e w' => e = .returned (.bool true) ∧ Below w.heap.size w w' := by
  have hrow := w0.1
  have HS : ∀ d ∈ l, d.text.size ≤ 9223372036854775807 := fun d hd => Nat.le_trans (w0.2.1 d hd) (by unfold maxLen; omega)
  have hlm : l.length ≤ 9223372036854775807 := Nat.le_trans w0.2.2.1 (by unfold maxLen; omega)
  obtain ⟨e1, e2, e3, e4⟩ := a1
  have hsD : e4.size ≤ 9223372036854775807 := Nat.le_trans w1 (by unfold maxLen; omega)
  obtain ⟨c, m, hP⟩ := put_ex l ⟨e1, e2, e3, e4⟩
  have b0 := (Below.refl w.heap.size w).alloc (Nat.le_refl _) (.cells #[.int .i64 e1, .int .i64 e2, .int .i64 e3, .string e4] 44)
  have PD0 := BlkOf.newL w ⟨e1, e2, e3, e4⟩
  have hrow0 := hrow.keep b0
  dsimp only at PD0
  obtain ⟨W, hW⟩ : ∃ W, w.alloc (.cells #[.int .i64 e1, .int .i64 e2, .int .i64 e3, .string e4] 44) = W := ⟨_, rfl⟩
  rw [hW] at b0 PD0 hrow0
  have HW : Hid (w.alloc (.cells #[.int .i64 e1, .int .i64 e2, .int .i64 e3, .string e4] 44) = W) := hW
  clear hW hrow
  have hrow := hrow0
  clear hrow0
  unfold DueV.val
  dsimp only
  have hml : m.length ≤ 1048576 := Nat.le_trans (put_len hP) (by omega)
  have HP : Hid (PutIs l ⟨e1, e2, e3, e4⟩ c m) := hP
  clear hP w0
  go_enter Try.func5, Try.ntmps5
  go_wp2_with fail
  rw [HW.out]
  clear HW
  refine (szDues_any a0 cap0 l 1048576 _ (by omega) (by omega) hlm HS hrow).mono ?_
  rintro e xz ⟨rfl, bz⟩
  by_cases hs : (1048576 : Int) < ((l.length + textSum l : Nat) : Int)
  · have e1 : leftOf 1048576 (l.length + textSum l) = -1 := if_pos hs
    rw [e1]
    clear e1
    go_wp2
    go_ret
    exact ⟨rfl, b0.trans (bz.mono b0.size)⟩
  obtain ⟨qz, hq⟩ : ∃ qz : Int, leftOf 1048576 (l.length + textSum l) = qz := ⟨_, rfl⟩
  have hq0 : ¬ qz < 0 := by rw [← hq]; unfold leftOf; rw [if_neg hs]; omega
  have hq1 : qz ≤ 1048576 := by rw [← hq]; unfold leftOf; rw [if_neg hs]; omega
  rw [hq]
  have hl : l.length ≤ 1048576 := by omega
  clear hq hs hlm
  have PDz := PD0.keep bz
  obtain ⟨_, s0, s1, s2, s3⟩ := PDz
  dsimp only at s0 s1 s2 s3
  have hq00 : 0 ≤ qz := by omega
  go_wp2_with fail
  refine (szDue_any ⟨e1, e2, e3, e4⟩ qz _ hq00 hq1 hsD).mono ?_
  rintro e xs ⟨rfl, bs⟩
  have bz2 := bz.trans (bs.mono bz.size)
  clear bz bs s0 s1 s2 s3
  have bz := bz2
  clear bz2
  dsimp only
  by_cases hs2 : qz < (e4.size : Int)
  · have e5 : leftOf qz e4.size = -1 := if_pos hs2
    rw [e5]
    clear e5
    go_wp2
    go_ret
    exact ⟨rfl, b0.trans (bz.mono b0.size)⟩
  obtain ⟨qy, hqy⟩ : ∃ qy : Int, leftOf qz e4.size = qy := ⟨_, rfl⟩
  have hy0 : ¬ qy < 0 := by rw [← hqy]; unfold leftOf; rw [if_neg hs2]; omega
  rw [hqy]
  clear hqy hs2
  have PDx := PD0.keep bz
  have hrowx := hrow.keep bz
  go_upto_region 8 with fail
  go_cut [6] (fun v wc => ∃ k6 p cp lo, v = .pointer (some ⟨k6, 0, none⟩) ∧ OutIs wc k6 (.slice p m.length cp) (.int .i64 0) (.int .i64 0) (.int .i64 0) (.string ⟨#[]⟩) (.int .i64 c) ∧ OwnSl wc lo (.slice p m.length cp) m ∧ (∀ g, Value.ownBlock (.slice p m.length cp) = some g → g < wc.heap.size) ∧ k6 < wc.heap.size ∧ Below xs.heap.size xs wc)
  case first =>
    refine wp_region_held_drew (S := (fun w' => Below xs.heap.size xs w')) (by kernel_rfl) ?hS0 (fun hHeld => ?_)
    case hS0 => exact (Below.refl _ _).drew
    refine takeG 0 (v := .slice a0 l.length cap0) rfl (by kernel_rfl) (by kernel_rfl) (by kernel_rfl) (by kernel_rfl) (fun _ _ _ h => h) ?hy (by assumption) ?_
    case hy => (intro w' hSw; go_simp)
    try simp only [List.setIfInBounds_toArray, List.set_cons_zero, List.set_cons_succ]
    refine takeG 2 (v := .agg #[.int .i64 e1, .int .i64 e2, .int .i64 e3, .string e4]) rfl (by kernel_rfl) (by kernel_rfl) (by kernel_rfl) (by kernel_rfl) (fun _ _ _ h => h) ?hy (by assumption) ?_
    case hy => (intro w' hSw; obtain ⟨_, s0, s1, s2, s3⟩ := (PDx).keep hSw; dsimp only at s0 s1 s2 s3; go_simp)
    try simp only [List.setIfInBounds_toArray, List.set_cons_zero, List.set_cons_succ]
    obtain ⟨x0, hx0⟩ : ∃ x0, xs.drew = x0 := ⟨_, rfl⟩
    rw [hx0] at hHeld ⊢
    clear hx0
    refine twoH 1 5 (by kernel_rfl) ?_ ?_
    · refine callW rfl (by kernel_rfl) ?_
      go_simp
      refine (toDues_any a0 cap0 l _ hl (hrowx.keep hHeld)).mono ?_
      rintro e xa ⟨rfl, o1, bb⟩
      have n1 := o1.row
      have hHa : Below xs.heap.size xs xa := hHeld.trans (bb.mono hHeld.size)
      refine ⟨hHa, ?_⟩
      clear o1 bb
      try simp only [Act.put, List.setIfInBounds_toArray, List.set_cons_zero, List.set_cons_succ]
      refine twoH 3 5 (by kernel_rfl) ?_ ?_
      · refine callW rfl (by kernel_rfl) ?_
        go_simp
        refine (toDue_any ⟨e1, e2, e3, e4⟩ _).mono ?_
        rintro e xb ⟨rfl, bb⟩
        have n2 := n1.keep bb
        have hHb : Below xs.heap.size xs xb := hHa.trans (bb.mono hHa.size)
        refine ⟨hHb, ?_⟩
        clear n1 bb
        unfold DueV.val
        dsimp only
        try simp only [Act.put, List.setIfInBounds_toArray, List.set_cons_zero, List.set_cons_succ]
        refine twoH 4 5 (by kernel_rfl) ?_ ?_
        · refine callW rfl (by kernel_rfl) ?_
          go_simp
          refine (specPutQ_any _ _ _ l ⟨e1, e2, e3, e4⟩ c m _ HP.out hl (Nat.le_refl _) n2).mono ?_
          rintro e xc ⟨v, rfl, own, bb⟩
          have hHc : Below xs.heap.size xs xc := hHb.trans (bb.mono hHb.size)
          refine ⟨hHc, ?_⟩
          obtain ⟨p, cp, rfl, _, _⟩ := own_sl own
          clear bb
          unfold outV d0
          dsimp only
          try simp only [Act.put, List.setIfInBounds_toArray, List.set_cons_zero, List.set_cons_succ]
          refine oneH 5 (by kernel_rfl) ?_
          refine doH rfl (v := .pointer (some ⟨xc.heap.size, 0, none⟩)) (w' := xc.alloc (.cells #[.slice none 0 0, .int .i64 0, .int .i64 0, .int .i64 0, .string ⟨#[]⟩, .int .i64 0] 29)) (by go_simp) (hHc.trans (((Below.refl _ _).alloc (Nat.le_refl _) _).mono hHc.size)) ?_
          try simp only [List.setIfInBounds_toArray, List.set_cons_zero, List.set_cons_succ]
          have hya4 := hHc.trans (((Below.refl xc.heap.size xc).alloc (Nat.le_refl _) (.cells #[.slice none 0 0, .int .i64 0, .int .i64 0, .int .i64 0, .string ⟨#[]⟩, .int .i64 0] 29)).mono hHc.size)
          have rya4 := ResBlk.new xc (.slice none 0 0) (.int .i64 0) (.int .i64 0) (.int .i64 0) (.string ⟨#[]⟩) (.int .i64 0)
          have kya4 : xs.heap.size ≤ xc.heap.size := hHc.size
          have owny := own.alloc (.cells #[.slice none 0 0, .int .i64 0, .int .i64 0, .int .i64 0, .string ⟨#[]⟩, .int .i64 0] 29)
          have hlt := fun g e => (own.lt g e)
          obtain ⟨ya4, hyya4⟩ : ∃ y, xc.alloc (.cells #[.slice none 0 0, .int .i64 0, .int .i64 0, .int .i64 0, .string ⟨#[]⟩, .int .i64 0] 29) = y := ⟨_, rfl⟩
          rw [hyya4] at hya4 rya4 owny ⊢
          clear hyya4
          clear own
          have own := owny
          clear owny
          have hxk : xs.heap.size ≤ xc.heap.size := by omega
          have hzr := rya4.lt
          have KZ := keeps_six ya4 xc.heap.size (.slice p m.length cp) (.int .i64 0) (.int .i64 0) (.int .i64 0) (.string ⟨#[]⟩) (.int .i64 c)
          have H6 := rya4.six (.slice p m.length cp) (.int .i64 0) (.int .i64 0) (.int .i64 0) (.string ⟨#[]⟩) (.int .i64 c)
          obtain ⟨u0, u1, u2, u3, u4, u5, ⟨c0, c1, c2, c3, c4, c5⟩, f0, f1, f2, f3, f4, f5⟩ := rya4.cells
          refine oneH 6 (by kernel_rfl) ?_
          refine storeH rfl (nx := .skip) (w' := ((((((ya4.setCell ⟨xc.heap.size, 0, none⟩ (.slice p m.length cp)).setCell ⟨xc.heap.size, 1, none⟩ (.int .i64 0)).setCell ⟨xc.heap.size, 2, none⟩ (.int .i64 0)).setCell ⟨xc.heap.size, 3, none⟩ (.int .i64 0)).setCell ⟨xc.heap.size, 4, none⟩ (.string ⟨#[]⟩)).setCell ⟨xc.heap.size, 5, none⟩ (.int .i64 c))) (by go_simp) (.inl rfl) (hya4.trans (KZ.toBelow hya4.size (fun q hq => by omega))) ?_
          try simp only [List.setIfInBounds_toArray, List.set_cons_zero, List.set_cons_succ]
          obtain ⟨z6, hz6⟩ : ∃ z6, ((((((ya4.setCell ⟨xc.heap.size, 0, none⟩ (.slice p m.length cp)).setCell ⟨xc.heap.size, 1, none⟩ (.int .i64 0)).setCell ⟨xc.heap.size, 2, none⟩ (.int .i64 0)).setCell ⟨xc.heap.size, 3, none⟩ (.int .i64 0)).setCell ⟨xc.heap.size, 4, none⟩ (.string ⟨#[]⟩)).setCell ⟨xc.heap.size, 5, none⟩ (.int .i64 c)) = z6 := ⟨_, rfl⟩
          rw [hz6] at KZ H6 ⊢
          clear hz6 c0 c1 c2 c3 c4 c5 f0 f1 f2 f3 f4 f5
          refine wpAnyH_done (by kernel_rfl) ?_ _
          have hne : ∀ g, Value.ownBlock (.slice p m.length cp) = some g → g ≠ xc.heap.size ∧ g < ya4.heap.size := fun g e => ⟨by have := (hlt g e).2; omega, by have := (own.lt g e).2; omega⟩
          have ownz := rowKeep own KZ (fun g e => (hne g e).1)
          have HSL : Hid (OwnSl z6 _ (.slice p m.length cp) m) := own_sl ownz
          have HV : Hid (∀ g, Value.ownBlock (.slice p m.length cp) = some g → g < z6.heap.size) := fun g e => Nat.lt_of_lt_of_le (hne g e).2 KZ.size
          have hBz := hya4.trans (KZ.toBelow hya4.size (fun q hq => by omega))
          have HB : Hid (Below xs.heap.size xs z6) := hBz
          have HKL : Hid (xc.heap.size < z6.heap.size) := Nat.lt_of_lt_of_le hzr KZ.size
          clear own ownz hne hBz hzr
          go_wp2_with fail
          go_meet
          case rel => exact ⟨xc.heap.size, p, cp, _, rfl, H6, HSL.out, HV.out, HKL.out, HB.out⟩
        · refine doH rfl (v := .pointer (some ⟨xb.heap.size, 0, none⟩)) (w' := xb.alloc (.cells #[.slice none 0 0, .int .i64 0, .int .i64 0, .int .i64 0, .string ⟨#[]⟩, .int .i64 0] 29)) (by go_simp) (hHb.trans (((Below.refl _ _).alloc (Nat.le_refl _) _).mono hHb.size)) ?_
          try simp only [List.setIfInBounds_toArray, List.set_cons_zero, List.set_cons_succ]
          have hya3 := hHb.trans (((Below.refl xb.heap.size xb).alloc (Nat.le_refl _) (.cells #[.slice none 0 0, .int .i64 0, .int .i64 0, .int .i64 0, .string ⟨#[]⟩, .int .i64 0] 29)).mono hHb.size)
          have rya3 := ResBlk.new xb (.slice none 0 0) (.int .i64 0) (.int .i64 0) (.int .i64 0) (.string ⟨#[]⟩) (.int .i64 0)
          have kya3 : xs.heap.size ≤ xb.heap.size := hHb.size
          have n2y := n2.keep ((Below.refl xb.heap.size xb).alloc (Nat.le_refl _) (.cells #[.slice none 0 0, .int .i64 0, .int .i64 0, .int .i64 0, .string ⟨#[]⟩, .int .i64 0] 29))
          obtain ⟨ya3, hyya3⟩ : ∃ y, xb.alloc (.cells #[.slice none 0 0, .int .i64 0, .int .i64 0, .int .i64 0, .string ⟨#[]⟩, .int .i64 0] 29) = y := ⟨_, rfl⟩
          rw [hyya3] at hya3 rya3 n2y ⊢
          have hqya3 : xb.heap.size < ya3.heap.size := by rw [← hyya3]; simp
          clear hyya3
          clear n2
          have n2 := n2y
          clear n2y
          refine runG 4 (by kernel_rfl) rfl (by kernel_rfl) ?_
          go_simp
          refine (specPutQ_any _ _ _ l ⟨e1, e2, e3, e4⟩ c m _ HP.out hl (Nat.le_refl _) n2).mono ?_
          rintro e xc ⟨v, rfl, own, bb⟩
          have hHc : Below xs.heap.size xs xc := hya3.trans (bb.mono hya3.size)
          have rxc := rya3.below bb
          refine ⟨hHc, ?_⟩
          obtain ⟨p, cp, rfl, _, _⟩ := own_sl own
          clear bb
          unfold outV d0
          dsimp only
          try simp only [Act.put, List.setIfInBounds_toArray, List.set_cons_zero, List.set_cons_succ]
          have hxk : xs.heap.size ≤ xb.heap.size := by omega
          have hzr := rxc.lt
          have KZ := keeps_six xc xb.heap.size (.slice p m.length cp) (.int .i64 0) (.int .i64 0) (.int .i64 0) (.string ⟨#[]⟩) (.int .i64 c)
          have H6 := rxc.six (.slice p m.length cp) (.int .i64 0) (.int .i64 0) (.int .i64 0) (.string ⟨#[]⟩) (.int .i64 c)
          obtain ⟨u0, u1, u2, u3, u4, u5, ⟨c0, c1, c2, c3, c4, c5⟩, f0, f1, f2, f3, f4, f5⟩ := rxc.cells
          refine oneH 6 (by kernel_rfl) ?_
          refine storeH rfl (nx := .skip) (w' := ((((((xc.setCell ⟨xb.heap.size, 0, none⟩ (.slice p m.length cp)).setCell ⟨xb.heap.size, 1, none⟩ (.int .i64 0)).setCell ⟨xb.heap.size, 2, none⟩ (.int .i64 0)).setCell ⟨xb.heap.size, 3, none⟩ (.int .i64 0)).setCell ⟨xb.heap.size, 4, none⟩ (.string ⟨#[]⟩)).setCell ⟨xb.heap.size, 5, none⟩ (.int .i64 c))) (by go_simp) (.inl rfl) (hHc.trans (KZ.toBelow hHc.size (fun q hq => by omega))) ?_
          try simp only [List.setIfInBounds_toArray, List.set_cons_zero, List.set_cons_succ]
          obtain ⟨z6, hz6⟩ : ∃ z6, ((((((xc.setCell ⟨xb.heap.size, 0, none⟩ (.slice p m.length cp)).setCell ⟨xb.heap.size, 1, none⟩ (.int .i64 0)).setCell ⟨xb.heap.size, 2, none⟩ (.int .i64 0)).setCell ⟨xb.heap.size, 3, none⟩ (.int .i64 0)).setCell ⟨xb.heap.size, 4, none⟩ (.string ⟨#[]⟩)).setCell ⟨xb.heap.size, 5, none⟩ (.int .i64 c)) = z6 := ⟨_, rfl⟩
          rw [hz6] at KZ H6 ⊢
          clear hz6 c0 c1 c2 c3 c4 c5 f0 f1 f2 f3 f4 f5
          refine wpAnyH_done (by kernel_rfl) ?_ _
          have hne : ∀ g, Value.ownBlock (.slice p m.length cp) = some g → g ≠ xb.heap.size ∧ g < xc.heap.size := fun g e => ⟨by have := (own.lt g e).1; omega, (own.lt g e).2⟩
          have ownz := rowKeep own KZ (fun g e => (hne g e).1)
          have HSL : Hid (OwnSl z6 _ (.slice p m.length cp) m) := own_sl ownz
          have HV : Hid (∀ g, Value.ownBlock (.slice p m.length cp) = some g → g < z6.heap.size) := fun g e => Nat.lt_of_lt_of_le (hne g e).2 KZ.size
          have hBz := hHc.trans (KZ.toBelow hHc.size (fun q hq => by omega))
          have HB : Hid (Below xs.heap.size xs z6) := hBz
          have HKL : Hid (xb.heap.size < z6.heap.size) := Nat.lt_of_lt_of_le hzr KZ.size
          clear own ownz hne hBz hzr
          go_wp2_with fail
          go_meet
          case rel => exact ⟨xb.heap.size, p, cp, _, rfl, H6, HSL.out, HV.out, HKL.out, HB.out⟩
      · refine doH rfl (v := .pointer (some ⟨xa.heap.size, 0, none⟩)) (w' := xa.alloc (.cells #[.slice none 0 0, .int .i64 0, .int .i64 0, .int .i64 0, .string ⟨#[]⟩, .int .i64 0] 29)) (by go_simp) (hHa.trans (((Below.refl _ _).alloc (Nat.le_refl _) _).mono hHa.size)) ?_
        try simp only [List.setIfInBounds_toArray, List.set_cons_zero, List.set_cons_succ]
        have hya1 := hHa.trans (((Below.refl xa.heap.size xa).alloc (Nat.le_refl _) (.cells #[.slice none 0 0, .int .i64 0, .int .i64 0, .int .i64 0, .string ⟨#[]⟩, .int .i64 0] 29)).mono hHa.size)
        have rya1 := ResBlk.new xa (.slice none 0 0) (.int .i64 0) (.int .i64 0) (.int .i64 0) (.string ⟨#[]⟩) (.int .i64 0)
        have kya1 : xs.heap.size ≤ xa.heap.size := hHa.size
        have n1y := n1.keep ((Below.refl xa.heap.size xa).alloc (Nat.le_refl _) (.cells #[.slice none 0 0, .int .i64 0, .int .i64 0, .int .i64 0, .string ⟨#[]⟩, .int .i64 0] 29))
        obtain ⟨ya1, hyya1⟩ : ∃ y, xa.alloc (.cells #[.slice none 0 0, .int .i64 0, .int .i64 0, .int .i64 0, .string ⟨#[]⟩, .int .i64 0] 29) = y := ⟨_, rfl⟩
        rw [hyya1] at hya1 rya1 n1y ⊢
        have hqya1 : xa.heap.size < ya1.heap.size := by rw [← hyya1]; simp
        clear hyya1
        clear n1
        have n1 := n1y
        clear n1y
        refine runG 3 (by kernel_rfl) rfl (by kernel_rfl) ?_
        go_simp
        refine (toDue_any ⟨e1, e2, e3, e4⟩ _).mono ?_
        rintro e xb ⟨rfl, bb⟩
        have n2 := n1.keep bb
        have hqb := bb.size
        have hHb : Below xs.heap.size xs xb := hya1.trans (bb.mono hya1.size)
        have rxb := rya1.below bb
        refine ⟨hHb, ?_⟩
        clear n1 bb
        unfold DueV.val
        dsimp only
        try simp only [Act.put, List.setIfInBounds_toArray, List.set_cons_zero, List.set_cons_succ]
        refine runG 4 (by kernel_rfl) rfl (by kernel_rfl) ?_
        go_simp
        refine (specPutQ_any _ _ _ l ⟨e1, e2, e3, e4⟩ c m _ HP.out hl (Nat.le_refl _) n2).mono ?_
        rintro e xc ⟨v, rfl, own, bb⟩
        have hHc : Below xs.heap.size xs xc := hHb.trans (bb.mono hHb.size)
        have rxc := rxb.below bb
        refine ⟨hHc, ?_⟩
        obtain ⟨p, cp, rfl, _, _⟩ := own_sl own
        clear bb
        unfold outV d0
        dsimp only
        try simp only [Act.put, List.setIfInBounds_toArray, List.set_cons_zero, List.set_cons_succ]
        have hxk : xs.heap.size ≤ xa.heap.size := by omega
        have hzr := rxc.lt
        have KZ := keeps_six xc xa.heap.size (.slice p m.length cp) (.int .i64 0) (.int .i64 0) (.int .i64 0) (.string ⟨#[]⟩) (.int .i64 c)
        have H6 := rxc.six (.slice p m.length cp) (.int .i64 0) (.int .i64 0) (.int .i64 0) (.string ⟨#[]⟩) (.int .i64 c)
        obtain ⟨u0, u1, u2, u3, u4, u5, ⟨c0, c1, c2, c3, c4, c5⟩, f0, f1, f2, f3, f4, f5⟩ := rxc.cells
        refine oneH 6 (by kernel_rfl) ?_
        refine storeH rfl (nx := .skip) (w' := ((((((xc.setCell ⟨xa.heap.size, 0, none⟩ (.slice p m.length cp)).setCell ⟨xa.heap.size, 1, none⟩ (.int .i64 0)).setCell ⟨xa.heap.size, 2, none⟩ (.int .i64 0)).setCell ⟨xa.heap.size, 3, none⟩ (.int .i64 0)).setCell ⟨xa.heap.size, 4, none⟩ (.string ⟨#[]⟩)).setCell ⟨xa.heap.size, 5, none⟩ (.int .i64 c))) (by go_simp) (.inl rfl) (hHc.trans (KZ.toBelow hHc.size (fun q hq => by omega))) ?_
        try simp only [List.setIfInBounds_toArray, List.set_cons_zero, List.set_cons_succ]
        obtain ⟨z6, hz6⟩ : ∃ z6, ((((((xc.setCell ⟨xa.heap.size, 0, none⟩ (.slice p m.length cp)).setCell ⟨xa.heap.size, 1, none⟩ (.int .i64 0)).setCell ⟨xa.heap.size, 2, none⟩ (.int .i64 0)).setCell ⟨xa.heap.size, 3, none⟩ (.int .i64 0)).setCell ⟨xa.heap.size, 4, none⟩ (.string ⟨#[]⟩)).setCell ⟨xa.heap.size, 5, none⟩ (.int .i64 c)) = z6 := ⟨_, rfl⟩
        rw [hz6] at KZ H6 ⊢
        clear hz6 c0 c1 c2 c3 c4 c5 f0 f1 f2 f3 f4 f5
        refine wpAnyH_done (by kernel_rfl) ?_ _
        have hne : ∀ g, Value.ownBlock (.slice p m.length cp) = some g → g ≠ xa.heap.size ∧ g < xc.heap.size := fun g e => ⟨by have := (own.lt g e).1; omega, (own.lt g e).2⟩
        have ownz := rowKeep own KZ (fun g e => (hne g e).1)
        have HSL : Hid (OwnSl z6 _ (.slice p m.length cp) m) := own_sl ownz
        have HV : Hid (∀ g, Value.ownBlock (.slice p m.length cp) = some g → g < z6.heap.size) := fun g e => Nat.lt_of_lt_of_le (hne g e).2 KZ.size
        have hBz := hHc.trans (KZ.toBelow hHc.size (fun q hq => by omega))
        have HB : Hid (Below xs.heap.size xs z6) := hBz
        have HKL : Hid (xa.heap.size < z6.heap.size) := Nat.lt_of_lt_of_le hzr KZ.size
        clear own ownz hne hBz hzr
        go_wp2_with fail
        go_meet
        case rel => exact ⟨xa.heap.size, p, cp, _, rfl, H6, HSL.out, HV.out, HKL.out, HB.out⟩
    · refine doH rfl (v := .pointer (some ⟨x0.heap.size, 0, none⟩)) (w' := x0.alloc (.cells #[.slice none 0 0, .int .i64 0, .int .i64 0, .int .i64 0, .string ⟨#[]⟩, .int .i64 0] 29)) (by go_simp) (hHeld.trans (((Below.refl _ _).alloc (Nat.le_refl _) _).mono hHeld.size)) ?_
      try simp only [List.setIfInBounds_toArray, List.set_cons_zero, List.set_cons_succ]
      have hya0 := hHeld.trans (((Below.refl x0.heap.size x0).alloc (Nat.le_refl _) (.cells #[.slice none 0 0, .int .i64 0, .int .i64 0, .int .i64 0, .string ⟨#[]⟩, .int .i64 0] 29)).mono hHeld.size)
      have rya0 := ResBlk.new x0 (.slice none 0 0) (.int .i64 0) (.int .i64 0) (.int .i64 0) (.string ⟨#[]⟩) (.int .i64 0)
      have kya0 : xs.heap.size ≤ x0.heap.size := hHeld.size
      obtain ⟨ya0, hyya0⟩ : ∃ y, x0.alloc (.cells #[.slice none 0 0, .int .i64 0, .int .i64 0, .int .i64 0, .string ⟨#[]⟩, .int .i64 0] 29) = y := ⟨_, rfl⟩
      rw [hyya0] at hya0 rya0 ⊢
      have hqya0 : x0.heap.size < ya0.heap.size := by rw [← hyya0]; simp
      clear hyya0
      refine runG 1 (by kernel_rfl) rfl (by kernel_rfl) ?_
      go_simp
      refine (toDues_any a0 cap0 l _ hl (hrowx.keep hya0)).mono ?_
      rintro e xa ⟨rfl, o1, bb⟩
      have n1 := o1.row
      have hqa := bb.size
      have hHa : Below xs.heap.size xs xa := hya0.trans (bb.mono hya0.size)
      have rxa := rya0.below bb
      refine ⟨hHa, ?_⟩
      clear o1 bb
      try simp only [Act.put, List.setIfInBounds_toArray, List.set_cons_zero, List.set_cons_succ]
      refine runG 3 (by kernel_rfl) rfl (by kernel_rfl) ?_
      go_simp
      refine (toDue_any ⟨e1, e2, e3, e4⟩ _).mono ?_
      rintro e xb ⟨rfl, bb⟩
      have n2 := n1.keep bb
      have hqb := bb.size
      have hHb : Below xs.heap.size xs xb := hHa.trans (bb.mono hHa.size)
      have rxb := rxa.below bb
      refine ⟨hHb, ?_⟩
      clear n1 bb
      unfold DueV.val
      dsimp only
      try simp only [Act.put, List.setIfInBounds_toArray, List.set_cons_zero, List.set_cons_succ]
      refine runG 4 (by kernel_rfl) rfl (by kernel_rfl) ?_
      go_simp
      refine (specPutQ_any _ _ _ l ⟨e1, e2, e3, e4⟩ c m _ HP.out hl (Nat.le_refl _) n2).mono ?_
      rintro e xc ⟨v, rfl, own, bb⟩
      have hHc : Below xs.heap.size xs xc := hHb.trans (bb.mono hHb.size)
      have rxc := rxb.below bb
      refine ⟨hHc, ?_⟩
      obtain ⟨p, cp, rfl, _, _⟩ := own_sl own
      clear bb
      unfold outV d0
      dsimp only
      try simp only [Act.put, List.setIfInBounds_toArray, List.set_cons_zero, List.set_cons_succ]
      have hxk : xs.heap.size ≤ x0.heap.size := by omega
      have hzr := rxc.lt
      have KZ := keeps_six xc x0.heap.size (.slice p m.length cp) (.int .i64 0) (.int .i64 0) (.int .i64 0) (.string ⟨#[]⟩) (.int .i64 c)
      have H6 := rxc.six (.slice p m.length cp) (.int .i64 0) (.int .i64 0) (.int .i64 0) (.string ⟨#[]⟩) (.int .i64 c)
      obtain ⟨u0, u1, u2, u3, u4, u5, ⟨c0, c1, c2, c3, c4, c5⟩, f0, f1, f2, f3, f4, f5⟩ := rxc.cells
      refine oneH 6 (by kernel_rfl) ?_
      refine storeH rfl (nx := .skip) (w' := ((((((xc.setCell ⟨x0.heap.size, 0, none⟩ (.slice p m.length cp)).setCell ⟨x0.heap.size, 1, none⟩ (.int .i64 0)).setCell ⟨x0.heap.size, 2, none⟩ (.int .i64 0)).setCell ⟨x0.heap.size, 3, none⟩ (.int .i64 0)).setCell ⟨x0.heap.size, 4, none⟩ (.string ⟨#[]⟩)).setCell ⟨x0.heap.size, 5, none⟩ (.int .i64 c))) (by go_simp) (.inl rfl) (hHc.trans (KZ.toBelow hHc.size (fun q hq => by omega))) ?_
      try simp only [List.setIfInBounds_toArray, List.set_cons_zero, List.set_cons_succ]
      obtain ⟨z6, hz6⟩ : ∃ z6, ((((((xc.setCell ⟨x0.heap.size, 0, none⟩ (.slice p m.length cp)).setCell ⟨x0.heap.size, 1, none⟩ (.int .i64 0)).setCell ⟨x0.heap.size, 2, none⟩ (.int .i64 0)).setCell ⟨x0.heap.size, 3, none⟩ (.int .i64 0)).setCell ⟨x0.heap.size, 4, none⟩ (.string ⟨#[]⟩)).setCell ⟨x0.heap.size, 5, none⟩ (.int .i64 c)) = z6 := ⟨_, rfl⟩
      rw [hz6] at KZ H6 ⊢
      clear hz6 c0 c1 c2 c3 c4 c5 f0 f1 f2 f3 f4 f5
      refine wpAnyH_done (by kernel_rfl) ?_ _
      have hne : ∀ g, Value.ownBlock (.slice p m.length cp) = some g → g ≠ x0.heap.size ∧ g < xc.heap.size := fun g e => ⟨by have := (own.lt g e).1; omega, (own.lt g e).2⟩
      have ownz := rowKeep own KZ (fun g e => (hne g e).1)
      have HSL : Hid (OwnSl z6 _ (.slice p m.length cp) m) := own_sl ownz
      have HV : Hid (∀ g, Value.ownBlock (.slice p m.length cp) = some g → g < z6.heap.size) := fun g e => Nat.lt_of_lt_of_le (hne g e).2 KZ.size
      have hBz := hHc.trans (KZ.toBelow hHc.size (fun q hq => by omega))
      have HB : Hid (Below xs.heap.size xs z6) := hBz
      have HKL : Hid (x0.heap.size < z6.heap.size) := Nat.lt_of_lt_of_le hzr KZ.size
      clear own ownz hne hBz hzr
      go_wp2_with fail
      go_meet
      case rel => exact ⟨x0.heap.size, p, cp, _, rfl, H6, HSL.out, HV.out, HKL.out, HB.out⟩
  case rest =>
  obtain ⟨k6, p0, c0, lo0, hv6, O6, S0, hv0, hxy2, hBx⟩ := hcut
  subst hv6
  obtain ⟨y2, rfl⟩ : ∃ y2, y2 = wc := ⟨_, rfl⟩
  have B2 := bz.trans (hBx.mono bz.size)
  have hrow2 := hrow.keep B2
  have S2 := B2.size
  clear hBx PDx hrowx bz
  go_wp2_with fail
  refine (toDues_any a0 cap0 l _ hl hrow2).mono ?_
  rintro e x3 ⟨rfl, ox3, C3⟩
  have hx3 : y2.heap.size < x3.heap.size ∨ l = [] := by
    rcases ox3 with h | ⟨b, off, e, hlo, hlt, _⟩
    · right
      have := cellsOf_length DueV.cells_len l; rw [h] at this; simp at this
      exact List.eq_nil_of_length_eq_zero (by omega)
    · left; have : y2.heap.size = b := by simpa using congrArg (Option.map Addr.block) e
      omega
  have X3 : OwnSl x3 y2.heap.size (.slice (some ⟨y2.heap.size, 0, none⟩) l.length l.length) l := ⟨_, _, rfl, ox3, .inr ⟨_, rfl⟩⟩
  have nx3 := ox3.row
  have B3 := B2.trans (C3.mono B2.size)
  have O63 := O6.below C3
  have S03 := S0.keep C3
  have hs23 := C3.size
  clear B2 ox3 hrow2 O6 S0 C3
  have PDx := PD0.keep B3
  obtain ⟨_, s0, s1, s2, s3⟩ := PDx
  dsimp only at s0 s1 s2 s3
  go_wp2_with fail
  refine (toDue_any ⟨e1, e2, e3, e4⟩ _).mono ?_
  rintro e x3b ⟨rfl, x3bh⟩
  unfold DueV.val
  dsimp only
  have nx3b := nx3.keep x3bh
  have X3b := X3.keep x3bh
  have B3b := B3.trans (x3bh.mono B3.size)
  have O63b := O63.below x3bh
  have S03b := S03.keep x3bh
  have hs33 := x3bh.size
  clear nx3 X3 B3 O63 S03 x3bh
  clear s0 s1 s2 s3
  go_wp2_with fail
  refine (implPutQ_any _ _ l ⟨e1, e2, e3, e4⟩ c m _ HP.out hl nx3b).mono ?_
  rintro e x4 ⟨v1, rfl, own4, b4⟩
  have hv1 : ∀ g, v1.ownBlock = some g → x3b.heap.size ≤ g ∧ g < x4.heap.size := fun g e => own4.lt g e
  have s1 := own_sl own4
  have s1k := s1
  obtain ⟨p1, c1, rfl, o1, hz1⟩ := s1
  unfold outV d0
  have a4 := (Below.refl x4.heap.size x4).alloc (Nat.le_refl _) (.cells #[.slice p1 m.length c1, .int .i64 0, .int .i64 0, .int .i64 0, .string ⟨#[]⟩, .int .i64 c] 29)
  have G4 := s1k.keep a4
  have X4 := (X3b.keep b4).keep a4
  have S04 := (S03b.keep b4).keep a4
  have O64 := (O63b.below b4).below a4
  have O8 : OutIs (x4.alloc (.cells #[.slice p1 m.length c1, .int .i64 0, .int .i64 0, .int .i64 0, .string ⟨#[]⟩, .int .i64 c] 29)) x4.heap.size (.slice p1 m.length c1) (.int .i64 0) (.int .i64 0) (.int .i64 0) (.string ⟨#[]⟩) (.int .i64 c) := heap_alloc_new x4 _
  have B4 := (B3b.trans (b4.mono B3b.size)).trans (a4.mono (B3b.trans (b4.mono B3b.size)).size)
  have hs34 := b4.size
  obtain ⟨y4, hy4⟩ : ∃ y, x4.alloc (.cells #[.slice p1 m.length c1, .int .i64 0, .int .i64 0, .int .i64 0, .string ⟨#[]⟩, .int .i64 c] 29) = y := ⟨_, rfl⟩
  obtain ⟨k8, hk8⟩ : ∃ k, x4.heap.size = k := ⟨_, rfl⟩
  have HY4 : Hid (x4.alloc (.cells #[.slice p1 m.length c1, .int .i64 0, .int .i64 0, .int .i64 0, .string ⟨#[]⟩, .int .i64 c] 29) = y4) := hy4
  rw [hy4] at G4 X4 S04 O64 O8 B4
  rw [hk8] at O8 hv1 hs34
  obtain ⟨g60, g61, g62, g63, g64, g65⟩ := O64.cells
  obtain ⟨g80, g81, g82, g83, g84, g85⟩ := O8.cells
  have HV0 : Hid (∀ g, Value.ownBlock (.slice p0 m.length c0) = some g → g < y2.heap.size) := hv0
  have HV1 : Hid (∀ g, Value.ownBlock (.slice p1 m.length c1) = some g → x3b.heap.size ≤ g ∧ g < k8) := hv1
  clear own4 X3b B3b O63b S03b b4 s1k o1 hz1 a4 hy4 nx3b hv0 hv1
  go_upto_region 11 with fail
  rw [HY4.out]
  clear HY4 hk8
  go_wp2_with fail
  refine (eqOut_same (.slice p1 m.length c1) (.slice p0 m.length c0) _ _ d0 c m _ hml G4 S04).mono ?_
  rintro e x5 ⟨rfl, b5⟩
  have G5 := G4.keep b5
  have X5 := X4.keep b5
  have S05 := S04.keep b5
  have O65 := O64.below b5
  have O85 := O8.below b5
  have B5 := B4.trans (b5.mono B4.size)
  have hrow5 := hrow.keep B5
  clear G4 X4 S04 O64 O8 B4 b5 g60 g61 g62 g63 g64 g65 g80 g81 g82 g83 g84 g85
  go_wp2_with fail
  refine (toDues_any a0 cap0 l _ hl hrow5).mono ?_
  rintro e x6 ⟨rfl, o6, b6⟩
  have n6 := o6.row
  have G6 := G5.keep b6
  have X6 := X5.keep b6
  have S06 := S05.keep b6
  have O66 := O65.below b6
  have O86 := O85.below b6
  have B6 := B5.trans (b6.mono B5.size)
  clear G5 X5 S05 O65 O85 B5 b6 o6 hrow5
  obtain ⟨ax, cx, ex, ox6, hzx⟩ := X6
  have nx6 : CellRow x6 (some ⟨y2.heap.size, 0, none⟩) (cellsOf DueV.cells l) := by
    simp only [Value.slice.injEq, true_and] at ex
    obtain ⟨rfl, rfl⟩ := ex
    exact ox6.row
  have X6 : OwnSl x6 y2.heap.size (.slice (some ⟨y2.heap.size, 0, none⟩) l.length l.length) l := ⟨ax, cx, ex, ox6, hzx⟩
  clear ex ox6 hzx
  go_wp2_with fail
  refine (eqDues_same _ _ _ _ l _ hl nx6 n6).mono ?_
  rintro e x7 ⟨rfl, b7⟩
  have G7 := G6.keep b7
  have X7 := X6.keep b7
  have S07 := S06.keep b7
  have O67 := O66.below b7
  have O87 := O86.below b7
  have B7 := B6.trans (b7.mono B6.size)
  clear G6 X6 S06 O66 O86 B6 b7 n6 nx6
  go_wp2_with fail
  refine (markDues_i y2.heap.size (.slice (some ⟨y2.heap.size, 0, none⟩) l.length l.length) l 1 _ hl X7).mono ?_
  rintro e x8 ⟨rfl, _, K8⟩
  have HKX : Hid (∀ g, g ≠ y2.heap.size ∨ l.length = 0 → blkOf (.slice (some ⟨y2.heap.size, 0, none⟩) l.length l.length) l.length g) := fun g hg => by
    rcases hg with hg | hg
    · right
      intro e
      have e2 : y2.heap.size = g := by simpa [Value.ownBlock] using e
      omega
    · exact .inl hg
  have hx3' : y2.heap.size < x3.heap.size ∨ l.length = 0 := hx3.imp id (fun h => by rw [h]; rfl)
  have G8 := G7.keepB K8 (fun g e => HKX.out g (by have := HV1.out g e; omega))
  have S08 := S07.keepB K8 (fun g e => HKX.out g (by have := HV0.out g e; omega))
  have O68 := O67.keep K8 (HKX.out _ (by omega))
  have O88 := O87.keep K8 (HKX.out _ (by omega))
  have B8 := B7.trans (K8.toBelow B7.size (fun q hq => HKX.out q (by omega)))
  have hm8 : ¬ ((1 + 4 * l.length : Nat) : Int) < 0 := by omega
  obtain ⟨g60, g61, g62, g63, g64, g65⟩ := O68.cells
  obtain ⟨g80, g81, g82, g83, g84, g85⟩ := O88.cells
  clear G7 X7 S07 O67 O87 B7 K8
  go_wp2_with fail
  refine (eqOut_same (.slice p1 m.length c1) (.slice p0 m.length c0) _ _ d0 c m _ hml G8 S08).mono ?_
  rintro e x9 ⟨rfl, b9⟩
  have G9 := G8.keep b9
  have S09 := S08.keep b9
  have O69 := O68.below b9
  have O89 := O88.below b9
  have B9 := B8.trans (b9.mono B8.size)
  clear G8 S08 O68 O88 B8 b9 g60 g61 g62 g63 g64 g65 g80 g81 g82 g83 g84 g85 hm8
  obtain ⟨g80, g81, g82, g83, g84, g85⟩ := O89.cells
  go_wp2_with fail
  refine (markOut_i x3b.heap.size (.slice p1 m.length c1) d0 c m 1 _ hml G9).mono ?_
  rintro e x10 ⟨rfl, G10, K10⟩
  have HKG : Hid (∀ g, g < x3b.heap.size ∨ k8 ≤ g → blkOf (.slice p1 m.length c1) m.length g) := fun g hg => .inr (fun e => by have := HV1.out g e; omega)
  have S010 := S09.keepB K10 (fun g e => HKG.out g (by have := HV0.out g e; omega))
  have O610 := O69.keep K10 (HKG.out _ (by omega))
  have O810 := O89.keep K10 (HKG.out _ (by omega))
  have B10 := B9.trans (K10.toBelow B9.size (fun q hq => HKG.out q (by omega)))
  clear G9 S09 O69 O89 B9 K10 g80 g81 g82 g83 g84 g85
  obtain ⟨g80, g81, g82, g83, g84, g85⟩ := O810.cells
  go_wp2_with fail
  refine (heldOut_i x3b.heap.size (.slice p1 m.length c1) d0 c m.length 1 _ hml G10).mono ?_
  rintro e x11 ⟨rfl, b11⟩
  have G11 := G10.keep b11
  have S011 := S010.keep b11
  have O611 := O610.below b11
  have O811 := O810.below b11
  have B11 := B10.trans (b11.mono B10.size)
  have hm11 : ¬ ((1 + 4 * m.length : Nat) : Int) < 0 := by omega
  clear G10 S010 O610 O810 B10 b11 g80 g81 g82 g83 g84 g85
  have PDx := PD0.keep B11
  have hrowx := hrow.keep B11
  go_upto_region 27 with fail
  go_cut [12] (fun v wc => ∃ k6 p cp lo, v = .pointer (some ⟨k6, 0, none⟩) ∧ OutIs wc k6 (.slice p m.length cp) (.int .i64 0) (.int .i64 0) (.int .i64 0) (.string ⟨#[]⟩) (.int .i64 c) ∧ OwnSl wc lo (.slice p m.length cp) m ∧ (∀ g, Value.ownBlock (.slice p m.length cp) = some g → g < wc.heap.size) ∧ k6 < wc.heap.size ∧ Below x11.heap.size x11 wc)
  case first =>
    refine wp_region_held_drew (S := (fun w' => Below x11.heap.size x11 w')) (by kernel_rfl) ?hS0 (fun hHeld => ?_)
    case hS0 => exact (Below.refl _ _).drew
    refine takeG 0 (v := .slice a0 l.length cap0) rfl (by kernel_rfl) (by kernel_rfl) (by kernel_rfl) (by kernel_rfl) (fun _ _ _ h => h) ?hy (by assumption) ?_
    case hy => (intro w' hSw; go_simp)
    try simp only [List.setIfInBounds_toArray, List.set_cons_zero, List.set_cons_succ]
    refine takeG 2 (v := .agg #[.int .i64 e1, .int .i64 e2, .int .i64 e3, .string e4]) rfl (by kernel_rfl) (by kernel_rfl) (by kernel_rfl) (by kernel_rfl) (fun _ _ _ h => h) ?hy (by assumption) ?_
    case hy => (intro w' hSw; obtain ⟨_, s0, s1, s2, s3⟩ := (PDx).keep hSw; dsimp only at s0 s1 s2 s3; go_simp)
    try simp only [List.setIfInBounds_toArray, List.set_cons_zero, List.set_cons_succ]
    obtain ⟨x0, hx0⟩ : ∃ x0, x11.drew = x0 := ⟨_, rfl⟩
    rw [hx0] at hHeld ⊢
    clear hx0
    refine twoH 1 5 (by kernel_rfl) ?_ ?_
    · refine callW rfl (by kernel_rfl) ?_
      go_simp
      refine (toDues_any a0 cap0 l _ hl (hrowx.keep hHeld)).mono ?_
      rintro e xa ⟨rfl, o1, bb⟩
      have n1 := o1.row
      have hHa : Below x11.heap.size x11 xa := hHeld.trans (bb.mono hHeld.size)
      refine ⟨hHa, ?_⟩
      clear o1 bb
      try simp only [Act.put, List.setIfInBounds_toArray, List.set_cons_zero, List.set_cons_succ]
      refine twoH 3 5 (by kernel_rfl) ?_ ?_
      · refine callW rfl (by kernel_rfl) ?_
        go_simp
        refine (toDue_any ⟨e1, e2, e3, e4⟩ _).mono ?_
        rintro e xb ⟨rfl, bb⟩
        have n2 := n1.keep bb
        have hHb : Below x11.heap.size x11 xb := hHa.trans (bb.mono hHa.size)
        refine ⟨hHb, ?_⟩
        clear n1 bb
        unfold DueV.val
        dsimp only
        try simp only [Act.put, List.setIfInBounds_toArray, List.set_cons_zero, List.set_cons_succ]
        refine twoH 4 5 (by kernel_rfl) ?_ ?_
        · refine callW rfl (by kernel_rfl) ?_
          go_simp
          refine (implPutQ_any _ _ l ⟨e1, e2, e3, e4⟩ c m _ HP.out hl n2).mono ?_
          rintro e xc ⟨v, rfl, own, bb⟩
          have hHc : Below x11.heap.size x11 xc := hHb.trans (bb.mono hHb.size)
          refine ⟨hHc, ?_⟩
          obtain ⟨p, cp, rfl, _, _⟩ := own_sl own
          clear bb
          unfold outV d0
          dsimp only
          try simp only [Act.put, List.setIfInBounds_toArray, List.set_cons_zero, List.set_cons_succ]
          refine oneH 5 (by kernel_rfl) ?_
          refine doH rfl (v := .pointer (some ⟨xc.heap.size, 0, none⟩)) (w' := xc.alloc (.cells #[.slice none 0 0, .int .i64 0, .int .i64 0, .int .i64 0, .string ⟨#[]⟩, .int .i64 0] 29)) (by go_simp) (hHc.trans (((Below.refl _ _).alloc (Nat.le_refl _) _).mono hHc.size)) ?_
          try simp only [List.setIfInBounds_toArray, List.set_cons_zero, List.set_cons_succ]
          have hya4 := hHc.trans (((Below.refl xc.heap.size xc).alloc (Nat.le_refl _) (.cells #[.slice none 0 0, .int .i64 0, .int .i64 0, .int .i64 0, .string ⟨#[]⟩, .int .i64 0] 29)).mono hHc.size)
          have rya4 := ResBlk.new xc (.slice none 0 0) (.int .i64 0) (.int .i64 0) (.int .i64 0) (.string ⟨#[]⟩) (.int .i64 0)
          have kya4 : x11.heap.size ≤ xc.heap.size := hHc.size
          have owny := own.alloc (.cells #[.slice none 0 0, .int .i64 0, .int .i64 0, .int .i64 0, .string ⟨#[]⟩, .int .i64 0] 29)
          have hlt := fun g e => (own.lt g e)
          obtain ⟨ya4, hyya4⟩ : ∃ y, xc.alloc (.cells #[.slice none 0 0, .int .i64 0, .int .i64 0, .int .i64 0, .string ⟨#[]⟩, .int .i64 0] 29) = y := ⟨_, rfl⟩
          rw [hyya4] at hya4 rya4 owny ⊢
          clear hyya4
          clear own
          have own := owny
          clear owny
          have hxk : x11.heap.size ≤ xc.heap.size := by omega
          have hzr := rya4.lt
          have KZ := keeps_six ya4 xc.heap.size (.slice p m.length cp) (.int .i64 0) (.int .i64 0) (.int .i64 0) (.string ⟨#[]⟩) (.int .i64 c)
          have H6 := rya4.six (.slice p m.length cp) (.int .i64 0) (.int .i64 0) (.int .i64 0) (.string ⟨#[]⟩) (.int .i64 c)
          obtain ⟨u0, u1, u2, u3, u4, u5, ⟨c0, c1, c2, c3, c4, c5⟩, f0, f1, f2, f3, f4, f5⟩ := rya4.cells
          refine oneH 6 (by kernel_rfl) ?_
          refine storeH rfl (nx := .skip) (w' := ((((((ya4.setCell ⟨xc.heap.size, 0, none⟩ (.slice p m.length cp)).setCell ⟨xc.heap.size, 1, none⟩ (.int .i64 0)).setCell ⟨xc.heap.size, 2, none⟩ (.int .i64 0)).setCell ⟨xc.heap.size, 3, none⟩ (.int .i64 0)).setCell ⟨xc.heap.size, 4, none⟩ (.string ⟨#[]⟩)).setCell ⟨xc.heap.size, 5, none⟩ (.int .i64 c))) (by go_simp) (.inl rfl) (hya4.trans (KZ.toBelow hya4.size (fun q hq => by omega))) ?_
          try simp only [List.setIfInBounds_toArray, List.set_cons_zero, List.set_cons_succ]
          obtain ⟨z6, hz6⟩ : ∃ z6, ((((((ya4.setCell ⟨xc.heap.size, 0, none⟩ (.slice p m.length cp)).setCell ⟨xc.heap.size, 1, none⟩ (.int .i64 0)).setCell ⟨xc.heap.size, 2, none⟩ (.int .i64 0)).setCell ⟨xc.heap.size, 3, none⟩ (.int .i64 0)).setCell ⟨xc.heap.size, 4, none⟩ (.string ⟨#[]⟩)).setCell ⟨xc.heap.size, 5, none⟩ (.int .i64 c)) = z6 := ⟨_, rfl⟩
          rw [hz6] at KZ H6 ⊢
          clear hz6 c0 c1 c2 c3 c4 c5 f0 f1 f2 f3 f4 f5
          refine wpAnyH_done (by kernel_rfl) ?_ _
          have hne : ∀ g, Value.ownBlock (.slice p m.length cp) = some g → g ≠ xc.heap.size ∧ g < ya4.heap.size := fun g e => ⟨by have := (hlt g e).2; omega, by have := (own.lt g e).2; omega⟩
          have ownz := rowKeep own KZ (fun g e => (hne g e).1)
          have HSL : Hid (OwnSl z6 _ (.slice p m.length cp) m) := own_sl ownz
          have HV : Hid (∀ g, Value.ownBlock (.slice p m.length cp) = some g → g < z6.heap.size) := fun g e => Nat.lt_of_lt_of_le (hne g e).2 KZ.size
          have hBz := hya4.trans (KZ.toBelow hya4.size (fun q hq => by omega))
          have HB : Hid (Below x11.heap.size x11 z6) := hBz
          have HKL : Hid (xc.heap.size < z6.heap.size) := Nat.lt_of_lt_of_le hzr KZ.size
          clear own ownz hne hBz hzr
          go_wp2_with fail
          go_meet
          case rel => exact ⟨xc.heap.size, p, cp, _, rfl, H6, HSL.out, HV.out, HKL.out, HB.out⟩
        · refine doH rfl (v := .pointer (some ⟨xb.heap.size, 0, none⟩)) (w' := xb.alloc (.cells #[.slice none 0 0, .int .i64 0, .int .i64 0, .int .i64 0, .string ⟨#[]⟩, .int .i64 0] 29)) (by go_simp) (hHb.trans (((Below.refl _ _).alloc (Nat.le_refl _) _).mono hHb.size)) ?_
          try simp only [List.setIfInBounds_toArray, List.set_cons_zero, List.set_cons_succ]
          have hya3 := hHb.trans (((Below.refl xb.heap.size xb).alloc (Nat.le_refl _) (.cells #[.slice none 0 0, .int .i64 0, .int .i64 0, .int .i64 0, .string ⟨#[]⟩, .int .i64 0] 29)).mono hHb.size)
          have rya3 := ResBlk.new xb (.slice none 0 0) (.int .i64 0) (.int .i64 0) (.int .i64 0) (.string ⟨#[]⟩) (.int .i64 0)
          have kya3 : x11.heap.size ≤ xb.heap.size := hHb.size
          have n2y := n2.keep ((Below.refl xb.heap.size xb).alloc (Nat.le_refl _) (.cells #[.slice none 0 0, .int .i64 0, .int .i64 0, .int .i64 0, .string ⟨#[]⟩, .int .i64 0] 29))
          obtain ⟨ya3, hyya3⟩ : ∃ y, xb.alloc (.cells #[.slice none 0 0, .int .i64 0, .int .i64 0, .int .i64 0, .string ⟨#[]⟩, .int .i64 0] 29) = y := ⟨_, rfl⟩
          rw [hyya3] at hya3 rya3 n2y ⊢
          have hqya3 : xb.heap.size < ya3.heap.size := by rw [← hyya3]; simp
          clear hyya3
          clear n2
          have n2 := n2y
          clear n2y
          refine runG 4 (by kernel_rfl) rfl (by kernel_rfl) ?_
          go_simp
          refine (implPutQ_any _ _ l ⟨e1, e2, e3, e4⟩ c m _ HP.out hl n2).mono ?_
          rintro e xc ⟨v, rfl, own, bb⟩
          have hHc : Below x11.heap.size x11 xc := hya3.trans (bb.mono hya3.size)
          have rxc := rya3.below bb
          refine ⟨hHc, ?_⟩
          obtain ⟨p, cp, rfl, _, _⟩ := own_sl own
          clear bb
          unfold outV d0
          dsimp only
          try simp only [Act.put, List.setIfInBounds_toArray, List.set_cons_zero, List.set_cons_succ]
          have hxk : x11.heap.size ≤ xb.heap.size := by omega
          have hzr := rxc.lt
          have KZ := keeps_six xc xb.heap.size (.slice p m.length cp) (.int .i64 0) (.int .i64 0) (.int .i64 0) (.string ⟨#[]⟩) (.int .i64 c)
          have H6 := rxc.six (.slice p m.length cp) (.int .i64 0) (.int .i64 0) (.int .i64 0) (.string ⟨#[]⟩) (.int .i64 c)
          obtain ⟨u0, u1, u2, u3, u4, u5, ⟨c0, c1, c2, c3, c4, c5⟩, f0, f1, f2, f3, f4, f5⟩ := rxc.cells
          refine oneH 6 (by kernel_rfl) ?_
          refine storeH rfl (nx := .skip) (w' := ((((((xc.setCell ⟨xb.heap.size, 0, none⟩ (.slice p m.length cp)).setCell ⟨xb.heap.size, 1, none⟩ (.int .i64 0)).setCell ⟨xb.heap.size, 2, none⟩ (.int .i64 0)).setCell ⟨xb.heap.size, 3, none⟩ (.int .i64 0)).setCell ⟨xb.heap.size, 4, none⟩ (.string ⟨#[]⟩)).setCell ⟨xb.heap.size, 5, none⟩ (.int .i64 c))) (by go_simp) (.inl rfl) (hHc.trans (KZ.toBelow hHc.size (fun q hq => by omega))) ?_
          try simp only [List.setIfInBounds_toArray, List.set_cons_zero, List.set_cons_succ]
          obtain ⟨z6, hz6⟩ : ∃ z6, ((((((xc.setCell ⟨xb.heap.size, 0, none⟩ (.slice p m.length cp)).setCell ⟨xb.heap.size, 1, none⟩ (.int .i64 0)).setCell ⟨xb.heap.size, 2, none⟩ (.int .i64 0)).setCell ⟨xb.heap.size, 3, none⟩ (.int .i64 0)).setCell ⟨xb.heap.size, 4, none⟩ (.string ⟨#[]⟩)).setCell ⟨xb.heap.size, 5, none⟩ (.int .i64 c)) = z6 := ⟨_, rfl⟩
          rw [hz6] at KZ H6 ⊢
          clear hz6 c0 c1 c2 c3 c4 c5 f0 f1 f2 f3 f4 f5
          refine wpAnyH_done (by kernel_rfl) ?_ _
          have hne : ∀ g, Value.ownBlock (.slice p m.length cp) = some g → g ≠ xb.heap.size ∧ g < xc.heap.size := fun g e => ⟨by have := (own.lt g e).1; omega, (own.lt g e).2⟩
          have ownz := rowKeep own KZ (fun g e => (hne g e).1)
          have HSL : Hid (OwnSl z6 _ (.slice p m.length cp) m) := own_sl ownz
          have HV : Hid (∀ g, Value.ownBlock (.slice p m.length cp) = some g → g < z6.heap.size) := fun g e => Nat.lt_of_lt_of_le (hne g e).2 KZ.size
          have hBz := hHc.trans (KZ.toBelow hHc.size (fun q hq => by omega))
          have HB : Hid (Below x11.heap.size x11 z6) := hBz
          have HKL : Hid (xb.heap.size < z6.heap.size) := Nat.lt_of_lt_of_le hzr KZ.size
          clear own ownz hne hBz hzr
          go_wp2_with fail
          go_meet
          case rel => exact ⟨xb.heap.size, p, cp, _, rfl, H6, HSL.out, HV.out, HKL.out, HB.out⟩
      · refine doH rfl (v := .pointer (some ⟨xa.heap.size, 0, none⟩)) (w' := xa.alloc (.cells #[.slice none 0 0, .int .i64 0, .int .i64 0, .int .i64 0, .string ⟨#[]⟩, .int .i64 0] 29)) (by go_simp) (hHa.trans (((Below.refl _ _).alloc (Nat.le_refl _) _).mono hHa.size)) ?_
        try simp only [List.setIfInBounds_toArray, List.set_cons_zero, List.set_cons_succ]
        have hya1 := hHa.trans (((Below.refl xa.heap.size xa).alloc (Nat.le_refl _) (.cells #[.slice none 0 0, .int .i64 0, .int .i64 0, .int .i64 0, .string ⟨#[]⟩, .int .i64 0] 29)).mono hHa.size)
        have rya1 := ResBlk.new xa (.slice none 0 0) (.int .i64 0) (.int .i64 0) (.int .i64 0) (.string ⟨#[]⟩) (.int .i64 0)
        have kya1 : x11.heap.size ≤ xa.heap.size := hHa.size
        have n1y := n1.keep ((Below.refl xa.heap.size xa).alloc (Nat.le_refl _) (.cells #[.slice none 0 0, .int .i64 0, .int .i64 0, .int .i64 0, .string ⟨#[]⟩, .int .i64 0] 29))
        obtain ⟨ya1, hyya1⟩ : ∃ y, xa.alloc (.cells #[.slice none 0 0, .int .i64 0, .int .i64 0, .int .i64 0, .string ⟨#[]⟩, .int .i64 0] 29) = y := ⟨_, rfl⟩
        rw [hyya1] at hya1 rya1 n1y ⊢
        have hqya1 : xa.heap.size < ya1.heap.size := by rw [← hyya1]; simp
        clear hyya1
        clear n1
        have n1 := n1y
        clear n1y
        refine runG 3 (by kernel_rfl) rfl (by kernel_rfl) ?_
        go_simp
        refine (toDue_any ⟨e1, e2, e3, e4⟩ _).mono ?_
        rintro e xb ⟨rfl, bb⟩
        have n2 := n1.keep bb
        have hqb := bb.size
        have hHb : Below x11.heap.size x11 xb := hya1.trans (bb.mono hya1.size)
        have rxb := rya1.below bb
        refine ⟨hHb, ?_⟩
        clear n1 bb
        unfold DueV.val
        dsimp only
        try simp only [Act.put, List.setIfInBounds_toArray, List.set_cons_zero, List.set_cons_succ]
        refine runG 4 (by kernel_rfl) rfl (by kernel_rfl) ?_
        go_simp
        refine (implPutQ_any _ _ l ⟨e1, e2, e3, e4⟩ c m _ HP.out hl n2).mono ?_
        rintro e xc ⟨v, rfl, own, bb⟩
        have hHc : Below x11.heap.size x11 xc := hHb.trans (bb.mono hHb.size)
        have rxc := rxb.below bb
        refine ⟨hHc, ?_⟩
        obtain ⟨p, cp, rfl, _, _⟩ := own_sl own
        clear bb
        unfold outV d0
        dsimp only
        try simp only [Act.put, List.setIfInBounds_toArray, List.set_cons_zero, List.set_cons_succ]
        have hxk : x11.heap.size ≤ xa.heap.size := by omega
        have hzr := rxc.lt
        have KZ := keeps_six xc xa.heap.size (.slice p m.length cp) (.int .i64 0) (.int .i64 0) (.int .i64 0) (.string ⟨#[]⟩) (.int .i64 c)
        have H6 := rxc.six (.slice p m.length cp) (.int .i64 0) (.int .i64 0) (.int .i64 0) (.string ⟨#[]⟩) (.int .i64 c)
        obtain ⟨u0, u1, u2, u3, u4, u5, ⟨c0, c1, c2, c3, c4, c5⟩, f0, f1, f2, f3, f4, f5⟩ := rxc.cells
        refine oneH 6 (by kernel_rfl) ?_
        refine storeH rfl (nx := .skip) (w' := ((((((xc.setCell ⟨xa.heap.size, 0, none⟩ (.slice p m.length cp)).setCell ⟨xa.heap.size, 1, none⟩ (.int .i64 0)).setCell ⟨xa.heap.size, 2, none⟩ (.int .i64 0)).setCell ⟨xa.heap.size, 3, none⟩ (.int .i64 0)).setCell ⟨xa.heap.size, 4, none⟩ (.string ⟨#[]⟩)).setCell ⟨xa.heap.size, 5, none⟩ (.int .i64 c))) (by go_simp) (.inl rfl) (hHc.trans (KZ.toBelow hHc.size (fun q hq => by omega))) ?_
        try simp only [List.setIfInBounds_toArray, List.set_cons_zero, List.set_cons_succ]
        obtain ⟨z6, hz6⟩ : ∃ z6, ((((((xc.setCell ⟨xa.heap.size, 0, none⟩ (.slice p m.length cp)).setCell ⟨xa.heap.size, 1, none⟩ (.int .i64 0)).setCell ⟨xa.heap.size, 2, none⟩ (.int .i64 0)).setCell ⟨xa.heap.size, 3, none⟩ (.int .i64 0)).setCell ⟨xa.heap.size, 4, none⟩ (.string ⟨#[]⟩)).setCell ⟨xa.heap.size, 5, none⟩ (.int .i64 c)) = z6 := ⟨_, rfl⟩
        rw [hz6] at KZ H6 ⊢
        clear hz6 c0 c1 c2 c3 c4 c5 f0 f1 f2 f3 f4 f5
        refine wpAnyH_done (by kernel_rfl) ?_ _
        have hne : ∀ g, Value.ownBlock (.slice p m.length cp) = some g → g ≠ xa.heap.size ∧ g < xc.heap.size := fun g e => ⟨by have := (own.lt g e).1; omega, (own.lt g e).2⟩
        have ownz := rowKeep own KZ (fun g e => (hne g e).1)
        have HSL : Hid (OwnSl z6 _ (.slice p m.length cp) m) := own_sl ownz
        have HV : Hid (∀ g, Value.ownBlock (.slice p m.length cp) = some g → g < z6.heap.size) := fun g e => Nat.lt_of_lt_of_le (hne g e).2 KZ.size
        have hBz := hHc.trans (KZ.toBelow hHc.size (fun q hq => by omega))
        have HB : Hid (Below x11.heap.size x11 z6) := hBz
        have HKL : Hid (xa.heap.size < z6.heap.size) := Nat.lt_of_lt_of_le hzr KZ.size
        clear own ownz hne hBz hzr
        go_wp2_with fail
        go_meet
        case rel => exact ⟨xa.heap.size, p, cp, _, rfl, H6, HSL.out, HV.out, HKL.out, HB.out⟩
    · refine doH rfl (v := .pointer (some ⟨x0.heap.size, 0, none⟩)) (w' := x0.alloc (.cells #[.slice none 0 0, .int .i64 0, .int .i64 0, .int .i64 0, .string ⟨#[]⟩, .int .i64 0] 29)) (by go_simp) (hHeld.trans (((Below.refl _ _).alloc (Nat.le_refl _) _).mono hHeld.size)) ?_
      try simp only [List.setIfInBounds_toArray, List.set_cons_zero, List.set_cons_succ]
      have hya0 := hHeld.trans (((Below.refl x0.heap.size x0).alloc (Nat.le_refl _) (.cells #[.slice none 0 0, .int .i64 0, .int .i64 0, .int .i64 0, .string ⟨#[]⟩, .int .i64 0] 29)).mono hHeld.size)
      have rya0 := ResBlk.new x0 (.slice none 0 0) (.int .i64 0) (.int .i64 0) (.int .i64 0) (.string ⟨#[]⟩) (.int .i64 0)
      have kya0 : x11.heap.size ≤ x0.heap.size := hHeld.size
      obtain ⟨ya0, hyya0⟩ : ∃ y, x0.alloc (.cells #[.slice none 0 0, .int .i64 0, .int .i64 0, .int .i64 0, .string ⟨#[]⟩, .int .i64 0] 29) = y := ⟨_, rfl⟩
      rw [hyya0] at hya0 rya0 ⊢
      have hqya0 : x0.heap.size < ya0.heap.size := by rw [← hyya0]; simp
      clear hyya0
      refine runG 1 (by kernel_rfl) rfl (by kernel_rfl) ?_
      go_simp
      refine (toDues_any a0 cap0 l _ hl (hrowx.keep hya0)).mono ?_
      rintro e xa ⟨rfl, o1, bb⟩
      have n1 := o1.row
      have hqa := bb.size
      have hHa : Below x11.heap.size x11 xa := hya0.trans (bb.mono hya0.size)
      have rxa := rya0.below bb
      refine ⟨hHa, ?_⟩
      clear o1 bb
      try simp only [Act.put, List.setIfInBounds_toArray, List.set_cons_zero, List.set_cons_succ]
      refine runG 3 (by kernel_rfl) rfl (by kernel_rfl) ?_
      go_simp
      refine (toDue_any ⟨e1, e2, e3, e4⟩ _).mono ?_
      rintro e xb ⟨rfl, bb⟩
      have n2 := n1.keep bb
      have hqb := bb.size
      have hHb : Below x11.heap.size x11 xb := hHa.trans (bb.mono hHa.size)
      have rxb := rxa.below bb
      refine ⟨hHb, ?_⟩
      clear n1 bb
      unfold DueV.val
      dsimp only
      try simp only [Act.put, List.setIfInBounds_toArray, List.set_cons_zero, List.set_cons_succ]
      refine runG 4 (by kernel_rfl) rfl (by kernel_rfl) ?_
      go_simp
      refine (implPutQ_any _ _ l ⟨e1, e2, e3, e4⟩ c m _ HP.out hl n2).mono ?_
      rintro e xc ⟨v, rfl, own, bb⟩
      have hHc : Below x11.heap.size x11 xc := hHb.trans (bb.mono hHb.size)
      have rxc := rxb.below bb
      refine ⟨hHc, ?_⟩
      obtain ⟨p, cp, rfl, _, _⟩ := own_sl own
      clear bb
      unfold outV d0
      dsimp only
      try simp only [Act.put, List.setIfInBounds_toArray, List.set_cons_zero, List.set_cons_succ]
      have hxk : x11.heap.size ≤ x0.heap.size := by omega
      have hzr := rxc.lt
      have KZ := keeps_six xc x0.heap.size (.slice p m.length cp) (.int .i64 0) (.int .i64 0) (.int .i64 0) (.string ⟨#[]⟩) (.int .i64 c)
      have H6 := rxc.six (.slice p m.length cp) (.int .i64 0) (.int .i64 0) (.int .i64 0) (.string ⟨#[]⟩) (.int .i64 c)
      obtain ⟨u0, u1, u2, u3, u4, u5, ⟨c0, c1, c2, c3, c4, c5⟩, f0, f1, f2, f3, f4, f5⟩ := rxc.cells
      refine oneH 6 (by kernel_rfl) ?_
      refine storeH rfl (nx := .skip) (w' := ((((((xc.setCell ⟨x0.heap.size, 0, none⟩ (.slice p m.length cp)).setCell ⟨x0.heap.size, 1, none⟩ (.int .i64 0)).setCell ⟨x0.heap.size, 2, none⟩ (.int .i64 0)).setCell ⟨x0.heap.size, 3, none⟩ (.int .i64 0)).setCell ⟨x0.heap.size, 4, none⟩ (.string ⟨#[]⟩)).setCell ⟨x0.heap.size, 5, none⟩ (.int .i64 c))) (by go_simp) (.inl rfl) (hHc.trans (KZ.toBelow hHc.size (fun q hq => by omega))) ?_
      try simp only [List.setIfInBounds_toArray, List.set_cons_zero, List.set_cons_succ]
      obtain ⟨z6, hz6⟩ : ∃ z6, ((((((xc.setCell ⟨x0.heap.size, 0, none⟩ (.slice p m.length cp)).setCell ⟨x0.heap.size, 1, none⟩ (.int .i64 0)).setCell ⟨x0.heap.size, 2, none⟩ (.int .i64 0)).setCell ⟨x0.heap.size, 3, none⟩ (.int .i64 0)).setCell ⟨x0.heap.size, 4, none⟩ (.string ⟨#[]⟩)).setCell ⟨x0.heap.size, 5, none⟩ (.int .i64 c)) = z6 := ⟨_, rfl⟩
      rw [hz6] at KZ H6 ⊢
      clear hz6 c0 c1 c2 c3 c4 c5 f0 f1 f2 f3 f4 f5
      refine wpAnyH_done (by kernel_rfl) ?_ _
      have hne : ∀ g, Value.ownBlock (.slice p m.length cp) = some g → g ≠ x0.heap.size ∧ g < xc.heap.size := fun g e => ⟨by have := (own.lt g e).1; omega, (own.lt g e).2⟩
      have ownz := rowKeep own KZ (fun g e => (hne g e).1)
      have HSL : Hid (OwnSl z6 _ (.slice p m.length cp) m) := own_sl ownz
      have HV : Hid (∀ g, Value.ownBlock (.slice p m.length cp) = some g → g < z6.heap.size) := fun g e => Nat.lt_of_lt_of_le (hne g e).2 KZ.size
      have hBz := hHc.trans (KZ.toBelow hHc.size (fun q hq => by omega))
      have HB : Hid (Below x11.heap.size x11 z6) := hBz
      have HKL : Hid (x0.heap.size < z6.heap.size) := Nat.lt_of_lt_of_le hzr KZ.size
      clear own ownz hne hBz hzr
      go_wp2_with fail
      go_meet
      case rel => exact ⟨x0.heap.size, p, cp, _, rfl, H6, HSL.out, HV.out, HKL.out, HB.out⟩
  case rest =>
  obtain ⟨k12, p3, c3, lo3, hv12, O12, H13, _, _, hB13⟩ := hcut
  subst hv12
  have G13 := G11.keep hB13
  have S013 := S011.keep hB13
  have O613 := O611.below hB13
  have O813 := O811.below hB13
  have B13 := B11.trans (hB13.mono B11.size)
  obtain ⟨g60, g61, g62, g63, g64, g65⟩ := O613.cells
  obtain ⟨g120, g121, g122, g123, g124, g125⟩ := O12.cells
  clear G11 S011 O611 O811 B11 hB13 PDx hrowx
  go_wp2_with fail
  refine (eqOut_same (.slice p3 m.length c3) (.slice p0 m.length c0) _ _ d0 c m _ hml H13 S013).mono ?_
  rintro e x14 ⟨rfl, b14⟩
  have G14 := G13.keep b14
  have O814 := O813.below b14
  have B14 := B13.trans (b14.mono B13.size)
  clear H13 G13 S013 O613 O813 O12 B13 b14 g60 g61 g62 g63 g64 g65 g120 g121 g122 g123 g124 g125
  obtain ⟨g80, g81, g82, g83, g84, g85⟩ := O814.cells
  go_wp2_with fail
  refine (heldOut_i x3b.heap.size (.slice p1 m.length c1) d0 c m.length 1 _ hml G14).mono ?_
  rintro e x15 ⟨rfl, b15⟩
  have B15 := B14.trans (b15.mono B14.size)
  go_wp2
  go_ret
  exact ⟨rfl, b0.trans (B15.mono b0.size)⟩

set_option maxRecDepth 100000 in
theorem FnExactQueuePut_lifted (os : Os) (started : os.Started) (H : Type) (enc : TypeId × Value → H) :
    ReturnsInHanded {} Try.checked os 5 .any (Rows.fnExactQueuePutSpec.pre6 enc Try.prog Try.f5 Rows.fnExactQueuePutRow.domain false) (Rows.fnExactQueuePutSpec.post enc Try.prog Try.f5 false true false false) := by
  refine returnsInHanded_of_change (C := Try.checked) (by kernel_rfl) started (by kernel_rfl) Try.func5
    (ChangeSpec.witness6 (enc := enc) (C := Try.checked) false ⟨#[], #[.slice none 0 0, .agg #[.int .i64 0, .int .i64 0, .int .i64 0, .string ByteArray.empty]], []⟩ 8 (by kernel_rfl) (by kernel_rfl) (by kernel_rfl) (by kernel_rfl)) ?_
  intro W base args ds gs before hval0 hW hcnd _
  have hval : ∀ (j : Nat) t v, Try.f5.params[j]? = some t → args[j]? = some v → Value.okWide Try.prog W .any base t v := hval0
  have hW' := hW
  obtain ⟨p, q, hA0, hV, rfl, hfz, hnd⟩ := hW
  have hA : DataW.TrodAll enc Try.prog W 0 (fun _ => true) true Try.f5.params.toList args.toList ds p := hA0
  rw [Try.params5] at hA hval
  obtain ⟨v0, vs0, d0, ds0, p0, q0, hargs, rfl, rfl, h0, r0⟩ := trodAll_cons hA
  obtain ⟨v1, vs1, d1, ds1, p1, q1, rfl, rfl, rfl, h1, r1⟩ := trodAll_cons r0
  obtain ⟨rfl, rfl, rfl⟩ := trodAll_nil r1
  obtain rfl : args = #[v0, v1] := by cases args; simp_all
  obtain ⟨rfl, rfl⟩ := trodVars_none hV
  obtain ⟨a0, len0, cap0, rfl⟩ := okWide_slice Try.underlying40 (hval 0 40 v0 rfl rfl)
  have k0 := h0
  have lt0 : ∀ x ∈ p0, x.block < W.heap.size := by obtain ⟨m, hm⟩ := k0; exact DataW.trod_lt m _ _ _ hm
  obtain ⟨l0, el0, w0⟩ : ∃ l, len0 = l.length ∧ DueArg W a0 cap0 l := by
    obtain ⟨fuel, hf⟩ := h0
    exact dueArg_open (by simpa [Value.cells] using hf)
  subst el0
  have k1 := h1
  have lt1 : ∀ x ∈ p1, x.block < W.heap.size := by obtain ⟨m, hm⟩ := k1; exact DataW.trod_lt m _ _ _ hm
  obtain ⟨a1, rfl, w1⟩ := dueVal_open (hval 1 44 v1 rfl rfl) h1
  clear hA0 hval0
  refine (FnExactQueuePut_walk a0 cap0 l0 a1 W w0 w1).mono fun e W' ⟨he, bel⟩ => ?_
  subst he
  exact ⟨_, rfl, _, _, _, [], _, [], hW', trodAll_mk1 (shut_bool Try.underlying4 _), (trodAll_cons_mk (Below.trod (show laidOutB Try.prog = true by kernel_rfl) (by kernel_rfl) (of_decide_eq_true (by kernel_rfl)) k0 bel lt0) (trodAll_cons_mk (Below.trod (show laidOutB Try.prog = true by kernel_rfl) (by kernel_rfl) (of_decide_eq_true (by kernel_rfl)) k1 bel lt1) trodAll_mk0)), rfl, bel.frame _, fun h => by cases h⟩
/-- The statement. -/
theorem FnExactQueuePut_holds : Rows.FnExactQueuePutSaid :=
  OpenClaim.holds_of_wide 5 Try.f5 rfl rfl rfl rfl rfl rfl rfl ⟨rfl, rfl, rfl, rfl, rfl⟩ rfl rfl rfl rfl rfl (by kernel_rfl) Try.func5 (by kernel_rfl)
    (of_decide_eq_true (by kernel_rfl)) (by unfold Func.isWrapper; first | (rw [if_pos (by decide +kernel)]; kernel_rfl) | (rw [if_neg (by decide +kernel)]; exact ⟨rfl, rfl⟩))
    (fun os started H enc _ => FnExactQueuePut_lifted os started H enc)
#print axioms FnExactQueuePut_holds

end Go.Proofs.Ytlnkcbojoaoehaa
