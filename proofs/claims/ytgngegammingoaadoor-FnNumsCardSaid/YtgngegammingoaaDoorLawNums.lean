/- Proved: laws.FnNums answers true at every two codes: a drawn number, or text, is got back from its bytes, and of bytes that end too early nothing is got. No condition but the card's own: errors.errorType holds what the program's text lays. -/
import Derived.Test.YtgngegammingoaaDoorRows
import Derived.Test.YtgngegammingoaaDoorCards
import Derived.Test.YtgngegammingoaaDoorTie
import Derived.WalkKit
import Derived.ProofKit
import Derived.OpenShut
import Derived.ShutString
import Derived.ChangeOld
import Derived.Below
import Derived.LaidHandle
import Derived.LaidLaws
import Derived.ChangeVars
import Derived.SevenTiedAt
import Derived.Test.YtgngegammingoaaDoorPlain3
import Derived.Test.YtgngegammingoaaDoorDrawB
namespace Go.Proofs.YtgngegammingoaaDoor
open Go Go.ChangeShapes Go.WideShapes Go.ChangeAt Go.RowKit
open Go.ChangeMaps (open_string shut_string)
set_option linter.unusedVariables false

theorem below_then {w x y : World} (h : Below w.heap.size w x) (k : Below x.heap.size x y) : Below w.heap.size w y := h.trans (k.mono h.size)
theorem nums_get {n : Int} (hn : (Lit.int .i64 n).wf = true) : getN ((⟨#[120, 121]⟩ : ByteArray) ++ ⟨(putN n).toArray⟩ ++ ⟨#[122]⟩) 2 = (n, ((putN n).length : Int) + 2, 0) := by
  have hl := putN_len n
  have hd : ((⟨#[120, 121]⟩ : ByteArray) ++ ⟨(putN n).toArray⟩ ++ ⟨#[122]⟩).data.toList = [120, 121] ++ (putN n ++ [122]) := by simp
  have hs := size_of_list hd
  simp only [List.length_append, List.length_cons, List.length_nil] at hs
  have := getN_put hn ((⟨#[120, 121]⟩ : ByteArray) ++ ⟨(putN n).toArray⟩ ++ ⟨#[122]⟩) 2 [122] (by omega) (by rw [hd]; rfl)
  rw [show ((2 : Nat) : Int) = 2 from rfl] at this
  rw [this]
  simp only [Prod.mk.injEq, true_and, and_true]
  omega
theorem nums_early (n : Int) : getN ((⟨(putN n).toArray⟩ : ByteArray).extract 0 ((putN n).length - 1)) 0 = (0, 0, 4) := by
  have hl := putN_len n
  have hd : ((⟨(putN n).toArray⟩ : ByteArray).extract 0 ((putN n).length - 1)).data.toList = (putN n).dropLast := by
    rw [extract_data']; simp [List.dropLast_eq_take]
  have hs := size_of_list hd
  rw [List.length_dropLast] at hs
  exact getN_early _ (by omega) hd

theorem nums_text {l P : List UInt8} (h : putN l.length ++ l = P) (hl : l.length ≤ 100) : getT ((⟨#[120]⟩ : ByteArray) ++ ⟨P.toArray⟩) 1 = (⟨l.toArray⟩, (P.length : Int) + 1, 0) := by
  subst h
  have := getT_put l (by omega) ((⟨#[120]⟩ : ByteArray) ++ ⟨(putN l.length ++ l).toArray⟩) 1 [120] rfl (by omega) (by simp)
  rw [show ((1 : Nat) : Int) = 1 from rfl] at this
  rw [this]
  simp only [Prod.mk.injEq, true_and, and_true]
  omega
theorem nums_text_early {l P : List UInt8} (h : putN l.length ++ l = P) (hl : l.length ≤ 100) : getT ((⟨P.toArray⟩ : ByteArray).extract 0 (P.length - 1)) 0 = (⟨#[]⟩, 0, 4) := by
  subst h
  exact getT_early l (by omega) _ (by rw [extract_data']; simp [List.dropLast_eq_take])
theorem field_num (x y z : Value) (w : World) : (Instr.field 26 (.agg #[x, y, z]) 2).run Tryd.prog w = .ok z w := by kernel_rfl
theorem field_text (x y z : Value) (w : World) : (Instr.field 31 (.agg #[x, y, z]) 2).run Tryd.prog w = .ok z w := by kernel_rfl
set_option maxHeartbeats 4000000 in
set_option maxRecDepth 100000 in
theorem FnNums_walk (a0 : Option Addr) (len0 cap0 : Nat) (z0 : List Int) (a1 : Option Addr) (len1 cap1 : Nat) (z1 : List Int) (w : World) (w0 : ByteRow w a0 len0 cap0 z0) (w1 : ByteRow w a1 len1 cap1 z1) (hg : errCell w) :
    Calls Tryd.prog 3 #[.slice a0 len0 cap0, .slice a1 len1 cap1] w fun e w' => e = .returned (.bool true) ∧ Below w.heap.size w w' := by
  by_cases hs0 : 1048576 < (len0 : Int)
  · go_enter Tryd.func3, Tryd.ntmps3
    go_wp2
    go_ret
    exact ⟨rfl, Below.refl _ _⟩
  by_cases hs1 : 1048576 < (len1 : Int)
  · go_enter Tryd.func3, Tryd.ntmps3
    go_wp2
    go_ret
    exact ⟨rfl, Below.refl _ _⟩
  have fn := field_num
  have ft := field_text
  go_enter Tryd.func3, Tryd.ntmps3
  go_wp2_with fail
  refine (drawPutNum_any a0 len0 cap0 z0 _ (by omega) w0).mono ?_
  rintro e x1 ⟨n, rfl, hn, b1⟩
  have hl1 := (vb_length 9 (foldN n)).1
  have hl2 := putN_len n
  rw [show vb 9 (foldN n) = putN n from rfl] at hl1
  clear w0
  go_wp2_with fail
  refine (implPut_any n _ hn).mono ?_
  rintro e x2 ⟨rfl, b2⟩
  have b2 := below_then b1 b2
  go_wp2_with fail
  refine (specPut_any n _ hn).mono ?_
  rintro e x3 ⟨rfl, b3⟩
  have b3 := below_then b2 b3
  go_wp2_with fail
  refine (implGetNum_any _ _ _ (hg.keep b3)).mono ?_
  rintro e x4 ⟨rfl, b4⟩
  rw [nums_get hn]
  unfold numOut
  have b4 := below_then b3 b4
  have b4 := b4.alloc b4.size (.cells #[.int .i64 n, .int .i64 (((putN n).length : Int) + 2), .int .i64 0] 26)
  go_wp2_with fail
  refine (implGetNum_any _ _ _ (hg.keep b4)).mono ?_
  rintro e x5 ⟨rfl, b5⟩
  rw [nums_early]
  unfold numOut
  have b5 := below_then b4 b5
  have w1' := w1.below b5
  clear w1
  go_wp2_with fail
  refine (drawPutText_any a1 len1 cap1 z1 _ (by omega) w1').mono ?_
  rintro e x6 ⟨l, rfl, hl, b6⟩
  have b6 := below_then b5 b6
  have hsz : (⟨l.toArray⟩ : ByteArray).size = l.length := by show l.toArray.size = _; simp
  have hmax : (⟨l.toArray⟩ : ByteArray).size ≤ maxLen := by rw [hsz]; unfold maxLen; omega
  rcases hl with hl | hl
  · have hp : putTextB ⟨l.toArray⟩ = putN l.length ++ l := by rw [putTextB_yes (by rw [hsz]; omega), hsz]
    have HP : Hid (putTextB ⟨l.toArray⟩ = putN l.length ++ l) := hp
    have hpl := putN_len l.length
    have hp1 := (vb_length 9 (foldN l.length)).1
    rw [show vb 9 (foldN l.length) = putN l.length from rfl] at hp1
    obtain ⟨P, hP⟩ : ∃ P, putN l.length ++ l = P := ⟨_, rfl⟩
    have hPl : P.length = (putN l.length).length + l.length := by rw [← hP]; simp
    have hP1 : 1 ≤ P.length := by omega
    have hP2 : P.length ≤ 29 := by omega
    have HQ : Hid (putN l.length ++ l = P) := hP
    have hPe : P.isEmpty = false := by cases P with | nil => simp at hP1 | cons c r => rfl
    have hPn : ¬ P = [] := by intro h; rw [h] at hP1; simp at hP1
    clear hp hP hPl hsz hpl hp1
    go_wp2_with fail
    refine (implPutText_any _ _ hmax).mono ?_
    rintro e x7 ⟨rfl, b7⟩
    rw [HP.out, HQ.out]
    have b7 := below_then b6 b7
    go_wp2_with fail
    refine (specPutText_any _ _ hmax).mono ?_
    rintro e x8 ⟨rfl, b8⟩
    rw [HP.out, HQ.out]
    have b8 := below_then b7 b8
    go_wp2_with fail
    refine (implGetText_any _ _ _ (hg.keep b8)).mono ?_
    rintro e x9 ⟨rfl, b9⟩
    rw [nums_text HQ.out (by omega)]
    unfold textOut
    have b9 := below_then b8 b9
    go_wp2_with fail
    refine (implGetText_any _ _ _ (hg.keep b9)).mono ?_
    rintro e x10 ⟨rfl, b10⟩
    rw [nums_text_early HQ.out (by omega)]
    unfold textOut
    have b10 := below_then b9 b10
    go_wp2
    go_ret
    exact ⟨rfl, b10⟩
  · have hp : putTextB ⟨l.toArray⟩ = [] := putTextB_no (by rw [hsz]; omega)
    have HP : Hid (putTextB ⟨l.toArray⟩ = []) := hp
    clear hp hsz
    go_wp2_with fail
    refine (implPutText_any _ _ hmax).mono ?_
    rintro e x7 ⟨rfl, b7⟩
    rw [HP.out]
    have b7 := below_then b6 b7
    go_wp2_with fail
    refine (specPutText_any _ _ hmax).mono ?_
    rintro e x8 ⟨rfl, b8⟩
    rw [HP.out]
    have b8 := below_then b7 b8
    go_wp2_with fail
    refine (specPutText_any _ _ hmax).mono ?_
    rintro e x9 ⟨rfl, b9⟩
    rw [HP.out]
    have b9 := below_then b8 b9
    go_wp2
    go_ret
    exact ⟨rfl, b9⟩

theorem FnNums_et : Tryd.prog.globalNamed "errors.errorType" = some 0 := by kernel_rfl
theorem FnNums_rt : (Tryd.prog.cutTypes.find? (·.1 == "internal/reflectlite.rtype")).map (·.2) = some 91 := by kernel_rfl
theorem FnNums_oneRow : ((List.range 133).filter fun t => Tryd.prog.rowNamed t [101, 114, 114, 111, 114]) = [51] := by kernel_rfl
theorem FnNums_size : Tryd.prog.types.size = 133 := by kernel_rfl
theorem FnNums_cell {W : World} (h : laidMetH Tryd.prog Rows.fnNumsRow.laid W) : errCell W := by
  have h' : laidMet Tryd.prog [] W ∧ handlesMet Tryd.prog Rows.fnNumsRow.laid W := h
  obtain ⟨name, u, ty, e1, e2, e3, e4, e5⟩ := h'.2 _ (List.mem_singleton.2 rfl)
  have en : name = [101, 114, 114, 111, 114] := (Option.some.inj e1).symm
  subst en
  obtain rfl := Option.some.inj (FnNums_rt.symm.trans e2)
  have hm : ty ∈ (List.range 133).filter fun t => Tryd.prog.rowNamed t [101, 114, 114, 111, 114] := List.mem_filter.2 ⟨List.mem_range.2 (by rw [← FnNums_size]; exact e3), e4⟩
  rw [FnNums_oneRow] at hm
  obtain rfl := List.mem_singleton.1 hm
  have hh : typeHandle Tryd.prog 51 = .pointer (some ⟨1, 51, none⟩) := by kernel_rfl
  rw [hh] at e5
  unfold errCell
  simpa using World.var?_cell FnNums_et e5 0
set_option maxRecDepth 100000 in
theorem FnNums_lifted (os : Os) (started : os.Started) (H : Type) (enc : TypeId × Value → H) :
    ReturnsInHanded {} Tryd.checked os 3 .any (fun w args => (Rows.fnNumsSpec.pre enc Tryd.prog Tryd.f3 [] false w args ∧ laidMetH Tryd.prog Rows.fnNumsRow.laid w) ∧ sizedMet enc Tryd.prog Tryd.f3 (OpenSpec.ofChange Rows.fnNumsSpec) false w args)
      (Rows.fnNumsSpec.post enc Tryd.prog Tryd.f3 false true false false) := by
  refine returnsInHanded_of_change_and (C := Tryd.checked) (X := fun w _ => laidMetH Tryd.prog Rows.fnNumsRow.laid w) (fun _ _ _ hh h => h.of_heap hh) (by kernel_rfl) started (by kernel_rfl) Tryd.func3
    (ChangeSpec.witness_at (enc := enc) (C := Tryd.checked) (os := os) (X := fun w _ => laidMetH Tryd.prog Rows.fnNumsRow.laid w) false (let w0 := World.holding Tryd.prog os ⟨#[], #[], []⟩; { w0 with heap := w0.heap.modify 0 fun | .cells _ t frozen => .cells #[.iface 91 (.agg #[.pointer (some ⟨1, 51, none⟩)])] t frozen | o => o }) #[.slice none 0 0, .slice none 0 0] 8 rfl (by kernel_rfl) (by kernel_rfl) (by kernel_rfl) (by kernel_rfl) (by kernel_rfl) (laidMetH_of_parts (laidMet_nil _ _) (by kernel_rfl))) ?_
  intro W base args ds gs before hval0 hW _ _ hL _
  have hval : ∀ (j : Nat) t v, Tryd.f3.params[j]? = some t → args[j]? = some v → Value.okWide Tryd.prog W .any base t v := hval0
  have hW' := hW
  obtain ⟨p, q, hA0, hV0, rfl, hfz, hnd⟩ := hW
  have hA : DataW.TrodAll enc Tryd.prog W 0 (fun _ => true) true Tryd.f3.params.toList args.toList ds p := hA0
  have hV : DataW.TrodVars enc Tryd.prog W (fun _ => true) [] gs q := hV0
  rw [Tryd.params3] at hA hval
  obtain ⟨v0, vs0, d0, ds0, p0, q0, hargs, rfl, rfl, h0, r0⟩ := trodAll_cons hA
  obtain ⟨v1, vs1, d1, ds1, p1, q1, rfl, rfl, rfl, h1, r1⟩ := trodAll_cons r0
  obtain ⟨rfl, rfl, rfl⟩ := trodAll_nil r1
  obtain rfl : args = #[v0, v1] := by cases args; simp_all
  obtain ⟨rfl, rfl⟩ : gs = [] ∧ q = [] := by
    cases gs with
    | nil => exact ⟨rfl, hV⟩
    | cons g r => exact absurd hV (by intro h; cases h)
  obtain ⟨a0, len0, cap0, rfl⟩ := okWide_slice Tryd.underlying22 (hval 0 22 v0 rfl rfl)
  have k0 := h0
  have lt0 : ∀ x ∈ p0, x.block < W.heap.size := by obtain ⟨m, hm⟩ := k0; exact DataW.trod_lt m _ _ _ hm
  obtain ⟨z0, w0⟩ : ∃ zs, ByteRow W a0 len0 cap0 zs := by
    obtain ⟨fuel, hf⟩ := h0
    rcases open_ints Tryd.underlying22 Tryd.underlying5 (by kernel_rfl) hf with ⟨hcs, _⟩ | ⟨x, l, c, zs, hcs, _, hl, hm, hz, _, hcell, hwz⟩
    · simp [Value.cells] at hcs
      obtain ⟨rfl, rfl, rfl⟩ := hcs
      exact ⟨[], .inl rfl⟩
    · simp [Value.cells] at hcs
      obtain ⟨rfl, rfl, rfl⟩ := hcs
      exact ⟨zs, byteRow_of hl (by simpa using hz) hcell hwz⟩
  obtain ⟨a1, len1, cap1, rfl⟩ := okWide_slice Tryd.underlying22 (hval 1 22 v1 rfl rfl)
  have k1 := h1
  have lt1 : ∀ x ∈ p1, x.block < W.heap.size := by obtain ⟨m, hm⟩ := k1; exact DataW.trod_lt m _ _ _ hm
  obtain ⟨z1, w1⟩ : ∃ zs, ByteRow W a1 len1 cap1 zs := by
    obtain ⟨fuel, hf⟩ := h1
    rcases open_ints Tryd.underlying22 Tryd.underlying5 (by kernel_rfl) hf with ⟨hcs, _⟩ | ⟨x, l, c, zs, hcs, _, hl, hm, hz, _, hcell, hwz⟩
    · simp [Value.cells] at hcs
      obtain ⟨rfl, rfl, rfl⟩ := hcs
      exact ⟨[], .inl rfl⟩
    · simp [Value.cells] at hcs
      obtain ⟨rfl, rfl, rfl⟩ := hcs
      exact ⟨zs, byteRow_of hl (by simpa using hz) hcell hwz⟩
  clear hA0 hval0
  refine (FnNums_walk a0 len0 cap0 z0 a1 len1 cap1 z1 W w0 w1 (FnNums_cell hL)).mono fun e W' ⟨he, bel⟩ => ?_
  subst he
  exact ⟨_, rfl, _, _, _, [], _, [], hW', trodAll_mk1 (shut_bool Tryd.underlying4 _), (trodAll_cons_mk (Below.trod (show laidOutB Tryd.prog = true by kernel_rfl) (by kernel_rfl) (of_decide_eq_true (by kernel_rfl)) k0 bel lt0) (trodAll_cons_mk (Below.trod (show laidOutB Tryd.prog = true by kernel_rfl) (by kernel_rfl) (of_decide_eq_true (by kernel_rfl)) k1 bel lt1) trodAll_mk0)), rfl, bel.frame _, fun h => by cases h⟩
theorem FnNums_row : Rows.FnNumsSaid :=
  OpenClaim.holds_of_wide 3 Tryd.f3 rfl rfl rfl rfl rfl rfl rfl ⟨rfl, rfl, rfl, rfl, rfl⟩ rfl rfl rfl rfl rfl (by kernel_rfl) Tryd.func3 (by kernel_rfl)
    (of_decide_eq_true (by kernel_rfl)) (by unfold Func.isWrapper; rw [if_neg (of_decide_eq_false (by kernel_rfl))]; exact ⟨rfl, rfl⟩)
    (fun os started H enc _ => FnNums_lifted os started H enc)
/-- The statement. -/
theorem FnNums_holds : Rows.FnNumsCardSaid :=
  Claim7.holds_tied_plain_at .later [] [.handle] true _ true
    FnNums_row (fun _ h => by cases h) (by kernel_rfl) (fun _ h => by cases h) fnNums_row_tie rfl ⟨rfl, rfl⟩ (by kernel_rfl) rfl
    (fun f fn hf hfn => by
      obtain rfl : f = 3 := Option.some.inj ((show Tryd.prog.funcNamed Rows.fnNumsRow.func = some 3 by kernel_rfl).symm.trans hf) |>.symm
      obtain rfl : fn = Tryd.f3 := (Option.some.inj (Tryd.func3.symm.trans hfn)).symm
      exact ⟨by kernel_rfl, fun j t ht => by
        rw [Tryd.params3] at ht
        rcases j with _ | j
        · obtain rfl : t = 22 := by simpa using ht.symm
          exact (show Tryd.prog.wantsStandIn 22 = false by kernel_rfl)
        rcases j with _ | j
        · obtain rfl : t = 22 := by simpa using ht.symm
          exact (show Tryd.prog.wantsStandIn 22 = false by kernel_rfl)
        simp at ht⟩)
    (by kernel_rfl)
#print axioms FnNums_holds
end Go.Proofs.YtgngegammingoaaDoor
