/- The walk of promise 3's law. -/
import Derived.Test.YtndflppphhofkaaRows
import Derived.WalkKit
import Derived.ProofKit
import Derived.OpenShut
import Derived.ShutString
import Derived.ChangeOld
import Derived.Below
import Derived.Test.YtndflppphhofkaaDrawC
import Derived.Test.YtndflppphhofkaaChanceB
import Derived.Test.YtndflppphhofkaaChanceImpl
import Derived.Test.YtndflppphhofkaaSetImplC
import Derived.Test.YtndflppphhofkaaBeside
import Derived.Test.YtndflppphhofkaaTakeH
import Derived.Deep.Light
namespace Go.Proofs.Ytndflppphhofkaa
open Go Go.ChangeShapes Go.WideShapes Go.ChangeAt Go.RowKit
open Go.ChangeMaps (open_string shut_string)
set_option linter.unusedVariables false

theorem shufL_le (l : List Int) (s : Int) : (shufL l s).1.length ≤ 400 := by
  unfold shufL
  split
  · simp
  · rename_i h
    rw [mixL_length]
    omega
/-- A number that is put into a set is in it, and is dropped again; dropped it is not, and put again the set has it. -/
theorem set_laws {l : List Int} {n : Int} (hr : rightL l) (hl : (l.length : Int) < 400) : (rightL (setPutL l n) ∧ n ∈ setPutL l n) ∧ ¬ n ∈ setDropL l n ∧ setDropL (setPutL l n) n = setDropL l n ∧ setPutL (setDropL l n) n = setPutL l n := by
  have e1 : setPutL l n = insL l n := by unfold setPutL; rw [if_neg (by omega), if_pos ⟨hr, hl⟩]
  have e2 : setDropL l n = dropL l n := by unfold setDropL; rw [if_neg (by omega), if_pos hr]
  have l1 := insL_length l n
  have l2 := dropL_length l n
  have r1 : rightL (insL l n) := ⟨by omega, insL_rises n hr.2⟩
  have r2 : rightL (dropL l n) := ⟨by omega, dropL_rises n hr.2⟩
  rw [e1, e2]
  refine ⟨⟨r1, insL_mem l n⟩, dropL_not l n, ?_, ?_⟩
  · unfold setDropL; rw [if_neg (by omega), if_pos r1, drop_ins]
  · unfold setPutL; rw [if_neg (by omega), if_pos ⟨r2, by omega⟩, ins_drop n hr.2]
theorem PairIs.of_alloc {w : World} {s : Int} {v : Value} {t : Nat} {y : World} (h : w.alloc (.cells #[.int .i64 s, v] t) = y) : PairIs y w.heap.size s v := by rw [← h]; exact pair_new w s v t
theorem below_of_alloc {w y : World} {o : Obj} (h : w.alloc o = y) : Below w.heap.size w y := by rw [← h]; exact (Below.refl _ _).alloc (Nat.le_refl _) o
/-- What is said of each slot of a great test: a known value, or a new row. -/
def rowPhi (C : List Value) (E : Nat → Option (List Int)) (i : Nat) (v : Value) (w : World) : Prop :=
  match E i with
  | none => v = C.getD i undef
  | some L => ∃ a cap, v = .slice a L.length cap ∧ NumRow w a L
theorem rowPhi_keep {C : List Value} {E : Nat → Option (List Int)} {i : Nat} {v : Value} {w w' : World} (hb : Below w.heap.size w w') (h : rowPhi C E i v w) : rowPhi C E i v w' := by
  unfold rowPhi at h ⊢
  cases hE : E i with
  | none => rw [hE] at h; exact h
  | some L =>
    rw [hE] at h
    obtain ⟨a, cap, e, hr⟩ := h
    exact ⟨a, cap, e, hr.keep hb⟩
theorem lwNums_same (a b : Option Addr) (ca cb : Nat) (l : List Int) (w : World) (hl : l.length ≤ 1048576) (ha : NumRow w a l) (hb : NumRow w b l) :
    Calls Try.prog 19 #[.slice a l.length ca, .slice b l.length cb] w fun e w' => e = .returned (.bool true) ∧ Below w.heap.size w w' := by
  refine (lwNums_any a b ca cb l l w hl ha hb).mono ?_
  rintro e w' ⟨rfl, h⟩
  exact ⟨ret_boolE (decide_eq_true rfl), h⟩
set_option maxHeartbeats 8000000 in
set_option maxRecDepth 100000 in
theorem FnChance_walk (a0 : Option Addr) (len0 cap0 : Nat) (z0 : List Int) (a1 : Option Addr) (len1 cap1 : Nat) (z1 : List Int) (w : World) (w0 : ByteRow w a0 len0 cap0 z0) (w1 : ByteRow w a1 len1 cap1 z1) :
    Calls Try.prog 3 #[.slice a0 len0 cap0, .slice a1 len1 cap1] w fun e w' => e = .returned (.bool true) ∧ Below w.heap.size w w' := by
  by_cases h0 : 1048576 < (len0 : Int)
  · go_enter Try.func3, Try.ntmps3
    go_wp2
    go_ret
    exact ⟨rfl, Below.refl _ _⟩
  by_cases h1 : 1048576 < (len1 : Int)
  · go_enter Try.func3, Try.ntmps3
    go_wp2
    go_ret
    exact ⟨rfl, Below.refl _ _⟩
  have d0 : decide (1048576 < (len0 : Int)) = false := decide_eq_false h0
  have d1 : decide (1048576 < (len1 : Int)) = false := decide_eq_false h1
  go_enter Try.func3, Try.ntmps3
  go_wp2_with fail
  refine (drawChance_any a0 len0 cap0 z0 _ (by omega) w0).mono ?_
  rintro e x1 ⟨seed, most, rfl, B1⟩
  obtain ⟨c1, c2, hcv⟩ : ∃ c1 c2, chanceV seed most = (c1, c2) := ⟨_, _, rfl⟩
  have HC : Hid (chanceV seed most = (c1, c2)) := hcv
  clear hcv
  go_wp2_with fail
  refine (implChance_any seed most _).mono ?_
  rintro e x2 ⟨rfl, b2⟩
  rw [HC.out]
  unfold chanceOut
  obtain ⟨y2, hy2⟩ : ∃ y, x2.alloc (.cells #[.int .i64 c1, .int .i64 c2] 26) = y := ⟨_, rfl⟩
  have HY2 : Hid (x2.alloc (.cells #[.int .i64 c1, .int .i64 c2] 26) = y2) := hy2
  have C7 := PairIs.of_alloc hy2
  have a2 := below_of_alloc hy2
  have B2 := (B1.trans (b2.mono B1.size)).trans (a2.mono (B1.trans (b2.mono B1.size)).size)
  obtain ⟨k7, hk7⟩ : ∃ k, x2.heap.size = k := ⟨_, rfl⟩
  have w1y := w1.below B2
  clear B1 b2 a2 hy2
  go_wp2_with fail
  rw [HY2.out]
  rw [hk7] at C7
  clear HY2 hk7
  refine (drawShuffle_any a1 len1 cap1 z1 _ (by omega) w1y).mono ?_
  rintro e x3 ⟨vl, l, sd, rfl, hll, ⟨ownl, gl, cl, rfl⟩, b3⟩
  obtain ⟨pl0, cl0, hvl, onl⟩ := own_nums ownl
  simp only [Value.slice.injEq] at hvl
  obtain ⟨rfl, _, rfl⟩ := hvl
  have nL := onl.row
  have C73 := C7.keep b3
  have B3 := B2.trans (b3.mono B2.size)
  clear ownl onl C7 B2 b3 w1y
  obtain ⟨m, hm⟩ : ∃ m, (shufL l sd).1 = m := ⟨_, rfl⟩
  obtain ⟨q, hq⟩ : ∃ q, (shufL l sd).2 = q := ⟨_, rfl⟩
  have hml : m.length ≤ 400 := by rw [← hm]; exact shufL_le l sd
  have HM : Hid ((shufL l sd).1 = m) := hm
  have HQ : Hid ((shufL l sd).2 = q) := hq
  clear hm hq
  go_wp2_with fail
  refine (implShuffle_any _ _ l sd _ (by omega) nL).mono ?_
  rintro e x4 ⟨v1, rfl, own4, b4⟩
  rw [HM.out] at own4
  rw [HQ.out]
  obtain ⟨p1, k1, rfl, og4⟩ := own_nums own4
  unfold shufOut
  obtain ⟨y4, hy4⟩ : ∃ y, x4.alloc (.cells #[.int .i64 q, .slice p1 m.length k1] 32) = y := ⟨_, rfl⟩
  have HY4 : Hid (x4.alloc (.cells #[.int .i64 q, .slice p1 m.length k1] 32) = y4) := hy4
  have P10 := PairIs.of_alloc hy4
  have a4 := below_of_alloc hy4
  have nX4 := og4.row.keep a4
  have C74 := (C73.keep b4).keep a4
  have nL4 := (nL.keep b4).keep a4
  have B4 := (B3.trans (b4.mono B3.size)).trans (a4.mono (B3.trans (b4.mono B3.size)).size)
  obtain ⟨k10, hk10⟩ : ∃ k, x4.heap.size = k := ⟨_, rfl⟩
  clear own4 og4 C73 nL B3 b4 a4 hy4
  go_wp2_with fail
  rw [HY4.out]
  rw [hk10] at P10
  clear HY4 hk10
  refine (specShuffle_any _ _ l sd _ (by omega) (fun e => by cases e) nL4).mono ?_
  rintro e x5 ⟨v2, rfl, own5, b5⟩
  rw [HM.out] at own5
  rw [HQ.out]
  obtain ⟨p2, k2, rfl, ow5⟩ := own_nums own5
  unfold shufOut
  obtain ⟨y5, hy5⟩ : ∃ y, x5.alloc (.cells #[.int .i64 q, .slice p2 m.length k2] 32) = y := ⟨_, rfl⟩
  have HY5 : Hid (x5.alloc (.cells #[.int .i64 q, .slice p2 m.length k2] 32) = y5) := hy5
  have P11 := PairIs.of_alloc hy5
  have a5 := below_of_alloc hy5
  have nW5 := ow5.row.keep a5
  have nX5 := (nX4.keep b5).keep a5
  have P105 := (P10.keep b5).keep a5
  have C75 := (C74.keep b5).keep a5
  have nL5 := (nL4.keep b5).keep a5
  have B5 := (B4.trans (b5.mono B4.size)).trans (a5.mono (B4.trans (b5.mono B4.size)).size)
  have w05 := w0.below B5
  obtain ⟨k11, hk11⟩ : ∃ k, x5.heap.size = k := ⟨_, rfl⟩
  clear own5 ow5 C74 nL4 B4 b5 a5 hy5 P10 nX4
  go_wp2_with fail
  rw [HY5.out]
  rw [hk11] at P11
  clear HY5 hk11
  refine (drawSetPut_any a0 len0 cap0 z0 _ (by omega) w05).mono ?_
  rintro e x6 ⟨vs, sl, n, rfl, hsl, ⟨owns, gs, cs, rfl⟩, b6⟩
  obtain ⟨ps0, cs0, hvs, ons⟩ := own_nums owns
  have hcs : sl.length ≤ cs := by
    rcases owns.2 with ⟨hv, hn⟩ | ⟨g, c, cur, hv, _, _, hle, _⟩
    · cases hv
    · simp only [Value.slice.injEq] at hv
      obtain ⟨_, _, rfl⟩ := hv
      exact hle
  simp only [Value.slice.injEq] at hvs
  obtain ⟨rfl, _, rfl⟩ := hvs
  have nS6 := ons.row
  have nW6 := nW5.keep b6
  have nX6 := nX5.keep b6
  have P106 := P105.keep b6
  have P116 := P11.keep b6
  have C76 := C75.keep b6
  have nL6 := nL5.keep b6
  have B6 := B5.trans (b6.mono B5.size)
  clear owns ons nW5 nX5 P105 P11 C75 nL5 B5 b6 w05
  obtain ⟨pl, hpl⟩ : ∃ pl, setPutL sl n = pl := ⟨_, rfl⟩
  obtain ⟨dl, hdl⟩ : ∃ dl, setDropL sl n = dl := ⟨_, rfl⟩
  have hpll : pl.length ≤ 401 := by rw [← hpl]; exact setPutL_length sl n
  have hdll : dl.length ≤ 401 := by rw [← hdl]; exact Nat.le_trans (setDropL_length sl n) hsl
  have HP : Hid (setPutL sl n = pl) := hpl
  have HD : Hid (setDropL sl n = dl) := hdl
  clear hpl hdl
  go_wp2_with fail
  refine (implPut_any _ _ sl n _ (by omega) nS6).mono ?_
  rintro e x7 ⟨v7, rfl, own7, b7⟩
  rw [HP.out] at own7
  obtain ⟨ap, kp, rfl, op7⟩ := own_nums own7
  have nP7 := op7.row
  have nS7 := nS6.keep b7
  have nW7 := nW6.keep b7
  have nX7 := nX6.keep b7
  have P107 := P106.keep b7
  have P117 := P116.keep b7
  have C77 := C76.keep b7
  have nL7 := nL6.keep b7
  have B7 := B6.trans (b7.mono B6.size)
  clear own7 op7 nS6 nW6 nX6 P106 P116 C76 nL6 B6 b7
  go_wp2_with fail
  refine (implDrop_any _ _ sl n _ (by omega) nS7).mono ?_
  rintro e x8 ⟨v8, rfl, own8, b8⟩
  rw [HD.out] at own8
  obtain ⟨ad, kd, rfl, od8⟩ := own_nums own8
  have nD := od8.row
  have nP := nP7.keep b8
  have nS := nS7.keep b8
  have nW := nW7.keep b8
  have nX := nX7.keep b8
  have P10 := P107.keep b8
  have P11 := P117.keep b8
  have C7 := C77.keep b8
  have nL := nL7.keep b8
  have B8 := B7.trans (b8.mono B7.size)
  clear own8 od8 nP7 nS7 nW7 nX7 P107 P117 C77 nL7 B7 b8
  go_upto_region 10 with fail
  obtain ⟨hb, hhb⟩ : ∃ hb, decide (rightL sl ∧ n ∈ sl) = hb := ⟨_, rfl⟩
  obtain ⟨rb, hrb⟩ : ∃ rb, decide (rightL sl) = rb := ⟨_, rfl⟩
  have HH : Hid (decide (rightL sl ∧ n ∈ sl) = hb) := hhb
  have HR : Hid (decide (rightL sl) = rb) := hrb
  clear hhb hrb
  go_cut [106] (fun v wc => v = .bool false ∧ Below x8.heap.size x8 wc)
  case first =>
      refine wp_region_any (by kernel_rfl) ?_
      refine wpAny_relG (fun i => 55 + i) (rowPhi [.agg #[.int .i64 c1, .int .i64 c2], .int .i64 seed, .int .i64 most, .agg #[.int .i64 c1, .int .i64 c2], .bool false, .bool false, .pointer (some ⟨k10, 0, none⟩), .int .i64 q, .pointer (some ⟨k11, 0, none⟩), .int .i64 q, .bool false, .bool false, .bool false, .pointer (some ⟨k10, 1, none⟩), .slice p1 m.length k1, .pointer (some ⟨k11, 1, none⟩), .slice p2 m.length k2, .bool true, .bool false, .bool false, .bool false, .slice ap pl.length kp, .slice (some ⟨gs, 0, none⟩) sl.length cs, .int .i64 n, undef, .bool true, .bool false, .bool false, .bool false, .slice ad dl.length kd, .slice (some ⟨gs, 0, none⟩) sl.length cs, .int .i64 n, undef, .bool true, .bool false, .bool false, .bool false, .slice (some ⟨gs, 0, none⟩) sl.length cs, .int .i64 n, .bool hb, .slice (some ⟨gs, 0, none⟩) sl.length cs, .int .i64 n, .bool hb, .bool false, .bool false, .bool false, .slice (some ⟨gs, 0, none⟩) sl.length cs, .bool rb, .slice (some ⟨gs, 0, none⟩) sl.length cs, .bool rb, .bool false, .bool false] (fun i => if i = 24 then some pl else if i = 32 then some dl else none)) (fun w' => Below x8.heap.size x8 w') _ (by kernel_rfl) ?inj ?step ?fin _ _ _ _ (List.range 52) (by kernel_rfl) (Nat.le_refl 52) ?un ⟨rfl, rfl, fun _ _ => rfl⟩ (Below.refl _ _).drew ?none
      case inj => exact fun i _ j _ e => by have : 55 + i = 55 + j := e; omega
      case un => exact fun i hi _ => List.mem_range.2 hi
      case none =>
        intro i h
        exfalso
        by_cases hi : i < 52
        · simp [hi] at h
        · simp [hi] at h
      case fin =>
        intro fa fw hF hJ hφ
        obtain ⟨ft, fd⟩ := fa
        have e : ft.toList = List.take 55 _ ++ ((List.range 52).map (fun i => ft.getD (55 + i) undef) ++ List.drop 107 _) := frame_seg hF (show 55 + 52 ≤ 199 by decide)
        have h51 : ft.getD (55 + 51) undef = .bool false := hφ 51 (show 51 < 52 by decide)
        obtain rfl : fd = [] := hF.1
        clear hF hφ
        simp only [List.take_succ_cons, List.take_zero, List.drop_succ_cons, List.drop_zero, List.range, List.range.loop, List.map, List.cons_append, List.nil_append] at e
        obtain ⟨z55, g55⟩ : ∃ z, ft.getD (55 + 0) undef = z := ⟨_, rfl⟩
        obtain ⟨z56, g56⟩ : ∃ z, ft.getD (55 + 1) undef = z := ⟨_, rfl⟩
        obtain ⟨z57, g57⟩ : ∃ z, ft.getD (55 + 2) undef = z := ⟨_, rfl⟩
        obtain ⟨z58, g58⟩ : ∃ z, ft.getD (55 + 3) undef = z := ⟨_, rfl⟩
        obtain ⟨z59, g59⟩ : ∃ z, ft.getD (55 + 4) undef = z := ⟨_, rfl⟩
        obtain ⟨z60, g60⟩ : ∃ z, ft.getD (55 + 5) undef = z := ⟨_, rfl⟩
        obtain ⟨z61, g61⟩ : ∃ z, ft.getD (55 + 6) undef = z := ⟨_, rfl⟩
        obtain ⟨z62, g62⟩ : ∃ z, ft.getD (55 + 7) undef = z := ⟨_, rfl⟩
        obtain ⟨z63, g63⟩ : ∃ z, ft.getD (55 + 8) undef = z := ⟨_, rfl⟩
        obtain ⟨z64, g64⟩ : ∃ z, ft.getD (55 + 9) undef = z := ⟨_, rfl⟩
        obtain ⟨z65, g65⟩ : ∃ z, ft.getD (55 + 10) undef = z := ⟨_, rfl⟩
        obtain ⟨z66, g66⟩ : ∃ z, ft.getD (55 + 11) undef = z := ⟨_, rfl⟩
        obtain ⟨z67, g67⟩ : ∃ z, ft.getD (55 + 12) undef = z := ⟨_, rfl⟩
        obtain ⟨z68, g68⟩ : ∃ z, ft.getD (55 + 13) undef = z := ⟨_, rfl⟩
        obtain ⟨z69, g69⟩ : ∃ z, ft.getD (55 + 14) undef = z := ⟨_, rfl⟩
        obtain ⟨z70, g70⟩ : ∃ z, ft.getD (55 + 15) undef = z := ⟨_, rfl⟩
        obtain ⟨z71, g71⟩ : ∃ z, ft.getD (55 + 16) undef = z := ⟨_, rfl⟩
        obtain ⟨z72, g72⟩ : ∃ z, ft.getD (55 + 17) undef = z := ⟨_, rfl⟩
        obtain ⟨z73, g73⟩ : ∃ z, ft.getD (55 + 18) undef = z := ⟨_, rfl⟩
        obtain ⟨z74, g74⟩ : ∃ z, ft.getD (55 + 19) undef = z := ⟨_, rfl⟩
        obtain ⟨z75, g75⟩ : ∃ z, ft.getD (55 + 20) undef = z := ⟨_, rfl⟩
        obtain ⟨z76, g76⟩ : ∃ z, ft.getD (55 + 21) undef = z := ⟨_, rfl⟩
        obtain ⟨z77, g77⟩ : ∃ z, ft.getD (55 + 22) undef = z := ⟨_, rfl⟩
        obtain ⟨z78, g78⟩ : ∃ z, ft.getD (55 + 23) undef = z := ⟨_, rfl⟩
        obtain ⟨z79, g79⟩ : ∃ z, ft.getD (55 + 24) undef = z := ⟨_, rfl⟩
        obtain ⟨z80, g80⟩ : ∃ z, ft.getD (55 + 25) undef = z := ⟨_, rfl⟩
        obtain ⟨z81, g81⟩ : ∃ z, ft.getD (55 + 26) undef = z := ⟨_, rfl⟩
        obtain ⟨z82, g82⟩ : ∃ z, ft.getD (55 + 27) undef = z := ⟨_, rfl⟩
        obtain ⟨z83, g83⟩ : ∃ z, ft.getD (55 + 28) undef = z := ⟨_, rfl⟩
        obtain ⟨z84, g84⟩ : ∃ z, ft.getD (55 + 29) undef = z := ⟨_, rfl⟩
        obtain ⟨z85, g85⟩ : ∃ z, ft.getD (55 + 30) undef = z := ⟨_, rfl⟩
        obtain ⟨z86, g86⟩ : ∃ z, ft.getD (55 + 31) undef = z := ⟨_, rfl⟩
        obtain ⟨z87, g87⟩ : ∃ z, ft.getD (55 + 32) undef = z := ⟨_, rfl⟩
        obtain ⟨z88, g88⟩ : ∃ z, ft.getD (55 + 33) undef = z := ⟨_, rfl⟩
        obtain ⟨z89, g89⟩ : ∃ z, ft.getD (55 + 34) undef = z := ⟨_, rfl⟩
        obtain ⟨z90, g90⟩ : ∃ z, ft.getD (55 + 35) undef = z := ⟨_, rfl⟩
        obtain ⟨z91, g91⟩ : ∃ z, ft.getD (55 + 36) undef = z := ⟨_, rfl⟩
        obtain ⟨z92, g92⟩ : ∃ z, ft.getD (55 + 37) undef = z := ⟨_, rfl⟩
        obtain ⟨z93, g93⟩ : ∃ z, ft.getD (55 + 38) undef = z := ⟨_, rfl⟩
        obtain ⟨z94, g94⟩ : ∃ z, ft.getD (55 + 39) undef = z := ⟨_, rfl⟩
        obtain ⟨z95, g95⟩ : ∃ z, ft.getD (55 + 40) undef = z := ⟨_, rfl⟩
        obtain ⟨z96, g96⟩ : ∃ z, ft.getD (55 + 41) undef = z := ⟨_, rfl⟩
        obtain ⟨z97, g97⟩ : ∃ z, ft.getD (55 + 42) undef = z := ⟨_, rfl⟩
        obtain ⟨z98, g98⟩ : ∃ z, ft.getD (55 + 43) undef = z := ⟨_, rfl⟩
        obtain ⟨z99, g99⟩ : ∃ z, ft.getD (55 + 44) undef = z := ⟨_, rfl⟩
        obtain ⟨z100, g100⟩ : ∃ z, ft.getD (55 + 45) undef = z := ⟨_, rfl⟩
        obtain ⟨z101, g101⟩ : ∃ z, ft.getD (55 + 46) undef = z := ⟨_, rfl⟩
        obtain ⟨z102, g102⟩ : ∃ z, ft.getD (55 + 47) undef = z := ⟨_, rfl⟩
        obtain ⟨z103, g103⟩ : ∃ z, ft.getD (55 + 48) undef = z := ⟨_, rfl⟩
        obtain ⟨z104, g104⟩ : ∃ z, ft.getD (55 + 49) undef = z := ⟨_, rfl⟩
        obtain ⟨z105, g105⟩ : ∃ z, ft.getD (55 + 50) undef = z := ⟨_, rfl⟩
        rw [h51, g55, g56, g57, g58, g59, g60, g61, g62, g63, g64, g65, g66, g67, g68, g69, g70, g71, g72, g73, g74, g75, g76, g77, g78, g79, g80, g81, g82, g83, g84, g85, g86, g87, g88, g89, g90, g91, g92, g93, g94, g95, g96, g97, g98, g99, g100, g101, g102, g103, g104, g105] at e
        clear h51 g55 g56 g57 g58 g59 g60 g61 g62 g63 g64 g65 g66 g67 g68 g69 g70 g71 g72 g73 g74 g75 g76 g77 g78 g79 g80 g81 g82 g83 g84 g85 g86 g87 g88 g89 g90 g91 g92 g93 g94 g95 g96 g97 g98 g99 g100 g101 g102 g103 g104 g105
        obtain ⟨L⟩ := ft
        obtain rfl : L = _ := e
        go_wp2
        go_meet
        case rel => exact ⟨rfl, hJ⟩
      case step =>
        go_light
        intro i o ho fa fw hF hJ hpre
        clear w0 w1 d0 d1 h0 h1 B8 nL HM HQ
        have hi : i < 52 := (Array.getElem?_eq_some_iff.1 ho).1
        have hz : fa.tmps.size = 199 := hF.2.1
        have f5 : fa.tmps[5]?.getD undef = .int .i64 seed := getD_q (hF.2.2 5 (fun i hi => by show 55 + i ≠ 5; omega))
        have f6 : fa.tmps[6]?.getD undef = .int .i64 most := getD_q (hF.2.2 6 (fun i hi => by show 55 + i ≠ 6; omega))
        have f7 : fa.tmps[7]?.getD undef = .pointer (some ⟨k7, 0, none⟩) := getD_q (hF.2.2 7 (fun i hi => by show 55 + i ≠ 7; omega))
        have f10 : fa.tmps[10]?.getD undef = .pointer (some ⟨k10, 0, none⟩) := getD_q (hF.2.2 10 (fun i hi => by show 55 + i ≠ 10; omega))
        have f11 : fa.tmps[11]?.getD undef = .pointer (some ⟨k11, 0, none⟩) := getD_q (hF.2.2 11 (fun i hi => by show 55 + i ≠ 11; omega))
        have f12 : fa.tmps[12]?.getD undef = .slice (some ⟨gs, 0, none⟩) sl.length cs := getD_q (hF.2.2 12 (fun i hi => by show 55 + i ≠ 12; omega))
        have f13 : fa.tmps[13]?.getD undef = .int .i64 n := getD_q (hF.2.2 13 (fun i hi => by show 55 + i ≠ 13; omega))
        have f14 : fa.tmps[14]?.getD undef = .slice ap pl.length kp := getD_q (hF.2.2 14 (fun i hi => by show 55 + i ≠ 14; omega))
        have f15 : fa.tmps[15]?.getD undef = .slice ad dl.length kd := getD_q (hF.2.2 15 (fun i hi => by show 55 + i ≠ 15; omega))
        obtain ⟨m70, m71, _, _⟩ := C7.keep hJ
        obtain ⟨m100, m101, _, _⟩ := P10.keep hJ
        obtain ⟨m110, m111, _, _⟩ := P11.keep hJ
        have nXf := nX.keep hJ
        have nWf := nW.keep hJ
        have nSf := nS.keep hJ
        have nPf := nP.keep hJ
        have nDf := nD.keep hJ
        clear hF C7 P10 P11 nX nW nS nP nD
        obtain rfl | rfl | rfl | rfl | rfl | rfl | rfl | rfl | rfl | rfl | rfl | rfl | rfl | rfl | rfl | rfl | rfl | rfl | rfl | rfl | rfl | rfl | rfl | rfl | rfl | rfl | rfl | rfl | rfl | rfl | rfl | rfl | rfl | rfl | rfl | rfl | rfl | rfl | rfl | rfl | rfl | rfl | rfl | rfl | rfl | rfl | rfl | rfl | rfl | rfl | rfl | rfl : i = 0 ∨ i = 1 ∨ i = 2 ∨ i = 3 ∨ i = 4 ∨ i = 5 ∨ i = 6 ∨ i = 7 ∨ i = 8 ∨ i = 9 ∨ i = 10 ∨ i = 11 ∨ i = 12 ∨ i = 13 ∨ i = 14 ∨ i = 15 ∨ i = 16 ∨ i = 17 ∨ i = 18 ∨ i = 19 ∨ i = 20 ∨ i = 21 ∨ i = 22 ∨ i = 23 ∨ i = 24 ∨ i = 25 ∨ i = 26 ∨ i = 27 ∨ i = 28 ∨ i = 29 ∨ i = 30 ∨ i = 31 ∨ i = 32 ∨ i = 33 ∨ i = 34 ∨ i = 35 ∨ i = 36 ∨ i = 37 ∨ i = 38 ∨ i = 39 ∨ i = 40 ∨ i = 41 ∨ i = 42 ∨ i = 43 ∨ i = 44 ∨ i = 45 ∨ i = 46 ∨ i = 47 ∨ i = 48 ∨ i = 49 ∨ i = 50 ∨ i = 51 := by omega
        all_goals (obtain rfl := Option.some.inj ho)
        · refine ⟨rfl, ?_⟩
          clear hpre hz
          exact step_val (v := .agg #[.int .i64 c1, .int .i64 c2]) (w' := fw) (by go_simp) ⟨_, rfl, rfl, hJ, fun k u h => h⟩
        · refine ⟨rfl, ?_⟩
          clear hpre hz
          exact step_val (v := .int .i64 seed) (w' := fw) (by go_simp) ⟨_, rfl, rfl, hJ, fun k u h => h⟩
        · refine ⟨rfl, ?_⟩
          clear hpre hz
          exact step_val (v := .int .i64 most) (w' := fw) (by go_simp) ⟨_, rfl, rfl, hJ, fun k u h => h⟩
        · refine ⟨rfl, ?_⟩
          have e1 : fa.tmps[56]?.getD undef = .int .i64 seed := getD_q (hpre ⟨1, .data⟩ (by simp) rfl)
          have e2 : fa.tmps[57]?.getD undef = .int .i64 most := getD_q (hpre ⟨2, .data⟩ (by simp) rfl)
          clear hpre hz
          go_simp
          refine (specChance_any seed most _).mono ?_
          rintro e w3 ⟨rfl, b3⟩
          rw [HC.out]
          exact ⟨_, rfl, rfl, hJ.trans (b3.mono hJ.size), fun k u h => rowPhi_keep b3 h⟩
        · refine ⟨rfl, ?_⟩
          have e0 : fa.tmps[55]?.getD undef = .agg #[.int .i64 c1, .int .i64 c2] := getD_q (hpre ⟨0, .data⟩ (by simp) rfl)
          have e3 : fa.tmps[58]?.getD undef = .agg #[.int .i64 c1, .int .i64 c2] := getD_q (hpre ⟨3, .data⟩ (by simp) rfl)
          clear hpre hz
          exact step_val (v := .bool false) (w' := fw) (by go_simp) ⟨_, rfl, rfl, hJ, fun k u h => h⟩
        · refine ⟨rfl, ?_⟩
          have e4 : fa.tmps[59]?.getD undef = .bool false := getD_q (hpre ⟨4, .data⟩ (by simp) rfl)
          clear hpre hz
          exact step_val (v := .bool false) (w' := fw) (by go_simp) ⟨_, rfl, rfl, hJ, fun k u h => h⟩
        · have gq := at_of_getD (k := 60) (by omega) (hpre ⟨5, .guard⟩ (by simp) rfl : fa.tmps.getD 60 undef = .bool false)
          refine ⟨by simp [Region.wanted, yielded, gq], ?_⟩
          clear gq
          clear hpre hz
          exact step_val (v := .pointer (some ⟨k10, 0, none⟩)) (w' := fw) (by go_simp) ⟨_, rfl, rfl, hJ, fun k u h => h⟩
        · have gq := at_of_getD (k := 60) (by omega) (hpre ⟨5, .guard⟩ (by simp) rfl : fa.tmps.getD 60 undef = .bool false)
          refine ⟨by simp [Region.wanted, yielded, gq], ?_⟩
          clear gq
          have e6 : fa.tmps[61]?.getD undef = .pointer (some ⟨k10, 0, none⟩) := getD_q (hpre ⟨6, .data⟩ (by simp) rfl)
          clear hpre hz
          exact step_val (v := .int .i64 q) (w' := fw) (by go_simp) ⟨_, rfl, rfl, hJ, fun k u h => h⟩
        · have gq := at_of_getD (k := 60) (by omega) (hpre ⟨5, .guard⟩ (by simp) rfl : fa.tmps.getD 60 undef = .bool false)
          refine ⟨by simp [Region.wanted, yielded, gq], ?_⟩
          clear gq
          clear hpre hz
          exact step_val (v := .pointer (some ⟨k11, 0, none⟩)) (w' := fw) (by go_simp) ⟨_, rfl, rfl, hJ, fun k u h => h⟩
        · have gq := at_of_getD (k := 60) (by omega) (hpre ⟨5, .guard⟩ (by simp) rfl : fa.tmps.getD 60 undef = .bool false)
          refine ⟨by simp [Region.wanted, yielded, gq], ?_⟩
          clear gq
          have e8 : fa.tmps[63]?.getD undef = .pointer (some ⟨k11, 0, none⟩) := getD_q (hpre ⟨8, .data⟩ (by simp) rfl)
          clear hpre hz
          exact step_val (v := .int .i64 q) (w' := fw) (by go_simp) ⟨_, rfl, rfl, hJ, fun k u h => h⟩
        · have gq := at_of_getD (k := 60) (by omega) (hpre ⟨5, .guard⟩ (by simp) rfl : fa.tmps.getD 60 undef = .bool false)
          refine ⟨by simp [Region.wanted, yielded, gq], ?_⟩
          clear gq
          have e7 : fa.tmps[62]?.getD undef = .int .i64 q := getD_q (hpre ⟨7, .data⟩ (by simp) rfl)
          have e9 : fa.tmps[64]?.getD undef = .int .i64 q := getD_q (hpre ⟨9, .data⟩ (by simp) rfl)
          clear hpre hz
          exact step_val (v := .bool false) (w' := fw) (by go_simp) ⟨_, rfl, rfl, hJ, fun k u h => h⟩
        · refine ⟨rfl, ?_⟩
          have e5 : fa.tmps[60]?.getD undef = .bool false := getD_q (hpre ⟨5, .data⟩ (by simp) rfl)
          have e10 : fa.tmps[65]?.getD undef = .bool false := getD_q (hpre ⟨10, .data⟩ (by simp) rfl)
          clear hpre hz
          exact step_val (v := .bool false) (w' := fw) (by go_simp) ⟨_, rfl, rfl, hJ, fun k u h => h⟩
        · refine ⟨rfl, ?_⟩
          have e11 : fa.tmps[66]?.getD undef = .bool false := getD_q (hpre ⟨11, .data⟩ (by simp) rfl)
          clear hpre hz
          exact step_val (v := .bool false) (w' := fw) (by go_simp) ⟨_, rfl, rfl, hJ, fun k u h => h⟩
        · have gq := at_of_getD (k := 67) (by omega) (hpre ⟨12, .guard⟩ (by simp) rfl : fa.tmps.getD 67 undef = .bool false)
          refine ⟨by simp [Region.wanted, yielded, gq], ?_⟩
          clear gq
          clear hpre hz
          exact step_val (v := .pointer (some ⟨k10, 1, none⟩)) (w' := fw) (by go_simp) ⟨_, rfl, rfl, hJ, fun k u h => h⟩
        · have gq := at_of_getD (k := 67) (by omega) (hpre ⟨12, .guard⟩ (by simp) rfl : fa.tmps.getD 67 undef = .bool false)
          refine ⟨by simp [Region.wanted, yielded, gq], ?_⟩
          clear gq
          have e13 : fa.tmps[68]?.getD undef = .pointer (some ⟨k10, 1, none⟩) := getD_q (hpre ⟨13, .data⟩ (by simp) rfl)
          clear hpre hz
          exact step_val (v := .slice p1 m.length k1) (w' := fw) (by go_simp) ⟨_, rfl, rfl, hJ, fun k u h => h⟩
        · have gq := at_of_getD (k := 67) (by omega) (hpre ⟨12, .guard⟩ (by simp) rfl : fa.tmps.getD 67 undef = .bool false)
          refine ⟨by simp [Region.wanted, yielded, gq], ?_⟩
          clear gq
          clear hpre hz
          exact step_val (v := .pointer (some ⟨k11, 1, none⟩)) (w' := fw) (by go_simp) ⟨_, rfl, rfl, hJ, fun k u h => h⟩
        · have gq := at_of_getD (k := 67) (by omega) (hpre ⟨12, .guard⟩ (by simp) rfl : fa.tmps.getD 67 undef = .bool false)
          refine ⟨by simp [Region.wanted, yielded, gq], ?_⟩
          clear gq
          have e15 : fa.tmps[70]?.getD undef = .pointer (some ⟨k11, 1, none⟩) := getD_q (hpre ⟨15, .data⟩ (by simp) rfl)
          clear hpre hz
          exact step_val (v := .slice p2 m.length k2) (w' := fw) (by go_simp) ⟨_, rfl, rfl, hJ, fun k u h => h⟩
        · have gq := at_of_getD (k := 67) (by omega) (hpre ⟨12, .guard⟩ (by simp) rfl : fa.tmps.getD 67 undef = .bool false)
          refine ⟨by simp [Region.wanted, yielded, gq], ?_⟩
          clear gq
          have e14 : fa.tmps[69]?.getD undef = .slice p1 m.length k1 := getD_q (hpre ⟨14, .data⟩ (by simp) rfl)
          have e16 : fa.tmps[71]?.getD undef = .slice p2 m.length k2 := getD_q (hpre ⟨16, .data⟩ (by simp) rfl)
          clear hpre hz
          go_simp
          refine (lwNums_same _ _ _ _ m _ (by omega) nXf nWf).mono ?_
          rintro e w3 ⟨rfl, b3⟩
          exact ⟨_, rfl, rfl, hJ.trans (b3.mono hJ.size), fun k u h => rowPhi_keep b3 h⟩
        · have gq := at_of_getD (k := 67) (by omega) (hpre ⟨12, .guard⟩ (by simp) rfl : fa.tmps.getD 67 undef = .bool false)
          refine ⟨by simp [Region.wanted, yielded, gq], ?_⟩
          clear gq
          have e17 : fa.tmps[72]?.getD undef = .bool true := getD_q (hpre ⟨17, .data⟩ (by simp) rfl)
          clear hpre hz
          exact step_val (v := .bool false) (w' := fw) (by go_simp) ⟨_, rfl, rfl, hJ, fun k u h => h⟩
        · refine ⟨rfl, ?_⟩
          have e12 : fa.tmps[67]?.getD undef = .bool false := getD_q (hpre ⟨12, .data⟩ (by simp) rfl)
          have e18 : fa.tmps[73]?.getD undef = .bool false := getD_q (hpre ⟨18, .data⟩ (by simp) rfl)
          clear hpre hz
          exact step_val (v := .bool false) (w' := fw) (by go_simp) ⟨_, rfl, rfl, hJ, fun k u h => h⟩
        · refine ⟨rfl, ?_⟩
          have e19 : fa.tmps[74]?.getD undef = .bool false := getD_q (hpre ⟨19, .data⟩ (by simp) rfl)
          clear hpre hz
          exact step_val (v := .bool false) (w' := fw) (by go_simp) ⟨_, rfl, rfl, hJ, fun k u h => h⟩
        · have gq := at_of_getD (k := 75) (by omega) (hpre ⟨20, .guard⟩ (by simp) rfl : fa.tmps.getD 75 undef = .bool false)
          refine ⟨by simp [Region.wanted, yielded, gq], ?_⟩
          clear gq
          clear hpre hz
          exact step_val (v := .slice ap pl.length kp) (w' := fw) (by go_simp) ⟨_, rfl, rfl, hJ, fun k u h => h⟩
        · have gq := at_of_getD (k := 75) (by omega) (hpre ⟨20, .guard⟩ (by simp) rfl : fa.tmps.getD 75 undef = .bool false)
          refine ⟨by simp [Region.wanted, yielded, gq], ?_⟩
          clear gq
          clear hpre hz
          exact step_val (v := .slice (some ⟨gs, 0, none⟩) sl.length cs) (w' := fw) (by go_simp) ⟨_, rfl, rfl, hJ, fun k u h => h⟩
        · have gq := at_of_getD (k := 75) (by omega) (hpre ⟨20, .guard⟩ (by simp) rfl : fa.tmps.getD 75 undef = .bool false)
          refine ⟨by simp [Region.wanted, yielded, gq], ?_⟩
          clear gq
          clear hpre hz
          exact step_val (v := .int .i64 n) (w' := fw) (by go_simp) ⟨_, rfl, rfl, hJ, fun k u h => h⟩
        · have gq := at_of_getD (k := 75) (by omega) (hpre ⟨20, .guard⟩ (by simp) rfl : fa.tmps.getD 75 undef = .bool false)
          refine ⟨by simp [Region.wanted, yielded, gq], ?_⟩
          clear gq
          have e22 : fa.tmps[77]?.getD undef = .slice (some ⟨gs, 0, none⟩) sl.length cs := getD_q (hpre ⟨22, .data⟩ (by simp) rfl)
          have e23 : fa.tmps[78]?.getD undef = .int .i64 n := getD_q (hpre ⟨23, .data⟩ (by simp) rfl)
          clear hpre hz
          go_simp
          refine (specPut_set_any gs 0 cs sl n _ (by omega) hcs nSf).mono ?_
          rintro e w3 ⟨v3, rfl, own3, b3⟩
          rw [HP.out] at own3
          obtain ⟨ar, cr, rfl, onr⟩ := own_nums own3
          exact ⟨_, rfl, ⟨ar, cr, rfl, onr.row⟩, hJ.trans (b3.mono hJ.size), fun k u h => rowPhi_keep b3 h⟩
        · have gq := at_of_getD (k := 75) (by omega) (hpre ⟨20, .guard⟩ (by simp) rfl : fa.tmps.getD 75 undef = .bool false)
          refine ⟨by simp [Region.wanted, yielded, gq], ?_⟩
          clear gq
          have e21 : fa.tmps[76]?.getD undef = .slice ap pl.length kp := getD_q (hpre ⟨21, .data⟩ (by simp) rfl)
          obtain ⟨ar, cr, qr, nr⟩ := (hpre ⟨24, .data⟩ (by simp) rfl : ∃ a cap, fa.tmps.getD 79 undef = .slice a pl.length cap ∧ NumRow fw a pl)
          have e24 : fa.tmps[79]?.getD undef = _ := getD_q qr
          clear hpre hz
          go_simp
          refine (lwNums_same _ _ _ _ pl _ (by omega) nPf nr).mono ?_
          rintro e w3 ⟨rfl, b3⟩
          exact ⟨_, rfl, rfl, hJ.trans (b3.mono hJ.size), fun k u h => rowPhi_keep b3 h⟩
        · have gq := at_of_getD (k := 75) (by omega) (hpre ⟨20, .guard⟩ (by simp) rfl : fa.tmps.getD 75 undef = .bool false)
          refine ⟨by simp [Region.wanted, yielded, gq], ?_⟩
          clear gq
          have e25 : fa.tmps[80]?.getD undef = .bool true := getD_q (hpre ⟨25, .data⟩ (by simp) rfl)
          clear hpre hz
          exact step_val (v := .bool false) (w' := fw) (by go_simp) ⟨_, rfl, rfl, hJ, fun k u h => h⟩
        · refine ⟨rfl, ?_⟩
          have e20 : fa.tmps[75]?.getD undef = .bool false := getD_q (hpre ⟨20, .data⟩ (by simp) rfl)
          have e26 : fa.tmps[81]?.getD undef = .bool false := getD_q (hpre ⟨26, .data⟩ (by simp) rfl)
          clear hpre hz
          exact step_val (v := .bool false) (w' := fw) (by go_simp) ⟨_, rfl, rfl, hJ, fun k u h => h⟩
        · refine ⟨rfl, ?_⟩
          have e27 : fa.tmps[82]?.getD undef = .bool false := getD_q (hpre ⟨27, .data⟩ (by simp) rfl)
          clear hpre hz
          exact step_val (v := .bool false) (w' := fw) (by go_simp) ⟨_, rfl, rfl, hJ, fun k u h => h⟩
        · have gq := at_of_getD (k := 83) (by omega) (hpre ⟨28, .guard⟩ (by simp) rfl : fa.tmps.getD 83 undef = .bool false)
          refine ⟨by simp [Region.wanted, yielded, gq], ?_⟩
          clear gq
          clear hpre hz
          exact step_val (v := .slice ad dl.length kd) (w' := fw) (by go_simp) ⟨_, rfl, rfl, hJ, fun k u h => h⟩
        · have gq := at_of_getD (k := 83) (by omega) (hpre ⟨28, .guard⟩ (by simp) rfl : fa.tmps.getD 83 undef = .bool false)
          refine ⟨by simp [Region.wanted, yielded, gq], ?_⟩
          clear gq
          clear hpre hz
          exact step_val (v := .slice (some ⟨gs, 0, none⟩) sl.length cs) (w' := fw) (by go_simp) ⟨_, rfl, rfl, hJ, fun k u h => h⟩
        · have gq := at_of_getD (k := 83) (by omega) (hpre ⟨28, .guard⟩ (by simp) rfl : fa.tmps.getD 83 undef = .bool false)
          refine ⟨by simp [Region.wanted, yielded, gq], ?_⟩
          clear gq
          clear hpre hz
          exact step_val (v := .int .i64 n) (w' := fw) (by go_simp) ⟨_, rfl, rfl, hJ, fun k u h => h⟩
        · have gq := at_of_getD (k := 83) (by omega) (hpre ⟨28, .guard⟩ (by simp) rfl : fa.tmps.getD 83 undef = .bool false)
          refine ⟨by simp [Region.wanted, yielded, gq], ?_⟩
          clear gq
          have e30 : fa.tmps[85]?.getD undef = .slice (some ⟨gs, 0, none⟩) sl.length cs := getD_q (hpre ⟨30, .data⟩ (by simp) rfl)
          have e31 : fa.tmps[86]?.getD undef = .int .i64 n := getD_q (hpre ⟨31, .data⟩ (by simp) rfl)
          clear hpre hz
          go_simp
          refine (specDrop_any _ cs sl n _ (by omega) (fun e => by cases e) nSf).mono ?_
          rintro e w3 ⟨v3, rfl, own3, b3⟩
          rw [HD.out] at own3
          obtain ⟨ar, cr, rfl, onr⟩ := own_nums own3
          exact ⟨_, rfl, ⟨ar, cr, rfl, onr.row⟩, hJ.trans (b3.mono hJ.size), fun k u h => rowPhi_keep b3 h⟩
        · have gq := at_of_getD (k := 83) (by omega) (hpre ⟨28, .guard⟩ (by simp) rfl : fa.tmps.getD 83 undef = .bool false)
          refine ⟨by simp [Region.wanted, yielded, gq], ?_⟩
          clear gq
          have e29 : fa.tmps[84]?.getD undef = .slice ad dl.length kd := getD_q (hpre ⟨29, .data⟩ (by simp) rfl)
          obtain ⟨ar, cr, qr, nr⟩ := (hpre ⟨32, .data⟩ (by simp) rfl : ∃ a cap, fa.tmps.getD 87 undef = .slice a dl.length cap ∧ NumRow fw a dl)
          have e32 : fa.tmps[87]?.getD undef = _ := getD_q qr
          clear hpre hz
          go_simp
          refine (lwNums_same _ _ _ _ dl _ (by omega) nDf nr).mono ?_
          rintro e w3 ⟨rfl, b3⟩
          exact ⟨_, rfl, rfl, hJ.trans (b3.mono hJ.size), fun k u h => rowPhi_keep b3 h⟩
        · have gq := at_of_getD (k := 83) (by omega) (hpre ⟨28, .guard⟩ (by simp) rfl : fa.tmps.getD 83 undef = .bool false)
          refine ⟨by simp [Region.wanted, yielded, gq], ?_⟩
          clear gq
          have e33 : fa.tmps[88]?.getD undef = .bool true := getD_q (hpre ⟨33, .data⟩ (by simp) rfl)
          clear hpre hz
          exact step_val (v := .bool false) (w' := fw) (by go_simp) ⟨_, rfl, rfl, hJ, fun k u h => h⟩
        · refine ⟨rfl, ?_⟩
          have e28 : fa.tmps[83]?.getD undef = .bool false := getD_q (hpre ⟨28, .data⟩ (by simp) rfl)
          have e34 : fa.tmps[89]?.getD undef = .bool false := getD_q (hpre ⟨34, .data⟩ (by simp) rfl)
          clear hpre hz
          exact step_val (v := .bool false) (w' := fw) (by go_simp) ⟨_, rfl, rfl, hJ, fun k u h => h⟩
        · refine ⟨rfl, ?_⟩
          have e35 : fa.tmps[90]?.getD undef = .bool false := getD_q (hpre ⟨35, .data⟩ (by simp) rfl)
          clear hpre hz
          exact step_val (v := .bool false) (w' := fw) (by go_simp) ⟨_, rfl, rfl, hJ, fun k u h => h⟩
        · have gq := at_of_getD (k := 91) (by omega) (hpre ⟨36, .guard⟩ (by simp) rfl : fa.tmps.getD 91 undef = .bool false)
          refine ⟨by simp [Region.wanted, yielded, gq], ?_⟩
          clear gq
          clear hpre hz
          exact step_val (v := .slice (some ⟨gs, 0, none⟩) sl.length cs) (w' := fw) (by go_simp) ⟨_, rfl, rfl, hJ, fun k u h => h⟩
        · have gq := at_of_getD (k := 91) (by omega) (hpre ⟨36, .guard⟩ (by simp) rfl : fa.tmps.getD 91 undef = .bool false)
          refine ⟨by simp [Region.wanted, yielded, gq], ?_⟩
          clear gq
          clear hpre hz
          exact step_val (v := .int .i64 n) (w' := fw) (by go_simp) ⟨_, rfl, rfl, hJ, fun k u h => h⟩
        · have gq := at_of_getD (k := 91) (by omega) (hpre ⟨36, .guard⟩ (by simp) rfl : fa.tmps.getD 91 undef = .bool false)
          refine ⟨by simp [Region.wanted, yielded, gq], ?_⟩
          clear gq
          have e37 : fa.tmps[92]?.getD undef = .slice (some ⟨gs, 0, none⟩) sl.length cs := getD_q (hpre ⟨37, .data⟩ (by simp) rfl)
          have e38 : fa.tmps[93]?.getD undef = .int .i64 n := getD_q (hpre ⟨38, .data⟩ (by simp) rfl)
          clear hpre hz
          go_simp
          refine (implHas_any _ cs sl n _ (by omega) nSf).mono ?_
          rintro e w3 ⟨rfl, b3⟩
          rw [HH.out]
          exact ⟨_, rfl, rfl, hJ.trans (b3.mono hJ.size), fun k u h => rowPhi_keep b3 h⟩
        · have gq := at_of_getD (k := 91) (by omega) (hpre ⟨36, .guard⟩ (by simp) rfl : fa.tmps.getD 91 undef = .bool false)
          refine ⟨by simp [Region.wanted, yielded, gq], ?_⟩
          clear gq
          clear hpre hz
          exact step_val (v := .slice (some ⟨gs, 0, none⟩) sl.length cs) (w' := fw) (by go_simp) ⟨_, rfl, rfl, hJ, fun k u h => h⟩
        · have gq := at_of_getD (k := 91) (by omega) (hpre ⟨36, .guard⟩ (by simp) rfl : fa.tmps.getD 91 undef = .bool false)
          refine ⟨by simp [Region.wanted, yielded, gq], ?_⟩
          clear gq
          clear hpre hz
          exact step_val (v := .int .i64 n) (w' := fw) (by go_simp) ⟨_, rfl, rfl, hJ, fun k u h => h⟩
        · have gq := at_of_getD (k := 91) (by omega) (hpre ⟨36, .guard⟩ (by simp) rfl : fa.tmps.getD 91 undef = .bool false)
          refine ⟨by simp [Region.wanted, yielded, gq], ?_⟩
          clear gq
          have e40 : fa.tmps[95]?.getD undef = .slice (some ⟨gs, 0, none⟩) sl.length cs := getD_q (hpre ⟨40, .data⟩ (by simp) rfl)
          have e41 : fa.tmps[96]?.getD undef = .int .i64 n := getD_q (hpre ⟨41, .data⟩ (by simp) rfl)
          clear hpre hz
          go_simp
          refine (specHas_any _ cs sl n _ (by omega) nSf).mono ?_
          rintro e w3 ⟨rfl, b3⟩
          rw [HH.out]
          exact ⟨_, rfl, rfl, hJ.trans (b3.mono hJ.size), fun k u h => rowPhi_keep b3 h⟩
        · have gq := at_of_getD (k := 91) (by omega) (hpre ⟨36, .guard⟩ (by simp) rfl : fa.tmps.getD 91 undef = .bool false)
          refine ⟨by simp [Region.wanted, yielded, gq], ?_⟩
          clear gq
          have e39 : fa.tmps[94]?.getD undef = .bool hb := getD_q (hpre ⟨39, .data⟩ (by simp) rfl)
          have e42 : fa.tmps[97]?.getD undef = .bool hb := getD_q (hpre ⟨42, .data⟩ (by simp) rfl)
          clear hpre hz
          exact step_val (v := .bool false) (w' := fw) (by go_simp) ⟨_, rfl, rfl, hJ, fun k u h => h⟩
        · refine ⟨rfl, ?_⟩
          have e36 : fa.tmps[91]?.getD undef = .bool false := getD_q (hpre ⟨36, .data⟩ (by simp) rfl)
          have e43 : fa.tmps[98]?.getD undef = .bool false := getD_q (hpre ⟨43, .data⟩ (by simp) rfl)
          clear hpre hz
          exact step_val (v := .bool false) (w' := fw) (by go_simp) ⟨_, rfl, rfl, hJ, fun k u h => h⟩
        · refine ⟨rfl, ?_⟩
          have e44 : fa.tmps[99]?.getD undef = .bool false := getD_q (hpre ⟨44, .data⟩ (by simp) rfl)
          clear hpre hz
          exact step_val (v := .bool false) (w' := fw) (by go_simp) ⟨_, rfl, rfl, hJ, fun k u h => h⟩
        · have gq := at_of_getD (k := 100) (by omega) (hpre ⟨45, .guard⟩ (by simp) rfl : fa.tmps.getD 100 undef = .bool false)
          refine ⟨by simp [Region.wanted, yielded, gq], ?_⟩
          clear gq
          clear hpre hz
          exact step_val (v := .slice (some ⟨gs, 0, none⟩) sl.length cs) (w' := fw) (by go_simp) ⟨_, rfl, rfl, hJ, fun k u h => h⟩
        · have gq := at_of_getD (k := 100) (by omega) (hpre ⟨45, .guard⟩ (by simp) rfl : fa.tmps.getD 100 undef = .bool false)
          refine ⟨by simp [Region.wanted, yielded, gq], ?_⟩
          clear gq
          have e46 : fa.tmps[101]?.getD undef = .slice (some ⟨gs, 0, none⟩) sl.length cs := getD_q (hpre ⟨46, .data⟩ (by simp) rfl)
          clear hpre hz
          go_simp
          refine (implRight_any _ cs sl _ (by omega) nSf).mono ?_
          rintro e w3 ⟨rfl, b3⟩
          rw [HR.out]
          exact ⟨_, rfl, rfl, hJ.trans (b3.mono hJ.size), fun k u h => rowPhi_keep b3 h⟩
        · have gq := at_of_getD (k := 100) (by omega) (hpre ⟨45, .guard⟩ (by simp) rfl : fa.tmps.getD 100 undef = .bool false)
          refine ⟨by simp [Region.wanted, yielded, gq], ?_⟩
          clear gq
          clear hpre hz
          exact step_val (v := .slice (some ⟨gs, 0, none⟩) sl.length cs) (w' := fw) (by go_simp) ⟨_, rfl, rfl, hJ, fun k u h => h⟩
        · have gq := at_of_getD (k := 100) (by omega) (hpre ⟨45, .guard⟩ (by simp) rfl : fa.tmps.getD 100 undef = .bool false)
          refine ⟨by simp [Region.wanted, yielded, gq], ?_⟩
          clear gq
          have e48 : fa.tmps[103]?.getD undef = .slice (some ⟨gs, 0, none⟩) sl.length cs := getD_q (hpre ⟨48, .data⟩ (by simp) rfl)
          clear hpre hz
          go_simp
          refine (specRight_any _ cs sl _ (by omega) nSf).mono ?_
          rintro e w3 ⟨rfl, b3⟩
          rw [HR.out]
          exact ⟨_, rfl, rfl, hJ.trans (b3.mono hJ.size), fun k u h => rowPhi_keep b3 h⟩
        · have gq := at_of_getD (k := 100) (by omega) (hpre ⟨45, .guard⟩ (by simp) rfl : fa.tmps.getD 100 undef = .bool false)
          refine ⟨by simp [Region.wanted, yielded, gq], ?_⟩
          clear gq
          have e47 : fa.tmps[102]?.getD undef = .bool rb := getD_q (hpre ⟨47, .data⟩ (by simp) rfl)
          have e49 : fa.tmps[104]?.getD undef = .bool rb := getD_q (hpre ⟨49, .data⟩ (by simp) rfl)
          clear hpre hz
          exact step_val (v := .bool false) (w' := fw) (by go_simp) ⟨_, rfl, rfl, hJ, fun k u h => h⟩
        · refine ⟨rfl, ?_⟩
          have e45 : fa.tmps[100]?.getD undef = .bool false := getD_q (hpre ⟨45, .data⟩ (by simp) rfl)
          have e50 : fa.tmps[105]?.getD undef = .bool false := getD_q (hpre ⟨50, .data⟩ (by simp) rfl)
          clear hpre hz
          exact step_val (v := .bool false) (w' := fw) (by go_simp) ⟨_, rfl, rfl, hJ, fun k u h => h⟩
  case rest =>
  obtain ⟨hv106, bc⟩ := hcut
  subst hv106
  go_upto_region 12 with fail
  go_cut [141] (fun v wd => v = .bool false ∧ Below x8.heap.size x8 wd)
  case first =>
    obtain ⟨m70, m71, _, _⟩ := C7.keep bc
    refine bounds12 HC m70 m71 (fun _ _ _ _ _ _ _ _ _ _ _ _ _ _ _ _ _ _ _ _ _ _ _ _ _ _ _ _ _ _ _ _ _ _ => ?_)
    dsimp only
    go_step
    go_meet
    case rel => exact ⟨rfl, bc⟩
  case rest =>
  clear bc
  obtain ⟨hv141, bd⟩ := hcut
  subst hv141
  go_upto_region 14 with fail
  go_cut [147] (fun v wd => ∃ c : Bool, v = .bool c ∧ (c = true → 0 ≤ sd ∧ sd ≤ 2147483647) ∧ Below x8.heap.size x8 wd)
  case first =>
    by_cases s1 : 0 ≤ sd
    · by_cases s2 : sd ≤ 2147483647
      · go_wp2
        go_meet
        case rel => exact ⟨true, rfl, fun _ => ⟨s1, s2⟩, bd⟩
      · have t2 : decide (sd ≤ 2147483647) = false := decide_eq_false s2
        go_wp2
        go_meet
        case rel => exact ⟨false, rfl, (fun h => by cases h), bd⟩
    · have t1 : decide (0 ≤ sd) = false := decide_eq_false s1
      go_wp2
      go_meet
      case rel => exact ⟨false, rfl, (fun h => by cases h), bd⟩
  case rest =>
  clear bd
  obtain ⟨sb, hv147, hsb, be⟩ := hcut
  subst hv147
  go_upto_if 147 with fail
  go_cut [] (fun wd => Below x8.heap.size x8 wd)
  case first =>
    cases sb with
    | false =>
      go_wp2
      go_meet
      case rel => exact be
    | true =>
      obtain ⟨s1, s2⟩ := hsb rfl
      have hmany : ∀ z, manyL m z = manyL l z := fun z => by
        have hE : shufL l sd = mixL (l.length - 1) l sd := if_neg (by simp [s1, s2]; omega)
        have := HM.out
        rw [hE] at this
        rw [← this]
        exact mixL_many l sd z
      have HY : Hid (∀ z, manyL m z = manyL l z) := hmany
      clear hmany hsb
      go_wp2
      go_loopw [16] (fun i wr => ∃ k : Nat, k ≤ l.length ∧ i = .int .i64 k ∧ Below x8.heap.size x8 wr) (fun i _ => l.length - (intOf i).toNat)
      case atStart => exact ⟨0, Nat.zero_le _, rfl, be⟩
      case round =>
        obtain ⟨k, hk, rfl, br⟩ := hrel
        clear be
        by_cases hx : k < l.length
        · have nLr := nL.keep br
          have nXr := nX.keep br
          obtain ⟨m100, m101, _, _⟩ := P10.keep br
          have hck : wr.cell? ⟨gl, k, none⟩ = some (.int .i64 l[k]) := by
            rcases nLr with h | ⟨b, off, e, hlt, hc⟩
            · rw [h] at hx; simp at hx
            · simp only [Option.some.injEq, Addr.mk.injEq, and_true] at e
              obtain ⟨rfl, rfl⟩ := e
              rw [← hc k hx, Nat.zero_add]
          obtain ⟨z, hz⟩ : ∃ z, l[k] = z := ⟨_, rfl⟩
          rw [hz] at hck
          clear hz
          obtain ⟨c, hc⟩ : ∃ c, manyL l z = c := ⟨_, rfl⟩
          have cX : Calls Try.prog 26 #[.slice p1 m.length k1, .int .i64 z] wr.drew fun e w' => e = .returned (.int .i64 ((c : Nat) : Int)) ∧ w' = wr.drew := by
            have h := lwMany_any p1 k1 m z wr.drew (by omega) nXr
            rw [HY.out z, hc] at h
            exact h
          have cL : Calls Try.prog 26 #[.slice (some ⟨gl, 0, none⟩) l.length cl, .int .i64 z] wr.drew fun e w' => e = .returned (.int .i64 ((c : Nat) : Int)) ∧ w' = wr.drew := by
            have h := lwMany_any (some ⟨gl, 0, none⟩) cl l z wr.drew (by omega) nLr
            rw [hc] at h
            exact h
          have hx' : (k : Int) < (l.length : Int) := by omega
          clear hc nLr nXr
          go_wp2
          refine wp_region_any (by kernel_rfl) ?_
          refine wpAny_relG (fun i => 154 + i) (rowPhi [.pointer (some ⟨k10, 1, none⟩), .slice p1 m.length k1, .slice (some ⟨gl, 0, none⟩) l.length cl, .int .i64 (k : Int), .pointer (some ⟨gl, k, none⟩), .int .i64 z, .int .i64 ((c : Nat) : Int), .slice (some ⟨gl, 0, none⟩) l.length cl, .slice (some ⟨gl, 0, none⟩) l.length cl, .int .i64 (k : Int), .pointer (some ⟨gl, k, none⟩), .int .i64 z, .int .i64 ((c : Nat) : Int), .bool false] (fun i => none)) (fun w' => w' = wr.drew) _ (by kernel_rfl) ?inj ?step ?fin _ _ _ _ (List.range 14) (by kernel_rfl) (Nat.le_refl 14) ?un ⟨rfl, rfl, fun _ _ => rfl⟩ rfl ?none
          case inj => exact fun i _ j _ e => by have : 154 + i = 154 + j := e; omega
          case un => exact fun i hi _ => List.mem_range.2 hi
          case none =>
            intro i h
            exfalso
            by_cases hi : i < 14
            · simp [hi] at h
            · simp [hi] at h
          case step =>
            go_light
            intro i o ho fa fw hF hJ hpre
            subst hJ
            clear w0 w1 d0 d1 h0 h1 B8 nL HM HQ HP HD HH HR HC C7 P10 P11 nX nW nS nP nD HY br
            have hi : i < 14 := (Array.getElem?_eq_some_iff.1 ho).1
            have f8 : fa.tmps[8]?.getD undef = .slice (some ⟨gl, 0, none⟩) l.length cl := getD_q (hF.2.2 8 (fun i hi => by show 154 + i ≠ 8; omega))
            have f10 : fa.tmps[10]?.getD undef = .pointer (some ⟨k10, 0, none⟩) := getD_q (hF.2.2 10 (fun i hi => by show 154 + i ≠ 10; omega))
            have f16 : fa.tmps[16]?.getD undef = .int .i64 (k : Int) := getD_q (hF.2.2 16 (fun i hi => by show 154 + i ≠ 16; omega))
            clear hF
            obtain rfl | rfl | rfl | rfl | rfl | rfl | rfl | rfl | rfl | rfl | rfl | rfl | rfl | rfl : i = 0 ∨ i = 1 ∨ i = 2 ∨ i = 3 ∨ i = 4 ∨ i = 5 ∨ i = 6 ∨ i = 7 ∨ i = 8 ∨ i = 9 ∨ i = 10 ∨ i = 11 ∨ i = 12 ∨ i = 13 := by omega
            all_goals (obtain rfl := Option.some.inj ho)
            all_goals (refine ⟨rfl, ?_⟩)
            · clear hpre
              exact step_val (v := .pointer (some ⟨k10, 1, none⟩)) (w' := wr.drew) (by go_simp) ⟨_, rfl, rfl, rfl, fun k u h => h⟩
            · have e0 : fa.tmps[154]?.getD undef = .pointer (some ⟨k10, 1, none⟩) := getD_q (hpre ⟨0, .data⟩ (by simp) rfl)
              clear hpre
              exact step_val (v := .slice p1 m.length k1) (w' := wr.drew) (by go_simp) ⟨_, rfl, rfl, rfl, fun k u h => h⟩
            · clear hpre
              exact step_val (v := .slice (some ⟨gl, 0, none⟩) l.length cl) (w' := wr.drew) (by go_simp) ⟨_, rfl, rfl, rfl, fun k u h => h⟩
            · clear hpre
              exact step_val (v := .int .i64 (k : Int)) (w' := wr.drew) (by go_simp) ⟨_, rfl, rfl, rfl, fun k u h => h⟩
            · have e2 : fa.tmps[156]?.getD undef = .slice (some ⟨gl, 0, none⟩) l.length cl := getD_q (hpre ⟨2, .data⟩ (by simp) rfl)
              have e3 : fa.tmps[157]?.getD undef = .int .i64 (k : Int) := getD_q (hpre ⟨3, .data⟩ (by simp) rfl)
              clear hpre
              exact step_val (v := .pointer (some ⟨gl, k, none⟩)) (w' := wr.drew) (by go_simp) ⟨_, rfl, rfl, rfl, fun k u h => h⟩
            · have e4 : fa.tmps[158]?.getD undef = .pointer (some ⟨gl, k, none⟩) := getD_q (hpre ⟨4, .data⟩ (by simp) rfl)
              clear hpre
              exact step_val (v := .int .i64 z) (w' := wr.drew) (by go_simp) ⟨_, rfl, rfl, rfl, fun k u h => h⟩
            · have e1 : fa.tmps[155]?.getD undef = .slice p1 m.length k1 := getD_q (hpre ⟨1, .data⟩ (by simp) rfl)
              have e5 : fa.tmps[159]?.getD undef = .int .i64 z := getD_q (hpre ⟨5, .data⟩ (by simp) rfl)
              clear hpre
              go_simp
              refine cX.mono ?_
              rintro e w3 ⟨rfl, rfl⟩
              exact ⟨_, rfl, rfl, rfl, fun k u h => h⟩
            · clear hpre
              exact step_val (v := .slice (some ⟨gl, 0, none⟩) l.length cl) (w' := wr.drew) (by go_simp) ⟨_, rfl, rfl, rfl, fun k u h => h⟩
            · clear hpre
              exact step_val (v := .slice (some ⟨gl, 0, none⟩) l.length cl) (w' := wr.drew) (by go_simp) ⟨_, rfl, rfl, rfl, fun k u h => h⟩
            · clear hpre
              exact step_val (v := .int .i64 (k : Int)) (w' := wr.drew) (by go_simp) ⟨_, rfl, rfl, rfl, fun k u h => h⟩
            · have e8 : fa.tmps[162]?.getD undef = .slice (some ⟨gl, 0, none⟩) l.length cl := getD_q (hpre ⟨8, .data⟩ (by simp) rfl)
              have e9 : fa.tmps[163]?.getD undef = .int .i64 (k : Int) := getD_q (hpre ⟨9, .data⟩ (by simp) rfl)
              clear hpre
              exact step_val (v := .pointer (some ⟨gl, k, none⟩)) (w' := wr.drew) (by go_simp) ⟨_, rfl, rfl, rfl, fun k u h => h⟩
            · have e10 : fa.tmps[164]?.getD undef = .pointer (some ⟨gl, k, none⟩) := getD_q (hpre ⟨10, .data⟩ (by simp) rfl)
              clear hpre
              exact step_val (v := .int .i64 z) (w' := wr.drew) (by go_simp) ⟨_, rfl, rfl, rfl, fun k u h => h⟩
            · have e7 : fa.tmps[161]?.getD undef = .slice (some ⟨gl, 0, none⟩) l.length cl := getD_q (hpre ⟨7, .data⟩ (by simp) rfl)
              have e11 : fa.tmps[165]?.getD undef = .int .i64 z := getD_q (hpre ⟨11, .data⟩ (by simp) rfl)
              clear hpre
              go_simp
              refine cL.mono ?_
              rintro e w3 ⟨rfl, rfl⟩
              exact ⟨_, rfl, rfl, rfl, fun k u h => h⟩
            · have e6 : fa.tmps[160]?.getD undef = .int .i64 ((c : Nat) : Int) := getD_q (hpre ⟨6, .data⟩ (by simp) rfl)
              have e12 : fa.tmps[166]?.getD undef = .int .i64 ((c : Nat) : Int) := getD_q (hpre ⟨12, .data⟩ (by simp) rfl)
              clear hpre
              exact step_val (v := .bool false) (w' := wr.drew) (by go_simp) ⟨_, rfl, rfl, rfl, fun k u h => h⟩
          case fin =>
            intro fa fw hF hJ hφ
            subst hJ
            obtain ⟨ft, fd⟩ := fa
            have e : ft.toList = List.take 154 _ ++ ((List.range 14).map (fun i => ft.getD (154 + i) undef) ++ List.drop 168 _) := frame_seg hF (show 154 + 14 ≤ 199 by decide)
            have h13 : ft.getD (154 + 13) undef = .bool false := hφ 13 (show 13 < 14 by decide)
            obtain rfl : fd = [] := hF.1
            clear hF hφ
            simp only [List.take_succ_cons, List.take_zero, List.drop_succ_cons, List.drop_zero, List.range, List.range.loop, List.map, List.cons_append, List.nil_append] at e
            obtain ⟨z154, g154⟩ : ∃ z, ft.getD (154 + 0) undef = z := ⟨_, rfl⟩
            obtain ⟨z155, g155⟩ : ∃ z, ft.getD (154 + 1) undef = z := ⟨_, rfl⟩
            obtain ⟨z156, g156⟩ : ∃ z, ft.getD (154 + 2) undef = z := ⟨_, rfl⟩
            obtain ⟨z157, g157⟩ : ∃ z, ft.getD (154 + 3) undef = z := ⟨_, rfl⟩
            obtain ⟨z158, g158⟩ : ∃ z, ft.getD (154 + 4) undef = z := ⟨_, rfl⟩
            obtain ⟨z159, g159⟩ : ∃ z, ft.getD (154 + 5) undef = z := ⟨_, rfl⟩
            obtain ⟨z160, g160⟩ : ∃ z, ft.getD (154 + 6) undef = z := ⟨_, rfl⟩
            obtain ⟨z161, g161⟩ : ∃ z, ft.getD (154 + 7) undef = z := ⟨_, rfl⟩
            obtain ⟨z162, g162⟩ : ∃ z, ft.getD (154 + 8) undef = z := ⟨_, rfl⟩
            obtain ⟨z163, g163⟩ : ∃ z, ft.getD (154 + 9) undef = z := ⟨_, rfl⟩
            obtain ⟨z164, g164⟩ : ∃ z, ft.getD (154 + 10) undef = z := ⟨_, rfl⟩
            obtain ⟨z165, g165⟩ : ∃ z, ft.getD (154 + 11) undef = z := ⟨_, rfl⟩
            obtain ⟨z166, g166⟩ : ∃ z, ft.getD (154 + 12) undef = z := ⟨_, rfl⟩
            rw [h13, g154, g155, g156, g157, g158, g159, g160, g161, g162, g163, g164, g165, g166] at e
            clear h13 g154 g155 g156 g157 g158 g159 g160 g161 g162 g163 g164 g165 g166
            obtain ⟨L⟩ := ft
            obtain rfl : L = _ := e
            go_wp2
            go_roundw
            case rel => exact ⟨k + 1, by omega, by go_num, br.drew⟩
            case measure => simp [intOf]; omega
        · obtain rfl : k = l.length := by omega
          go_wp2
          go_meet
          case rel => exact br
  case rest =>
  clear be hsb
  have bf := hcut
  have Bf := B8.trans (bf.mono B8.size)
  have nSf := nS.keep bf
  have nPf := nP.keep bf
  have nDf := nD.keep bf
  clear hcut bf B8 C7 P10 P11 nX nW nL nS nP nD
  go_wp2_with fail
  refine (specRight_any _ cs sl _ (by omega) nSf).mono ?_
  rintro e x9 ⟨rfl, b9⟩
  rw [HR.out]
  have B9 := Bf.trans (b9.mono Bf.size)
  have nP9 := nPf.keep b9
  have nD9 := nDf.keep b9
  clear nPf nDf nSf b9 Bf
  cases rb with
  | false =>
    go_wp2
    go_ret
    exact ⟨rfl, B9⟩
  | true =>
    by_cases hfull : 400 ≤ (sl.length : Int)
    · go_wp2
      go_ret
      exact ⟨rfl, B9⟩
    have hr : rightL sl := of_decide_eq_true HR.out
    obtain ⟨g1, g2, g3, g4⟩ := set_laws (n := n) hr (by omega)
    rw [HP.out] at g1 g3 g4
    rw [HD.out] at g2 g3 g4
    have G1 : Hid (decide (rightL pl ∧ n ∈ pl) = true) := decide_eq_true g1
    have G2 : Hid (decide (rightL dl ∧ n ∈ dl) = false) := decide_eq_false (fun h => g2 h.2)
    have G3 : Hid (setDropL pl n = dl) := g3
    have G4 : Hid (setPutL dl n = pl) := g4
    clear hr g1 g2 g3 g4
    go_wp2_with fail
    refine (implHas_any _ _ pl n _ (by omega) nP9).mono ?_
    rintro e x10 ⟨rfl, b10⟩
    rw [G1.out]
    have B10 := B9.trans (b10.mono B9.size)
    have nP10 := nP9.keep b10
    have nD10 := nD9.keep b10
    clear B9 b10 nP9 nD9
    go_wp2_with fail
    refine (implHas_any _ _ dl n _ (by omega) nD10).mono ?_
    rintro e x11 ⟨rfl, b11⟩
    rw [G2.out]
    have B11 := B10.trans (b11.mono B10.size)
    have nP11 := nP10.keep b11
    have nD11 := nD10.keep b11
    clear B10 b11 nP10 nD10
    go_wp2_with fail
    refine (implDrop_any _ _ pl n _ (by omega) nP11).mono ?_
    rintro e x12 ⟨v12, rfl, own12, b12⟩
    rw [G3.out] at own12
    obtain ⟨ar, cr, rfl, onr⟩ := own_nums own12
    have nR := onr.row
    have B12 := B11.trans (b12.mono B11.size)
    have nP12 := nP11.keep b12
    have nD12 := nD11.keep b12
    clear B11 b12 nP11 nD11 own12 onr
    go_wp2_with fail
    refine (lwNums_same _ _ _ _ dl _ (by omega) nR nD12).mono ?_
    rintro e x13 ⟨rfl, b13⟩
    have B13 := B12.trans (b13.mono B12.size)
    have nP13 := nP12.keep b13
    have nD13 := nD12.keep b13
    clear B12 b13 nP12 nD12 nR
    go_wp2_with fail
    refine (implPut_any _ _ dl n _ (by omega) nD13).mono ?_
    rintro e x14 ⟨v14, rfl, own14, b14⟩
    rw [G4.out] at own14
    obtain ⟨ar2, cr2, rfl, onr2⟩ := own_nums own14
    have nR := onr2.row
    have B14 := B13.trans (b14.mono B13.size)
    have nP14 := nP13.keep b14
    clear B13 b14 nP13 nD13 own14 onr2
    go_wp2_with fail
    refine (lwNums_same _ _ _ _ pl _ (by omega) nR nP14).mono ?_
    rintro e x15 ⟨rfl, b15⟩
    have B15 := B14.trans (b15.mono B14.size)
    go_wp2
    go_ret
    exact ⟨rfl, B15⟩

end Go.Proofs.Ytndflppphhofkaa
