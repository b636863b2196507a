/- Proved: laws.FnExactRumorPick answers true at every list of rumors and every node: RumorPick of the program and of the specification are one function; it writes into no argument, and its answer owns its memory. No condition. -/
import Derived.Test.YtenefjnahanfbaaRows
import Derived.WalkKit
import Derived.ProofKit
import Derived.OpenShut
import Derived.ShutString
import Derived.ChangeOld
import Derived.Below
import Derived.Test.YtenefjnahanfbaaRumArgs
import Derived.Test.YtenefjnahanfbaaRumEq
import Derived.Test.YtenefjnahanfbaaRPickI
import Derived.Test.YtenefjnahanfbaaRPickS
namespace Go.Proofs.Ytenefjnahanfbaa
open Go Go.ChangeShapes Go.WideShapes Go.ChangeAt Go.RowKit
open Go.ChangeMaps (open_string shut_string)
set_option linter.unusedVariables false

set_option maxHeartbeats 8000000 in
set_option maxRecDepth 100000 in
theorem FnExactRumorPick_walk (a0 : Option Addr) (cap0 : Nat) (l : List RumV) (a1 : Int) (w : World) (w0 : RumorArg w a0 cap0 l) (w1 : (Lit.int .i64 a1).wf = true) :
    Calls Try.prog 6 #[.slice a0 l.length cap0, .int .i64 a1] w fun e w' => e = .returned (.bool true) ∧ Below w.heap.size w w' := by
  have hrow0 := w0.1
  have hrow := w0.1
  have hlm : l.length ≤ 9223372036854775807 := Nat.le_trans w0.2.1 (by unfold maxLen; omega)
  obtain ⟨c, m, fs, hP⟩ := pickR_ex l a1
  have hml : m.length ≤ 6 := (pickR_len hP).1
  have hfl : fs.length ≤ 6 := (pickR_len hP).2
  have HP : Hid (PickRIs l a1 c m fs) := hP
  have B := Below.refl w.heap.size w
  clear hP w0 w1
  go_enter Try.func6, Try.ntmps6
  go_wp2_with fail
  refine (szRums_any a0 cap0 l.length 1048576 _ (by omega) (by omega) hlm).mono ?_
  rintro e xz ⟨rfl, rfl⟩
  by_cases hsl : (1048576 : Int) < ((l.length : Nat) : Int)
  · have e1 : leftOf 1048576 l.length = -1 := if_pos hsl
    rw [e1]
    clear e1
    go_wp2
    go_ret
    exact ⟨rfl, B⟩
  obtain ⟨ql, hql⟩ : ∃ q : Int, leftOf 1048576 l.length = q := ⟨_, rfl⟩
  have hq0l : ¬ ql < 0 := by rw [← hql]; unfold leftOf; rw [if_neg hsl]; omega
  rw [hql]
  have hll : l.length ≤ 1048576 := by omega
  clear hql hsl hlm
  go_wp2_with fail
  refine (toRums_any a0 cap0 l _ hll hrow).mono ?_
  rintro e xa ⟨rfl, oa, ba⟩
  replace hrow := hrow.keep ba
  replace B := B.trans (ba.mono B.size)
  clear ba
  have na := oa.row
  clear oa
  go_wp2_with fail
  refine (specRPick_any _ _ l a1 c m fs _ HP.out hll na).mono ?_
  rintro e xs ⟨v0, u0, rfl, own0, own0f, b2⟩
  clear na
  replace hrow := hrow.keep b2
  replace B := B.trans (b2.mono B.size)
  clear b2
  have hwxs : w.heap.size ≤ xs.heap.size := B.size
  have HV00 : Hid (∀ g, v0.ownBlock = some g → g < xs.heap.size) := fun g e => (own0.lt g e).2
  have HU00 : Hid (∀ g, u0.ownBlock = some g → g < xs.heap.size) := fun g e => (own0f.lt g e).2
  have s0 := own_slR own0
  have t0 := own_sl own0f
  have hap0 := rows_apart own0 own0f (by decide)
  obtain ⟨p0, c0, rfl, o0, z0⟩ := s0
  obtain ⟨q0, d0, rfl, o0f, z0f⟩ := t0
  have HAP0 : Hid (∀ g, Value.ownBlock (.slice q0 fs.length d0) = some g → Value.ownBlock (.slice p0 m.length c0) ≠ some g) := hap0
  have S0 : OwnSlR _ _ (.slice p0 m.length c0) m := ⟨p0, c0, rfl, o0, z0⟩
  have T0 : OwnSl _ _ (.slice q0 fs.length d0) fs := ⟨q0, d0, rfl, o0f, z0f⟩
  unfold outR
  have a0 := (Below.refl xs.heap.size xs).alloc (Nat.le_refl _) (.cells #[.slice p0 m.length c0, .slice q0 fs.length d0, .int .i64 c] 30)
  have O0 := BlkIs.new xs 30 #[.slice p0 m.length c0, .slice q0 fs.length d0, .int .i64 c]
  replace S0 := S0.keep a0
  replace T0 := T0.keep a0
  replace hrow := hrow.keep a0
  replace B := B.trans (a0.mono B.size)
  have hxy0 : xs.heap.size < (xs.alloc (.cells #[.slice p0 m.length c0, .slice q0 fs.length d0, .int .i64 c] 30)).heap.size := by simp
  obtain ⟨y0, hy0⟩ : ∃ y, xs.alloc (.cells #[.slice p0 m.length c0, .slice q0 fs.length d0, .int .i64 c] 30) = y := ⟨_, rfl⟩
  rw [hy0] at S0 T0 O0 B hxy0 hrow
  have HY0 : Hid (_ = y0) := hy0
  clear hy0 a0 o0 z0 o0f z0f own0 own0f hap0
  have HV0 : Hid (∀ g, Value.ownBlock (.slice p0 m.length c0) = some g → g < y0.heap.size) := fun g e => by have := HV00.out g e; omega
  have HU0 : Hid (∀ g, Value.ownBlock (.slice q0 fs.length d0) = some g → g < y0.heap.size) := fun g e => by have := HU00.out g e; omega
  have HS2 : Hid (w.heap.size ≤ xs.heap.size ∧ xs.heap.size < y0.heap.size) := ⟨hwxs, hxy0⟩
  clear hwxs HV00 HU00 hxy0 HAP0
  go_wp2_with fail
  rw [HY0.out]
  clear HY0
  refine (toRums_any a0 cap0 l _ hll hrow).mono ?_
  rintro e x3 ⟨rfl, ox3, b3⟩
  have hzb3 := b3.size
  replace hrow := hrow.keep b3
  replace O0 := O0.keep b3
  replace S0 := S0.keep b3
  replace T0 := T0.keep b3
  replace B := B.trans (b3.mono B.size)
  clear b3
  have hx3 : y0.heap.size < x3.heap.size ∨ l.length = 0 := own_ltR ox3
  have X3 : OwnSlR x3 y0.heap.size (.slice (some ⟨y0.heap.size, 0, none⟩) l.length l.length) l := ⟨_, _, rfl, ox3, .inr ⟨_, rfl⟩⟩
  have nx3 := ox3.row
  clear ox3
  go_wp2_with fail
  refine (implRPick_any _ _ l a1 c m fs _ HP.out hll nx3).mono ?_
  rintro e x4 ⟨v1, u1, rfl, own1, own1f, b4⟩
  have hs34 := b4.size
  replace hrow := hrow.keep b4
  replace O0 := O0.keep b4
  replace S0 := S0.keep b4
  replace T0 := T0.keep b4
  replace X3 := X3.keep b4
  replace nx3 := nx3.keep b4
  replace B := B.trans (b4.mono B.size)
  clear b4
  have HV10 : Hid (∀ g, v1.ownBlock = some g → x3.heap.size ≤ g ∧ g < x4.heap.size) := fun g e => own1.lt g e
  have HU10 : Hid (∀ g, u1.ownBlock = some g → x3.heap.size ≤ g ∧ g < x4.heap.size) := fun g e => own1f.lt g e
  have s1 := own_slR own1
  have t1 := own_sl own1f
  have hap1 := rows_apart own1 own1f (by decide)
  obtain ⟨p1, c1, rfl, o1, z1⟩ := s1
  obtain ⟨q1, d1, rfl, o1f, z1f⟩ := t1
  have HAP1 : Hid (∀ g, Value.ownBlock (.slice q1 fs.length d1) = some g → Value.ownBlock (.slice p1 m.length c1) ≠ some g) := hap1
  have S1 : OwnSlR _ _ (.slice p1 m.length c1) m := ⟨p1, c1, rfl, o1, z1⟩
  have T1 : OwnSl _ _ (.slice q1 fs.length d1) fs := ⟨q1, d1, rfl, o1f, z1f⟩
  unfold outR
  have a1 := (Below.refl x4.heap.size x4).alloc (Nat.le_refl _) (.cells #[.slice p1 m.length c1, .slice q1 fs.length d1, .int .i64 c] 30)
  have O1 := BlkIs.new x4 30 #[.slice p1 m.length c1, .slice q1 fs.length d1, .int .i64 c]
  replace S1 := S1.keep a1
  replace T1 := T1.keep a1
  replace hrow := hrow.keep a1
  replace O0 := O0.keep a1
  replace S0 := S0.keep a1
  replace T0 := T0.keep a1
  replace X3 := X3.keep a1
  replace nx3 := nx3.keep a1
  replace B := B.trans (a1.mono B.size)
  have hxy1 : x4.heap.size < (x4.alloc (.cells #[.slice p1 m.length c1, .slice q1 fs.length d1, .int .i64 c] 30)).heap.size := by simp
  obtain ⟨y1, hy1⟩ : ∃ y, x4.alloc (.cells #[.slice p1 m.length c1, .slice q1 fs.length d1, .int .i64 c] 30) = y := ⟨_, rfl⟩
  rw [hy1] at S1 T1 O1 B hxy1 hrow O0 S0 T0 X3 nx3
  have HY1 : Hid (_ = y1) := hy1
  clear hy1 a1 o1 z1 o1f z1f own1 own1f hap1
  have HV1 : Hid (∀ g, Value.ownBlock (.slice p1 m.length c1) = some g → x3.heap.size ≤ g ∧ g < x4.heap.size) := HV10.out
  have HU1 : Hid (∀ g, Value.ownBlock (.slice q1 fs.length d1) = some g → x3.heap.size ≤ g ∧ g < x4.heap.size) := HU10.out
  clear HV10 HU10
  have g60 : _ = some (Value.slice p0 m.length c0) := O0.cell 0
  have g61 : _ = some (Value.slice q0 fs.length d0) := O0.cell 1
  have g62 : _ = some (Value.int .i64 c) := O0.cell 2
  have g80 : _ = some (Value.slice p1 m.length c1) := O1.cell 0
  have g81 : _ = some (Value.slice q1 fs.length d1) := O1.cell 1
  have g82 : _ = some (Value.int .i64 c) := O1.cell 2
  go_upto_region 8 with fail
  rw [HY1.out]
  clear HY1
  go_wp2_with fail
  refine (eqROut_same (.slice p1 m.length c1) (.slice q1 fs.length d1) (.slice p0 m.length c0) (.slice q0 fs.length d0) _ _ _ _ c m fs _ (by omega) (by omega) S1 T1 S0 T0).mono ?_
  rintro e x5 ⟨rfl, b5⟩
  clear g60 g61 g62 g80 g81 g82
  replace hrow := hrow.keep b5
  replace O0 := O0.keep b5
  replace S0 := S0.keep b5
  replace T0 := T0.keep b5
  replace X3 := X3.keep b5
  replace nx3 := nx3.keep b5
  replace O1 := O1.keep b5
  replace S1 := S1.keep b5
  replace T1 := T1.keep b5
  replace B := B.trans (b5.mono B.size)
  clear b5
  go_wp2_with fail
  refine (toRums_any a0 cap0 l _ hll hrow).mono ?_
  rintro e xe0 ⟨rfl, oe0, be0⟩
  replace hrow := hrow.keep be0
  replace O0 := O0.keep be0
  replace S0 := S0.keep be0
  replace T0 := T0.keep be0
  replace X3 := X3.keep be0
  replace nx3 := nx3.keep be0
  replace O1 := O1.keep be0
  replace S1 := S1.keep be0
  replace T1 := T1.keep be0
  replace B := B.trans (be0.mono B.size)
  clear be0
  have ne0 := oe0.row
  clear oe0
  go_wp2_with fail
  refine (eqRums_same _ _ _ _ l _ hll nx3 ne0).mono ?_
  rintro e xf0 ⟨rfl, bf0⟩
  clear ne0
  replace hrow := hrow.keep bf0
  replace O0 := O0.keep bf0
  replace S0 := S0.keep bf0
  replace T0 := T0.keep bf0
  replace X3 := X3.keep bf0
  replace nx3 := nx3.keep bf0
  replace O1 := O1.keep bf0
  replace S1 := S1.keep bf0
  replace T1 := T1.keep bf0
  replace B := B.trans (bf0.mono B.size)
  clear bf0
  clear nx3
  go_wp2_with fail
  refine (markR_i y0.heap.size (.slice (some ⟨y0.heap.size, 0, none⟩) l.length l.length) l 1 _ hll (by omega) (by omega) X3).mono ?_
  rintro e xm0 ⟨rfl, _, km0⟩
  have HKX : Hid (∀ g, g ≠ y0.heap.size ∨ l.length = 0 → blkOf (.slice (some ⟨y0.heap.size, 0, none⟩) l.length l.length) l.length g) := blk_new _ _ _
  clear X3
  have kb0 : Below w.heap.size _ xm0 := km0.toBelow B.size (fun q hq => HKX.out q (by have := HS2.out; omega))
  replace B := B.trans kb0
  replace hrow := hrow0.keep B
  replace O0 := O0.keepK km0 (HKX.out _ (by have := HS2.out; omega))
  replace S0 := S0.keepB km0 (fun g e => HKX.out g (by have := HV0.out g e; have := HS2.out; omega))
  replace T0 := T0.keepB km0 (fun g e => HKX.out g (by have := HU0.out g e; have := HS2.out; omega))
  replace O1 := O1.keepK km0 (HKX.out _ (by have := HS2.out; omega))
  replace S1 := S1.keepB km0 (fun g e => HKX.out g (by have := HV1.out g e; have := HS2.out; omega))
  replace T1 := T1.keepB km0 (fun g e => HKX.out g (by have := HU1.out g e; have := HS2.out; omega))
  clear km0 HKX
  have hm8 : ¬ ((1 + 4 * l.length : Nat) : Int) < 0 := by omega
  have g60 : _ = some (Value.slice p0 m.length c0) := O0.cell 0
  have g61 : _ = some (Value.slice q0 fs.length d0) := O0.cell 1
  have g62 : _ = some (Value.int .i64 c) := O0.cell 2
  have g80 : _ = some (Value.slice p1 m.length c1) := O1.cell 0
  have g81 : _ = some (Value.slice q1 fs.length d1) := O1.cell 1
  have g82 : _ = some (Value.int .i64 c) := O1.cell 2
  go_wp2_with fail
  refine (eqROut_same (.slice p1 m.length c1) (.slice q1 fs.length d1) (.slice p0 m.length c0) (.slice q0 fs.length d0) _ _ _ _ c m fs _ (by omega) (by omega) S1 T1 S0 T0).mono ?_
  rintro e x9 ⟨rfl, b9⟩
  clear g60 g61 g62 g80 g81 g82 hm8
  replace hrow := hrow.keep b9
  replace O0 := O0.keep b9
  replace S0 := S0.keep b9
  replace T0 := T0.keep b9
  replace O1 := O1.keep b9
  replace S1 := S1.keep b9
  replace T1 := T1.keep b9
  replace B := B.trans (b9.mono B.size)
  clear b9
  have g80 : _ = some (Value.slice p1 m.length c1) := O1.cell 0
  have g81 : _ = some (Value.slice q1 fs.length d1) := O1.cell 1
  have g82 : _ = some (Value.int .i64 c) := O1.cell 2
  go_wp2_with fail
  refine (markROut_i x3.heap.size x3.heap.size (.slice p1 m.length c1) (.slice q1 fs.length d1) c m fs _ (by omega) (by omega) S1 T1 HAP1.out).mono ?_
  rintro e x10 ⟨rfl, S1m, T1m, k10⟩
  have HKG : Hid (∀ g, g < x3.heap.size ∨ x4.heap.size ≤ g → blk2 (.slice p1 m.length c1) m.length (.slice q1 fs.length d1) fs.length g) := fun g hg => ⟨.inr (fun e => by have := HV1.out g e; omega), .inr (fun e => by have := HU1.out g e; omega)⟩
  clear S1 T1 g80 g81 g82
  have kb10 : Below w.heap.size _ x10 := k10.toBelow B.size (fun q hq => HKG.out q (by have := HS2.out; omega))
  replace B := B.trans kb10
  replace hrow := hrow0.keep B
  replace O0 := O0.keepK k10 (HKG.out _ (by have := HS2.out; omega))
  replace S0 := S0.keepG k10 (fun g e => HKG.out g (by have := HV0.out g e; have := HS2.out; omega))
  replace T0 := T0.keepG k10 (fun g e => HKG.out g (by have := HU0.out g e; have := HS2.out; omega))
  replace O1 := O1.keepK k10 (HKG.out _ (by have := HS2.out; omega))
  have S1 := S1m
  have T1 := T1m
  clear S1m T1m k10 HKG
  have g80 : _ = some (Value.slice p1 m.length c1) := O1.cell 0
  have g81 : _ = some (Value.slice q1 fs.length d1) := O1.cell 1
  have g82 : _ = some (Value.int .i64 c) := O1.cell 2
  go_wp2_with fail
  refine (heldROut_i x3.heap.size x3.heap.size (.slice p1 m.length c1) (.slice q1 fs.length d1) c m.length fs.length _ (by omega) (by omega) S1 T1).mono ?_
  rintro e x11 ⟨rfl, b11⟩
  have hm11 : ¬ ((1 + 4 * m.length + 3 * fs.length : Nat) : Int) < 0 := by omega
  clear g80 g81 g82
  replace hrow := hrow.keep b11
  replace O0 := O0.keep b11
  replace S0 := S0.keep b11
  replace T0 := T0.keep b11
  replace O1 := O1.keep b11
  replace S1 := S1.keep b11
  replace T1 := T1.keep b11
  replace B := B.trans (b11.mono B.size)
  clear b11
  go_wp2_with fail
  refine (toRums_any a0 cap0 l _ hll hrow).mono ?_
  rintro e xc ⟨rfl, oc, bc⟩
  replace hrow := hrow.keep bc
  replace O0 := O0.keep bc
  replace S0 := S0.keep bc
  replace T0 := T0.keep bc
  replace O1 := O1.keep bc
  replace S1 := S1.keep bc
  replace T1 := T1.keep bc
  replace B := B.trans (bc.mono B.size)
  clear bc
  have nc := oc.row
  clear oc
  go_wp2_with fail
  refine (implRPick_any _ _ l a1 c m fs _ HP.out hll nc).mono ?_
  rintro e x13 ⟨v3, u3, rfl, own3, own3f, b13⟩
  clear nc
  replace hrow := hrow.keep b13
  replace O0 := O0.keep b13
  replace S0 := S0.keep b13
  replace T0 := T0.keep b13
  replace O1 := O1.keep b13
  replace S1 := S1.keep b13
  replace T1 := T1.keep b13
  replace B := B.trans (b13.mono B.size)
  clear b13
  have s3 := own_slR own3
  have t3 := own_sl own3f
  have hap3 := rows_apart own3 own3f (by decide)
  obtain ⟨p3, c3, rfl, o3, z3⟩ := s3
  obtain ⟨q3, d3, rfl, o3f, z3f⟩ := t3
  have HAP3 : Hid (∀ g, Value.ownBlock (.slice q3 fs.length d3) = some g → Value.ownBlock (.slice p3 m.length c3) ≠ some g) := hap3
  have S3 : OwnSlR _ _ (.slice p3 m.length c3) m := ⟨p3, c3, rfl, o3, z3⟩
  have T3 : OwnSl _ _ (.slice q3 fs.length d3) fs := ⟨q3, d3, rfl, o3f, z3f⟩
  unfold outR
  have a3 := (Below.refl x13.heap.size x13).alloc (Nat.le_refl _) (.cells #[.slice p3 m.length c3, .slice q3 fs.length d3, .int .i64 c] 30)
  have O3 := BlkIs.new x13 30 #[.slice p3 m.length c3, .slice q3 fs.length d3, .int .i64 c]
  replace S3 := S3.keep a3
  replace T3 := T3.keep a3
  replace hrow := hrow.keep a3
  replace O0 := O0.keep a3
  replace S0 := S0.keep a3
  replace T0 := T0.keep a3
  replace O1 := O1.keep a3
  replace S1 := S1.keep a3
  replace T1 := T1.keep a3
  replace B := B.trans (a3.mono B.size)
  have hxy3 : x13.heap.size < (x13.alloc (.cells #[.slice p3 m.length c3, .slice q3 fs.length d3, .int .i64 c] 30)).heap.size := by simp
  obtain ⟨y3, hy3⟩ : ∃ y, x13.alloc (.cells #[.slice p3 m.length c3, .slice q3 fs.length d3, .int .i64 c] 30) = y := ⟨_, rfl⟩
  rw [hy3] at S3 T3 O3 B hxy3 hrow O0 S0 T0 O1 S1 T1
  have HY3 : Hid (_ = y3) := hy3
  clear hy3 a3 o3 z3 o3f z3f own3 own3f hap3
  clear HAP3
  have g60 : _ = some (Value.slice p0 m.length c0) := O0.cell 0
  have g61 : _ = some (Value.slice q0 fs.length d0) := O0.cell 1
  have g62 : _ = some (Value.int .i64 c) := O0.cell 2
  have g90 : _ = some (Value.slice p3 m.length c3) := O3.cell 0
  have g91 : _ = some (Value.slice q3 fs.length d3) := O3.cell 1
  have g92 : _ = some (Value.int .i64 c) := O3.cell 2
  go_upto_region 25 with fail
  rw [HY3.out]
  clear HY3
  go_wp2_with fail
  refine (eqROut_same (.slice p3 m.length c3) (.slice q3 fs.length d3) (.slice p0 m.length c0) (.slice q0 fs.length d0) _ _ _ _ c m fs _ (by omega) (by omega) S3 T3 S0 T0).mono ?_
  rintro e x15 ⟨rfl, b15⟩
  clear g60 g61 g62 g90 g91 g92 O3 S3 T3
  replace hrow := hrow.keep b15
  replace O0 := O0.keep b15
  replace S0 := S0.keep b15
  replace T0 := T0.keep b15
  replace O1 := O1.keep b15
  replace S1 := S1.keep b15
  replace T1 := T1.keep b15
  replace B := B.trans (b15.mono B.size)
  clear b15
  have g80 : _ = some (Value.slice p1 m.length c1) := O1.cell 0
  have g81 : _ = some (Value.slice q1 fs.length d1) := O1.cell 1
  have g82 : _ = some (Value.int .i64 c) := O1.cell 2
  go_wp2_with fail
  refine (heldROut_i x3.heap.size x3.heap.size (.slice p1 m.length c1) (.slice q1 fs.length d1) c m.length fs.length _ (by omega) (by omega) S1 T1).mono ?_
  rintro e x16 ⟨rfl, b16⟩
  replace B := B.trans (b16.mono B.size)
  go_wp2
  go_ret
  exact ⟨rfl, B⟩

set_option maxRecDepth 100000 in
theorem FnExactRumorPick_lifted (os : Os) (started : os.Started) (H : Type) (enc : TypeId × Value → H) :
    ReturnsInHanded {} Try.checked os 6 .any (Rows.fnExactRumorPickSpec.pre6 enc Try.prog Try.f6 Rows.fnExactRumorPickRow.domain false) (Rows.fnExactRumorPickSpec.post enc Try.prog Try.f6 false true false false) := by
  refine returnsInHanded_of_change (C := Try.checked) (by kernel_rfl) started (by kernel_rfl) Try.func6
    (ChangeSpec.witness6 (enc := enc) (C := Try.checked) false ⟨#[], #[.slice none 0 0, .int .i64 0], []⟩ 8 (by kernel_rfl) (by kernel_rfl) (by kernel_rfl) (by kernel_rfl)) ?_
  intro W base args ds gs before hval0 hW hcnd _
  have hval : ∀ (j : Nat) t v, Try.f6.params[j]? = some t → args[j]? = some v → Value.okWide Try.prog W .any base t v := hval0
  have hW' := hW
  obtain ⟨p, q, hA0, hV, rfl, hfz, hnd⟩ := hW
  have hA : DataW.TrodAll enc Try.prog W 0 (fun _ => true) true Try.f6.params.toList args.toList ds p := hA0
  rw [Try.params6] at hA hval
  obtain ⟨v0, vs0, d0, ds0, p0, q0, hargs, rfl, rfl, h0, r0⟩ := trodAll_cons hA
  obtain ⟨v1, vs1, d1, ds1, p1, q1, rfl, rfl, rfl, h1, r1⟩ := trodAll_cons r0
  obtain ⟨rfl, rfl, rfl⟩ := trodAll_nil r1
  obtain rfl : args = #[v0, v1] := by cases args; simp_all
  obtain ⟨rfl, rfl⟩ := trodVars_none hV
  obtain ⟨a0, len0, cap0, rfl⟩ := okWide_slice Try.underlying41 (hval 0 41 v0 rfl rfl)
  have k0 := h0
  have lt0 : ∀ x ∈ p0, x.block < W.heap.size := by obtain ⟨m, hm⟩ := k0; exact DataW.trod_lt m _ _ _ hm
  obtain ⟨l0, el0, w0⟩ : ∃ l, len0 = l.length ∧ RumorArg W a0 cap0 l := by
    obtain ⟨fuel, hf⟩ := h0
    exact rumorArg_open (by simpa [Value.cells] using hf)
  subst el0
  obtain ⟨a1, rfl, rfl, rfl, w1⟩ := open_int Try.underlying2 (hval 1 2 v1 rfl rfl) h1
  clear hA0 hval0
  refine (FnExactRumorPick_walk a0 cap0 l0 a1 W w0 w1).mono fun e W' ⟨he, bel⟩ => ?_
  subst he
  exact ⟨_, rfl, _, _, _, [], _, [], hW', trodAll_mk1 (shut_bool Try.underlying4 _), (trodAll_cons_mk (Below.trod (show laidOutB Try.prog = true by kernel_rfl) (by kernel_rfl) (of_decide_eq_true (by kernel_rfl)) k0 bel lt0) (trodAll_cons_mk (shut_int Try.underlying2 w1) trodAll_mk0)), rfl, bel.frame _, fun h => by cases h⟩
/-- The statement. -/
theorem FnExactRumorPick_holds : Rows.FnExactRumorPickSaid :=
  OpenClaim.holds_of_wide 6 Try.f6 rfl rfl rfl rfl rfl rfl rfl ⟨rfl, rfl, rfl, rfl, rfl⟩ rfl rfl rfl rfl rfl (by kernel_rfl) Try.func6 (by kernel_rfl)
    (of_decide_eq_true (by kernel_rfl)) (by unfold Func.isWrapper; first | (rw [if_pos (by decide +kernel)]; kernel_rfl) | (rw [if_neg (by decide +kernel)]; exact ⟨rfl, rfl⟩))
    (fun os started H enc _ => FnExactRumorPick_lifted os started H enc)
#print axioms FnExactRumorPick_holds

end Go.Proofs.Ytenefjnahanfbaa
