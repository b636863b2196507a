/- Proved: laws.FnExactViewJoin answers true at every two lists of facts: ViewJoin of the program and of the specification are one function; it writes into no argument, and its answer owns its memory. No condition. -/
import Derived.Test.YtdgcmjhnglacnaaRows
import Derived.WalkKit
import Derived.ProofKit
import Derived.OpenShut
import Derived.ShutString
import Derived.ChangeOld
import Derived.Below
import Derived.Test.YtdgcmjhnglacnaaFactArgs
import Derived.Test.YtdgcmjhnglacnaaVEq
import Derived.Test.YtdgcmjhnglacnaaVSpec
import Derived.Test.YtdgcmjhnglacnaaVPutI
namespace Go.Proofs.Ytdgcmjhnglacnaa
open Go Go.ChangeShapes Go.WideShapes Go.ChangeAt Go.RowKit
open Go.ChangeMaps (open_string shut_string)
set_option linter.unusedVariables false

theorem CellRow.keepK {w w' : World} {a : Option Addr} {cs : List Value} (h : CellRow w a cs) {G : Nat → Prop} (k : Keeps G w w') (hg : ∀ b o, a = some ⟨b, o, none⟩ → G b) : CellRow w' a cs := by
  rcases h with h | ⟨b, off, rfl, hlt, hc⟩
  · exact .inl h
  · exact .inr ⟨b, off, rfl, Nat.lt_of_lt_of_le hlt k.size, fun i hi => (k.cell (p := ⟨b, off + i, none⟩) hlt (hg b off rfl)).trans (hc i hi)⟩
theorem markF_k (lo : Nat) (v : Value) (l : List FactV) (k : Nat) (w : World) (hl : l.length ≤ 1048576) (hk0 : 0 < k) (hk : k ≤ 100000000) (ho : OwnSl w lo v l) :
    Calls Try.prog 40 #[v, .int .i64 (k : Nat)] w fun e w' => e = .returned (.int .i64 (k + 3 * l.length : Nat)) ∧ OwnSl w' lo v (markL l.length k) ∧ Keeps (blkOf v l.length) w w' := markF_any lo v l k w hl hk0 hk ho
set_option maxHeartbeats 8000000 in
set_option maxRecDepth 100000 in
theorem FnExactViewJoin_walk (a0 : Option Addr) (cap0 : Nat) (l : List FactV) (a1 : Option Addr) (cap1 : Nat) (b : List FactV) (w : World) (w0 : FactArg w a0 cap0 l) (w1 : FactArg w a1 cap1 b) :
    Calls Try.prog 10 #[.slice a0 l.length cap0, .slice a1 b.length cap1] w fun e w' => e = .returned (.bool true) ∧ Below w.heap.size w w' := by
  have hrow := w0.1
  have hrowb := w1.1
  have hrow00 := w0.1
  have hrowb00 := w1.1
  have hlm : l.length ≤ 9223372036854775807 := Nat.le_trans w0.2.1 (by unfold maxLen; omega)
  have hbm : b.length ≤ 9223372036854775807 := Nat.le_trans w1.2.1 (by unfold maxLen; omega)
  obtain ⟨c, m, r, hP⟩ := joinV_ex l b
  have hml : m.length ≤ 1048576 := Nat.le_trans (joinV_len hP) (by omega)
  have HP : Hid (JoinVIs l b c m r) := hP
  have B := Below.refl w.heap.size w
  clear hP w0 w1
  go_enter Try.func10, Try.ntmps10
  go_wp2_with fail
  refine (szFacts_any a0 cap0 l.length 1048576 _ (by omega) (by omega) hlm).mono ?_
  rintro e xz ⟨rfl, rfl⟩
  by_cases hsl : (1048576 : Int) < ((l.length : Nat) : Int)
  · have e1 : leftOf 1048576 l.length = -1 := if_pos hsl
    rw [e1]
    clear e1
    go_wp2
    go_ret
    exact ⟨rfl, B⟩
  obtain ⟨ql, hql⟩ : ∃ q : Int, leftOf 1048576 l.length = q := ⟨_, rfl⟩
  have hq0l : ¬ ql < 0 := by rw [← hql]; unfold leftOf; rw [if_neg hsl]; omega
  have hq1l : ql ≤ 1048576 := by rw [← hql]; unfold leftOf; rw [if_neg hsl]; omega
  have hq2l : 0 ≤ ql := by omega
  rw [hql]
  have hll : l.length ≤ 1048576 := by omega
  clear hql hsl hlm
  go_wp2_with fail
  refine (szFacts_any a1 cap1 b.length ql _ hq2l (by omega) hbm).mono ?_
  rintro e xz ⟨rfl, rfl⟩
  by_cases hsb : ql < ((b.length : Nat) : Int)
  · have e1 : leftOf ql b.length = -1 := if_pos hsb
    rw [e1]
    clear e1
    go_wp2
    go_ret
    exact ⟨rfl, B⟩
  obtain ⟨qb, hqb⟩ : ∃ q : Int, leftOf ql b.length = q := ⟨_, rfl⟩
  have hq0b : ¬ qb < 0 := by rw [← hqb]; unfold leftOf; rw [if_neg hsb]; omega
  have hq1b : qb ≤ ql := by rw [← hqb]; unfold leftOf; rw [if_neg hsb]; omega
  have hq2b : 0 ≤ qb := by omega
  rw [hqb]
  have hlb : b.length ≤ 1048576 := by omega
  clear hqb hsb hbm
  go_wp2_with fail
  refine (toFacts_any a0 cap0 l _ hll hrow).mono ?_
  rintro e xa ⟨rfl, oa, ba⟩
  replace hrow := hrow.keep ba
  replace hrowb := hrowb.keep ba
  replace B := B.trans (ba.mono B.size)
  clear ba
  have na := oa.row
  clear oa
  go_wp2_with fail
  refine (toFacts_any a1 cap1 b _ hlb hrowb).mono ?_
  rintro e xb ⟨rfl, ob, bb⟩
  replace hrow := hrow.keep bb
  replace hrowb := hrowb.keep bb
  replace na := na.keep bb
  replace B := B.trans (bb.mono B.size)
  clear bb
  have nb := ob.row
  clear ob
  go_wp2_with fail
  refine (specJoin2_any _ _ _ _ _ _ l b c m r _ HP.out hll hlb na nb).mono ?_
  rintro e xs ⟨v0, rfl, own0, b2⟩
  clear na nb
  replace hrow := hrow.keep b2
  replace hrowb := hrowb.keep b2
  replace B := B.trans (b2.mono B.size)
  clear b2
  have hwxs : w.heap.size ≤ xs.heap.size := B.size
  have HV00 : Hid (∀ g, v0.ownBlock = some g → g < xs.heap.size) := fun g e => (own0.lt g e).2
  have s0 := own_sl own0
  have hv00 := own0.lt
  obtain ⟨p0, c0, rfl, o0, z0⟩ := s0
  have S0 : OwnSl _ _ (.slice p0 m.length c0) m := ⟨p0, c0, rfl, o0, z0⟩
  unfold outV
  have a0 := (Below.refl xs.heap.size xs).alloc (Nat.le_refl _) (.cells #[.slice p0 m.length c0, .bool r, .int .i64 c] 33)
  have O0 := BlkIs.new xs 33 #[.slice p0 m.length c0, .bool r, .int .i64 c]
  replace S0 := S0.keep a0
  replace hrow := hrow.keep a0
  replace hrowb := hrowb.keep a0
  replace B := B.trans (a0.mono B.size)
  have hxy0 : xs.heap.size < (xs.alloc (.cells #[.slice p0 m.length c0, .bool r, .int .i64 c] 33)).heap.size := by simp
  obtain ⟨y0, hy0⟩ : ∃ y, xs.alloc (.cells #[.slice p0 m.length c0, .bool r, .int .i64 c] 33) = y := ⟨_, rfl⟩
  rw [hy0] at S0 O0 B hxy0 hrow hrowb
  have HY0 : Hid (_ = y0) := hy0
  clear hy0 a0 o0 z0 own0
  have HV0 : Hid (∀ g, Value.ownBlock (.slice p0 m.length c0) = some g → g < y0.heap.size) := fun g e => by have := HV00.out g e; omega
  have HS2 : Hid (w.heap.size ≤ xs.heap.size ∧ xs.heap.size < y0.heap.size) := ⟨hwxs, hxy0⟩
  clear hwxs HV00 hv00 hxy0
  go_wp2_with fail
  rw [HY0.out]
  clear HY0
  refine (toFacts_any a0 cap0 l _ hll hrow).mono ?_
  rintro e x3 ⟨rfl, ox3, b3⟩
  have hzb3 := b3.size
  replace hrow := hrow.keep b3
  replace hrowb := hrowb.keep b3
  replace O0 := O0.keep b3
  replace S0 := S0.keep b3
  replace B := B.trans (b3.mono B.size)
  clear b3
  have hx3 : y0.heap.size < x3.heap.size ∨ l.length = 0 := own_lt ox3
  have X3 : OwnSl x3 y0.heap.size (.slice (some ⟨y0.heap.size, 0, none⟩) l.length l.length) l := ⟨_, _, rfl, ox3, .inr ⟨_, rfl⟩⟩
  have nx3 := ox3.row
  clear ox3
  go_wp2_with fail
  refine (toFacts_any a1 cap1 b _ hlb hrowb).mono ?_
  rintro e x35 ⟨rfl, oy3, b35⟩
  have hzb35 := b35.size
  replace hrow := hrow.keep b35
  replace hrowb := hrowb.keep b35
  replace O0 := O0.keep b35
  replace S0 := S0.keep b35
  replace X3 := X3.keep b35
  replace nx3 := nx3.keep b35
  replace B := B.trans (b35.mono B.size)
  clear b35
  have hy3 : x3.heap.size < x35.heap.size ∨ b.length = 0 := own_lt oy3
  have Y3 : OwnSl x35 x3.heap.size (.slice (some ⟨x3.heap.size, 0, none⟩) b.length b.length) b := ⟨_, _, rfl, oy3, .inr ⟨_, rfl⟩⟩
  have ny3 := oy3.row
  clear oy3
  go_wp2_with fail
  refine (implJoin_any _ _ _ _ l b c m r _ HP.out hll hlb nx3 ny3).mono ?_
  rintro e x4 ⟨v1, rfl, own1, b4⟩
  have hs34 := b4.size
  replace hrow := hrow.keep b4
  replace hrowb := hrowb.keep b4
  replace O0 := O0.keep b4
  replace S0 := S0.keep b4
  replace X3 := X3.keep b4
  replace nx3 := nx3.keep b4
  replace Y3 := Y3.keep b4
  replace ny3 := ny3.keep b4
  replace B := B.trans (b4.mono B.size)
  clear b4
  have HV10 : Hid (∀ g, v1.ownBlock = some g → x35.heap.size ≤ g ∧ g < x4.heap.size) := fun g e => own1.lt g e
  have s1 := own_sl own1
  have hv10 := own1.lt
  obtain ⟨p1, c1, rfl, o1, z1⟩ := s1
  have S1 : OwnSl _ _ (.slice p1 m.length c1) m := ⟨p1, c1, rfl, o1, z1⟩
  unfold outV
  have a1 := (Below.refl x4.heap.size x4).alloc (Nat.le_refl _) (.cells #[.slice p1 m.length c1, .bool r, .int .i64 c] 33)
  have O1 := BlkIs.new x4 33 #[.slice p1 m.length c1, .bool r, .int .i64 c]
  replace S1 := S1.keep a1
  replace hrow := hrow.keep a1
  replace hrowb := hrowb.keep a1
  replace O0 := O0.keep a1
  replace S0 := S0.keep a1
  replace X3 := X3.keep a1
  replace nx3 := nx3.keep a1
  replace Y3 := Y3.keep a1
  replace ny3 := ny3.keep a1
  replace B := B.trans (a1.mono B.size)
  have hxy1 : x4.heap.size < (x4.alloc (.cells #[.slice p1 m.length c1, .bool r, .int .i64 c] 33)).heap.size := by simp
  obtain ⟨y1, hy1⟩ : ∃ y, x4.alloc (.cells #[.slice p1 m.length c1, .bool r, .int .i64 c] 33) = y := ⟨_, rfl⟩
  rw [hy1] at S1 O1 B hxy1 hrow hrowb O0 S0 X3 nx3 Y3 ny3
  have HY1 : Hid (_ = y1) := hy1
  clear hy1 a1 o1 z1 own1
  have HV1 : Hid (∀ g, Value.ownBlock (.slice p1 m.length c1) = some g → x35.heap.size ≤ g ∧ g < x4.heap.size) := HV10.out
  clear HV10 hv10
  have g60 := O0.cell 0
  have g61 := O0.cell 1
  have g62 := O0.cell 2
  have g80 := O1.cell 0
  have g81 := O1.cell 1
  have g82 := O1.cell 2
  go_upto_region 12 with fail
  rw [HY1.out]
  clear HY1
  go_wp2_with fail
  refine (eqOut_same (.slice p1 m.length c1) (.slice p0 m.length c0) _ _ r c m _ hml S1 S0).mono ?_
  rintro e x5 ⟨rfl, b5⟩
  clear g60 g61 g62 g80 g81 g82
  replace hrow := hrow.keep b5
  replace hrowb := hrowb.keep b5
  replace O0 := O0.keep b5
  replace S0 := S0.keep b5
  replace X3 := X3.keep b5
  replace nx3 := nx3.keep b5
  replace Y3 := Y3.keep b5
  replace ny3 := ny3.keep b5
  replace O1 := O1.keep b5
  replace S1 := S1.keep b5
  replace B := B.trans (b5.mono B.size)
  clear b5
  go_wp2_with fail
  refine (toFacts_any a0 cap0 l _ hll hrow).mono ?_
  rintro e xe0 ⟨rfl, oe0, be0⟩
  replace hrow := hrow.keep be0
  replace hrowb := hrowb.keep be0
  replace O0 := O0.keep be0
  replace S0 := S0.keep be0
  replace X3 := X3.keep be0
  replace nx3 := nx3.keep be0
  replace Y3 := Y3.keep be0
  replace ny3 := ny3.keep be0
  replace O1 := O1.keep be0
  replace S1 := S1.keep be0
  replace B := B.trans (be0.mono B.size)
  clear be0
  have ne0 := oe0.row
  clear oe0
  go_wp2_with fail
  refine (eqFacts_same _ _ _ _ l _ hll nx3 ne0).mono ?_
  rintro e xf0 ⟨rfl, bf0⟩
  clear ne0
  replace hrow := hrow.keep bf0
  replace hrowb := hrowb.keep bf0
  replace O0 := O0.keep bf0
  replace S0 := S0.keep bf0
  replace X3 := X3.keep bf0
  replace nx3 := nx3.keep bf0
  replace Y3 := Y3.keep bf0
  replace ny3 := ny3.keep bf0
  replace O1 := O1.keep bf0
  replace S1 := S1.keep bf0
  replace B := B.trans (bf0.mono B.size)
  clear bf0
  go_wp2_with fail
  refine (toFacts_any a1 cap1 b _ hlb hrowb).mono ?_
  rintro e xe1 ⟨rfl, oe1, be1⟩
  replace hrow := hrow.keep be1
  replace hrowb := hrowb.keep be1
  replace O0 := O0.keep be1
  replace S0 := S0.keep be1
  replace X3 := X3.keep be1
  replace nx3 := nx3.keep be1
  replace Y3 := Y3.keep be1
  replace ny3 := ny3.keep be1
  replace O1 := O1.keep be1
  replace S1 := S1.keep be1
  replace B := B.trans (be1.mono B.size)
  clear be1
  have ne1 := oe1.row
  clear oe1
  go_wp2_with fail
  refine (eqFacts_same _ _ _ _ b _ hlb ny3 ne1).mono ?_
  rintro e xf1 ⟨rfl, bf1⟩
  clear ne1
  replace hrow := hrow.keep bf1
  replace hrowb := hrowb.keep bf1
  replace O0 := O0.keep bf1
  replace S0 := S0.keep bf1
  replace X3 := X3.keep bf1
  replace nx3 := nx3.keep bf1
  replace Y3 := Y3.keep bf1
  replace ny3 := ny3.keep bf1
  replace O1 := O1.keep bf1
  replace S1 := S1.keep bf1
  replace B := B.trans (bf1.mono B.size)
  clear bf1
  clear nx3 ny3
  go_wp2_with fail
  refine (markF_i y0.heap.size (.slice (some ⟨y0.heap.size, 0, none⟩) l.length l.length) l 1 _ hll (by omega) (by omega) X3).mono ?_
  rintro e xm0 ⟨rfl, _, km0⟩
  have HKX : Hid (∀ g, g ≠ y0.heap.size ∨ l.length = 0 → blkOf (.slice (some ⟨y0.heap.size, 0, none⟩) l.length l.length) l.length g) := blk_new _ _ _
  clear X3
  have kb0 : Below w.heap.size _ xm0 := km0.toBelow B.size (fun q hq => HKX.out q (by have := HS2.out; omega))
  replace B := B.trans kb0
  replace hrow := hrow00.keep B
  replace hrowb := hrowb00.keep B
  replace O0 := O0.keepK km0 (HKX.out _ (by have := HS2.out; omega))
  replace S0 := S0.keepB km0 (fun g e => HKX.out g (by have := HV0.out g e; have := HS2.out; omega))
  replace Y3 := Y3.keepB km0 (fun g e => HKX.out g (by
    have e2 : x3.heap.size = g := by simpa [Value.ownBlock] using e
    omega))
  replace O1 := O1.keepK km0 (HKX.out _ (by have := HS2.out; omega))
  replace S1 := S1.keepB km0 (fun g e => HKX.out g (by have := HV1.out g e; have := HS2.out; omega))
  clear km0 HKX
  go_wp2_with fail
  refine (markF_k x3.heap.size (.slice (some ⟨x3.heap.size, 0, none⟩) b.length b.length) b (1 + 3 * l.length) _ hlb (by omega) (by omega) Y3).mono ?_
  rintro e xm1 ⟨rfl, _, km1⟩
  have HKY : Hid (∀ g, g ≠ x3.heap.size ∨ b.length = 0 → blkOf (.slice (some ⟨x3.heap.size, 0, none⟩) b.length b.length) b.length g) := blk_new _ _ _
  clear Y3
  have kb1 : Below w.heap.size _ xm1 := km1.toBelow B.size (fun q hq => HKY.out q (by have := HS2.out; omega))
  replace B := B.trans kb1
  replace hrow := hrow00.keep B
  replace hrowb := hrowb00.keep B
  replace O0 := O0.keepK km1 (HKY.out _ (by have := HS2.out; omega))
  replace S0 := S0.keepB km1 (fun g e => HKY.out g (by have := HV0.out g e; have := HS2.out; omega))
  replace O1 := O1.keepK km1 (HKY.out _ (by have := HS2.out; omega))
  replace S1 := S1.keepB km1 (fun g e => HKY.out g (by have := HV1.out g e; have := HS2.out; omega))
  clear km1 HKY
  have hm8 : ¬ ((1 + 3 * l.length + 3 * b.length : Nat) : Int) < 0 := by omega
  have g60 := O0.cell 0
  have g61 := O0.cell 1
  have g62 := O0.cell 2
  have g80 := O1.cell 0
  have g81 := O1.cell 1
  have g82 := O1.cell 2
  go_wp2_with fail
  refine (eqOut_same (.slice p1 m.length c1) (.slice p0 m.length c0) _ _ r c m _ hml S1 S0).mono ?_
  rintro e x9 ⟨rfl, b9⟩
  clear g60 g61 g62 g80 g81 g82 hm8
  replace hrow := hrow.keep b9
  replace hrowb := hrowb.keep b9
  replace O0 := O0.keep b9
  replace S0 := S0.keep b9
  replace O1 := O1.keep b9
  replace S1 := S1.keep b9
  replace B := B.trans (b9.mono B.size)
  clear b9
  have g80 := O1.cell 0
  have g81 := O1.cell 1
  have g82 := O1.cell 2
  go_wp2_with fail
  refine (markOut_i x35.heap.size (.slice p1 m.length c1) r c m _ hml S1).mono ?_
  rintro e x10 ⟨rfl, S1m, k10⟩
  have HKG : Hid (∀ g, g < x35.heap.size ∨ x4.heap.size ≤ g → blkOf (.slice p1 m.length c1) m.length g) := fun g hg => .inr (fun e => by have := HV1.out g e; omega)
  clear S1 g80 g81 g82
  have kb10 : Below w.heap.size _ x10 := k10.toBelow B.size (fun q hq => HKG.out q (by have := HS2.out; omega))
  replace B := B.trans kb10
  replace hrow := hrow00.keep B
  replace hrowb := hrowb00.keep B
  replace O0 := O0.keepK k10 (HKG.out _ (by have := HS2.out; omega))
  replace S0 := S0.keepB k10 (fun g e => HKG.out g (by have := HV0.out g e; have := HS2.out; omega))
  replace O1 := O1.keepK k10 (HKG.out _ (by have := HS2.out; omega))
  have S1 := S1m
  clear S1m k10 HKG
  have g80 := O1.cell 0
  have g81 := O1.cell 1
  have g82 := O1.cell 2
  go_wp2_with fail
  refine (heldOut_i x35.heap.size (.slice p1 m.length c1) r c m.length _ hml S1).mono ?_
  rintro e x11 ⟨rfl, b11⟩
  have hm11 : ¬ ((1 + 3 * m.length : Nat) : Int) < 0 := by omega
  clear g80 g81 g82
  replace hrow := hrow.keep b11
  replace hrowb := hrowb.keep b11
  replace O0 := O0.keep b11
  replace S0 := S0.keep b11
  replace O1 := O1.keep b11
  replace S1 := S1.keep b11
  replace B := B.trans (b11.mono B.size)
  clear b11
  go_wp2_with fail
  refine (toFacts_any a0 cap0 l _ hll hrow).mono ?_
  rintro e xc ⟨rfl, oc, bc⟩
  replace hrow := hrow.keep bc
  replace hrowb := hrowb.keep bc
  replace O0 := O0.keep bc
  replace S0 := S0.keep bc
  replace O1 := O1.keep bc
  replace S1 := S1.keep bc
  replace B := B.trans (bc.mono B.size)
  clear bc
  have nc := oc.row
  clear oc
  go_wp2_with fail
  refine (toFacts_any a1 cap1 b _ hlb hrowb).mono ?_
  rintro e xd ⟨rfl, od, bd⟩
  replace hrow := hrow.keep bd
  replace hrowb := hrowb.keep bd
  replace O0 := O0.keep bd
  replace S0 := S0.keep bd
  replace O1 := O1.keep bd
  replace S1 := S1.keep bd
  replace nc := nc.keep bd
  replace B := B.trans (bd.mono B.size)
  clear bd
  have nd := od.row
  clear od
  go_wp2_with fail
  refine (implJoin_any _ _ _ _ l b c m r _ HP.out hll hlb nc nd).mono ?_
  rintro e x13 ⟨v3, rfl, own3, b13⟩
  clear nc nd
  replace hrow := hrow.keep b13
  replace hrowb := hrowb.keep b13
  replace O0 := O0.keep b13
  replace S0 := S0.keep b13
  replace O1 := O1.keep b13
  replace S1 := S1.keep b13
  replace B := B.trans (b13.mono B.size)
  clear b13
  have s3 := own_sl own3
  have hv30 := own3.lt
  obtain ⟨p3, c3, rfl, o3, z3⟩ := s3
  have S3 : OwnSl _ _ (.slice p3 m.length c3) m := ⟨p3, c3, rfl, o3, z3⟩
  unfold outV
  have a3 := (Below.refl x13.heap.size x13).alloc (Nat.le_refl _) (.cells #[.slice p3 m.length c3, .bool r, .int .i64 c] 33)
  have O3 := BlkIs.new x13 33 #[.slice p3 m.length c3, .bool r, .int .i64 c]
  replace S3 := S3.keep a3
  replace hrow := hrow.keep a3
  replace hrowb := hrowb.keep a3
  replace O0 := O0.keep a3
  replace S0 := S0.keep a3
  replace O1 := O1.keep a3
  replace S1 := S1.keep a3
  replace B := B.trans (a3.mono B.size)
  have hxy3 : x13.heap.size < (x13.alloc (.cells #[.slice p3 m.length c3, .bool r, .int .i64 c] 33)).heap.size := by simp
  obtain ⟨y3, hy3⟩ : ∃ y, x13.alloc (.cells #[.slice p3 m.length c3, .bool r, .int .i64 c] 33) = y := ⟨_, rfl⟩
  rw [hy3] at S3 O3 B hxy3 hrow hrowb O0 S0 O1 S1
  have HY3 : Hid (_ = y3) := hy3
  clear hy3 a3 o3 z3 own3
  have g60 := O0.cell 0
  have g61 := O0.cell 1
  have g62 := O0.cell 2
  have g90 := O3.cell 0
  have g91 := O3.cell 1
  have g92 := O3.cell 2
  go_upto_region 32 with fail
  rw [HY3.out]
  clear HY3
  go_wp2_with fail
  refine (eqOut_same (.slice p3 m.length c3) (.slice p0 m.length c0) _ _ r c m _ hml S3 S0).mono ?_
  rintro e x15 ⟨rfl, b15⟩
  clear g60 g61 g62 g90 g91 g92 O3 S3
  replace hrow := hrow.keep b15
  replace hrowb := hrowb.keep b15
  replace O0 := O0.keep b15
  replace S0 := S0.keep b15
  replace O1 := O1.keep b15
  replace S1 := S1.keep b15
  replace B := B.trans (b15.mono B.size)
  clear b15
  have g80 := O1.cell 0
  have g81 := O1.cell 1
  have g82 := O1.cell 2
  go_wp2_with fail
  refine (heldOut_i x35.heap.size (.slice p1 m.length c1) r c m.length _ hml S1).mono ?_
  rintro e x16 ⟨rfl, b16⟩
  replace B := B.trans (b16.mono B.size)
  go_wp2
  go_ret
  exact ⟨rfl, B⟩

set_option maxRecDepth 100000 in
theorem FnExactViewJoin_lifted (os : Os) (started : os.Started) (H : Type) (enc : TypeId × Value → H) :
    ReturnsInHanded {} Try.checked os 10 .any (Rows.fnExactViewJoinSpec.pre6 enc Try.prog Try.f10 Rows.fnExactViewJoinRow.domain false) (Rows.fnExactViewJoinSpec.post enc Try.prog Try.f10 false true false false) := by
  refine returnsInHanded_of_change (C := Try.checked) (by kernel_rfl) started (by kernel_rfl) Try.func10
    (ChangeSpec.witness6 (enc := enc) (C := Try.checked) false ⟨#[], #[.slice none 0 0, .slice none 0 0], []⟩ 8 (by kernel_rfl) (by kernel_rfl) (by kernel_rfl) (by kernel_rfl)) ?_
  intro W base args ds gs before hval0 hW hcnd _
  have hval : ∀ (j : Nat) t v, Try.f10.params[j]? = some t → args[j]? = some v → Value.okWide Try.prog W .any base t v := hval0
  have hW' := hW
  obtain ⟨p, q, hA0, hV, rfl, hfz, hnd⟩ := hW
  have hA : DataW.TrodAll enc Try.prog W 0 (fun _ => true) true Try.f10.params.toList args.toList ds p := hA0
  rw [Try.params10] at hA hval
  obtain ⟨v0, vs0, d0, ds0, p0, q0, hargs, rfl, rfl, h0, r0⟩ := trodAll_cons hA
  obtain ⟨v1, vs1, d1, ds1, p1, q1, rfl, rfl, rfl, h1, r1⟩ := trodAll_cons r0
  obtain ⟨rfl, rfl, rfl⟩ := trodAll_nil r1
  obtain rfl : args = #[v0, v1] := by cases args; simp_all
  obtain ⟨rfl, rfl⟩ := trodVars_none hV
  obtain ⟨a0, len0, cap0, rfl⟩ := okWide_slice Try.underlying51 (hval 0 51 v0 rfl rfl)
  have k0 := h0
  have lt0 : ∀ x ∈ p0, x.block < W.heap.size := by obtain ⟨m, hm⟩ := k0; exact DataW.trod_lt m _ _ _ hm
  obtain ⟨l0, el0, w0⟩ : ∃ l, len0 = l.length ∧ FactArg W a0 cap0 l := by
    obtain ⟨fuel, hf⟩ := h0
    exact factArg_open (by simpa [Value.cells] using hf)
  subst el0
  obtain ⟨a1, len1, cap1, rfl⟩ := okWide_slice Try.underlying51 (hval 1 51 v1 rfl rfl)
  have k1 := h1
  have lt1 : ∀ x ∈ p1, x.block < W.heap.size := by obtain ⟨m, hm⟩ := k1; exact DataW.trod_lt m _ _ _ hm
  obtain ⟨l1, el1, w1⟩ : ∃ l, len1 = l.length ∧ FactArg W a1 cap1 l := by
    obtain ⟨fuel, hf⟩ := h1
    exact factArg_open (by simpa [Value.cells] using hf)
  subst el1
  clear hA0 hval0
  refine (FnExactViewJoin_walk a0 cap0 l0 a1 cap1 l1 W w0 w1).mono fun e W' ⟨he, bel⟩ => ?_
  subst he
  exact ⟨_, rfl, _, _, _, [], _, [], hW', trodAll_mk1 (shut_bool Try.underlying4 _), (trodAll_cons_mk (Below.trod (show laidOutB Try.prog = true by kernel_rfl) (by kernel_rfl) (of_decide_eq_true (by kernel_rfl)) k0 bel lt0) (trodAll_cons_mk (Below.trod (show laidOutB Try.prog = true by kernel_rfl) (by kernel_rfl) (of_decide_eq_true (by kernel_rfl)) k1 bel lt1) trodAll_mk0)), rfl, bel.frame _, fun h => by cases h⟩
/-- The statement. -/
theorem FnExactViewJoin_holds : Rows.FnExactViewJoinSaid :=
  OpenClaim.holds_of_wide 10 Try.f10 rfl rfl rfl rfl rfl rfl rfl ⟨rfl, rfl, rfl, rfl, rfl⟩ rfl rfl rfl rfl rfl (by kernel_rfl) Try.func10 (by kernel_rfl)
    (of_decide_eq_true (by kernel_rfl)) (by unfold Func.isWrapper; first | (rw [if_pos (by decide +kernel)]; kernel_rfl) | (rw [if_neg (by decide +kernel)]; exact ⟨rfl, rfl⟩))
    (fun os started H enc _ => FnExactViewJoin_lifted os started H enc)
#print axioms FnExactViewJoin_holds

end Go.Proofs.Ytdgcmjhnglacnaa
