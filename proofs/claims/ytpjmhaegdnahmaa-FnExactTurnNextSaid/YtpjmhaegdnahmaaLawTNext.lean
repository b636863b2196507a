/- Proved: laws.FnExactTurnNext answers true at every turn, nodes and seed: TurnNext of the program and of the specification are one function; it writes into no argument, and its answer owns its memory. No condition. -/
import Derived.Test.YtpjmhaegdnahmaaRows
import Derived.WalkKit
import Derived.ProofKit
import Derived.OpenShut
import Derived.ShutString
import Derived.ChangeOld
import Derived.Below
import Derived.Test.YtpjmhaegdnahmaaTArgs
namespace Go.Proofs.Ytpjmhaegdnahmaa
open Go Go.ChangeShapes Go.WideShapes Go.ChangeAt Go.RowKit
open Go.ChangeMaps (open_string shut_string)
set_option linter.unusedVariables false
set_option linter.unusedSimpArgs false

set_option maxHeartbeats 4000000 in
set_option maxRecDepth 100000 in
theorem FnExactTurnNext_walk (a0 : TurnA) (a1 : Option Addr) (cap1 : Nat) (nodes : List Int) (seed : Int) (w : World) (w0 : NumArg w a0.p a0.cap a0.l ∧ a0.l.length ≤ 9223372036854775807) (w1 : NumArg w a1 cap1 nodes) (w2 : (Lit.int .i64 seed).wf = true) :
    Calls Try.prog 5 #[a0.val, .slice a1 nodes.length cap1, .int .i64 seed] w fun e w' => e = .returned (.bool true) ∧ Below w.heap.size w w' := by
  have hrow0 := w0.1.1
  have hlm := w0.2
  have hrow10 := w1.1
  obtain ⟨p, cap, l, at0⟩ := a0
  dsimp only at hrow0 hlm
  obtain ⟨o, hP⟩ := tnext_ex ⟨l, at0⟩ nodes seed
  have hml := tnext_len hP
  obtain ⟨ml, oa, ond, osd, oc⟩ := o
  have HP : Hid (TNextIs ⟨l, at0⟩ nodes seed ⟨ml, oa, ond, osd, oc⟩) := hP
  dsimp only at hml
  clear hP w0 w1 w2
  have P := BlkIs.new w 41 #[.slice p l.length cap, .int .i64 at0]
  have B := (Below.refl w.heap.size w).alloc (Nat.le_refl _) (.cells #[.slice p l.length cap, .int .i64 at0] 41)
  have hrow := hrow0.keep B
  have hrow1 := hrow10.keep B
  obtain ⟨W, hW⟩ : ∃ W, w.alloc (.cells #[.slice p l.length cap, .int .i64 at0] 41) = W := ⟨_, rfl⟩
  rw [hW] at P B hrow hrow1
  have HW : Hid (_ = W) := hW
  have HWS : Hid (w.heap.size < W.heap.size) := P.lt
  clear hW
  unfold TurnA.val
  go_enter Try.func5, Try.ntmps5
  go_upto_region 1 with fail
  rw [HW.out]
  clear HW
  by_cases hbig : 1048576 < (nodes.length : Int)
  · go_wp2
    go_ret
    exact ⟨rfl, B⟩
  have hl1 : nodes.length ≤ 1048576 := by omega
  have cc0 : W.cell? ⟨w.heap.size, 0, none⟩ = some (.slice p l.length cap) := P.cell 0
  have cc1 : W.cell? ⟨w.heap.size, 1, none⟩ = some (.int .i64 at0) := P.cell 1
  go_wp2_with fail
  refine (szTurn_any ⟨p, cap, l, at0⟩ 1048576 _ (by omega) (by omega) hlm).mono ?_
  rintro e x1 ⟨rfl, bb⟩
  clear cc0 cc1
  have z1 : Hid (_ ≤ _) := bb.size
  replace P := P.keep bb
  replace hrow := hrow.keep bb
  replace hrow1 := hrow1.keep bb
  replace B := B.trans (bb.mono B.size)
  clear bb
  by_cases hsl : (1048576 : Int) < ((l.length : Nat) : Int)
  · have e1 : leftT 1048576 l.length = -1 := if_pos hsl
    dsimp only
    rw [e1]
    clear e1
    go_wp2
    go_ret
    exact ⟨rfl, B⟩
  obtain ⟨ql, hql⟩ : ∃ q : Int, leftT 1048576 l.length = q := ⟨_, rfl⟩
  have hq0l : ¬ ql < 0 := by rw [← hql]; unfold leftT; rw [if_neg hsl]; omega
  dsimp only
  rw [hql]
  have hll : l.length ≤ 1048576 := by omega
  clear hql hsl hlm
  have hbig2 := hl1
  clear hbig hbig2
  have cc0 : x1.cell? ⟨w.heap.size, 0, none⟩ = some (.slice p l.length cap) := P.cell 0
  have cc1 : x1.cell? ⟨w.heap.size, 1, none⟩ = some (.int .i64 at0) := P.cell 1
  go_wp2_with fail
  refine (toTurn_any p cap l at0 _ hll hrow).mono ?_
  rintro e x2 ⟨g1, rfl, og1, hbg1, bb⟩
  clear cc0 cc1
  have z2 : Hid (_ ≤ _) := bb.size
  replace P := P.keep bb
  replace hrow := hrow.keep bb
  replace hrow1 := hrow1.keep bb
  replace B := B.trans (bb.mono B.size)
  clear bb
  unfold turnV
  have HBg1 : Hid (_ ≤ g1 ∧ g1 < _) := hbg1
  clear hbg1
  have HQg1 : Hid (∀ b off, some (⟨g1, 0, none⟩ : Addr) = some ⟨b, off, none⟩ → b = g1) := fun b off e => by simp at e; exact e.1.symm
  have cc0 : x2.cell? ⟨w.heap.size, 0, none⟩ = some (.slice p l.length cap) := P.cell 0
  have cc1 : x2.cell? ⟨w.heap.size, 1, none⟩ = some (.int .i64 at0) := P.cell 1
  go_wp2_with fail
  refine (toNums_any a1 cap1 nodes _ hl1 hrow1).mono ?_
  rintro e x3 ⟨rfl, rr, bb⟩
  clear cc0 cc1
  have z4 : Hid (_ ≤ _) := bb.size
  replace P := P.keep bb
  replace hrow := hrow.keep bb
  replace hrow1 := hrow1.keep bb
  replace og1 := og1.keep bb
  replace B := B.trans (bb.mono B.size)
  clear bb
  have og2 := OwnNums.of_row (lo := x2.heap.size) rr (Nat.le_refl _)
  obtain ⟨g2, hgg2⟩ : ∃ g, x2.heap.size = g := ⟨_, rfl⟩
  have HLg2 : Hid (x2.heap.size = g2) := hgg2
  have HBg2 : Hid (x2.heap.size < x3.heap.size) := rr.lt
  rw [hgg2] at og2 ⊢
  clear rr hgg2
  have HQg2 : Hid (∀ b off, some (⟨g2, 0, none⟩ : Addr) = some ⟨b, off, none⟩ → b = g2) := fun b off e => by simp at e; exact e.1.symm
  have cc0 : x3.cell? ⟨w.heap.size, 0, none⟩ = some (.slice p l.length cap) := P.cell 0
  have cc1 : x3.cell? ⟨w.heap.size, 1, none⟩ = some (.int .i64 at0) := P.cell 1
  go_wp2_with fail
  refine ((specTNext_any _ _ ⟨l, at0⟩ _ _ nodes seed ⟨ml, oa, ond, osd, oc⟩ _ HP.out hll hl1 (Nat.le_refl _) (Nat.le_refl _) (fun e => by cases e) og1.row og2.row).mono fun _ _ => tOutPost_own).mono ?_
  rintro e x4 ⟨pS, cS, rfl, oS, hbS, bb⟩
  clear cc0 cc1
  have z7 : Hid (_ ≤ _) := bb.size
  replace P := P.keep bb
  replace hrow := hrow.keep bb
  replace hrow1 := hrow1.keep bb
  replace og1 := og1.keep bb
  replace og2 := og2.keep bb
  replace B := B.trans (bb.mono B.size)
  clear bb
  have HBS : Hid (∀ b off, pS = some ⟨b, off, none⟩ → _ ≤ b ∧ b < _) := hbS
  clear hbS
  unfold turnOutV
  try dsimp only at oS ⊢
  clear og1 og2
  have aS := (Below.refl x4.heap.size x4).alloc (Nat.le_refl _) (.cells #[.slice pS ml.length cS, .int .i64 oa, .int .i64 ond, .int .i64 osd, .int .i64 oc] 29)
  have OS := BlkIs.new x4 29 #[.slice pS ml.length cS, .int .i64 oa, .int .i64 ond, .int .i64 osd, .int .i64 oc]
  replace P := P.keep aS
  replace hrow := hrow.keep aS
  replace hrow1 := hrow1.keep aS
  replace oS := oS.keep aS
  replace B := B.trans (aS.mono B.size)
  have hxyS : x4.heap.size < (x4.alloc (.cells #[.slice pS ml.length cS, .int .i64 oa, .int .i64 ond, .int .i64 osd, .int .i64 oc] 29)).heap.size := by simp
  obtain ⟨yS, hyS⟩ : ∃ y, x4.alloc (.cells #[.slice pS ml.length cS, .int .i64 oa, .int .i64 ond, .int .i64 osd, .int .i64 oc] 29) = y := ⟨_, rfl⟩
  obtain ⟨kS, hkS⟩ : ∃ k, x4.heap.size = k := ⟨_, rfl⟩
  rw [hyS] at OS B hxyS P hrow hrow1 oS
  rw [hkS] at OS hxyS
  have HYS : Hid (_ = yS) := hyS
  have HKS : Hid (x4.heap.size = kS) := hkS
  clear hyS aS
  go_upto_region 8 with fail
  rw [HYS.out]
  clear HYS hkS
  have zzS : Hid (kS < yS.heap.size) := hxyS
  have zwS : Hid (_ ≤ _) := Nat.le_of_lt (show kS < yS.heap.size from hxyS)
  clear hxyS
  have cc0 : yS.cell? ⟨w.heap.size, 0, none⟩ = some (.slice p l.length cap) := P.cell 0
  have cc1 : yS.cell? ⟨w.heap.size, 1, none⟩ = some (.int .i64 at0) := P.cell 1
  have cc2 : yS.cell? ⟨kS, 0, none⟩ = some (.slice pS ml.length cS) := OS.cell 0
  have cc3 : yS.cell? ⟨kS, 1, none⟩ = some (.int .i64 oa) := OS.cell 1
  have cc4 : yS.cell? ⟨kS, 2, none⟩ = some (.int .i64 ond) := OS.cell 2
  have cc5 : yS.cell? ⟨kS, 3, none⟩ = some (.int .i64 osd) := OS.cell 3
  have cc6 : yS.cell? ⟨kS, 4, none⟩ = some (.int .i64 oc) := OS.cell 4
  go_wp2_with fail
  refine (toTurn_any p cap l at0 _ hll hrow).mono ?_
  rintro e x5 ⟨g3, rfl, og3, hbg3, bb⟩
  clear cc0 cc1 cc2 cc3 cc4 cc5 cc6
  have z10 : Hid (_ ≤ _) := bb.size
  replace P := P.keep bb
  replace hrow := hrow.keep bb
  replace hrow1 := hrow1.keep bb
  replace oS := oS.keep bb
  replace OS := OS.keep bb
  replace B := B.trans (bb.mono B.size)
  clear bb
  unfold turnV
  have HBg3 : Hid (_ ≤ g3 ∧ g3 < _) := hbg3
  clear hbg3
  have HQg3 : Hid (∀ b off, some (⟨g3, 0, none⟩ : Addr) = some ⟨b, off, none⟩ → b = g3) := fun b off e => by simp at e; exact e.1.symm
  have aX := (Below.refl x5.heap.size x5).alloc (Nat.le_refl _) (.cells #[.slice (some ⟨g3, 0, none⟩) l.length l.length, .int .i64 at0] 25)
  have OX := BlkIs.new x5 25 #[.slice (some ⟨g3, 0, none⟩) l.length l.length, .int .i64 at0]
  replace P := P.keep aX
  replace hrow := hrow.keep aX
  replace hrow1 := hrow1.keep aX
  replace oS := oS.keep aX
  replace OS := OS.keep aX
  replace og3 := og3.keep aX
  replace B := B.trans (aX.mono B.size)
  have hxyX : x5.heap.size < (x5.alloc (.cells #[.slice (some ⟨g3, 0, none⟩) l.length l.length, .int .i64 at0] 25)).heap.size := by simp
  obtain ⟨yX, hyX⟩ : ∃ y, x5.alloc (.cells #[.slice (some ⟨g3, 0, none⟩) l.length l.length, .int .i64 at0] 25) = y := ⟨_, rfl⟩
  obtain ⟨kX, hkX⟩ : ∃ k, x5.heap.size = k := ⟨_, rfl⟩
  rw [hyX] at OX B hxyX P hrow hrow1 oS OS og3
  rw [hkX] at OX hxyX
  have HYX : Hid (_ = yX) := hyX
  have HKX : Hid (x5.heap.size = kX) := hkX
  clear hyX aX
  go_upto_region 9 with fail
  rw [HYX.out]
  clear HYX hkX
  have zzX : Hid (kX < yX.heap.size) := hxyX
  have zwX : Hid (_ ≤ _) := Nat.le_of_lt (show kX < yX.heap.size from hxyX)
  clear hxyX
  have cc0 : yX.cell? ⟨w.heap.size, 0, none⟩ = some (.slice p l.length cap) := P.cell 0
  have cc1 : yX.cell? ⟨w.heap.size, 1, none⟩ = some (.int .i64 at0) := P.cell 1
  have cc2 : yX.cell? ⟨kS, 0, none⟩ = some (.slice pS ml.length cS) := OS.cell 0
  have cc3 : yX.cell? ⟨kS, 1, none⟩ = some (.int .i64 oa) := OS.cell 1
  have cc4 : yX.cell? ⟨kS, 2, none⟩ = some (.int .i64 ond) := OS.cell 2
  have cc5 : yX.cell? ⟨kS, 3, none⟩ = some (.int .i64 osd) := OS.cell 3
  have cc6 : yX.cell? ⟨kS, 4, none⟩ = some (.int .i64 oc) := OS.cell 4
  have cc7 : yX.cell? ⟨kX, 0, none⟩ = some (.slice (some ⟨g3, 0, none⟩) l.length l.length) := OX.cell 0
  have cc8 : yX.cell? ⟨kX, 1, none⟩ = some (.int .i64 at0) := OX.cell 1
  go_wp2_with fail
  refine (toNums_any a1 cap1 nodes _ hl1 hrow1).mono ?_
  rintro e x6 ⟨rfl, rr, bb⟩
  clear cc0 cc1 cc2 cc3 cc4 cc5 cc6 cc7 cc8
  have z14 : Hid (_ ≤ _) := bb.size
  replace P := P.keep bb
  replace hrow := hrow.keep bb
  replace hrow1 := hrow1.keep bb
  replace oS := oS.keep bb
  replace OS := OS.keep bb
  replace og3 := og3.keep bb
  replace OX := OX.keep bb
  replace B := B.trans (bb.mono B.size)
  clear bb
  have og5 := OwnNums.of_row (lo := yX.heap.size) rr (Nat.le_refl _)
  obtain ⟨g5, hgg5⟩ : ∃ g, yX.heap.size = g := ⟨_, rfl⟩
  have HLg5 : Hid (yX.heap.size = g5) := hgg5
  have HBg5 : Hid (yX.heap.size < x6.heap.size) := rr.lt
  rw [hgg5] at og5 ⊢
  clear rr hgg5
  have HQg5 : Hid (∀ b off, some (⟨g5, 0, none⟩ : Addr) = some ⟨b, off, none⟩ → b = g5) := fun b off e => by simp at e; exact e.1.symm
  have cc0 : x6.cell? ⟨w.heap.size, 0, none⟩ = some (.slice p l.length cap) := P.cell 0
  have cc1 : x6.cell? ⟨w.heap.size, 1, none⟩ = some (.int .i64 at0) := P.cell 1
  have cc2 : x6.cell? ⟨kS, 0, none⟩ = some (.slice pS ml.length cS) := OS.cell 0
  have cc3 : x6.cell? ⟨kS, 1, none⟩ = some (.int .i64 oa) := OS.cell 1
  have cc4 : x6.cell? ⟨kS, 2, none⟩ = some (.int .i64 ond) := OS.cell 2
  have cc5 : x6.cell? ⟨kS, 3, none⟩ = some (.int .i64 osd) := OS.cell 3
  have cc6 : x6.cell? ⟨kS, 4, none⟩ = some (.int .i64 oc) := OS.cell 4
  have cc7 : x6.cell? ⟨kX, 0, none⟩ = some (.slice (some ⟨g3, 0, none⟩) l.length l.length) := OX.cell 0
  have cc8 : x6.cell? ⟨kX, 1, none⟩ = some (.int .i64 at0) := OX.cell 1
  go_wp2_with fail
  refine ((implTNext_any _ _ ⟨l, at0⟩ _ _ nodes seed ⟨ml, oa, ond, osd, oc⟩ _ HP.out hll hl1 (Nat.le_refl _) og3.row og5.row).mono fun _ _ => tOutPost_own).mono ?_
  rintro e x7 ⟨pG, cG, rfl, oG, hbG, bb⟩
  clear cc0 cc1 cc2 cc3 cc4 cc5 cc6 cc7 cc8
  have z17 : Hid (_ ≤ _) := bb.size
  replace P := P.keep bb
  replace hrow := hrow.keep bb
  replace hrow1 := hrow1.keep bb
  replace oS := oS.keep bb
  replace OS := OS.keep bb
  replace og3 := og3.keep bb
  replace OX := OX.keep bb
  replace og5 := og5.keep bb
  replace B := B.trans (bb.mono B.size)
  clear bb
  have HBG : Hid (∀ b off, pG = some ⟨b, off, none⟩ → _ ≤ b ∧ b < _) := hbG
  clear hbG
  unfold turnOutV
  try dsimp only at oG ⊢
  have aG := (Below.refl x7.heap.size x7).alloc (Nat.le_refl _) (.cells #[.slice pG ml.length cG, .int .i64 oa, .int .i64 ond, .int .i64 osd, .int .i64 oc] 29)
  have OG := BlkIs.new x7 29 #[.slice pG ml.length cG, .int .i64 oa, .int .i64 ond, .int .i64 osd, .int .i64 oc]
  replace P := P.keep aG
  replace hrow := hrow.keep aG
  replace hrow1 := hrow1.keep aG
  replace oS := oS.keep aG
  replace OS := OS.keep aG
  replace og3 := og3.keep aG
  replace OX := OX.keep aG
  replace og5 := og5.keep aG
  replace oG := oG.keep aG
  replace B := B.trans (aG.mono B.size)
  have hxyG : x7.heap.size < (x7.alloc (.cells #[.slice pG ml.length cG, .int .i64 oa, .int .i64 ond, .int .i64 osd, .int .i64 oc] 29)).heap.size := by simp
  obtain ⟨yG, hyG⟩ : ∃ y, x7.alloc (.cells #[.slice pG ml.length cG, .int .i64 oa, .int .i64 ond, .int .i64 osd, .int .i64 oc] 29) = y := ⟨_, rfl⟩
  obtain ⟨kG, hkG⟩ : ∃ k, x7.heap.size = k := ⟨_, rfl⟩
  rw [hyG] at OG B hxyG P hrow hrow1 oS OS og3 OX og5 oG
  rw [hkG] at OG hxyG
  have HYG : Hid (_ = yG) := hyG
  have HKG : Hid (x7.heap.size = kG) := hkG
  clear hyG aG
  go_upto_region 11 with fail
  rw [HYG.out]
  clear HYG hkG
  have zzG : Hid (kG < yG.heap.size) := hxyG
  have zwG : Hid (_ ≤ _) := Nat.le_of_lt (show kG < yG.heap.size from hxyG)
  clear hxyG
  have cc0 : yG.cell? ⟨w.heap.size, 0, none⟩ = some (.slice p l.length cap) := P.cell 0
  have cc1 : yG.cell? ⟨w.heap.size, 1, none⟩ = some (.int .i64 at0) := P.cell 1
  have cc2 : yG.cell? ⟨kS, 0, none⟩ = some (.slice pS ml.length cS) := OS.cell 0
  have cc3 : yG.cell? ⟨kS, 1, none⟩ = some (.int .i64 oa) := OS.cell 1
  have cc4 : yG.cell? ⟨kS, 2, none⟩ = some (.int .i64 ond) := OS.cell 2
  have cc5 : yG.cell? ⟨kS, 3, none⟩ = some (.int .i64 osd) := OS.cell 3
  have cc6 : yG.cell? ⟨kS, 4, none⟩ = some (.int .i64 oc) := OS.cell 4
  have cc7 : yG.cell? ⟨kX, 0, none⟩ = some (.slice (some ⟨g3, 0, none⟩) l.length l.length) := OX.cell 0
  have cc8 : yG.cell? ⟨kX, 1, none⟩ = some (.int .i64 at0) := OX.cell 1
  have cc9 : yG.cell? ⟨kG, 0, none⟩ = some (.slice pG ml.length cG) := OG.cell 0
  have cc10 : yG.cell? ⟨kG, 1, none⟩ = some (.int .i64 oa) := OG.cell 1
  have cc11 : yG.cell? ⟨kG, 2, none⟩ = some (.int .i64 ond) := OG.cell 2
  have cc12 : yG.cell? ⟨kG, 3, none⟩ = some (.int .i64 osd) := OG.cell 3
  have cc13 : yG.cell? ⟨kG, 4, none⟩ = some (.int .i64 oc) := OG.cell 4
  go_wp2_with fail
  refine (eqTOut_same pG pS cG cS ⟨ml, oa, ond, osd, oc⟩ _ (by dsimp only; omega) oG.row oS.row).mono ?_
  rintro e x8 ⟨rfl, bb⟩
  clear cc0 cc1 cc2 cc3 cc4 cc5 cc6 cc7 cc8 cc9 cc10 cc11 cc12 cc13
  have z20 : Hid (_ ≤ _) := bb.size
  replace P := P.keep bb
  replace hrow := hrow.keep bb
  replace hrow1 := hrow1.keep bb
  replace oS := oS.keep bb
  replace OS := OS.keep bb
  replace og3 := og3.keep bb
  replace OX := OX.keep bb
  replace og5 := og5.keep bb
  replace oG := oG.keep bb
  replace OG := OG.keep bb
  replace B := B.trans (bb.mono B.size)
  clear bb
  have cc0 : x8.cell? ⟨w.heap.size, 0, none⟩ = some (.slice p l.length cap) := P.cell 0
  have cc1 : x8.cell? ⟨w.heap.size, 1, none⟩ = some (.int .i64 at0) := P.cell 1
  have cc2 : x8.cell? ⟨kS, 0, none⟩ = some (.slice pS ml.length cS) := OS.cell 0
  have cc3 : x8.cell? ⟨kS, 1, none⟩ = some (.int .i64 oa) := OS.cell 1
  have cc4 : x8.cell? ⟨kS, 2, none⟩ = some (.int .i64 ond) := OS.cell 2
  have cc5 : x8.cell? ⟨kS, 3, none⟩ = some (.int .i64 osd) := OS.cell 3
  have cc6 : x8.cell? ⟨kS, 4, none⟩ = some (.int .i64 oc) := OS.cell 4
  have cc7 : x8.cell? ⟨kX, 0, none⟩ = some (.slice (some ⟨g3, 0, none⟩) l.length l.length) := OX.cell 0
  have cc8 : x8.cell? ⟨kX, 1, none⟩ = some (.int .i64 at0) := OX.cell 1
  have cc9 : x8.cell? ⟨kG, 0, none⟩ = some (.slice pG ml.length cG) := OG.cell 0
  have cc10 : x8.cell? ⟨kG, 1, none⟩ = some (.int .i64 oa) := OG.cell 1
  have cc11 : x8.cell? ⟨kG, 2, none⟩ = some (.int .i64 ond) := OG.cell 2
  have cc12 : x8.cell? ⟨kG, 3, none⟩ = some (.int .i64 osd) := OG.cell 3
  have cc13 : x8.cell? ⟨kG, 4, none⟩ = some (.int .i64 oc) := OG.cell 4
  go_upto_region 13 with fail
  refine wp_region_held_drew (S := fun w' => Below x8.heap.size x8 w') (by kernel_rfl) ?hS0 (fun hHeld => ?_)
  case hS0 => exact (Below.refl _ _).drew
  refine takeG 0 (v := .agg #[.slice (some ⟨g3, 0, none⟩) l.length l.length, .int .i64 at0]) rfl (by kernel_rfl) (by kernel_rfl) (by kernel_rfl) (by kernel_rfl) (fun _ _ _ h => h) ?hy (by assumption) ?_
  case hy => (intro w' hSw; have s0 := show w'.cell? ⟨kX, 0, none⟩ = some (.slice (some ⟨g3, 0, none⟩) l.length l.length) from (OX.keep hSw).cell 0; (try dsimp only at s0); have s1 := show w'.cell? ⟨kX, 1, none⟩ = some (.int .i64 at0) from (OX.keep hSw).cell 1; (try dsimp only at s1); go_simp)
  try simp only [List.setIfInBounds_toArray, List.set_cons_zero, List.set_cons_succ]
  refine takeG 1 (v := .agg #[.slice p l.length cap, .int .i64 at0]) rfl (by kernel_rfl) (by kernel_rfl) (by kernel_rfl) (by kernel_rfl) (fun _ _ _ h => h) ?hy (by assumption) ?_
  case hy => (intro w' hSw; have s0 := show w'.cell? ⟨w.heap.size, 0, none⟩ = some (.slice p l.length cap) from (P.keep hSw).cell 0; (try dsimp only at s0); have s1 := show w'.cell? ⟨w.heap.size, 1, none⟩ = some (.int .i64 at0) from (P.keep hSw).cell 1; (try dsimp only at s1); go_simp)
  try simp only [List.setIfInBounds_toArray, List.set_cons_zero, List.set_cons_succ]
  refine runG 2 (by kernel_rfl) rfl (by kernel_rfl) ?_
  go_simp
  refine (toTurn_any p cap l at0 _ hll (hrow.keep hHeld)).mono ?_
  rintro e x9 ⟨g4, rfl, og4, _, b4⟩
  unfold turnV
  have b5 : Below x8.heap.size x8 x9 := hHeld.trans (b4.mono hHeld.size)
  clear b4
  refine ⟨b5, ?_⟩
  try simp only [Act.put, List.setIfInBounds_toArray, List.set_cons_zero, List.set_cons_succ]
  refine runG 3 (by kernel_rfl) rfl (by kernel_rfl) ?_
  go_simp
  refine (eqTurn_same _ _ _ _ l at0 _ hll (og3.keep b5).row og4.row).mono ?_
  rintro e x10 ⟨rfl, b6⟩
  have bb : Below x8.heap.size x8 x10 := b5.trans (b6.mono b5.size)
  clear b6 b5
  refine ⟨bb, ?_⟩
  try simp only [Act.put, List.setIfInBounds_toArray, List.set_cons_zero, List.set_cons_succ]
  refine takeG 4 (v := .bool false) rfl (by kernel_rfl) (by kernel_rfl) (by kernel_rfl) (by kernel_rfl) (fun _ _ _ h => h) ?hy (by assumption) ?_
  case hy => (intro w' hSw; go_simp)
  try simp only [List.setIfInBounds_toArray, List.set_cons_zero, List.set_cons_succ]
  refine wpAnyH_done (by kernel_rfl) ?_ _
  clear og4 cc0 cc1 cc2 cc3 cc4 cc5 cc6 cc7 cc8 cc9 cc10 cc11 cc12 cc13
  have z21 : Hid (_ ≤ _) := bb.size
  replace P := P.keep bb
  replace hrow := hrow.keep bb
  replace hrow1 := hrow1.keep bb
  replace oS := oS.keep bb
  replace OS := OS.keep bb
  replace og3 := og3.keep bb
  replace OX := OX.keep bb
  replace og5 := og5.keep bb
  replace oG := oG.keep bb
  replace OG := OG.keep bb
  replace B := B.trans (bb.mono B.size)
  clear bb
  have cc0 : x10.cell? ⟨w.heap.size, 0, none⟩ = some (.slice p l.length cap) := P.cell 0
  have cc1 : x10.cell? ⟨w.heap.size, 1, none⟩ = some (.int .i64 at0) := P.cell 1
  have cc2 : x10.cell? ⟨kS, 0, none⟩ = some (.slice pS ml.length cS) := OS.cell 0
  have cc3 : x10.cell? ⟨kS, 1, none⟩ = some (.int .i64 oa) := OS.cell 1
  have cc4 : x10.cell? ⟨kS, 2, none⟩ = some (.int .i64 ond) := OS.cell 2
  have cc5 : x10.cell? ⟨kS, 3, none⟩ = some (.int .i64 osd) := OS.cell 3
  have cc6 : x10.cell? ⟨kS, 4, none⟩ = some (.int .i64 oc) := OS.cell 4
  have cc7 : x10.cell? ⟨kX, 0, none⟩ = some (.slice (some ⟨g3, 0, none⟩) l.length l.length) := OX.cell 0
  have cc8 : x10.cell? ⟨kX, 1, none⟩ = some (.int .i64 at0) := OX.cell 1
  have cc9 : x10.cell? ⟨kG, 0, none⟩ = some (.slice pG ml.length cG) := OG.cell 0
  have cc10 : x10.cell? ⟨kG, 1, none⟩ = some (.int .i64 oa) := OG.cell 1
  have cc11 : x10.cell? ⟨kG, 2, none⟩ = some (.int .i64 ond) := OG.cell 2
  have cc12 : x10.cell? ⟨kG, 3, none⟩ = some (.int .i64 osd) := OG.cell 3
  have cc13 : x10.cell? ⟨kG, 4, none⟩ = some (.int .i64 oc) := OG.cell 4
  go_wp2_with fail
  refine (toNums_any a1 cap1 nodes _ hl1 hrow1).mono ?_
  rintro e x11 ⟨rfl, rr, bb⟩
  clear cc0 cc1 cc2 cc3 cc4 cc5 cc6 cc7 cc8 cc9 cc10 cc11 cc12 cc13
  have z22 : Hid (_ ≤ _) := bb.size
  replace P := P.keep bb
  replace hrow := hrow.keep bb
  replace hrow1 := hrow1.keep bb
  replace oS := oS.keep bb
  replace OS := OS.keep bb
  replace og3 := og3.keep bb
  replace OX := OX.keep bb
  replace og5 := og5.keep bb
  replace oG := oG.keep bb
  replace OG := OG.keep bb
  replace B := B.trans (bb.mono B.size)
  clear bb
  have og6 := OwnNums.of_row (lo := x10.heap.size) rr (Nat.le_refl _)
  obtain ⟨g6, hgg6⟩ : ∃ g, x10.heap.size = g := ⟨_, rfl⟩
  have HLg6 : Hid (x10.heap.size = g6) := hgg6
  have HBg6 : Hid (x10.heap.size < x11.heap.size) := rr.lt
  rw [hgg6] at og6 ⊢
  clear rr hgg6
  have HQg6 : Hid (∀ b off, some (⟨g6, 0, none⟩ : Addr) = some ⟨b, off, none⟩ → b = g6) := fun b off e => by simp at e; exact e.1.symm
  have cc0 : x11.cell? ⟨w.heap.size, 0, none⟩ = some (.slice p l.length cap) := P.cell 0
  have cc1 : x11.cell? ⟨w.heap.size, 1, none⟩ = some (.int .i64 at0) := P.cell 1
  have cc2 : x11.cell? ⟨kS, 0, none⟩ = some (.slice pS ml.length cS) := OS.cell 0
  have cc3 : x11.cell? ⟨kS, 1, none⟩ = some (.int .i64 oa) := OS.cell 1
  have cc4 : x11.cell? ⟨kS, 2, none⟩ = some (.int .i64 ond) := OS.cell 2
  have cc5 : x11.cell? ⟨kS, 3, none⟩ = some (.int .i64 osd) := OS.cell 3
  have cc6 : x11.cell? ⟨kS, 4, none⟩ = some (.int .i64 oc) := OS.cell 4
  have cc7 : x11.cell? ⟨kX, 0, none⟩ = some (.slice (some ⟨g3, 0, none⟩) l.length l.length) := OX.cell 0
  have cc8 : x11.cell? ⟨kX, 1, none⟩ = some (.int .i64 at0) := OX.cell 1
  have cc9 : x11.cell? ⟨kG, 0, none⟩ = some (.slice pG ml.length cG) := OG.cell 0
  have cc10 : x11.cell? ⟨kG, 1, none⟩ = some (.int .i64 oa) := OG.cell 1
  have cc11 : x11.cell? ⟨kG, 2, none⟩ = some (.int .i64 ond) := OG.cell 2
  have cc12 : x11.cell? ⟨kG, 3, none⟩ = some (.int .i64 osd) := OG.cell 3
  have cc13 : x11.cell? ⟨kG, 4, none⟩ = some (.int .i64 oc) := OG.cell 4
  go_wp2_with fail
  refine (eqNums_same _ _ _ _ nodes _ hl1 og5.row og6.row).mono ?_
  rintro e x12 ⟨rfl, bb⟩
  clear cc0 cc1 cc2 cc3 cc4 cc5 cc6 cc7 cc8 cc9 cc10 cc11 cc12 cc13
  have z25 : Hid (_ ≤ _) := bb.size
  replace P := P.keep bb
  replace hrow := hrow.keep bb
  replace hrow1 := hrow1.keep bb
  replace oS := oS.keep bb
  replace OS := OS.keep bb
  replace og3 := og3.keep bb
  replace OX := OX.keep bb
  replace og5 := og5.keep bb
  replace oG := oG.keep bb
  replace OG := OG.keep bb
  replace og6 := og6.keep bb
  replace B := B.trans (bb.mono B.size)
  clear bb
  clear og6
  have cc0 : x12.cell? ⟨w.heap.size, 0, none⟩ = some (.slice p l.length cap) := P.cell 0
  have cc1 : x12.cell? ⟨w.heap.size, 1, none⟩ = some (.int .i64 at0) := P.cell 1
  have cc2 : x12.cell? ⟨kS, 0, none⟩ = some (.slice pS ml.length cS) := OS.cell 0
  have cc3 : x12.cell? ⟨kS, 1, none⟩ = some (.int .i64 oa) := OS.cell 1
  have cc4 : x12.cell? ⟨kS, 2, none⟩ = some (.int .i64 ond) := OS.cell 2
  have cc5 : x12.cell? ⟨kS, 3, none⟩ = some (.int .i64 osd) := OS.cell 3
  have cc6 : x12.cell? ⟨kS, 4, none⟩ = some (.int .i64 oc) := OS.cell 4
  have cc7 : x12.cell? ⟨kX, 0, none⟩ = some (.slice (some ⟨g3, 0, none⟩) l.length l.length) := OX.cell 0
  have cc8 : x12.cell? ⟨kX, 1, none⟩ = some (.int .i64 at0) := OX.cell 1
  have cc9 : x12.cell? ⟨kG, 0, none⟩ = some (.slice pG ml.length cG) := OG.cell 0
  have cc10 : x12.cell? ⟨kG, 1, none⟩ = some (.int .i64 oa) := OG.cell 1
  have cc11 : x12.cell? ⟨kG, 2, none⟩ = some (.int .i64 ond) := OG.cell 2
  have cc12 : x12.cell? ⟨kG, 3, none⟩ = some (.int .i64 osd) := OG.cell 3
  have cc13 : x12.cell? ⟨kG, 4, none⟩ = some (.int .i64 oc) := OG.cell 4
  go_wp2_with fail
  refine (markTurn_any _ (some ⟨g3, 0, none⟩) _ l at0 1 _ hll (by omega) (by omega) (by have := HWS.out; have := z1.out; have := z2.out; have := HBg1.out; have := z4.out; have := HLg2.out; have := HBg2.out; have := z7.out; have := HKS.out; have := zzS.out; have := z10.out; have := HBg3.out; have := HKX.out; have := zzX.out; have := z14.out; have := HLg5.out; have := HBg5.out; have := z17.out; have := HKG.out; have := zzG.out; have := z20.out; have := z21.out; have := z22.out; have := HLg6.out; have := HBg6.out; have := z25.out; omega) og3).mono ?_
  rintro e x13 ⟨rfl, _, bm, kb⟩
  clear cc0 cc1 cc2 cc3 cc4 cc5 cc6 cc7 cc8 cc9 cc10 cc11 cc12 cc13
  replace P := P.besideQ (kb _ P.lt (fun b off e => by have := HWS.out; have := z1.out; have := z2.out; have := HBg1.out; have := z4.out; have := HLg2.out; have := HBg2.out; have := z7.out; have := HKS.out; have := zzS.out; have := z10.out; have := HBg3.out; have := HKX.out; have := zzX.out; have := z14.out; have := HLg5.out; have := HBg5.out; have := z17.out; have := HKG.out; have := zzG.out; have := z20.out; have := z21.out; have := z22.out; have := HLg6.out; have := HBg6.out; have := z25.out; (simp at e); omega))
  replace oS := oS.besideQ (fun bq oq eq hq => kb _ hq (fun b off e => by have := HBS.out bq oq eq; have := HWS.out; have := z1.out; have := z2.out; have := HBg1.out; have := z4.out; have := HLg2.out; have := HBg2.out; have := z7.out; have := HKS.out; have := zzS.out; have := z10.out; have := HBg3.out; have := HKX.out; have := zzX.out; have := z14.out; have := HLg5.out; have := HBg5.out; have := z17.out; have := HKG.out; have := zzG.out; have := z20.out; have := z21.out; have := z22.out; have := HLg6.out; have := HBg6.out; have := z25.out; (simp at e); omega)) bm.size
  replace OS := OS.besideQ (kb _ OS.lt (fun b off e => by have := HWS.out; have := z1.out; have := z2.out; have := HBg1.out; have := z4.out; have := HLg2.out; have := HBg2.out; have := z7.out; have := HKS.out; have := zzS.out; have := z10.out; have := HBg3.out; have := HKX.out; have := zzX.out; have := z14.out; have := HLg5.out; have := HBg5.out; have := z17.out; have := HKG.out; have := zzG.out; have := z20.out; have := z21.out; have := z22.out; have := HLg6.out; have := HBg6.out; have := z25.out; (simp at e); omega))
  replace OX := OX.besideQ (kb _ OX.lt (fun b off e => by have := HWS.out; have := z1.out; have := z2.out; have := HBg1.out; have := z4.out; have := HLg2.out; have := HBg2.out; have := z7.out; have := HKS.out; have := zzS.out; have := z10.out; have := HBg3.out; have := HKX.out; have := zzX.out; have := z14.out; have := HLg5.out; have := HBg5.out; have := z17.out; have := HKG.out; have := zzG.out; have := z20.out; have := z21.out; have := z22.out; have := HLg6.out; have := HBg6.out; have := z25.out; (simp at e); omega))
  replace og5 := og5.besideQ (fun bq oq eq hq => kb _ hq (fun b off e => by have := HQg5.out bq oq eq; have := HWS.out; have := z1.out; have := z2.out; have := HBg1.out; have := z4.out; have := HLg2.out; have := HBg2.out; have := z7.out; have := HKS.out; have := zzS.out; have := z10.out; have := HBg3.out; have := HKX.out; have := zzX.out; have := z14.out; have := HLg5.out; have := HBg5.out; have := z17.out; have := HKG.out; have := zzG.out; have := z20.out; have := z21.out; have := z22.out; have := HLg6.out; have := HBg6.out; have := z25.out; (simp at e); omega)) bm.size
  replace oG := oG.besideQ (fun bq oq eq hq => kb _ hq (fun b off e => by have := HBG.out bq oq eq; have := HWS.out; have := z1.out; have := z2.out; have := HBg1.out; have := z4.out; have := HLg2.out; have := HBg2.out; have := z7.out; have := HKS.out; have := zzS.out; have := z10.out; have := HBg3.out; have := HKX.out; have := zzX.out; have := z14.out; have := HLg5.out; have := HBg5.out; have := z17.out; have := HKG.out; have := zzG.out; have := z20.out; have := z21.out; have := z22.out; have := HLg6.out; have := HBg6.out; have := z25.out; (simp at e); omega)) bm.size
  replace OG := OG.besideQ (kb _ OG.lt (fun b off e => by have := HWS.out; have := z1.out; have := z2.out; have := HBg1.out; have := z4.out; have := HLg2.out; have := HBg2.out; have := z7.out; have := HKS.out; have := zzS.out; have := z10.out; have := HBg3.out; have := HKX.out; have := zzX.out; have := z14.out; have := HLg5.out; have := HBg5.out; have := z17.out; have := HKG.out; have := zzG.out; have := z20.out; have := z21.out; have := z22.out; have := HLg6.out; have := HBg6.out; have := z25.out; (simp at e); omega))
  clear og3
  have z26 : Hid (_ ≤ _) := bm.size
  replace B := B.trans (bm.mono (by have := HWS.out; have := z1.out; have := z2.out; have := HBg1.out; have := z4.out; have := HLg2.out; have := HBg2.out; have := z7.out; have := HKS.out; have := zzS.out; have := z10.out; have := HBg3.out; have := HKX.out; have := zzX.out; have := z14.out; have := HLg5.out; have := HBg5.out; have := z17.out; have := HKG.out; have := zzG.out; have := z20.out; have := z21.out; have := z22.out; have := HLg6.out; have := HBg6.out; have := z25.out; have := z26.out; omega))
  clear bm kb
  replace hrow := hrow0.keep B
  replace hrow1 := hrow10.keep B
  clear OX
  have cc0 : x13.cell? ⟨w.heap.size, 0, none⟩ = some (.slice p l.length cap) := P.cell 0
  have cc1 : x13.cell? ⟨w.heap.size, 1, none⟩ = some (.int .i64 at0) := P.cell 1
  have cc2 : x13.cell? ⟨kS, 0, none⟩ = some (.slice pS ml.length cS) := OS.cell 0
  have cc3 : x13.cell? ⟨kS, 1, none⟩ = some (.int .i64 oa) := OS.cell 1
  have cc4 : x13.cell? ⟨kS, 2, none⟩ = some (.int .i64 ond) := OS.cell 2
  have cc5 : x13.cell? ⟨kS, 3, none⟩ = some (.int .i64 osd) := OS.cell 3
  have cc6 : x13.cell? ⟨kS, 4, none⟩ = some (.int .i64 oc) := OS.cell 4
  have cc7 : x13.cell? ⟨kG, 0, none⟩ = some (.slice pG ml.length cG) := OG.cell 0
  have cc8 : x13.cell? ⟨kG, 1, none⟩ = some (.int .i64 oa) := OG.cell 1
  have cc9 : x13.cell? ⟨kG, 2, none⟩ = some (.int .i64 ond) := OG.cell 2
  have cc10 : x13.cell? ⟨kG, 3, none⟩ = some (.int .i64 osd) := OG.cell 3
  have cc11 : x13.cell? ⟨kG, 4, none⟩ = some (.int .i64 oc) := OG.cell 4
  go_wp2_with fail
  refine (mark_any _ (some ⟨g5, 0, none⟩) _ nodes (1 + l.length) _ hl1 (by omega) (by omega) (by have := HWS.out; have := z1.out; have := z2.out; have := HBg1.out; have := z4.out; have := HLg2.out; have := HBg2.out; have := z7.out; have := HKS.out; have := zzS.out; have := z10.out; have := HBg3.out; have := HKX.out; have := zzX.out; have := z14.out; have := HLg5.out; have := HBg5.out; have := z17.out; have := HKG.out; have := zzG.out; have := z20.out; have := z21.out; have := z22.out; have := HLg6.out; have := HBg6.out; have := z25.out; have := z26.out; omega) og5).mono ?_
  rintro e x14 ⟨rfl, _, bm, kb0, sb⟩
  clear cc0 cc1 cc2 cc3 cc4 cc5 cc6 cc7 cc8 cc9 cc10 cc11
  have kb : ∀ c, c < x13.heap.size → (∀ b off, some (⟨g5, 0, none⟩ : Addr) = some ⟨b, off, none⟩ → c ≠ b) → x14.heap[c]? = x13.heap[c]? := fun c _ => kb0 c
  clear kb0 sb
  replace P := P.besideQ (kb _ P.lt (fun b off e => by have := HWS.out; have := z1.out; have := z2.out; have := HBg1.out; have := z4.out; have := HLg2.out; have := HBg2.out; have := z7.out; have := HKS.out; have := zzS.out; have := z10.out; have := HBg3.out; have := HKX.out; have := zzX.out; have := z14.out; have := HLg5.out; have := HBg5.out; have := z17.out; have := HKG.out; have := zzG.out; have := z20.out; have := z21.out; have := z22.out; have := HLg6.out; have := HBg6.out; have := z25.out; have := z26.out; (simp at e); omega))
  replace oS := oS.besideQ (fun bq oq eq hq => kb _ hq (fun b off e => by have := HBS.out bq oq eq; have := HWS.out; have := z1.out; have := z2.out; have := HBg1.out; have := z4.out; have := HLg2.out; have := HBg2.out; have := z7.out; have := HKS.out; have := zzS.out; have := z10.out; have := HBg3.out; have := HKX.out; have := zzX.out; have := z14.out; have := HLg5.out; have := HBg5.out; have := z17.out; have := HKG.out; have := zzG.out; have := z20.out; have := z21.out; have := z22.out; have := HLg6.out; have := HBg6.out; have := z25.out; have := z26.out; (simp at e); omega)) bm.size
  replace OS := OS.besideQ (kb _ OS.lt (fun b off e => by have := HWS.out; have := z1.out; have := z2.out; have := HBg1.out; have := z4.out; have := HLg2.out; have := HBg2.out; have := z7.out; have := HKS.out; have := zzS.out; have := z10.out; have := HBg3.out; have := HKX.out; have := zzX.out; have := z14.out; have := HLg5.out; have := HBg5.out; have := z17.out; have := HKG.out; have := zzG.out; have := z20.out; have := z21.out; have := z22.out; have := HLg6.out; have := HBg6.out; have := z25.out; have := z26.out; (simp at e); omega))
  replace oG := oG.besideQ (fun bq oq eq hq => kb _ hq (fun b off e => by have := HBG.out bq oq eq; have := HWS.out; have := z1.out; have := z2.out; have := HBg1.out; have := z4.out; have := HLg2.out; have := HBg2.out; have := z7.out; have := HKS.out; have := zzS.out; have := z10.out; have := HBg3.out; have := HKX.out; have := zzX.out; have := z14.out; have := HLg5.out; have := HBg5.out; have := z17.out; have := HKG.out; have := zzG.out; have := z20.out; have := z21.out; have := z22.out; have := HLg6.out; have := HBg6.out; have := z25.out; have := z26.out; (simp at e); omega)) bm.size
  replace OG := OG.besideQ (kb _ OG.lt (fun b off e => by have := HWS.out; have := z1.out; have := z2.out; have := HBg1.out; have := z4.out; have := HLg2.out; have := HBg2.out; have := z7.out; have := HKS.out; have := zzS.out; have := z10.out; have := HBg3.out; have := HKX.out; have := zzX.out; have := z14.out; have := HLg5.out; have := HBg5.out; have := z17.out; have := HKG.out; have := zzG.out; have := z20.out; have := z21.out; have := z22.out; have := HLg6.out; have := HBg6.out; have := z25.out; have := z26.out; (simp at e); omega))
  clear og5
  have z27 : Hid (_ ≤ _) := bm.size
  replace B := B.trans (bm.mono (by have := HWS.out; have := z1.out; have := z2.out; have := HBg1.out; have := z4.out; have := HLg2.out; have := HBg2.out; have := z7.out; have := HKS.out; have := zzS.out; have := z10.out; have := HBg3.out; have := HKX.out; have := zzX.out; have := z14.out; have := HLg5.out; have := HBg5.out; have := z17.out; have := HKG.out; have := zzG.out; have := z20.out; have := z21.out; have := z22.out; have := HLg6.out; have := HBg6.out; have := z25.out; have := z26.out; have := z27.out; omega))
  clear bm kb
  replace hrow := hrow0.keep B
  replace hrow1 := hrow10.keep B
  have hkk : ¬ ((1 + l.length) + (nodes.length : Int)) < 0 := by omega
  have cc0 : x14.cell? ⟨w.heap.size, 0, none⟩ = some (.slice p l.length cap) := P.cell 0
  have cc1 : x14.cell? ⟨w.heap.size, 1, none⟩ = some (.int .i64 at0) := P.cell 1
  have cc2 : x14.cell? ⟨kS, 0, none⟩ = some (.slice pS ml.length cS) := OS.cell 0
  have cc3 : x14.cell? ⟨kS, 1, none⟩ = some (.int .i64 oa) := OS.cell 1
  have cc4 : x14.cell? ⟨kS, 2, none⟩ = some (.int .i64 ond) := OS.cell 2
  have cc5 : x14.cell? ⟨kS, 3, none⟩ = some (.int .i64 osd) := OS.cell 3
  have cc6 : x14.cell? ⟨kS, 4, none⟩ = some (.int .i64 oc) := OS.cell 4
  have cc7 : x14.cell? ⟨kG, 0, none⟩ = some (.slice pG ml.length cG) := OG.cell 0
  have cc8 : x14.cell? ⟨kG, 1, none⟩ = some (.int .i64 oa) := OG.cell 1
  have cc9 : x14.cell? ⟨kG, 2, none⟩ = some (.int .i64 ond) := OG.cell 2
  have cc10 : x14.cell? ⟨kG, 3, none⟩ = some (.int .i64 osd) := OG.cell 3
  have cc11 : x14.cell? ⟨kG, 4, none⟩ = some (.int .i64 oc) := OG.cell 4
  go_wp2_with fail
  refine (eqTOut_same pG pS cG cS ⟨ml, oa, ond, osd, oc⟩ _ (by dsimp only; omega) oG.row oS.row).mono ?_
  rintro e x15 ⟨rfl, bb⟩
  clear cc0 cc1 cc2 cc3 cc4 cc5 cc6 cc7 cc8 cc9 cc10 cc11
  have z28 : Hid (_ ≤ _) := bb.size
  replace P := P.keep bb
  replace hrow := hrow.keep bb
  replace hrow1 := hrow1.keep bb
  replace oS := oS.keep bb
  replace OS := OS.keep bb
  replace oG := oG.keep bb
  replace OG := OG.keep bb
  replace B := B.trans (bb.mono B.size)
  clear bb
  clear hkk
  have cc0 : x15.cell? ⟨w.heap.size, 0, none⟩ = some (.slice p l.length cap) := P.cell 0
  have cc1 : x15.cell? ⟨w.heap.size, 1, none⟩ = some (.int .i64 at0) := P.cell 1
  have cc2 : x15.cell? ⟨kS, 0, none⟩ = some (.slice pS ml.length cS) := OS.cell 0
  have cc3 : x15.cell? ⟨kS, 1, none⟩ = some (.int .i64 oa) := OS.cell 1
  have cc4 : x15.cell? ⟨kS, 2, none⟩ = some (.int .i64 ond) := OS.cell 2
  have cc5 : x15.cell? ⟨kS, 3, none⟩ = some (.int .i64 osd) := OS.cell 3
  have cc6 : x15.cell? ⟨kS, 4, none⟩ = some (.int .i64 oc) := OS.cell 4
  have cc7 : x15.cell? ⟨kG, 0, none⟩ = some (.slice pG ml.length cG) := OG.cell 0
  have cc8 : x15.cell? ⟨kG, 1, none⟩ = some (.int .i64 oa) := OG.cell 1
  have cc9 : x15.cell? ⟨kG, 2, none⟩ = some (.int .i64 ond) := OG.cell 2
  have cc10 : x15.cell? ⟨kG, 3, none⟩ = some (.int .i64 osd) := OG.cell 3
  have cc11 : x15.cell? ⟨kG, 4, none⟩ = some (.int .i64 oc) := OG.cell 4
  go_wp2_with fail
  refine (markTOut_any _ pG cG ⟨ml, oa, ond, osd, oc⟩ 1 _ (by dsimp only; omega) (by omega) (by omega) (by have := HWS.out; have := z1.out; have := z2.out; have := HBg1.out; have := z4.out; have := HLg2.out; have := HBg2.out; have := z7.out; have := HKS.out; have := zzS.out; have := z10.out; have := HBg3.out; have := HKX.out; have := zzX.out; have := z14.out; have := HLg5.out; have := HBg5.out; have := z17.out; have := HKG.out; have := zzG.out; have := z20.out; have := z21.out; have := z22.out; have := HLg6.out; have := HBg6.out; have := z25.out; have := z26.out; have := z27.out; have := z28.out; omega) oG).mono ?_
  rintro e x16 ⟨rfl, oM, bm, kb⟩
  clear cc0 cc1 cc2 cc3 cc4 cc5 cc6 cc7 cc8 cc9 cc10 cc11
  replace P := P.besideQ (kb _ P.lt (fun b off e => by have := HWS.out; have := z1.out; have := z2.out; have := HBg1.out; have := z4.out; have := HLg2.out; have := HBg2.out; have := z7.out; have := HKS.out; have := zzS.out; have := z10.out; have := HBg3.out; have := HKX.out; have := zzX.out; have := z14.out; have := HLg5.out; have := HBg5.out; have := z17.out; have := HKG.out; have := zzG.out; have := z20.out; have := z21.out; have := z22.out; have := HLg6.out; have := HBg6.out; have := z25.out; have := z26.out; have := z27.out; have := z28.out; have := HBG.out b off e; omega))
  replace oS := oS.besideQ (fun bq oq eq hq => kb _ hq (fun b off e => by have := HBS.out bq oq eq; have := HWS.out; have := z1.out; have := z2.out; have := HBg1.out; have := z4.out; have := HLg2.out; have := HBg2.out; have := z7.out; have := HKS.out; have := zzS.out; have := z10.out; have := HBg3.out; have := HKX.out; have := zzX.out; have := z14.out; have := HLg5.out; have := HBg5.out; have := z17.out; have := HKG.out; have := zzG.out; have := z20.out; have := z21.out; have := z22.out; have := HLg6.out; have := HBg6.out; have := z25.out; have := z26.out; have := z27.out; have := z28.out; have := HBG.out b off e; omega)) bm.size
  replace OS := OS.besideQ (kb _ OS.lt (fun b off e => by have := HWS.out; have := z1.out; have := z2.out; have := HBg1.out; have := z4.out; have := HLg2.out; have := HBg2.out; have := z7.out; have := HKS.out; have := zzS.out; have := z10.out; have := HBg3.out; have := HKX.out; have := zzX.out; have := z14.out; have := HLg5.out; have := HBg5.out; have := z17.out; have := HKG.out; have := zzG.out; have := z20.out; have := z21.out; have := z22.out; have := HLg6.out; have := HBg6.out; have := z25.out; have := z26.out; have := z27.out; have := z28.out; have := HBG.out b off e; omega))
  replace OG := OG.besideQ (kb _ OG.lt (fun b off e => by have := HWS.out; have := z1.out; have := z2.out; have := HBg1.out; have := z4.out; have := HLg2.out; have := HBg2.out; have := z7.out; have := HKS.out; have := zzS.out; have := z10.out; have := HBg3.out; have := HKX.out; have := zzX.out; have := z14.out; have := HLg5.out; have := HBg5.out; have := z17.out; have := HKG.out; have := zzG.out; have := z20.out; have := z21.out; have := z22.out; have := HLg6.out; have := HBg6.out; have := z25.out; have := z26.out; have := z27.out; have := z28.out; have := HBG.out b off e; omega))
  clear oG
  have z29 : Hid (_ ≤ _) := bm.size
  replace B := B.trans (bm.mono (by have := HWS.out; have := z1.out; have := z2.out; have := HBg1.out; have := z4.out; have := HLg2.out; have := HBg2.out; have := z7.out; have := HKS.out; have := zzS.out; have := z10.out; have := HBg3.out; have := HKX.out; have := zzX.out; have := z14.out; have := HLg5.out; have := HBg5.out; have := z17.out; have := HKG.out; have := zzG.out; have := z20.out; have := z21.out; have := z22.out; have := HLg6.out; have := HBg6.out; have := z25.out; have := z26.out; have := z27.out; have := z28.out; have := z29.out; omega))
  clear bm kb
  replace hrow := hrow0.keep B
  replace hrow1 := hrow10.keep B
  try dsimp only at oM ⊢
  have hmm : ¬ (1 + (ml.length : Int)) < 0 := by omega
  have cc0 : x16.cell? ⟨w.heap.size, 0, none⟩ = some (.slice p l.length cap) := P.cell 0
  have cc1 : x16.cell? ⟨w.heap.size, 1, none⟩ = some (.int .i64 at0) := P.cell 1
  have cc2 : x16.cell? ⟨kS, 0, none⟩ = some (.slice pS ml.length cS) := OS.cell 0
  have cc3 : x16.cell? ⟨kS, 1, none⟩ = some (.int .i64 oa) := OS.cell 1
  have cc4 : x16.cell? ⟨kS, 2, none⟩ = some (.int .i64 ond) := OS.cell 2
  have cc5 : x16.cell? ⟨kS, 3, none⟩ = some (.int .i64 osd) := OS.cell 3
  have cc6 : x16.cell? ⟨kS, 4, none⟩ = some (.int .i64 oc) := OS.cell 4
  have cc7 : x16.cell? ⟨kG, 0, none⟩ = some (.slice pG ml.length cG) := OG.cell 0
  have cc8 : x16.cell? ⟨kG, 1, none⟩ = some (.int .i64 oa) := OG.cell 1
  have cc9 : x16.cell? ⟨kG, 2, none⟩ = some (.int .i64 ond) := OG.cell 2
  have cc10 : x16.cell? ⟨kG, 3, none⟩ = some (.int .i64 osd) := OG.cell 3
  have cc11 : x16.cell? ⟨kG, 4, none⟩ = some (.int .i64 oc) := OG.cell 4
  go_wp2_with fail
  refine (heldTOut_any pG cG ml.length oa ond osd oc 1 _ (by omega) (by omega) (by omega) oM.row).mono ?_
  rintro e x17 ⟨rfl, bb⟩
  clear cc0 cc1 cc2 cc3 cc4 cc5 cc6 cc7 cc8 cc9 cc10 cc11
  have z30 : Hid (_ ≤ _) := bb.size
  replace P := P.keep bb
  replace hrow := hrow.keep bb
  replace hrow1 := hrow1.keep bb
  replace oS := oS.keep bb
  replace OS := OS.keep bb
  replace OG := OG.keep bb
  replace oM := oM.keep bb
  replace B := B.trans (bb.mono B.size)
  clear bb
  have cc0 : x17.cell? ⟨w.heap.size, 0, none⟩ = some (.slice p l.length cap) := P.cell 0
  have cc1 : x17.cell? ⟨w.heap.size, 1, none⟩ = some (.int .i64 at0) := P.cell 1
  have cc2 : x17.cell? ⟨kS, 0, none⟩ = some (.slice pS ml.length cS) := OS.cell 0
  have cc3 : x17.cell? ⟨kS, 1, none⟩ = some (.int .i64 oa) := OS.cell 1
  have cc4 : x17.cell? ⟨kS, 2, none⟩ = some (.int .i64 ond) := OS.cell 2
  have cc5 : x17.cell? ⟨kS, 3, none⟩ = some (.int .i64 osd) := OS.cell 3
  have cc6 : x17.cell? ⟨kS, 4, none⟩ = some (.int .i64 oc) := OS.cell 4
  have cc7 : x17.cell? ⟨kG, 0, none⟩ = some (.slice pG ml.length cG) := OG.cell 0
  have cc8 : x17.cell? ⟨kG, 1, none⟩ = some (.int .i64 oa) := OG.cell 1
  have cc9 : x17.cell? ⟨kG, 2, none⟩ = some (.int .i64 ond) := OG.cell 2
  have cc10 : x17.cell? ⟨kG, 3, none⟩ = some (.int .i64 osd) := OG.cell 3
  have cc11 : x17.cell? ⟨kG, 4, none⟩ = some (.int .i64 oc) := OG.cell 4
  go_wp2_with fail
  refine (toTurn_any p cap l at0 _ hll hrow).mono ?_
  rintro e x18 ⟨g7, rfl, og7, hbg7, bb⟩
  clear cc0 cc1 cc2 cc3 cc4 cc5 cc6 cc7 cc8 cc9 cc10 cc11
  have z31 : Hid (_ ≤ _) := bb.size
  replace P := P.keep bb
  replace hrow := hrow.keep bb
  replace hrow1 := hrow1.keep bb
  replace oS := oS.keep bb
  replace OS := OS.keep bb
  replace OG := OG.keep bb
  replace oM := oM.keep bb
  replace B := B.trans (bb.mono B.size)
  clear bb
  unfold turnV
  have HBg7 : Hid (_ ≤ g7 ∧ g7 < _) := hbg7
  clear hbg7
  have HQg7 : Hid (∀ b off, some (⟨g7, 0, none⟩ : Addr) = some ⟨b, off, none⟩ → b = g7) := fun b off e => by simp at e; exact e.1.symm
  have cc0 : x18.cell? ⟨w.heap.size, 0, none⟩ = some (.slice p l.length cap) := P.cell 0
  have cc1 : x18.cell? ⟨w.heap.size, 1, none⟩ = some (.int .i64 at0) := P.cell 1
  have cc2 : x18.cell? ⟨kS, 0, none⟩ = some (.slice pS ml.length cS) := OS.cell 0
  have cc3 : x18.cell? ⟨kS, 1, none⟩ = some (.int .i64 oa) := OS.cell 1
  have cc4 : x18.cell? ⟨kS, 2, none⟩ = some (.int .i64 ond) := OS.cell 2
  have cc5 : x18.cell? ⟨kS, 3, none⟩ = some (.int .i64 osd) := OS.cell 3
  have cc6 : x18.cell? ⟨kS, 4, none⟩ = some (.int .i64 oc) := OS.cell 4
  have cc7 : x18.cell? ⟨kG, 0, none⟩ = some (.slice pG ml.length cG) := OG.cell 0
  have cc8 : x18.cell? ⟨kG, 1, none⟩ = some (.int .i64 oa) := OG.cell 1
  have cc9 : x18.cell? ⟨kG, 2, none⟩ = some (.int .i64 ond) := OG.cell 2
  have cc10 : x18.cell? ⟨kG, 3, none⟩ = some (.int .i64 osd) := OG.cell 3
  have cc11 : x18.cell? ⟨kG, 4, none⟩ = some (.int .i64 oc) := OG.cell 4
  go_wp2_with fail
  refine (toNums_any a1 cap1 nodes _ hl1 hrow1).mono ?_
  rintro e x19 ⟨rfl, rr, bb⟩
  clear cc0 cc1 cc2 cc3 cc4 cc5 cc6 cc7 cc8 cc9 cc10 cc11
  have z33 : Hid (_ ≤ _) := bb.size
  replace P := P.keep bb
  replace hrow := hrow.keep bb
  replace hrow1 := hrow1.keep bb
  replace oS := oS.keep bb
  replace OS := OS.keep bb
  replace OG := OG.keep bb
  replace oM := oM.keep bb
  replace og7 := og7.keep bb
  replace B := B.trans (bb.mono B.size)
  clear bb
  have og8 := OwnNums.of_row (lo := x18.heap.size) rr (Nat.le_refl _)
  obtain ⟨g8, hgg8⟩ : ∃ g, x18.heap.size = g := ⟨_, rfl⟩
  have HLg8 : Hid (x18.heap.size = g8) := hgg8
  have HBg8 : Hid (x18.heap.size < x19.heap.size) := rr.lt
  rw [hgg8] at og8 ⊢
  clear rr hgg8
  have HQg8 : Hid (∀ b off, some (⟨g8, 0, none⟩ : Addr) = some ⟨b, off, none⟩ → b = g8) := fun b off e => by simp at e; exact e.1.symm
  have cc0 : x19.cell? ⟨w.heap.size, 0, none⟩ = some (.slice p l.length cap) := P.cell 0
  have cc1 : x19.cell? ⟨w.heap.size, 1, none⟩ = some (.int .i64 at0) := P.cell 1
  have cc2 : x19.cell? ⟨kS, 0, none⟩ = some (.slice pS ml.length cS) := OS.cell 0
  have cc3 : x19.cell? ⟨kS, 1, none⟩ = some (.int .i64 oa) := OS.cell 1
  have cc4 : x19.cell? ⟨kS, 2, none⟩ = some (.int .i64 ond) := OS.cell 2
  have cc5 : x19.cell? ⟨kS, 3, none⟩ = some (.int .i64 osd) := OS.cell 3
  have cc6 : x19.cell? ⟨kS, 4, none⟩ = some (.int .i64 oc) := OS.cell 4
  have cc7 : x19.cell? ⟨kG, 0, none⟩ = some (.slice pG ml.length cG) := OG.cell 0
  have cc8 : x19.cell? ⟨kG, 1, none⟩ = some (.int .i64 oa) := OG.cell 1
  have cc9 : x19.cell? ⟨kG, 2, none⟩ = some (.int .i64 ond) := OG.cell 2
  have cc10 : x19.cell? ⟨kG, 3, none⟩ = some (.int .i64 osd) := OG.cell 3
  have cc11 : x19.cell? ⟨kG, 4, none⟩ = some (.int .i64 oc) := OG.cell 4
  go_wp2_with fail
  refine ((implTNext_any _ _ ⟨l, at0⟩ _ _ nodes seed ⟨ml, oa, ond, osd, oc⟩ _ HP.out hll hl1 (Nat.le_refl _) og7.row og8.row).mono fun _ _ => tOutPost_own).mono ?_
  rintro e x20 ⟨pH, cH, rfl, oH, hbH, bb⟩
  clear cc0 cc1 cc2 cc3 cc4 cc5 cc6 cc7 cc8 cc9 cc10 cc11
  have z36 : Hid (_ ≤ _) := bb.size
  replace P := P.keep bb
  replace hrow := hrow.keep bb
  replace hrow1 := hrow1.keep bb
  replace oS := oS.keep bb
  replace OS := OS.keep bb
  replace OG := OG.keep bb
  replace oM := oM.keep bb
  replace og7 := og7.keep bb
  replace og8 := og8.keep bb
  replace B := B.trans (bb.mono B.size)
  clear bb
  have HBH : Hid (∀ b off, pH = some ⟨b, off, none⟩ → _ ≤ b ∧ b < _) := hbH
  clear hbH
  unfold turnOutV
  try dsimp only at oH ⊢
  clear og7 og8
  have aH := (Below.refl x20.heap.size x20).alloc (Nat.le_refl _) (.cells #[.slice pH ml.length cH, .int .i64 oa, .int .i64 ond, .int .i64 osd, .int .i64 oc] 29)
  have OH := BlkIs.new x20 29 #[.slice pH ml.length cH, .int .i64 oa, .int .i64 ond, .int .i64 osd, .int .i64 oc]
  replace P := P.keep aH
  replace hrow := hrow.keep aH
  replace hrow1 := hrow1.keep aH
  replace oS := oS.keep aH
  replace OS := OS.keep aH
  replace OG := OG.keep aH
  replace oM := oM.keep aH
  replace oH := oH.keep aH
  replace B := B.trans (aH.mono B.size)
  have hxyH : x20.heap.size < (x20.alloc (.cells #[.slice pH ml.length cH, .int .i64 oa, .int .i64 ond, .int .i64 osd, .int .i64 oc] 29)).heap.size := by simp
  obtain ⟨yH, hyH⟩ : ∃ y, x20.alloc (.cells #[.slice pH ml.length cH, .int .i64 oa, .int .i64 ond, .int .i64 osd, .int .i64 oc] 29) = y := ⟨_, rfl⟩
  obtain ⟨kH, hkH⟩ : ∃ k, x20.heap.size = k := ⟨_, rfl⟩
  rw [hyH] at OH B hxyH P hrow hrow1 oS OS OG oM oH
  rw [hkH] at OH hxyH
  have HYH : Hid (_ = yH) := hyH
  have HKH : Hid (x20.heap.size = kH) := hkH
  clear hyH aH
  go_upto_region 31 with fail
  rw [HYH.out]
  clear HYH hkH
  have zzH : Hid (kH < yH.heap.size) := hxyH
  have zwH : Hid (_ ≤ _) := Nat.le_of_lt (show kH < yH.heap.size from hxyH)
  clear hxyH
  have cc0 : yH.cell? ⟨w.heap.size, 0, none⟩ = some (.slice p l.length cap) := P.cell 0
  have cc1 : yH.cell? ⟨w.heap.size, 1, none⟩ = some (.int .i64 at0) := P.cell 1
  have cc2 : yH.cell? ⟨kS, 0, none⟩ = some (.slice pS ml.length cS) := OS.cell 0
  have cc3 : yH.cell? ⟨kS, 1, none⟩ = some (.int .i64 oa) := OS.cell 1
  have cc4 : yH.cell? ⟨kS, 2, none⟩ = some (.int .i64 ond) := OS.cell 2
  have cc5 : yH.cell? ⟨kS, 3, none⟩ = some (.int .i64 osd) := OS.cell 3
  have cc6 : yH.cell? ⟨kS, 4, none⟩ = some (.int .i64 oc) := OS.cell 4
  have cc7 : yH.cell? ⟨kG, 0, none⟩ = some (.slice pG ml.length cG) := OG.cell 0
  have cc8 : yH.cell? ⟨kG, 1, none⟩ = some (.int .i64 oa) := OG.cell 1
  have cc9 : yH.cell? ⟨kG, 2, none⟩ = some (.int .i64 ond) := OG.cell 2
  have cc10 : yH.cell? ⟨kG, 3, none⟩ = some (.int .i64 osd) := OG.cell 3
  have cc11 : yH.cell? ⟨kG, 4, none⟩ = some (.int .i64 oc) := OG.cell 4
  have cc12 : yH.cell? ⟨kH, 0, none⟩ = some (.slice pH ml.length cH) := OH.cell 0
  have cc13 : yH.cell? ⟨kH, 1, none⟩ = some (.int .i64 oa) := OH.cell 1
  have cc14 : yH.cell? ⟨kH, 2, none⟩ = some (.int .i64 ond) := OH.cell 2
  have cc15 : yH.cell? ⟨kH, 3, none⟩ = some (.int .i64 osd) := OH.cell 3
  have cc16 : yH.cell? ⟨kH, 4, none⟩ = some (.int .i64 oc) := OH.cell 4
  go_wp2_with fail
  refine (eqTOut_same pH pS cH cS ⟨ml, oa, ond, osd, oc⟩ _ (by dsimp only; omega) oH.row oS.row).mono ?_
  rintro e x21 ⟨rfl, bb⟩
  clear cc0 cc1 cc2 cc3 cc4 cc5 cc6 cc7 cc8 cc9 cc10 cc11 cc12 cc13 cc14 cc15 cc16
  have z39 : Hid (_ ≤ _) := bb.size
  replace P := P.keep bb
  replace hrow := hrow.keep bb
  replace hrow1 := hrow1.keep bb
  replace oS := oS.keep bb
  replace OS := OS.keep bb
  replace OG := OG.keep bb
  replace oM := oM.keep bb
  replace oH := oH.keep bb
  replace OH := OH.keep bb
  replace B := B.trans (bb.mono B.size)
  clear bb
  clear oH OH oS OS
  have cc0 : x21.cell? ⟨w.heap.size, 0, none⟩ = some (.slice p l.length cap) := P.cell 0
  have cc1 : x21.cell? ⟨w.heap.size, 1, none⟩ = some (.int .i64 at0) := P.cell 1
  have cc2 : x21.cell? ⟨kG, 0, none⟩ = some (.slice pG ml.length cG) := OG.cell 0
  have cc3 : x21.cell? ⟨kG, 1, none⟩ = some (.int .i64 oa) := OG.cell 1
  have cc4 : x21.cell? ⟨kG, 2, none⟩ = some (.int .i64 ond) := OG.cell 2
  have cc5 : x21.cell? ⟨kG, 3, none⟩ = some (.int .i64 osd) := OG.cell 3
  have cc6 : x21.cell? ⟨kG, 4, none⟩ = some (.int .i64 oc) := OG.cell 4
  go_wp2_with fail
  refine (heldTOut_any pG cG ml.length oa ond osd oc 1 _ (by omega) (by omega) (by omega) oM.row).mono ?_
  rintro e x22 ⟨rfl, bb⟩
  clear cc0 cc1 cc2 cc3 cc4 cc5 cc6
  have z40 : Hid (_ ≤ _) := bb.size
  replace P := P.keep bb
  replace hrow := hrow.keep bb
  replace hrow1 := hrow1.keep bb
  replace OG := OG.keep bb
  replace oM := oM.keep bb
  replace B := B.trans (bb.mono B.size)
  clear bb
  have cc0 : x22.cell? ⟨w.heap.size, 0, none⟩ = some (.slice p l.length cap) := P.cell 0
  have cc1 : x22.cell? ⟨w.heap.size, 1, none⟩ = some (.int .i64 at0) := P.cell 1
  have cc2 : x22.cell? ⟨kG, 0, none⟩ = some (.slice pG ml.length cG) := OG.cell 0
  have cc3 : x22.cell? ⟨kG, 1, none⟩ = some (.int .i64 oa) := OG.cell 1
  have cc4 : x22.cell? ⟨kG, 2, none⟩ = some (.int .i64 ond) := OG.cell 2
  have cc5 : x22.cell? ⟨kG, 3, none⟩ = some (.int .i64 osd) := OG.cell 3
  have cc6 : x22.cell? ⟨kG, 4, none⟩ = some (.int .i64 oc) := OG.cell 4
  go_wp2
  go_ret
  exact ⟨rfl, B⟩

set_option maxRecDepth 100000 in
theorem FnExactTurnNext_lifted (os : Os) (started : os.Started) (H : Type) (enc : TypeId × Value → H) :
    ReturnsInHanded {} Try.checked os 5 .any (Rows.fnExactTurnNextSpec.pre6 enc Try.prog Try.f5 Rows.fnExactTurnNextRow.domain false) (Rows.fnExactTurnNextSpec.post enc Try.prog Try.f5 false true false false) := by
  refine returnsInHanded_of_change (C := Try.checked) (by kernel_rfl) started (by kernel_rfl) Try.func5
    (ChangeSpec.witness6 (enc := enc) (C := Try.checked) false ⟨#[], #[.agg #[.slice none 0 0, .int .i64 0], .slice none 0 0, .int .i64 0], []⟩ 8 (by kernel_rfl) (by kernel_rfl) (by kernel_rfl) (by kernel_rfl)) ?_
  intro W base args ds gs before hval0 hW hcnd _
  have hval : ∀ (j : Nat) t v, Try.f5.params[j]? = some t → args[j]? = some v → Value.okWide Try.prog W .any base t v := hval0
  have hW' := hW
  obtain ⟨p, q, hA0, hV, rfl, hfz, hnd⟩ := hW
  have hA : DataW.TrodAll enc Try.prog W 0 (fun _ => true) true Try.f5.params.toList args.toList ds p := hA0
  rw [Try.params5] at hA hval
  obtain ⟨v0, vs0, d0, ds0, p0, q0, hargs, rfl, rfl, h0, r0⟩ := trodAll_cons hA
  obtain ⟨v1, vs1, d1, ds1, p1, q1, rfl, rfl, rfl, h1, r1⟩ := trodAll_cons r0
  obtain ⟨v2, vs2, d2, ds2, p2, q2, rfl, rfl, rfl, h2, r2⟩ := trodAll_cons r1
  obtain ⟨rfl, rfl, rfl⟩ := trodAll_nil r2
  obtain rfl : args = #[v0, v1, v2] := by cases args; simp_all
  obtain ⟨rfl, rfl⟩ := trodVars_none hV
  have k0 := h0
  have lt0 : ∀ x ∈ p0, x.block < W.heap.size := by obtain ⟨m, hm⟩ := k0; exact DataW.trod_lt m _ _ _ hm
  obtain ⟨a0, rfl, w0⟩ := turnVal_open (hval 0 41 v0 rfl rfl) h0
  obtain ⟨a1, len1, cap1, rfl⟩ := okWide_slice Try.underlying23 (hval 1 23 v1 rfl rfl)
  have k1 := h1
  have lt1 : ∀ x ∈ p1, x.block < W.heap.size := by obtain ⟨m, hm⟩ := k1; exact DataW.trod_lt m _ _ _ hm
  obtain ⟨l1, el1, w1⟩ : ∃ l, len1 = l.length ∧ NumArg W a1 cap1 l := by
    obtain ⟨fuel, hf⟩ := h1
    rcases open_ints Try.underlying23 Try.underlying2 (by kernel_rfl) hf with ⟨hcs, _⟩ | ⟨x, l, c, zs, hcs, _, hl, hm, hz, _, hcell, hwz⟩
    · simp [Value.cells] at hcs
      obtain ⟨rfl, rfl, rfl⟩ := hcs
      exact ⟨[], rfl, numArg_nil _⟩
    · simp [Value.cells] at hcs
      obtain ⟨rfl, rfl, rfl⟩ := hcs
      exact numArg_of hl (by simpa using hz) hcell hwz
  subst el1
  obtain ⟨a2, rfl, rfl, rfl, w2⟩ := open_int Try.underlying2 (hval 2 2 v2 rfl rfl) h2
  clear hA0 hval0
  refine (FnExactTurnNext_walk a0 a1 cap1 l1 a2 W w0 w1 w2).mono fun e W' ⟨he, bel⟩ => ?_
  subst he
  exact ⟨_, rfl, _, _, _, [], _, [], hW', trodAll_mk1 (shut_bool Try.underlying4 _), (trodAll_cons_mk (Below.trod (show laidOutB Try.prog = true by kernel_rfl) (by kernel_rfl) (of_decide_eq_true (by kernel_rfl)) k0 bel lt0) (trodAll_cons_mk (Below.trod (show laidOutB Try.prog = true by kernel_rfl) (by kernel_rfl) (of_decide_eq_true (by kernel_rfl)) k1 bel lt1) (trodAll_cons_mk (shut_int Try.underlying2 w2) trodAll_mk0))), rfl, bel.frame _, fun h => by cases h⟩
/-- The statement. -/
theorem FnExactTurnNext_holds : Rows.FnExactTurnNextSaid :=
  OpenClaim.holds_of_wide 5 Try.f5 rfl rfl rfl rfl rfl rfl rfl ⟨rfl, rfl, rfl, rfl, rfl⟩ rfl rfl rfl rfl rfl (by kernel_rfl) Try.func5 (by kernel_rfl)
    (of_decide_eq_true (by kernel_rfl)) (by unfold Func.isWrapper; first | (rw [if_pos (by decide +kernel)]; kernel_rfl) | (rw [if_neg (by decide +kernel)]; exact ⟨rfl, rfl⟩))
    (fun os started H enc _ => FnExactTurnNext_lifted os started H enc)
#print axioms FnExactTurnNext_holds

end Go.Proofs.Ytpjmhaegdnahmaa
