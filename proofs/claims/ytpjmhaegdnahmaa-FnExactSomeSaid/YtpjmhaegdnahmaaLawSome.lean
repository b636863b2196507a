/- Proved: laws.FnExactSome answers true at every nodes, many and seed: Some of the program and of the specification are one function; it writes into no argument, and its answer owns its memory. No condition. -/
import Derived.Test.YtpjmhaegdnahmaaRows
import Derived.WalkKit
import Derived.ProofKit
import Derived.OpenShut
import Derived.ShutString
import Derived.ChangeOld
import Derived.Below
import Derived.Test.YtpjmhaegdnahmaaTArgs
namespace Go.Proofs.Ytpjmhaegdnahmaa
open Go Go.ChangeShapes Go.WideShapes Go.ChangeAt Go.RowKit
open Go.ChangeMaps (open_string shut_string)
set_option linter.unusedVariables false
set_option linter.unusedSimpArgs false

set_option maxHeartbeats 4000000 in
set_option maxRecDepth 100000 in
theorem FnExactSome_walk (a1 : Option Addr) (cap1 : Nat) (nodes : List Int) (many seed : Int) (w : World) (w0 : NumArg w a1 cap1 nodes) (w1 : (Lit.int .i64 many).wf = true) (w2 : (Lit.int .i64 seed).wf = true) :
    Calls Try.prog 6 #[.slice a1 nodes.length cap1, .int .i64 many, .int .i64 seed] w fun e w' => e = .returned (.bool true) ∧ Below w.heap.size w w' := by
  have hrow10 := w0.1
  obtain ⟨ml, os, hP⟩ := someIs_ex nodes many seed
  have hml := someIs_len hP
  have HP : Hid (SomeIs nodes many seed ml os) := hP
  clear hP w0 w1 w2
  have B := Below.refl w.heap.size w
  have hrow1 := hrow10
  by_cases hbig : 1048576 < (nodes.length : Int)
  · go_enter Try.func6, Try.ntmps6
    go_wp2
    go_ret
    exact ⟨rfl, B⟩
  have hl1 : nodes.length ≤ 1048576 := by omega
  go_enter Try.func6, Try.ntmps6
  go_wp2_with fail
  refine (toNums_any a1 cap1 nodes _ hl1 hrow1).mono ?_
  rintro e x1 ⟨rfl, rr, bb⟩
  have z0 : Hid (_ ≤ _) := bb.size
  replace hrow1 := hrow1.keep bb
  replace B := B.trans (bb.mono B.size)
  clear bb
  have og2 := OwnNums.of_row (lo := w.heap.size) rr (Nat.le_refl _)
  obtain ⟨g2, hgg2⟩ : ∃ g, w.heap.size = g := ⟨_, rfl⟩
  have HLg2 : Hid (w.heap.size = g2) := hgg2
  have HBg2 : Hid (w.heap.size < x1.heap.size) := rr.lt
  rw [hgg2] at og2 ⊢
  clear rr hgg2
  have HQg2 : Hid (∀ b off, some (⟨g2, 0, none⟩ : Addr) = some ⟨b, off, none⟩ → b = g2) := fun b off e => by simp at e; exact e.1.symm
  go_wp2_with fail
  refine ((specSome_any _ _ nodes many seed ml os _ HP.out hl1 (Nat.le_refl _) (fun e => by cases e) og2.row).mono fun _ _ => somePost_own).mono ?_
  rintro e x2 ⟨pS, cS, rfl, oS, hbS, bb⟩
  have z3 : Hid (_ ≤ _) := bb.size
  replace hrow1 := hrow1.keep bb
  replace og2 := og2.keep bb
  replace B := B.trans (bb.mono B.size)
  clear bb
  have HBS : Hid (∀ b off, pS = some ⟨b, off, none⟩ → _ ≤ b ∧ b < _) := hbS
  clear hbS
  unfold shufOut
  try dsimp only at oS ⊢
  clear og2
  have aS := (Below.refl x2.heap.size x2).alloc (Nat.le_refl _) (.cells #[.int .i64 os, .slice pS ml.length cS] 34)
  have OS := BlkIs.new x2 34 #[.int .i64 os, .slice pS ml.length cS]
  replace hrow1 := hrow1.keep aS
  replace oS := oS.keep aS
  replace B := B.trans (aS.mono B.size)
  have hxyS : x2.heap.size < (x2.alloc (.cells #[.int .i64 os, .slice pS ml.length cS] 34)).heap.size := by simp
  obtain ⟨yS, hyS⟩ : ∃ y, x2.alloc (.cells #[.int .i64 os, .slice pS ml.length cS] 34) = y := ⟨_, rfl⟩
  obtain ⟨kS, hkS⟩ : ∃ k, x2.heap.size = k := ⟨_, rfl⟩
  rw [hyS] at OS B hxyS hrow1 oS
  rw [hkS] at OS hxyS
  have HYS : Hid (_ = yS) := hyS
  have HKS : Hid (x2.heap.size = kS) := hkS
  clear hyS aS
  go_upto_region 4 with fail
  rw [HYS.out]
  clear HYS hkS
  have zzS : Hid (kS < yS.heap.size) := hxyS
  have zwS : Hid (_ ≤ _) := Nat.le_of_lt (show kS < yS.heap.size from hxyS)
  clear hxyS
  have cc0 : yS.cell? ⟨kS, 0, none⟩ = some (.int .i64 os) := OS.cell 0
  have cc1 : yS.cell? ⟨kS, 1, none⟩ = some (.slice pS ml.length cS) := OS.cell 1
  go_wp2_with fail
  refine (toNums_any a1 cap1 nodes _ hl1 hrow1).mono ?_
  rintro e x3 ⟨rfl, rr, bb⟩
  clear cc0 cc1
  have z6 : Hid (_ ≤ _) := bb.size
  replace hrow1 := hrow1.keep bb
  replace oS := oS.keep bb
  replace OS := OS.keep bb
  replace B := B.trans (bb.mono B.size)
  clear bb
  have og5 := OwnNums.of_row (lo := yS.heap.size) rr (Nat.le_refl _)
  obtain ⟨g5, hgg5⟩ : ∃ g, yS.heap.size = g := ⟨_, rfl⟩
  have HLg5 : Hid (yS.heap.size = g5) := hgg5
  have HBg5 : Hid (yS.heap.size < x3.heap.size) := rr.lt
  rw [hgg5] at og5 ⊢
  clear rr hgg5
  have HQg5 : Hid (∀ b off, some (⟨g5, 0, none⟩ : Addr) = some ⟨b, off, none⟩ → b = g5) := fun b off e => by simp at e; exact e.1.symm
  have cc0 : x3.cell? ⟨kS, 0, none⟩ = some (.int .i64 os) := OS.cell 0
  have cc1 : x3.cell? ⟨kS, 1, none⟩ = some (.slice pS ml.length cS) := OS.cell 1
  go_wp2_with fail
  refine (implSome_any _ _ nodes many seed ml os _ HP.out hl1 og5.row).mono ?_
  rintro e x4 ⟨pG, cG, rfl, oG, hbG, bb⟩
  clear cc0 cc1
  have z9 : Hid (_ ≤ _) := bb.size
  replace hrow1 := hrow1.keep bb
  replace oS := oS.keep bb
  replace OS := OS.keep bb
  replace og5 := og5.keep bb
  replace B := B.trans (bb.mono B.size)
  clear bb
  have HBG : Hid (∀ b off, pG = some ⟨b, off, none⟩ → _ ≤ b ∧ b < _) := hbG
  clear hbG
  unfold shufOut
  try dsimp only at oG ⊢
  have aG := (Below.refl x4.heap.size x4).alloc (Nat.le_refl _) (.cells #[.int .i64 os, .slice pG ml.length cG] 34)
  have OG := BlkIs.new x4 34 #[.int .i64 os, .slice pG ml.length cG]
  replace hrow1 := hrow1.keep aG
  replace oS := oS.keep aG
  replace OS := OS.keep aG
  replace og5 := og5.keep aG
  replace oG := oG.keep aG
  replace B := B.trans (aG.mono B.size)
  have hxyG : x4.heap.size < (x4.alloc (.cells #[.int .i64 os, .slice pG ml.length cG] 34)).heap.size := by simp
  obtain ⟨yG, hyG⟩ : ∃ y, x4.alloc (.cells #[.int .i64 os, .slice pG ml.length cG] 34) = y := ⟨_, rfl⟩
  obtain ⟨kG, hkG⟩ : ∃ k, x4.heap.size = k := ⟨_, rfl⟩
  rw [hyG] at OG B hxyG hrow1 oS OS og5 oG
  rw [hkG] at OG hxyG
  have HYG : Hid (_ = yG) := hyG
  have HKG : Hid (x4.heap.size = kG) := hkG
  clear hyG aG
  go_upto_region 6 with fail
  rw [HYG.out]
  clear HYG hkG
  have zzG : Hid (kG < yG.heap.size) := hxyG
  have zwG : Hid (_ ≤ _) := Nat.le_of_lt (show kG < yG.heap.size from hxyG)
  clear hxyG
  have cc0 : yG.cell? ⟨kS, 0, none⟩ = some (.int .i64 os) := OS.cell 0
  have cc1 : yG.cell? ⟨kS, 1, none⟩ = some (.slice pS ml.length cS) := OS.cell 1
  have cc2 : yG.cell? ⟨kG, 0, none⟩ = some (.int .i64 os) := OG.cell 0
  have cc3 : yG.cell? ⟨kG, 1, none⟩ = some (.slice pG ml.length cG) := OG.cell 1
  go_wp2_with fail
  refine (eqShuf_same os _ _ _ _ ml _ (by omega) oG.row oS.row).mono ?_
  rintro e x5 ⟨rfl, bb⟩
  clear cc0 cc1 cc2 cc3
  have z12 : Hid (_ ≤ _) := bb.size
  replace hrow1 := hrow1.keep bb
  replace oS := oS.keep bb
  replace OS := OS.keep bb
  replace og5 := og5.keep bb
  replace oG := oG.keep bb
  replace OG := OG.keep bb
  replace B := B.trans (bb.mono B.size)
  clear bb
  have cc0 : x5.cell? ⟨kS, 0, none⟩ = some (.int .i64 os) := OS.cell 0
  have cc1 : x5.cell? ⟨kS, 1, none⟩ = some (.slice pS ml.length cS) := OS.cell 1
  have cc2 : x5.cell? ⟨kG, 0, none⟩ = some (.int .i64 os) := OG.cell 0
  have cc3 : x5.cell? ⟨kG, 1, none⟩ = some (.slice pG ml.length cG) := OG.cell 1
  go_wp2_with fail
  refine (toNums_any a1 cap1 nodes _ hl1 hrow1).mono ?_
  rintro e x6 ⟨rfl, rr, bb⟩
  clear cc0 cc1 cc2 cc3
  have z13 : Hid (_ ≤ _) := bb.size
  replace hrow1 := hrow1.keep bb
  replace oS := oS.keep bb
  replace OS := OS.keep bb
  replace og5 := og5.keep bb
  replace oG := oG.keep bb
  replace OG := OG.keep bb
  replace B := B.trans (bb.mono B.size)
  clear bb
  have og6 := OwnNums.of_row (lo := x5.heap.size) rr (Nat.le_refl _)
  obtain ⟨g6, hgg6⟩ : ∃ g, x5.heap.size = g := ⟨_, rfl⟩
  have HLg6 : Hid (x5.heap.size = g6) := hgg6
  have HBg6 : Hid (x5.heap.size < x6.heap.size) := rr.lt
  rw [hgg6] at og6 ⊢
  clear rr hgg6
  have HQg6 : Hid (∀ b off, some (⟨g6, 0, none⟩ : Addr) = some ⟨b, off, none⟩ → b = g6) := fun b off e => by simp at e; exact e.1.symm
  have cc0 : x6.cell? ⟨kS, 0, none⟩ = some (.int .i64 os) := OS.cell 0
  have cc1 : x6.cell? ⟨kS, 1, none⟩ = some (.slice pS ml.length cS) := OS.cell 1
  have cc2 : x6.cell? ⟨kG, 0, none⟩ = some (.int .i64 os) := OG.cell 0
  have cc3 : x6.cell? ⟨kG, 1, none⟩ = some (.slice pG ml.length cG) := OG.cell 1
  go_wp2_with fail
  refine (eqNums_same _ _ _ _ nodes _ hl1 og5.row og6.row).mono ?_
  rintro e x7 ⟨rfl, bb⟩
  clear cc0 cc1 cc2 cc3
  have z16 : Hid (_ ≤ _) := bb.size
  replace hrow1 := hrow1.keep bb
  replace oS := oS.keep bb
  replace OS := OS.keep bb
  replace og5 := og5.keep bb
  replace oG := oG.keep bb
  replace OG := OG.keep bb
  replace og6 := og6.keep bb
  replace B := B.trans (bb.mono B.size)
  clear bb
  clear og6
  have cc0 : x7.cell? ⟨kS, 0, none⟩ = some (.int .i64 os) := OS.cell 0
  have cc1 : x7.cell? ⟨kS, 1, none⟩ = some (.slice pS ml.length cS) := OS.cell 1
  have cc2 : x7.cell? ⟨kG, 0, none⟩ = some (.int .i64 os) := OG.cell 0
  have cc3 : x7.cell? ⟨kG, 1, none⟩ = some (.slice pG ml.length cG) := OG.cell 1
  go_wp2_with fail
  refine (mark_any _ (some ⟨g5, 0, none⟩) _ nodes 1 _ hl1 (by omega) (by omega) (by have := z0.out; have := HLg2.out; have := HBg2.out; have := z3.out; have := HKS.out; have := zzS.out; have := z6.out; have := HLg5.out; have := HBg5.out; have := z9.out; have := HKG.out; have := zzG.out; have := z12.out; have := z13.out; have := HLg6.out; have := HBg6.out; have := z16.out; omega) og5).mono ?_
  rintro e x8 ⟨rfl, _, bm, kb0, sb⟩
  clear cc0 cc1 cc2 cc3
  have kb : ∀ c, c < x7.heap.size → (∀ b off, some (⟨g5, 0, none⟩ : Addr) = some ⟨b, off, none⟩ → c ≠ b) → x8.heap[c]? = x7.heap[c]? := fun c _ => kb0 c
  clear kb0 sb
  replace oS := oS.besideQ (fun bq oq eq hq => kb _ hq (fun b off e => by have := HBS.out bq oq eq; have := z0.out; have := HLg2.out; have := HBg2.out; have := z3.out; have := HKS.out; have := zzS.out; have := z6.out; have := HLg5.out; have := HBg5.out; have := z9.out; have := HKG.out; have := zzG.out; have := z12.out; have := z13.out; have := HLg6.out; have := HBg6.out; have := z16.out; (simp at e); omega)) bm.size
  replace OS := OS.besideQ (kb _ OS.lt (fun b off e => by have := z0.out; have := HLg2.out; have := HBg2.out; have := z3.out; have := HKS.out; have := zzS.out; have := z6.out; have := HLg5.out; have := HBg5.out; have := z9.out; have := HKG.out; have := zzG.out; have := z12.out; have := z13.out; have := HLg6.out; have := HBg6.out; have := z16.out; (simp at e); omega))
  replace oG := oG.besideQ (fun bq oq eq hq => kb _ hq (fun b off e => by have := HBG.out bq oq eq; have := z0.out; have := HLg2.out; have := HBg2.out; have := z3.out; have := HKS.out; have := zzS.out; have := z6.out; have := HLg5.out; have := HBg5.out; have := z9.out; have := HKG.out; have := zzG.out; have := z12.out; have := z13.out; have := HLg6.out; have := HBg6.out; have := z16.out; (simp at e); omega)) bm.size
  replace OG := OG.besideQ (kb _ OG.lt (fun b off e => by have := z0.out; have := HLg2.out; have := HBg2.out; have := z3.out; have := HKS.out; have := zzS.out; have := z6.out; have := HLg5.out; have := HBg5.out; have := z9.out; have := HKG.out; have := zzG.out; have := z12.out; have := z13.out; have := HLg6.out; have := HBg6.out; have := z16.out; (simp at e); omega))
  clear og5
  have z17 : Hid (_ ≤ _) := bm.size
  replace B := B.trans (bm.mono (by have := z0.out; have := HLg2.out; have := HBg2.out; have := z3.out; have := HKS.out; have := zzS.out; have := z6.out; have := HLg5.out; have := HBg5.out; have := z9.out; have := HKG.out; have := zzG.out; have := z12.out; have := z13.out; have := HLg6.out; have := HBg6.out; have := z16.out; have := z17.out; omega))
  clear bm kb
  replace hrow1 := hrow10.keep B
  have hkk : ¬ (1 + (nodes.length : Int)) < 0 := by omega
  have cc0 : x8.cell? ⟨kS, 0, none⟩ = some (.int .i64 os) := OS.cell 0
  have cc1 : x8.cell? ⟨kS, 1, none⟩ = some (.slice pS ml.length cS) := OS.cell 1
  have cc2 : x8.cell? ⟨kG, 0, none⟩ = some (.int .i64 os) := OG.cell 0
  have cc3 : x8.cell? ⟨kG, 1, none⟩ = some (.slice pG ml.length cG) := OG.cell 1
  go_wp2_with fail
  refine (eqShuf_same os _ _ _ _ ml _ (by omega) oG.row oS.row).mono ?_
  rintro e x9 ⟨rfl, bb⟩
  clear cc0 cc1 cc2 cc3
  have z18 : Hid (_ ≤ _) := bb.size
  replace hrow1 := hrow1.keep bb
  replace oS := oS.keep bb
  replace OS := OS.keep bb
  replace oG := oG.keep bb
  replace OG := OG.keep bb
  replace B := B.trans (bb.mono B.size)
  clear bb
  clear hkk
  have cc0 : x9.cell? ⟨kS, 0, none⟩ = some (.int .i64 os) := OS.cell 0
  have cc1 : x9.cell? ⟨kS, 1, none⟩ = some (.slice pS ml.length cS) := OS.cell 1
  have cc2 : x9.cell? ⟨kG, 0, none⟩ = some (.int .i64 os) := OG.cell 0
  have cc3 : x9.cell? ⟨kG, 1, none⟩ = some (.slice pG ml.length cG) := OG.cell 1
  go_wp2_with fail
  refine (markShuf_any os _ pG cG ml 1 _ (by omega) (by omega) (by omega) (by have := z0.out; have := HLg2.out; have := HBg2.out; have := z3.out; have := HKS.out; have := zzS.out; have := z6.out; have := HLg5.out; have := HBg5.out; have := z9.out; have := HKG.out; have := zzG.out; have := z12.out; have := z13.out; have := HLg6.out; have := HBg6.out; have := z16.out; have := z17.out; have := z18.out; omega) oG).mono ?_
  rintro e x10 ⟨rfl, oM, bm, kb⟩
  clear cc0 cc1 cc2 cc3
  replace oS := oS.besideQ (fun bq oq eq hq => kb _ hq (fun b off e => by have := HBS.out bq oq eq; have := z0.out; have := HLg2.out; have := HBg2.out; have := z3.out; have := HKS.out; have := zzS.out; have := z6.out; have := HLg5.out; have := HBg5.out; have := z9.out; have := HKG.out; have := zzG.out; have := z12.out; have := z13.out; have := HLg6.out; have := HBg6.out; have := z16.out; have := z17.out; have := z18.out; have := HBG.out b off e; omega)) bm.size
  replace OS := OS.besideQ (kb _ OS.lt (fun b off e => by have := z0.out; have := HLg2.out; have := HBg2.out; have := z3.out; have := HKS.out; have := zzS.out; have := z6.out; have := HLg5.out; have := HBg5.out; have := z9.out; have := HKG.out; have := zzG.out; have := z12.out; have := z13.out; have := HLg6.out; have := HBg6.out; have := z16.out; have := z17.out; have := z18.out; have := HBG.out b off e; omega))
  replace OG := OG.besideQ (kb _ OG.lt (fun b off e => by have := z0.out; have := HLg2.out; have := HBg2.out; have := z3.out; have := HKS.out; have := zzS.out; have := z6.out; have := HLg5.out; have := HBg5.out; have := z9.out; have := HKG.out; have := zzG.out; have := z12.out; have := z13.out; have := HLg6.out; have := HBg6.out; have := z16.out; have := z17.out; have := z18.out; have := HBG.out b off e; omega))
  clear oG
  have z19 : Hid (_ ≤ _) := bm.size
  replace B := B.trans (bm.mono (by have := z0.out; have := HLg2.out; have := HBg2.out; have := z3.out; have := HKS.out; have := zzS.out; have := z6.out; have := HLg5.out; have := HBg5.out; have := z9.out; have := HKG.out; have := zzG.out; have := z12.out; have := z13.out; have := HLg6.out; have := HBg6.out; have := z16.out; have := z17.out; have := z18.out; have := z19.out; omega))
  clear bm kb
  replace hrow1 := hrow10.keep B
  try dsimp only at oM ⊢
  have hmm : ¬ (1 + (ml.length : Int)) < 0 := by omega
  have cc0 : x10.cell? ⟨kS, 0, none⟩ = some (.int .i64 os) := OS.cell 0
  have cc1 : x10.cell? ⟨kS, 1, none⟩ = some (.slice pS ml.length cS) := OS.cell 1
  have cc2 : x10.cell? ⟨kG, 0, none⟩ = some (.int .i64 os) := OG.cell 0
  have cc3 : x10.cell? ⟨kG, 1, none⟩ = some (.slice pG ml.length cG) := OG.cell 1
  go_wp2_with fail
  refine (heldShuf_any os pG cG ml.length 1 _ (by omega) (by omega) (by omega) oM.row).mono ?_
  rintro e x11 ⟨rfl, bb⟩
  clear cc0 cc1 cc2 cc3
  have z20 : Hid (_ ≤ _) := bb.size
  replace hrow1 := hrow1.keep bb
  replace oS := oS.keep bb
  replace OS := OS.keep bb
  replace OG := OG.keep bb
  replace oM := oM.keep bb
  replace B := B.trans (bb.mono B.size)
  clear bb
  have cc0 : x11.cell? ⟨kS, 0, none⟩ = some (.int .i64 os) := OS.cell 0
  have cc1 : x11.cell? ⟨kS, 1, none⟩ = some (.slice pS ml.length cS) := OS.cell 1
  have cc2 : x11.cell? ⟨kG, 0, none⟩ = some (.int .i64 os) := OG.cell 0
  have cc3 : x11.cell? ⟨kG, 1, none⟩ = some (.slice pG ml.length cG) := OG.cell 1
  go_wp2_with fail
  refine (toNums_any a1 cap1 nodes _ hl1 hrow1).mono ?_
  rintro e x12 ⟨rfl, rr, bb⟩
  clear cc0 cc1 cc2 cc3
  have z21 : Hid (_ ≤ _) := bb.size
  replace hrow1 := hrow1.keep bb
  replace oS := oS.keep bb
  replace OS := OS.keep bb
  replace OG := OG.keep bb
  replace oM := oM.keep bb
  replace B := B.trans (bb.mono B.size)
  clear bb
  have og8 := OwnNums.of_row (lo := x11.heap.size) rr (Nat.le_refl _)
  obtain ⟨g8, hgg8⟩ : ∃ g, x11.heap.size = g := ⟨_, rfl⟩
  have HLg8 : Hid (x11.heap.size = g8) := hgg8
  have HBg8 : Hid (x11.heap.size < x12.heap.size) := rr.lt
  rw [hgg8] at og8 ⊢
  clear rr hgg8
  have HQg8 : Hid (∀ b off, some (⟨g8, 0, none⟩ : Addr) = some ⟨b, off, none⟩ → b = g8) := fun b off e => by simp at e; exact e.1.symm
  have cc0 : x12.cell? ⟨kS, 0, none⟩ = some (.int .i64 os) := OS.cell 0
  have cc1 : x12.cell? ⟨kS, 1, none⟩ = some (.slice pS ml.length cS) := OS.cell 1
  have cc2 : x12.cell? ⟨kG, 0, none⟩ = some (.int .i64 os) := OG.cell 0
  have cc3 : x12.cell? ⟨kG, 1, none⟩ = some (.slice pG ml.length cG) := OG.cell 1
  go_wp2_with fail
  refine (implSome_any _ _ nodes many seed ml os _ HP.out hl1 og8.row).mono ?_
  rintro e x13 ⟨pH, cH, rfl, oH, hbH, bb⟩
  clear cc0 cc1 cc2 cc3
  have z24 : Hid (_ ≤ _) := bb.size
  replace hrow1 := hrow1.keep bb
  replace oS := oS.keep bb
  replace OS := OS.keep bb
  replace OG := OG.keep bb
  replace oM := oM.keep bb
  replace og8 := og8.keep bb
  replace B := B.trans (bb.mono B.size)
  clear bb
  have HBH : Hid (∀ b off, pH = some ⟨b, off, none⟩ → _ ≤ b ∧ b < _) := hbH
  clear hbH
  unfold shufOut
  try dsimp only at oH ⊢
  clear og8
  have aH := (Below.refl x13.heap.size x13).alloc (Nat.le_refl _) (.cells #[.int .i64 os, .slice pH ml.length cH] 34)
  have OH := BlkIs.new x13 34 #[.int .i64 os, .slice pH ml.length cH]
  replace hrow1 := hrow1.keep aH
  replace oS := oS.keep aH
  replace OS := OS.keep aH
  replace OG := OG.keep aH
  replace oM := oM.keep aH
  replace oH := oH.keep aH
  replace B := B.trans (aH.mono B.size)
  have hxyH : x13.heap.size < (x13.alloc (.cells #[.int .i64 os, .slice pH ml.length cH] 34)).heap.size := by simp
  obtain ⟨yH, hyH⟩ : ∃ y, x13.alloc (.cells #[.int .i64 os, .slice pH ml.length cH] 34) = y := ⟨_, rfl⟩
  obtain ⟨kH, hkH⟩ : ∃ k, x13.heap.size = k := ⟨_, rfl⟩
  rw [hyH] at OH B hxyH hrow1 oS OS OG oM oH
  rw [hkH] at OH hxyH
  have HYH : Hid (_ = yH) := hyH
  have HKH : Hid (x13.heap.size = kH) := hkH
  clear hyH aH
  go_upto_region 23 with fail
  rw [HYH.out]
  clear HYH hkH
  have zzH : Hid (kH < yH.heap.size) := hxyH
  have zwH : Hid (_ ≤ _) := Nat.le_of_lt (show kH < yH.heap.size from hxyH)
  clear hxyH
  have cc0 : yH.cell? ⟨kS, 0, none⟩ = some (.int .i64 os) := OS.cell 0
  have cc1 : yH.cell? ⟨kS, 1, none⟩ = some (.slice pS ml.length cS) := OS.cell 1
  have cc2 : yH.cell? ⟨kG, 0, none⟩ = some (.int .i64 os) := OG.cell 0
  have cc3 : yH.cell? ⟨kG, 1, none⟩ = some (.slice pG ml.length cG) := OG.cell 1
  have cc4 : yH.cell? ⟨kH, 0, none⟩ = some (.int .i64 os) := OH.cell 0
  have cc5 : yH.cell? ⟨kH, 1, none⟩ = some (.slice pH ml.length cH) := OH.cell 1
  go_wp2_with fail
  refine (eqShuf_same os _ _ _ _ ml _ (by omega) oH.row oS.row).mono ?_
  rintro e x14 ⟨rfl, bb⟩
  clear cc0 cc1 cc2 cc3 cc4 cc5
  have z27 : Hid (_ ≤ _) := bb.size
  replace hrow1 := hrow1.keep bb
  replace oS := oS.keep bb
  replace OS := OS.keep bb
  replace OG := OG.keep bb
  replace oM := oM.keep bb
  replace oH := oH.keep bb
  replace OH := OH.keep bb
  replace B := B.trans (bb.mono B.size)
  clear bb
  clear oH OH oS OS
  have cc0 : x14.cell? ⟨kG, 0, none⟩ = some (.int .i64 os) := OG.cell 0
  have cc1 : x14.cell? ⟨kG, 1, none⟩ = some (.slice pG ml.length cG) := OG.cell 1
  go_wp2_with fail
  refine (heldShuf_any os pG cG ml.length 1 _ (by omega) (by omega) (by omega) oM.row).mono ?_
  rintro e x15 ⟨rfl, bb⟩
  clear cc0 cc1
  have z28 : Hid (_ ≤ _) := bb.size
  replace hrow1 := hrow1.keep bb
  replace OG := OG.keep bb
  replace oM := oM.keep bb
  replace B := B.trans (bb.mono B.size)
  clear bb
  have cc0 : x15.cell? ⟨kG, 0, none⟩ = some (.int .i64 os) := OG.cell 0
  have cc1 : x15.cell? ⟨kG, 1, none⟩ = some (.slice pG ml.length cG) := OG.cell 1
  go_wp2
  go_ret
  exact ⟨rfl, B⟩

set_option maxRecDepth 100000 in
theorem FnExactSome_lifted (os : Os) (started : os.Started) (H : Type) (enc : TypeId × Value → H) :
    ReturnsInHanded {} Try.checked os 6 .any (Rows.fnExactSomeSpec.pre6 enc Try.prog Try.f6 Rows.fnExactSomeRow.domain false) (Rows.fnExactSomeSpec.post enc Try.prog Try.f6 false true false false) := by
  refine returnsInHanded_of_change (C := Try.checked) (by kernel_rfl) started (by kernel_rfl) Try.func6
    (ChangeSpec.witness6 (enc := enc) (C := Try.checked) false ⟨#[], #[.slice none 0 0, .int .i64 0, .int .i64 0], []⟩ 8 (by kernel_rfl) (by kernel_rfl) (by kernel_rfl) (by kernel_rfl)) ?_
  intro W base args ds gs before hval0 hW hcnd _
  have hval : ∀ (j : Nat) t v, Try.f6.params[j]? = some t → args[j]? = some v → Value.okWide Try.prog W .any base t v := hval0
  have hW' := hW
  obtain ⟨p, q, hA0, hV, rfl, hfz, hnd⟩ := hW
  have hA : DataW.TrodAll enc Try.prog W 0 (fun _ => true) true Try.f6.params.toList args.toList ds p := hA0
  rw [Try.params6] at hA hval
  obtain ⟨v0, vs0, d0, ds0, p0, q0, hargs, rfl, rfl, h0, r0⟩ := trodAll_cons hA
  obtain ⟨v1, vs1, d1, ds1, p1, q1, rfl, rfl, rfl, h1, r1⟩ := trodAll_cons r0
  obtain ⟨v2, vs2, d2, ds2, p2, q2, rfl, rfl, rfl, h2, r2⟩ := trodAll_cons r1
  obtain ⟨rfl, rfl, rfl⟩ := trodAll_nil r2
  obtain rfl : args = #[v0, v1, v2] := by cases args; simp_all
  obtain ⟨rfl, rfl⟩ := trodVars_none hV
  obtain ⟨a0, len0, cap0, rfl⟩ := okWide_slice Try.underlying23 (hval 0 23 v0 rfl rfl)
  have k0 := h0
  have lt0 : ∀ x ∈ p0, x.block < W.heap.size := by obtain ⟨m, hm⟩ := k0; exact DataW.trod_lt m _ _ _ hm
  obtain ⟨l0, el0, w0⟩ : ∃ l, len0 = l.length ∧ NumArg W a0 cap0 l := by
    obtain ⟨fuel, hf⟩ := h0
    rcases open_ints Try.underlying23 Try.underlying2 (by kernel_rfl) hf with ⟨hcs, _⟩ | ⟨x, l, c, zs, hcs, _, hl, hm, hz, _, hcell, hwz⟩
    · simp [Value.cells] at hcs
      obtain ⟨rfl, rfl, rfl⟩ := hcs
      exact ⟨[], rfl, numArg_nil _⟩
    · simp [Value.cells] at hcs
      obtain ⟨rfl, rfl, rfl⟩ := hcs
      exact numArg_of hl (by simpa using hz) hcell hwz
  subst el0
  obtain ⟨a1, rfl, rfl, rfl, w1⟩ := open_int Try.underlying2 (hval 1 2 v1 rfl rfl) h1
  obtain ⟨a2, rfl, rfl, rfl, w2⟩ := open_int Try.underlying2 (hval 2 2 v2 rfl rfl) h2
  clear hA0 hval0
  refine (FnExactSome_walk a0 cap0 l0 a1 a2 W w0 w1 w2).mono fun e W' ⟨he, bel⟩ => ?_
  subst he
  exact ⟨_, rfl, _, _, _, [], _, [], hW', trodAll_mk1 (shut_bool Try.underlying4 _), (trodAll_cons_mk (Below.trod (show laidOutB Try.prog = true by kernel_rfl) (by kernel_rfl) (of_decide_eq_true (by kernel_rfl)) k0 bel lt0) (trodAll_cons_mk (shut_int Try.underlying2 w1) (trodAll_cons_mk (shut_int Try.underlying2 w2) trodAll_mk0))), rfl, bel.frame _, fun h => by cases h⟩
/-- The statement. -/
theorem FnExactSome_holds : Rows.FnExactSomeSaid :=
  OpenClaim.holds_of_wide 6 Try.f6 rfl rfl rfl rfl rfl rfl rfl ⟨rfl, rfl, rfl, rfl, rfl⟩ rfl rfl rfl rfl rfl (by kernel_rfl) Try.func6 (by kernel_rfl)
    (of_decide_eq_true (by kernel_rfl)) (by unfold Func.isWrapper; first | (rw [if_pos (by decide +kernel)]; kernel_rfl) | (rw [if_neg (by decide +kernel)]; exact ⟨rfl, rfl⟩))
    (fun os started H enc _ => FnExactSome_lifted os started H enc)
#print axioms FnExactSome_holds

end Go.Proofs.Ytpjmhaegdnahmaa
