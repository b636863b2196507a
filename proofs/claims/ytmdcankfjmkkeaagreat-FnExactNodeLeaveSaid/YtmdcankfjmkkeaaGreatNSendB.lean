/- The contract of the program's send. -/
import Derived.Test.YtmdcankfjmkkeaaGreatG38
import Derived.Test.YtmdcankfjmkkeaaGreatG40
namespace Go.Proofs.YtmdcankfjmkkeaaGreat
open Go Go.RowKit
set_option linter.unusedVariables false
set_option linter.unusedSimpArgs false

theorem notEl_mail : NotEl 40 := ⟨by decide, by decide, by decide, by decide⟩
/-- What it leaves. -/
def sendAllPost (c b : Nat) (a : NodeM) (n : NodeV) (now : Int) (ma : Option Addr) (mc : Nat) (ms : List MailA) (miss k dst num ab r : Int) (w : World) (e : Ending) (w' : World) : Prop :=
  e = .returned (.tuple #[]) ∧ ∃ ma2 mc2 m, NodeSt 92 w' c b a n (.int .i64 now) (.slice ma2 (ms.length + 1) mc2) (.int .i64 miss) ∧ MRows w' c a.va n.view.length a.vc ma2 mc2 (ms ++ [m]) ∧ m.v = ⟨k, n.id, dst, num, ab, r, n.view⟩ ∧ Keeps (fun q => q ≠ b ∧ (Value.slice ma ms.length mc).ownBlock ≠ some q) w w'
set_option maxHeartbeats 8000000 in
set_option maxRecDepth 100000 in
theorem send4_any (c b : Nat) (a : NodeM) (n : NodeV) (now : Int) (ma : Option Addr) (mc : Nat) (ms : List MailA) (miss f0 dst num ab r : Int) (w : World) (hv6 : n.view.length ≤ 1000) (hms : ms.length ≤ 1000) (hc : c ≤ w.heap.size) (H : NodeSt 92 w c b a n (.int .i64 now) (.slice ma ms.length mc) (.int .i64 miss)) (HM : MRows w c a.va n.view.length a.vc ma mc ms) :
    Calls Tryz.prog 64 #[.pointer (some ⟨b, 0, none⟩), .agg #[.int .i64 4, .int .i64 f0, .int .i64 dst, .int .i64 num, .int .i64 ab, .int .i64 r, .slice none 0 0]] w (sendAllPost c b a n now ma mc ms miss 4 dst num ab r w) := by
  have hlo := H.lo
  have O0 : BlkIs w b 92 #[.int .i64 n.id, .int .i64 n.inc, .int .i64 n.num, .int .i64 n.seed, .int .i64 n.next, .slice a.va n.view.length a.vc, .slice a.ra n.rum.length a.rc, .slice a.ta n.tl.length a.tc, .int .i64 n.at0, .int .i64 n.pb.node, .int .i64 n.pb.num, .int .i64 n.pb.due, .bool n.pb.asked, .slice a.da n.db.length a.dc, .int .i64 now, .slice ma ms.length mc, .int .i64 miss] := H.blk
  have hlt := O0.lt
  
  have B := (Below.refl w.heap.size w).alloc (Nat.le_refl _) (.cells #[.int .i64 4, .int .i64 f0, .int .i64 dst, .int .i64 num, .int .i64 ab, .int .i64 r, .slice none 0 0] 40)
  have P := BlkIs.new w 40 #[.int .i64 4, .int .i64 f0, .int .i64 dst, .int .i64 num, .int .i64 ab, .int .i64 r, .slice none 0 0]
  have O := O0.keep B
  have HB := H.keep B
  have HMB := HM.keep B
  go_enter Tryz.func64, Tryz.ntmps64
  go_upto_region 1 with fail
  obtain ⟨X, hX⟩ : ∃ W, w.alloc (.cells #[.int .i64 4, .int .i64 f0, .int .i64 dst, .int .i64 num, .int .i64 ab, .int .i64 r, .slice none 0 0] 40) = W := ⟨_, rfl⟩
  rw [hX] at P B O HB HMB ⊢
  clear hX O0
  obtain ⟨km, hkm⟩ : ∃ q, w.heap.size = q := ⟨_, rfl⟩
  rw [hkm] at P ⊢
  have hbm : b ≠ km := by omega
  have c0 : X.cell? ⟨b, 0, none⟩ = some (.int .i64 n.id) := O.cell 0
  go_upto_region 2 with (refine store_cell P rfl _ _ _ rfl 1 (.int .i64 n.id) rfl rfl (show 1 < 7 by decide) (by kernel_rfl) rfl ?_; intro Y PY ky)
  replace PY : BlkIs Y km 40 #[.int .i64 4, .int .i64 n.id, .int .i64 dst, .int .i64 num, .int .i64 ab, .int .i64 r, .slice none 0 0] := PY
  have OY := O.keepK ky hbm
  have HY : NodeSt 92 Y c b a n (.int .i64 now) (.slice ma ms.length mc) (.int .i64 miss) := ⟨OY, hlo, HB.rows.keepB P notEl_mail ky⟩
  have HMY : MRows Y c a.va n.view.length a.vc ma mc ms := by
    refine ⟨?_, fun i hi => rowKeep (HMB.f i hi) ky (fun g e hg => P.not_row (by decide) (HMB.f i hi) (hg ▸ e)), HMB.fv, HMB.ff⟩
    exact rowKeep HMB.m ky (fun g e hg => by have := (HM.m.lt g e).2; omega)
  have BY : Below w.heap.size w Y := B.trans (ky.belowNe (by omega) B.size)
  have k0 : Y.cell? ⟨km, 0, none⟩ = some (.int .i64 4) := PY.cell 0
  clear P B O HB HMB ky c0
  have c5 : Y.cell? ⟨b, 5, none⟩ = some (.slice a.va n.view.length a.vc) := OY.cell 5
  go_upto_region 10 with (first
    | (go_at_call 124; refine (copiedF_any a.va a.vc n.view _ (by omega) HY.rows.nodeRows.v).mono ?_; rintro e Z ⟨v, rfl, rowF, bz⟩; obtain ⟨s1, k1, rfl⟩ := rowSlice rowF; have PZ := PY.keep bz; clear c5)
    | (refine store_cell PZ rfl _ _ _ rfl 6 (.slice s1 n.view.length k1) rfl rfl (show 6 < 7 by decide) (by kernel_rfl) rfl ?_; intro V PV kv))
  replace PV : BlkIs V km 40 #[.int .i64 4, .int .i64 n.id, .int .i64 dst, .int .i64 num, .int .i64 ab, .int .i64 r, .slice s1 n.view.length k1] := PV
  have hkz : km < Z.heap.size := PZ.lt
  have HZ := HY.keep bz
  have OZ : BlkIs Z b 92 #[.int .i64 n.id, .int .i64 n.inc, .int .i64 n.num, .int .i64 n.seed, .int .i64 n.next, .slice a.va n.view.length a.vc, .slice a.ra n.rum.length a.rc, .slice a.ta n.tl.length a.tc, .int .i64 n.at0, .int .i64 n.pb.node, .int .i64 n.pb.num, .int .i64 n.pb.due, .bool n.pb.asked, .slice a.da n.db.length a.dc, .int .i64 now, .slice ma ms.length mc, .int .i64 miss] := HZ.blk
  have HMZ := HMY.keep bz
  have hYs : km ≤ Y.heap.size := Nat.le_of_lt PY.lt
  have BZ := BY.trans (bz.mono BY.size)
  have HV : NodeSt 92 V c b a n (.int .i64 now) (.slice ma ms.length mc) (.int .i64 miss) := ⟨OZ.keepK kv hbm, hlo, HZ.rows.keepB PZ notEl_mail kv⟩
  have HMV : MRows V c a.va n.view.length a.vc ma mc ms := by
    refine ⟨?_, fun i hi => rowKeep (HMZ.f i hi) kv (fun g e hg => PZ.not_row (by decide) (HMZ.f i hi) (hg ▸ e)), HMZ.fv, HMZ.ff⟩
    exact rowKeep HMZ.m kv (fun g e hg => by have := (HM.m.lt g e).2; omega)
  have rowV := rowKeep rowF kv (fun g e hg => PZ.not_row (by decide) rowF (hg ▸ e))
  have BV : Below w.heap.size w V := BZ.trans (kv.belowNe (by omega) BZ.size)
  have KV : Keeps (fun q => q ≠ b) w V := Keeps.ofBelow BV (fun k hk _ => hk)
  have hfr : ∀ g, (Value.slice s1 n.view.length k1).ownBlock = some g → Y.heap.size ≤ g := fun g e => (rowF.lt g e).1
  have hvo : ∀ g, (Value.slice a.va n.view.length a.vc).ownBlock = some g → g < Y.heap.size := fun g e => (HY.rows.v.lt g e).2
  have hmo : ∀ i (hi : i < ms.length) g, (slM ms[i]).ownBlock = some g → g < Y.heap.size := fun i hi g e => ((HMY.f i hi).lt g e).2
  have hcy : c ≤ Y.heap.size := by omega
  clear HZ OZ HMZ kv bz rowF PZ OY HY HMY
  have e15 : V.cell? ⟨b, 15, none⟩ = some (.slice ma ms.length mc) := HV.blk.cell 15
  have z15 := HV.blk.fz 15
  have g0 : V.cell? ⟨km, 0, none⟩ = some (.int .i64 4) := PV.cell 0
  have g1 : V.cell? ⟨km, 1, none⟩ = some (.int .i64 n.id) := PV.cell 1
  have g2 : V.cell? ⟨km, 2, none⟩ = some (.int .i64 dst) := PV.cell 2
  have g3 : V.cell? ⟨km, 3, none⟩ = some (.int .i64 num) := PV.cell 3
  have g4 : V.cell? ⟨km, 4, none⟩ = some (.int .i64 ab) := PV.cell 4
  have g5 : V.cell? ⟨km, 5, none⟩ = some (.int .i64 r) := PV.cell 5
  have g6 : V.cell? ⟨km, 6, none⟩ = some (.slice s1 n.view.length k1) := PV.cell 6
  have hcv : c ≤ V.heap.size := Nat.le_trans hc KV.size
  try simp only [Act.put]
  have RS := HMV.m
  have hnbm : (Value.slice ma ms.length mc).ownBlock ≠ some b := HV.blk.not_row (by decide) RS
  have hnkm : (Value.slice ma ms.length mc).ownBlock ≠ some km := fun e => by have := (HM.m.lt km e).2; omega
  go_upto_region 10 with fail
  refine wp_region_any (by kernel_rfl) ?_
  refine wpAny_boxJ 10 7 (by decide) (fun i => [36, 37, 38, 39, 40, 41, 42, 43, 44, 45].getD i 0) (fun kq v wq => match kq with | 0 => v = .pointer (some ⟨b, 0, none⟩) | 1 => v = .pointer (some ⟨b, 0, none⟩) | 2 => v = .pointer (some ⟨b, 0, none⟩) | 3 => v = .pointer (some ⟨b, 15, none⟩) | 4 => v = .slice ma ms.length mc | 5 => v = .agg #[.int .i64 4, .int .i64 n.id, .int .i64 dst, .int .i64 num, .int .i64 ab, .int .i64 r, .slice s1 n.view.length k1] | 6 => ∃ kb, v = .slice (some ⟨kb, 0, none⟩) 1 1 ∧ BlkIs wq kb 40 #[.int .i64 4, .int .i64 n.id, .int .i64 dst, .int .i64 num, .int .i64 ab, .int .i64 r, .slice s1 n.view.length k1] ∧ V.heap.size ≤ kb | 7 => ∃ ma2 mc2, v = .slice ma2 (ms.length + 1) mc2 ∧ wq.ownsRow c 40 7 (.slice ma2 (ms.length + 1) mc2) (ms.length + 1) (cellsOf MailA.cells ms ++ cellsOf MailA.cells [⟨4, n.id, dst, num, ab, r, s1, k1, n.view⟩]) | 8 => v = .pointer (some ⟨b, 0, none⟩) | 9 => v = .pointer (some ⟨b, 15, none⟩) | _ => True) _ (fun wp wq => Keeps (fun q => (Value.slice ma ms.length mc).ownBlock ≠ some q) wp wq) (fun fw => BlkIs fw b 92 #[.int .i64 n.id, .int .i64 n.inc, .int .i64 n.num, .int .i64 n.seed, .int .i64 n.next, .slice a.va n.view.length a.vc, .slice a.ra n.rum.length a.rc, .slice a.ta n.tl.length a.tc, .int .i64 n.at0, .int .i64 n.pb.node, .int .i64 n.pb.num, .int .i64 n.pb.due, .bool n.pb.asked, .slice a.da n.db.length a.dc, .int .i64 now, .slice ma ms.length mc, .int .i64 miss] ∧ BlkIs fw km 40 #[.int .i64 4, .int .i64 n.id, .int .i64 dst, .int .i64 num, .int .i64 ab, .int .i64 r, .slice s1 n.view.length k1] ∧ V.heap.size ≤ fw.heap.size ∧ fw.ownsRow c 40 7 (.slice ma ms.length mc) ms.length (cellsOf MailA.cells ms) ∧ Keeps (fun q => (Value.slice ma ms.length mc).ownBlock ≠ some q) V fw) (fun fw => BlkIs fw b 92 #[.int .i64 n.id, .int .i64 n.inc, .int .i64 n.num, .int .i64 n.seed, .int .i64 n.next, .slice a.va n.view.length a.vc, .slice a.ra n.rum.length a.rc, .slice a.ta n.tl.length a.tc, .int .i64 n.at0, .int .i64 n.pb.node, .int .i64 n.pb.num, .int .i64 n.pb.due, .bool n.pb.asked, .slice a.da n.db.length a.dc, .int .i64 now, .slice ma ms.length mc, .int .i64 miss] ∧ BlkIs fw km 40 #[.int .i64 4, .int .i64 n.id, .int .i64 dst, .int .i64 num, .int .i64 ab, .int .i64 r, .slice s1 n.view.length k1] ∧ V.heap.size ≤ fw.heap.size ∧ True ∧ Keeps (fun q => (Value.slice ma ms.length mc).ownBlock ≠ some q) V fw) (by kernel_rfl) ?inj ?stab ?stab1 ?hJ0 ?hJ1 ?step ?spec ?last _ _ _ _ (List.range 11) (by kernel_rfl) (Nat.le_refl 11) ?un (by kernel_rfl) ?down ⟨rfl, rfl, fun _ _ => rfl⟩ ⟨fun _ => ⟨HV.blk.keep (Below.refl _ _).drew, PV.keep (Below.refl _ _).drew, Nat.le_refl _, rowBelow RS (Below.refl _ _).drew, (Keeps.refl _ _).drew⟩, fun h => absurd h (by decide)⟩ ?none
  case inj => exact (show ∀ i, i < 10 → ∀ j, j < 10 → [36, 37, 38, 39, 40, 41, 42, 43, 44, 45].getD i 0 = [36, 37, 38, 39, 40, 41, 42, 43, 44, 45].getD j 0 → i = j by decide)
  case un => exact fun i hi _ => List.mem_range.2 hi
  case down =>
    intro j hj
    exfalso
    by_cases hi : j < 11
    · simp [hi] at hj
    · simp [hi] at hj
  case none =>
    intro i hi hj
    exfalso
    have hi2 : i < 11 := by omega
    simp [hi2] at hj
  case stab =>
    intro kq u wa wb h hB
    match kq, h with
    | 0, h => exact h
    | 1, h => exact h
    | 2, h => exact h
    | 3, h => exact h
    | 4, h => exact h
    | 5, h => exact h
    | 6, h => exact (show ∃ kb, u = .slice (some ⟨kb, 0, none⟩) 1 1 ∧ BlkIs wb kb 40 #[.int .i64 4, .int .i64 n.id, .int .i64 dst, .int .i64 num, .int .i64 ab, .int .i64 r, .slice s1 n.view.length k1] ∧ V.heap.size ≤ kb from by obtain ⟨kb, h1, h2, h3⟩ := h; exact ⟨kb, h1, h2.keep hB, h3⟩)
    | 7, h => exact (show ∃ ma2 mc2, u = .slice ma2 (ms.length + 1) mc2 ∧ wb.ownsRow c 40 7 (.slice ma2 (ms.length + 1) mc2) (ms.length + 1) (cellsOf MailA.cells ms ++ cellsOf MailA.cells [⟨4, n.id, dst, num, ab, r, s1, k1, n.view⟩]) from by obtain ⟨ma2, mc2, h1, h2⟩ := h; exact ⟨ma2, mc2, h1, rowBelow h2 hB⟩)
    | 8, h => exact h
    | 9, h => exact h
    | _ + 10, _ => exact trivial
  case stab1 =>
    intro kq u wa wb hk h hR
    match kq, hk, h with
    | 0, hk, h => exact h
    | 1, hk, h => exact h
    | 2, hk, h => exact h
    | 3, hk, h => exact h
    | 4, hk, h => exact h
    | 5, hk, h => exact h
    | 6, hk, h => exact (show ∃ kb, u = .slice (some ⟨kb, 0, none⟩) 1 1 ∧ BlkIs wb kb 40 #[.int .i64 4, .int .i64 n.id, .int .i64 dst, .int .i64 num, .int .i64 ab, .int .i64 r, .slice s1 n.view.length k1] ∧ V.heap.size ≤ kb from by obtain ⟨kb, h1, h2, h3⟩ := h; exact ⟨kb, h1, h2.keepK hR (fun e => by have := (RS.lt kb e).2; omega), h3⟩)
    | 7, hk, h => exact absurd rfl hk
    | 8, hk, h => exact h
    | 9, hk, h => exact h
    | _ + 10, _, _ => exact trivial
  case hJ0 => exact (fun w w' h k => ⟨h.1.keep k, h.2.1.keep k, Nat.le_trans h.2.2.1 k.size, rowBelow h.2.2.2.1 k, h.2.2.2.2.below k⟩)
  case hJ1 => exact (fun w w' h k => ⟨h.1.keep k, h.2.1.keep k, Nat.le_trans h.2.2.1 k.size, trivial, h.2.2.2.2.below k⟩)
  case spec =>
    intro o ho fa fw hF hJ hpre
    obtain rfl := Option.some.inj ho
    have hd4 : fa.tmps[40]?.getD undef = .slice ma ms.length mc := by simpa using (hpre ⟨4, .data⟩ (by simp) rfl : fa.tmps.getD 40 undef = .slice ma ms.length mc)
    obtain ⟨kb, q6, hb6, hkb6⟩ := (hpre ⟨6, .data⟩ (by simp) rfl : ∃ kb, (fa.tmps.getD 42 undef) = .slice (some ⟨kb, 0, none⟩) 1 1 ∧ BlkIs fw kb 40 #[.int .i64 4, .int .i64 n.id, .int .i64 dst, .int .i64 num, .int .i64 ab, .int .i64 r, .slice s1 n.view.length k1] ∧ V.heap.size ≤ kb)
    have hd6 : fa.tmps[42]?.getD undef = .slice (some ⟨kb, 0, none⟩) 1 1 := by simpa using q6
    refine appM rfl _ _ rfl c (.slice ma ms.length mc) ms.length (cellsOf MailA.cells ms) (show fa.tmps.getD 40 undef = _ by simpa using hd4) hJ.2.2.2.1 (some ⟨kb, 0, none⟩) 1 1 (fun e => by cases e) [⟨4, n.id, dst, num, ab, r, s1, k1, n.view⟩] rfl (show fa.tmps.getD 42 undef = _ by simpa using hd6) (rowOneM (d := ⟨4, n.id, dst, num, ab, r, s1, k1, n.view⟩) hb6) (by omega) (Nat.le_trans hcv hJ.2.2.1) ?_
    intro u U hu hgr hbl
    obtain ⟨ma2, mc2, rfl⟩ := rowSlice hu
    have kg : Keeps (fun q => (Value.slice ma ms.length mc).ownBlock ≠ some q) fw U := (Keeps.refl _ _).grown hgr (fun k e hk => hk e)
    exact ⟨_, rfl, ⟨ma2, mc2, rfl, hu⟩, kg, hJ.1.keepK kg hnbm, hJ.2.1.keepK kg hnkm, Nat.le_trans hJ.2.2.1 kg.size, trivial, hJ.2.2.2.2.trans kg⟩
  case step =>
    intro i o hin hne ho fa fw hF hJ hpre
    obtain rfl | rfl | rfl | rfl | rfl | rfl | rfl | rfl | rfl : i = 0 ∨ i = 1 ∨ i = 2 ∨ i = 3 ∨ i = 4 ∨ i = 5 ∨ i = 6 ∨ i = 8 ∨ i = 9 := by omega
    all_goals (obtain rfl := Option.some.inj ho)
    · have hs0 : fa.tmps[0]?.getD undef = .pointer (some ⟨b, 0, none⟩) := by
        have := hF.2.2 0 (show ∀ i, i < 10 → [36, 37, 38, 39, 40, 41, 42, 43, 44, 45].getD i 0 ≠ 0 by decide)
        simpa using this
      exact step_val (v := .pointer (some ⟨b, 0, none⟩)) (w' := fw) (by go_simp) ⟨_, rfl, rfl, Below.refl _ _⟩
    · have hs0 : fa.tmps[0]?.getD undef = .pointer (some ⟨b, 0, none⟩) := by
        have := hF.2.2 0 (show ∀ i, i < 10 → [36, 37, 38, 39, 40, 41, 42, 43, 44, 45].getD i 0 ≠ 0 by decide)
        simpa using this
      exact step_val (v := .pointer (some ⟨b, 0, none⟩)) (w' := fw) (by go_simp) ⟨_, rfl, rfl, Below.refl _ _⟩
    · have hd1 : fa.tmps[37]?.getD undef = .pointer (some ⟨b, 0, none⟩) := by simpa using (hpre ⟨1, .data⟩ (by simp) rfl : fa.tmps.getD 37 undef = .pointer (some ⟨b, 0, none⟩))
      exact step_val (v := .pointer (some ⟨b, 0, none⟩)) (w' := fw) (by go_simp) ⟨_, rfl, rfl, Below.refl _ _⟩
    · have hd2 : fa.tmps[38]?.getD undef = .pointer (some ⟨b, 0, none⟩) := by simpa using (hpre ⟨2, .data⟩ (by simp) rfl : fa.tmps.getD 38 undef = .pointer (some ⟨b, 0, none⟩))
      exact step_val (v := .pointer (some ⟨b, 15, none⟩)) (w' := fw) (by go_simp) ⟨_, rfl, rfl, Below.refl _ _⟩
    · have hd3 : fa.tmps[39]?.getD undef = .pointer (some ⟨b, 15, none⟩) := by simpa using (hpre ⟨3, .data⟩ (by simp) rfl : fa.tmps.getD 39 undef = .pointer (some ⟨b, 15, none⟩))
      have m0 := (show fw.cell? ⟨b, 15, none⟩ = some (.slice ma ms.length mc) from (hJ.elim (fun h => h.1) (fun h => h.1) : BlkIs fw b 92 #[.int .i64 n.id, .int .i64 n.inc, .int .i64 n.num, .int .i64 n.seed, .int .i64 n.next, .slice a.va n.view.length a.vc, .slice a.ra n.rum.length a.rc, .slice a.ta n.tl.length a.tc, .int .i64 n.at0, .int .i64 n.pb.node, .int .i64 n.pb.num, .int .i64 n.pb.due, .bool n.pb.asked, .slice a.da n.db.length a.dc, .int .i64 now, .slice ma ms.length mc, .int .i64 miss]).cell 15)
      try dsimp only at m0
      exact step_val (v := .slice ma ms.length mc) (w' := fw) (by go_simp) ⟨_, rfl, rfl, Below.refl _ _⟩
    · have hs3 : fa.tmps[3]?.getD undef = .pointer (some ⟨km, 0, none⟩) := by
        have := hF.2.2 3 (show ∀ i, i < 10 → [36, 37, 38, 39, 40, 41, 42, 43, 44, 45].getD i 0 ≠ 3 by decide)
        simpa using this
      have m0 := (show fw.cell? ⟨km, 0, none⟩ = some (.int .i64 4) from (hJ.elim (fun h => h.2.1) (fun h => h.2.1) : BlkIs fw km 40 #[.int .i64 4, .int .i64 n.id, .int .i64 dst, .int .i64 num, .int .i64 ab, .int .i64 r, .slice s1 n.view.length k1]).cell 0)
      try dsimp only at m0
      have m1 := (show fw.cell? ⟨km, 1, none⟩ = some (.int .i64 n.id) from (hJ.elim (fun h => h.2.1) (fun h => h.2.1) : BlkIs fw km 40 #[.int .i64 4, .int .i64 n.id, .int .i64 dst, .int .i64 num, .int .i64 ab, .int .i64 r, .slice s1 n.view.length k1]).cell 1)
      try dsimp only at m1
      have m2 := (show fw.cell? ⟨km, 2, none⟩ = some (.int .i64 dst) from (hJ.elim (fun h => h.2.1) (fun h => h.2.1) : BlkIs fw km 40 #[.int .i64 4, .int .i64 n.id, .int .i64 dst, .int .i64 num, .int .i64 ab, .int .i64 r, .slice s1 n.view.length k1]).cell 2)
      try dsimp only at m2
      have m3 := (show fw.cell? ⟨km, 3, none⟩ = some (.int .i64 num) from (hJ.elim (fun h => h.2.1) (fun h => h.2.1) : BlkIs fw km 40 #[.int .i64 4, .int .i64 n.id, .int .i64 dst, .int .i64 num, .int .i64 ab, .int .i64 r, .slice s1 n.view.length k1]).cell 3)
      try dsimp only at m3
      have m4 := (show fw.cell? ⟨km, 4, none⟩ = some (.int .i64 ab) from (hJ.elim (fun h => h.2.1) (fun h => h.2.1) : BlkIs fw km 40 #[.int .i64 4, .int .i64 n.id, .int .i64 dst, .int .i64 num, .int .i64 ab, .int .i64 r, .slice s1 n.view.length k1]).cell 4)
      try dsimp only at m4
      have m5 := (show fw.cell? ⟨km, 5, none⟩ = some (.int .i64 r) from (hJ.elim (fun h => h.2.1) (fun h => h.2.1) : BlkIs fw km 40 #[.int .i64 4, .int .i64 n.id, .int .i64 dst, .int .i64 num, .int .i64 ab, .int .i64 r, .slice s1 n.view.length k1]).cell 5)
      try dsimp only at m5
      have m6 := (show fw.cell? ⟨km, 6, none⟩ = some (.slice s1 n.view.length k1) from (hJ.elim (fun h => h.2.1) (fun h => h.2.1) : BlkIs fw km 40 #[.int .i64 4, .int .i64 n.id, .int .i64 dst, .int .i64 num, .int .i64 ab, .int .i64 r, .slice s1 n.view.length k1]).cell 6)
      try dsimp only at m6
      exact step_val (v := .agg #[.int .i64 4, .int .i64 n.id, .int .i64 dst, .int .i64 num, .int .i64 ab, .int .i64 r, .slice s1 n.view.length k1]) (w' := fw) (by go_simp) ⟨_, rfl, rfl, Below.refl _ _⟩
    · have hd5 : fa.tmps[41]?.getD undef = .agg #[.int .i64 4, .int .i64 n.id, .int .i64 dst, .int .i64 num, .int .i64 ab, .int .i64 r, .slice s1 n.view.length k1] := by simpa using (hpre ⟨5, .data⟩ (by simp) rfl : fa.tmps.getD 41 undef = .agg #[.int .i64 4, .int .i64 n.id, .int .i64 dst, .int .i64 num, .int .i64 ab, .int .i64 r, .slice s1 n.view.length k1])
      go_simp
      exact ⟨_, rfl, ⟨fw.heap.size, rfl, BlkIs.new _ _ _, (hJ.elim (fun h => h.2.2.1) (fun h => h.2.2.1))⟩, (Below.refl _ _).alloc (Nat.le_refl _) _⟩
    · have hd0 : fa.tmps[36]?.getD undef = .pointer (some ⟨b, 0, none⟩) := by simpa using (hpre ⟨0, .data⟩ (by simp) rfl : fa.tmps.getD 36 undef = .pointer (some ⟨b, 0, none⟩))
      exact step_val (v := .pointer (some ⟨b, 0, none⟩)) (w' := fw) (by go_simp) ⟨_, rfl, rfl, Below.refl _ _⟩
    · have hd8 : fa.tmps[44]?.getD undef = .pointer (some ⟨b, 0, none⟩) := by simpa using (hpre ⟨8, .data⟩ (by simp) rfl : fa.tmps.getD 44 undef = .pointer (some ⟨b, 0, none⟩))
      exact step_val (v := .pointer (some ⟨b, 15, none⟩)) (w' := fw) (by go_simp) ⟨_, rfl, rfl, Below.refl _ _⟩
  case last =>
    intro o ho fa fw hF hJ hφ
    obtain rfl := Option.some.inj ho
    have hd9 : fa.tmps[45]?.getD undef = .pointer (some ⟨b, 15, none⟩) := by simpa using (hφ 9 (by decide) : fa.tmps.getD 45 undef = .pointer (some ⟨b, 15, none⟩))
    obtain ⟨ma2, mc2, q7, hrow⟩ := (hφ 7 (by decide) : ∃ ma2 mc2, (fa.tmps.getD 43 undef) = .slice ma2 (ms.length + 1) mc2 ∧ fw.ownsRow c 40 7 (.slice ma2 (ms.length + 1) mc2) (ms.length + 1) (cellsOf MailA.cells ms ++ cellsOf MailA.cells [⟨4, n.id, dst, num, ab, r, s1, k1, n.view⟩]))
    have hd7 : fa.tmps[43]?.getD undef = .slice ma2 (ms.length + 1) mc2 := by simpa using q7
    have hb1 := hJ.1
    have hKV := hJ.2.2.2.2
    have hnew : BlkIs (fw.setCell ⟨b, 15, none⟩ (.slice ma2 (ms.length + 1) mc2)) b 92 #[.int .i64 n.id, .int .i64 n.inc, .int .i64 n.num, .int .i64 n.seed, .int .i64 n.next, .slice a.va n.view.length a.vc, .slice a.ra n.rum.length a.rc, .slice a.ta n.tl.length a.tc, .int .i64 n.at0, .int .i64 n.pb.node, .int .i64 n.pb.num, .int .i64 n.pb.due, .bool n.pb.asked, .slice a.da n.db.length a.dc, .int .i64 now, .slice ma2 (ms.length + 1) mc2, .int .i64 miss] := hb1.put 15 (.slice ma2 (ms.length + 1) mc2)
    have hk2 := keeps_setCell fw b 15 (.slice ma2 (ms.length + 1) mc2)
    have hst : StRows fw c a n := ⟨rowKeep HV.rows.v hKV (fun g e e2 => row_ap HV.rows.v RS (by decide) e e2), rowKeep HV.rows.r hKV (fun g e e2 => row_ap HV.rows.r RS (by decide) e e2), rowKeep HV.rows.t hKV (fun g e e2 => row_ap HV.rows.t RS (by decide) e e2), rowKeep HV.rows.d hKV (fun g e e2 => row_ap HV.rows.d RS (by decide) e e2)⟩
    have hst2 := hst.keepB hb1 notEl_act hk2
    have hf0 : ∀ i (hi : i < ms.length), fw.ownsRow c 54 3 (slM ms[i]) ms[i].l.length (cellsOf FactV.cells ms[i].l) := fun i hi => rowKeep (HMV.f i hi) hKV (fun g e e2 => row_ap (HMV.f i hi) RS (by decide) e e2)
    have hn0 : fw.ownsRow c 54 3 (.slice s1 n.view.length k1) n.view.length (cellsOf FactV.cells n.view) := rowLe (rowKeep rowV hKV (fun g e e2 => row_ap rowV RS (by decide) e e2)) hcy
    have hMR : MRows (fw.setCell ⟨b, 15, none⟩ (.slice ma2 (ms.length + 1) mc2)) c a.va n.view.length a.vc ma2 mc2 (ms ++ [⟨4, n.id, dst, num, ab, r, s1, k1, n.view⟩]) := MRows.snoc HMV (fun i hi => rowKeep (hf0 i hi) hk2 (fun g e hg => hb1.not_row (by decide) (hf0 i hi) (hg ▸ e))) (rowKeep hrow hk2 (fun g e hg => hb1.not_row (by decide) hrow (hg ▸ e))) (rowKeep hn0 hk2 (fun g e hg => hb1.not_row (by decide) hn0 (hg ▸ e)))
      (fun g e e2 => by have := hfr g e; have := hvo g e2; omega) (fun g e i hi e2 => by have := hfr g e; have := hmo i hi g e2; omega)
    have hKw : Keeps (fun q => q ≠ b ∧ (Value.slice ma ms.length mc).ownBlock ≠ some q) w (fw.setCell ⟨b, 15, none⟩ (.slice ma2 (ms.length + 1) mc2)) := ((KV.mono (fun k _ h => h.1)).trans (hKV.mono (fun k _ h => h.2))).trans (hk2.mono (fun k _ h => h.1))
    refine step_skip (w' := fw.setCell ⟨b, 15, none⟩ (.slice ma2 (ms.length + 1) mc2)) (exec_store_cell hb1 _ _ _ rfl (show fa.tmps.getD 45 undef = _ by simpa using hd9) (show fa.tmps.getD 43 undef = _ by simpa using hd7) (show 15 < 17 by decide) (by kernel_rfl) rfl) ?_
    obtain ⟨wn, hwn⟩ : ∃ wn, fw.setCell ⟨b, 15, none⟩ (.slice ma2 (ms.length + 1) mc2) = wn := ⟨_, rfl⟩
    rw [hwn] at hnew hst2 hMR hKw ⊢
    clear hwn hb1 hKV hk2 hst hf0 hn0
    obtain ⟨ft, fd⟩ := fa
    obtain ⟨hd, hz, hs⟩ := hF
    have e := tmps_slots ft 46 hz
    simp only [List.range, List.range.loop, List.map] at e
    have hu : ∀ s, (∀ i, i < 10 → [36, 37, 38, 39, 40, 41, 42, 43, 44, 45].getD i 0 ≠ s) → ft.getD s undef = _ := hs
    rw [hu 0 (by decide), hu 1 (by decide), hu 2 (by decide), hu 3 (by decide), hu 4 (by decide), hu 5 (by decide), hu 6 (by decide), hu 7 (by decide), hu 8 (by decide), hu 9 (by decide), hu 10 (by decide), hu 11 (by decide), hu 12 (by decide), hu 13 (by decide), hu 14 (by decide), hu 15 (by decide), hu 16 (by decide), hu 17 (by decide), hu 18 (by decide), hu 19 (by decide), hu 20 (by decide), hu 21 (by decide), hu 22 (by decide), hu 23 (by decide), hu 24 (by decide), hu 25 (by decide), hu 26 (by decide), hu 27 (by decide), hu 28 (by decide), hu 29 (by decide), hu 30 (by decide), hu 31 (by decide), hu 32 (by decide), hu 33 (by decide), hu 34 (by decide), hu 35 (by decide)] at e
    obtain ⟨y36, hy36⟩ : ∃ z, ft.getD 36 undef = z := ⟨_, rfl⟩
    obtain ⟨y37, hy37⟩ : ∃ z, ft.getD 37 undef = z := ⟨_, rfl⟩
    obtain ⟨y38, hy38⟩ : ∃ z, ft.getD 38 undef = z := ⟨_, rfl⟩
    obtain ⟨y39, hy39⟩ : ∃ z, ft.getD 39 undef = z := ⟨_, rfl⟩
    obtain ⟨y40, hy40⟩ : ∃ z, ft.getD 40 undef = z := ⟨_, rfl⟩
    obtain ⟨y41, hy41⟩ : ∃ z, ft.getD 41 undef = z := ⟨_, rfl⟩
    obtain ⟨y42, hy42⟩ : ∃ z, ft.getD 42 undef = z := ⟨_, rfl⟩
    obtain ⟨y43, hy43⟩ : ∃ z, ft.getD 43 undef = z := ⟨_, rfl⟩
    obtain ⟨y44, hy44⟩ : ∃ z, ft.getD 44 undef = z := ⟨_, rfl⟩
    obtain ⟨y45, hy45⟩ : ∃ z, ft.getD 45 undef = z := ⟨_, rfl⟩
    rw [hy36, hy37, hy38, hy39, hy40, hy41, hy42, hy43, hy44, hy45] at e
    clear hy36 hy37 hy38 hy39 hy40 hy41 hy42 hy43 hy44 hy45 hu hs hz hφ hd9 hd7 q7
    subst e
    obtain rfl : fd = [] := hd
    go_wp2_with fail
    exact bodyPost_ret (v := .tuple #[]) (by simp [results, Tryz.results64]) rfl ⟨rfl, ma2, mc2, ⟨4, n.id, dst, num, ab, r, s1, k1, n.view⟩, ⟨hnew, hlo, hst2⟩, hMR, rfl, hKw⟩
set_option maxHeartbeats 8000000 in
set_option maxRecDepth 100000 in
theorem send5_any (c b : Nat) (a : NodeM) (n : NodeV) (now : Int) (ma : Option Addr) (mc : Nat) (ms : List MailA) (miss f0 dst num ab r : Int) (w : World) (hv6 : n.view.length ≤ 1000) (hms : ms.length ≤ 1000) (hc : c ≤ w.heap.size) (H : NodeSt 92 w c b a n (.int .i64 now) (.slice ma ms.length mc) (.int .i64 miss)) (HM : MRows w c a.va n.view.length a.vc ma mc ms) :
    Calls Tryz.prog 64 #[.pointer (some ⟨b, 0, none⟩), .agg #[.int .i64 5, .int .i64 f0, .int .i64 dst, .int .i64 num, .int .i64 ab, .int .i64 r, .slice none 0 0]] w (sendAllPost c b a n now ma mc ms miss 5 dst num ab r w) := by
  have hlo := H.lo
  have O0 : BlkIs w b 92 #[.int .i64 n.id, .int .i64 n.inc, .int .i64 n.num, .int .i64 n.seed, .int .i64 n.next, .slice a.va n.view.length a.vc, .slice a.ra n.rum.length a.rc, .slice a.ta n.tl.length a.tc, .int .i64 n.at0, .int .i64 n.pb.node, .int .i64 n.pb.num, .int .i64 n.pb.due, .bool n.pb.asked, .slice a.da n.db.length a.dc, .int .i64 now, .slice ma ms.length mc, .int .i64 miss] := H.blk
  have hlt := O0.lt
  
  have B := (Below.refl w.heap.size w).alloc (Nat.le_refl _) (.cells #[.int .i64 5, .int .i64 f0, .int .i64 dst, .int .i64 num, .int .i64 ab, .int .i64 r, .slice none 0 0] 40)
  have P := BlkIs.new w 40 #[.int .i64 5, .int .i64 f0, .int .i64 dst, .int .i64 num, .int .i64 ab, .int .i64 r, .slice none 0 0]
  have O := O0.keep B
  have HB := H.keep B
  have HMB := HM.keep B
  go_enter Tryz.func64, Tryz.ntmps64
  go_upto_region 1 with fail
  obtain ⟨X, hX⟩ : ∃ W, w.alloc (.cells #[.int .i64 5, .int .i64 f0, .int .i64 dst, .int .i64 num, .int .i64 ab, .int .i64 r, .slice none 0 0] 40) = W := ⟨_, rfl⟩
  rw [hX] at P B O HB HMB ⊢
  clear hX O0
  obtain ⟨km, hkm⟩ : ∃ q, w.heap.size = q := ⟨_, rfl⟩
  rw [hkm] at P ⊢
  have hbm : b ≠ km := by omega
  have c0 : X.cell? ⟨b, 0, none⟩ = some (.int .i64 n.id) := O.cell 0
  go_upto_region 2 with (refine store_cell P rfl _ _ _ rfl 1 (.int .i64 n.id) rfl rfl (show 1 < 7 by decide) (by kernel_rfl) rfl ?_; intro Y PY ky)
  replace PY : BlkIs Y km 40 #[.int .i64 5, .int .i64 n.id, .int .i64 dst, .int .i64 num, .int .i64 ab, .int .i64 r, .slice none 0 0] := PY
  have OY := O.keepK ky hbm
  have HY : NodeSt 92 Y c b a n (.int .i64 now) (.slice ma ms.length mc) (.int .i64 miss) := ⟨OY, hlo, HB.rows.keepB P notEl_mail ky⟩
  have HMY : MRows Y c a.va n.view.length a.vc ma mc ms := by
    refine ⟨?_, fun i hi => rowKeep (HMB.f i hi) ky (fun g e hg => P.not_row (by decide) (HMB.f i hi) (hg ▸ e)), HMB.fv, HMB.ff⟩
    exact rowKeep HMB.m ky (fun g e hg => by have := (HM.m.lt g e).2; omega)
  have BY : Below w.heap.size w Y := B.trans (ky.belowNe (by omega) B.size)
  have k0 : Y.cell? ⟨km, 0, none⟩ = some (.int .i64 5) := PY.cell 0
  clear P B O HB HMB ky c0
  have c5 : Y.cell? ⟨b, 5, none⟩ = some (.slice a.va n.view.length a.vc) := OY.cell 5
  go_upto_region 10 with (first
    | (go_at_call 124; refine (copiedF_any a.va a.vc n.view _ (by omega) HY.rows.nodeRows.v).mono ?_; rintro e Z ⟨v, rfl, rowF, bz⟩; obtain ⟨s1, k1, rfl⟩ := rowSlice rowF; have PZ := PY.keep bz; clear c5)
    | (refine store_cell PZ rfl _ _ _ rfl 6 (.slice s1 n.view.length k1) rfl rfl (show 6 < 7 by decide) (by kernel_rfl) rfl ?_; intro V PV kv))
  replace PV : BlkIs V km 40 #[.int .i64 5, .int .i64 n.id, .int .i64 dst, .int .i64 num, .int .i64 ab, .int .i64 r, .slice s1 n.view.length k1] := PV
  have hkz : km < Z.heap.size := PZ.lt
  have HZ := HY.keep bz
  have OZ : BlkIs Z b 92 #[.int .i64 n.id, .int .i64 n.inc, .int .i64 n.num, .int .i64 n.seed, .int .i64 n.next, .slice a.va n.view.length a.vc, .slice a.ra n.rum.length a.rc, .slice a.ta n.tl.length a.tc, .int .i64 n.at0, .int .i64 n.pb.node, .int .i64 n.pb.num, .int .i64 n.pb.due, .bool n.pb.asked, .slice a.da n.db.length a.dc, .int .i64 now, .slice ma ms.length mc, .int .i64 miss] := HZ.blk
  have HMZ := HMY.keep bz
  have hYs : km ≤ Y.heap.size := Nat.le_of_lt PY.lt
  have BZ := BY.trans (bz.mono BY.size)
  have HV : NodeSt 92 V c b a n (.int .i64 now) (.slice ma ms.length mc) (.int .i64 miss) := ⟨OZ.keepK kv hbm, hlo, HZ.rows.keepB PZ notEl_mail kv⟩
  have HMV : MRows V c a.va n.view.length a.vc ma mc ms := by
    refine ⟨?_, fun i hi => rowKeep (HMZ.f i hi) kv (fun g e hg => PZ.not_row (by decide) (HMZ.f i hi) (hg ▸ e)), HMZ.fv, HMZ.ff⟩
    exact rowKeep HMZ.m kv (fun g e hg => by have := (HM.m.lt g e).2; omega)
  have rowV := rowKeep rowF kv (fun g e hg => PZ.not_row (by decide) rowF (hg ▸ e))
  have BV : Below w.heap.size w V := BZ.trans (kv.belowNe (by omega) BZ.size)
  have KV : Keeps (fun q => q ≠ b) w V := Keeps.ofBelow BV (fun k hk _ => hk)
  have hfr : ∀ g, (Value.slice s1 n.view.length k1).ownBlock = some g → Y.heap.size ≤ g := fun g e => (rowF.lt g e).1
  have hvo : ∀ g, (Value.slice a.va n.view.length a.vc).ownBlock = some g → g < Y.heap.size := fun g e => (HY.rows.v.lt g e).2
  have hmo : ∀ i (hi : i < ms.length) g, (slM ms[i]).ownBlock = some g → g < Y.heap.size := fun i hi g e => ((HMY.f i hi).lt g e).2
  have hcy : c ≤ Y.heap.size := by omega
  clear HZ OZ HMZ kv bz rowF PZ OY HY HMY
  have e15 : V.cell? ⟨b, 15, none⟩ = some (.slice ma ms.length mc) := HV.blk.cell 15
  have z15 := HV.blk.fz 15
  have g0 : V.cell? ⟨km, 0, none⟩ = some (.int .i64 5) := PV.cell 0
  have g1 : V.cell? ⟨km, 1, none⟩ = some (.int .i64 n.id) := PV.cell 1
  have g2 : V.cell? ⟨km, 2, none⟩ = some (.int .i64 dst) := PV.cell 2
  have g3 : V.cell? ⟨km, 3, none⟩ = some (.int .i64 num) := PV.cell 3
  have g4 : V.cell? ⟨km, 4, none⟩ = some (.int .i64 ab) := PV.cell 4
  have g5 : V.cell? ⟨km, 5, none⟩ = some (.int .i64 r) := PV.cell 5
  have g6 : V.cell? ⟨km, 6, none⟩ = some (.slice s1 n.view.length k1) := PV.cell 6
  have hcv : c ≤ V.heap.size := Nat.le_trans hc KV.size
  try simp only [Act.put]
  have RS := HMV.m
  have hnbm : (Value.slice ma ms.length mc).ownBlock ≠ some b := HV.blk.not_row (by decide) RS
  have hnkm : (Value.slice ma ms.length mc).ownBlock ≠ some km := fun e => by have := (HM.m.lt km e).2; omega
  go_upto_region 10 with fail
  refine wp_region_any (by kernel_rfl) ?_
  refine wpAny_boxJ 10 7 (by decide) (fun i => [36, 37, 38, 39, 40, 41, 42, 43, 44, 45].getD i 0) (fun kq v wq => match kq with | 0 => v = .pointer (some ⟨b, 0, none⟩) | 1 => v = .pointer (some ⟨b, 0, none⟩) | 2 => v = .pointer (some ⟨b, 0, none⟩) | 3 => v = .pointer (some ⟨b, 15, none⟩) | 4 => v = .slice ma ms.length mc | 5 => v = .agg #[.int .i64 5, .int .i64 n.id, .int .i64 dst, .int .i64 num, .int .i64 ab, .int .i64 r, .slice s1 n.view.length k1] | 6 => ∃ kb, v = .slice (some ⟨kb, 0, none⟩) 1 1 ∧ BlkIs wq kb 40 #[.int .i64 5, .int .i64 n.id, .int .i64 dst, .int .i64 num, .int .i64 ab, .int .i64 r, .slice s1 n.view.length k1] ∧ V.heap.size ≤ kb | 7 => ∃ ma2 mc2, v = .slice ma2 (ms.length + 1) mc2 ∧ wq.ownsRow c 40 7 (.slice ma2 (ms.length + 1) mc2) (ms.length + 1) (cellsOf MailA.cells ms ++ cellsOf MailA.cells [⟨5, n.id, dst, num, ab, r, s1, k1, n.view⟩]) | 8 => v = .pointer (some ⟨b, 0, none⟩) | 9 => v = .pointer (some ⟨b, 15, none⟩) | _ => True) _ (fun wp wq => Keeps (fun q => (Value.slice ma ms.length mc).ownBlock ≠ some q) wp wq) (fun fw => BlkIs fw b 92 #[.int .i64 n.id, .int .i64 n.inc, .int .i64 n.num, .int .i64 n.seed, .int .i64 n.next, .slice a.va n.view.length a.vc, .slice a.ra n.rum.length a.rc, .slice a.ta n.tl.length a.tc, .int .i64 n.at0, .int .i64 n.pb.node, .int .i64 n.pb.num, .int .i64 n.pb.due, .bool n.pb.asked, .slice a.da n.db.length a.dc, .int .i64 now, .slice ma ms.length mc, .int .i64 miss] ∧ BlkIs fw km 40 #[.int .i64 5, .int .i64 n.id, .int .i64 dst, .int .i64 num, .int .i64 ab, .int .i64 r, .slice s1 n.view.length k1] ∧ V.heap.size ≤ fw.heap.size ∧ fw.ownsRow c 40 7 (.slice ma ms.length mc) ms.length (cellsOf MailA.cells ms) ∧ Keeps (fun q => (Value.slice ma ms.length mc).ownBlock ≠ some q) V fw) (fun fw => BlkIs fw b 92 #[.int .i64 n.id, .int .i64 n.inc, .int .i64 n.num, .int .i64 n.seed, .int .i64 n.next, .slice a.va n.view.length a.vc, .slice a.ra n.rum.length a.rc, .slice a.ta n.tl.length a.tc, .int .i64 n.at0, .int .i64 n.pb.node, .int .i64 n.pb.num, .int .i64 n.pb.due, .bool n.pb.asked, .slice a.da n.db.length a.dc, .int .i64 now, .slice ma ms.length mc, .int .i64 miss] ∧ BlkIs fw km 40 #[.int .i64 5, .int .i64 n.id, .int .i64 dst, .int .i64 num, .int .i64 ab, .int .i64 r, .slice s1 n.view.length k1] ∧ V.heap.size ≤ fw.heap.size ∧ True ∧ Keeps (fun q => (Value.slice ma ms.length mc).ownBlock ≠ some q) V fw) (by kernel_rfl) ?inj ?stab ?stab1 ?hJ0 ?hJ1 ?step ?spec ?last _ _ _ _ (List.range 11) (by kernel_rfl) (Nat.le_refl 11) ?un (by kernel_rfl) ?down ⟨rfl, rfl, fun _ _ => rfl⟩ ⟨fun _ => ⟨HV.blk.keep (Below.refl _ _).drew, PV.keep (Below.refl _ _).drew, Nat.le_refl _, rowBelow RS (Below.refl _ _).drew, (Keeps.refl _ _).drew⟩, fun h => absurd h (by decide)⟩ ?none
  case inj => exact (show ∀ i, i < 10 → ∀ j, j < 10 → [36, 37, 38, 39, 40, 41, 42, 43, 44, 45].getD i 0 = [36, 37, 38, 39, 40, 41, 42, 43, 44, 45].getD j 0 → i = j by decide)
  case un => exact fun i hi _ => List.mem_range.2 hi
  case down =>
    intro j hj
    exfalso
    by_cases hi : j < 11
    · simp [hi] at hj
    · simp [hi] at hj
  case none =>
    intro i hi hj
    exfalso
    have hi2 : i < 11 := by omega
    simp [hi2] at hj
  case stab =>
    intro kq u wa wb h hB
    match kq, h with
    | 0, h => exact h
    | 1, h => exact h
    | 2, h => exact h
    | 3, h => exact h
    | 4, h => exact h
    | 5, h => exact h
    | 6, h => exact (show ∃ kb, u = .slice (some ⟨kb, 0, none⟩) 1 1 ∧ BlkIs wb kb 40 #[.int .i64 5, .int .i64 n.id, .int .i64 dst, .int .i64 num, .int .i64 ab, .int .i64 r, .slice s1 n.view.length k1] ∧ V.heap.size ≤ kb from by obtain ⟨kb, h1, h2, h3⟩ := h; exact ⟨kb, h1, h2.keep hB, h3⟩)
    | 7, h => exact (show ∃ ma2 mc2, u = .slice ma2 (ms.length + 1) mc2 ∧ wb.ownsRow c 40 7 (.slice ma2 (ms.length + 1) mc2) (ms.length + 1) (cellsOf MailA.cells ms ++ cellsOf MailA.cells [⟨5, n.id, dst, num, ab, r, s1, k1, n.view⟩]) from by obtain ⟨ma2, mc2, h1, h2⟩ := h; exact ⟨ma2, mc2, h1, rowBelow h2 hB⟩)
    | 8, h => exact h
    | 9, h => exact h
    | _ + 10, _ => exact trivial
  case stab1 =>
    intro kq u wa wb hk h hR
    match kq, hk, h with
    | 0, hk, h => exact h
    | 1, hk, h => exact h
    | 2, hk, h => exact h
    | 3, hk, h => exact h
    | 4, hk, h => exact h
    | 5, hk, h => exact h
    | 6, hk, h => exact (show ∃ kb, u = .slice (some ⟨kb, 0, none⟩) 1 1 ∧ BlkIs wb kb 40 #[.int .i64 5, .int .i64 n.id, .int .i64 dst, .int .i64 num, .int .i64 ab, .int .i64 r, .slice s1 n.view.length k1] ∧ V.heap.size ≤ kb from by obtain ⟨kb, h1, h2, h3⟩ := h; exact ⟨kb, h1, h2.keepK hR (fun e => by have := (RS.lt kb e).2; omega), h3⟩)
    | 7, hk, h => exact absurd rfl hk
    | 8, hk, h => exact h
    | 9, hk, h => exact h
    | _ + 10, _, _ => exact trivial
  case hJ0 => exact (fun w w' h k => ⟨h.1.keep k, h.2.1.keep k, Nat.le_trans h.2.2.1 k.size, rowBelow h.2.2.2.1 k, h.2.2.2.2.below k⟩)
  case hJ1 => exact (fun w w' h k => ⟨h.1.keep k, h.2.1.keep k, Nat.le_trans h.2.2.1 k.size, trivial, h.2.2.2.2.below k⟩)
  case spec =>
    intro o ho fa fw hF hJ hpre
    obtain rfl := Option.some.inj ho
    have hd4 : fa.tmps[40]?.getD undef = .slice ma ms.length mc := by simpa using (hpre ⟨4, .data⟩ (by simp) rfl : fa.tmps.getD 40 undef = .slice ma ms.length mc)
    obtain ⟨kb, q6, hb6, hkb6⟩ := (hpre ⟨6, .data⟩ (by simp) rfl : ∃ kb, (fa.tmps.getD 42 undef) = .slice (some ⟨kb, 0, none⟩) 1 1 ∧ BlkIs fw kb 40 #[.int .i64 5, .int .i64 n.id, .int .i64 dst, .int .i64 num, .int .i64 ab, .int .i64 r, .slice s1 n.view.length k1] ∧ V.heap.size ≤ kb)
    have hd6 : fa.tmps[42]?.getD undef = .slice (some ⟨kb, 0, none⟩) 1 1 := by simpa using q6
    refine appM rfl _ _ rfl c (.slice ma ms.length mc) ms.length (cellsOf MailA.cells ms) (show fa.tmps.getD 40 undef = _ by simpa using hd4) hJ.2.2.2.1 (some ⟨kb, 0, none⟩) 1 1 (fun e => by cases e) [⟨5, n.id, dst, num, ab, r, s1, k1, n.view⟩] rfl (show fa.tmps.getD 42 undef = _ by simpa using hd6) (rowOneM (d := ⟨5, n.id, dst, num, ab, r, s1, k1, n.view⟩) hb6) (by omega) (Nat.le_trans hcv hJ.2.2.1) ?_
    intro u U hu hgr hbl
    obtain ⟨ma2, mc2, rfl⟩ := rowSlice hu
    have kg : Keeps (fun q => (Value.slice ma ms.length mc).ownBlock ≠ some q) fw U := (Keeps.refl _ _).grown hgr (fun k e hk => hk e)
    exact ⟨_, rfl, ⟨ma2, mc2, rfl, hu⟩, kg, hJ.1.keepK kg hnbm, hJ.2.1.keepK kg hnkm, Nat.le_trans hJ.2.2.1 kg.size, trivial, hJ.2.2.2.2.trans kg⟩
  case step =>
    intro i o hin hne ho fa fw hF hJ hpre
    obtain rfl | rfl | rfl | rfl | rfl | rfl | rfl | rfl | rfl : i = 0 ∨ i = 1 ∨ i = 2 ∨ i = 3 ∨ i = 4 ∨ i = 5 ∨ i = 6 ∨ i = 8 ∨ i = 9 := by omega
    all_goals (obtain rfl := Option.some.inj ho)
    · have hs0 : fa.tmps[0]?.getD undef = .pointer (some ⟨b, 0, none⟩) := by
        have := hF.2.2 0 (show ∀ i, i < 10 → [36, 37, 38, 39, 40, 41, 42, 43, 44, 45].getD i 0 ≠ 0 by decide)
        simpa using this
      exact step_val (v := .pointer (some ⟨b, 0, none⟩)) (w' := fw) (by go_simp) ⟨_, rfl, rfl, Below.refl _ _⟩
    · have hs0 : fa.tmps[0]?.getD undef = .pointer (some ⟨b, 0, none⟩) := by
        have := hF.2.2 0 (show ∀ i, i < 10 → [36, 37, 38, 39, 40, 41, 42, 43, 44, 45].getD i 0 ≠ 0 by decide)
        simpa using this
      exact step_val (v := .pointer (some ⟨b, 0, none⟩)) (w' := fw) (by go_simp) ⟨_, rfl, rfl, Below.refl _ _⟩
    · have hd1 : fa.tmps[37]?.getD undef = .pointer (some ⟨b, 0, none⟩) := by simpa using (hpre ⟨1, .data⟩ (by simp) rfl : fa.tmps.getD 37 undef = .pointer (some ⟨b, 0, none⟩))
      exact step_val (v := .pointer (some ⟨b, 0, none⟩)) (w' := fw) (by go_simp) ⟨_, rfl, rfl, Below.refl _ _⟩
    · have hd2 : fa.tmps[38]?.getD undef = .pointer (some ⟨b, 0, none⟩) := by simpa using (hpre ⟨2, .data⟩ (by simp) rfl : fa.tmps.getD 38 undef = .pointer (some ⟨b, 0, none⟩))
      exact step_val (v := .pointer (some ⟨b, 15, none⟩)) (w' := fw) (by go_simp) ⟨_, rfl, rfl, Below.refl _ _⟩
    · have hd3 : fa.tmps[39]?.getD undef = .pointer (some ⟨b, 15, none⟩) := by simpa using (hpre ⟨3, .data⟩ (by simp) rfl : fa.tmps.getD 39 undef = .pointer (some ⟨b, 15, none⟩))
      have m0 := (show fw.cell? ⟨b, 15, none⟩ = some (.slice ma ms.length mc) from (hJ.elim (fun h => h.1) (fun h => h.1) : BlkIs fw b 92 #[.int .i64 n.id, .int .i64 n.inc, .int .i64 n.num, .int .i64 n.seed, .int .i64 n.next, .slice a.va n.view.length a.vc, .slice a.ra n.rum.length a.rc, .slice a.ta n.tl.length a.tc, .int .i64 n.at0, .int .i64 n.pb.node, .int .i64 n.pb.num, .int .i64 n.pb.due, .bool n.pb.asked, .slice a.da n.db.length a.dc, .int .i64 now, .slice ma ms.length mc, .int .i64 miss]).cell 15)
      try dsimp only at m0
      exact step_val (v := .slice ma ms.length mc) (w' := fw) (by go_simp) ⟨_, rfl, rfl, Below.refl _ _⟩
    · have hs3 : fa.tmps[3]?.getD undef = .pointer (some ⟨km, 0, none⟩) := by
        have := hF.2.2 3 (show ∀ i, i < 10 → [36, 37, 38, 39, 40, 41, 42, 43, 44, 45].getD i 0 ≠ 3 by decide)
        simpa using this
      have m0 := (show fw.cell? ⟨km, 0, none⟩ = some (.int .i64 5) from (hJ.elim (fun h => h.2.1) (fun h => h.2.1) : BlkIs fw km 40 #[.int .i64 5, .int .i64 n.id, .int .i64 dst, .int .i64 num, .int .i64 ab, .int .i64 r, .slice s1 n.view.length k1]).cell 0)
      try dsimp only at m0
      have m1 := (show fw.cell? ⟨km, 1, none⟩ = some (.int .i64 n.id) from (hJ.elim (fun h => h.2.1) (fun h => h.2.1) : BlkIs fw km 40 #[.int .i64 5, .int .i64 n.id, .int .i64 dst, .int .i64 num, .int .i64 ab, .int .i64 r, .slice s1 n.view.length k1]).cell 1)
      try dsimp only at m1
      have m2 := (show fw.cell? ⟨km, 2, none⟩ = some (.int .i64 dst) from (hJ.elim (fun h => h.2.1) (fun h => h.2.1) : BlkIs fw km 40 #[.int .i64 5, .int .i64 n.id, .int .i64 dst, .int .i64 num, .int .i64 ab, .int .i64 r, .slice s1 n.view.length k1]).cell 2)
      try dsimp only at m2
      have m3 := (show fw.cell? ⟨km, 3, none⟩ = some (.int .i64 num) from (hJ.elim (fun h => h.2.1) (fun h => h.2.1) : BlkIs fw km 40 #[.int .i64 5, .int .i64 n.id, .int .i64 dst, .int .i64 num, .int .i64 ab, .int .i64 r, .slice s1 n.view.length k1]).cell 3)
      try dsimp only at m3
      have m4 := (show fw.cell? ⟨km, 4, none⟩ = some (.int .i64 ab) from (hJ.elim (fun h => h.2.1) (fun h => h.2.1) : BlkIs fw km 40 #[.int .i64 5, .int .i64 n.id, .int .i64 dst, .int .i64 num, .int .i64 ab, .int .i64 r, .slice s1 n.view.length k1]).cell 4)
      try dsimp only at m4
      have m5 := (show fw.cell? ⟨km, 5, none⟩ = some (.int .i64 r) from (hJ.elim (fun h => h.2.1) (fun h => h.2.1) : BlkIs fw km 40 #[.int .i64 5, .int .i64 n.id, .int .i64 dst, .int .i64 num, .int .i64 ab, .int .i64 r, .slice s1 n.view.length k1]).cell 5)
      try dsimp only at m5
      have m6 := (show fw.cell? ⟨km, 6, none⟩ = some (.slice s1 n.view.length k1) from (hJ.elim (fun h => h.2.1) (fun h => h.2.1) : BlkIs fw km 40 #[.int .i64 5, .int .i64 n.id, .int .i64 dst, .int .i64 num, .int .i64 ab, .int .i64 r, .slice s1 n.view.length k1]).cell 6)
      try dsimp only at m6
      exact step_val (v := .agg #[.int .i64 5, .int .i64 n.id, .int .i64 dst, .int .i64 num, .int .i64 ab, .int .i64 r, .slice s1 n.view.length k1]) (w' := fw) (by go_simp) ⟨_, rfl, rfl, Below.refl _ _⟩
    · have hd5 : fa.tmps[41]?.getD undef = .agg #[.int .i64 5, .int .i64 n.id, .int .i64 dst, .int .i64 num, .int .i64 ab, .int .i64 r, .slice s1 n.view.length k1] := by simpa using (hpre ⟨5, .data⟩ (by simp) rfl : fa.tmps.getD 41 undef = .agg #[.int .i64 5, .int .i64 n.id, .int .i64 dst, .int .i64 num, .int .i64 ab, .int .i64 r, .slice s1 n.view.length k1])
      go_simp
      exact ⟨_, rfl, ⟨fw.heap.size, rfl, BlkIs.new _ _ _, (hJ.elim (fun h => h.2.2.1) (fun h => h.2.2.1))⟩, (Below.refl _ _).alloc (Nat.le_refl _) _⟩
    · have hd0 : fa.tmps[36]?.getD undef = .pointer (some ⟨b, 0, none⟩) := by simpa using (hpre ⟨0, .data⟩ (by simp) rfl : fa.tmps.getD 36 undef = .pointer (some ⟨b, 0, none⟩))
      exact step_val (v := .pointer (some ⟨b, 0, none⟩)) (w' := fw) (by go_simp) ⟨_, rfl, rfl, Below.refl _ _⟩
    · have hd8 : fa.tmps[44]?.getD undef = .pointer (some ⟨b, 0, none⟩) := by simpa using (hpre ⟨8, .data⟩ (by simp) rfl : fa.tmps.getD 44 undef = .pointer (some ⟨b, 0, none⟩))
      exact step_val (v := .pointer (some ⟨b, 15, none⟩)) (w' := fw) (by go_simp) ⟨_, rfl, rfl, Below.refl _ _⟩
  case last =>
    intro o ho fa fw hF hJ hφ
    obtain rfl := Option.some.inj ho
    have hd9 : fa.tmps[45]?.getD undef = .pointer (some ⟨b, 15, none⟩) := by simpa using (hφ 9 (by decide) : fa.tmps.getD 45 undef = .pointer (some ⟨b, 15, none⟩))
    obtain ⟨ma2, mc2, q7, hrow⟩ := (hφ 7 (by decide) : ∃ ma2 mc2, (fa.tmps.getD 43 undef) = .slice ma2 (ms.length + 1) mc2 ∧ fw.ownsRow c 40 7 (.slice ma2 (ms.length + 1) mc2) (ms.length + 1) (cellsOf MailA.cells ms ++ cellsOf MailA.cells [⟨5, n.id, dst, num, ab, r, s1, k1, n.view⟩]))
    have hd7 : fa.tmps[43]?.getD undef = .slice ma2 (ms.length + 1) mc2 := by simpa using q7
    have hb1 := hJ.1
    have hKV := hJ.2.2.2.2
    have hnew : BlkIs (fw.setCell ⟨b, 15, none⟩ (.slice ma2 (ms.length + 1) mc2)) b 92 #[.int .i64 n.id, .int .i64 n.inc, .int .i64 n.num, .int .i64 n.seed, .int .i64 n.next, .slice a.va n.view.length a.vc, .slice a.ra n.rum.length a.rc, .slice a.ta n.tl.length a.tc, .int .i64 n.at0, .int .i64 n.pb.node, .int .i64 n.pb.num, .int .i64 n.pb.due, .bool n.pb.asked, .slice a.da n.db.length a.dc, .int .i64 now, .slice ma2 (ms.length + 1) mc2, .int .i64 miss] := hb1.put 15 (.slice ma2 (ms.length + 1) mc2)
    have hk2 := keeps_setCell fw b 15 (.slice ma2 (ms.length + 1) mc2)
    have hst : StRows fw c a n := ⟨rowKeep HV.rows.v hKV (fun g e e2 => row_ap HV.rows.v RS (by decide) e e2), rowKeep HV.rows.r hKV (fun g e e2 => row_ap HV.rows.r RS (by decide) e e2), rowKeep HV.rows.t hKV (fun g e e2 => row_ap HV.rows.t RS (by decide) e e2), rowKeep HV.rows.d hKV (fun g e e2 => row_ap HV.rows.d RS (by decide) e e2)⟩
    have hst2 := hst.keepB hb1 notEl_act hk2
    have hf0 : ∀ i (hi : i < ms.length), fw.ownsRow c 54 3 (slM ms[i]) ms[i].l.length (cellsOf FactV.cells ms[i].l) := fun i hi => rowKeep (HMV.f i hi) hKV (fun g e e2 => row_ap (HMV.f i hi) RS (by decide) e e2)
    have hn0 : fw.ownsRow c 54 3 (.slice s1 n.view.length k1) n.view.length (cellsOf FactV.cells n.view) := rowLe (rowKeep rowV hKV (fun g e e2 => row_ap rowV RS (by decide) e e2)) hcy
    have hMR : MRows (fw.setCell ⟨b, 15, none⟩ (.slice ma2 (ms.length + 1) mc2)) c a.va n.view.length a.vc ma2 mc2 (ms ++ [⟨5, n.id, dst, num, ab, r, s1, k1, n.view⟩]) := MRows.snoc HMV (fun i hi => rowKeep (hf0 i hi) hk2 (fun g e hg => hb1.not_row (by decide) (hf0 i hi) (hg ▸ e))) (rowKeep hrow hk2 (fun g e hg => hb1.not_row (by decide) hrow (hg ▸ e))) (rowKeep hn0 hk2 (fun g e hg => hb1.not_row (by decide) hn0 (hg ▸ e)))
      (fun g e e2 => by have := hfr g e; have := hvo g e2; omega) (fun g e i hi e2 => by have := hfr g e; have := hmo i hi g e2; omega)
    have hKw : Keeps (fun q => q ≠ b ∧ (Value.slice ma ms.length mc).ownBlock ≠ some q) w (fw.setCell ⟨b, 15, none⟩ (.slice ma2 (ms.length + 1) mc2)) := ((KV.mono (fun k _ h => h.1)).trans (hKV.mono (fun k _ h => h.2))).trans (hk2.mono (fun k _ h => h.1))
    refine step_skip (w' := fw.setCell ⟨b, 15, none⟩ (.slice ma2 (ms.length + 1) mc2)) (exec_store_cell hb1 _ _ _ rfl (show fa.tmps.getD 45 undef = _ by simpa using hd9) (show fa.tmps.getD 43 undef = _ by simpa using hd7) (show 15 < 17 by decide) (by kernel_rfl) rfl) ?_
    obtain ⟨wn, hwn⟩ : ∃ wn, fw.setCell ⟨b, 15, none⟩ (.slice ma2 (ms.length + 1) mc2) = wn := ⟨_, rfl⟩
    rw [hwn] at hnew hst2 hMR hKw ⊢
    clear hwn hb1 hKV hk2 hst hf0 hn0
    obtain ⟨ft, fd⟩ := fa
    obtain ⟨hd, hz, hs⟩ := hF
    have e := tmps_slots ft 46 hz
    simp only [List.range, List.range.loop, List.map] at e
    have hu : ∀ s, (∀ i, i < 10 → [36, 37, 38, 39, 40, 41, 42, 43, 44, 45].getD i 0 ≠ s) → ft.getD s undef = _ := hs
    rw [hu 0 (by decide), hu 1 (by decide), hu 2 (by decide), hu 3 (by decide), hu 4 (by decide), hu 5 (by decide), hu 6 (by decide), hu 7 (by decide), hu 8 (by decide), hu 9 (by decide), hu 10 (by decide), hu 11 (by decide), hu 12 (by decide), hu 13 (by decide), hu 14 (by decide), hu 15 (by decide), hu 16 (by decide), hu 17 (by decide), hu 18 (by decide), hu 19 (by decide), hu 20 (by decide), hu 21 (by decide), hu 22 (by decide), hu 23 (by decide), hu 24 (by decide), hu 25 (by decide), hu 26 (by decide), hu 27 (by decide), hu 28 (by decide), hu 29 (by decide), hu 30 (by decide), hu 31 (by decide), hu 32 (by decide), hu 33 (by decide), hu 34 (by decide), hu 35 (by decide)] at e
    obtain ⟨y36, hy36⟩ : ∃ z, ft.getD 36 undef = z := ⟨_, rfl⟩
    obtain ⟨y37, hy37⟩ : ∃ z, ft.getD 37 undef = z := ⟨_, rfl⟩
    obtain ⟨y38, hy38⟩ : ∃ z, ft.getD 38 undef = z := ⟨_, rfl⟩
    obtain ⟨y39, hy39⟩ : ∃ z, ft.getD 39 undef = z := ⟨_, rfl⟩
    obtain ⟨y40, hy40⟩ : ∃ z, ft.getD 40 undef = z := ⟨_, rfl⟩
    obtain ⟨y41, hy41⟩ : ∃ z, ft.getD 41 undef = z := ⟨_, rfl⟩
    obtain ⟨y42, hy42⟩ : ∃ z, ft.getD 42 undef = z := ⟨_, rfl⟩
    obtain ⟨y43, hy43⟩ : ∃ z, ft.getD 43 undef = z := ⟨_, rfl⟩
    obtain ⟨y44, hy44⟩ : ∃ z, ft.getD 44 undef = z := ⟨_, rfl⟩
    obtain ⟨y45, hy45⟩ : ∃ z, ft.getD 45 undef = z := ⟨_, rfl⟩
    rw [hy36, hy37, hy38, hy39, hy40, hy41, hy42, hy43, hy44, hy45] at e
    clear hy36 hy37 hy38 hy39 hy40 hy41 hy42 hy43 hy44 hy45 hu hs hz hφ hd9 hd7 q7
    subst e
    obtain rfl : fd = [] := hd
    go_wp2_with fail
    exact bodyPost_ret (v := .tuple #[]) (by simp [results, Tryz.results64]) rfl ⟨rfl, ma2, mc2, ⟨5, n.id, dst, num, ab, r, s1, k1, n.view⟩, ⟨hnew, hlo, hst2⟩, hMR, rfl, hKw⟩
end Go.Proofs.YtmdcankfjmkkeaaGreat
