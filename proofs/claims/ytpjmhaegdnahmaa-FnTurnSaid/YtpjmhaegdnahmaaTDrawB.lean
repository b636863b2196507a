/- The contracts of promise 8's draws of turns. -/
import Derived.Test.YtpjmhaegdnahmaaTDraw
import Derived.Test.YtpjmhaegdnahmaaRegM
namespace Go.Proofs.Ytpjmhaegdnahmaa
open Go Go.RowKit
set_option linter.unusedVariables false
set_option linter.unusedSimpArgs false

theorem grown_self (w : World) (r : Option Nat) : w.grownBy w r := ⟨rfl, rfl, rfl, Nat.le_refl _, fun _ _ _ => rfl⟩
theorem grown_setNew {w w1 : World} {b k : Nat} (h : w.grownBy w1 (some b)) (hk : w.heap.size ≤ k) (i : Nat) (v : Value) : w.grownBy (w1.setCell ⟨k, i, none⟩ v) (some b) :=
  grown_own h (grown_set w1 k i v) (fun g hg => by obtain rfl := Option.some.inj hg; exact hk)
theorem below_grownT {w w' : World} {r : Option Nat} (h : Below w.heap.size w w') : w.grownBy w' r := ⟨h.os, h.tape, h.output, h.size, fun i hi _ => h.block i hi⟩
theorem Src.belowT {w w' : World} {b : Nat} {a : Option Addr} {len cap : Nat} {zs : List Int} (h : Src w b a len cap zs) (k : Below w.heap.size w w') : Src w' b a len cap zs := h.keep k h.lt h.row_lt
theorem BlkIs.grown {w w' : World} {b k t : Nat} {cs : Array Value} (h : BlkIs w k t cs) (hg : w.grownBy w' (some b)) (hne : k ≠ b) : BlkIs w' k t cs := (hg.block k h.lt (fun e => hne (Option.some.inj e))).trans h
theorem Src.keepK {w w' : World} {b : Nat} {a : Option Addr} {len cap : Nat} {zs : List Int} (h : Src w b a len cap zs) {k : Nat} (hk : Keeps (fun q => q ≠ k) w w') (h1 : b ≠ k) (h2 : 0 < len → ∀ p, a = some p → p.block ≠ k) : Src w' b a len cap zs := by
  have hb := h.lt
  have hrl := h.row_lt
  obtain ⟨q1, q2, q3, at0, m, sz, c0, c1, c2, c3, fz, r⟩ := h
  refine ⟨q1, ?_, q3, at0, m, sz, (hk.cell (p := ⟨b, 0, none⟩) hb h1).trans c0, (hk.cell (p := ⟨b, 1, none⟩) hb h1).trans c1, (hk.cell (p := ⟨b, 2, none⟩) hb h1).trans c2, (hk.cell (p := ⟨b, 3, none⟩) hb h1).trans c3, fun j => (hk.frozen (p := ⟨b, j, none⟩) hb h1).trans (fz j), r⟩
  rcases q2 with e | ⟨x, e, e1, e2, e3, e4, e5⟩
  · exact .inl e
  · by_cases h0 : len = 0
    · exact .inl h0
    · exact .inr ⟨x, e, e1, Nat.lt_of_lt_of_le e2 hk.size, e3, fun i hi => (hk.cell (p := ⟨x.block, x.off + i, none⟩) e2 (h2 (by omega) x e)).trans (e4 i hi), e5⟩
theorem row_cap {w : World} {base n cap : Nat} {a : Option Addr} {xs : List Value} (h : w.ownsRow base 2 1 (.slice a n cap) n xs) : n ≤ cap := by
  rcases h.2 with ⟨e, e2⟩ | ⟨g, c, cur, e, _, _, h1, _⟩
  · cases e; omega
  · cases e; exact h1
/-- A turn that is drawn: its box, and its list. -/
def TurnAt (w : World) (lo kt : Nat) (ta : Option Addr) (tc : Nat) (l : List Int) (at0 : Int) : Prop := BlkIs w kt 25 #[.slice ta l.length tc, .int .i64 at0] ∧ w.ownsRow lo 2 1 (.slice ta l.length tc) l.length (numsV l)
set_option maxHeartbeats 4000000 in
set_option maxRecDepth 100000 in
theorem l07Turn_any (b : Nat) (a : Option Addr) (len cap : Nat) (zs : List Int) (w : World) (hs : Src w b a len cap zs) :
    Calls Try.prog 32 #[.pointer (some ⟨b, 0, none⟩)] w fun e w' =>
      ∃ (v : Value) (l : List Int) (at0 : Int), e = .returned (turnV v at0) ∧ l.length ≤ 7 ∧ w'.ownsRow w.heap.size 2 1 v l.length (numsV l) ∧ Src w' b a len cap zs ∧ w.grownBy w' (some b) := by
  have hlt := hs.lt
  have hrl := hs.row_lt
  go_enter Try.func32, Try.ntmps32
  have P0 := (BlkIs.new w 25 #[.slice none 0 0, .int .i64 0]).keep ((Below.refl _ _).alloc (Nat.le_refl _) (.cells #[.slice none 0 0, .int .i64 0] 25))
  have PT := BlkIs.new (w.alloc (.cells #[.slice none 0 0, .int .i64 0] 25)) 25 #[.slice none 0 0, .int .i64 0]
  rw [World.size_alloc] at PT
  have hs0 := (hs.alloc (.cells #[.slice none 0 0, .int .i64 0] 25)).alloc (.cells #[.slice none 0 0, .int .i64 0] 25)
  have hg0 : w.grownBy ((w.alloc (.cells #[.slice none 0 0, .int .i64 0] 25)).alloc (.cells #[.slice none 0 0, .int .i64 0] 25)) (some b) := grown_alloc (World.grownBy_alloc w _ (some b)) _
  obtain ⟨W, hW⟩ : ∃ W, (w.alloc (.cells #[.slice none 0 0, .int .i64 0] 25)).alloc (.cells #[.slice none 0 0, .int .i64 0] 25) = W := ⟨_, rfl⟩
  rw [hW] at P0 PT hs0 hg0
  have HW : Hid (_ = W) := hW
  clear hW
  go_upto_region 2 with fail
  rw [HW.out]
  clear HW
  go_wp2_with fail
  refine (n_any b a len cap zs 5 (by omega) _ hs0).mono ?_
  rintro e w1 ⟨r1, rfl, _, hr1, hs1, hg1⟩
  have hr1' := hr1 (by omega)
  replace P0 := P0.grown hg1 (by omega)
  replace PT := PT.grown hg1 (by omega)
  replace hg0 := grown_trans hg0 hg1
  clear hr1 hg1 hs0
  obtain ⟨kt, hkt⟩ : ∃ k, w.heap.size + 1 = k := ⟨_, rfl⟩
  rw [hkt] at PT ⊢
  have hktw : w.heap.size < kt := by omega
  clear hkt
  go_wp2
  go_loopw [4] (fun i wr => ∃ (k : Int) (l : List Int) (ta : Option Addr) (tc : Nat) (at0 : Int), i = .int .i64 k ∧ 0 ≤ k ∧ k ≤ 5 ∧ l.length ≤ 6 ∧ TurnAt wr w.heap.size kt ta tc l at0 ∧ BlkIs wr w.heap.size 25 #[.slice none 0 0, .int .i64 0] ∧ Src wr b a len cap zs ∧ w.grownBy wr (some b)) (fun i _ => (intOf i).toNat)
  case atStart => exact ⟨r1, [], none, 0, 0, rfl, hr1'.1, by omega, by simp, ⟨PT, World.ownsRow_nil _ _ _ _⟩, P0, hs1, hg0⟩
  case round =>
    clear PT P0 hs1 hg0 hr1'
    obtain ⟨k, l, ta, tc, at0, rfl, hk0, hk5, hl6, ⟨PT, OT⟩, P0, hsr, hgr⟩ := hrel
    have hsz := hgr.size
    have hktr := PT.lt
    have htc := row_cap OT
    have hrx : 0 < len → ∀ p, a = some p → p.block < wr.heap.size := hsr.row_lt
    have hne0 : ∀ g, Value.ownBlock (.slice ta l.length tc) = some g → g ≠ kt ∧ g ≠ w.heap.size := fun g hg => ⟨fun e => PT.not_row (by decide) OT (by rw [hg, e]), fun e => P0.not_row (by decide) OT (by rw [hg, e])⟩
    by_cases hk : 0 < k
    · have hwk : IntKind.i64.wrap (k - 1) = k - 1 := by rw [IntKind.wrap_i64]; omega
      go_upto_region 5 with fail
      go_cut [5] (fun vc wc => ∃ (pa : Option Addr) (pc : Nat) (o : TOutV) (kx : Nat), vc = .pointer (some ⟨kx, 0, none⟩) ∧ BlkIs wc kx 29 #[.slice pa o.list.length pc, .int .i64 o.at0, .int .i64 o.node, .int .i64 o.seed, .int .i64 o.code] ∧ wr.heap.size ≤ kx ∧ o.list.length ≤ 6 ∧ wc.ownsRow wr.heap.size 2 1 (.slice pa o.list.length pc) o.list.length (numsV o.list) ∧ wr.grownBy wc (some b) ∧ Src wc b a len cap zs)
      case first =>
        refine wp_region_any (by kernel_rfl) ?_
        refine wpAny_boxR 7 (fun i => [13, 14, 15, 16, 17, 18, 5].getD i 0) (fun kq v wq => match kq with | 0 => v = .agg #[.slice ta l.length tc, .int .i64 at0] | 1 => v = .pointer (some ⟨b, 0, none⟩) | 2 => ∃ (gl gc : Nat) (nl : List Int), v = .slice (some ⟨gl, 0, none⟩) nl.length gc ∧ nl.length ≤ 6 ∧ wq.ownsRow wr.heap.size 2 1 (.slice (some ⟨gl, 0, none⟩) nl.length gc) nl.length (numsV nl) | 3 => v = .pointer (some ⟨b, 0, none⟩) | 4 => ∃ r : Int, v = .int .i64 r | 5 => ∃ (pa : Option Addr) (pc : Nat) (o : TOutV), v = .agg #[.slice pa o.list.length pc, .int .i64 o.at0, .int .i64 o.node, .int .i64 o.seed, .int .i64 o.code] ∧ o.list.length ≤ 6 ∧ wq.ownsRow wr.heap.size 2 1 (.slice pa o.list.length pc) o.list.length (numsV o.list) | 6 => ∃ kx, v = .pointer (some ⟨kx, 0, none⟩) ∧ BlkIs wq kx 29 #[.slice none 0 0, .int .i64 0, .int .i64 0, .int .i64 0, .int .i64 0] ∧ wr.heap.size ≤ kx | _ => True) _ (fun wp wq => wp.grownBy wq (some b)) (fun wq => wr.grownBy wq (some b) ∧ Src wq b a len cap zs) (by kernel_rfl) ?inj ?stab ?step ?last _ _ _ _ (List.range 8) (by kernel_rfl) (Nat.le_refl 8) ?un (by kernel_rfl) ?down ⟨rfl, rfl, fun _ _ => rfl⟩ ⟨grown_drew (grown_self _ _), hsr⟩ ?none
        case inj => exact (show ∀ i, i < 7 → ∀ j, j < 7 → [13, 14, 15, 16, 17, 18, 5].getD i 0 = [13, 14, 15, 16, 17, 18, 5].getD j 0 → i = j by decide)
        case un => exact fun i hi _ => List.mem_range.2 hi
        case down =>
          intro j hj
          exfalso
          by_cases hi : j < 8
          · simp [hi] at hj
          · simp [hi] at hj
        case none =>
          intro i hi hj
          exfalso
          have hi2 : i < 8 := by omega
          simp [hi2] at hj
        case stab =>
          intro kq u wa wb h hB
          match kq, h with
          | 0, h => exact h
          | 1, h => exact h
          | 2, h => exact (show ∃ (gl gc : Nat) (nl : List Int), u = .slice (some ⟨gl, 0, none⟩) nl.length gc ∧ nl.length ≤ 6 ∧ wb.ownsRow wr.heap.size 2 1 (.slice (some ⟨gl, 0, none⟩) nl.length gc) nl.length (numsV nl) from by obtain ⟨gl, gc, nl, h1, h2, h3⟩ := h; exact ⟨gl, gc, nl, h1, h2, h3.kept hB (.inr (fun e => by have := (h3.lt b e).1; omega))⟩)
          | 3, h => exact h
          | 4, h => exact h
          | 5, h => exact (show ∃ (pa : Option Addr) (pc : Nat) (o : TOutV), u = .agg #[.slice pa o.list.length pc, .int .i64 o.at0, .int .i64 o.node, .int .i64 o.seed, .int .i64 o.code] ∧ o.list.length ≤ 6 ∧ wb.ownsRow wr.heap.size 2 1 (.slice pa o.list.length pc) o.list.length (numsV o.list) from by obtain ⟨pa, pc, o, h1, h2, h3⟩ := h; exact ⟨pa, pc, o, h1, h2, h3.kept hB (.inr (fun e => by have := (h3.lt b e).1; omega))⟩)
          | 6, h => exact (show ∃ kx, u = _ ∧ BlkIs wb kx 29 #[.slice none 0 0, .int .i64 0, .int .i64 0, .int .i64 0, .int .i64 0] ∧ wr.heap.size ≤ kx from by obtain ⟨kx, h1, h2, h3⟩ := h; exact ⟨kx, h1, h2.grown hB (by omega), h3⟩)
          | _ + 7, _ => exact trivial
        case step =>
          intro i o hin ho fa fw hF hJ hpre
          obtain rfl | rfl | rfl | rfl | rfl | rfl | rfl : i = 0 ∨ i = 1 ∨ i = 2 ∨ i = 3 ∨ i = 4 ∨ i = 5 ∨ i = 6 := by omega
          all_goals (obtain rfl := Option.some.inj ho)
          · have hs3 : fa.tmps[3]?.getD undef = .pointer (some ⟨kt, 0, none⟩) := by
              have := hF.2.2 3 (show ∀ i, i < 7 → [13, 14, 15, 16, 17, 18, 5].getD i 0 ≠ 3 by decide)
              simpa using this
            have PTk := PT.grown hJ.1 (by omega)
            have s0 : fw.cell? ⟨kt, 0, none⟩ = some (.slice ta l.length tc) := PTk.cell 0
            have s1 : fw.cell? ⟨kt, 1, none⟩ = some (.int .i64 at0) := PTk.cell 1
            exact step_val (v := .agg #[.slice ta l.length tc, .int .i64 at0]) (w' := fw) (by go_simp) ⟨_, rfl, rfl, grown_self _ _, hJ⟩
          · have hs0 : fa.tmps[0]?.getD undef = .pointer (some ⟨b, 0, none⟩) := by
              have := hF.2.2 0 (show ∀ i, i < 7 → [13, 14, 15, 16, 17, 18, 5].getD i 0 ≠ 0 by decide)
              simpa using this
            exact step_val (v := .pointer (some ⟨b, 0, none⟩)) (w' := fw) (by go_simp) ⟨_, rfl, rfl, grown_self _ _, hJ⟩
          · have hd1 : fa.tmps[14]?.getD undef = .pointer (some ⟨b, 0, none⟩) := by simpa using (hpre ⟨1, .data⟩ (by simp) rfl : fa.tmps.getD 14 undef = .pointer (some ⟨b, 0, none⟩))
            go_simp
            refine (l07Set_any b a len cap zs _ hJ.2).mono ?_
            rintro e w3 ⟨v3, nl, rfl, hnl, ⟨own3, gl, gc, rfl⟩, hs3, hg3⟩
            exact ⟨_, rfl, ⟨gl, gc, nl, rfl, hnl, own_mono own3 hJ.1.size⟩, hg3, grown_trans hJ.1 hg3, hs3⟩
          · have hs0 : fa.tmps[0]?.getD undef = .pointer (some ⟨b, 0, none⟩) := by
              have := hF.2.2 0 (show ∀ i, i < 7 → [13, 14, 15, 16, 17, 18, 5].getD i 0 ≠ 0 by decide)
              simpa using this
            exact step_val (v := .pointer (some ⟨b, 0, none⟩)) (w' := fw) (by go_simp) ⟨_, rfl, rfl, grown_self _ _, hJ⟩
          · have hd3 : fa.tmps[16]?.getD undef = .pointer (some ⟨b, 0, none⟩) := by simpa using (hpre ⟨3, .data⟩ (by simp) rfl : fa.tmps.getD 16 undef = .pointer (some ⟨b, 0, none⟩))
            go_simp
            refine (n_any b a len cap zs 256 (by omega) _ hJ.2).mono ?_
            rintro e w3 ⟨r, rfl, _, _, hs3, hg3⟩
            exact ⟨_, rfl, ⟨r, rfl⟩, hg3, grown_trans hJ.1 hg3, hs3⟩
          · have hd0 : fa.tmps[13]?.getD undef = .agg #[.slice ta l.length tc, .int .i64 at0] := by simpa using (hpre ⟨0, .data⟩ (by simp) rfl : fa.tmps.getD 13 undef = .agg #[.slice ta l.length tc, .int .i64 at0])
            obtain ⟨gl, gc, nl, q2, hnl, hrl2⟩ := (hpre ⟨2, .data⟩ (by simp) rfl : ∃ (gl gc : Nat) (nl : List Int), fa.tmps.getD 15 undef = .slice (some ⟨gl, 0, none⟩) nl.length gc ∧ nl.length ≤ 6 ∧ fw.ownsRow wr.heap.size 2 1 (.slice (some ⟨gl, 0, none⟩) nl.length gc) nl.length (numsV nl))
            have hd2 : fa.tmps[15]?.getD undef = .slice (some ⟨gl, 0, none⟩) nl.length gc := by simpa using q2
            obtain ⟨r, q4⟩ := (hpre ⟨4, .data⟩ (by simp) rfl : ∃ r : Int, fa.tmps.getD 17 undef = .int .i64 r)
            have hd4 : fa.tmps[17]?.getD undef = .int .i64 r := by simpa using q4
            go_simp
            obtain ⟨o, hP⟩ := tnext_ex ⟨l, at0⟩ nl r
            have ho6 := tnext_len hP
            have hTk := OT.kept hJ.1 (.inr (fun e => by have := (OT.lt b e).1; omega))
            obtain ⟨ta', tc', et, hrt⟩ := own_nums hTk
            simp only [Value.slice.injEq, true_and] at et
            obtain ⟨rfl, rfl⟩ := et
            obtain ⟨gl', gc', eg, hrg⟩ := own_nums hrl2
            simp only [Value.slice.injEq, true_and] at eg
            obtain ⟨rfl, rfl⟩ := eg
            refine (specTNext_any ta tc ⟨l, at0⟩ (some ⟨gl, 0, none⟩) gc nl r o _ hP (by dsimp only; omega) (by omega) htc (row_cap hrl2) (fun e => by cases e) hrt.row hrg.row).mono ?_
            rintro e w3 ⟨v3, rfl, own3, b3⟩
            obtain ⟨pa, pc, rfl, _⟩ := own_nums own3
            exact ⟨_, rfl, ⟨pa, pc, o, rfl, ho6, own_mono own3 hJ.1.size⟩, below_grownT b3, grown_trans hJ.1 (below_grownT b3), hJ.2.belowT b3⟩
          · have hxs := hJ.1.size
            exact step_val (v := .pointer (some ⟨fw.heap.size, 0, none⟩)) (w' := fw.alloc (.cells #[.slice none 0 0, .int .i64 0, .int .i64 0, .int .i64 0, .int .i64 0] 29)) (by go_simp) ⟨_, rfl, ⟨fw.heap.size, rfl, BlkIs.new _ _ _, hxs⟩, World.grownBy_alloc _ _ _, grown_alloc hJ.1 _, hJ.2.alloc _⟩
        case last =>
          intro o ho fa fw hF hJ hφ
          obtain rfl := Option.some.inj ho
          obtain ⟨pa, pc, o, q5, ho6, hro⟩ := (hφ 5 (by decide) : ∃ (pa : Option Addr) (pc : Nat) (o : TOutV), fa.tmps.getD 18 undef = .agg #[.slice pa o.list.length pc, .int .i64 o.at0, .int .i64 o.node, .int .i64 o.seed, .int .i64 o.code] ∧ o.list.length ≤ 6 ∧ fw.ownsRow wr.heap.size 2 1 (.slice pa o.list.length pc) o.list.length (numsV o.list))
          have hd5 : fa.tmps[18]?.getD undef = .agg #[.slice pa o.list.length pc, .int .i64 o.at0, .int .i64 o.node, .int .i64 o.seed, .int .i64 o.code] := by simpa using q5
          obtain ⟨kbx, q6, hblk, hkb⟩ := (hφ 6 (by decide) : ∃ kx, fa.tmps.getD 5 undef = .pointer (some ⟨kx, 0, none⟩) ∧ BlkIs fw kx 29 #[.slice none 0 0, .int .i64 0, .int .i64 0, .int .i64 0, .int .i64 0] ∧ wr.heap.size ≤ kx)
          have hd6 : fa.tmps[5]?.getD undef = .pointer (some ⟨kbx, 0, none⟩) := by simpa using q6
          have g0 : fw.cell? ⟨kbx, 0, none⟩ = some (.slice none 0 0) := hblk.cell 0
          have z0 := hblk.fz 0
          have g1 : fw.cell? ⟨kbx, 1, none⟩ = some (.int .i64 0) := hblk.cell 1
          have z1 := hblk.fz 1
          have g2 : fw.cell? ⟨kbx, 2, none⟩ = some (.int .i64 0) := hblk.cell 2
          have z2 := hblk.fz 2
          have g3 : fw.cell? ⟨kbx, 3, none⟩ = some (.int .i64 0) := hblk.cell 3
          have z3 := hblk.fz 3
          have g4 : fw.cell? ⟨kbx, 4, none⟩ = some (.int .i64 0) := hblk.cell 4
          have z4 := hblk.fz 4
          have hnew : BlkIs (((((fw.setCell ⟨kbx, 0, none⟩ (.slice pa o.list.length pc)).setCell ⟨kbx, 1, none⟩ (.int .i64 o.at0)).setCell ⟨kbx, 2, none⟩ (.int .i64 o.node)).setCell ⟨kbx, 3, none⟩ (.int .i64 o.seed)).setCell ⟨kbx, 4, none⟩ (.int .i64 o.code)) kbx 29 #[.slice pa o.list.length pc, .int .i64 o.at0, .int .i64 o.node, .int .i64 o.seed, .int .i64 o.code] := by simpa using (((((hblk.put 0 (.slice pa o.list.length pc)).put 1 (.int .i64 o.at0)).put 2 (.int .i64 o.node)).put 3 (.int .i64 o.seed)).put 4 (.int .i64 o.code))
          have hg1 : wr.grownBy (((((fw.setCell ⟨kbx, 0, none⟩ (.slice pa o.list.length pc)).setCell ⟨kbx, 1, none⟩ (.int .i64 o.at0)).setCell ⟨kbx, 2, none⟩ (.int .i64 o.node)).setCell ⟨kbx, 3, none⟩ (.int .i64 o.seed)).setCell ⟨kbx, 4, none⟩ (.int .i64 o.code)) (some b) := (grown_setNew (grown_setNew (grown_setNew (grown_setNew (grown_setNew hJ.1 hkb 0 (.slice pa o.list.length pc)) hkb 1 (.int .i64 o.at0)) hkb 2 (.int .i64 o.node)) hkb 3 (.int .i64 o.seed)) hkb 4 (.int .i64 o.code))
          have hkz : Keeps (fun q => q ≠ kbx) fw (((((fw.setCell ⟨kbx, 0, none⟩ (.slice pa o.list.length pc)).setCell ⟨kbx, 1, none⟩ (.int .i64 o.at0)).setCell ⟨kbx, 2, none⟩ (.int .i64 o.node)).setCell ⟨kbx, 3, none⟩ (.int .i64 o.seed)).setCell ⟨kbx, 4, none⟩ (.int .i64 o.code)) := ((((((Keeps.refl (fun q => q ≠ kbx) fw).setCell (p := ⟨kbx, 0, none⟩) (fun h => h rfl) (.slice pa o.list.length pc)).setCell (p := ⟨kbx, 1, none⟩) (fun h => h rfl) (.int .i64 o.at0)).setCell (p := ⟨kbx, 2, none⟩) (fun h => h rfl) (.int .i64 o.node)).setCell (p := ⟨kbx, 3, none⟩) (fun h => h rfl) (.int .i64 o.seed)).setCell (p := ⟨kbx, 4, none⟩) (fun h => h rfl) (.int .i64 o.code))
          have hs1 : Src (((((fw.setCell ⟨kbx, 0, none⟩ (.slice pa o.list.length pc)).setCell ⟨kbx, 1, none⟩ (.int .i64 o.at0)).setCell ⟨kbx, 2, none⟩ (.int .i64 o.node)).setCell ⟨kbx, 3, none⟩ (.int .i64 o.seed)).setCell ⟨kbx, 4, none⟩ (.int .i64 o.code)) b a len cap zs := hJ.2.keepK hkz (by omega) (fun h0 p hp => by have := hrx h0 p hp; omega)
          have hne : Value.ownBlock (.slice pa o.list.length pc) ≠ some kbx := hblk.not_row (by decide) hro
          have hrn : (((((fw.setCell ⟨kbx, 0, none⟩ (.slice pa o.list.length pc)).setCell ⟨kbx, 1, none⟩ (.int .i64 o.at0)).setCell ⟨kbx, 2, none⟩ (.int .i64 o.node)).setCell ⟨kbx, 3, none⟩ (.int .i64 o.seed)).setCell ⟨kbx, 4, none⟩ (.int .i64 o.code)).ownsRow wr.heap.size 2 1 (.slice pa o.list.length pc) o.list.length (numsV o.list) := rowKeep hro hkz (fun q hq e => hne (by rw [hq, e]))
          clear hro hne
          refine step_skip (w' := (((((fw.setCell ⟨kbx, 0, none⟩ (.slice pa o.list.length pc)).setCell ⟨kbx, 1, none⟩ (.int .i64 o.at0)).setCell ⟨kbx, 2, none⟩ (.int .i64 o.node)).setCell ⟨kbx, 3, none⟩ (.int .i64 o.seed)).setCell ⟨kbx, 4, none⟩ (.int .i64 o.code))) (by go_simp) ?_
          obtain ⟨wn, hwn⟩ : ∃ wn, (((((fw.setCell ⟨kbx, 0, none⟩ (.slice pa o.list.length pc)).setCell ⟨kbx, 1, none⟩ (.int .i64 o.at0)).setCell ⟨kbx, 2, none⟩ (.int .i64 o.node)).setCell ⟨kbx, 3, none⟩ (.int .i64 o.seed)).setCell ⟨kbx, 4, none⟩ (.int .i64 o.code)) = wn := ⟨_, rfl⟩
          rw [hwn] at hnew hg1 hs1 hrn ⊢
          clear hwn hkz g0 z0 g1 z1 g2 z2 g3 z3 g4 z4 hblk
          obtain ⟨ft, fd⟩ := fa
          obtain ⟨hd, hz, hs⟩ := hF
          have e := tmps_slots ft 42 hz
          simp only [List.range, List.range.loop, List.map] at e
          have hu : ∀ s, (∀ i, i < 7 → [13, 14, 15, 16, 17, 18, 5].getD i 0 ≠ s) → ft.getD s undef = _ := hs
          rw [hu 0 (by decide), hu 1 (by decide), hu 2 (by decide), hu 3 (by decide), hu 4 (by decide), hu 6 (by decide), hu 7 (by decide), hu 8 (by decide), hu 9 (by decide), hu 10 (by decide), hu 11 (by decide), hu 12 (by decide), hu 19 (by decide), hu 20 (by decide), hu 21 (by decide), hu 22 (by decide), hu 23 (by decide), hu 24 (by decide), hu 25 (by decide), hu 26 (by decide), hu 27 (by decide), hu 28 (by decide), hu 29 (by decide), hu 30 (by decide), hu 31 (by decide), hu 32 (by decide), hu 33 (by decide), hu 34 (by decide), hu 35 (by decide), hu 36 (by decide), hu 37 (by decide), hu 38 (by decide), hu 39 (by decide), hu 40 (by decide), hu 41 (by decide)] at e
          obtain ⟨y13, hy13⟩ : ∃ z, ft.getD 13 undef = z := ⟨_, rfl⟩
          obtain ⟨y14, hy14⟩ : ∃ z, ft.getD 14 undef = z := ⟨_, rfl⟩
          obtain ⟨y15, hy15⟩ : ∃ z, ft.getD 15 undef = z := ⟨_, rfl⟩
          obtain ⟨y16, hy16⟩ : ∃ z, ft.getD 16 undef = z := ⟨_, rfl⟩
          obtain ⟨y17, hy17⟩ : ∃ z, ft.getD 17 undef = z := ⟨_, rfl⟩
          obtain ⟨y18, hy18⟩ : ∃ z, ft.getD 18 undef = z := ⟨_, rfl⟩
          obtain ⟨y5, hy5⟩ : ∃ z, ft.getD 5 undef = z := ⟨_, rfl⟩
          rw [hy13, hy14, hy15, hy16, hy17, hy18, hy5] at e
          have hyb : y5 = .pointer (some ⟨kbx, 0, none⟩) := by rw [← hy5]; exact q6
          clear hy13 hy14 hy15 hy16 hy17 hy18 hy5 hu hs hz hφ hd6 q6 hd5
          subst e
          subst hyb
          obtain rfl : fd = [] := hd
          go_wp2_with fail
          go_meet
          case rel => exact ⟨pa, pc, o, kbx, rfl, hnew, hkb, ho6, hrn, hg1, hs1⟩
      case rest =>
        obtain ⟨pa, pc, o, kx, rfl, PX, hkx, ho6, OX, hgx, hsx⟩ := hcut
        obtain ⟨x, rfl⟩ : ∃ x, x = wc := ⟨wc, rfl⟩
        obtain ⟨ol, oat, ond, osd, oc⟩ := o
        dsimp only at PX ho6 OX
        replace PT := PT.grown hgx (by omega)
        replace P0 := P0.grown hgx (by omega)
        have OTx := OT.kept hgx (.inr (fun e => by have := (OT.lt b e).1; omega))
        have hgw := grown_trans hgr hgx
        have hrxx := hsx.row_lt
        clear hgr hgx hsr hrx OT hktr
        have u3 : x.cell? ⟨kx, 4, none⟩ = some (.int .i64 oc) := PX.cell 4
        by_cases hoc : oc = 0
        · subst hoc
          have c0 : x.cell? ⟨kx, 0, none⟩ = some (.slice pa ol.length pc) := PX.cell 0
          have c1 : x.cell? ⟨kx, 1, none⟩ = some (.int .i64 oat) := PX.cell 1
          have d0 : x.cell? ⟨kt, 0, none⟩ = some (.slice ta l.length tc) := PT.cell 0
          have d1 : x.cell? ⟨kt, 1, none⟩ = some (.int .i64 at0) := PT.cell 1
          have f0 := PT.fz 0
          have f1 := PT.fz 1
          have KZ := keeps_two x kt (.slice pa ol.length pc) (.int .i64 oat)
          have RZ := blk_put2 PT (.slice pa ol.length pc) (.int .i64 oat)
          have PZ := P0.keepK KZ (by omega)
          have hneo : ∀ g, Value.ownBlock (.slice pa ol.length pc) = some g → g ≠ kt := fun g hg e => PT.not_row (by decide) OX (by rw [hg, e])
          have OZ := rowKeep (own_mono OX hsz) KZ hneo
          have SZ : Src ((x.setCell ⟨kt, 0, none⟩ (.slice pa ol.length pc)).setCell ⟨kt, 1, none⟩ (.int .i64 oat)) b a len cap zs := hsx.keepK KZ (by omega) (fun h0 p hp => by have := hrl h0 p hp; omega)
          have GZ : w.grownBy ((x.setCell ⟨kt, 0, none⟩ (.slice pa ol.length pc)).setCell ⟨kt, 1, none⟩ (.int .i64 oat)) (some b) := grown_setNew (grown_setNew hgw (by omega) _ _) (by omega) _ _
          clear PT P0 PX OTx hgw hsx hneo KZ OX hne0
          go_wp2
          obtain ⟨Z, hZ⟩ : ∃ Z, (x.setCell ⟨kt, 0, none⟩ (.slice pa ol.length pc)).setCell ⟨kt, 1, none⟩ (.int .i64 oat) = Z := ⟨_, rfl⟩
          rw [hZ] at RZ PZ OZ SZ GZ ⊢
          clear hZ c0 c1 d0 d1 f0 f1 u3
          go_roundw
          case rel => exact ⟨k - 1, ol, pa, pc, oat, by go_num, by omega, by omega, ho6, ⟨RZ, OZ⟩, PZ, SZ, GZ⟩
          case measure => simp [intOf]; omega
        · have hocb : (oc == 0) = false := beq_eq_false_iff_ne.2 hoc
          clear hne0 hoc OX
          go_wp2
          go_roundw
          case rel => exact ⟨k - 1, l, ta, tc, at0, by go_num, by omega, by omega, hl6, ⟨PT, OTx⟩, P0, hsx, hgw⟩
          case measure => simp [intOf]; omega
    · clear hk0 hk5
      go_wp2_with fail
      refine (one_any b a len cap zs 15 (by omega) _ hsr).mono ?_
      rintro e x ⟨r, rfl, hsx, hg⟩
      replace PT := PT.grown hg (by omega)
      replace P0 := P0.grown hg (by omega)
      replace OT := OT.kept hg (.inr (fun e => by have := (OT.lt b e).1; omega))
      have hgw := grown_trans hgr hg
      clear hg hgr hsr hrx hktr hsz
      cases r with
      | false =>
        have c0 : x.cell? ⟨kt, 0, none⟩ = some (.slice ta l.length tc) := PT.cell 0
        have c1 : x.cell? ⟨kt, 1, none⟩ = some (.int .i64 at0) := PT.cell 1
        have d0 : x.cell? ⟨w.heap.size, 0, none⟩ = some (.slice none 0 0) := P0.cell 0
        have d1 : x.cell? ⟨w.heap.size, 1, none⟩ = some (.int .i64 0) := P0.cell 1
        have f0 := P0.fz 0
        have f1 := P0.fz 1
        have KZ := keeps_two x w.heap.size (.slice ta l.length tc) (.int .i64 at0)
        have RZ := blk_put2 P0 (.slice ta l.length tc) (.int .i64 at0)
        have hneo : ∀ g, Value.ownBlock (.slice ta l.length tc) = some g → g ≠ w.heap.size := fun g hg e => P0.not_row (by decide) OT (by rw [hg, e])
        have OZ := rowKeep OT KZ hneo
        have SZ : Src ((x.setCell ⟨w.heap.size, 0, none⟩ (.slice ta l.length tc)).setCell ⟨w.heap.size, 1, none⟩ (.int .i64 at0)) b a len cap zs := hsx.keepK KZ (by omega) (fun h0 p hp => by have := hrl h0 p hp; omega)
        have GZ : w.grownBy ((x.setCell ⟨w.heap.size, 0, none⟩ (.slice ta l.length tc)).setCell ⟨w.heap.size, 1, none⟩ (.int .i64 at0)) (some b) := grown_setNew (grown_setNew hgw (Nat.le_refl _) _ _) (Nat.le_refl _) _ _
        go_wp2
        obtain ⟨Z, hZ⟩ : ∃ Z, (x.setCell ⟨w.heap.size, 0, none⟩ (.slice ta l.length tc)).setCell ⟨w.heap.size, 1, none⟩ (.int .i64 at0) = Z := ⟨_, rfl⟩
        rw [hZ] at RZ OZ SZ GZ ⊢
        clear hZ c0 c1 d0 d1 f0 f1 KZ
        have h0 : Z.cell? ⟨w.heap.size, 0, none⟩ = some (.slice ta l.length tc) := RZ.cell 0
        have h1 : Z.cell? ⟨w.heap.size, 1, none⟩ = some (.int .i64 at0) := RZ.cell 1
        exact bodyPost_ret (v := .agg #[.slice ta l.length tc, .int .i64 at0]) (by simp [results, Try.results32, go_sem, h0, h1]) rfl ⟨_, l, _, rfl, by omega, OZ, SZ, GZ⟩
      | true =>
        go_wp2_with fail
        refine (n_any b a len cap zs 2 (by omega) _ hsx).mono ?_
        rintro e x' ⟨r, rfl, _, _, hsx', hg⟩
        replace PT := PT.grown hg (by omega)
        replace P0 := P0.grown hg (by omega)
        replace OT := OT.kept hg (.inr (fun e => by have := (OT.lt b e).1; omega))
        replace hgw := grown_trans hgw hg
        clear hg hsx
        obtain ⟨x, rfl⟩ : ∃ y, y = x' := ⟨_, rfl⟩
        have hsx := hsx'
        clear hsx'
        by_cases hr : r = 0
        · subst hr
          go_wp2_with fail
          refine (n_any b a len cap zs 8 (by omega) _ hsx).mono ?_
          rintro e x2 ⟨r, rfl, _, _, hs2, hg⟩
          replace PT := PT.grown hg (by omega)
          replace P0 := P0.grown hg (by omega)
          replace OT := OT.kept hg (.inr (fun e => by have := (OT.lt b e).1; omega))
          replace hgw := grown_trans hgw hg
          clear hg hsx
          obtain ⟨q, hq⟩ : ∃ q, IntKind.i64.wrap (r - 1) = q := ⟨_, rfl⟩
          have f1 := PT.fz 1
          have c1 : x2.cell? ⟨kt, 1, none⟩ = some (.int .i64 at0) := PT.cell 1
          go_upto_region 13 with fail
          have KV : Keeps (fun q => q ≠ kt) x2 (x2.setCell ⟨kt, 1, none⟩ (.int .i64 q)) := (Keeps.refl _ _).setCell (fun h => h rfl) _
          have T4 : BlkIs (x2.setCell ⟨kt, 1, none⟩ (.int .i64 q)) kt 25 #[.slice ta l.length tc, .int .i64 q] := by have := PT.put 1 (.int .i64 q); simpa using this
          have P4 := P0.keepK KV (by omega)
          have O4 := rowKeep OT KV (fun g hg => (hne0 g hg).1)
          have s4 : Src (x2.setCell ⟨kt, 1, none⟩ (.int .i64 q)) b a len cap zs := hs2.keepK KV (by omega) (fun h0 p hp => by have := hrl h0 p hp; omega)
          have g4 : w.grownBy (x2.setCell ⟨kt, 1, none⟩ (.int .i64 q)) (some b) := grown_setNew hgw (by omega) _ _
          obtain ⟨V, hV⟩ : ∃ V, x2.setCell ⟨kt, 1, none⟩ (.int .i64 q) = V := ⟨_, rfl⟩
          rw [hV] at T4 P4 O4 s4 g4 ⊢
          clear hV KV PT P0 OT hs2 hgw f1 c1 hq
          have c0 : V.cell? ⟨kt, 0, none⟩ = some (.slice ta l.length tc) := T4.cell 0
          have c1 : V.cell? ⟨kt, 1, none⟩ = some (.int .i64 q) := T4.cell 1
          have d0 : V.cell? ⟨w.heap.size, 0, none⟩ = some (.slice none 0 0) := P4.cell 0
          have d1 : V.cell? ⟨w.heap.size, 1, none⟩ = some (.int .i64 0) := P4.cell 1
          have f0 := P4.fz 0
          have f1 := P4.fz 1
          have KZ := keeps_two V w.heap.size (.slice ta l.length tc) (.int .i64 q)
          have RZ := blk_put2 P4 (.slice ta l.length tc) (.int .i64 q)
          have hneo : ∀ g, Value.ownBlock (.slice ta l.length tc) = some g → g ≠ w.heap.size := fun g hg e => P4.not_row (by decide) O4 (by rw [hg, e])
          have OZ := rowKeep O4 KZ hneo
          have SZ : Src ((V.setCell ⟨w.heap.size, 0, none⟩ (.slice ta l.length tc)).setCell ⟨w.heap.size, 1, none⟩ (.int .i64 q)) b a len cap zs := s4.keepK KZ (by omega) (fun h0 p hp => by have := hrl h0 p hp; omega)
          have GZ : w.grownBy ((V.setCell ⟨w.heap.size, 0, none⟩ (.slice ta l.length tc)).setCell ⟨w.heap.size, 1, none⟩ (.int .i64 q)) (some b) := grown_setNew (grown_setNew g4 (Nat.le_refl _) _ _) (Nat.le_refl _) _ _
          go_wp2
          obtain ⟨Z, hZ⟩ : ∃ Z, (V.setCell ⟨w.heap.size, 0, none⟩ (.slice ta l.length tc)).setCell ⟨w.heap.size, 1, none⟩ (.int .i64 q) = Z := ⟨_, rfl⟩
          rw [hZ] at RZ OZ SZ GZ ⊢
          clear hZ c0 c1 d0 d1 f0 f1 KZ
          have h0 : Z.cell? ⟨w.heap.size, 0, none⟩ = some (.slice ta l.length tc) := RZ.cell 0
          have h1 : Z.cell? ⟨w.heap.size, 1, none⟩ = some (.int .i64 q) := RZ.cell 1
          exact bodyPost_ret (v := .agg #[.slice ta l.length tc, .int .i64 q]) (by simp [results, Try.results32, go_sem, h0, h1]) rfl ⟨_, l, _, rfl, by omega, OZ, SZ, GZ⟩
        · have hrb : (r == 0) = false := beq_eq_false_iff_ne.2 hr
          clear hr
          go_upto_region 10 with fail
          obtain ⟨X, hX⟩ : ∃ X, x.drew = X := ⟨_, rfl⟩
          replace PT : BlkIs X kt 25 #[.slice ta l.length tc, .int .i64 at0] := by rw [← hX]; exact PT
          replace P0 : BlkIs X w.heap.size 25 #[.slice none 0 0, .int .i64 0] := by rw [← hX]; exact P0
          replace OT : X.ownsRow w.heap.size 2 1 (.slice ta l.length tc) l.length (numsV l) := by rw [← hX]; exact OT
          replace hsx : Src X b a len cap zs := by rw [← hX]; exact hsx
          replace hgw : w.grownBy X (some b) := by rw [← hX]; exact grown_drew hgw
          refine wp_region_held_drew (S := fun q => SameW q q) (by kernel_rfl) (rfl : SameW _ _) (fun hHeld => ?_)
          rw [hX]
          clear hX
          have cX : X.cell? ⟨kt, 0, none⟩ = some (.slice ta l.length tc) := PT.cell 0
          refine takeG 0 (v := .pointer (some ⟨kt, 0, none⟩)) rfl (by kernel_rfl) (by kernel_rfl) (by kernel_rfl) (by kernel_rfl) (fun _ _ _ h => h) ?hy rfl ?_
          case hy => (intro w' hSw; go_simp)
          try simp only [List.setIfInBounds_toArray, List.set_cons_zero, List.set_cons_succ]
          refine takeG 2 (v := .pointer (some ⟨b, 0, none⟩)) rfl (by kernel_rfl) (by kernel_rfl) (by kernel_rfl) (by kernel_rfl) (fun _ _ _ h => h) ?hy rfl ?_
          case hy => (intro w' hSw; go_simp)
          try simp only [List.setIfInBounds_toArray, List.set_cons_zero, List.set_cons_succ]
          refine twoH 1 3 (by kernel_rfl) ?A ?B
          case A =>
            refine doH rfl (v := .slice ta l.length tc) (w' := X) (by go_simp) (rfl : SameW _ _) ?_
            try simp only [List.setIfInBounds_toArray, List.set_cons_zero, List.set_cons_succ]
            clear cX
            refine runG 3 (by kernel_rfl) rfl (by kernel_rfl) ?_
            go_simp
            refine (n_any b a len cap zs 8 (by omega) _ hsx).mono ?_
            rintro e x2 ⟨rn, rfl, _, _, s2, hg2⟩
            refine ⟨(rfl : SameW _ _), ?_⟩
            try simp only [Act.put, List.setIfInBounds_toArray, List.set_cons_zero, List.set_cons_succ]
            have T2 := PT.grown hg2 (by omega)
            have P2 := P0.grown hg2 (by omega)
            have O2 := OT.kept hg2 (.inr (fun e => by have := (OT.lt b e).1; omega))
            have hg2w := grown_trans hgw hg2
            have hne2 := hne0
            clear hg2
            have hw2 : w.heap.size ≤ x2.heap.size := hg2w.size
            obtain ⟨v', w3, hr, hown, hgr, _⟩ := run_append_numsT w.heap.size (.slice ta l.length tc) l.length (numsV l) (O2.alloc (.cells #[.int .i64 rn] 2)) x2.heap.size 0 1 [rn] (one_row rn x2) (by simp; omega) (by simp; omega)
            have hnr : ∀ g, (Value.slice ta l.length tc).ownBlock = some g → w.heap.size ≤ g := fun g hg => (O2.lt g hg).1
            have hb3 : Below w.heap.size x2 w3 := ((Below.refl w.heap.size x2).alloc hw2 _).grown hgr (by simp; omega) hnr
            have s3 : Src w3 b a len cap zs := s2.keep hb3 hlt hrl
            have g3 : w.grownBy w3 (some b) := grown_own (grown_alloc hg2w _) hgr hnr
            have K3 : Keeps (fun q => q = kt ∨ q = w.heap.size) x2 w3 := ((Keeps.refl _ _).alloc _).grown hgr (fun g hg h => by have h1 := hne2 g hg; omega)
            have T3 := T2.keepK K3 (.inl rfl)
            have P3 := P2.keepK K3 (.inr rfl)
            have e0 : w3.cell? ⟨kt, 0, none⟩ = some (.slice ta l.length tc) := T3.cell 0
            have e1 := T3.fz 0
            obtain ⟨ua, uc, hue⟩ : ∃ ua uc, v' = .slice ua (l.length + 1) uc := by
              rcases hown.2 with ⟨_, h⟩ | ⟨g, c, cur, h, _⟩
              · simp at h
              · exact ⟨_, _, h⟩
            subst hue
            refine oneH 4 (by kernel_rfl) (doH rfl (v := .slice (some ⟨x2.heap.size, 0, none⟩) 1 1) (w' := x2.alloc (.cells #[.int .i64 rn] 2)) (by go_simp) (rfl : SameW _ _) ?_)
            try simp only [List.setIfInBounds_toArray, List.set_cons_zero, List.set_cons_succ]
            refine oneH 5 (by kernel_rfl) (doH rfl (exec_append (.tmp 29) (.tmp 32) 23 23 rfl _ _ rfl rfl hr) (rfl : SameW _ _) ?_)
            try simp only [List.setIfInBounds_toArray, List.set_cons_zero, List.set_cons_succ]
            refine takeG 6 (v := .pointer (some ⟨kt, 0, none⟩)) rfl (by kernel_rfl) (by kernel_rfl) (by kernel_rfl) (by kernel_rfl) (fun _ _ _ h => h) ?hy rfl ?_
            case hy => (intro w' hSw; go_simp)
            try simp only [List.setIfInBounds_toArray, List.set_cons_zero, List.set_cons_succ]
            refine oneH 7 (by kernel_rfl) (storeH rfl (w' := w3.setCell ⟨kt, 0, none⟩ (.slice ua (l.length + 1) uc)) (nx := .skip) (by go_simp) (.inl rfl) (rfl : SameW _ _) ?_)
            try simp only [List.setIfInBounds_toArray, List.set_cons_zero, List.set_cons_succ]
            refine wpAnyH_done (by kernel_rfl) ?_ _
            have KV : Keeps (fun q => q ≠ kt) w3 (w3.setCell ⟨kt, 0, none⟩ (.slice ua (l.length + 1) uc)) := (Keeps.refl _ _).setCell (fun h => h rfl) _
            have T4 : BlkIs (w3.setCell ⟨kt, 0, none⟩ (.slice ua (l.length + 1) uc)) kt 25 #[.slice ua (l.length + 1) uc, .int .i64 at0] := by have := T3.put 0 (.slice ua (l.length + 1) uc); simpa using this
            have P4 := P3.keepK KV (by omega)
            have O4 : (w3.setCell ⟨kt, 0, none⟩ (.slice ua (l.length + 1) uc)).ownsRow w.heap.size 2 1 (.slice ua (l.length + 1) uc) (l.length + 1) (numsV (l ++ [rn])) := by
              rw [numsV_append]
              exact rowKeep hown KV (fun g hg e => T3.not_row (by decide) hown (by rw [hg, e]))
            have s4 : Src (w3.setCell ⟨kt, 0, none⟩ (.slice ua (l.length + 1) uc)) b a len cap zs := s3.keepK KV (by omega) (fun h0 p hp => by have := hrl h0 p hp; omega)
            have g4 : w.grownBy (w3.setCell ⟨kt, 0, none⟩ (.slice ua (l.length + 1) uc)) (some b) := grown_setNew g3 (by omega) _ _
            have HLN : Hid ((l ++ [rn]).length = l.length + 1) := by show _ = _; simp
            obtain ⟨V, hV⟩ : ∃ V, w3.setCell ⟨kt, 0, none⟩ (.slice ua (l.length + 1) uc) = V := ⟨_, rfl⟩
            rw [hV] at T4 P4 O4 s4 g4 ⊢
            clear hV KV T3 P3 T2 P2 O2 s2 s3 g3 K3 hb3 hown hgr hr e0 e1 hnr hg2w hne2
            have c0 : V.cell? ⟨kt, 0, none⟩ = some (.slice ua (l.length + 1) uc) := T4.cell 0
            have c1 : V.cell? ⟨kt, 1, none⟩ = some (.int .i64 at0) := T4.cell 1
            have d0 : V.cell? ⟨w.heap.size, 0, none⟩ = some (.slice none 0 0) := P4.cell 0
            have d1 : V.cell? ⟨w.heap.size, 1, none⟩ = some (.int .i64 0) := P4.cell 1
            have f0 := P4.fz 0
            have f1 := P4.fz 1
            have KZ := keeps_two V w.heap.size (.slice ua (l.length + 1) uc) (.int .i64 at0)
            have RZ := blk_put2 P4 (.slice ua (l.length + 1) uc) (.int .i64 at0)
            have hneo : ∀ g, Value.ownBlock (.slice ua (l.length + 1) uc) = some g → g ≠ w.heap.size := fun g hg e => P4.not_row (by decide) O4 (by rw [hg, e])
            have OZ := rowKeep O4 KZ hneo
            have SZ : Src ((V.setCell ⟨w.heap.size, 0, none⟩ (.slice ua (l.length + 1) uc)).setCell ⟨w.heap.size, 1, none⟩ (.int .i64 at0)) b a len cap zs := s4.keepK KZ (by omega) (fun h0 p hp => by have := hrl h0 p hp; omega)
            have GZ : w.grownBy ((V.setCell ⟨w.heap.size, 0, none⟩ (.slice ua (l.length + 1) uc)).setCell ⟨w.heap.size, 1, none⟩ (.int .i64 at0)) (some b) := grown_setNew (grown_setNew g4 (Nat.le_refl _) _ _) (Nat.le_refl _) _ _
            go_wp2
            obtain ⟨Z, hZ⟩ : ∃ Z, (V.setCell ⟨w.heap.size, 0, none⟩ (.slice ua (l.length + 1) uc)).setCell ⟨w.heap.size, 1, none⟩ (.int .i64 at0) = Z := ⟨_, rfl⟩
            rw [hZ] at RZ OZ SZ GZ ⊢
            clear hZ c0 c1 d0 d1 f0 f1 KZ
            have h0 : Z.cell? ⟨w.heap.size, 0, none⟩ = some (.slice ua (l.length + 1) uc) := RZ.cell 0
            have h1 : Z.cell? ⟨w.heap.size, 1, none⟩ = some (.int .i64 at0) := RZ.cell 1
            exact bodyPost_ret (v := .agg #[.slice ua (l.length + 1) uc, .int .i64 at0]) (by simp [results, Try.results32, go_sem, h0, h1]) rfl ⟨_, (l ++ [rn]), _, rfl, by rw [HLN.out]; omega, by rw [HLN.out]; exact OZ, SZ, GZ⟩
          case B =>
            refine callH rfl (by kernel_rfl) ?_
            go_simp
            refine (n_any b a len cap zs 8 (by omega) _ hsx).mono ?_
            rintro e x2 ⟨rn, rfl, _, _, s2, hg2⟩
            refine ⟨(rfl : SameW _ _), ?_⟩
            try simp only [Act.put, List.setIfInBounds_toArray, List.set_cons_zero, List.set_cons_succ]
            clear cX
            have T2 := PT.grown hg2 (by omega)
            have P2 := P0.grown hg2 (by omega)
            have O2 := OT.kept hg2 (.inr (fun e => by have := (OT.lt b e).1; omega))
            have hg2w := grown_trans hgw hg2
            have hne2 := hne0
            clear hg2
            refine twoH 1 4 (by kernel_rfl) ?B1 ?B2
            case B1 =>
              have hw2 : w.heap.size ≤ x2.heap.size := hg2w.size
              obtain ⟨v', w3, hr, hown, hgr, _⟩ := run_append_numsT w.heap.size (.slice ta l.length tc) l.length (numsV l) (O2.alloc (.cells #[.int .i64 rn] 2)) x2.heap.size 0 1 [rn] (one_row rn x2) (by simp; omega) (by simp; omega)
              have hnr : ∀ g, (Value.slice ta l.length tc).ownBlock = some g → w.heap.size ≤ g := fun g hg => (O2.lt g hg).1
              have hb3 : Below w.heap.size x2 w3 := ((Below.refl w.heap.size x2).alloc hw2 _).grown hgr (by simp; omega) hnr
              have s3 : Src w3 b a len cap zs := s2.keep hb3 hlt hrl
              have g3 : w.grownBy w3 (some b) := grown_own (grown_alloc hg2w _) hgr hnr
              have K3 : Keeps (fun q => q = kt ∨ q = w.heap.size) x2 w3 := ((Keeps.refl _ _).alloc _).grown hgr (fun g hg h => by have h1 := hne2 g hg; omega)
              have T3 := T2.keepK K3 (.inl rfl)
              have P3 := P2.keepK K3 (.inr rfl)
              have e0 : w3.cell? ⟨kt, 0, none⟩ = some (.slice ta l.length tc) := T3.cell 0
              have e1 := T3.fz 0
              obtain ⟨ua, uc, hue⟩ : ∃ ua uc, v' = .slice ua (l.length + 1) uc := by
                rcases hown.2 with ⟨_, h⟩ | ⟨g, c, cur, h, _⟩
                · simp at h
                · exact ⟨_, _, h⟩
              subst hue
              have cX : x2.cell? ⟨kt, 0, none⟩ = some (.slice ta l.length tc) := T2.cell 0
              refine doH rfl (v := .slice ta l.length tc) (w' := x2) (by go_simp) (rfl : SameW _ _) ?_
              try simp only [List.setIfInBounds_toArray, List.set_cons_zero, List.set_cons_succ]
              clear cX
              refine oneH 4 (by kernel_rfl) (doH rfl (v := .slice (some ⟨x2.heap.size, 0, none⟩) 1 1) (w' := x2.alloc (.cells #[.int .i64 rn] 2)) (by go_simp) (rfl : SameW _ _) ?_)
              try simp only [List.setIfInBounds_toArray, List.set_cons_zero, List.set_cons_succ]
              refine oneH 5 (by kernel_rfl) (doH rfl (exec_append (.tmp 29) (.tmp 32) 23 23 rfl _ _ rfl rfl hr) (rfl : SameW _ _) ?_)
              try simp only [List.setIfInBounds_toArray, List.set_cons_zero, List.set_cons_succ]
              refine takeG 6 (v := .pointer (some ⟨kt, 0, none⟩)) rfl (by kernel_rfl) (by kernel_rfl) (by kernel_rfl) (by kernel_rfl) (fun _ _ _ h => h) ?hy rfl ?_
              case hy => (intro w' hSw; go_simp)
              try simp only [List.setIfInBounds_toArray, List.set_cons_zero, List.set_cons_succ]
              refine oneH 7 (by kernel_rfl) (storeH rfl (w' := w3.setCell ⟨kt, 0, none⟩ (.slice ua (l.length + 1) uc)) (nx := .skip) (by go_simp) (.inl rfl) (rfl : SameW _ _) ?_)
              try simp only [List.setIfInBounds_toArray, List.set_cons_zero, List.set_cons_succ]
              refine wpAnyH_done (by kernel_rfl) ?_ _
              have KV : Keeps (fun q => q ≠ kt) w3 (w3.setCell ⟨kt, 0, none⟩ (.slice ua (l.length + 1) uc)) := (Keeps.refl _ _).setCell (fun h => h rfl) _
              have T4 : BlkIs (w3.setCell ⟨kt, 0, none⟩ (.slice ua (l.length + 1) uc)) kt 25 #[.slice ua (l.length + 1) uc, .int .i64 at0] := by have := T3.put 0 (.slice ua (l.length + 1) uc); simpa using this
              have P4 := P3.keepK KV (by omega)
              have O4 : (w3.setCell ⟨kt, 0, none⟩ (.slice ua (l.length + 1) uc)).ownsRow w.heap.size 2 1 (.slice ua (l.length + 1) uc) (l.length + 1) (numsV (l ++ [rn])) := by
                rw [numsV_append]
                exact rowKeep hown KV (fun g hg e => T3.not_row (by decide) hown (by rw [hg, e]))
              have s4 : Src (w3.setCell ⟨kt, 0, none⟩ (.slice ua (l.length + 1) uc)) b a len cap zs := s3.keepK KV (by omega) (fun h0 p hp => by have := hrl h0 p hp; omega)
              have g4 : w.grownBy (w3.setCell ⟨kt, 0, none⟩ (.slice ua (l.length + 1) uc)) (some b) := grown_setNew g3 (by omega) _ _
              have HLN : Hid ((l ++ [rn]).length = l.length + 1) := by show _ = _; simp
              obtain ⟨V, hV⟩ : ∃ V, w3.setCell ⟨kt, 0, none⟩ (.slice ua (l.length + 1) uc) = V := ⟨_, rfl⟩
              rw [hV] at T4 P4 O4 s4 g4 ⊢
              clear hV KV T3 P3 T2 P2 O2 s2 s3 g3 K3 hb3 hown hgr hr e0 e1 hnr hg2w hne2
              have c0 : V.cell? ⟨kt, 0, none⟩ = some (.slice ua (l.length + 1) uc) := T4.cell 0
              have c1 : V.cell? ⟨kt, 1, none⟩ = some (.int .i64 at0) := T4.cell 1
              have d0 : V.cell? ⟨w.heap.size, 0, none⟩ = some (.slice none 0 0) := P4.cell 0
              have d1 : V.cell? ⟨w.heap.size, 1, none⟩ = some (.int .i64 0) := P4.cell 1
              have f0 := P4.fz 0
              have f1 := P4.fz 1
              have KZ := keeps_two V w.heap.size (.slice ua (l.length + 1) uc) (.int .i64 at0)
              have RZ := blk_put2 P4 (.slice ua (l.length + 1) uc) (.int .i64 at0)
              have hneo : ∀ g, Value.ownBlock (.slice ua (l.length + 1) uc) = some g → g ≠ w.heap.size := fun g hg e => P4.not_row (by decide) O4 (by rw [hg, e])
              have OZ := rowKeep O4 KZ hneo
              have SZ : Src ((V.setCell ⟨w.heap.size, 0, none⟩ (.slice ua (l.length + 1) uc)).setCell ⟨w.heap.size, 1, none⟩ (.int .i64 at0)) b a len cap zs := s4.keepK KZ (by omega) (fun h0 p hp => by have := hrl h0 p hp; omega)
              have GZ : w.grownBy ((V.setCell ⟨w.heap.size, 0, none⟩ (.slice ua (l.length + 1) uc)).setCell ⟨w.heap.size, 1, none⟩ (.int .i64 at0)) (some b) := grown_setNew (grown_setNew g4 (Nat.le_refl _) _ _) (Nat.le_refl _) _ _
              go_wp2
              obtain ⟨Z, hZ⟩ : ∃ Z, (V.setCell ⟨w.heap.size, 0, none⟩ (.slice ua (l.length + 1) uc)).setCell ⟨w.heap.size, 1, none⟩ (.int .i64 at0) = Z := ⟨_, rfl⟩
              rw [hZ] at RZ OZ SZ GZ ⊢
              clear hZ c0 c1 d0 d1 f0 f1 KZ
              have h0 : Z.cell? ⟨w.heap.size, 0, none⟩ = some (.slice ua (l.length + 1) uc) := RZ.cell 0
              have h1 : Z.cell? ⟨w.heap.size, 1, none⟩ = some (.int .i64 at0) := RZ.cell 1
              exact bodyPost_ret (v := .agg #[.slice ua (l.length + 1) uc, .int .i64 at0]) (by simp [results, Try.results32, go_sem, h0, h1]) rfl ⟨_, (l ++ [rn]), _, rfl, by rw [HLN.out]; omega, by rw [HLN.out]; exact OZ, SZ, GZ⟩
            case B2 =>
              have hw2 : w.heap.size ≤ x2.heap.size := hg2w.size
              obtain ⟨v', w3, hr, hown, hgr, _⟩ := run_append_numsT w.heap.size (.slice ta l.length tc) l.length (numsV l) (O2.alloc (.cells #[.int .i64 rn] 2)) x2.heap.size 0 1 [rn] (one_row rn x2) (by simp; omega) (by simp; omega)
              have hnr : ∀ g, (Value.slice ta l.length tc).ownBlock = some g → w.heap.size ≤ g := fun g hg => (O2.lt g hg).1
              have hb3 : Below w.heap.size x2 w3 := ((Below.refl w.heap.size x2).alloc hw2 _).grown hgr (by simp; omega) hnr
              have s3 : Src w3 b a len cap zs := s2.keep hb3 hlt hrl
              have g3 : w.grownBy w3 (some b) := grown_own (grown_alloc hg2w _) hgr hnr
              have K3 : Keeps (fun q => q = kt ∨ q = w.heap.size) x2 w3 := ((Keeps.refl _ _).alloc _).grown hgr (fun g hg h => by have h1 := hne2 g hg; omega)
              have T3 := T2.keepK K3 (.inl rfl)
              have P3 := P2.keepK K3 (.inr rfl)
              have e0 : w3.cell? ⟨kt, 0, none⟩ = some (.slice ta l.length tc) := T3.cell 0
              have e1 := T3.fz 0
              obtain ⟨ua, uc, hue⟩ : ∃ ua uc, v' = .slice ua (l.length + 1) uc := by
                rcases hown.2 with ⟨_, h⟩ | ⟨g, c, cur, h, _⟩
                · simp at h
                · exact ⟨_, _, h⟩
              subst hue
              refine doH rfl (v := .slice (some ⟨x2.heap.size, 0, none⟩) 1 1) (w' := x2.alloc (.cells #[.int .i64 rn] 2)) (by go_simp) (rfl : SameW _ _) ?_
              try simp only [List.setIfInBounds_toArray, List.set_cons_zero, List.set_cons_succ]
              have cX : (x2.alloc (.cells #[.int .i64 rn] 2)).cell? ⟨kt, 0, none⟩ = some (.slice ta l.length tc) := (T2.keep ((Below.refl _ _).alloc (Nat.le_refl _) _)).cell 0
              refine oneH 1 (by kernel_rfl) (doH rfl (v := .slice ta l.length tc) (w' := (x2.alloc (.cells #[.int .i64 rn] 2))) (by go_simp) (rfl : SameW _ _) ?_)
              try simp only [List.setIfInBounds_toArray, List.set_cons_zero, List.set_cons_succ]
              clear cX
              refine oneH 5 (by kernel_rfl) (doH rfl (exec_append (.tmp 29) (.tmp 32) 23 23 rfl _ _ rfl rfl hr) (rfl : SameW _ _) ?_)
              try simp only [List.setIfInBounds_toArray, List.set_cons_zero, List.set_cons_succ]
              refine takeG 6 (v := .pointer (some ⟨kt, 0, none⟩)) rfl (by kernel_rfl) (by kernel_rfl) (by kernel_rfl) (by kernel_rfl) (fun _ _ _ h => h) ?hy rfl ?_
              case hy => (intro w' hSw; go_simp)
              try simp only [List.setIfInBounds_toArray, List.set_cons_zero, List.set_cons_succ]
              refine oneH 7 (by kernel_rfl) (storeH rfl (w' := w3.setCell ⟨kt, 0, none⟩ (.slice ua (l.length + 1) uc)) (nx := .skip) (by go_simp) (.inl rfl) (rfl : SameW _ _) ?_)
              try simp only [List.setIfInBounds_toArray, List.set_cons_zero, List.set_cons_succ]
              refine wpAnyH_done (by kernel_rfl) ?_ _
              have KV : Keeps (fun q => q ≠ kt) w3 (w3.setCell ⟨kt, 0, none⟩ (.slice ua (l.length + 1) uc)) := (Keeps.refl _ _).setCell (fun h => h rfl) _
              have T4 : BlkIs (w3.setCell ⟨kt, 0, none⟩ (.slice ua (l.length + 1) uc)) kt 25 #[.slice ua (l.length + 1) uc, .int .i64 at0] := by have := T3.put 0 (.slice ua (l.length + 1) uc); simpa using this
              have P4 := P3.keepK KV (by omega)
              have O4 : (w3.setCell ⟨kt, 0, none⟩ (.slice ua (l.length + 1) uc)).ownsRow w.heap.size 2 1 (.slice ua (l.length + 1) uc) (l.length + 1) (numsV (l ++ [rn])) := by
                rw [numsV_append]
                exact rowKeep hown KV (fun g hg e => T3.not_row (by decide) hown (by rw [hg, e]))
              have s4 : Src (w3.setCell ⟨kt, 0, none⟩ (.slice ua (l.length + 1) uc)) b a len cap zs := s3.keepK KV (by omega) (fun h0 p hp => by have := hrl h0 p hp; omega)
              have g4 : w.grownBy (w3.setCell ⟨kt, 0, none⟩ (.slice ua (l.length + 1) uc)) (some b) := grown_setNew g3 (by omega) _ _
              have HLN : Hid ((l ++ [rn]).length = l.length + 1) := by show _ = _; simp
              obtain ⟨V, hV⟩ : ∃ V, w3.setCell ⟨kt, 0, none⟩ (.slice ua (l.length + 1) uc) = V := ⟨_, rfl⟩
              rw [hV] at T4 P4 O4 s4 g4 ⊢
              clear hV KV T3 P3 T2 P2 O2 s2 s3 g3 K3 hb3 hown hgr hr e0 e1 hnr hg2w hne2
              have c0 : V.cell? ⟨kt, 0, none⟩ = some (.slice ua (l.length + 1) uc) := T4.cell 0
              have c1 : V.cell? ⟨kt, 1, none⟩ = some (.int .i64 at0) := T4.cell 1
              have d0 : V.cell? ⟨w.heap.size, 0, none⟩ = some (.slice none 0 0) := P4.cell 0
              have d1 : V.cell? ⟨w.heap.size, 1, none⟩ = some (.int .i64 0) := P4.cell 1
              have f0 := P4.fz 0
              have f1 := P4.fz 1
              have KZ := keeps_two V w.heap.size (.slice ua (l.length + 1) uc) (.int .i64 at0)
              have RZ := blk_put2 P4 (.slice ua (l.length + 1) uc) (.int .i64 at0)
              have hneo : ∀ g, Value.ownBlock (.slice ua (l.length + 1) uc) = some g → g ≠ w.heap.size := fun g hg e => P4.not_row (by decide) O4 (by rw [hg, e])
              have OZ := rowKeep O4 KZ hneo
              have SZ : Src ((V.setCell ⟨w.heap.size, 0, none⟩ (.slice ua (l.length + 1) uc)).setCell ⟨w.heap.size, 1, none⟩ (.int .i64 at0)) b a len cap zs := s4.keepK KZ (by omega) (fun h0 p hp => by have := hrl h0 p hp; omega)
              have GZ : w.grownBy ((V.setCell ⟨w.heap.size, 0, none⟩ (.slice ua (l.length + 1) uc)).setCell ⟨w.heap.size, 1, none⟩ (.int .i64 at0)) (some b) := grown_setNew (grown_setNew g4 (Nat.le_refl _) _ _) (Nat.le_refl _) _ _
              go_wp2
              obtain ⟨Z, hZ⟩ : ∃ Z, (V.setCell ⟨w.heap.size, 0, none⟩ (.slice ua (l.length + 1) uc)).setCell ⟨w.heap.size, 1, none⟩ (.int .i64 at0) = Z := ⟨_, rfl⟩
              rw [hZ] at RZ OZ SZ GZ ⊢
              clear hZ c0 c1 d0 d1 f0 f1 KZ
              have h0 : Z.cell? ⟨w.heap.size, 0, none⟩ = some (.slice ua (l.length + 1) uc) := RZ.cell 0
              have h1 : Z.cell? ⟨w.heap.size, 1, none⟩ = some (.int .i64 at0) := RZ.cell 1
              exact bodyPost_ret (v := .agg #[.slice ua (l.length + 1) uc, .int .i64 at0]) (by simp [results, Try.results32, go_sem, h0, h1]) rfl ⟨_, (l ++ [rn]), _, rfl, by rw [HLN.out]; omega, by rw [HLN.out]; exact OZ, SZ, GZ⟩
end Go.Proofs.Ytpjmhaegdnahmaa
