/- The contract of the program's holdMyself. -/
import Derived.Test.YtmdcankfjmkkeaaGreatG40
import Derived.Test.YtmdcankfjmkkeaaGreatG32
namespace Go.Proofs.YtmdcankfjmkkeaaGreat
open Go Go.RowKit
set_option linter.unusedVariables false
set_option linter.unusedSimpArgs false

theorem addF_ne (l : List FactV) (f : FactV) : addF l f ≠ [] := by
  unfold addF putL
  split
  · simp
  · split <;> simp
theorem addF_right {l : List FactV} {f : FactV} (hl : rightV l) (hf : f.ok) : rightV (addF l f) := put_right hl hf (placeN_is (rightV_rise hl) f.node)
/-- A row of right facts does not lie where a zero fact lies. -/
theorem row_notZero {w : World} {base g : Nat} {v : Value} {l : List FactV} (hr : rightV l) (hne : l ≠ []) (h : w.ownsRow base 54 3 v l.length (cellsOf FactV.cells l)) (hb : BlkIs w g 54 #[.int .i64 0, .int .i64 0, .int .i64 0]) : v.ownBlock ≠ some g := by
  intro e
  cases l with
  | nil => exact hne rfl
  | cons x r =>
    rcases h.2 with ⟨hv, hn⟩ | ⟨g', cap, cur, rfl, _, hg, _, _, _, ht⟩
    · cases hn
    simp only [Value.ownBlock, Option.some.injEq] at e
    subst e
    rw [hb] at hg
    simp only [Option.some.injEq, Obj.cells.injEq] at hg
    obtain ⟨rfl, _⟩ := hg
    have h0 := congrArg (fun l : List Value => l[0]?) ht
    have hx : x.node = 0 := by
      have : (r.length + 1) * 3 = r.length * 3 + 3 := by omega
      simp [cellsOf, FactV.cells, this] at h0
      exact h0.symm
    obtain ⟨_, h1, _⟩ := hr 0 (by simp)
    have := h1.1.1
    simp at this
    omega
/-- What holdMyself leaves. -/
def HoldPost (T : TypeId) (c b : Nat) (a : NodeM) (n : NodeV) (f : FactV) (x y z : Value) (w : World) (e : Ending) (w' : World) : Prop := e = .returned f.val ∧ ∃ va vc, NodeSt T w' c b { a with va := va, vc := vc } { n with view := addF n.view f } x y z ∧ Keeps (fun q => q ≠ b ∧ (Value.slice a.va n.view.length a.vc).ownBlock ≠ some q) w w'
set_option maxHeartbeats 4000000 in
set_option maxRecDepth 100000 in
theorem hold_any (T : TypeId) (hT : NotEl T) (c b : Nat) (a : NodeM) (n : NodeV) (st : Int) (x y z : Value) (w : World) (hr : rightV n.view) (hf : (⟨n.id, n.inc, st⟩ : FactV).ok) (hc : c ≤ w.heap.size) (H : NodeSt T w c b a n x y z) :
    Calls Tryz.prog 62 #[.pointer (some ⟨b, 0, none⟩), .int .i64 st] w (HoldPost T c b a n ⟨n.id, n.inc, st⟩ x y z w) := by
  have HR : Hid (rightV n.view) := hr
  have HF : Hid ((⟨n.id, n.inc, st⟩ : FactV).ok) := hf
  have hlo := H.lo
  have O0 : BlkIs w b T #[.int .i64 n.id, .int .i64 n.inc, .int .i64 n.num, .int .i64 n.seed, .int .i64 n.next, .slice a.va n.view.length a.vc, .slice a.ra n.rum.length a.rc, .slice a.ta n.tl.length a.tc, .int .i64 n.at0, .int .i64 n.pb.node, .int .i64 n.pb.num, .int .i64 n.pb.due, .bool n.pb.asked, .slice a.da n.db.length a.dc, x, y, z] := H.blk
  have hlt := O0.lt
  clear hr hf
  have B := (Below.refl w.heap.size w).alloc (Nat.le_refl _) (.cells #[.int .i64 0, .int .i64 0, .int .i64 0] 54)
  have P := BlkIs.new w 54 #[.int .i64 0, .int .i64 0, .int .i64 0]
  have O := O0.keep B
  have RW := H.rows.keep B
  go_enter Tryz.func62, Tryz.ntmps62
  go_upto_region 1 with fail
  obtain ⟨X, hX⟩ : ∃ W, w.alloc (.cells #[.int .i64 0, .int .i64 0, .int .i64 0] 54) = W := ⟨_, rfl⟩
  rw [hX] at P B O RW ⊢
  clear hX O0
  obtain ⟨kr, hkr⟩ : ∃ k, w.heap.size = k := ⟨_, rfl⟩
  rw [hkr] at P ⊢
  have hbk : b ≠ kr := by omega
  go_upto_region 1 with fail
  go_cut [5] (fun vc0 wc => ∃ kx, vc0 = .pointer (some ⟨kx, 0, none⟩) ∧ BlkIs wc kx 54 #[.int .i64 n.id, .int .i64 n.inc, .int .i64 st] ∧ X.heap.size ≤ kx ∧ Below X.heap.size X wc)
  case first =>
    as_aux_lemma =>
      refine wp_region_any (by kernel_rfl) ?_
      refine wpAny_box 11 (fun i => [6, 7, 8, 9, 10, 11, 12, 13, 14, 15, 5].getD i 0) (fun kq v wq => match kq with | 0 => v = .pointer (some ⟨b, 0, none⟩) | 1 => v = .pointer (some ⟨b, 0, none⟩) | 2 => v = .pointer (some ⟨b, 0, none⟩) | 3 => v = .int .i64 n.id | 4 => v = .pointer (some ⟨b, 0, none⟩) | 5 => v = .pointer (some ⟨b, 0, none⟩) | 6 => v = .pointer (some ⟨b, 1, none⟩) | 7 => v = .int .i64 n.inc | 8 => v = .int .i64 st | 9 => v = .agg #[.int .i64 n.id, .int .i64 n.inc, .int .i64 st] | 10 => ∃ kx, v = .pointer (some ⟨kx, 0, none⟩) ∧ BlkIs wq kx 54 #[.int .i64 0, .int .i64 0, .int .i64 0] ∧ X.heap.size ≤ kx | _ => True) _ X (by kernel_rfl) ?inj ?stab ?step ?last _ _ _ _ (List.range 12) (by kernel_rfl) (Nat.le_refl 12) ?un (by kernel_rfl) ?down ⟨rfl, rfl, fun _ _ => rfl⟩ (Below.refl _ _).drew ?none
      case inj => exact (show ∀ i, i < 11 → ∀ j, j < 11 → [6, 7, 8, 9, 10, 11, 12, 13, 14, 15, 5].getD i 0 = [6, 7, 8, 9, 10, 11, 12, 13, 14, 15, 5].getD j 0 → i = j by decide)
      case un => exact fun i hi _ => List.mem_range.2 hi
      case down =>
        intro j hj
        exfalso
        by_cases hi : j < 12
        · simp [hi] at hj
        · simp [hi] at hj
      case none =>
        intro i hi hj
        exfalso
        have hi2 : i < 12 := by omega
        simp [hi2] at hj
      case stab =>
        intro kq u wa wb h hB
        match kq, h with
        | 0, h => exact h
        | 1, h => exact h
        | 2, h => exact h
        | 3, h => exact h
        | 4, h => exact h
        | 5, h => exact h
        | 6, h => exact h
        | 7, h => exact h
        | 8, h => exact h
        | 9, h => exact h
        | 10, h => exact (show ∃ kx, u = _ ∧ BlkIs wb kx 54 #[.int .i64 0, .int .i64 0, .int .i64 0] ∧ X.heap.size ≤ kx from by obtain ⟨kx, h1, h2, h3⟩ := h; exact ⟨kx, h1, h2.keep hB, h3⟩)
        | _ + 11, _ => exact trivial
      case step =>
        intro i o hin ho fa fw hF hJ hpre
        obtain rfl | rfl | rfl | rfl | rfl | rfl | rfl | rfl | rfl | rfl | rfl : i = 0 ∨ i = 1 ∨ i = 2 ∨ i = 3 ∨ i = 4 ∨ i = 5 ∨ i = 6 ∨ i = 7 ∨ i = 8 ∨ i = 9 ∨ i = 10 := by omega
        all_goals (obtain rfl := Option.some.inj ho)
        · have hs0 : fa.tmps[0]?.getD undef = .pointer (some ⟨b, 0, none⟩) := by
            have := hF.2.2 0 (show ∀ i, i < 11 → [6, 7, 8, 9, 10, 11, 12, 13, 14, 15, 5].getD i 0 ≠ 0 by decide)
            simpa using this
          exact step_val (v := .pointer (some ⟨b, 0, none⟩)) (w' := fw) (by go_simp) ⟨_, rfl, rfl, Below.refl _ _⟩
        · have hd0 : fa.tmps[6]?.getD undef = .pointer (some ⟨b, 0, none⟩) := by simpa using (hpre ⟨0, .data⟩ (by simp) rfl : fa.tmps.getD 6 undef = .pointer (some ⟨b, 0, none⟩))
          exact step_val (v := .pointer (some ⟨b, 0, none⟩)) (w' := fw) (by go_simp) ⟨_, rfl, rfl, Below.refl _ _⟩
        · have hd1 : fa.tmps[7]?.getD undef = .pointer (some ⟨b, 0, none⟩) := by simpa using (hpre ⟨1, .data⟩ (by simp) rfl : fa.tmps.getD 7 undef = .pointer (some ⟨b, 0, none⟩))
          exact step_val (v := .pointer (some ⟨b, 0, none⟩)) (w' := fw) (by go_simp) ⟨_, rfl, rfl, Below.refl _ _⟩
        · have hd2 : fa.tmps[8]?.getD undef = .pointer (some ⟨b, 0, none⟩) := by simpa using (hpre ⟨2, .data⟩ (by simp) rfl : fa.tmps.getD 8 undef = .pointer (some ⟨b, 0, none⟩))
          have m0 := (show fw.cell? ⟨b, 0, none⟩ = some (.int .i64 n.id) from (O.keep hJ).cell 0)
          try dsimp only at m0
          exact step_val (v := .int .i64 n.id) (w' := fw) (by go_simp) ⟨_, rfl, rfl, Below.refl _ _⟩
        · have hs0 : fa.tmps[0]?.getD undef = .pointer (some ⟨b, 0, none⟩) := by
            have := hF.2.2 0 (show ∀ i, i < 11 → [6, 7, 8, 9, 10, 11, 12, 13, 14, 15, 5].getD i 0 ≠ 0 by decide)
            simpa using this
          exact step_val (v := .pointer (some ⟨b, 0, none⟩)) (w' := fw) (by go_simp) ⟨_, rfl, rfl, Below.refl _ _⟩
        · have hd4 : fa.tmps[10]?.getD undef = .pointer (some ⟨b, 0, none⟩) := by simpa using (hpre ⟨4, .data⟩ (by simp) rfl : fa.tmps.getD 10 undef = .pointer (some ⟨b, 0, none⟩))
          exact step_val (v := .pointer (some ⟨b, 0, none⟩)) (w' := fw) (by go_simp) ⟨_, rfl, rfl, Below.refl _ _⟩
        · have hd5 : fa.tmps[11]?.getD undef = .pointer (some ⟨b, 0, none⟩) := by simpa using (hpre ⟨5, .data⟩ (by simp) rfl : fa.tmps.getD 11 undef = .pointer (some ⟨b, 0, none⟩))
          exact step_val (v := .pointer (some ⟨b, 1, none⟩)) (w' := fw) (by go_simp) ⟨_, rfl, rfl, Below.refl _ _⟩
        · have hd6 : fa.tmps[12]?.getD undef = .pointer (some ⟨b, 1, none⟩) := by simpa using (hpre ⟨6, .data⟩ (by simp) rfl : fa.tmps.getD 12 undef = .pointer (some ⟨b, 1, none⟩))
          have m0 := (show fw.cell? ⟨b, 1, none⟩ = some (.int .i64 n.inc) from (O.keep hJ).cell 1)
          try dsimp only at m0
          exact step_val (v := .int .i64 n.inc) (w' := fw) (by go_simp) ⟨_, rfl, rfl, Below.refl _ _⟩
        · have hs1 : fa.tmps[1]?.getD undef = .int .i64 st := by
            have := hF.2.2 1 (show ∀ i, i < 11 → [6, 7, 8, 9, 10, 11, 12, 13, 14, 15, 5].getD i 0 ≠ 1 by decide)
            simpa using this
          exact step_val (v := .int .i64 st) (w' := fw) (by go_simp) ⟨_, rfl, rfl, Below.refl _ _⟩
        · have hd3 : fa.tmps[9]?.getD undef = .int .i64 n.id := by simpa using (hpre ⟨3, .data⟩ (by simp) rfl : fa.tmps.getD 9 undef = .int .i64 n.id)
          have hd7 : fa.tmps[13]?.getD undef = .int .i64 n.inc := by simpa using (hpre ⟨7, .data⟩ (by simp) rfl : fa.tmps.getD 13 undef = .int .i64 n.inc)
          have hd8 : fa.tmps[14]?.getD undef = .int .i64 st := by simpa using (hpre ⟨8, .data⟩ (by simp) rfl : fa.tmps.getD 14 undef = .int .i64 st)
          exact step_val (v := .agg #[.int .i64 n.id, .int .i64 n.inc, .int .i64 st]) (w' := fw) (by go_simp) ⟨_, rfl, rfl, Below.refl _ _⟩
        · exact step_val (v := .pointer (some ⟨fw.heap.size, 0, none⟩)) (w' := fw.alloc (.cells #[.int .i64 0, .int .i64 0, .int .i64 0] 54)) (by go_simp) ⟨_, rfl, ⟨fw.heap.size, rfl, BlkIs.new _ _ _, hJ.size⟩, (Below.refl _ _).alloc (Nat.le_refl _) _⟩
      case last =>
        intro o ho fa fw hF hJ hφ
        obtain rfl := Option.some.inj ho
        obtain ⟨kb10, q10, hblk10, hkb10⟩ := (hφ 10 (by decide) : ∃ kx, (fa.tmps.getD 5 undef) = .pointer (some ⟨kx, 0, none⟩) ∧ BlkIs fw kx 54 #[.int .i64 0, .int .i64 0, .int .i64 0] ∧ X.heap.size ≤ kx)
        have hd10 : fa.tmps[5]?.getD undef = .pointer (some ⟨kb10, 0, none⟩) := by simpa using q10
        have hd9 : fa.tmps[15]?.getD undef = .agg #[.int .i64 n.id, .int .i64 n.inc, .int .i64 st] := by simpa using (hφ 9 (by decide) : fa.tmps.getD 15 undef = .agg #[.int .i64 n.id, .int .i64 n.inc, .int .i64 st])
        have hnew : BlkIs (fw.setRow kb10 #[.int .i64 n.id, .int .i64 n.inc, .int .i64 st]) kb10 54 #[.int .i64 n.id, .int .i64 n.inc, .int .i64 st] := setRow_heap _ _ _ _ _ _ hblk10
        have hbn : Below X.heap.size X (fw.setRow kb10 #[.int .i64 n.id, .int .i64 n.inc, .int .i64 st]) := hJ.trans ((keeps_setRow fw kb10 #[.int .i64 n.id, .int .i64 n.inc, .int .i64 st]).belowNe hkb10 hJ.size)
        refine step_skip (w' := fw.setRow kb10 #[.int .i64 n.id, .int .i64 n.inc, .int .i64 st]) (exec_store_blk hblk10 _ _ _ rfl (show fa.tmps.getD 5 undef = _ by simpa using hd10) (show fa.tmps.getD 15 undef = _ by simpa using hd9) (by kernel_rfl) rfl (by kernel_rfl)) ?_
        obtain ⟨wn, hwn⟩ : ∃ wn, fw.setRow kb10 #[.int .i64 n.id, .int .i64 n.inc, .int .i64 st] = wn := ⟨_, rfl⟩
        rw [hwn] at hnew hbn ⊢
        clear hwn hblk10
        obtain ⟨ft, fd⟩ := fa
        obtain ⟨hd, hz, hs⟩ := hF
        have e := tmps_slots ft 26 hz
        simp only [List.range, List.range.loop, List.map] at e
        have hu : ∀ s, (∀ i, i < 11 → [6, 7, 8, 9, 10, 11, 12, 13, 14, 15, 5].getD i 0 ≠ s) → ft.getD s undef = _ := hs
        rw [hu 0 (by decide), hu 1 (by decide), hu 2 (by decide), hu 3 (by decide), hu 4 (by decide), hu 16 (by decide), hu 17 (by decide), hu 18 (by decide), hu 19 (by decide), hu 20 (by decide), hu 21 (by decide), hu 22 (by decide), hu 23 (by decide), hu 24 (by decide), hu 25 (by decide)] at e
        obtain ⟨y6, hy6⟩ : ∃ z, ft.getD 6 undef = z := ⟨_, rfl⟩
        obtain ⟨y7, hy7⟩ : ∃ z, ft.getD 7 undef = z := ⟨_, rfl⟩
        obtain ⟨y8, hy8⟩ : ∃ z, ft.getD 8 undef = z := ⟨_, rfl⟩
        obtain ⟨y9, hy9⟩ : ∃ z, ft.getD 9 undef = z := ⟨_, rfl⟩
        obtain ⟨y10, hy10⟩ : ∃ z, ft.getD 10 undef = z := ⟨_, rfl⟩
        obtain ⟨y11, hy11⟩ : ∃ z, ft.getD 11 undef = z := ⟨_, rfl⟩
        obtain ⟨y12, hy12⟩ : ∃ z, ft.getD 12 undef = z := ⟨_, rfl⟩
        obtain ⟨y13, hy13⟩ : ∃ z, ft.getD 13 undef = z := ⟨_, rfl⟩
        obtain ⟨y14, hy14⟩ : ∃ z, ft.getD 14 undef = z := ⟨_, rfl⟩
        obtain ⟨y15, hy15⟩ : ∃ z, ft.getD 15 undef = z := ⟨_, rfl⟩
        obtain ⟨y5, hy5⟩ : ∃ z, ft.getD 5 undef = z := ⟨_, rfl⟩
        rw [hy6, hy7, hy8, hy9, hy10, hy11, hy12, hy13, hy14, hy15, hy5] at e
        have hyv5 : y5 = .pointer (some ⟨kb10, 0, none⟩) := by rw [← hy5]; simpa using hd10
        clear hy6 hy7 hy8 hy9 hy10 hy11 hy12 hy13 hy14 hy15 hy5 hu hs hz hφ hd10 q10 hd9
        subst e
        subst hyv5
        obtain rfl : fd = [] := hd
        go_wp2_with fail
        go_meet
        case rel => exact ⟨kb10, rfl, hnew, hkb10, hbn⟩
  case rest =>
  obtain ⟨kx, rfl, Q, hkx, bx⟩ := hcut
  have P1 := P.keep bx
  have O1 := O.keep bx
  have RW1 := RW.keep bx
  have B1 := B.trans (bx.mono B.size)
  have hkb : b < kx := by have := B.size; have := O.lt; omega
  have hkk : kr < kx := by have := P.lt; omega
  clear P O RW B bx
  obtain ⟨wz, hwz⟩ : ∃ y, y = wc := ⟨wc, rfl⟩
  rw [← hwz] at P1 O1 RW1 B1 Q ⊢
  clear hwz
  have c5 : wz.cell? ⟨b, 5, none⟩ = some (.slice a.va n.view.length a.vc) := O1.cell 5
  have g0 : wz.cell? ⟨kx, 0, none⟩ = some (.int .i64 n.id) := Q.cell 0
  have g1 : wz.cell? ⟨kx, 1, none⟩ = some (.int .i64 n.inc) := Q.cell 1
  have g2 : wz.cell? ⟨kx, 2, none⟩ = some (.int .i64 st) := Q.cell 2
  go_upto_region 2 with fail
  go_cut [] (fun wd => ∃ s k, BlkIs wd b T #[.int .i64 n.id, .int .i64 n.inc, .int .i64 n.num, .int .i64 n.seed, .int .i64 n.next, .slice s (addF n.view ⟨n.id, n.inc, st⟩).length k, .slice a.ra n.rum.length a.rc, .slice a.ta n.tl.length a.tc, .int .i64 n.at0, .int .i64 n.pb.node, .int .i64 n.pb.num, .int .i64 n.pb.due, .bool n.pb.asked, .slice a.da n.db.length a.dc, x, y, z] ∧ StRows wd c { a with va := s, vc := k } { n with view := addF n.view ⟨n.id, n.inc, st⟩ } ∧ BlkIs wd kr 54 #[.int .i64 0, .int .i64 0, .int .i64 0] ∧ BlkIs wd kx 54 #[.int .i64 n.id, .int .i64 n.inc, .int .i64 st] ∧ Keeps (fun q => q ≠ b ∧ (Value.slice a.va n.view.length a.vc).ownBlock ≠ some q) w wd)
  case first =>
    as_aux_lemma =>
      have OD := O1.keep (Below.refl _ _).drew
      have RD := RW1.keep (Below.refl _ _).drew
      have hnb : (Value.slice a.va n.view.length a.vc).ownBlock ≠ some b := OD.not_row hT.f RD.v
      go_region_with (go_at_call 140; refine (withFact_any _ n.view ⟨n.id, n.inc, st⟩ (placeN n.view n.id) c _ HR.out HF.out (placeN_is (rightV_rise HR.out) n.id) RD.v (by exact Nat.le_trans hc B1.size)).mono ?_; rintro e wy ⟨v, rfl, row, kk⟩; change wy.ownsRow c 54 3 v (addF n.view ⟨n.id, n.inc, st⟩).length (cellsOf FactV.cells (addF n.view ⟨n.id, n.inc, st⟩)) at row; obtain ⟨s, k, rfl⟩ := rowSlice row; have OY := OD.keepK kk hnb; have y5 : wy.cell? ⟨b, 5, none⟩ = some (.slice a.va n.view.length a.vc) := OY.cell 5; have z5 := OY.fz 5)
      all_goals
        have hkw : Keeps (fun q => q ≠ b) wy (wy.setCell ⟨b, 5, none⟩ (.slice s (addF n.view ⟨n.id, n.inc, st⟩).length k)) := keeps_setCell _ _ _ _
        have hnew : BlkIs (wy.setCell ⟨b, 5, none⟩ (.slice s (addF n.view ⟨n.id, n.inc, st⟩).length k)) b T #[.int .i64 n.id, .int .i64 n.inc, .int .i64 n.num, .int .i64 n.seed, .int .i64 n.next, .slice s (addF n.view ⟨n.id, n.inc, st⟩).length k, .slice a.ra n.rum.length a.rc, .slice a.ta n.tl.length a.tc, .int .i64 n.at0, .int .i64 n.pb.node, .int .i64 n.pb.num, .int .i64 n.pb.due, .bool n.pb.asked, .slice a.da n.db.length a.dc, x, y, z] := OY.put 5 (.slice s (addF n.view ⟨n.id, n.inc, st⟩).length k)
        have hr0 : StRows wy c { a with va := s, vc := k } { n with view := addF n.view ⟨n.id, n.inc, st⟩ } := ⟨row, rowKeep RD.r kk (fun g e1 e2 => row_ap RD.v RD.r (by decide) e2 e1), rowKeep RD.t kk (fun g e1 e2 => row_ap RD.v RD.t (by decide) e2 e1), rowKeep RD.d kk (fun g e1 e2 => row_ap RD.v RD.d (by decide) e2 e1)⟩
        have hrn := hr0.keepB OY hT hkw
        have hq : ∀ q, q = kr ∨ q = kx → (Value.slice a.va n.view.length a.vc).ownBlock ≠ some q := fun q hq e => by
          have h1 := (H.rows.v.lt q e).2
          rcases hq with rfl | rfl <;> omega
        have hP := (((P1.keep (Below.refl _ _).drew).keepK kk (hq _ (.inl rfl))).keepK hkw (by omega))
        have hQ := (((Q.keep (Below.refl _ _).drew).keepK kk (hq _ (.inr rfl))).keepK hkw (by omega))
        have hK : Keeps (fun q => q ≠ b ∧ (Value.slice a.va n.view.length a.vc).ownBlock ≠ some q) w (wy.setCell ⟨b, 5, none⟩ (.slice s (addF n.view ⟨n.id, n.inc, st⟩).length k)) :=
          ((Keeps.ofBelow (B1.drew) (fun k hk _ => hk)).trans (kk.mono (fun k _ h => h.2))).trans (hkw.mono (fun k _ h => h.1))
        obtain ⟨wn, hwn⟩ : ∃ y, wy.setCell ⟨b, 5, none⟩ (.slice s (addF n.view ⟨n.id, n.inc, st⟩).length k) = y := ⟨_, rfl⟩
        rw [hwn] at hnew hrn hP hQ hK ⊢
        clear hwn hkw hr0 OY y5 z5 row kk
        go_wp2_with fail
        go_meet
        case rel => exact ⟨s, k, hnew, hrn, hP, hQ, hK⟩
  case rest =>
  obtain ⟨s, k, hnew, hrn, hP, hQ, hK⟩ := hcut
  obtain ⟨wz2, hwz⟩ : ∃ y, y = wc := ⟨wc, rfl⟩
  rw [← hwz] at hnew hrn hP hQ hK ⊢
  clear hwz
  go_wp2_with (first
    | (refine load_blk hQ rfl _ _ rfl rfl _ Tryz.underlying54 (by kernel_rfl) ?_)
    | (refine store_blk hP rfl _ _ _ rfl rfl rfl (by kernel_rfl) rfl (by kernel_rfl) ?_; intro we pe ke))
  refine ret_blk pe Tryz.results62 rfl _ Tryz.underlying54 (by kernel_rfl) rfl ?_
  exact ⟨rfl, s, k, ⟨hnew.keepK ke (by omega), hlo, ⟨rowKeep hrn.v ke (fun g e hg => row_notZero (addF_right HR.out HF.out) (addF_ne _ _) hrn.v hP (hg ▸ e)), rowKeep hrn.r ke (fun g e hg => hP.not_row (by decide) hrn.r (hg ▸ e)), rowKeep hrn.t ke (fun g e hg => hP.not_row (by decide) hrn.t (hg ▸ e)), rowKeep hrn.d ke (fun g e hg => hP.not_row (by decide) hrn.d (hg ▸ e))⟩⟩, ⟨ke.os.trans hK.os, ke.tape.trans hK.tape, ke.output.trans hK.output, Nat.le_trans hK.size ke.size, fun k hk hg => (ke.block k (Nat.lt_of_lt_of_le hk hK.size) (by omega)).trans (hK.block k hk hg)⟩⟩
end Go.Proofs.YtmdcankfjmkkeaaGreat
