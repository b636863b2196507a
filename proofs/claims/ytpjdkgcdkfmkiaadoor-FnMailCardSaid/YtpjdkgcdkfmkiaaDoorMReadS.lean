/- The contract of the specification's MailRead. -/
import Derived.Test.YtpjdkgcdkfmkiaaDoorMReadQ
import Derived.Test.YtpjdkgcdkfmkiaaDoorMBytesS
namespace Go.Proofs.YtpjdkgcdkfmkiaaDoor
open Go Go.RowKit
set_option linter.unusedVariables false
set_option linter.unusedSimpArgs false

theorem RdBlk.keepK {w w' : World} {b : Nat} {t : ByteArray} {a : Int} {bad : Bool} (h : RdBlk w b t a bad) {G : Nat → Prop} (k : Keeps G w w') (hg : G b) : RdBlk w' b t a bad := BlkIs.keepK h k hg
theorem RdBlk.bad {w : World} {b : Nat} {t : ByteArray} {a : Int} {bad : Bool} (h : RdBlk w b t a bad) : w.cell? ⟨b, 2, none⟩ = some (.bool bad) := BlkIs.cell h 2
set_option maxHeartbeats 8000000 in
set_option maxRecDepth 100000 in
theorem specMRead_any (s : ByteArray) (c : Int) (m : MailV) (w : World) (hP : ReadIs s c m) : Calls Tryd.prog 11 #[.string s] w (MOutPost c m w) := by
  have B := (Below.refl w.heap.size w).alloc (Nat.le_refl _) (.cells #[.int .i64 0, .int .i64 0, .int .i64 0, .int .i64 0, .int .i64 0, .int .i64 0, .slice none 0 0, .int .i64 0] 30)
  have pR := BlkIs.new w 30 #[.int .i64 0, .int .i64 0, .int .i64 0, .int .i64 0, .int .i64 0, .int .i64 0, .slice none 0 0, .int .i64 0]
  obtain ⟨W, hW⟩ : ∃ W, w.alloc (.cells #[.int .i64 0, .int .i64 0, .int .i64 0, .int .i64 0, .int .i64 0, .int .i64 0, .slice none 0 0, .int .i64 0] 30) = W := ⟨_, rfl⟩
  rw [hW] at B pR
  have HW : Hid (_ = W) := hW
  have HP : Hid (ReadIs s c m) := hP
  clear hW hP
  go_enter Tryd.func11, Tryd.ntmps11
  go_wp2_with fail
  rw [HW.out]
  clear HW
  refine (specUnseal_any s W).mono ?_
  rintro e W1 ⟨rfl, bx⟩
  replace B := B.trans (bx.mono B.size)
  replace pR := pR.keep bx
  clear bx
  rcases getU_code s with ⟨t, eu⟩ | ⟨c0, eu, hc0⟩
  case inr =>
    rw [eu]
    unfold textOut
    dsimp only
    have HE : Hid (getU s = (⟨#[]⟩, 0, c0)) := eu
    obtain ⟨rfl, rfl⟩ := readIs_one HP.out (.inl ⟨hc0, eu, rfl⟩)
    have hcb : (c != 0) = true := by simpa using hc0
    clear eu
    go_upto_region 2 with fail
    have bA : Below W1.heap.size W1 (W1.alloc (.cells #[.string ⟨#[]⟩, .int .i64 0, .int .i64 c] 48)) := (Below.refl _ _).alloc (Nat.le_refl _) _
    have pT := BlkIs.new W1 48 #[.string ⟨#[]⟩, .int .i64 0, .int .i64 c]
    have hlt := pR.lt
    replace B := B.trans (bA.mono B.size)
    replace pR := pR.keep bA
    clear bA
    generalize W1.alloc (.cells #[.string ⟨#[]⟩, .int .i64 0, .int .i64 c] 48) = Y at *
    have g2 := pT.cell 2
    simp only [List.getElem?_toArray, List.getElem?_cons_zero, List.getElem?_cons_succ] at g2
    obtain ⟨d0, d1, d2, d3, d4, d5, d6, d7⟩ := blk8_cells pR
    have f0 := pR.fz 0
    have f1 := pR.fz 1
    have f2 := pR.fz 2
    have f3 := pR.fz 3
    have f4 := pR.fz 4
    have f5 := pR.fz 5
    have f6 := pR.fz 6
    have f7 := pR.fz 7
    go_wp2
    have KZ := keeps_eight Y w.heap.size (.int .i64 0) (.int .i64 0) (.int .i64 0) (.int .i64 0) (.int .i64 0) (.int .i64 0) (.slice none 0 0) (.int .i64 c)
    have HZ := blk_put8 pR (.int .i64 0) (.int .i64 0) (.int .i64 0) (.int .i64 0) (.int .i64 0) (.int .i64 0) (.slice none 0 0) (.int .i64 c)
    have HB := B.trans (KZ.toBelow B.size (fun q hq => by omega))
    obtain ⟨q0, q1, q2, q3, q4, q5, q6, q7⟩ := blk8_cells HZ
    exact bodyPost_ret (v := mailOutV mailZ (.slice none 0 0) c) (by simp [results, Tryd.results11, go_sem, mailOutV, mailZ, q0, q1, q2, q3, q4, q5, q6, q7]) rfl ⟨_, rfl, World.ownsRow_nil _ _ _ _, HB⟩
  case inl =>
  rw [eu]
  unfold textOut
  dsimp only
  have HE : Hid (getU s = (t, 0, 0)) := eu
  clear eu
  obtain ⟨x1, a1, b1, h1⟩ : ∃ x a b, stepN t 0 false = (x, a, b) := ⟨_, _, _, rfl⟩
  have H1 : Hid (stepN t 0 false = (x1, a1, b1)) := h1
  clear h1
  obtain ⟨x2, a2, b2, h2⟩ : ∃ x a b, stepN t a1 b1 = (x, a, b) := ⟨_, _, _, rfl⟩
  have H2 : Hid (stepN t a1 b1 = (x2, a2, b2)) := h2
  clear h2
  obtain ⟨x3, a3, b3, h3⟩ : ∃ x a b, stepN t a2 b2 = (x, a, b) := ⟨_, _, _, rfl⟩
  have H3 : Hid (stepN t a2 b2 = (x3, a3, b3)) := h3
  clear h3
  obtain ⟨x4, a4, b4, h4⟩ : ∃ x a b, stepN t a3 b3 = (x, a, b) := ⟨_, _, _, rfl⟩
  have H4 : Hid (stepN t a3 b3 = (x4, a4, b4)) := h4
  clear h4
  obtain ⟨x5, a5, b5, h5⟩ : ∃ x a b, stepN t a4 b4 = (x, a, b) := ⟨_, _, _, rfl⟩
  have H5 : Hid (stepN t a4 b4 = (x5, a5, b5)) := h5
  clear h5
  obtain ⟨x6, a6, b6, h6⟩ : ∃ x a b, stepN t a5 b5 = (x, a, b) := ⟨_, _, _, rfl⟩
  have H6 : Hid (stepN t a5 b5 = (x6, a6, b6)) := h6
  clear h6
  obtain ⟨x7, a7, b7, h7⟩ : ∃ x a b, stepN t a6 b6 = (x, a, b) := ⟨_, _, _, rfl⟩
  have H7 : Hid (stepN t a6 b6 = (x7, a7, b7)) := h7
  clear h7
  go_upto_region 4 with fail
  have bA : Below W1.heap.size W1 (W1.alloc (.cells #[.string t, .int .i64 0, .int .i64 0] 48)) := (Below.refl _ _).alloc (Nat.le_refl _) _
  have pT := BlkIs.new W1 48 #[.string t, .int .i64 0, .int .i64 0]
  have hRl := pR.lt
  replace B := B.trans (bA.mono B.size)
  replace pR := pR.keep bA
  clear bA
  generalize W1.alloc (.cells #[.string t, .int .i64 0, .int .i64 0] 48) = Y at *
  have g0 := pT.cell 0
  simp only [List.getElem?_toArray, List.getElem?_cons_zero, List.getElem?_cons_succ] at g0
  go_upto_region 5 with fail
  have bA : Below Y.heap.size Y (Y.alloc (.cells #[.string t, .int .i64 0, .bool false] 58)) := (Below.refl _ _).alloc (Nat.le_refl _) _
  have rd : RdBlk (Y.alloc (.cells #[.string t, .int .i64 0, .bool false] 58)) Y.heap.size t 0 false := BlkIs.new Y 58 #[.string t, .int .i64 0, .bool false]
  have hRb : w.heap.size ≠ Y.heap.size := by have := pR.lt; omega
  have hRb2 : w.heap.size < Y.heap.size := pR.lt
  replace B := B.trans (bA.mono B.size)
  replace pR := pR.keep bA
  have hYs : Y.heap.size + 1 = (Y.alloc (.cells #[.string t, .int .i64 0, .bool false] 58)).heap.size := by simp
  clear bA pT g0
  generalize Y.alloc (.cells #[.string t, .int .i64 0, .bool false] 58) = Z0 at *
  obtain ⟨b, hb⟩ : ∃ b, Y.heap.size = b := ⟨_, rfl⟩
  rw [hb] at rd hRb hRb2 hYs ⊢
  have HYS : Hid (b + 1 = Z0.heap.size) := hYs
  clear hb hYs
  go_wp2_with fail
  refine (num_any b t 0 false _ rd).mono ?_
  rintro e y1 ⟨rfl, rd1, k1⟩
  rw [H1.out] at rd1 ⊢
  dsimp only at rd1 ⊢
  replace rd := rd1
  replace pR := pR.keepK k1 hRb
  replace B := B.trans (k1.toBelow B.size (fun q hq => by omega))
  have hbs : b < y1.heap.size := BlkIs.lt rd1
  clear rd1 k1
  go_upto_region 6 with fail
  have bA : Below y1.heap.size y1 (y1.alloc (.cells #[.int .i64 x1, .int .i64 0, .int .i64 0, .int .i64 0, .int .i64 0, .int .i64 0, .slice none 0 0] 25)) := (Below.refl _ _).alloc (Nat.le_refl _) _
  have pm := BlkIs.new y1 25 #[.int .i64 x1, .int .i64 0, .int .i64 0, .int .i64 0, .int .i64 0, .int .i64 0, .slice none 0 0]
  replace B := B.trans (bA.mono B.size)
  replace pR := pR.keep bA
  replace rd : RdBlk _ _ _ _ _ := BlkIs.keep rd bA
  have hms : y1.heap.size < (y1.alloc (.cells #[.int .i64 x1, .int .i64 0, .int .i64 0, .int .i64 0, .int .i64 0, .int .i64 0, .slice none 0 0] 25)).heap.size := by simp
  clear bA
  generalize y1.alloc (.cells #[.int .i64 x1, .int .i64 0, .int .i64 0, .int .i64 0, .int .i64 0, .int .i64 0, .slice none 0 0] 25) = z1 at *
  obtain ⟨mb, hmb0⟩ : ∃ mb, y1.heap.size = mb := ⟨_, rfl⟩
  rw [hmb0] at pm hms hbs ⊢
  have hmb : mb ≠ b := by omega
  clear hmb0
  go_wp2_with fail
  refine (num_any b t a1 b1 _ rd).mono ?_
  rintro e y2 ⟨rfl, rd1, k1⟩
  rw [H2.out] at rd1 ⊢
  dsimp only at rd1 ⊢
  replace rd := rd1
  replace pR := pR.keepK k1 hRb
  replace B := B.trans (k1.toBelow B.size (fun q hq => by omega))
  replace pm := pm.keepK k1 hmb
  clear rd1 k1
  have d1 := pm.cell 1
  have f1 := pm.fz 1
  simp only [List.getElem?_toArray, List.getElem?_cons_zero, List.getElem?_cons_succ] at d1
  go_upto_region 7 with fail
  have K2 : Keeps (fun q => q ≠ mb) y2 (y2.setCell ⟨mb, 1, none⟩ (.int .i64 x2)) := (Keeps.refl _ _).setCell (fun h => h rfl) _
  have pm2 : BlkIs (y2.setCell ⟨mb, 1, none⟩ (.int .i64 x2)) mb 25 #[.int .i64 x1, .int .i64 x2, .int .i64 0, .int .i64 0, .int .i64 0, .int .i64 0, .slice none 0 0] := by simpa using pm.put 1 (.int .i64 x2)
  replace rd := rd.keepK K2 (Ne.symm hmb)
  replace pR := pR.keepK K2 (by omega)
  replace B := B.trans (K2.toBelow B.size (fun q hq => by omega))
  replace pm := pm2
  clear K2 pm2 d1 f1
  generalize y2.setCell ⟨mb, 1, none⟩ (.int .i64 x2) = z2 at *
  go_wp2_with fail
  refine (num_any b t a2 b2 _ rd).mono ?_
  rintro e y3 ⟨rfl, rd1, k1⟩
  rw [H3.out] at rd1 ⊢
  dsimp only at rd1 ⊢
  replace rd := rd1
  replace pR := pR.keepK k1 hRb
  replace B := B.trans (k1.toBelow B.size (fun q hq => by omega))
  replace pm := pm.keepK k1 hmb
  clear rd1 k1
  have d2 := pm.cell 2
  have f2 := pm.fz 2
  simp only [List.getElem?_toArray, List.getElem?_cons_zero, List.getElem?_cons_succ] at d2
  go_upto_region 8 with fail
  have K2 : Keeps (fun q => q ≠ mb) y3 (y3.setCell ⟨mb, 2, none⟩ (.int .i64 x3)) := (Keeps.refl _ _).setCell (fun h => h rfl) _
  have pm2 : BlkIs (y3.setCell ⟨mb, 2, none⟩ (.int .i64 x3)) mb 25 #[.int .i64 x1, .int .i64 x2, .int .i64 x3, .int .i64 0, .int .i64 0, .int .i64 0, .slice none 0 0] := by simpa using pm.put 2 (.int .i64 x3)
  replace rd := rd.keepK K2 (Ne.symm hmb)
  replace pR := pR.keepK K2 (by omega)
  replace B := B.trans (K2.toBelow B.size (fun q hq => by omega))
  replace pm := pm2
  clear K2 pm2 d2 f2
  generalize y3.setCell ⟨mb, 2, none⟩ (.int .i64 x3) = z3 at *
  go_wp2_with fail
  refine (num_any b t a3 b3 _ rd).mono ?_
  rintro e y4 ⟨rfl, rd1, k1⟩
  rw [H4.out] at rd1 ⊢
  dsimp only at rd1 ⊢
  replace rd := rd1
  replace pR := pR.keepK k1 hRb
  replace B := B.trans (k1.toBelow B.size (fun q hq => by omega))
  replace pm := pm.keepK k1 hmb
  clear rd1 k1
  have d3 := pm.cell 3
  have f3 := pm.fz 3
  simp only [List.getElem?_toArray, List.getElem?_cons_zero, List.getElem?_cons_succ] at d3
  go_upto_region 9 with fail
  have K2 : Keeps (fun q => q ≠ mb) y4 (y4.setCell ⟨mb, 3, none⟩ (.int .i64 x4)) := (Keeps.refl _ _).setCell (fun h => h rfl) _
  have pm2 : BlkIs (y4.setCell ⟨mb, 3, none⟩ (.int .i64 x4)) mb 25 #[.int .i64 x1, .int .i64 x2, .int .i64 x3, .int .i64 x4, .int .i64 0, .int .i64 0, .slice none 0 0] := by simpa using pm.put 3 (.int .i64 x4)
  replace rd := rd.keepK K2 (Ne.symm hmb)
  replace pR := pR.keepK K2 (by omega)
  replace B := B.trans (K2.toBelow B.size (fun q hq => by omega))
  replace pm := pm2
  clear K2 pm2 d3 f3
  generalize y4.setCell ⟨mb, 3, none⟩ (.int .i64 x4) = z4 at *
  go_wp2_with fail
  refine (num_any b t a4 b4 _ rd).mono ?_
  rintro e y5 ⟨rfl, rd1, k1⟩
  rw [H5.out] at rd1 ⊢
  dsimp only at rd1 ⊢
  replace rd := rd1
  replace pR := pR.keepK k1 hRb
  replace B := B.trans (k1.toBelow B.size (fun q hq => by omega))
  replace pm := pm.keepK k1 hmb
  clear rd1 k1
  have d4 := pm.cell 4
  have f4 := pm.fz 4
  simp only [List.getElem?_toArray, List.getElem?_cons_zero, List.getElem?_cons_succ] at d4
  go_upto_region 10 with fail
  have K2 : Keeps (fun q => q ≠ mb) y5 (y5.setCell ⟨mb, 4, none⟩ (.int .i64 x5)) := (Keeps.refl _ _).setCell (fun h => h rfl) _
  have pm2 : BlkIs (y5.setCell ⟨mb, 4, none⟩ (.int .i64 x5)) mb 25 #[.int .i64 x1, .int .i64 x2, .int .i64 x3, .int .i64 x4, .int .i64 x5, .int .i64 0, .slice none 0 0] := by simpa using pm.put 4 (.int .i64 x5)
  replace rd := rd.keepK K2 (Ne.symm hmb)
  replace pR := pR.keepK K2 (by omega)
  replace B := B.trans (K2.toBelow B.size (fun q hq => by omega))
  replace pm := pm2
  clear K2 pm2 d4 f4
  generalize y5.setCell ⟨mb, 4, none⟩ (.int .i64 x5) = z5 at *
  go_wp2_with fail
  refine (num_any b t a5 b5 _ rd).mono ?_
  rintro e y6 ⟨rfl, rd1, k1⟩
  rw [H6.out] at rd1 ⊢
  dsimp only at rd1 ⊢
  replace rd := rd1
  replace pR := pR.keepK k1 hRb
  replace B := B.trans (k1.toBelow B.size (fun q hq => by omega))
  replace pm := pm.keepK k1 hmb
  clear rd1 k1
  have d5 := pm.cell 5
  have f5 := pm.fz 5
  simp only [List.getElem?_toArray, List.getElem?_cons_zero, List.getElem?_cons_succ] at d5
  go_upto_region 11 with fail
  have K2 : Keeps (fun q => q ≠ mb) y6 (y6.setCell ⟨mb, 5, none⟩ (.int .i64 x6)) := (Keeps.refl _ _).setCell (fun h => h rfl) _
  have pm2 : BlkIs (y6.setCell ⟨mb, 5, none⟩ (.int .i64 x6)) mb 25 #[.int .i64 x1, .int .i64 x2, .int .i64 x3, .int .i64 x4, .int .i64 x5, .int .i64 x6, .slice none 0 0] := by simpa using pm.put 5 (.int .i64 x6)
  replace rd := rd.keepK K2 (Ne.symm hmb)
  replace pR := pR.keepK K2 (by omega)
  replace B := B.trans (K2.toBelow B.size (fun q hq => by omega))
  replace pm := pm2
  clear K2 pm2 d5 f5
  generalize y6.setCell ⟨mb, 5, none⟩ (.int .i64 x6) = z6 at *
  go_wp2_with fail
  refine (num_any b t a6 b6 _ rd).mono ?_
  rintro e y7 ⟨rfl, rd1, k1⟩
  rw [H7.out] at rd1 ⊢
  dsimp only at rd1 ⊢
  replace rd := rd1
  replace pR := pR.keepK k1 hRb
  replace B := B.trans (k1.toBelow B.size (fun q hq => by omega))
  replace pm := pm.keepK k1 hmb
  clear rd1 k1
  have HS7 : Hid (∀ l, Steps7 t ⟨x1, x2, x3, x4, x5, x6, l⟩ x7 a7 b7) := fun l => ⟨_, _, _, _, _, _, _, _, _, _, _, _, H1.out, H2.out, H3.out, H4.out, H5.out, H6.out, H7.out⟩
  have hmy : mb < y7.heap.size := pm.lt
  clear H1 H2 H3 H4 H5 H6 H7
  go_wp2
  go_loopw [7] (fun i wr => ∃ (j : Nat) (l : List FactV) (a : Int) (bad : Bool) (v : Value), i = .int .i64 j ∧ j ≤ 9 ∧ FRun t x7 a7 b7 j l a bad ∧ RdBlk wr b t a bad ∧ BlkIs wr mb 25 #[.int .i64 x1, .int .i64 x2, .int .i64 x3, .int .i64 x4, .int .i64 x5, .int .i64 x6, v] ∧ wr.ownsRow (mb + 1) 43 3 v l.length (cellsOf FactV.cells l) ∧ BlkIs wr w.heap.size 30 #[.int .i64 0, .int .i64 0, .int .i64 0, .int .i64 0, .int .i64 0, .int .i64 0, .slice none 0 0, .int .i64 0] ∧ Below w.heap.size w wr) (fun i _ => 9 - (intOf i).toNat)
  case atStart => exact ⟨0, [], a7, b7, .slice none 0 0, rfl, Nat.zero_le _, ⟨rfl, rfl, rfl⟩, rd, pm, World.ownsRow_nil _ _ _ _, pR, B⟩
  case round =>
    clear rd pm pR B
    obtain ⟨j, l, a, bad, v, rfl, hj9, hF, rd, pm, own, pR, B⟩ := hrel
    obtain ⟨va, vc, rfl, oc, _⟩ := own_sl own
    have hll := frun_len _ _ _ _ hF
    have hl9 : l.length ≤ 9 := by omega
    have HF : Hid (FRun t x7 a7 b7 j l a bad) := hF
    have HLL : Hid (l.length = j) := hll
    have hbad := rd.bad
    clear hF hll
    by_cases hx : (j : Int) < x7 ∧ (j : Int) < 9 ∧ bad = false
    · obtain ⟨hx1, hx2, rfl⟩ := hx
      obtain ⟨u1, s1, t1, g1⟩ : ∃ x a' b, stepN t a false = (x, a', b) := ⟨_, _, _, rfl⟩
      obtain ⟨u2, s2, t2, g2⟩ : ∃ x a b, stepN t s1 t1 = (x, a, b) := ⟨_, _, _, rfl⟩
      obtain ⟨u3, s3, t3, g3⟩ : ∃ x a b, stepN t s2 t2 = (x, a, b) := ⟨_, _, _, rfl⟩
      have HF2 : Hid (FRun t x7 a7 b7 (j + 1) (l ++ [⟨u1, u2, u3⟩]) s3 t3) := ⟨l, a, u1, u2, u3, s1, t1, s2, t2, HF.out, hx1, g1, g2, g3, rfl⟩
      have G1 : Hid (stepN t a false = (u1, s1, t1)) := g1
      have G2 : Hid (stepN t s1 t1 = (u2, s2, t2)) := g2
      have G3 : Hid (stepN t s2 t2 = (u3, s3, t3)) := g3
      have hmw : mb < wr.heap.size := pm.lt
      clear g1 g2 g3 oc
      go_wp2_with fail
      refine (num_any b t a false _ rd).mono ?_
      rintro e v1 ⟨rfl, rd1, k1⟩
      rw [G1.out] at rd1 ⊢
      dsimp only at rd1 ⊢
      replace rd := rd1
      replace pR := pR.keepK k1 hRb
      replace B := B.trans (k1.toBelow B.size (fun q hq => by omega))
      replace pm := pm.keepK k1 hmb
      replace own := rowKeep own k1 (fun g hg => by have := (own.lt g hg).1; omega)
      have hsz1 := k1.size
      clear rd1 k1
      go_upto_region 16 with fail
      have bA : Below v1.heap.size v1 (v1.alloc (.cells #[.int .i64 u1, .int .i64 0, .int .i64 0] 43)) := (Below.refl _ _).alloc (Nat.le_refl _) _
      have pf := BlkIs.new v1 43 #[.int .i64 u1, .int .i64 0, .int .i64 0]
      replace B := B.trans (bA.mono B.size)
      replace pR := pR.keep bA
      replace rd : RdBlk _ _ _ _ _ := BlkIs.keep rd bA
      replace pm := pm.keep bA
      have hog : ∀ g, (Value.slice va l.length vc).ownBlock = some g → mb + 1 ≤ g ∧ g < v1.heap.size := fun g hg => own.lt g hg
      replace own := rowBelow own bA
      have hfs : v1.heap.size < (v1.alloc (.cells #[.int .i64 u1, .int .i64 0, .int .i64 0] 43)).heap.size := by simp
      clear bA hbad
      generalize v1.alloc (.cells #[.int .i64 u1, .int .i64 0, .int .i64 0] 43) = r1 at *
      obtain ⟨fb, hfb⟩ : ∃ fb, v1.heap.size = fb := ⟨_, rfl⟩
      rw [hfb] at pf hfs hog hsz1 ⊢
      have hfb1 : mb < fb := by omega
      have HOG : Hid (∀ g, (Value.slice va l.length vc).ownBlock = some g → mb + 1 ≤ g ∧ g < fb) := hog
      clear hfb hog hsz1
      go_wp2_with fail
      refine (num_any b t s1 t1 _ rd).mono ?_
      rintro e v2 ⟨rfl, rd1, k1⟩
      rw [G2.out] at rd1 ⊢
      dsimp only at rd1 ⊢
      replace rd := rd1
      replace pR := pR.keepK k1 hRb
      replace B := B.trans (k1.toBelow B.size (fun q hq => by omega))
      replace pm := pm.keepK k1 hmb
      replace own := rowKeep own k1 (fun g hg => by have := (own.lt g hg).1; omega)
      replace pf := pf.keepK k1 (by omega)
      have hsz1 := k1.size
      clear rd1 k1
      have d1 := pf.cell 1
      have f1 := pf.fz 1
      simp only [List.getElem?_toArray, List.getElem?_cons_zero, List.getElem?_cons_succ] at d1
      go_upto_region 17 with fail
      have K2 : Keeps (fun q => q ≠ fb) v2 (v2.setCell ⟨fb, 1, none⟩ (.int .i64 u2)) := (Keeps.refl _ _).setCell (fun h => h rfl) _
      have pf2 : BlkIs (v2.setCell ⟨fb, 1, none⟩ (.int .i64 u2)) fb 43 #[.int .i64 u1, .int .i64 u2, .int .i64 0] := by simpa using pf.put 1 (.int .i64 u2)
      replace rd := rd.keepK K2 (by omega)
      replace pR := pR.keepK K2 (by omega)
      replace pm := pm.keepK K2 (by omega)
      replace B := B.trans (K2.toBelow B.size (fun q hq => by omega))
      replace own := rowKeep own K2 (fun g hg => by have := HOG.out g hg; omega)
      replace pf := pf2
      clear K2 pf2 d1 f1 hsz1
      generalize v2.setCell ⟨fb, 1, none⟩ (.int .i64 u2) = r2 at *
      go_wp2_with fail
      refine (num_any b t s2 t2 _ rd).mono ?_
      rintro e v3 ⟨rfl, rd1, k1⟩
      rw [G3.out] at rd1 ⊢
      dsimp only at rd1 ⊢
      replace rd := rd1
      replace pR := pR.keepK k1 hRb
      replace B := B.trans (k1.toBelow B.size (fun q hq => by omega))
      replace pm := pm.keepK k1 hmb
      replace own := rowKeep own k1 (fun g hg => by have := (own.lt g hg).1; omega)
      replace pf := pf.keepK k1 (by omega)
      have hsz1 := k1.size
      clear rd1 k1
      have d2 := pf.cell 2
      have f2 := pf.fz 2
      simp only [List.getElem?_toArray, List.getElem?_cons_zero, List.getElem?_cons_succ] at d2
      go_upto_region 18 with fail
      have K2 : Keeps (fun q => q ≠ fb) v3 (v3.setCell ⟨fb, 2, none⟩ (.int .i64 u3)) := (Keeps.refl _ _).setCell (fun h => h rfl) _
      have pf2 : BlkIs (v3.setCell ⟨fb, 2, none⟩ (.int .i64 u3)) fb 43 #[.int .i64 u1, .int .i64 u2, .int .i64 u3] := by simpa using pf.put 2 (.int .i64 u3)
      replace rd := rd.keepK K2 (by omega)
      replace pR := pR.keepK K2 (by omega)
      replace pm := pm.keepK K2 (by omega)
      replace B := B.trans (K2.toBelow B.size (fun q hq => by omega))
      replace own := rowKeep own K2 (fun g hg => by have := HOG.out g hg; omega)
      replace pf := pf2
      clear K2 pf2 d2 f2 hsz1
      generalize v3.setCell ⟨fb, 2, none⟩ (.int .i64 u3) = r3 at *
      have d0 := pf.cell 0
      have d1 := pf.cell 1
      have d2 := pf.cell 2
      have d6 := pm.cell 6
      simp only [List.getElem?_toArray, List.getElem?_cons_zero, List.getElem?_cons_succ] at d0 d1 d2 d6
      have ca := (Below.refl r3.heap.size r3).alloc (Nat.le_refl _) (.cells #[.int .i64 u1, .int .i64 u2, .int .i64 u3] 43)
      have owna := rowBelow own ca
      have hn1 : CellRow (r3.alloc (.cells #[.int .i64 u1, .int .i64 u2, .int .i64 u3] 43)) (some ⟨r3.heap.size, 0, none⟩) (cellsOf FactV.cells [⟨u1, u2, u3⟩]) := oneRowF r3 ⟨u1, u2, u3⟩
      have hpl := pm.lt
      have hbz : mb + 1 ≤ (r3.alloc (.cells #[.int .i64 u1, .int .i64 u2, .int .i64 u3] 43)).heap.size := by simp; omega
      go_wp2_with (at_builtin; refine append_factsL rfl rfl _ _ rfl (mb + 1) _ _ _ rfl owna ⟨r3.heap.size, 0, none⟩ 1 1 [⟨u1, u2, u3⟩] rfl rfl hn1 (by omega) hbz ?_)
      intro e2 e3 own2 gr2 _
      have K3 : Keeps (fun q => q < mb + 1) r3 e3 := ((Keeps.refl _ _).alloc _).grown gr2 (fun g hg h => by have := (HOG.out g hg).1; omega)
      replace rd := rd.keepK K3 (by omega)
      replace pR := pR.keepK K3 (by omega)
      replace pm := pm.keepK K3 (by omega)
      replace B := B.trans (K3.toBelow B.size (fun q hq => by omega))
      have own3 : e3.ownsRow (mb + 1) 43 3 e2 (l ++ [FactV.mk u1 u2 u3]).length (cellsOf FactV.cells (l ++ [FactV.mk u1 u2 u3])) := own_eqF own2 (by simp) (by rw [cellsOf_append])
      obtain ⟨ua, un, uc, rfl⟩ := rowShape own3
      have HO3 : Hid (∀ g, (Value.slice ua un uc).ownBlock = some g → mb + 1 ≤ g) := fun g hg => (own3.lt g hg).1
      clear K3 own owna hn1 hbz ca gr2 own2 d0 d1 d2 d6 pf
      have d6 := pm.cell 6
      have f6 := pm.fz 6
      simp only [List.getElem?_toArray, List.getElem?_cons_zero, List.getElem?_cons_succ] at d6
      go_wp2
      have K4 : Keeps (fun q => q ≠ mb) e3 (e3.setCell ⟨mb, 6, none⟩ (.slice ua un uc)) := (Keeps.refl _ _).setCell (fun h => h rfl) _
      have pm4 : BlkIs (e3.setCell ⟨mb, 6, none⟩ (.slice ua un uc)) mb 25 #[.int .i64 x1, .int .i64 x2, .int .i64 x3, .int .i64 x4, .int .i64 x5, .int .i64 x6, .slice ua un uc] := by simpa using pm.put 6 (.slice ua un uc)
      go_roundw
      case rel => exact ⟨j + 1, _, s3, t3, .slice ua un uc, by go_num, by omega, HF2.out, rd.keepK K4 (by omega), pm4, rowKeep own3 K4 (fun g hg => by have := HO3.out g hg; omega), pR.keepK K4 (by omega), B.trans (K4.toBelow B.size (fun q hq => by omega))⟩
      case measure => simp [intOf]; omega
    · have HX : Hid (¬ ((j : Int) < x7 ∧ (j : Int) < 9 ∧ bad = false)) := hx
      obtain ⟨q, hq⟩ := tells_bool (MailV.ok ⟨x1, x2, x3, x4, x5, x6, l⟩)
      have HQ : Hid (q = true ↔ MailV.ok ⟨x1, x2, x3, x4, x5, x6, l⟩) := hq
      obtain ⟨SR1, SR2⟩ := spec_reads (m := ⟨x1, x2, x3, x4, x5, x6, l⟩) HE.out (HS7.out l) HF.out hx hq
      have H1 : Hid _ := SR1
      have H2 : Hid _ := SR2
      have hrw := oc.row
      have hl2 : l.length ≤ 1048576 := by omega
      have hmw : mb < wr.heap.size := pm.lt
      clear hx hq SR1 SR2 oc
      cases bad with
      | true =>
        by_cases h1 : (j : Int) < x7
        · by_cases h2 : (j : Int) < 9
          · skip
            obtain ⟨rfl, rfl⟩ := readIs_one HP.out (H1.out (.inl rfl))
            clear H1 H2 HQ HX HF
            obtain ⟨d0, d1, d2, d3, d4, d5, d6, d7⟩ := blk8_cells pR
            have f0 := pR.fz 0
            have f1 := pR.fz 1
            have f2 := pR.fz 2
            have f3 := pR.fz 3
            have f4 := pR.fz 4
            have f5 := pR.fz 5
            have f6 := pR.fz 6
            have f7 := pR.fz 7
            go_wp2
            have KZ := keeps_eight wr w.heap.size (.int .i64 0) (.int .i64 0) (.int .i64 0) (.int .i64 0) (.int .i64 0) (.int .i64 0) (.slice none 0 0) (.int .i64 3)
            have HZ := blk_put8 pR (.int .i64 0) (.int .i64 0) (.int .i64 0) (.int .i64 0) (.int .i64 0) (.int .i64 0) (.slice none 0 0) (.int .i64 3)
            have HB := B.trans (KZ.toBelow B.size (fun q hq => by omega))
            obtain ⟨q0, q1, q2, q3, q4, q5, q6, q7⟩ := blk8_cells HZ
            exact bodyPost_ret (v := mailOutV mailZ (.slice none 0 0) 3) (by simp [results, Tryd.results11, go_sem, mailOutV, mailZ, q0, q1, q2, q3, q4, q5, q6, q7]) rfl ⟨_, rfl, World.ownsRow_nil _ _ _ _, HB⟩
          · skip
            obtain ⟨rfl, rfl⟩ := readIs_one HP.out (H1.out (.inl rfl))
            clear H1 H2 HQ HX HF
            obtain ⟨d0, d1, d2, d3, d4, d5, d6, d7⟩ := blk8_cells pR
            have f0 := pR.fz 0
            have f1 := pR.fz 1
            have f2 := pR.fz 2
            have f3 := pR.fz 3
            have f4 := pR.fz 4
            have f5 := pR.fz 5
            have f6 := pR.fz 6
            have f7 := pR.fz 7
            go_wp2
            have KZ := keeps_eight wr w.heap.size (.int .i64 0) (.int .i64 0) (.int .i64 0) (.int .i64 0) (.int .i64 0) (.int .i64 0) (.slice none 0 0) (.int .i64 3)
            have HZ := blk_put8 pR (.int .i64 0) (.int .i64 0) (.int .i64 0) (.int .i64 0) (.int .i64 0) (.int .i64 0) (.slice none 0 0) (.int .i64 3)
            have HB := B.trans (KZ.toBelow B.size (fun q hq => by omega))
            obtain ⟨q0, q1, q2, q3, q4, q5, q6, q7⟩ := blk8_cells HZ
            exact bodyPost_ret (v := mailOutV mailZ (.slice none 0 0) 3) (by simp [results, Tryd.results11, go_sem, mailOutV, mailZ, q0, q1, q2, q3, q4, q5, q6, q7]) rfl ⟨_, rfl, World.ownsRow_nil _ _ _ _, HB⟩
        · skip
          obtain ⟨rfl, rfl⟩ := readIs_one HP.out (H1.out (.inl rfl))
          clear H1 H2 HQ HX HF
          obtain ⟨d0, d1, d2, d3, d4, d5, d6, d7⟩ := blk8_cells pR
          have f0 := pR.fz 0
          have f1 := pR.fz 1
          have f2 := pR.fz 2
          have f3 := pR.fz 3
          have f4 := pR.fz 4
          have f5 := pR.fz 5
          have f6 := pR.fz 6
          have f7 := pR.fz 7
          go_wp2
          have KZ := keeps_eight wr w.heap.size (.int .i64 0) (.int .i64 0) (.int .i64 0) (.int .i64 0) (.int .i64 0) (.int .i64 0) (.slice none 0 0) (.int .i64 3)
          have HZ := blk_put8 pR (.int .i64 0) (.int .i64 0) (.int .i64 0) (.int .i64 0) (.int .i64 0) (.int .i64 0) (.slice none 0 0) (.int .i64 3)
          have HB := B.trans (KZ.toBelow B.size (fun q hq => by omega))
          obtain ⟨q0, q1, q2, q3, q4, q5, q6, q7⟩ := blk8_cells HZ
          exact bodyPost_ret (v := mailOutV mailZ (.slice none 0 0) 3) (by simp [results, Tryd.results11, go_sem, mailOutV, mailZ, q0, q1, q2, q3, q4, q5, q6, q7]) rfl ⟨_, rfl, World.ownsRow_nil _ _ _ _, HB⟩
      | false =>
        by_cases h1 : (j : Int) < x7
        · have h2 : ¬ (j : Int) < 9 := fun h => absurd (⟨h1, h, rfl⟩ : (j : Int) < x7 ∧ (j : Int) < 9 ∧ false = false) HX.out
          obtain ⟨e0, e1, e2, e3, e4, e5, e6⟩ := blk7_cells pm
          go_wp2_with fail
          refine (specMBytes_any x1 x2 x3 x4 x5 x6 va vc l wr q HQ.out hl2 hrw).mono ?_
          rintro e y ⟨rfl, by1⟩
          replace B := B.trans (by1.mono B.size)
          replace pR := pR.keep by1
          replace pm := pm.keep by1
          replace own := rowBelow own by1
          clear by1 e0 e1 e2 e3 e4 e5 e6 rd hbad
          obtain ⟨O, hO⟩ : ∃ O, MailV.out ⟨x1, x2, x3, x4, x5, x6, l⟩ q = O := ⟨_, rfl⟩
          rw [hO]
          have HOO : Hid (MailV.out ⟨x1, x2, x3, x4, x5, x6, l⟩ q = O) := hO
          clear hO
          by_cases hs : O = s.data.toList
          · have hbq : (O == s.toList) = true := by rw [ByteArray.toList_eq, hs]; simp
            obtain ⟨rfl, rfl⟩ := readIs_one HP.out (H2.out (HOO.out.trans hs))
            clear hs H1 H2 HQ HX HF HOO
            obtain ⟨e0, e1, e2, e3, e4, e5, e6⟩ := blk7_cells pm
            obtain ⟨d0, d1, d2, d3, d4, d5, d6, d7⟩ := blk8_cells pR
            have f0 := pR.fz 0
            have f1 := pR.fz 1
            have f2 := pR.fz 2
            have f3 := pR.fz 3
            have f4 := pR.fz 4
            have f5 := pR.fz 5
            have f6 := pR.fz 6
            have f7 := pR.fz 7
            go_wp2
            have KZ := keeps_eight y w.heap.size (.int .i64 x1) (.int .i64 x2) (.int .i64 x3) (.int .i64 x4) (.int .i64 x5) (.int .i64 x6) (.slice va l.length vc) (.int .i64 0)
            have HZ := blk_put8 pR (.int .i64 x1) (.int .i64 x2) (.int .i64 x3) (.int .i64 x4) (.int .i64 x5) (.int .i64 x6) (.slice va l.length vc) (.int .i64 0)
            have HB := B.trans (KZ.toBelow B.size (fun q hq => by omega))
            have HO := rowKeep own KZ (fun g hg => by have := (own.lt g hg).1; omega)
            obtain ⟨q0, q1, q2, q3, q4, q5, q6, q7⟩ := blk8_cells HZ
            exact bodyPost_ret (v := mailOutV ⟨x1, x2, x3, x4, x5, x6, l⟩ (.slice va l.length vc) 0) (by simp [results, Tryd.results11, go_sem, mailOutV, mailZ, q0, q1, q2, q3, q4, q5, q6, q7]) rfl ⟨_, rfl, rowLe HO (by omega), HB⟩
          · have hbq : (O == s.toList) = false := by rw [ByteArray.toList_eq]; simpa using hs
            obtain ⟨rfl, rfl⟩ := readIs_one HP.out (H1.out (.inr (fun h => hs (HOO.out.symm.trans h))))
            clear hs H1 H2 HQ HX HF HOO
            obtain ⟨d0, d1, d2, d3, d4, d5, d6, d7⟩ := blk8_cells pR
            have f0 := pR.fz 0
            have f1 := pR.fz 1
            have f2 := pR.fz 2
            have f3 := pR.fz 3
            have f4 := pR.fz 4
            have f5 := pR.fz 5
            have f6 := pR.fz 6
            have f7 := pR.fz 7
            go_wp2
            have KZ := keeps_eight y w.heap.size (.int .i64 0) (.int .i64 0) (.int .i64 0) (.int .i64 0) (.int .i64 0) (.int .i64 0) (.slice none 0 0) (.int .i64 3)
            have HZ := blk_put8 pR (.int .i64 0) (.int .i64 0) (.int .i64 0) (.int .i64 0) (.int .i64 0) (.int .i64 0) (.slice none 0 0) (.int .i64 3)
            have HB := B.trans (KZ.toBelow B.size (fun q hq => by omega))
            obtain ⟨q0, q1, q2, q3, q4, q5, q6, q7⟩ := blk8_cells HZ
            exact bodyPost_ret (v := mailOutV mailZ (.slice none 0 0) 3) (by simp [results, Tryd.results11, go_sem, mailOutV, mailZ, q0, q1, q2, q3, q4, q5, q6, q7]) rfl ⟨_, rfl, World.ownsRow_nil _ _ _ _, HB⟩
        · skip
          obtain ⟨e0, e1, e2, e3, e4, e5, e6⟩ := blk7_cells pm
          go_wp2_with fail
          refine (specMBytes_any x1 x2 x3 x4 x5 x6 va vc l wr q HQ.out hl2 hrw).mono ?_
          rintro e y ⟨rfl, by1⟩
          replace B := B.trans (by1.mono B.size)
          replace pR := pR.keep by1
          replace pm := pm.keep by1
          replace own := rowBelow own by1
          clear by1 e0 e1 e2 e3 e4 e5 e6 rd hbad
          obtain ⟨O, hO⟩ : ∃ O, MailV.out ⟨x1, x2, x3, x4, x5, x6, l⟩ q = O := ⟨_, rfl⟩
          rw [hO]
          have HOO : Hid (MailV.out ⟨x1, x2, x3, x4, x5, x6, l⟩ q = O) := hO
          clear hO
          by_cases hs : O = s.data.toList
          · have hbq : (O == s.toList) = true := by rw [ByteArray.toList_eq, hs]; simp
            obtain ⟨rfl, rfl⟩ := readIs_one HP.out (H2.out (HOO.out.trans hs))
            clear hs H1 H2 HQ HX HF HOO
            obtain ⟨e0, e1, e2, e3, e4, e5, e6⟩ := blk7_cells pm
            obtain ⟨d0, d1, d2, d3, d4, d5, d6, d7⟩ := blk8_cells pR
            have f0 := pR.fz 0
            have f1 := pR.fz 1
            have f2 := pR.fz 2
            have f3 := pR.fz 3
            have f4 := pR.fz 4
            have f5 := pR.fz 5
            have f6 := pR.fz 6
            have f7 := pR.fz 7
            go_wp2
            have KZ := keeps_eight y w.heap.size (.int .i64 x1) (.int .i64 x2) (.int .i64 x3) (.int .i64 x4) (.int .i64 x5) (.int .i64 x6) (.slice va l.length vc) (.int .i64 0)
            have HZ := blk_put8 pR (.int .i64 x1) (.int .i64 x2) (.int .i64 x3) (.int .i64 x4) (.int .i64 x5) (.int .i64 x6) (.slice va l.length vc) (.int .i64 0)
            have HB := B.trans (KZ.toBelow B.size (fun q hq => by omega))
            have HO := rowKeep own KZ (fun g hg => by have := (own.lt g hg).1; omega)
            obtain ⟨q0, q1, q2, q3, q4, q5, q6, q7⟩ := blk8_cells HZ
            exact bodyPost_ret (v := mailOutV ⟨x1, x2, x3, x4, x5, x6, l⟩ (.slice va l.length vc) 0) (by simp [results, Tryd.results11, go_sem, mailOutV, mailZ, q0, q1, q2, q3, q4, q5, q6, q7]) rfl ⟨_, rfl, rowLe HO (by omega), HB⟩
          · have hbq : (O == s.toList) = false := by rw [ByteArray.toList_eq]; simpa using hs
            obtain ⟨rfl, rfl⟩ := readIs_one HP.out (H1.out (.inr (fun h => hs (HOO.out.symm.trans h))))
            clear hs H1 H2 HQ HX HF HOO
            obtain ⟨d0, d1, d2, d3, d4, d5, d6, d7⟩ := blk8_cells pR
            have f0 := pR.fz 0
            have f1 := pR.fz 1
            have f2 := pR.fz 2
            have f3 := pR.fz 3
            have f4 := pR.fz 4
            have f5 := pR.fz 5
            have f6 := pR.fz 6
            have f7 := pR.fz 7
            go_wp2
            have KZ := keeps_eight y w.heap.size (.int .i64 0) (.int .i64 0) (.int .i64 0) (.int .i64 0) (.int .i64 0) (.int .i64 0) (.slice none 0 0) (.int .i64 3)
            have HZ := blk_put8 pR (.int .i64 0) (.int .i64 0) (.int .i64 0) (.int .i64 0) (.int .i64 0) (.int .i64 0) (.slice none 0 0) (.int .i64 3)
            have HB := B.trans (KZ.toBelow B.size (fun q hq => by omega))
            obtain ⟨q0, q1, q2, q3, q4, q5, q6, q7⟩ := blk8_cells HZ
            exact bodyPost_ret (v := mailOutV mailZ (.slice none 0 0) 3) (by simp [results, Tryd.results11, go_sem, mailOutV, mailZ, q0, q1, q2, q3, q4, q5, q6, q7]) rfl ⟨_, rfl, World.ownsRow_nil _ _ _ _, HB⟩
end Go.Proofs.YtpjdkgcdkfmkiaaDoor
