/- The contract of nearest: each number brought to where it may be. -/
import Derived.Test.YtgmdgjkmdnpmiaaRcI
import Derived.Test.YtgmdgjkmdnpmiaaWhole
namespace Go.Proofs.Ytgmdgjkmdnpmiaa
open Go Go.RowKit
set_option linter.unusedVariables false
set_option linter.unusedSimpArgs false

/-- A number brought to where it may be. -/
def near (lo hi x : Int) : Int := if lo < if hi < x then hi else x then if hi < x then hi else x else lo
theorem numsOf_any (x1 x2 x3 x4 x5 x6 : Int) (w : World) : Calls Try.prog 20 #[.agg #[.int .i64 x1, .int .i64 x2, .int .i64 x3, .int .i64 x4, .int .i64 x5, .int .i64 x6]] w fun e w' => e = .returned (.agg #[.int .i64 x1, .int .i64 x2, .int .i64 x3, .int .i64 x4, .int .i64 x5, .int .i64 x6]) ∧ Below w.heap.size w w' := by
  go_enter Try.func20, Try.ntmps20
  go_wp2
  refine bodyPost_ret (v := .agg #[.int .i64 x1, .int .i64 x2, .int .i64 x3, .int .i64 x4, .int .i64 x5, .int .i64 x6]) (by simp [results, Try.results20, go_sem]) rfl ⟨rfl, ?_⟩
  repeat first
    | exact Below.refl _ _
    | refine Below.setCell ?_ (by simp) _
    | refine Below.alloc ?_ (by simp <;> omega) _
def NearAt (r0 r1 r2 r3 r4 r5 r6 r7 r8 r9 r10 r11 x1 x2 x3 x4 x5 x6 : Int) (b : Nat) (v : Value) (wr : World) : Prop :=
  (v = .int .i64 0 ∧ BlkIs wr b 39 #[.int .i64 x1, .int .i64 x2, .int .i64 x3, .int .i64 x4, .int .i64 x5, .int .i64 x6]) ∨ (v = .int .i64 1 ∧ BlkIs wr b 39 #[.int .i64 (near r0 r1 x1), .int .i64 x2, .int .i64 x3, .int .i64 x4, .int .i64 x5, .int .i64 x6]) ∨ (v = .int .i64 2 ∧ BlkIs wr b 39 #[.int .i64 (near r0 r1 x1), .int .i64 (near r2 r3 x2), .int .i64 x3, .int .i64 x4, .int .i64 x5, .int .i64 x6]) ∨ (v = .int .i64 3 ∧ BlkIs wr b 39 #[.int .i64 (near r0 r1 x1), .int .i64 (near r2 r3 x2), .int .i64 (near r4 r5 x3), .int .i64 x4, .int .i64 x5, .int .i64 x6]) ∨ (v = .int .i64 4 ∧ BlkIs wr b 39 #[.int .i64 (near r0 r1 x1), .int .i64 (near r2 r3 x2), .int .i64 (near r4 r5 x3), .int .i64 (near r6 r7 x4), .int .i64 x5, .int .i64 x6]) ∨ (v = .int .i64 5 ∧ BlkIs wr b 39 #[.int .i64 (near r0 r1 x1), .int .i64 (near r2 r3 x2), .int .i64 (near r4 r5 x3), .int .i64 (near r6 r7 x4), .int .i64 (near r8 r9 x5), .int .i64 x6]) ∨ (v = .int .i64 6 ∧ BlkIs wr b 39 #[.int .i64 (near r0 r1 x1), .int .i64 (near r2 r3 x2), .int .i64 (near r4 r5 x3), .int .i64 (near r6 r7 x4), .int .i64 (near r8 r9 x5), .int .i64 (near r10 r11 x6)])
set_option maxHeartbeats 4000000 in
set_option maxRecDepth 100000 in
theorem nearest_of (x1 x2 x3 x4 x5 x6 r0 r1 r2 r3 r4 r5 r6 r7 r8 r9 r10 r11 : Int) (w : World) (hs : ∀ w, Calls Try.prog 28 #[.int .i64 x3] w fun e w' => e = .returned (.agg #[.int .i64 r0, .int .i64 r1, .int .i64 r2, .int .i64 r3, .int .i64 r4, .int .i64 r5, .int .i64 r6, .int .i64 r7, .int .i64 r8, .int .i64 r9, .int .i64 r10, .int .i64 r11]) ∧ Below w.heap.size w w') :
    Calls Try.prog 19 #[.agg #[.int .i64 x1, .int .i64 x2, .int .i64 x3, .int .i64 x4, .int .i64 x5, .int .i64 x6]] w fun e w' => e = .returned (.agg #[.int .i64 (near r0 r1 x1), .int .i64 (near r2 r3 x2), .int .i64 (near r4 r5 x3), .int .i64 (near r6 r7 x4), .int .i64 (near r8 r9 x5), .int .i64 (near r10 r11 x6)]) ∧ Below w.heap.size w w' := by
  obtain ⟨W, hW⟩ : ∃ W, (w.alloc (.cells #[.int .i64 x1, .int .i64 x2, .int .i64 x3, .int .i64 x4, .int .i64 x5, .int .i64 x6] 25)).alloc (.cells #[.int .i64 0, .int .i64 0, .int .i64 0, .int .i64 0, .int .i64 0, .int .i64 0] 39) = W := ⟨_, rfl⟩
  have P0 := (BlkIs.new w 25 #[.int .i64 x1, .int .i64 x2, .int .i64 x3, .int .i64 x4, .int .i64 x5, .int .i64 x6]).keep ((Below.refl _ _).alloc (Nat.le_refl _) (.cells #[.int .i64 0, .int .i64 0, .int .i64 0, .int .i64 0, .int .i64 0, .int .i64 0] 39))
  have P1 := BlkIs.new (w.alloc (.cells #[.int .i64 x1, .int .i64 x2, .int .i64 x3, .int .i64 x4, .int .i64 x5, .int .i64 x6] 25)) 39 #[.int .i64 0, .int .i64 0, .int .i64 0, .int .i64 0, .int .i64 0, .int .i64 0]
  have B0 : Below w.heap.size w W := by rw [← hW]; exact ((Below.refl _ _).alloc (Nat.le_refl _) _).alloc (by simp) _
  have e1 : (w.alloc (.cells #[.int .i64 x1, .int .i64 x2, .int .i64 x3, .int .i64 x4, .int .i64 x5, .int .i64 x6] 25)).heap.size = w.heap.size + 1 := by simp
  rw [hW] at P0 P1
  rw [e1] at P1
  have HW : Hid (_ = W) := hW
  have HS : Hid (∀ w, Calls Try.prog 28 #[.int .i64 x3] w fun e w' => e = .returned (.agg #[.int .i64 r0, .int .i64 r1, .int .i64 r2, .int .i64 r3, .int .i64 r4, .int .i64 r5, .int .i64 r6, .int .i64 r7, .int .i64 r8, .int .i64 r9, .int .i64 r10, .int .i64 r11]) ∧ Below w.heap.size w w') := hs
  clear hW hs e1
  go_enter Try.func19, Try.ntmps19
  go_wp2_with fail
  rw [HW.out]
  clear HW
  refine (numsOf_any x1 x2 x3 x4 x5 x6 _).mono ?_
  rintro e w1 ⟨rfl, b1⟩
  replace P0 := P0.keep b1
  replace P1 := P1.keep b1
  replace B0 := B0.trans (b1.mono B0.size)
  have l1 : w.heap.size + 1 < w1.heap.size := P1.lt
  clear b1
  go_upto_region 2 with (first
    | (refine store_blk (BlkIs.new _ _ _) rfl 39 _ _ rfl rfl rfl (by kernel_rfl) rfl (by kernel_rfl) ?_; intro V P2 kk)
    | fail)
  have bV := kk.belowNe (Nat.le_refl _) (Nat.le_of_lt (by simp))
  replace P0 := P0.keep (((Below.refl _ _).alloc (Nat.le_refl _) _).trans bV)
  replace P1 := P1.keep (((Below.refl _ _).alloc (Nat.le_refl _) _).trans bV)
  replace B0 := B0.trans ((((Below.refl _ _).alloc (Nat.le_refl _) _).trans bV).mono B0.size)
  obtain ⟨b, hb⟩ : ∃ b, w1.heap.size = b := ⟨_, rfl⟩
  rw [hb] at P2 l1 ⊢
  clear bV kk hb
  have c2 : V.cell? ⟨w.heap.size, 2, none⟩ = some (.int .i64 x3) := P0.cell 2
  go_wp2_with fail
  refine (HS.out _).mono ?_
  rintro e w3 ⟨rfl, b3⟩
  replace P0 := P0.keep b3
  replace P1 := P1.keep b3
  replace P2 := P2.keep b3
  replace B0 := B0.trans (b3.mono B0.size)
  clear b3 c2 HS P0
  go_wp2
  go_loopw [11, 4, 5] (fun v _ _ wr => NearAt r0 r1 r2 r3 r4 r5 r6 r7 r8 r9 r10 r11 x1 x2 x3 x4 x5 x6 b v wr ∧ BlkIs wr (w.heap.size + 1) 39 #[.int .i64 0, .int .i64 0, .int .i64 0, .int .i64 0, .int .i64 0, .int .i64 0] ∧ Below w.heap.size w wr) (fun i _ _ _ => 6 - (intOf i).toNat)
  case atStart => exact ⟨.inl ⟨rfl, P2⟩, P1, B0⟩
  case round =>
    clear P2 P1 B0
    obtain ⟨hn, P1, B0⟩ := hrel
    unfold NearAt at hn
    rcases hn with ⟨rfl, P2⟩ | ⟨rfl, P2⟩ | ⟨rfl, P2⟩ | ⟨rfl, P2⟩ | ⟨rfl, P2⟩ | ⟨rfl, P2⟩ | ⟨rfl, P2⟩
    · have ix : (Instr.index 51 (.agg #[.int .i64 r0, .int .i64 r1, .int .i64 r2, .int .i64 r3, .int .i64 r4, .int .i64 r5, .int .i64 r6, .int .i64 r7, .int .i64 r8, .int .i64 r9, .int .i64 r10, .int .i64 r11]) (.int .i64 0)).run Try.prog wr = .ok (.agg #[.int .i64 r0, .int .i64 r1]) wr := by kernel_rfl
      obtain ⟨u, hu⟩ : ∃ u, wr.heap.size = u := ⟨_, rfl⟩
      have P3 := BlkIs.new wr 50 #[.int .i64 r0, .int .i64 r1]
      have bU : Below wr.heap.size wr (wr.alloc (.cells #[.int .i64 r0, .int .i64 r1] 50)) := (Below.refl _ _).alloc (Nat.le_refl _) _
      obtain ⟨U, hU⟩ : ∃ U, wr.alloc (.cells #[.int .i64 r0, .int .i64 r1] 50) = U := ⟨_, rfl⟩
      rw [hU] at P3 bU
      have HU : Hid (_ = U) := hU
      have HN : Hid (wr.heap.size = u) := hu
      replace P2 := P2.keep bU
      replace P1 := P1.keep bU
      replace B0 := B0.trans (bU.mono B0.size)
      rw [hu] at P3
      clear bU hU hu
      go_upto_region 5 with fail
      rw [HU.out, HN.out]
      clear HU HN ix
      have c0 : U.cell? ⟨u, 0, none⟩ = some (.int .i64 r0) := P3.cell 0
      have c1 : U.cell? ⟨u, 1, none⟩ = some (.int .i64 r1) := P3.cell 1
      have c2 : U.cell? ⟨b, 0, none⟩ = some (.int .i64 x1) := P2.cell 0
      have f2 : U.frozen? ⟨b, 0, none⟩ = false := P2.fz 0
      have P4 := P2.put 0 (.int .i64 (near r0 r1 x1))
      have k4 : Keeps (fun q => q ≠ b) U (U.setCell ⟨b, 0, none⟩ (.int .i64 (near r0 r1 x1))) := keeps_setCell _ _ _ _
      replace P1 := P1.keepK k4 (by intro h; omega)
      replace B0 := B0.trans (k4.belowNe (by omega) B0.size)
      have b6 := (Below.refl U.heap.size (U.setCell ⟨b, 0, none⟩ (.int .i64 (near r0 r1 x1)))).drew
      have HR : Hid (NearAt r0 r1 r2 r3 r4 r5 r6 r7 r8 r9 r10 r11 x1 x2 x3 x4 x5 x6 b (.int .i64 1) (U.setCell ⟨b, 0, none⟩ (.int .i64 (near r0 r1 x1))).drew ∧ BlkIs (U.setCell ⟨b, 0, none⟩ (.int .i64 (near r0 r1 x1))).drew (w.heap.size + 1) 39 #[.int .i64 0, .int .i64 0, .int .i64 0, .int .i64 0, .int .i64 0, .int .i64 0] ∧ Below w.heap.size w (U.setCell ⟨b, 0, none⟩ (.int .i64 (near r0 r1 x1))).drew) :=
        ⟨.inr (.inl ⟨rfl, P4⟩), P1, B0.drew⟩
      clear P4 k4 P1 B0 b6 P2 P3
      go_region
      go_wp2
      go_roundw
      case rel => exact HR.out
      case measure => simp [intOf]
    · have ix : (Instr.index 51 (.agg #[.int .i64 r0, .int .i64 r1, .int .i64 r2, .int .i64 r3, .int .i64 r4, .int .i64 r5, .int .i64 r6, .int .i64 r7, .int .i64 r8, .int .i64 r9, .int .i64 r10, .int .i64 r11]) (.int .i64 1)).run Try.prog wr = .ok (.agg #[.int .i64 r2, .int .i64 r3]) wr := by kernel_rfl
      obtain ⟨u, hu⟩ : ∃ u, wr.heap.size = u := ⟨_, rfl⟩
      have P3 := BlkIs.new wr 50 #[.int .i64 r2, .int .i64 r3]
      have bU : Below wr.heap.size wr (wr.alloc (.cells #[.int .i64 r2, .int .i64 r3] 50)) := (Below.refl _ _).alloc (Nat.le_refl _) _
      obtain ⟨U, hU⟩ : ∃ U, wr.alloc (.cells #[.int .i64 r2, .int .i64 r3] 50) = U := ⟨_, rfl⟩
      rw [hU] at P3 bU
      have HU : Hid (_ = U) := hU
      have HN : Hid (wr.heap.size = u) := hu
      replace P2 := P2.keep bU
      replace P1 := P1.keep bU
      replace B0 := B0.trans (bU.mono B0.size)
      rw [hu] at P3
      clear bU hU hu
      go_upto_region 5 with fail
      rw [HU.out, HN.out]
      clear HU HN ix
      have c0 : U.cell? ⟨u, 0, none⟩ = some (.int .i64 r2) := P3.cell 0
      have c1 : U.cell? ⟨u, 1, none⟩ = some (.int .i64 r3) := P3.cell 1
      have c2 : U.cell? ⟨b, 1, none⟩ = some (.int .i64 x2) := P2.cell 1
      have f2 : U.frozen? ⟨b, 1, none⟩ = false := P2.fz 1
      have P4 := P2.put 1 (.int .i64 (near r2 r3 x2))
      have k4 : Keeps (fun q => q ≠ b) U (U.setCell ⟨b, 1, none⟩ (.int .i64 (near r2 r3 x2))) := keeps_setCell _ _ _ _
      replace P1 := P1.keepK k4 (by intro h; omega)
      replace B0 := B0.trans (k4.belowNe (by omega) B0.size)
      have b6 := (Below.refl U.heap.size (U.setCell ⟨b, 1, none⟩ (.int .i64 (near r2 r3 x2)))).drew
      have HR : Hid (NearAt r0 r1 r2 r3 r4 r5 r6 r7 r8 r9 r10 r11 x1 x2 x3 x4 x5 x6 b (.int .i64 2) (U.setCell ⟨b, 1, none⟩ (.int .i64 (near r2 r3 x2))).drew ∧ BlkIs (U.setCell ⟨b, 1, none⟩ (.int .i64 (near r2 r3 x2))).drew (w.heap.size + 1) 39 #[.int .i64 0, .int .i64 0, .int .i64 0, .int .i64 0, .int .i64 0, .int .i64 0] ∧ Below w.heap.size w (U.setCell ⟨b, 1, none⟩ (.int .i64 (near r2 r3 x2))).drew) :=
        ⟨.inr (.inr (.inl ⟨rfl, P4⟩)), P1, B0.drew⟩
      clear P4 k4 P1 B0 b6 P2 P3
      go_region
      go_wp2
      go_roundw
      case rel => exact HR.out
      case measure => simp [intOf]
    · have ix : (Instr.index 51 (.agg #[.int .i64 r0, .int .i64 r1, .int .i64 r2, .int .i64 r3, .int .i64 r4, .int .i64 r5, .int .i64 r6, .int .i64 r7, .int .i64 r8, .int .i64 r9, .int .i64 r10, .int .i64 r11]) (.int .i64 2)).run Try.prog wr = .ok (.agg #[.int .i64 r4, .int .i64 r5]) wr := by kernel_rfl
      obtain ⟨u, hu⟩ : ∃ u, wr.heap.size = u := ⟨_, rfl⟩
      have P3 := BlkIs.new wr 50 #[.int .i64 r4, .int .i64 r5]
      have bU : Below wr.heap.size wr (wr.alloc (.cells #[.int .i64 r4, .int .i64 r5] 50)) := (Below.refl _ _).alloc (Nat.le_refl _) _
      obtain ⟨U, hU⟩ : ∃ U, wr.alloc (.cells #[.int .i64 r4, .int .i64 r5] 50) = U := ⟨_, rfl⟩
      rw [hU] at P3 bU
      have HU : Hid (_ = U) := hU
      have HN : Hid (wr.heap.size = u) := hu
      replace P2 := P2.keep bU
      replace P1 := P1.keep bU
      replace B0 := B0.trans (bU.mono B0.size)
      rw [hu] at P3
      clear bU hU hu
      go_upto_region 5 with fail
      rw [HU.out, HN.out]
      clear HU HN ix
      have c0 : U.cell? ⟨u, 0, none⟩ = some (.int .i64 r4) := P3.cell 0
      have c1 : U.cell? ⟨u, 1, none⟩ = some (.int .i64 r5) := P3.cell 1
      have c2 : U.cell? ⟨b, 2, none⟩ = some (.int .i64 x3) := P2.cell 2
      have f2 : U.frozen? ⟨b, 2, none⟩ = false := P2.fz 2
      have P4 := P2.put 2 (.int .i64 (near r4 r5 x3))
      have k4 : Keeps (fun q => q ≠ b) U (U.setCell ⟨b, 2, none⟩ (.int .i64 (near r4 r5 x3))) := keeps_setCell _ _ _ _
      replace P1 := P1.keepK k4 (by intro h; omega)
      replace B0 := B0.trans (k4.belowNe (by omega) B0.size)
      have b6 := (Below.refl U.heap.size (U.setCell ⟨b, 2, none⟩ (.int .i64 (near r4 r5 x3)))).drew
      have HR : Hid (NearAt r0 r1 r2 r3 r4 r5 r6 r7 r8 r9 r10 r11 x1 x2 x3 x4 x5 x6 b (.int .i64 3) (U.setCell ⟨b, 2, none⟩ (.int .i64 (near r4 r5 x3))).drew ∧ BlkIs (U.setCell ⟨b, 2, none⟩ (.int .i64 (near r4 r5 x3))).drew (w.heap.size + 1) 39 #[.int .i64 0, .int .i64 0, .int .i64 0, .int .i64 0, .int .i64 0, .int .i64 0] ∧ Below w.heap.size w (U.setCell ⟨b, 2, none⟩ (.int .i64 (near r4 r5 x3))).drew) :=
        ⟨.inr (.inr (.inr (.inl ⟨rfl, P4⟩))), P1, B0.drew⟩
      clear P4 k4 P1 B0 b6 P2 P3
      go_region
      go_wp2
      go_roundw
      case rel => exact HR.out
      case measure => simp [intOf]
    · have ix : (Instr.index 51 (.agg #[.int .i64 r0, .int .i64 r1, .int .i64 r2, .int .i64 r3, .int .i64 r4, .int .i64 r5, .int .i64 r6, .int .i64 r7, .int .i64 r8, .int .i64 r9, .int .i64 r10, .int .i64 r11]) (.int .i64 3)).run Try.prog wr = .ok (.agg #[.int .i64 r6, .int .i64 r7]) wr := by kernel_rfl
      obtain ⟨u, hu⟩ : ∃ u, wr.heap.size = u := ⟨_, rfl⟩
      have P3 := BlkIs.new wr 50 #[.int .i64 r6, .int .i64 r7]
      have bU : Below wr.heap.size wr (wr.alloc (.cells #[.int .i64 r6, .int .i64 r7] 50)) := (Below.refl _ _).alloc (Nat.le_refl _) _
      obtain ⟨U, hU⟩ : ∃ U, wr.alloc (.cells #[.int .i64 r6, .int .i64 r7] 50) = U := ⟨_, rfl⟩
      rw [hU] at P3 bU
      have HU : Hid (_ = U) := hU
      have HN : Hid (wr.heap.size = u) := hu
      replace P2 := P2.keep bU
      replace P1 := P1.keep bU
      replace B0 := B0.trans (bU.mono B0.size)
      rw [hu] at P3
      clear bU hU hu
      go_upto_region 5 with fail
      rw [HU.out, HN.out]
      clear HU HN ix
      have c0 : U.cell? ⟨u, 0, none⟩ = some (.int .i64 r6) := P3.cell 0
      have c1 : U.cell? ⟨u, 1, none⟩ = some (.int .i64 r7) := P3.cell 1
      have c2 : U.cell? ⟨b, 3, none⟩ = some (.int .i64 x4) := P2.cell 3
      have f2 : U.frozen? ⟨b, 3, none⟩ = false := P2.fz 3
      have P4 := P2.put 3 (.int .i64 (near r6 r7 x4))
      have k4 : Keeps (fun q => q ≠ b) U (U.setCell ⟨b, 3, none⟩ (.int .i64 (near r6 r7 x4))) := keeps_setCell _ _ _ _
      replace P1 := P1.keepK k4 (by intro h; omega)
      replace B0 := B0.trans (k4.belowNe (by omega) B0.size)
      have b6 := (Below.refl U.heap.size (U.setCell ⟨b, 3, none⟩ (.int .i64 (near r6 r7 x4)))).drew
      have HR : Hid (NearAt r0 r1 r2 r3 r4 r5 r6 r7 r8 r9 r10 r11 x1 x2 x3 x4 x5 x6 b (.int .i64 4) (U.setCell ⟨b, 3, none⟩ (.int .i64 (near r6 r7 x4))).drew ∧ BlkIs (U.setCell ⟨b, 3, none⟩ (.int .i64 (near r6 r7 x4))).drew (w.heap.size + 1) 39 #[.int .i64 0, .int .i64 0, .int .i64 0, .int .i64 0, .int .i64 0, .int .i64 0] ∧ Below w.heap.size w (U.setCell ⟨b, 3, none⟩ (.int .i64 (near r6 r7 x4))).drew) :=
        ⟨.inr (.inr (.inr (.inr (.inl ⟨rfl, P4⟩)))), P1, B0.drew⟩
      clear P4 k4 P1 B0 b6 P2 P3
      go_region
      go_wp2
      go_roundw
      case rel => exact HR.out
      case measure => simp [intOf]
    · have ix : (Instr.index 51 (.agg #[.int .i64 r0, .int .i64 r1, .int .i64 r2, .int .i64 r3, .int .i64 r4, .int .i64 r5, .int .i64 r6, .int .i64 r7, .int .i64 r8, .int .i64 r9, .int .i64 r10, .int .i64 r11]) (.int .i64 4)).run Try.prog wr = .ok (.agg #[.int .i64 r8, .int .i64 r9]) wr := by kernel_rfl
      obtain ⟨u, hu⟩ : ∃ u, wr.heap.size = u := ⟨_, rfl⟩
      have P3 := BlkIs.new wr 50 #[.int .i64 r8, .int .i64 r9]
      have bU : Below wr.heap.size wr (wr.alloc (.cells #[.int .i64 r8, .int .i64 r9] 50)) := (Below.refl _ _).alloc (Nat.le_refl _) _
      obtain ⟨U, hU⟩ : ∃ U, wr.alloc (.cells #[.int .i64 r8, .int .i64 r9] 50) = U := ⟨_, rfl⟩
      rw [hU] at P3 bU
      have HU : Hid (_ = U) := hU
      have HN : Hid (wr.heap.size = u) := hu
      replace P2 := P2.keep bU
      replace P1 := P1.keep bU
      replace B0 := B0.trans (bU.mono B0.size)
      rw [hu] at P3
      clear bU hU hu
      go_upto_region 5 with fail
      rw [HU.out, HN.out]
      clear HU HN ix
      have c0 : U.cell? ⟨u, 0, none⟩ = some (.int .i64 r8) := P3.cell 0
      have c1 : U.cell? ⟨u, 1, none⟩ = some (.int .i64 r9) := P3.cell 1
      have c2 : U.cell? ⟨b, 4, none⟩ = some (.int .i64 x5) := P2.cell 4
      have f2 : U.frozen? ⟨b, 4, none⟩ = false := P2.fz 4
      have P4 := P2.put 4 (.int .i64 (near r8 r9 x5))
      have k4 : Keeps (fun q => q ≠ b) U (U.setCell ⟨b, 4, none⟩ (.int .i64 (near r8 r9 x5))) := keeps_setCell _ _ _ _
      replace P1 := P1.keepK k4 (by intro h; omega)
      replace B0 := B0.trans (k4.belowNe (by omega) B0.size)
      have b6 := (Below.refl U.heap.size (U.setCell ⟨b, 4, none⟩ (.int .i64 (near r8 r9 x5)))).drew
      have HR : Hid (NearAt r0 r1 r2 r3 r4 r5 r6 r7 r8 r9 r10 r11 x1 x2 x3 x4 x5 x6 b (.int .i64 5) (U.setCell ⟨b, 4, none⟩ (.int .i64 (near r8 r9 x5))).drew ∧ BlkIs (U.setCell ⟨b, 4, none⟩ (.int .i64 (near r8 r9 x5))).drew (w.heap.size + 1) 39 #[.int .i64 0, .int .i64 0, .int .i64 0, .int .i64 0, .int .i64 0, .int .i64 0] ∧ Below w.heap.size w (U.setCell ⟨b, 4, none⟩ (.int .i64 (near r8 r9 x5))).drew) :=
        ⟨.inr (.inr (.inr (.inr (.inr (.inl ⟨rfl, P4⟩))))), P1, B0.drew⟩
      clear P4 k4 P1 B0 b6 P2 P3
      go_region
      go_wp2
      go_roundw
      case rel => exact HR.out
      case measure => simp [intOf]
    · have ix : (Instr.index 51 (.agg #[.int .i64 r0, .int .i64 r1, .int .i64 r2, .int .i64 r3, .int .i64 r4, .int .i64 r5, .int .i64 r6, .int .i64 r7, .int .i64 r8, .int .i64 r9, .int .i64 r10, .int .i64 r11]) (.int .i64 5)).run Try.prog wr = .ok (.agg #[.int .i64 r10, .int .i64 r11]) wr := by kernel_rfl
      obtain ⟨u, hu⟩ : ∃ u, wr.heap.size = u := ⟨_, rfl⟩
      have P3 := BlkIs.new wr 50 #[.int .i64 r10, .int .i64 r11]
      have bU : Below wr.heap.size wr (wr.alloc (.cells #[.int .i64 r10, .int .i64 r11] 50)) := (Below.refl _ _).alloc (Nat.le_refl _) _
      obtain ⟨U, hU⟩ : ∃ U, wr.alloc (.cells #[.int .i64 r10, .int .i64 r11] 50) = U := ⟨_, rfl⟩
      rw [hU] at P3 bU
      have HU : Hid (_ = U) := hU
      have HN : Hid (wr.heap.size = u) := hu
      replace P2 := P2.keep bU
      replace P1 := P1.keep bU
      replace B0 := B0.trans (bU.mono B0.size)
      rw [hu] at P3
      clear bU hU hu
      go_upto_region 5 with fail
      rw [HU.out, HN.out]
      clear HU HN ix
      have c0 : U.cell? ⟨u, 0, none⟩ = some (.int .i64 r10) := P3.cell 0
      have c1 : U.cell? ⟨u, 1, none⟩ = some (.int .i64 r11) := P3.cell 1
      have c2 : U.cell? ⟨b, 5, none⟩ = some (.int .i64 x6) := P2.cell 5
      have f2 : U.frozen? ⟨b, 5, none⟩ = false := P2.fz 5
      have P4 := P2.put 5 (.int .i64 (near r10 r11 x6))
      have k4 : Keeps (fun q => q ≠ b) U (U.setCell ⟨b, 5, none⟩ (.int .i64 (near r10 r11 x6))) := keeps_setCell _ _ _ _
      replace P1 := P1.keepK k4 (by intro h; omega)
      replace B0 := B0.trans (k4.belowNe (by omega) B0.size)
      have b6 := (Below.refl U.heap.size (U.setCell ⟨b, 5, none⟩ (.int .i64 (near r10 r11 x6)))).drew
      have HR : Hid (NearAt r0 r1 r2 r3 r4 r5 r6 r7 r8 r9 r10 r11 x1 x2 x3 x4 x5 x6 b (.int .i64 6) (U.setCell ⟨b, 5, none⟩ (.int .i64 (near r10 r11 x6))).drew ∧ BlkIs (U.setCell ⟨b, 5, none⟩ (.int .i64 (near r10 r11 x6))).drew (w.heap.size + 1) 39 #[.int .i64 0, .int .i64 0, .int .i64 0, .int .i64 0, .int .i64 0, .int .i64 0] ∧ Below w.heap.size w (U.setCell ⟨b, 5, none⟩ (.int .i64 (near r10 r11 x6))).drew) :=
        ⟨.inr (.inr (.inr (.inr (.inr (.inr (⟨rfl, P4⟩)))))), P1, B0.drew⟩
      clear P4 k4 P1 B0 b6 P2 P3
      go_region
      go_wp2
      go_roundw
      case rel => exact HR.out
      case measure => simp [intOf]
    · have c0 : wr.cell? ⟨b, 0, none⟩ = some (.int .i64 (near r0 r1 x1)) := P2.cell 0
      have c1 : wr.cell? ⟨b, 1, none⟩ = some (.int .i64 (near r2 r3 x2)) := P2.cell 1
      have c2 : wr.cell? ⟨b, 2, none⟩ = some (.int .i64 (near r4 r5 x3)) := P2.cell 2
      have c3 : wr.cell? ⟨b, 3, none⟩ = some (.int .i64 (near r6 r7 x4)) := P2.cell 3
      have c4 : wr.cell? ⟨b, 4, none⟩ = some (.int .i64 (near r8 r9 x5)) := P2.cell 4
      have c5 : wr.cell? ⟨b, 5, none⟩ = some (.int .i64 (near r10 r11 x6)) := P2.cell 5
      clear P2
      go_wp2_with (first | (refine store_blk P1 rfl 39 _ _ rfl rfl rfl (by kernel_rfl) rfl (by kernel_rfl) ?_; intro V PV kk) | fail)
      have bV := B0.trans (kk.belowNe (by omega) B0.size)
      exact bodyPost_ret (results_cell_row Try.results19 _ _ _ _ _ (0, 0) (.array 6 2) rfl PV (by kernel_rfl) rfl (by kernel_rfl)) rfl ⟨rfl, bV⟩
end Go.Proofs.Ytgmdgjkmdnpmiaa
