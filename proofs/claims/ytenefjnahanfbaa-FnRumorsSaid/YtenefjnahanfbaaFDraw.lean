/- A fact of the draws. -/
import Derived.Test.YtenefjnahanfbaaDraw
import Derived.Test.YtenefjnahanfbaaFactTwo
namespace Go.Proofs.Ytenefjnahanfbaa
open Go Go.RowKit
set_option linter.unusedVariables false

theorem BlkIs.grown {w w' : World} {b c t : Nat} {cs : Array Value} (h : BlkIs w b t cs) (hg : w.grownBy w' (some c)) (hne : b ≠ c) : BlkIs w' b t cs := (hg.block b h.lt (fun e => hne (by simpa using e))).trans h
theorem BlkIs.alloc {w : World} {b t : Nat} {cs : Array Value} (h : BlkIs w b t cs) (o : Obj) : BlkIs (w.alloc o) b t cs := h.keep ((Below.refl _ _).alloc (Nat.le_refl _) _)
set_option maxHeartbeats 4000000 in
set_option maxRecDepth 100000 in
theorem factOf_any (b : Nat) (a : Option Addr) (len cap : Nat) (zs : List Int) (w : World) (hs : Src w b a len cap zs) :
    Calls Try.prog 28 #[.pointer (some ⟨b, 0, none⟩)] w fun e w' => ∃ d : FactV, e = .returned d.val ∧ Src w' b a len cap zs ∧ w.grownBy w' (some b) := by
  have hlt := hs.lt
  have hrl := hs.row_lt
  have hs0 := hs.alloc (.cells #[.int .i64 0, .int .i64 0, .int .i64 0] 25)
  have hg0 := World.grownBy_alloc w (.cells #[.int .i64 0, .int .i64 0, .int .i64 0] 25) (some b)
  have R0 := BlkIs.new w 25 #[.int .i64 0, .int .i64 0, .int .i64 0]
  obtain ⟨W, hW⟩ : ∃ W, w.alloc (.cells #[.int .i64 0, .int .i64 0, .int .i64 0] 25) = W := ⟨_, rfl⟩
  rw [hW] at hs0 hg0 R0
  have HW : Hid (w.alloc (.cells #[.int .i64 0, .int .i64 0, .int .i64 0] 25) = W) := hW
  clear hW
  go_enter Try.func28, Try.ntmps28
  go_wp2_with fail
  rw [HW.out]
  clear HW
  refine (n_any b a len cap zs 4 (by omega) _ hs0).mono ?_
  rintro e w1 ⟨r1, rfl, _, hr1, hs1, hg1⟩
  have R1 := R0.grown hg1 (by omega)
  have hgw1 := grown_trans hg0 hg1
  have hr1' := hr1 (by omega)
  have hw1 : IntKind.i64.wrap (1 + r1) = 1 + r1 := by rw [IntKind.wrap_i64]; omega
  clear hs0 hg0 hg1 R0 hr1
  go_wp2_with fail
  refine (n_any b a len cap zs 3 (by omega) _ hs1).mono ?_
  rintro e w2 ⟨r2, rfl, _, _, hs2, hg2⟩
  have R2 := R1.grown hg2 (by omega)
  have hgw2 := grown_trans hgw1 hg2
  clear hs1 hgw1 hg2 R1
  go_wp2_with fail
  refine (n_any b a len cap zs 3 (by omega) _ hs2).mono ?_
  rintro e w3 ⟨r3, rfl, _, hr3, hs3, hg3⟩
  have R3 := R2.grown hg3 (by omega)
  have hgw3 := grown_trans hgw2 hg3
  have hr3' := hr3 (by omega)
  have hw3 : IntKind.i64.wrap (1 + r3) = 1 + r3 := by rw [IntKind.wrap_i64]; omega
  clear hs2 hgw2 hg3 R2 hr3
  have hs6 := hs3.alloc (.cells #[.int .i64 (1 + r1), .int .i64 r2, .int .i64 (1 + r3)] 25)
  have hg6 := grown_alloc hgw3 (.cells #[.int .i64 (1 + r1), .int .i64 r2, .int .i64 (1 + r3)] 25)
  have F6 := BlkIs.new w3 25 #[.int .i64 (1 + r1), .int .i64 r2, .int .i64 (1 + r3)]
  have R6 := R3.alloc (.cells #[.int .i64 (1 + r1), .int .i64 r2, .int .i64 (1 + r3)] 25)
  have hw5 : w.heap.size < w3.heap.size := R3.lt
  obtain ⟨w6, hw6⟩ : ∃ y, w3.alloc (.cells #[.int .i64 (1 + r1), .int .i64 r2, .int .i64 (1 + r3)] 25) = y := ⟨_, rfl⟩
  obtain ⟨kF, hkF⟩ : ∃ k, w3.heap.size = k := ⟨_, rfl⟩
  rw [hw6] at hs6 hg6 F6 R6
  rw [hkF] at F6 hw5
  have HW6 : Hid (_ = w6) := hw6
  have hkb : b < kF := by omega
  have hkw : kF ≠ w.heap.size := by omega
  clear hw6 hs3 hgw3 R3
  go_wp2_with fail
  rw [HW6.out]
  clear HW6 hkF
  refine (one_any b a len cap zs 20 (by omega) _ hs6).mono ?_
  rintro e w7 ⟨o, rfl, hs7, hg77⟩
  have F7 := F6.grown hg77 (by omega)
  have R7 := R6.grown hg77 (by omega)
  have hg7 := grown_trans hg6 hg77
  clear hs6 hg6 hg77 F6 R6
  cases o with
  | false =>
    have d0 := F7.cell 0
    have d1 := F7.cell 1
    have d2 := F7.cell 2
    have e0 := R7.cell 0
    have e1 := R7.cell 1
    have e2 := R7.cell 2
    have z0 := R7.fz 0
    have z1 := R7.fz 1
    have z2 := R7.fz 2
    go_wp2
    have Q := fact_put R7 (1 + r1) r2 (1 + r3)
    have KZ : w7.grownBy (((w7.setCell ⟨w.heap.size, 0, none⟩ (.int .i64 (1 + r1))).setCell ⟨w.heap.size, 1, none⟩ (.int .i64 r2)).setCell ⟨w.heap.size, 2, none⟩ (.int .i64 (1 + r3))) (some w.heap.size) := grown_trans (grown_trans (grown_set _ _ _ _) (grown_set _ _ _ _)) (grown_set _ _ _ _)
    have BZ : Below w.heap.size w7 (((w7.setCell ⟨w.heap.size, 0, none⟩ (.int .i64 (1 + r1))).setCell ⟨w.heap.size, 1, none⟩ (.int .i64 r2)).setCell ⟨w.heap.size, 2, none⟩ (.int .i64 (1 + r3))) := (((Below.refl _ _).setCell (p := ⟨w.heap.size, 0, none⟩) (Nat.le_refl _) _).setCell (p := ⟨w.heap.size, 1, none⟩) (Nat.le_refl _) _).setCell (p := ⟨w.heap.size, 2, none⟩) (Nat.le_refl _) _
    obtain ⟨z6, hz6⟩ : ∃ z6, (((w7.setCell ⟨w.heap.size, 0, none⟩ (.int .i64 (1 + r1))).setCell ⟨w.heap.size, 1, none⟩ (.int .i64 r2)).setCell ⟨w.heap.size, 2, none⟩ (.int .i64 (1 + r3))) = z6 := ⟨_, rfl⟩
    rw [hz6] at Q KZ BZ ⊢
    have q0 := Q.cell 0
    have q1 := Q.cell 1
    have q2 := Q.cell 2
    refine bodyPost_ret (v := FactV.val ⟨(1 + r1), r2, (1 + r3)⟩) (by simp [results, Try.results28, go_sem, FactV.val, q0, q1, q2]) rfl ?_
    exact ⟨⟨(1 + r1), r2, (1 + r3)⟩, rfl, hs7.keep BZ hlt hrl, grown_own hg7 KZ (fun g hg => by obtain rfl := Option.some.inj hg; exact Nat.le_refl _)⟩
  | true =>
    go_wp2_with fail
    refine (n_any b a len cap zs 3 (by omega) _ hs7).mono ?_
    rintro e w8 ⟨r8, rfl, _, hr8, hs8, hg88⟩
    have F8 := F7.grown hg88 (by omega)
    have R8 := R7.grown hg88 (by omega)
    have hg8 := grown_trans hg7 hg88
    clear hs7 hg7 hg88 F7 R7 hr8
    by_cases h0 : r8 = 0
    · have h0' : (r8 == 0) = true := beq_iff_eq.2 h0
      subst h0
      have hsA := hs8.alloc (.cells #[.int .i64 0, .int .i64 6, .int .i64 7] 2)
      have hgA := grown_alloc hg8 (.cells #[.int .i64 0, .int .i64 6, .int .i64 7] 2)
      have PA := BlkIs.new w8 2 #[.int .i64 0, .int .i64 6, .int .i64 7]
      have RA := R8.alloc (.cells #[.int .i64 0, .int .i64 6, .int .i64 7] 2)
      have FA := F8.alloc (.cells #[.int .i64 0, .int .i64 6, .int .i64 7] 2)
      have hlA := F8.lt
      go_wp2_with fail
      refine (n_any b a len cap zs 3 (by omega) _ hsA).mono ?_
      rintro e w9 ⟨r9, rfl, _, hr9, hs9, hg9⟩
      have P9 := PA.grown hg9 (by omega)
      have R9 := RA.grown hg9 (by omega)
      have F9 := FA.grown hg9 (by omega)
      have hgg := grown_trans hgA hg9
      have hr9' := hr9 (by omega)
      obtain ⟨q9, rfl⟩ := Int.eq_ofNat_of_zero_le hr9'.1
      have hq9 : q9 < 3 := by omega
      have hq9I : (q9 : Int) < 3 := by omega
      obtain ⟨x, hx⟩ : ∃ x : Int, w9.cell? ⟨w8.heap.size, q9, none⟩ = some (.int .i64 x) := by
        rw [P9.cell]
        match q9, hq9 with
        | 0, _ => exact ⟨_, rfl⟩
        | 1, _ => exact ⟨_, rfl⟩
        | 2, _ => exact ⟨_, rfl⟩
      have c0 := F9.cell 0
      have y0 := F9.fz 0
      clear hsA hgA PA RA FA hg9 hr9 hr9' hs8 hg8 R8 F8
      have F10 : BlkIs (w9.setCell ⟨kF, 0, none⟩ (.int .i64 x)) kF 25 #[.int .i64 x, .int .i64 r2, .int .i64 (1 + r3)] := by
        have := F9.put 0 (.int .i64 x)
        simpa using this
      have R10 : BlkIs (w9.setCell ⟨kF, 0, none⟩ (.int .i64 x)) w.heap.size 25 #[.int .i64 0, .int .i64 0, .int .i64 0] := R9.grown (grown_set _ _ _ _) hkw.symm
      have hs10 : Src (w9.setCell ⟨kF, 0, none⟩ (.int .i64 x)) b a len cap zs := hs9.keep (B := kF) ((Below.refl _ _).setCell (p := ⟨kF, 0, none⟩) (Nat.le_refl _) _) hkb (fun h x hx => by have := hrl h x hx; omega)
      have hg10 : w.grownBy (w9.setCell ⟨kF, 0, none⟩ (.int .i64 x)) (some b) := grown_own hgg (grown_set _ _ _ _) (fun g hg => by obtain rfl := Option.some.inj hg; omega)
      clear F9 R9 hs9 hgg P9
      go_upto_region 9 with fail
      obtain ⟨w11, hw11⟩ : ∃ y, (w9.setCell ⟨kF, 0, none⟩ (.int .i64 x)) = y := ⟨_, rfl⟩
      rw [hw11] at F10 R10 hs10 hg10 ⊢
      clear hw11 c0 y0 hx
      have d0 := F10.cell 0
      have d1 := F10.cell 1
      have d2 := F10.cell 2
      have e0 := R10.cell 0
      have e1 := R10.cell 1
      have e2 := R10.cell 2
      have z0 := R10.fz 0
      have z1 := R10.fz 1
      have z2 := R10.fz 2
      go_wp2
      have Q := fact_put R10 x r2 (1 + r3)
      have KZ : w11.grownBy (((w11.setCell ⟨w.heap.size, 0, none⟩ (.int .i64 x)).setCell ⟨w.heap.size, 1, none⟩ (.int .i64 r2)).setCell ⟨w.heap.size, 2, none⟩ (.int .i64 (1 + r3))) (some w.heap.size) := grown_trans (grown_trans (grown_set _ _ _ _) (grown_set _ _ _ _)) (grown_set _ _ _ _)
      have BZ : Below w.heap.size w11 (((w11.setCell ⟨w.heap.size, 0, none⟩ (.int .i64 x)).setCell ⟨w.heap.size, 1, none⟩ (.int .i64 r2)).setCell ⟨w.heap.size, 2, none⟩ (.int .i64 (1 + r3))) := (((Below.refl _ _).setCell (p := ⟨w.heap.size, 0, none⟩) (Nat.le_refl _) _).setCell (p := ⟨w.heap.size, 1, none⟩) (Nat.le_refl _) _).setCell (p := ⟨w.heap.size, 2, none⟩) (Nat.le_refl _) _
      obtain ⟨z6, hz6⟩ : ∃ z6, (((w11.setCell ⟨w.heap.size, 0, none⟩ (.int .i64 x)).setCell ⟨w.heap.size, 1, none⟩ (.int .i64 r2)).setCell ⟨w.heap.size, 2, none⟩ (.int .i64 (1 + r3))) = z6 := ⟨_, rfl⟩
      rw [hz6] at Q KZ BZ ⊢
      have q0 := Q.cell 0
      have q1 := Q.cell 1
      have q2 := Q.cell 2
      refine bodyPost_ret (v := FactV.val ⟨x, r2, (1 + r3)⟩) (by simp [results, Try.results28, go_sem, FactV.val, q0, q1, q2]) rfl ?_
      exact ⟨⟨x, r2, (1 + r3)⟩, rfl, hs10.keep BZ hlt hrl, grown_own hg10 KZ (fun g hg => by obtain rfl := Option.some.inj hg; exact Nat.le_refl _)⟩
    · have h0' : (r8 == 0) = false := beq_eq_false_iff_ne.2 h0
      by_cases h1 : r8 = 1
      · have h1' : (r8 == 1) = true := beq_iff_eq.2 h1
        subst h1
        have hsA := hs8.alloc (.cells #[.int .i64 (-1), .int .i64 1000000, .int .i64 1000001] 2)
        have hgA := grown_alloc hg8 (.cells #[.int .i64 (-1), .int .i64 1000000, .int .i64 1000001] 2)
        have PA := BlkIs.new w8 2 #[.int .i64 (-1), .int .i64 1000000, .int .i64 1000001]
        have RA := R8.alloc (.cells #[.int .i64 (-1), .int .i64 1000000, .int .i64 1000001] 2)
        have FA := F8.alloc (.cells #[.int .i64 (-1), .int .i64 1000000, .int .i64 1000001] 2)
        have hlA := F8.lt
        go_wp2_with fail
        refine (n_any b a len cap zs 3 (by omega) _ hsA).mono ?_
        rintro e w9 ⟨r9, rfl, _, hr9, hs9, hg9⟩
        have P9 := PA.grown hg9 (by omega)
        have R9 := RA.grown hg9 (by omega)
        have F9 := FA.grown hg9 (by omega)
        have hgg := grown_trans hgA hg9
        have hr9' := hr9 (by omega)
        obtain ⟨q9, rfl⟩ := Int.eq_ofNat_of_zero_le hr9'.1
        have hq9 : q9 < 3 := by omega
        have hq9I : (q9 : Int) < 3 := by omega
        obtain ⟨x, hx⟩ : ∃ x : Int, w9.cell? ⟨w8.heap.size, q9, none⟩ = some (.int .i64 x) := by
          rw [P9.cell]
          match q9, hq9 with
          | 0, _ => exact ⟨_, rfl⟩
          | 1, _ => exact ⟨_, rfl⟩
          | 2, _ => exact ⟨_, rfl⟩
        have c0 := F9.cell 1
        have y0 := F9.fz 1
        clear hsA hgA PA RA FA hg9 hr9 hr9' hs8 hg8 R8 F8
        have F10 : BlkIs (w9.setCell ⟨kF, 1, none⟩ (.int .i64 x)) kF 25 #[.int .i64 (1 + r1), .int .i64 x, .int .i64 (1 + r3)] := by
          have := F9.put 1 (.int .i64 x)
          simpa using this
        have R10 : BlkIs (w9.setCell ⟨kF, 1, none⟩ (.int .i64 x)) w.heap.size 25 #[.int .i64 0, .int .i64 0, .int .i64 0] := R9.grown (grown_set _ _ _ _) hkw.symm
        have hs10 : Src (w9.setCell ⟨kF, 1, none⟩ (.int .i64 x)) b a len cap zs := hs9.keep (B := kF) ((Below.refl _ _).setCell (p := ⟨kF, 1, none⟩) (Nat.le_refl _) _) hkb (fun h x hx => by have := hrl h x hx; omega)
        have hg10 : w.grownBy (w9.setCell ⟨kF, 1, none⟩ (.int .i64 x)) (some b) := grown_own hgg (grown_set _ _ _ _) (fun g hg => by obtain rfl := Option.some.inj hg; omega)
        clear F9 R9 hs9 hgg P9
        go_upto_region 9 with fail
        obtain ⟨w11, hw11⟩ : ∃ y, (w9.setCell ⟨kF, 1, none⟩ (.int .i64 x)) = y := ⟨_, rfl⟩
        rw [hw11] at F10 R10 hs10 hg10 ⊢
        clear hw11 c0 y0 hx
        have d0 := F10.cell 0
        have d1 := F10.cell 1
        have d2 := F10.cell 2
        have e0 := R10.cell 0
        have e1 := R10.cell 1
        have e2 := R10.cell 2
        have z0 := R10.fz 0
        have z1 := R10.fz 1
        have z2 := R10.fz 2
        go_wp2
        have Q := fact_put R10 (1 + r1) x (1 + r3)
        have KZ : w11.grownBy (((w11.setCell ⟨w.heap.size, 0, none⟩ (.int .i64 (1 + r1))).setCell ⟨w.heap.size, 1, none⟩ (.int .i64 x)).setCell ⟨w.heap.size, 2, none⟩ (.int .i64 (1 + r3))) (some w.heap.size) := grown_trans (grown_trans (grown_set _ _ _ _) (grown_set _ _ _ _)) (grown_set _ _ _ _)
        have BZ : Below w.heap.size w11 (((w11.setCell ⟨w.heap.size, 0, none⟩ (.int .i64 (1 + r1))).setCell ⟨w.heap.size, 1, none⟩ (.int .i64 x)).setCell ⟨w.heap.size, 2, none⟩ (.int .i64 (1 + r3))) := (((Below.refl _ _).setCell (p := ⟨w.heap.size, 0, none⟩) (Nat.le_refl _) _).setCell (p := ⟨w.heap.size, 1, none⟩) (Nat.le_refl _) _).setCell (p := ⟨w.heap.size, 2, none⟩) (Nat.le_refl _) _
        obtain ⟨z6, hz6⟩ : ∃ z6, (((w11.setCell ⟨w.heap.size, 0, none⟩ (.int .i64 (1 + r1))).setCell ⟨w.heap.size, 1, none⟩ (.int .i64 x)).setCell ⟨w.heap.size, 2, none⟩ (.int .i64 (1 + r3))) = z6 := ⟨_, rfl⟩
        rw [hz6] at Q KZ BZ ⊢
        have q0 := Q.cell 0
        have q1 := Q.cell 1
        have q2 := Q.cell 2
        refine bodyPost_ret (v := FactV.val ⟨(1 + r1), x, (1 + r3)⟩) (by simp [results, Try.results28, go_sem, FactV.val, q0, q1, q2]) rfl ?_
        exact ⟨⟨(1 + r1), x, (1 + r3)⟩, rfl, hs10.keep BZ hlt hrl, grown_own hg10 KZ (fun g hg => by obtain rfl := Option.some.inj hg; exact Nat.le_refl _)⟩
      · have h1' : (r8 == 1) = false := beq_eq_false_iff_ne.2 h1
        go_wp2_with fail
        refine (n_any b a len cap zs 5 (by omega) _ hs8).mono ?_
        rintro e w9 ⟨x, rfl, _, _, hs9, hg9⟩
        have R9 := R8.grown hg9 (by omega)
        have F9 := F8.grown hg9 (by omega)
        have hgg := grown_trans hg8 hg9
        have c0 := F9.cell 2
        have y0 := F9.fz 2
        clear hs8 hg8 R8 F8 hg9
        have F10 : BlkIs (w9.setCell ⟨kF, 2, none⟩ (.int .i64 x)) kF 25 #[.int .i64 (1 + r1), .int .i64 r2, .int .i64 x] := by
          have := F9.put 2 (.int .i64 x)
          simpa using this
        have R10 : BlkIs (w9.setCell ⟨kF, 2, none⟩ (.int .i64 x)) w.heap.size 25 #[.int .i64 0, .int .i64 0, .int .i64 0] := R9.grown (grown_set _ _ _ _) hkw.symm
        have hs10 : Src (w9.setCell ⟨kF, 2, none⟩ (.int .i64 x)) b a len cap zs := hs9.keep (B := kF) ((Below.refl _ _).setCell (p := ⟨kF, 2, none⟩) (Nat.le_refl _) _) hkb (fun h x hx => by have := hrl h x hx; omega)
        have hg10 : w.grownBy (w9.setCell ⟨kF, 2, none⟩ (.int .i64 x)) (some b) := grown_own hgg (grown_set _ _ _ _) (fun g hg => by obtain rfl := Option.some.inj hg; omega)
        clear F9 R9 hs9 hgg
        go_upto_region 9 with fail
        obtain ⟨w11, hw11⟩ : ∃ y, w9.setCell ⟨kF, 2, none⟩ (.int .i64 x) = y := ⟨_, rfl⟩
        rw [hw11] at F10 R10 hs10 hg10 ⊢
        clear hw11 c0 y0
        have d0 := F10.cell 0
        have d1 := F10.cell 1
        have d2 := F10.cell 2
        have e0 := R10.cell 0
        have e1 := R10.cell 1
        have e2 := R10.cell 2
        have z0 := R10.fz 0
        have z1 := R10.fz 1
        have z2 := R10.fz 2
        go_wp2
        have Q := fact_put R10 (1 + r1) r2 x
        have KZ : w11.grownBy (((w11.setCell ⟨w.heap.size, 0, none⟩ (.int .i64 (1 + r1))).setCell ⟨w.heap.size, 1, none⟩ (.int .i64 r2)).setCell ⟨w.heap.size, 2, none⟩ (.int .i64 x)) (some w.heap.size) := grown_trans (grown_trans (grown_set _ _ _ _) (grown_set _ _ _ _)) (grown_set _ _ _ _)
        have BZ : Below w.heap.size w11 (((w11.setCell ⟨w.heap.size, 0, none⟩ (.int .i64 (1 + r1))).setCell ⟨w.heap.size, 1, none⟩ (.int .i64 r2)).setCell ⟨w.heap.size, 2, none⟩ (.int .i64 x)) := (((Below.refl _ _).setCell (p := ⟨w.heap.size, 0, none⟩) (Nat.le_refl _) _).setCell (p := ⟨w.heap.size, 1, none⟩) (Nat.le_refl _) _).setCell (p := ⟨w.heap.size, 2, none⟩) (Nat.le_refl _) _
        obtain ⟨z6, hz6⟩ : ∃ z6, (((w11.setCell ⟨w.heap.size, 0, none⟩ (.int .i64 (1 + r1))).setCell ⟨w.heap.size, 1, none⟩ (.int .i64 r2)).setCell ⟨w.heap.size, 2, none⟩ (.int .i64 x)) = z6 := ⟨_, rfl⟩
        rw [hz6] at Q KZ BZ ⊢
        have q0 := Q.cell 0
        have q1 := Q.cell 1
        have q2 := Q.cell 2
        refine bodyPost_ret (v := FactV.val ⟨(1 + r1), r2, x⟩) (by simp [results, Try.results28, go_sem, FactV.val, q0, q1, q2]) rfl ?_
        exact ⟨⟨(1 + r1), r2, x⟩, rfl, hs10.keep BZ hlt hrl, grown_own hg10 KZ (fun g hg => by obtain rfl := Option.some.inj hg; exact Nat.le_refl _)⟩
end Go.Proofs.Ytenefjnahanfbaa
