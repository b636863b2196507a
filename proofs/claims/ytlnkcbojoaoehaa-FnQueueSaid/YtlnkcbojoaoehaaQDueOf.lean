/- A Due of the draws. -/
import Derived.Test.YtlnkcbojoaoehaaDraw
import Derived.Test.YtlnkcbojoaoehaaQSpecPutQ
namespace Go.Proofs.Ytlnkcbojoaoehaa
open Go Go.RowKit
set_option linter.unusedVariables false

/-- A block of a Due, known whole. -/
def DBlk (w : World) (b : Nat) (v0 v1 v2 v3 : Value) : Prop := w.heap[b]? = some (.cells #[v0, v1, v2, v3] 25 (0, 0))
theorem DBlk.lt {w : World} {b : Nat} {v0 v1 v2 v3 : Value} (h : DBlk w b v0 v1 v2 v3) : b < w.heap.size := (Array.getElem?_eq_some_iff.1 h).1
theorem DBlk.cells {w : World} {b : Nat} {v0 v1 v2 v3 : Value} (h : DBlk w b v0 v1 v2 v3) : w.cell? ⟨b, 0, none⟩ = some v0 ∧ w.cell? ⟨b, 1, none⟩ = some v1 ∧ w.cell? ⟨b, 2, none⟩ = some v2 ∧ w.cell? ⟨b, 3, none⟩ = some v3 := by
  simp [World.cell?, show w.heap[b]? = _ from h]
theorem DBlk.fz {w : World} {b : Nat} {v0 v1 v2 v3 : Value} (h : DBlk w b v0 v1 v2 v3) (j : Nat) : w.frozen? ⟨b, j, none⟩ = false := by simp [World.frozen?, show w.heap[b]? = _ from h]
theorem DBlk.grown {w w' : World} {b c : Nat} {v0 v1 v2 v3 : Value} (h : DBlk w b v0 v1 v2 v3) (hg : w.grownBy w' (some c)) (hne : b ≠ c) : DBlk w' b v0 v1 v2 v3 := (hg.block b h.lt (fun e => hne (by simpa using e))).trans h
theorem DBlk.alloc {w : World} {b : Nat} {v0 v1 v2 v3 : Value} (h : DBlk w b v0 v1 v2 v3) (o : Obj) : DBlk (w.alloc o) b v0 v1 v2 v3 := (Below.heap_alloc _ _ _ h.lt).trans h
theorem DBlk.new (w : World) (v0 v1 v2 v3 : Value) : DBlk (w.alloc (.cells #[v0, v1, v2, v3] 25)) w.heap.size v0 v1 v2 v3 := heap_alloc_new w _
theorem DBlk.set0 {w : World} {b : Nat} {v0 v1 v2 v3 : Value} (h : DBlk w b v0 v1 v2 v3) (u : Value) : DBlk (w.setCell ⟨b, 0, none⟩ u) b u v1 v2 v3 := by simpa [DBlk] using heap_setCell_same w b 0 _ _ u h
theorem DBlk.set1 {w : World} {b : Nat} {v0 v1 v2 v3 : Value} (h : DBlk w b v0 v1 v2 v3) (u : Value) : DBlk (w.setCell ⟨b, 1, none⟩ u) b v0 u v2 v3 := by simpa [DBlk] using heap_setCell_same w b 1 _ _ u h
theorem DBlk.set2 {w : World} {b : Nat} {v0 v1 v2 v3 : Value} (h : DBlk w b v0 v1 v2 v3) (u : Value) : DBlk (w.setCell ⟨b, 2, none⟩ u) b v0 v1 u v3 := by simpa [DBlk] using heap_setCell_same w b 2 _ _ u h
theorem DBlk.set3 {w : World} {b : Nat} {v0 v1 v2 v3 : Value} (h : DBlk w b v0 v1 v2 v3) (u : Value) : DBlk (w.setCell ⟨b, 3, none⟩ u) b v0 v1 v2 u := by simpa [DBlk] using heap_setCell_same w b 3 _ _ u h
theorem DBlk.setOther {w : World} {b : Nat} {v0 v1 v2 v3 : Value} (h : DBlk w b v0 v1 v2 v3) (c i : Nat) (u : Value) (hne : b ≠ c) : DBlk (w.setCell ⟨c, i, none⟩ u) b v0 v1 v2 v3 := h.grown (grown_set w c i u) hne
theorem DBlk.four {w : World} {b : Nat} {v0 v1 v2 v3 : Value} (h : DBlk w b v0 v1 v2 v3) (u0 u1 u2 u3 : Value) : DBlk ((((w.setCell ⟨b, 0, none⟩ u0).setCell ⟨b, 1, none⟩ u1).setCell ⟨b, 2, none⟩ u2).setCell ⟨b, 3, none⟩ u3) b u0 u1 u2 u3 := (((h.set0 u0).set1 u1).set2 u2).set3 u3
theorem grown_four (w : World) (b : Nat) (u0 u1 u2 u3 : Value) : w.grownBy ((((w.setCell ⟨b, 0, none⟩ u0).setCell ⟨b, 1, none⟩ u1).setCell ⟨b, 2, none⟩ u2).setCell ⟨b, 3, none⟩ u3) (some b) :=
  grown_trans (grown_trans (grown_trans (grown_set w b 0 u0) (grown_set _ b 1 u1)) (grown_set _ b 2 u2)) (grown_set _ b 3 u3)
theorem below_one {B : Nat} (w : World) (b i : Nat) (u : Value) (hb : B ≤ b) : Below B w (w.setCell ⟨b, i, none⟩ u) := (Below.refl _ _).setCell hb _
theorem below_four (w : World) (b : Nat) (u0 u1 u2 u3 : Value) : Below b w ((((w.setCell ⟨b, 0, none⟩ u0).setCell ⟨b, 1, none⟩ u1).setCell ⟨b, 2, none⟩ u2).setCell ⟨b, 3, none⟩ u3) :=
  ((((Below.refl b w).setCell (p := ⟨b, 0, none⟩) (Nat.le_refl _) _).setCell (p := ⟨b, 1, none⟩) (Nat.le_refl _) _).setCell (p := ⟨b, 2, none⟩) (Nat.le_refl _) _).setCell (p := ⟨b, 3, none⟩) (Nat.le_refl _) _
set_option maxHeartbeats 2000000 in
set_option maxRecDepth 100000 in
theorem dueOf_any (b : Nat) (a : Option Addr) (len cap : Nat) (zs : List Int) (w : World) (hs : Src w b a len cap zs) :
    Calls Try.prog 32 #[.pointer (some ⟨b, 0, none⟩)] w fun e w' =>
      ∃ d : DueV, e = .returned d.val ∧ d.text.size ≤ 1000 ∧ Src w' b a len cap zs ∧ w.grownBy w' (some b) := by
  have hlt := hs.lt
  have hrl := hs.row_lt
  have hs0 := hs.alloc (.cells #[.int .i64 0, .int .i64 0, .int .i64 0, .string ⟨#[]⟩] 25)
  have hg0 := World.grownBy_alloc w (.cells #[.int .i64 0, .int .i64 0, .int .i64 0, .string ⟨#[]⟩] 25) (some b)
  have R0 := DBlk.new w (.int .i64 0) (.int .i64 0) (.int .i64 0) (.string ⟨#[]⟩)
  obtain ⟨W, hW⟩ : ∃ W, w.alloc (.cells #[.int .i64 0, .int .i64 0, .int .i64 0, .string ⟨#[]⟩] 25) = W := ⟨_, rfl⟩
  rw [hW] at hs0 hg0 R0
  have HW : Hid (w.alloc (.cells #[.int .i64 0, .int .i64 0, .int .i64 0, .string ⟨#[]⟩] 25) = W) := hW
  clear hW
  go_enter Try.func32, Try.ntmps32
  go_wp2_with fail
  rw [HW.out]
  clear HW
  refine (n_any b a len cap zs 6 (by omega) _ hs0).mono ?_
  rintro e w1 ⟨r1, rfl, _, _, hs1, hg1⟩
  have R1 := R0.grown hg1 (by omega)
  have hgw1 := grown_trans hg0 hg1
  clear hs0 hg0 hg1 R0
  go_wp2_with fail
  refine (n_any b a len cap zs 9 (by omega) _ hs1).mono ?_
  rintro e w2 ⟨r2, rfl, _, _, hs2, hg2⟩
  have R2 := R1.grown hg2 (by omega)
  have hgw2 := grown_trans hgw1 hg2
  clear hs1 hgw1 hg2 R1
  go_wp2_with fail
  refine (n_any b a len cap zs 4 (by omega) _ hs2).mono ?_
  rintro e w3 ⟨r3, rfl, _, _, hs3, hg3⟩
  have R3 := R2.grown hg3 (by omega)
  have hgw3 := grown_trans hgw2 hg3
  clear hs2 hgw2 hg3 R2
  go_wp2_with fail
  refine (n_any b a len cap zs 3 (by omega) _ hs3).mono ?_
  rintro e w4 ⟨q4, rfl, _, hq4, hs4, hg4⟩
  have R4 := R3.grown hg4 (by omega)
  have hgw4 := grown_trans hgw3 hg4
  obtain ⟨k, rfl⟩ := Int.eq_ofNat_of_zero_le (hq4 (by omega)).1
  have hk : k ≤ 1000 := by have := (hq4 (by omega)).2; omega
  clear hs3 hgw3 hg4 R3 hq4
  go_wp2_with fail
  refine (bytes_any b a len cap zs k hk _ hs4).mono ?_
  rintro e w5 ⟨tx, rfl, htl, hs5, hg5⟩
  have hts : (⟨tx.toArray⟩ : ByteArray).size ≤ 1000 := by show tx.toArray.size ≤ 1000; simp; omega
  have R5 := R4.grown hg5 (by omega)
  have hgw5 := grown_trans hgw4 hg5
  clear hs4 hgw4 hg5 R4 htl hk
  have hs6 := hs5.alloc (.cells #[.int .i64 r1, .int .i64 r2, .int .i64 r3, .string ⟨tx.toArray⟩] 25)
  have hg6 := grown_alloc hgw5 (.cells #[.int .i64 r1, .int .i64 r2, .int .i64 r3, .string ⟨tx.toArray⟩] 25)
  have D6 := DBlk.new w5 (.int .i64 r1) (.int .i64 r2) (.int .i64 r3) (.string ⟨tx.toArray⟩)
  have R6 := R5.alloc (.cells #[.int .i64 r1, .int .i64 r2, .int .i64 r3, .string ⟨tx.toArray⟩] 25)
  have hw5 : w.heap.size < w5.heap.size := R5.lt
  obtain ⟨w6, hw6⟩ : ∃ y, w5.alloc (.cells #[.int .i64 r1, .int .i64 r2, .int .i64 r3, .string ⟨tx.toArray⟩] 25) = y := ⟨_, rfl⟩
  rw [hw6] at hs6 hg6 D6 R6
  have HW6 : Hid (w5.alloc (.cells #[.int .i64 r1, .int .i64 r2, .int .i64 r3, .string ⟨tx.toArray⟩] 25) = w6) := hw6
  clear hw6 hs5 hgw5 R5
  go_wp2_with fail
  rw [HW6.out]
  clear HW6
  refine (one_any b a len cap zs 15 (by omega) _ hs6).mono ?_
  rintro e w61 ⟨o, rfl, hs61, hg61⟩
  have D61 := D6.grown hg61 (by omega)
  have R61 := R6.grown hg61 (by omega)
  have hgw61 := grown_trans hg6 hg61
  clear hs6 hg6 hg61 D6 R6
  cases o with
  | false =>
    obtain ⟨c0, c1, c2, c3⟩ := D61.cells
    have f0 := R61.fz 0
    have f1 := R61.fz 1
    have f2 := R61.fz 2
    have f3 := R61.fz 3
    obtain ⟨r0, r1', r2', r3'⟩ := R61.cells
    go_wp2
    have KZ := grown_four w61 w.heap.size (.int .i64 r1) (.int .i64 r2) (.int .i64 r3) (.string ⟨tx.toArray⟩)
    have BZ := below_four w61 w.heap.size (.int .i64 r1) (.int .i64 r2) (.int .i64 r3) (.string ⟨tx.toArray⟩)
    have H4 := R61.four (.int .i64 r1) (.int .i64 r2) (.int .i64 r3) (.string ⟨tx.toArray⟩)
    obtain ⟨z6, hz6⟩ : ∃ z6, ((((w61.setCell ⟨w.heap.size, 0, none⟩ (.int .i64 r1)).setCell ⟨w.heap.size, 1, none⟩ (.int .i64 r2)).setCell ⟨w.heap.size, 2, none⟩ (.int .i64 r3)).setCell ⟨w.heap.size, 3, none⟩ (.string ⟨tx.toArray⟩)) = z6 := ⟨_, rfl⟩
    rw [hz6] at KZ H4 BZ ⊢
    clear hz6 c0 c1 c2 c3
    obtain ⟨q0, q1, q2, q3⟩ := H4.cells
    refine bodyPost_ret (v := DueV.val ⟨r1, r2, r3, ⟨tx.toArray⟩⟩) (by simp [results, Try.results32, go_sem, DueV.val, q0, q1, q2, q3]) rfl ?_
    exact ⟨⟨r1, r2, r3, ⟨tx.toArray⟩⟩, rfl, hts, hs61.keep BZ hlt hrl, grown_own hgw61 KZ (fun g hg => by obtain rfl := Option.some.inj hg; exact Nat.le_refl _)⟩
  | true =>
    go_wp2_with fail
    refine (n_any b a len cap zs 4 (by omega) _ hs61).mono ?_
    rintro e w7 ⟨q7, rfl, _, hq7, hs7, hg77⟩
    have D7 := D61.grown hg77 (by omega)
    have R7 := R61.grown hg77 (by omega)
    have hg7 := grown_trans hgw61 hg77
    have h4 : q7 = 0 ∨ q7 = 1 ∨ q7 = 2 ∨ q7 = 3 := by have := hq7 (by omega); omega
    clear hs61 hgw61 hg77 D61 R61 hq7
    rcases h4 with rfl | rfl | rfl | rfl
    · have hs8 := hs7.alloc (.cells #[.int .i64 (-1), .int .i64 (1000000), .int .i64 (1000001)] 2)
      have hg8 := grown_alloc hg7 (.cells #[.int .i64 (-1), .int .i64 (1000000), .int .i64 (1000001)] 2)
      have D8 := D7.alloc (.cells #[.int .i64 (-1), .int .i64 (1000000), .int .i64 (1000001)] 2)
      have R8 := R7.alloc (.cells #[.int .i64 (-1), .int .i64 (1000000), .int .i64 (1000001)] 2)
      have hcv0 : ∀ j : Nat, j < 3 → ∃ v : Int, (w7.alloc (.cells #[.int .i64 (-1), .int .i64 (1000000), .int .i64 (1000001)] 2)).cell? ⟨w7.heap.size, j, none⟩ = some (.int .i64 v) := fun j hj => by
        rw [World.cell?_alloc_at _ _ _ _ rfl]
        match j, hj with
        | 0, _ => exact ⟨_, rfl⟩
        | 1, _ => exact ⟨_, rfl⟩
        | 2, _ => exact ⟨_, rfl⟩
      have hw7 : w.heap.size ≤ w7.heap.size := hg7.size
      clear hs7 hg7 D7 R7
      go_wp2_with fail
      refine (n_any b a len cap zs 3 (by omega) _ hs8).mono ?_
      rintro e w9 ⟨q, rfl, _, hq, hs9, hg9⟩
      obtain ⟨j, rfl⟩ := Int.eq_ofNat_of_zero_le (hq (by omega)).1
      have hj : j < 3 := by have := (hq (by omega)).2; omega
      obtain ⟨v, hv⟩ := hcv0 j hj
      have hcv : w9.cell? ⟨w7.heap.size, j, none⟩ = some (.int .i64 v) := hg9.cell hv (by simp; omega)
      have hj' : (j : Int) < 3 := by omega
      have D9 := D8.grown hg9 (by omega)
      have R9 := R8.grown hg9 (by omega)
      have hgw9 := grown_trans hg8 hg9
      have fd := D9.fz 0
      clear hq hs8 hg8 hg9 D8 R8 hv hcv0 hj
      obtain ⟨d0', d1', d2', d3'⟩ := D9.cells
      go_upto_region 11 with fail
      have D10 := D9.set0 (.int .i64 v)
      have R10 := R9.setOther w5.heap.size 0 (.int .i64 v) (by omega)
      have hs10 := hs9.keep (below_one (B := w.heap.size) w9 w5.heap.size 0 (.int .i64 v) (by omega)) hlt hrl
      have hg10 : w.grownBy (w9.setCell ⟨w5.heap.size, 0, none⟩ (.int .i64 v)) (some b) := grown_own hgw9 (grown_set w9 w5.heap.size 0 (.int .i64 v)) (fun g hg => by obtain rfl := Option.some.inj hg; omega)
      obtain ⟨w10, hw10⟩ : ∃ y, w9.setCell ⟨w5.heap.size, 0, none⟩ (.int .i64 v) = y := ⟨_, rfl⟩
      rw [hw10] at D10 R10 hs10 hg10 ⊢
      clear hw10 D9 R9 hs9 hgw9 hcv fd d0' d1' d2' d3'
      obtain ⟨c0, c1, c2, c3⟩ := D10.cells
      have f0 := R10.fz 0
      have f1 := R10.fz 1
      have f2 := R10.fz 2
      have f3 := R10.fz 3
      obtain ⟨r0, r1', r2', r3'⟩ := R10.cells
      go_wp2
      have KZ := grown_four w10 w.heap.size (.int .i64 v) (.int .i64 r2) (.int .i64 r3) (.string ⟨tx.toArray⟩)
      have BZ := below_four w10 w.heap.size (.int .i64 v) (.int .i64 r2) (.int .i64 r3) (.string ⟨tx.toArray⟩)
      have H4 := R10.four (.int .i64 v) (.int .i64 r2) (.int .i64 r3) (.string ⟨tx.toArray⟩)
      obtain ⟨z6, hz6⟩ : ∃ z6, ((((w10.setCell ⟨w.heap.size, 0, none⟩ (.int .i64 v)).setCell ⟨w.heap.size, 1, none⟩ (.int .i64 r2)).setCell ⟨w.heap.size, 2, none⟩ (.int .i64 r3)).setCell ⟨w.heap.size, 3, none⟩ (.string ⟨tx.toArray⟩)) = z6 := ⟨_, rfl⟩
      rw [hz6] at KZ H4 BZ ⊢
      clear hz6 c0 c1 c2 c3
      obtain ⟨q0, q1, q2, q3⟩ := H4.cells
      refine bodyPost_ret (v := DueV.val ⟨v, r2, r3, ⟨tx.toArray⟩⟩) (by simp [results, Try.results32, go_sem, DueV.val, q0, q1, q2, q3]) rfl ?_
      exact ⟨⟨v, r2, r3, ⟨tx.toArray⟩⟩, rfl, hts, hs10.keep BZ hlt hrl, grown_own hg10 KZ (fun g hg => by obtain rfl := Option.some.inj hg; exact Nat.le_refl _)⟩
    · go_wp2_with fail
      refine (edge_any b a len cap zs _ hs7).mono ?_
      rintro e w9 ⟨v, rfl, _, hs9, hg9⟩
      have D9 := D7.grown hg9 (by omega)
      have R9 := R7.grown hg9 (by omega)
      have hgw9 := grown_trans hg7 hg9
      have fd := D9.fz 1
      obtain ⟨d0', d1', d2', d3'⟩ := D9.cells
      clear hs7 hg7 hg9 D7 R7
      go_upto_region 11 with fail
      have D10 := D9.set1 (.int .i64 v)
      have R10 := R9.setOther w5.heap.size 1 (.int .i64 v) (by omega)
      have hs10 := hs9.keep (below_one (B := w.heap.size) w9 w5.heap.size 1 (.int .i64 v) (by omega)) hlt hrl
      have hg10 : w.grownBy (w9.setCell ⟨w5.heap.size, 1, none⟩ (.int .i64 v)) (some b) := grown_own hgw9 (grown_set w9 w5.heap.size 1 (.int .i64 v)) (fun g hg => by obtain rfl := Option.some.inj hg; omega)
      obtain ⟨w10, hw10⟩ : ∃ y, w9.setCell ⟨w5.heap.size, 1, none⟩ (.int .i64 v) = y := ⟨_, rfl⟩
      rw [hw10] at D10 R10 hs10 hg10 ⊢
      clear hw10 D9 R9 hs9 hgw9 fd d0' d1' d2' d3'
      obtain ⟨c0, c1, c2, c3⟩ := D10.cells
      have f0 := R10.fz 0
      have f1 := R10.fz 1
      have f2 := R10.fz 2
      have f3 := R10.fz 3
      obtain ⟨r0, r1', r2', r3'⟩ := R10.cells
      go_wp2
      have KZ := grown_four w10 w.heap.size (.int .i64 r1) (.int .i64 v) (.int .i64 r3) (.string ⟨tx.toArray⟩)
      have BZ := below_four w10 w.heap.size (.int .i64 r1) (.int .i64 v) (.int .i64 r3) (.string ⟨tx.toArray⟩)
      have H4 := R10.four (.int .i64 r1) (.int .i64 v) (.int .i64 r3) (.string ⟨tx.toArray⟩)
      obtain ⟨z6, hz6⟩ : ∃ z6, ((((w10.setCell ⟨w.heap.size, 0, none⟩ (.int .i64 r1)).setCell ⟨w.heap.size, 1, none⟩ (.int .i64 v)).setCell ⟨w.heap.size, 2, none⟩ (.int .i64 r3)).setCell ⟨w.heap.size, 3, none⟩ (.string ⟨tx.toArray⟩)) = z6 := ⟨_, rfl⟩
      rw [hz6] at KZ H4 BZ ⊢
      clear hz6 c0 c1 c2 c3
      obtain ⟨q0, q1, q2, q3⟩ := H4.cells
      refine bodyPost_ret (v := DueV.val ⟨r1, v, r3, ⟨tx.toArray⟩⟩) (by simp [results, Try.results32, go_sem, DueV.val, q0, q1, q2, q3]) rfl ?_
      exact ⟨⟨r1, v, r3, ⟨tx.toArray⟩⟩, rfl, hts, hs10.keep BZ hlt hrl, grown_own hg10 KZ (fun g hg => by obtain rfl := Option.some.inj hg; exact Nat.le_refl _)⟩
    · have hs8 := hs7.alloc (.cells #[.int .i64 (-1), .int .i64 (99), .int .i64 (100)] 2)
      have hg8 := grown_alloc hg7 (.cells #[.int .i64 (-1), .int .i64 (99), .int .i64 (100)] 2)
      have D8 := D7.alloc (.cells #[.int .i64 (-1), .int .i64 (99), .int .i64 (100)] 2)
      have R8 := R7.alloc (.cells #[.int .i64 (-1), .int .i64 (99), .int .i64 (100)] 2)
      have hcv0 : ∀ j : Nat, j < 3 → ∃ v : Int, (w7.alloc (.cells #[.int .i64 (-1), .int .i64 (99), .int .i64 (100)] 2)).cell? ⟨w7.heap.size, j, none⟩ = some (.int .i64 v) := fun j hj => by
        rw [World.cell?_alloc_at _ _ _ _ rfl]
        match j, hj with
        | 0, _ => exact ⟨_, rfl⟩
        | 1, _ => exact ⟨_, rfl⟩
        | 2, _ => exact ⟨_, rfl⟩
      have hw7 : w.heap.size ≤ w7.heap.size := hg7.size
      clear hs7 hg7 D7 R7
      go_wp2_with fail
      refine (n_any b a len cap zs 3 (by omega) _ hs8).mono ?_
      rintro e w9 ⟨q, rfl, _, hq, hs9, hg9⟩
      obtain ⟨j, rfl⟩ := Int.eq_ofNat_of_zero_le (hq (by omega)).1
      have hj : j < 3 := by have := (hq (by omega)).2; omega
      obtain ⟨v, hv⟩ := hcv0 j hj
      have hcv : w9.cell? ⟨w7.heap.size, j, none⟩ = some (.int .i64 v) := hg9.cell hv (by simp; omega)
      have hj' : (j : Int) < 3 := by omega
      have D9 := D8.grown hg9 (by omega)
      have R9 := R8.grown hg9 (by omega)
      have hgw9 := grown_trans hg8 hg9
      have fd := D9.fz 2
      clear hq hs8 hg8 hg9 D8 R8 hv hcv0 hj
      obtain ⟨d0', d1', d2', d3'⟩ := D9.cells
      go_upto_region 11 with fail
      have D10 := D9.set2 (.int .i64 v)
      have R10 := R9.setOther w5.heap.size 2 (.int .i64 v) (by omega)
      have hs10 := hs9.keep (below_one (B := w.heap.size) w9 w5.heap.size 2 (.int .i64 v) (by omega)) hlt hrl
      have hg10 : w.grownBy (w9.setCell ⟨w5.heap.size, 2, none⟩ (.int .i64 v)) (some b) := grown_own hgw9 (grown_set w9 w5.heap.size 2 (.int .i64 v)) (fun g hg => by obtain rfl := Option.some.inj hg; omega)
      obtain ⟨w10, hw10⟩ : ∃ y, w9.setCell ⟨w5.heap.size, 2, none⟩ (.int .i64 v) = y := ⟨_, rfl⟩
      rw [hw10] at D10 R10 hs10 hg10 ⊢
      clear hw10 D9 R9 hs9 hgw9 hcv fd d0' d1' d2' d3'
      obtain ⟨c0, c1, c2, c3⟩ := D10.cells
      have f0 := R10.fz 0
      have f1 := R10.fz 1
      have f2 := R10.fz 2
      have f3 := R10.fz 3
      obtain ⟨r0, r1', r2', r3'⟩ := R10.cells
      go_wp2
      have KZ := grown_four w10 w.heap.size (.int .i64 r1) (.int .i64 r2) (.int .i64 v) (.string ⟨tx.toArray⟩)
      have BZ := below_four w10 w.heap.size (.int .i64 r1) (.int .i64 r2) (.int .i64 v) (.string ⟨tx.toArray⟩)
      have H4 := R10.four (.int .i64 r1) (.int .i64 r2) (.int .i64 v) (.string ⟨tx.toArray⟩)
      obtain ⟨z6, hz6⟩ : ∃ z6, ((((w10.setCell ⟨w.heap.size, 0, none⟩ (.int .i64 r1)).setCell ⟨w.heap.size, 1, none⟩ (.int .i64 r2)).setCell ⟨w.heap.size, 2, none⟩ (.int .i64 v)).setCell ⟨w.heap.size, 3, none⟩ (.string ⟨tx.toArray⟩)) = z6 := ⟨_, rfl⟩
      rw [hz6] at KZ H4 BZ ⊢
      clear hz6 c0 c1 c2 c3
      obtain ⟨q0, q1, q2, q3⟩ := H4.cells
      refine bodyPost_ret (v := DueV.val ⟨r1, r2, v, ⟨tx.toArray⟩⟩) (by simp [results, Try.results32, go_sem, DueV.val, q0, q1, q2, q3]) rfl ?_
      exact ⟨⟨r1, r2, v, ⟨tx.toArray⟩⟩, rfl, hts, hs10.keep BZ hlt hrl, grown_own hg10 KZ (fun g hg => by obtain rfl := Option.some.inj hg; exact Nat.le_refl _)⟩
    · go_wp2_with fail
      refine (n_any b a len cap zs 3 (by omega) _ hs7).mono ?_
      rintro e w8 ⟨q8, rfl, _, hq8, hs8, hg8⟩
      have D8 := D7.grown hg8 (by omega)
      have R8 := R7.grown hg8 (by omega)
      have hgw8 := grown_trans hg7 hg8
      obtain ⟨k8, rfl⟩ := Int.eq_ofNat_of_zero_le (hq8 (by omega)).1
      have hk8 : k8 < 3 := by have := (hq8 (by omega)).2; omega
      have hcv := zeros_conv (P := Try.prog) (src := 22) (dst := 9) Try.underlying22 Try.underlying5 Try.underlying9 w8 (399 + k8)
      have hmk := run_make_row' (P := Try.prog) 22 5 (.int .u8 0) 1 Try.underlying22 Try.infoU8 rfl .i64 .i64 (399 + k8) (by omega) (by omega)
      have ec : ((399 + k8 : Nat) : Int) = 399 + (k8 : Int) := by omega
      rw [ec] at hmk
      have D9 := D8.alloc (.cells (madeCells #[.int .u8 0] (399 + k8)) 5)
      have R9 := R8.alloc (.cells (madeCells #[.int .u8 0] (399 + k8)) 5)
      have hs9 := hs8.alloc (.cells (madeCells #[.int .u8 0] (399 + k8)) 5)
      have hgw9 := grown_alloc hgw8 (.cells (madeCells #[.int .u8 0] (399 + k8)) 5)
      have fd := D9.fz 3
      obtain ⟨d0', d1', d2', d3'⟩ := D9.cells
      clear hs7 hg7 hg8 D7 R7 hq8 ec hs8 hgw8 D8 R8
      go_upto_region 11 with fail
      obtain ⟨w9, hw9⟩ : ∃ y, w8.alloc (.cells (madeCells #[.int .u8 0] (399 + k8)) 5) = y := ⟨_, rfl⟩
      rw [hw9] at D9 R9 hs9 hgw9 ⊢
      clear hw9 hcv hmk fd d0' d1' d2' d3'
      have D10 := D9.set3 (.string ⟨Array.replicate (399 + k8) (0 : UInt8)⟩)
      have R10 := R9.setOther w5.heap.size 3 (.string ⟨Array.replicate (399 + k8) (0 : UInt8)⟩) (by omega)
      have hs10 := hs9.keep (below_one (B := w.heap.size) w9 w5.heap.size 3 (.string ⟨Array.replicate (399 + k8) (0 : UInt8)⟩) (by omega)) hlt hrl
      have hg10 : w.grownBy (w9.setCell ⟨w5.heap.size, 3, none⟩ (.string ⟨Array.replicate (399 + k8) (0 : UInt8)⟩)) (some b) := grown_own hgw9 (grown_set w9 w5.heap.size 3 _) (fun g hg => by obtain rfl := Option.some.inj hg; omega)
      have hts2 : (⟨Array.replicate (399 + k8) (0 : UInt8)⟩ : ByteArray).size ≤ 1000 := by show (Array.replicate (399 + k8) (0 : UInt8)).size ≤ 1000; simp; omega
      obtain ⟨tz, htz⟩ : ∃ tz, (⟨Array.replicate (399 + k8) (0 : UInt8)⟩ : ByteArray) = tz := ⟨_, rfl⟩
      rw [htz] at D10 R10 hs10 hg10 hts2 ⊢
      clear htz
      obtain ⟨w10, hw10⟩ : ∃ y, w9.setCell ⟨w5.heap.size, 3, none⟩ (.string tz) = y := ⟨_, rfl⟩
      rw [hw10] at D10 R10 hs10 hg10 ⊢
      clear hw10 D9 R9 hs9 hgw9
      obtain ⟨c0, c1, c2, c3⟩ := D10.cells
      have f0 := R10.fz 0
      have f1 := R10.fz 1
      have f2 := R10.fz 2
      have f3 := R10.fz 3
      obtain ⟨r0, r1', r2', r3'⟩ := R10.cells
      go_wp2
      have KZ := grown_four w10 w.heap.size (.int .i64 r1) (.int .i64 r2) (.int .i64 r3) (.string tz)
      have BZ := below_four w10 w.heap.size (.int .i64 r1) (.int .i64 r2) (.int .i64 r3) (.string tz)
      have H4 := R10.four (.int .i64 r1) (.int .i64 r2) (.int .i64 r3) (.string tz)
      obtain ⟨z6, hz6⟩ : ∃ z6, ((((w10.setCell ⟨w.heap.size, 0, none⟩ (.int .i64 r1)).setCell ⟨w.heap.size, 1, none⟩ (.int .i64 r2)).setCell ⟨w.heap.size, 2, none⟩ (.int .i64 r3)).setCell ⟨w.heap.size, 3, none⟩ (.string tz)) = z6 := ⟨_, rfl⟩
      rw [hz6] at KZ H4 BZ ⊢
      clear hz6 c0 c1 c2 c3
      obtain ⟨q0, q1, q2, q3⟩ := H4.cells
      refine bodyPost_ret (v := DueV.val ⟨r1, r2, r3, tz⟩) (by simp [results, Try.results32, go_sem, DueV.val, q0, q1, q2, q3]) rfl ?_
      exact ⟨⟨r1, r2, r3, tz⟩, rfl, hts2, hs10.keep BZ hlt hrl, grown_own hg10 KZ (fun g hg => by obtain rfl := Option.some.inj hg; exact Nat.le_refl _)⟩
end Go.Proofs.Ytlnkcbojoaoehaa
