/- The contract of slices.BinarySearchFunc over what is due, and of the faults of a queue. -/
import Derived.Test.YtlnkcbojoaoehaaQRightI
namespace Go.Proofs.Ytlnkcbojoaoehaa
open Go Go.RowKit
set_option linter.unusedVariables false

/-- One of the same time and number is there. -/
def thereD (l : List DueV) (d : DueV) : Prop := ∃ j, ∃ h : j < l.length, ¬ l[j].lt d ∧ ¬ d.lt l[j]
theorem ordD_same {x y : DueV} : ordD x y = 0 ↔ ¬ x.lt y ∧ ¬ y.lt x := by rw [ordD_zero]; unfold DueV.lt; omega
theorem rises_at {l : List DueV} (h : l.Pairwise DueV.lt) {i j : Nat} (hij : i < j) (hj : j < l.length) : (l[i]'(by omega)).lt l[j] := List.pairwise_iff_getElem.1 h i j (by omega) hj hij
def SearchPost (l : List DueV) (d : DueV) (w : World) (e : Ending) (w' : World) : Prop := ∃ (k : Int) (r : Bool), e = .returned (.tuple #[.int .i64 k, .bool r]) ∧ (r = true ↔ thereD l d) ∧ Below w.heap.size w w'
set_option maxHeartbeats 2000000 in
set_option maxRecDepth 100000 in
theorem bsearchD_any (a : Option Addr) (cap : Nat) (l : List DueV) (d : DueV) (w : World) (hl : l.length ≤ 1048576) (hrow : CellRow w a (cellsOf DueV.cells l)) (hr : l.Pairwise DueV.lt) :
    Calls Try.prog 53 #[.slice a l.length cap, d.val, .func (.func 45) #[] #[]] w (SearchPost l d w) := by
  obtain ⟨y1, y2, y3, y4⟩ := d
  unfold DueV.val
  dsimp only
  have HRi : Hid (l.Pairwise DueV.lt) := hr
  clear hr
  go_enter Try.func53, Try.ntmps53
  go_wp2
  have p0 := BlkOf.new w ⟨y1, y2, y3, y4⟩
  have B0 : Below w.heap.size w (w.alloc (.cells #[.int .i64 y1, .int .i64 y2, .int .i64 y3, .string y4] 25)) := (Below.refl _ _).alloc (Nat.le_refl _) _
  obtain ⟨W, hW⟩ : ∃ W, w.alloc (.cells #[.int .i64 y1, .int .i64 y2, .int .i64 y3, .string y4] 25) = W := ⟨_, rfl⟩
  rw [hW] at p0 B0 ⊢
  clear hW
  go_loopw [9, 10] (fun s7 s8 wr => ∃ p q : Nat, s7 = .int .i64 p ∧ s8 = .int .i64 q ∧ p ≤ q ∧ q ≤ l.length ∧ (∀ j (h : j < l.length), j < p → l[j].lt ⟨y1, y2, y3, y4⟩) ∧ (∀ j (h : j < l.length), q ≤ j → ¬ l[j].lt ⟨y1, y2, y3, y4⟩) ∧ Below w.heap.size w wr ∧ BlkOf wr w.heap.size ⟨y1, y2, y3, y4⟩) (fun s7 s8 _ => (intOf s8).toNat - (intOf s7).toNat)
  case atStart => exact ⟨0, l.length, rfl, rfl, Nat.zero_le _, Nat.le_refl _, fun j _ h => by omega, fun j h h2 => by omega, B0, p0⟩
  case round =>
    obtain ⟨p, q, rfl, rfl, hpq, hql, h1, h2, hb, dt⟩ := hrel
    have H1 : Hid (∀ j (h : j < l.length), j < p → l[j].lt ⟨y1, y2, y3, y4⟩) := h1
    have H2 : Hid (∀ j (h : j < l.length), q ≤ j → ¬ l[j].lt ⟨y1, y2, y3, y4⟩) := h2
    clear h1 h2 p0 B0
    by_cases hlt : p < q
    · obtain ⟨b, off, rfl⟩ := hrow.addr (by rw [cellsOf_length DueV.cells_len]; omega)
      have hml : (p + q) / 2 < l.length := by omega
      obtain ⟨x, hlx⟩ : ∃ x, l[(p + q) / 2] = x := ⟨_, rfl⟩
      obtain ⟨x1, x2, x3, x4⟩ := x
      have dm := (hrow.keep hb).duef hml hlx
      have hmI : ((p : Int) + (q : Int)) / 2 < (l.length : Int) := by omega
      have hm0 : (0 : Int) ≤ ((p : Int) + (q : Int)) / 2 := by omega
      have hmN : (((p : Int) + (q : Int)) / 2).toNat = (p + q) / 2 := by omega
      have HX : Hid (l[(p + q) / 2] = ⟨x1, x2, x3, x4⟩) := hlx
      clear hlx
      by_cases hc : DueV.lt ⟨x1, x2, x3, x4⟩ ⟨y1, y2, y3, y4⟩
      · have hd2 : decide (ordD ⟨x1, x2, x3, x4⟩ ⟨y1, y2, y3, y4⟩ < 0) = true := decide_eq_true (ordD_neg.2 hc)
        have HC : Hid (DueV.lt ⟨x1, x2, x3, x4⟩ ⟨y1, y2, y3, y4⟩) := hc
        clear hc
        go_upto_region 5 with fail
        refine wp_region_held_drew (S := (fun w' => Below wr.heap.size wr w')) (by kernel_rfl) ?hS0 (fun hHeld => ?_)
        case hS0 => exact (Below.refl _ _).drew
        refine takeG 0 (v := .func (.func 45) #[] #[]) rfl (by kernel_rfl) (by kernel_rfl) (by kernel_rfl) (by kernel_rfl) (fun _ _ _ h => h) ?hy (by assumption) ?_
        case hy => (intro w' hSw; go_simp)
        try simp only [List.setIfInBounds_toArray, List.set_cons_zero, List.set_cons_succ]
        refine takeG 1 (v := .slice (some ⟨b, off, none⟩) l.length cap) rfl (by kernel_rfl) (by kernel_rfl) (by kernel_rfl) (by kernel_rfl) (fun _ _ _ h => h) ?hy (by assumption) ?_
        case hy => (intro w' hSw; go_simp)
        try simp only [List.setIfInBounds_toArray, List.set_cons_zero, List.set_cons_succ]
        refine takeG 2 (v := .int .i64 (((p + q) / 2 : Nat) : Int)) rfl (by kernel_rfl) (by kernel_rfl) (by kernel_rfl) (by kernel_rfl) (fun _ _ _ h => h) ?hy (by assumption) ?_
        case hy => (intro w' hSw; go_simp)
        try simp only [List.setIfInBounds_toArray, List.set_cons_zero, List.set_cons_succ]
        refine takeG 3 (v := .pointer (some ⟨b, off + (p + q) / 2 * 4, none⟩)) rfl (by kernel_rfl) (by kernel_rfl) (by kernel_rfl) (by kernel_rfl) (fun _ _ _ h => h) ?hy (by assumption) ?_
        case hy => (intro w' hSw; go_simp)
        try simp only [List.setIfInBounds_toArray, List.set_cons_zero, List.set_cons_succ]
        refine takeG 4 (v := .agg #[.int .i64 x1, .int .i64 x2, .int .i64 x3, .string x4]) rfl (by kernel_rfl) (by kernel_rfl) (by kernel_rfl) (by kernel_rfl) (fun _ _ _ h => h) ?hy (by assumption) ?_
        case hy => (intro w' hSw; obtain ⟨_, s0, s1, s2, s3⟩ := (dm).keep hSw; dsimp only at s0 s1 s2 s3; go_simp)
        try simp only [List.setIfInBounds_toArray, List.set_cons_zero, List.set_cons_succ]
        refine takeG 5 (v := .agg #[.int .i64 y1, .int .i64 y2, .int .i64 y3, .string y4]) rfl (by kernel_rfl) (by kernel_rfl) (by kernel_rfl) (by kernel_rfl) (fun _ _ _ h => h) ?hy (by assumption) ?_
        case hy => (intro w' hSw; obtain ⟨_, s0, s1, s2, s3⟩ := (dt).keep hSw; dsimp only at s0 s1 s2 s3; go_simp)
        try simp only [List.setIfInBounds_toArray, List.set_cons_zero, List.set_cons_succ]
        refine runG 6 (by kernel_rfl) rfl (by kernel_rfl) ?_
        go_simp
        refine (dueOrder_any ⟨x1, x2, x3, x4⟩ ⟨y1, y2, y3, y4⟩ _).mono ?_
        rintro e z1 ⟨rfl, bz1⟩
        have hz1 : Below wr.heap.size wr z1 := hHeld.trans bz1
        refine ⟨hz1, ?_⟩
        clear hHeld
        try simp only [Act.put, List.setIfInBounds_toArray, List.set_cons_zero, List.set_cons_succ]
        refine takeG 7 (v := .bool true) rfl (by kernel_rfl) (by kernel_rfl) (by kernel_rfl) (by kernel_rfl) (fun _ _ _ h => h) ?hy (by assumption) ?_
        case hy => (intro w' hSw; go_simp)
        try simp only [List.setIfInBounds_toArray, List.set_cons_zero, List.set_cons_succ]
        refine wpAnyH_done (by kernel_rfl) ?_ _
        have hb1 := hb.trans (hz1.mono hb.size)
        go_wp2
        go_roundw
        case rel =>
          have dt1 := dt.keep hz1
          exact ⟨(p + q) / 2 + 1, q, by go_num, rfl, by omega, hql, fun j hj hjl => by
            by_cases e : j = (p + q) / 2
            · subst e; rw [HX.out]; exact HC.out
            · have := rises_at HRi.out (show j < (p + q) / 2 by omega) hml
              rw [HX.out] at this
              exact DueV.lt_trans this HC.out, H2.out, hb1, dt1⟩
        case measure => simp [intOf]; omega
      · have hd2 : decide (ordD ⟨x1, x2, x3, x4⟩ ⟨y1, y2, y3, y4⟩ < 0) = false := decide_eq_false (fun h => hc (ordD_neg.1 h))
        have HC : Hid (¬ DueV.lt ⟨x1, x2, x3, x4⟩ ⟨y1, y2, y3, y4⟩) := hc
        clear hc
        go_upto_region 5 with fail
        refine wp_region_held_drew (S := (fun w' => Below wr.heap.size wr w')) (by kernel_rfl) ?hS0 (fun hHeld => ?_)
        case hS0 => exact (Below.refl _ _).drew
        refine takeG 0 (v := .func (.func 45) #[] #[]) rfl (by kernel_rfl) (by kernel_rfl) (by kernel_rfl) (by kernel_rfl) (fun _ _ _ h => h) ?hy (by assumption) ?_
        case hy => (intro w' hSw; go_simp)
        try simp only [List.setIfInBounds_toArray, List.set_cons_zero, List.set_cons_succ]
        refine takeG 1 (v := .slice (some ⟨b, off, none⟩) l.length cap) rfl (by kernel_rfl) (by kernel_rfl) (by kernel_rfl) (by kernel_rfl) (fun _ _ _ h => h) ?hy (by assumption) ?_
        case hy => (intro w' hSw; go_simp)
        try simp only [List.setIfInBounds_toArray, List.set_cons_zero, List.set_cons_succ]
        refine takeG 2 (v := .int .i64 (((p + q) / 2 : Nat) : Int)) rfl (by kernel_rfl) (by kernel_rfl) (by kernel_rfl) (by kernel_rfl) (fun _ _ _ h => h) ?hy (by assumption) ?_
        case hy => (intro w' hSw; go_simp)
        try simp only [List.setIfInBounds_toArray, List.set_cons_zero, List.set_cons_succ]
        refine takeG 3 (v := .pointer (some ⟨b, off + (p + q) / 2 * 4, none⟩)) rfl (by kernel_rfl) (by kernel_rfl) (by kernel_rfl) (by kernel_rfl) (fun _ _ _ h => h) ?hy (by assumption) ?_
        case hy => (intro w' hSw; go_simp)
        try simp only [List.setIfInBounds_toArray, List.set_cons_zero, List.set_cons_succ]
        refine takeG 4 (v := .agg #[.int .i64 x1, .int .i64 x2, .int .i64 x3, .string x4]) rfl (by kernel_rfl) (by kernel_rfl) (by kernel_rfl) (by kernel_rfl) (fun _ _ _ h => h) ?hy (by assumption) ?_
        case hy => (intro w' hSw; obtain ⟨_, s0, s1, s2, s3⟩ := (dm).keep hSw; dsimp only at s0 s1 s2 s3; go_simp)
        try simp only [List.setIfInBounds_toArray, List.set_cons_zero, List.set_cons_succ]
        refine takeG 5 (v := .agg #[.int .i64 y1, .int .i64 y2, .int .i64 y3, .string y4]) rfl (by kernel_rfl) (by kernel_rfl) (by kernel_rfl) (by kernel_rfl) (fun _ _ _ h => h) ?hy (by assumption) ?_
        case hy => (intro w' hSw; obtain ⟨_, s0, s1, s2, s3⟩ := (dt).keep hSw; dsimp only at s0 s1 s2 s3; go_simp)
        try simp only [List.setIfInBounds_toArray, List.set_cons_zero, List.set_cons_succ]
        refine runG 6 (by kernel_rfl) rfl (by kernel_rfl) ?_
        go_simp
        refine (dueOrder_any ⟨x1, x2, x3, x4⟩ ⟨y1, y2, y3, y4⟩ _).mono ?_
        rintro e z1 ⟨rfl, bz1⟩
        have hz1 : Below wr.heap.size wr z1 := hHeld.trans bz1
        refine ⟨hz1, ?_⟩
        clear hHeld
        try simp only [Act.put, List.setIfInBounds_toArray, List.set_cons_zero, List.set_cons_succ]
        refine takeG 7 (v := .bool false) rfl (by kernel_rfl) (by kernel_rfl) (by kernel_rfl) (by kernel_rfl) (fun _ _ _ h => h) ?hy (by assumption) ?_
        case hy => (intro w' hSw; go_simp)
        try simp only [List.setIfInBounds_toArray, List.set_cons_zero, List.set_cons_succ]
        refine wpAnyH_done (by kernel_rfl) ?_ _
        have hb1 := hb.trans (hz1.mono hb.size)
        go_wp2
        go_roundw
        case rel =>
          have dt1 := dt.keep hz1
          exact ⟨p, (p + q) / 2, rfl, by go_num, by omega, by omega, H1.out, fun j hj hjl => by
            by_cases e : j = (p + q) / 2
            · subst e; rw [HX.out]; exact HC.out
            · have := rises_at HRi.out (show (p + q) / 2 < j by omega) hj
              rw [HX.out] at this
              exact DueV.nlt_trans (DueV.lt_nlt this) HC.out, hb1, dt1⟩
        case measure => simp [intOf]; omega
    · obtain rfl : p = q := by omega
      obtain ⟨q, rfl⟩ : ∃ q, q = p := ⟨p, rfl⟩
      clear hlt hpq
      by_cases hn : q < l.length
      · obtain ⟨b, off, rfl⟩ := hrow.addr (by rw [cellsOf_length DueV.cells_len]; omega)
        obtain ⟨x, hlx⟩ : ∃ x, l[q] = x := ⟨_, rfl⟩
        obtain ⟨x1, x2, x3, x4⟩ := x
        have dm := (hrow.keep hb).duef hn hlx
        have hmI : (q : Int) < (l.length : Int) := by omega
        by_cases hc : ordD ⟨x1, x2, x3, x4⟩ ⟨y1, y2, y3, y4⟩ = 0
        · have hd2 : (ordD ⟨x1, x2, x3, x4⟩ ⟨y1, y2, y3, y4⟩ == 0) = true := beq_iff_eq.2 hc
          have HT : Hid (thereD l ⟨y1, y2, y3, y4⟩) := ⟨q, hn, by rw [hlx]; exact ordD_same.1 hc⟩
          clear hc hlx
          go_upto_region 8 with fail
          refine wp_region_held_drew (S := (fun w' => Below wr.heap.size wr w')) (by kernel_rfl) ?hS0 (fun hHeld => ?_)
          case hS0 => exact (Below.refl _ _).drew
          refine takeG 0 (v := .int .i64 (q : Int)) rfl (by kernel_rfl) (by kernel_rfl) (by kernel_rfl) (by kernel_rfl) (fun _ _ _ h => h) ?hy (by assumption) ?_
          case hy => (intro w' hSw; go_simp)
          try simp only [List.setIfInBounds_toArray, List.set_cons_zero, List.set_cons_succ]
          refine takeG 1 (v := .int .i64 (q : Int)) rfl (by kernel_rfl) (by kernel_rfl) (by kernel_rfl) (by kernel_rfl) (fun _ _ _ h => h) ?hy (by assumption) ?_
          case hy => (intro w' hSw; go_simp)
          try simp only [List.setIfInBounds_toArray, List.set_cons_zero, List.set_cons_succ]
          refine takeG 2 (v := .int .i64 (l.length : Int)) rfl (by kernel_rfl) (by kernel_rfl) (by kernel_rfl) (by kernel_rfl) (fun _ _ _ h => h) ?hy (by assumption) ?_
          case hy => (intro w' hSw; go_simp)
          try simp only [List.setIfInBounds_toArray, List.set_cons_zero, List.set_cons_succ]
          refine takeG 3 (v := .bool true) rfl (by kernel_rfl) (by kernel_rfl) (by kernel_rfl) (by kernel_rfl) (fun _ _ _ h => h) ?hy (by assumption) ?_
          case hy => (intro w' hSw; go_simp)
          try simp only [List.setIfInBounds_toArray, List.set_cons_zero, List.set_cons_succ]
          refine takeG 4 (v := .bool true) rfl (by kernel_rfl) (by kernel_rfl) (by kernel_rfl) (by kernel_rfl) (fun _ _ _ h => h) ?hy (by assumption) ?_
          case hy => (intro w' hSw; go_simp)
          try simp only [List.setIfInBounds_toArray, List.set_cons_zero, List.set_cons_succ]
          refine takeG 5 (v := .func (.func 45) #[] #[]) rfl (by kernel_rfl) (by kernel_rfl) (by kernel_rfl) (by kernel_rfl) (fun _ _ _ h => h) ?hy (by assumption) ?_
          case hy => (intro w' hSw; go_simp)
          try simp only [List.setIfInBounds_toArray, List.set_cons_zero, List.set_cons_succ]
          refine takeG 6 (v := .slice (some ⟨b, off, none⟩) l.length cap) rfl (by kernel_rfl) (by kernel_rfl) (by kernel_rfl) (by kernel_rfl) (fun _ _ _ h => h) ?hy (by assumption) ?_
          case hy => (intro w' hSw; go_simp)
          try simp only [List.setIfInBounds_toArray, List.set_cons_zero, List.set_cons_succ]
          refine takeG 7 (v := .int .i64 (q : Int)) rfl (by kernel_rfl) (by kernel_rfl) (by kernel_rfl) (by kernel_rfl) (fun _ _ _ h => h) ?hy (by assumption) ?_
          case hy => (intro w' hSw; go_simp)
          try simp only [List.setIfInBounds_toArray, List.set_cons_zero, List.set_cons_succ]
          refine takeG 8 (v := .pointer (some ⟨b, off + q * 4, none⟩)) rfl (by kernel_rfl) (by kernel_rfl) (by kernel_rfl) (by kernel_rfl) (fun _ _ _ h => h) ?hy (by assumption) ?_
          case hy => (intro w' hSw; go_simp)
          try simp only [List.setIfInBounds_toArray, List.set_cons_zero, List.set_cons_succ]
          refine takeG 9 (v := .agg #[.int .i64 x1, .int .i64 x2, .int .i64 x3, .string x4]) rfl (by kernel_rfl) (by kernel_rfl) (by kernel_rfl) (by kernel_rfl) (fun _ _ _ h => h) ?hy (by assumption) ?_
          case hy => (intro w' hSw; obtain ⟨_, s0, s1, s2, s3⟩ := (dm).keep hSw; dsimp only at s0 s1 s2 s3; go_simp)
          try simp only [List.setIfInBounds_toArray, List.set_cons_zero, List.set_cons_succ]
          refine takeG 10 (v := .agg #[.int .i64 y1, .int .i64 y2, .int .i64 y3, .string y4]) rfl (by kernel_rfl) (by kernel_rfl) (by kernel_rfl) (by kernel_rfl) (fun _ _ _ h => h) ?hy (by assumption) ?_
          case hy => (intro w' hSw; obtain ⟨_, s0, s1, s2, s3⟩ := (dt).keep hSw; dsimp only at s0 s1 s2 s3; go_simp)
          try simp only [List.setIfInBounds_toArray, List.set_cons_zero, List.set_cons_succ]
          refine runG 11 (by kernel_rfl) rfl (by kernel_rfl) ?_
          go_simp
          refine (dueOrder_any ⟨x1, x2, x3, x4⟩ ⟨y1, y2, y3, y4⟩ _).mono ?_
          rintro e z1 ⟨rfl, bz1⟩
          have hz1 : Below wr.heap.size wr z1 := hHeld.trans bz1
          refine ⟨hz1, ?_⟩
          clear hHeld
          try simp only [Act.put, List.setIfInBounds_toArray, List.set_cons_zero, List.set_cons_succ]
          refine takeG 12 (v := .bool true) rfl (by kernel_rfl) (by kernel_rfl) (by kernel_rfl) (by kernel_rfl) (fun _ _ _ h => h) ?hy (by assumption) ?_
          case hy => (intro w' hSw; go_simp)
          try simp only [List.setIfInBounds_toArray, List.set_cons_zero, List.set_cons_succ]
          refine takeG 13 (v := .bool true) rfl (by kernel_rfl) (by kernel_rfl) (by kernel_rfl) (by kernel_rfl) (fun _ _ _ h => h) ?hy (by assumption) ?_
          case hy => (intro w' hSw; go_simp)
          try simp only [List.setIfInBounds_toArray, List.set_cons_zero, List.set_cons_succ]
          refine takeG 14 (v := .int .i64 (q : Int)) rfl (by kernel_rfl) (by kernel_rfl) (by kernel_rfl) (by kernel_rfl) (fun _ _ _ h => h) ?hy (by assumption) ?_
          case hy => (intro w' hSw; go_simp)
          try simp only [List.setIfInBounds_toArray, List.set_cons_zero, List.set_cons_succ]
          refine takeG 15 (v := .bool true) rfl (by kernel_rfl) (by kernel_rfl) (by kernel_rfl) (by kernel_rfl) (fun _ _ _ h => h) ?hy (by assumption) ?_
          case hy => (intro w' hSw; go_simp)
          try simp only [List.setIfInBounds_toArray, List.set_cons_zero, List.set_cons_succ]
          refine wpAnyH_done (by kernel_rfl) ?_ _
          have hb1 := hb.trans (hz1.mono hb.size)
          go_wp2
          go_ret2
          exact ⟨_, true, rfl, by simp [HT.out], hb1⟩
        · have hd2 : (ordD ⟨x1, x2, x3, x4⟩ ⟨y1, y2, y3, y4⟩ == 0) = false := beq_eq_false_iff_ne.2 hc
          have HT : Hid (¬ thereD l ⟨y1, y2, y3, y4⟩) := fun ⟨j, hj, e1, e2⟩ => by
            rcases Nat.lt_or_ge j q with k | k
            · exact e1 (H1.out j hj k)
            · by_cases ej : j = q
              · subst ej; rw [hlx] at e1 e2; exact hc (ordD_same.2 ⟨e1, e2⟩)
              · have h3 := rises_at HRi.out (show q < j by omega) hj
                have h4 := H2.out q hn (Nat.le_refl _)
                exact DueV.nlt_trans h4 e2 h3
          clear hc hlx
          go_upto_region 8 with fail
          refine wp_region_held_drew (S := (fun w' => Below wr.heap.size wr w')) (by kernel_rfl) ?hS0 (fun hHeld => ?_)
          case hS0 => exact (Below.refl _ _).drew
          refine takeG 0 (v := .int .i64 (q : Int)) rfl (by kernel_rfl) (by kernel_rfl) (by kernel_rfl) (by kernel_rfl) (fun _ _ _ h => h) ?hy (by assumption) ?_
          case hy => (intro w' hSw; go_simp)
          try simp only [List.setIfInBounds_toArray, List.set_cons_zero, List.set_cons_succ]
          refine takeG 1 (v := .int .i64 (q : Int)) rfl (by kernel_rfl) (by kernel_rfl) (by kernel_rfl) (by kernel_rfl) (fun _ _ _ h => h) ?hy (by assumption) ?_
          case hy => (intro w' hSw; go_simp)
          try simp only [List.setIfInBounds_toArray, List.set_cons_zero, List.set_cons_succ]
          refine takeG 2 (v := .int .i64 (l.length : Int)) rfl (by kernel_rfl) (by kernel_rfl) (by kernel_rfl) (by kernel_rfl) (fun _ _ _ h => h) ?hy (by assumption) ?_
          case hy => (intro w' hSw; go_simp)
          try simp only [List.setIfInBounds_toArray, List.set_cons_zero, List.set_cons_succ]
          refine takeG 3 (v := .bool true) rfl (by kernel_rfl) (by kernel_rfl) (by kernel_rfl) (by kernel_rfl) (fun _ _ _ h => h) ?hy (by assumption) ?_
          case hy => (intro w' hSw; go_simp)
          try simp only [List.setIfInBounds_toArray, List.set_cons_zero, List.set_cons_succ]
          refine takeG 4 (v := .bool true) rfl (by kernel_rfl) (by kernel_rfl) (by kernel_rfl) (by kernel_rfl) (fun _ _ _ h => h) ?hy (by assumption) ?_
          case hy => (intro w' hSw; go_simp)
          try simp only [List.setIfInBounds_toArray, List.set_cons_zero, List.set_cons_succ]
          refine takeG 5 (v := .func (.func 45) #[] #[]) rfl (by kernel_rfl) (by kernel_rfl) (by kernel_rfl) (by kernel_rfl) (fun _ _ _ h => h) ?hy (by assumption) ?_
          case hy => (intro w' hSw; go_simp)
          try simp only [List.setIfInBounds_toArray, List.set_cons_zero, List.set_cons_succ]
          refine takeG 6 (v := .slice (some ⟨b, off, none⟩) l.length cap) rfl (by kernel_rfl) (by kernel_rfl) (by kernel_rfl) (by kernel_rfl) (fun _ _ _ h => h) ?hy (by assumption) ?_
          case hy => (intro w' hSw; go_simp)
          try simp only [List.setIfInBounds_toArray, List.set_cons_zero, List.set_cons_succ]
          refine takeG 7 (v := .int .i64 (q : Int)) rfl (by kernel_rfl) (by kernel_rfl) (by kernel_rfl) (by kernel_rfl) (fun _ _ _ h => h) ?hy (by assumption) ?_
          case hy => (intro w' hSw; go_simp)
          try simp only [List.setIfInBounds_toArray, List.set_cons_zero, List.set_cons_succ]
          refine takeG 8 (v := .pointer (some ⟨b, off + q * 4, none⟩)) rfl (by kernel_rfl) (by kernel_rfl) (by kernel_rfl) (by kernel_rfl) (fun _ _ _ h => h) ?hy (by assumption) ?_
          case hy => (intro w' hSw; go_simp)
          try simp only [List.setIfInBounds_toArray, List.set_cons_zero, List.set_cons_succ]
          refine takeG 9 (v := .agg #[.int .i64 x1, .int .i64 x2, .int .i64 x3, .string x4]) rfl (by kernel_rfl) (by kernel_rfl) (by kernel_rfl) (by kernel_rfl) (fun _ _ _ h => h) ?hy (by assumption) ?_
          case hy => (intro w' hSw; obtain ⟨_, s0, s1, s2, s3⟩ := (dm).keep hSw; dsimp only at s0 s1 s2 s3; go_simp)
          try simp only [List.setIfInBounds_toArray, List.set_cons_zero, List.set_cons_succ]
          refine takeG 10 (v := .agg #[.int .i64 y1, .int .i64 y2, .int .i64 y3, .string y4]) rfl (by kernel_rfl) (by kernel_rfl) (by kernel_rfl) (by kernel_rfl) (fun _ _ _ h => h) ?hy (by assumption) ?_
          case hy => (intro w' hSw; obtain ⟨_, s0, s1, s2, s3⟩ := (dt).keep hSw; dsimp only at s0 s1 s2 s3; go_simp)
          try simp only [List.setIfInBounds_toArray, List.set_cons_zero, List.set_cons_succ]
          refine runG 11 (by kernel_rfl) rfl (by kernel_rfl) ?_
          go_simp
          refine (dueOrder_any ⟨x1, x2, x3, x4⟩ ⟨y1, y2, y3, y4⟩ _).mono ?_
          rintro e z1 ⟨rfl, bz1⟩
          have hz1 : Below wr.heap.size wr z1 := hHeld.trans bz1
          refine ⟨hz1, ?_⟩
          clear hHeld
          try simp only [Act.put, List.setIfInBounds_toArray, List.set_cons_zero, List.set_cons_succ]
          refine takeG 12 (v := .bool false) rfl (by kernel_rfl) (by kernel_rfl) (by kernel_rfl) (by kernel_rfl) (fun _ _ _ h => h) ?hy (by assumption) ?_
          case hy => (intro w' hSw; go_simp)
          try simp only [List.setIfInBounds_toArray, List.set_cons_zero, List.set_cons_succ]
          refine takeG 13 (v := .bool false) rfl (by kernel_rfl) (by kernel_rfl) (by kernel_rfl) (by kernel_rfl) (fun _ _ _ h => h) ?hy (by assumption) ?_
          case hy => (intro w' hSw; go_simp)
          try simp only [List.setIfInBounds_toArray, List.set_cons_zero, List.set_cons_succ]
          refine takeG 14 (v := .int .i64 (q : Int)) rfl (by kernel_rfl) (by kernel_rfl) (by kernel_rfl) (by kernel_rfl) (fun _ _ _ h => h) ?hy (by assumption) ?_
          case hy => (intro w' hSw; go_simp)
          try simp only [List.setIfInBounds_toArray, List.set_cons_zero, List.set_cons_succ]
          refine takeG 15 (v := .bool false) rfl (by kernel_rfl) (by kernel_rfl) (by kernel_rfl) (by kernel_rfl) (fun _ _ _ h => h) ?hy (by assumption) ?_
          case hy => (intro w' hSw; go_simp)
          try simp only [List.setIfInBounds_toArray, List.set_cons_zero, List.set_cons_succ]
          refine wpAnyH_done (by kernel_rfl) ?_ _
          have hb1 := hb.trans (hz1.mono hb.size)
          go_wp2
          go_ret2
          exact ⟨_, false, rfl, by simp [HT.out], hb1⟩
      · obtain rfl : q = l.length := by omega
        have HT : Hid (¬ thereD l ⟨y1, y2, y3, y4⟩) := fun ⟨j, hj, e1, e2⟩ => e1 (H1.out j hj hj)
        clear hn
        go_upto_region 8 with fail
        refine wp_region_held_drew (S := (fun w' => Below wr.heap.size wr w')) (by kernel_rfl) ?hS0 (fun hHeld => ?_)
        case hS0 => exact (Below.refl _ _).drew
        refine takeG 0 (v := .int .i64 (l.length : Int)) rfl (by kernel_rfl) (by kernel_rfl) (by kernel_rfl) (by kernel_rfl) (fun _ _ _ h => h) ?hy (by assumption) ?_
        case hy => (intro w' hSw; go_simp)
        try simp only [List.setIfInBounds_toArray, List.set_cons_zero, List.set_cons_succ]
        refine takeG 1 (v := .int .i64 (l.length : Int)) rfl (by kernel_rfl) (by kernel_rfl) (by kernel_rfl) (by kernel_rfl) (fun _ _ _ h => h) ?hy (by assumption) ?_
        case hy => (intro w' hSw; go_simp)
        try simp only [List.setIfInBounds_toArray, List.set_cons_zero, List.set_cons_succ]
        refine takeG 2 (v := .int .i64 (l.length : Int)) rfl (by kernel_rfl) (by kernel_rfl) (by kernel_rfl) (by kernel_rfl) (fun _ _ _ h => h) ?hy (by assumption) ?_
        case hy => (intro w' hSw; go_simp)
        try simp only [List.setIfInBounds_toArray, List.set_cons_zero, List.set_cons_succ]
        refine takeG 3 (v := .bool false) rfl (by kernel_rfl) (by kernel_rfl) (by kernel_rfl) (by kernel_rfl) (fun _ _ _ h => h) ?hy (by assumption) ?_
        case hy => (intro w' hSw; go_simp)
        try simp only [List.setIfInBounds_toArray, List.set_cons_zero, List.set_cons_succ]
        refine takeG 4 (v := .bool false) rfl (by kernel_rfl) (by kernel_rfl) (by kernel_rfl) (by kernel_rfl) (fun _ _ _ h => h) ?hy (by assumption) ?_
        case hy => (intro w' hSw; go_simp)
        try simp only [List.setIfInBounds_toArray, List.set_cons_zero, List.set_cons_succ]
        refine skipG 5 rfl (by kernel_rfl) (by kernel_rfl) (by kernel_rfl) (by kernel_rfl) (fun _ _ _ h => h) (by assumption) ?_
        try simp only [List.setIfInBounds_toArray, List.set_cons_zero, List.set_cons_succ]
        refine skipG 6 rfl (by kernel_rfl) (by kernel_rfl) (by kernel_rfl) (by kernel_rfl) (fun _ _ _ h => h) (by assumption) ?_
        try simp only [List.setIfInBounds_toArray, List.set_cons_zero, List.set_cons_succ]
        refine skipG 7 rfl (by kernel_rfl) (by kernel_rfl) (by kernel_rfl) (by kernel_rfl) (fun _ _ _ h => h) (by assumption) ?_
        try simp only [List.setIfInBounds_toArray, List.set_cons_zero, List.set_cons_succ]
        refine skipG 8 rfl (by kernel_rfl) (by kernel_rfl) (by kernel_rfl) (by kernel_rfl) (fun _ _ _ h => h) (by assumption) ?_
        try simp only [List.setIfInBounds_toArray, List.set_cons_zero, List.set_cons_succ]
        refine skipG 9 rfl (by kernel_rfl) (by kernel_rfl) (by kernel_rfl) (by kernel_rfl) (fun _ _ _ h => h) (by assumption) ?_
        try simp only [List.setIfInBounds_toArray, List.set_cons_zero, List.set_cons_succ]
        refine skipG 10 rfl (by kernel_rfl) (by kernel_rfl) (by kernel_rfl) (by kernel_rfl) (fun _ _ _ h => h) (by assumption) ?_
        try simp only [List.setIfInBounds_toArray, List.set_cons_zero, List.set_cons_succ]
        refine skipG 11 rfl (by kernel_rfl) (by kernel_rfl) (by kernel_rfl) (by kernel_rfl) (fun _ _ _ h => h) (by assumption) ?_
        try simp only [List.setIfInBounds_toArray, List.set_cons_zero, List.set_cons_succ]
        refine skipG 12 rfl (by kernel_rfl) (by kernel_rfl) (by kernel_rfl) (by kernel_rfl) (fun _ _ _ h => h) (by assumption) ?_
        try simp only [List.setIfInBounds_toArray, List.set_cons_zero, List.set_cons_succ]
        refine takeG 13 (v := .bool false) rfl (by kernel_rfl) (by kernel_rfl) (by kernel_rfl) (by kernel_rfl) (fun _ _ _ h => h) ?hy (by assumption) ?_
        case hy => (intro w' hSw; go_simp)
        try simp only [List.setIfInBounds_toArray, List.set_cons_zero, List.set_cons_succ]
        refine takeG 14 (v := .int .i64 (l.length : Int)) rfl (by kernel_rfl) (by kernel_rfl) (by kernel_rfl) (by kernel_rfl) (fun _ _ _ h => h) ?hy (by assumption) ?_
        case hy => (intro w' hSw; go_simp)
        try simp only [List.setIfInBounds_toArray, List.set_cons_zero, List.set_cons_succ]
        refine takeG 15 (v := .bool false) rfl (by kernel_rfl) (by kernel_rfl) (by kernel_rfl) (by kernel_rfl) (fun _ _ _ h => h) ?hy (by assumption) ?_
        case hy => (intro w' hSw; go_simp)
        try simp only [List.setIfInBounds_toArray, List.set_cons_zero, List.set_cons_succ]
        refine wpAnyH_done (by kernel_rfl) ?_ _
        have hb1 := hb.trans (hHeld.mono hb.size)
        go_wp2
        go_ret2
        exact ⟨_, false, rfl, by simp [HT.out], hb1⟩
end Go.Proofs.Ytlnkcbojoaoehaa
