/- The contract of promise 3's draw of a seed and a most. -/
import Derived.Test.YtndflppphhofkaaDrawN
import Derived.Test.YtndflppphhofkaaRegionRel
namespace Go.Proofs.Ytndflppphhofkaa
open Go Go.RowKit
set_option linter.unusedVariables false

/-- A new list of numbers in a region: its block, apart from the source's, holds numbers. -/
def NumsAt (b n : Nat) (v : Value) (w : World) : Prop := ∃ g, v = .slice (some ⟨g, 0, none⟩) n n ∧ g ≠ b ∧ ∀ j, j < n → ∃ x : Int, w.cell? ⟨g, j, none⟩ = some (.int .i64 x)
def NumPtr (b : Nat) (v : Value) (w : World) : Prop := ∃ g j, v = .pointer (some ⟨g, j, none⟩) ∧ g ≠ b ∧ ∃ x : Int, w.cell? ⟨g, j, none⟩ = some (.int .i64 x)
def IsNum (v : Value) : Prop := ∃ x : Int, v = .int .i64 x
def IsBelow (n : Nat) (v : Value) : Prop := ∃ r : Nat, r < n ∧ v = .int .i64 (r : Int)
/-- What is said of each operation's slot. -/
def chancePhi (b : Nat) : Nat → Value → World → Prop
  | 0, v, _ => v = .pointer (some ⟨b, 0, none⟩)
  | 1, v, _ => IsNum v
  | 2, v, w => NumsAt b 5 v w
  | 3, v, _ => v = .pointer (some ⟨b, 0, none⟩)
  | 4, v, _ => IsBelow 5 v
  | 5, v, w => NumPtr b v w
  | 6, v, _ => IsNum v
  | 7, v, w => NumsAt b 4 v w
  | 8, v, _ => v = .pointer (some ⟨b, 0, none⟩)
  | 9, v, _ => IsBelow 4 v
  | 10, v, w => NumPtr b v w
  | 11, v, _ => IsNum v
  | 12, v, _ => IsNum v
  | 13, v, _ => IsNum v
  | _, _, _ => True
theorem NumsAt.grown {b n : Nat} {v : Value} {w w' : World} (h : NumsAt b n v w) (hg : w.grownBy w' (some b)) : NumsAt b n v w' := by
  obtain ⟨g, e, hne, hc⟩ := h
  exact ⟨g, e, hne, fun j hj => by obtain ⟨x, hx⟩ := hc j hj; exact ⟨x, hg.cell hx (by simpa using hne)⟩⟩
theorem NumPtr.grown {b : Nat} {v : Value} {w w' : World} (h : NumPtr b v w) (hg : w.grownBy w' (some b)) : NumPtr b v w' := by
  obtain ⟨g, j, e, hne, x, hx⟩ := h
  exact ⟨g, j, e, hne, x, hg.cell hx (by simpa using hne)⟩
theorem chancePhi_grown {b k : Nat} {v : Value} {w w' : World} (hg : w.grownBy w' (some b)) (h : chancePhi b k v w) : chancePhi b k v w' := by
  match k, h with
  | 0, h => exact h
  | 1, h => exact h
  | 2, h => exact NumsAt.grown h hg
  | 3, h => exact h
  | 4, h => exact h
  | 5, h => exact NumPtr.grown h hg
  | 6, h => exact h
  | 7, h => exact NumsAt.grown h hg
  | 8, h => exact h
  | 9, h => exact h
  | 10, h => exact NumPtr.grown h hg
  | 11, h => exact h
  | 12, h => exact h
  | 13, h => exact h
  | _ + 14, _ => exact trivial
theorem step_val {P : Program} {o : Oper} {a : Act} {w w' : World} {v : Value} {K : Act → World → Prop} {Q : Exit → Act → World → Prop} (hrun : (execOp a.eval o).run P w = .ok (.value v) w') (h : K (a.put o.dst v) w') : Oper.wp P o a w K Q := by
  unfold Oper.wp
  rw [hrun]
  exact h
def chanceD (i : Nat) : Nat := [9, 10, 11, 12, 13, 14, 15, 16, 17, 18, 19, 20, 2, 3].getD i 0
set_option maxHeartbeats 2000000 in
set_option maxRecDepth 100000 in
theorem drawChance_any (a : Option Addr) (len cap : Nat) (zs : List Int) (w : World) (hl : len ≤ 1048576) (hrow : ByteRow w a len cap zs) :
    Calls Try.prog 10 #[.slice a len cap] w fun e w' => ∃ x y : Int, e = .returned (.tuple #[.int .i64 x, .int .i64 y]) ∧ Below w.heap.size w w' := by
  go_enter Try.func10, Try.ntmps10
  go_wp2_with fail
  refine (source_any a len cap zs _ hl hrow).mono ?_
  rintro e w1 ⟨rfl, hs1, b1⟩
  have hlt1 := hs1.lt
  go_wp2_with fail
  refine (one_any _ a len cap zs 4 (by omega) _ hs1).mono ?_
  rintro e w2 ⟨r, rfl, hs2, hg2⟩
  have b2 := grown_below b1 hg2 (Nat.le_refl _)
  clear hs1 hg2 b1
  cases r with
  | false =>
    go_wp2_with fail
    refine (n_any _ a len cap zs 256 (by omega) _ hs2).mono ?_
    rintro e w3 ⟨n1, rfl, _, hn1, hs3, hg3⟩
    have b3 := grown_below b2 hg3 (Nat.le_refl _)
    clear hs2 hg3 b2 hn1
    go_wp2_with fail
    refine (n_any _ a len cap zs 256 (by omega) _ hs3).mono ?_
    rintro e w4 ⟨n2, rfl, _, hn2, hs4, hg4⟩
    have b4 := grown_below b3 hg4 (Nat.le_refl _)
    clear hs3 hg4 b3 hn2
    go_wp2_with fail
    refine (n_any _ a len cap zs 256 (by omega) _ hs4).mono ?_
    rintro e w5 ⟨n3, rfl, _, hn3, hs5, hg5⟩
    have b5 := grown_below b4 hg5 (Nat.le_refl _)
    clear hs4 hg5 b4 hn3
    go_wp2_with fail
    refine (n_any _ a len cap zs 100 (by omega) _ hs5).mono ?_
    rintro e w6 ⟨n4, rfl, _, hn4, hs6, hg6⟩
    have b6 := grown_below b5 hg6 (Nat.le_refl _)
    clear hs5 hg6 b5 hn4
    go_wp2
    go_ret2
    exact ⟨_, _, rfl, b6⟩
  | true =>
    go_upto_region 3 with fail
    go_cut [2, 3] (fun v2 v3 wc => IsNum v2 ∧ IsNum v3 ∧ Below w.heap.size w wc)
    case rest =>
      obtain ⟨⟨x, rfl⟩, ⟨y, rfl⟩, b3⟩ := hcut
      go_wp2
      go_ret2
      exact ⟨x, y, rfl, b3⟩
    case first =>
      refine wp_region_any (by kernel_rfl) ?_
      refine wpAny_rel chanceD (chancePhi w.heap.size) (fun w' => Src w' w.heap.size a len cap zs ∧ Below w.heap.size w w') _ (by kernel_rfl) ?inj ?step ?fin _ _ _ _ (List.range 14) (by kernel_rfl) (Nat.le_refl 14) ?un ⟨rfl, rfl, fun _ _ => rfl⟩ ⟨hs2, b2.drew⟩ ?none
      case inj => exact (show ∀ i, i < 14 → ∀ j, j < 14 → chanceD i = chanceD j → i = j by decide)
      case un => exact fun i hi _ => List.mem_range.2 hi
      case none =>
        intro i h
        exfalso
        by_cases hi : i < 14
        · simp [hi] at h
        · simp [hi] at h
      case fin =>
        intro fa fw hF hJ hφ
        obtain ⟨x, hx⟩ := (hφ 12 (show 12 < 14 by decide) : IsNum _)
        obtain ⟨y, hy⟩ := (hφ 13 (show 13 < 14 by decide) : IsNum _)
        obtain ⟨ft, fd⟩ := fa
        obtain ⟨hd, hz, hs⟩ := hF
        have e := tmps_slots ft 34 hz
        simp only [List.range, List.range.loop, List.map] at e
        have hu : ∀ s, (∀ i, i < 14 → chanceD i ≠ s) → ft.getD s undef = _ := hs
        rw [hu 0 (by decide), hu 1 (by decide), hu 4 (by decide), hu 5 (by decide), hu 6 (by decide), hu 7 (by decide), hu 8 (by decide), hu 21 (by decide), hu 22 (by decide), hu 23 (by decide), hu 24 (by decide), hu 25 (by decide), hu 26 (by decide), hu 27 (by decide), hu 28 (by decide), hu 29 (by decide), hu 30 (by decide), hu 31 (by decide), hu 32 (by decide), hu 33 (by decide)] at e
        have hx' : ft.getD 2 undef = .int .i64 x := hx
        have hy' : ft.getD 3 undef = .int .i64 y := hy
        obtain ⟨z9, g9⟩ : ∃ z, ft.getD 9 undef = z := ⟨_, rfl⟩
        obtain ⟨z10, g10⟩ : ∃ z, ft.getD 10 undef = z := ⟨_, rfl⟩
        obtain ⟨z11, g11⟩ : ∃ z, ft.getD 11 undef = z := ⟨_, rfl⟩
        obtain ⟨z12, g12⟩ : ∃ z, ft.getD 12 undef = z := ⟨_, rfl⟩
        obtain ⟨z13, g13⟩ : ∃ z, ft.getD 13 undef = z := ⟨_, rfl⟩
        obtain ⟨z14, g14⟩ : ∃ z, ft.getD 14 undef = z := ⟨_, rfl⟩
        obtain ⟨z15, g15⟩ : ∃ z, ft.getD 15 undef = z := ⟨_, rfl⟩
        obtain ⟨z16, g16⟩ : ∃ z, ft.getD 16 undef = z := ⟨_, rfl⟩
        obtain ⟨z17, g17⟩ : ∃ z, ft.getD 17 undef = z := ⟨_, rfl⟩
        obtain ⟨z18, g18⟩ : ∃ z, ft.getD 18 undef = z := ⟨_, rfl⟩
        obtain ⟨z19, g19⟩ : ∃ z, ft.getD 19 undef = z := ⟨_, rfl⟩
        obtain ⟨z20, g20⟩ : ∃ z, ft.getD 20 undef = z := ⟨_, rfl⟩
        rw [hx', hy', g9, g10, g11, g12, g13, g14, g15, g16, g17, g18, g19, g20] at e
        clear g9 g10 g11 g12 g13 g14 g15 g16 g17 g18 g19 g20 hx hy hx' hy' hu hs hz hφ
        subst e
        obtain rfl : fd = [] := hd
        go_wp2
        go_meet
        case rel => exact ⟨⟨x, rfl⟩, ⟨y, rfl⟩, hJ.2⟩
      case step =>
        intro i o ho fa fw hF hJ hpre
        have hi : i < 14 := (Array.getElem?_eq_some_iff.1 ho).1
        have h4 : fa.tmps[4]?.getD undef = .pointer (some ⟨w.heap.size, 0, none⟩) := by
          have := hF.2.2 4 (show ∀ i, i < 14 → chanceD i ≠ 4 by decide)
          simpa using this
        obtain rfl | rfl | rfl | rfl | rfl | rfl | rfl | rfl | rfl | rfl | rfl | rfl | rfl | rfl : i = 0 ∨ i = 1 ∨ i = 2 ∨ i = 3 ∨ i = 4 ∨ i = 5 ∨ i = 6 ∨ i = 7 ∨ i = 8 ∨ i = 9 ∨ i = 10 ∨ i = 11 ∨ i = 12 ∨ i = 13 := by omega
        all_goals (obtain rfl := Option.some.inj ho)
        · refine step_val (v := .pointer (some ⟨w.heap.size, 0, none⟩)) (w' := fw) (by go_simp) ⟨_, rfl, rfl, hJ, fun k u h => h⟩
        · have q : fa.tmps.getD 9 undef = .pointer (some ⟨w.heap.size, 0, none⟩) := hpre ⟨0, .data⟩ (by simp) rfl
          have h9 : fa.tmps[9]?.getD undef = .pointer (some ⟨w.heap.size, 0, none⟩) := by simpa using q
          go_simp
          refine (edge_any _ a len cap zs _ hJ.1).mono ?_
          rintro e w3 ⟨r, rfl, _, hs3, hg3⟩
          exact ⟨_, rfl, ⟨r, rfl⟩, ⟨hs3, grown_below hJ.2 hg3 (Nat.le_refl _)⟩, fun k u h => chancePhi_grown hg3 h⟩
        · obtain ⟨r, q1⟩ := (hpre ⟨1, .data⟩ (by simp) rfl : IsNum (fa.tmps.getD 10 undef))
          have e1 : fa.tmps[10]?.getD undef = .int .i64 r := by simpa [chanceD] using q1
          refine step_val (v := .slice (some ⟨fw.heap.size, 0, none⟩) 5 5) (w' := fw.alloc (.cells #[.int .i64 (-1), .int .i64 0, .int .i64 2147483647, .int .i64 2147483648, .int .i64 r] 2)) (by go_simp) ⟨_, rfl, ⟨fw.heap.size, rfl, by have := hJ.1.lt; omega, fun j hj => ?_⟩, ⟨hJ.1.alloc _, hJ.2.alloc hJ.2.size _⟩, fun k u h => chancePhi_grown (World.grownBy_alloc _ _ _) h⟩
          rw [World.cell?_alloc_at _ _ _ _ rfl]
          match j, hj with
          | 0, _ => exact ⟨_, rfl⟩
          | 1, _ => exact ⟨_, rfl⟩
          | 2, _ => exact ⟨_, rfl⟩
          | 3, _ => exact ⟨_, rfl⟩
          | 4, _ => exact ⟨_, rfl⟩
        · exact step_val (v := .pointer (some ⟨w.heap.size, 0, none⟩)) (w' := fw) (by go_simp) ⟨_, rfl, rfl, hJ, fun k u h => h⟩
        · have q : fa.tmps.getD 12 undef = .pointer (some ⟨w.heap.size, 0, none⟩) := hpre ⟨3, .data⟩ (by simp) rfl
          have h9 : fa.tmps[12]?.getD undef = .pointer (some ⟨w.heap.size, 0, none⟩) := by simpa using q
          go_simp
          refine (n_any _ a len cap zs 5 (by omega) _ hJ.1).mono ?_
          rintro e w3 ⟨r, rfl, _, hr, hs3, hg3⟩
          obtain ⟨r, rfl⟩ := Int.eq_ofNat_of_zero_le (hr (by omega)).1
          exact ⟨_, rfl, ⟨r, by have := (hr (by omega)).2; omega, rfl⟩, ⟨hs3, grown_below hJ.2 hg3 (Nat.le_refl _)⟩, fun k u h => chancePhi_grown hg3 h⟩
        · obtain ⟨g, q1, hne, hc⟩ := (hpre ⟨2, .data⟩ (by simp) rfl : NumsAt w.heap.size 5 (fa.tmps.getD 11 undef) fw)
          obtain ⟨r, hr, q2⟩ := (hpre ⟨4, .data⟩ (by simp) rfl : IsBelow 5 (fa.tmps.getD 13 undef))
          have e1 : fa.tmps[11]?.getD undef = .slice (some ⟨g, 0, none⟩) 5 5 := by simpa [chanceD] using q1
          have e2 : fa.tmps[13]?.getD undef = .int .i64 (r : Int) := by simpa [chanceD] using q2
          have hr' : (r : Int) < 5 := by omega
          obtain ⟨x, hx⟩ := hc r hr
          exact step_val (v := .pointer (some ⟨g, r, none⟩)) (w' := fw) (by go_simp) ⟨_, rfl, ⟨g, r, rfl, hne, x, hx⟩, hJ, fun k u h => h⟩
        · obtain ⟨g, j, q1, hne, x, hx⟩ := (hpre ⟨5, .data⟩ (by simp) rfl : NumPtr w.heap.size (fa.tmps.getD 14 undef) fw)
          have e1 : fa.tmps[14]?.getD undef = .pointer (some ⟨g, j, none⟩) := by simpa [chanceD] using q1
          exact step_val (v := .int .i64 x) (w' := fw) (by go_simp) ⟨_, rfl, ⟨x, rfl⟩, hJ, fun k u h => h⟩
        · refine step_val (v := .slice (some ⟨fw.heap.size, 0, none⟩) 4 4) (w' := fw.alloc (.cells #[.int .i64 0, .int .i64 1, .int .i64 1000000, .int .i64 1000001] 2)) (by go_simp) ⟨_, rfl, ⟨fw.heap.size, rfl, by have := hJ.1.lt; omega, fun j hj => ?_⟩, ⟨hJ.1.alloc _, hJ.2.alloc hJ.2.size _⟩, fun k u h => chancePhi_grown (World.grownBy_alloc _ _ _) h⟩
          rw [World.cell?_alloc_at _ _ _ _ rfl]
          match j, hj with
          | 0, _ => exact ⟨_, rfl⟩
          | 1, _ => exact ⟨_, rfl⟩
          | 2, _ => exact ⟨_, rfl⟩
          | 3, _ => exact ⟨_, rfl⟩
        · exact step_val (v := .pointer (some ⟨w.heap.size, 0, none⟩)) (w' := fw) (by go_simp) ⟨_, rfl, rfl, hJ, fun k u h => h⟩
        · have q : fa.tmps.getD 17 undef = .pointer (some ⟨w.heap.size, 0, none⟩) := hpre ⟨8, .data⟩ (by simp) rfl
          have h9 : fa.tmps[17]?.getD undef = .pointer (some ⟨w.heap.size, 0, none⟩) := by simpa using q
          go_simp
          refine (n_any _ a len cap zs 4 (by omega) _ hJ.1).mono ?_
          rintro e w3 ⟨r, rfl, _, hr, hs3, hg3⟩
          obtain ⟨r, rfl⟩ := Int.eq_ofNat_of_zero_le (hr (by omega)).1
          exact ⟨_, rfl, ⟨r, by have := (hr (by omega)).2; omega, rfl⟩, ⟨hs3, grown_below hJ.2 hg3 (Nat.le_refl _)⟩, fun k u h => chancePhi_grown hg3 h⟩
        · obtain ⟨g, q1, hne, hc⟩ := (hpre ⟨7, .data⟩ (by simp) rfl : NumsAt w.heap.size 4 (fa.tmps.getD 16 undef) fw)
          obtain ⟨r, hr, q2⟩ := (hpre ⟨9, .data⟩ (by simp) rfl : IsBelow 4 (fa.tmps.getD 18 undef))
          have e1 : fa.tmps[16]?.getD undef = .slice (some ⟨g, 0, none⟩) 4 4 := by simpa [chanceD] using q1
          have e2 : fa.tmps[18]?.getD undef = .int .i64 (r : Int) := by simpa [chanceD] using q2
          have hr' : (r : Int) < 4 := by omega
          obtain ⟨x, hx⟩ := hc r hr
          exact step_val (v := .pointer (some ⟨g, r, none⟩)) (w' := fw) (by go_simp) ⟨_, rfl, ⟨g, r, rfl, hne, x, hx⟩, hJ, fun k u h => h⟩
        · obtain ⟨g, j, q1, hne, x, hx⟩ := (hpre ⟨10, .data⟩ (by simp) rfl : NumPtr w.heap.size (fa.tmps.getD 19 undef) fw)
          have e1 : fa.tmps[19]?.getD undef = .pointer (some ⟨g, j, none⟩) := by simpa [chanceD] using q1
          exact step_val (v := .int .i64 x) (w' := fw) (by go_simp) ⟨_, rfl, ⟨x, rfl⟩, hJ, fun k u h => h⟩
        · obtain ⟨x, q1⟩ := (hpre ⟨6, .data⟩ (by simp) rfl : IsNum (fa.tmps.getD 15 undef))
          have e1 : fa.tmps[15]?.getD undef = .int .i64 x := by simpa [chanceD] using q1
          exact step_val (v := .int .i64 x) (w' := fw) (by go_simp) ⟨_, rfl, ⟨x, rfl⟩, hJ, fun k u h => h⟩
        · obtain ⟨x, q1⟩ := (hpre ⟨11, .data⟩ (by simp) rfl : IsNum (fa.tmps.getD 20 undef))
          have e1 : fa.tmps[20]?.getD undef = .int .i64 x := by simpa [chanceD] using q1
          exact step_val (v := .int .i64 x) (w' := fw) (by go_simp) ⟨_, rfl, ⟨x, rfl⟩, hJ, fun k u h => h⟩
end Go.Proofs.Ytndflppphhofkaa
