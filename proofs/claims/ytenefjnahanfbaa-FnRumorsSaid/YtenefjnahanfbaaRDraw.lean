/- Rumors of the draws; the draws of promise 7. -/
import Derived.Test.YtenefjnahanfbaaFDraw
import Derived.Test.YtenefjnahanfbaaRPut
import Derived.Test.YtenefjnahanfbaaRPickS
namespace Go.Proofs.Ytenefjnahanfbaa
open Go Go.RowKit
set_option linter.unusedVariables false
set_option linter.unusedSimpArgs false

theorem rowGrownR {w w' : World} {lo n b : Nat} {v : Value} {xs : List Value} {e : TypeId} {size : Nat} (h : w.ownsRow lo e size v n xs) (hg : w.grownBy w' (some b)) (hb : b < lo) : w'.ownsRow lo e size v n xs :=
  rowKeep h (G := fun q => q ≠ b) ((Keeps.refl _ _).grown hg (fun k e h => h (Option.some.inj e).symm)) (fun g e => by have := (h.lt g e).1; omega)
theorem below_grownR {w w' : World} {r : Option Nat} (h : Below w.heap.size w w') : w.grownBy w' r := ⟨h.os, h.tape, h.output, h.size, fun i hi _ => h.block i hi⟩
theorem Src.belowR {w w' : World} {b : Nat} {a : Option Addr} {len cap : Nat} {zs : List Int} (h : Src w b a len cap zs) (k : Below w.heap.size w w') : Src w' b a len cap zs := h.keep k h.lt h.row_lt
/-- A drawn row of rumors. -/
def RRow (w : World) (base : Nat) (v : Value) (l : List RumV) : Prop := w.ownsRow base 39 4 v l.length (cellsOf RumV.cells l)
theorem RRow.parts {w : World} {base : Nat} {v : Value} {l : List RumV} (h : RRow w base v l) : ∃ a cap, v = .slice a l.length cap ∧ CellRow w a (cellsOf RumV.cells l) := OwnsRow.cellRowR h
theorem RRow.grown {w w' : World} {base b : Nat} {v : Value} {l : List RumV} (h : RRow w base v l) (hg : w.grownBy w' (some b)) (hb : b < base) : RRow w' base v l := rowGrownR h hg hb
theorem RRow.keep {w w' : World} {base : Nat} {v : Value} {l : List RumV} (h : RRow w base v l) (k : Below w.heap.size w w') : RRow w' base v l := rowBelow h k
theorem RRow.mono {w : World} {base base' : Nat} {v : Value} {l : List RumV} (h : RRow w base v l) (hb : base' ≤ base) : RRow w base' v l := rowLe h hb
theorem putR_ok {l : List RumV} {f : FactV} {c : Int} {m : List RumV} (h : PutRIs l f c m) : c = 0 ∨ c = 1 ∨ c = 2 := by
  rcases h with ⟨_, e, _⟩ | ⟨_, _, e, _⟩ | ⟨_, _, e, _⟩ <;> simp [e]
set_option maxHeartbeats 4000000 in
set_option maxRecDepth 100000 in
theorem rumorsOf_any (b : Nat) (a : Option Addr) (len cap : Nat) (zs : List Int) (w : World) (hs : Src w b a len cap zs) :
    Calls Try.prog 27 #[.pointer (some ⟨b, 0, none⟩)] w fun e w' => ∃ v l, e = .returned v ∧ l.length ≤ 7 ∧ RRow w' w.heap.size v l ∧ Src w' b a len cap zs ∧ w.grownBy w' (some b) := by
  have hlt := hs.lt
  have hs0 := hs.alloc (.cells #[] 39)
  have hg0 := World.grownBy_alloc w (.cells #[] 39) (some b)
  have S0 : RRow (w.alloc (.cells #[] 39)) w.heap.size (.slice (some ⟨w.heap.size, 0, none⟩) 0 0) [] := World.ownsRow_lit _ #[] 0 (Nat.le_refl _) (by simp [maxLen]) rfl
  obtain ⟨W, hW⟩ : ∃ W, w.alloc (.cells #[] 39) = W := ⟨_, rfl⟩
  rw [hW] at hs0 hg0 S0
  have HW : Hid (_ = W) := hW
  clear hW
  go_enter Try.func27, Try.ntmps27
  go_wp2_with fail
  rw [HW.out]
  clear HW
  refine (n_any b a len cap zs 7 (by omega) _ hs0).mono ?_
  rintro e w1 ⟨r1, rfl, _, hr1, hs1, hg1⟩
  have S1 := S0.grown hg1 hlt
  have hgw1 := grown_trans hg0 hg1
  have hr1' := hr1 (by omega)
  clear hs0 hg0 hg1 S0 hr1
  go_wp2
  go_loopw [4, 3] (fun i v wr => ∃ (k : Int) (l : List RumV), i = .int .i64 k ∧ 0 ≤ k ∧ k ≤ 7 ∧ l.length ≤ 6 ∧ RRow wr w.heap.size v l ∧ Src wr b a len cap zs ∧ w.grownBy wr (some b)) (fun i _ _ => (intOf i).toNat)
  case atStart => exact ⟨r1, [], rfl, hr1'.1, by omega, by simp, S1, hs1, hgw1⟩
  case round =>
    clear S1 hs1 hgw1 hr1'
    obtain ⟨k, l, rfl, hk0, hk6, hl6, hS, hsr, hgr⟩ := hrel
    obtain ⟨av, cv, rfl, _⟩ := hS.parts
    by_cases hk : 0 < k
    · have hwk : IntKind.i64.wrap (k - 1) = k - 1 := by rw [IntKind.wrap_i64]; omega
      go_wp2_with fail
      refine (factOf_any b a len cap zs _ hsr).mono ?_
      rintro e w2 ⟨d, rfl, hs2, hg2⟩
      have hS2 := hS.grown hg2 hlt
      have hgr2 := grown_trans hgr hg2
      obtain ⟨av', cv', e', row2⟩ := hS2.parts
      simp only [Value.slice.injEq, true_and] at e'
      obtain ⟨rfl, rfl⟩ := e'
      obtain ⟨c, m, hP⟩ := putR_ex l d
      have HP : Hid (PutRIs l d c m) := hP
      have hm6 := putR_len hP
      obtain ⟨d1, d2, d3⟩ := d
      unfold FactV.val
      clear hS hsr hgr hg2 hP
      go_wp2_with fail
      refine (specRPut_any av cv l ⟨d1, d2, d3⟩ c m _ HP.out (by omega) row2).mono ?_
      rintro e w3 ⟨v3, u3, rfl, own3, own3f, b3⟩
      have hs3 := hs2.belowR b3
      have hS3 := hS2.keep b3
      have hgr3 := grown_trans hgr2 (below_grownR b3)
      have own3w := rowLe own3 (show w.heap.size ≤ w2.heap.size from hgr2.size)
      obtain ⟨va, vn, vc, rfl⟩ := rowShape own3
      obtain ⟨ua, un, uc, rfl⟩ := rowShape own3f
      unfold outR
      clear hs2 hS2 b3 own3 own3f row2 HP
      have cA : Below w3.heap.size w3 (w3.alloc (.cells #[.slice va vn vc, .slice ua un uc, .int .i64 c] 30)) := (Below.refl _ _).alloc (Nat.le_refl _) _
      have P4 := BlkIs.new w3 30 #[.slice va vn vc, .slice ua un uc, .int .i64 c]
      have hs4 := hs3.belowR cA
      have hS4 := hS3.keep cA
      have own4 : RRow _ w.heap.size (.slice va vn vc) m := rowBelow own3w cA
      have hgr4 := grown_trans hgr3 (below_grownR (r := some b) cA)
      obtain ⟨w4, hw4⟩ : ∃ y, w3.alloc (.cells #[.slice va vn vc, .slice ua un uc, .int .i64 c] 30) = y := ⟨_, rfl⟩
      obtain ⟨kb, hkb⟩ : ∃ k, w3.heap.size = k := ⟨_, rfl⟩
      rw [hw4] at P4 hs4 hS4 own4 hgr4
      rw [hkb] at P4
      have hbk : b < kb := by rw [← hkb]; exact hs3.lt
      have hwk2 : w.heap.size ≤ kb := by rw [← hkb]; exact hgr3.size
      have HW4 : Hid (_ = w4) := hw4
      clear hw4 cA hs3 hS3 own3w hgr3 hgr2
      go_wp2_with fail
      rw [HW4.out]
      clear HW4 hkb
      refine (one_any b a len cap zs 3 (by omega) _ hs4).mono ?_
      rintro e w5 ⟨o, rfl, hs5, hg5⟩
      have P5 := P4.grown hg5 (by omega)
      have hS5 := hS4.grown hg5 hlt
      have own5 := own4.grown hg5 hlt
      have hgr5 := grown_trans hgr4 hg5
      clear P4 hs4 hS4 own4 hgr4 hg5
      cases o with
      | false =>
        have q0 : w5.cell? ⟨kb, 0, none⟩ = some (.slice va vn vc) := P5.cell 0
        have q2 : w5.cell? ⟨kb, 2, none⟩ = some (.int .i64 c) := P5.cell 2
        clear P5
        by_cases hc : c = 0
        · have hc' : (c == 0) = true := beq_iff_eq.2 hc
          clear hc hS5
          go_wp2
          go_roundw
          case rel => exact ⟨k - 1, m, rfl, by omega, by omega, hm6, own5, hs5, hgr5⟩
          case measure => simp [intOf]; omega
        · have hc' : (c == 0) = false := beq_eq_false_iff_ne.2 hc
          clear hc own5
          go_wp2
          go_roundw
          case rel => exact ⟨k - 1, l, rfl, by omega, by omega, hl6, hS5, hs5, hgr5⟩
          case measure => simp [intOf]; omega
      | true =>
        clear own5
        go_wp2_with fail
        refine (n_any b a len cap zs 4 (by omega) _ hs5).mono ?_
        rintro e w6 ⟨r6, rfl, _, _, hs6, hg6⟩
        have P6 := P5.grown hg6 (by omega)
        have hS6 := hS5.grown hg6 hlt
        have hgr6 := grown_trans hgr5 hg6
        obtain ⟨av', cv', e', row6⟩ := hS6.parts
        simp only [Value.slice.injEq, true_and] at e'
        obtain ⟨rfl, rfl⟩ := e'
        obtain ⟨c2, m2, f2, hP2⟩ := pickR_ex l r6
        have HP2 : Hid (PickRIs l r6 c2 m2 f2) := hP2
        have hm26 := (pickR_len hP2).1
        clear P5 hs5 hS5 hgr5 hg6 hP2
        go_wp2_with fail
        refine (specRPick_any av cv l r6 c2 m2 f2 _ HP2.out (by omega) row6).mono ?_
        rintro e w7 ⟨v7, u7, rfl, own7, own7f, b7⟩
        have hs7 := hs6.belowR b7
        have hS7 := hS6.keep b7
        have P7 := P6.keep b7
        have hgr7 := grown_trans hgr6 (below_grownR b7)
        have hw6k : kb < w6.heap.size := P6.lt
        have own7w : RRow w7 w.heap.size v7 m2 := rowLe own7 (show w.heap.size ≤ w6.heap.size from hgr6.size)
        have hnv : ∀ g, v7.ownBlock = some g → g ≠ kb := fun g hg => by have := (own7.lt g hg).1; omega
        obtain ⟨va7, vn7, vc7, rfl⟩ := rowShape own7
        obtain ⟨ua7, un7, uc7, rfl⟩ := rowShape own7f
        unfold outR
        have hnl : Value.ownBlock (.slice av l.length cv) ≠ some kb := P6.not_row (by decide) hS6
        clear hs6 hS6 P6 hgr6 b7 own7 own7f row6 HP2
        have g0 : w7.cell? ⟨kb, 0, none⟩ = some (.slice va vn vc) := P7.cell 0
        have g1 : w7.cell? ⟨kb, 1, none⟩ = some (.slice ua un uc) := P7.cell 1
        have g2 : w7.cell? ⟨kb, 2, none⟩ = some (.int .i64 c) := P7.cell 2
        have z0 := P7.fz 0
        have z1 := P7.fz 1
        have z2 := P7.fz 2
        have P8 := blk_put3 P7 (.slice va7 vn7 vc7) (.slice ua7 un7 uc7) (.int .i64 c2)
        have K8 := keeps_three w7 kb (.slice va7 vn7 vc7) (.slice ua7 un7 uc7) (.int .i64 c2)
        have hS8 : RRow _ w.heap.size (.slice av l.length cv) l := rowKeep hS7 K8 (fun g hg e => hnl (by rw [hg, e]))
        have own8 : RRow _ w.heap.size (.slice va7 vn7 vc7) m2 := rowKeep own7w K8 hnv
        have B8 : Below kb w7 _ := K8.toBelow (Nat.le_of_lt (by have := P7.lt; omega)) (fun q hq => by omega)
        have hs8 := hs7.keep B8 hbk (fun h x hx => by have := hs.row_lt h x hx; omega)
        have hgr8 := grown_own hgr7 (show w7.grownBy _ (some kb) from ⟨K8.os, K8.tape, K8.output, K8.size, fun i hi hne => K8.block i hi (fun e => hne (by rw [e]))⟩) (fun g hg => by obtain rfl := Option.some.inj hg; exact hwk2)
        obtain ⟨Y, hY⟩ : ∃ Y, (((w7.setCell ⟨kb, 0, none⟩ (.slice va7 vn7 vc7)).setCell ⟨kb, 1, none⟩ (.slice ua7 un7 uc7)).setCell ⟨kb, 2, none⟩ (.int .i64 c2)) = Y := ⟨_, rfl⟩
        rw [hY] at P8 hS8 own8 hs8 hgr8
        have HY : Hid (_ = Y) := hY
        clear hY K8 B8 hs7 hS7 own7w hgr7 P7 hnl hnv
        have q0 : Y.cell? ⟨kb, 0, none⟩ = some (.slice va7 vn7 vc7) := P8.cell 0
        have q2 : Y.cell? ⟨kb, 2, none⟩ = some (.int .i64 c2) := P8.cell 2
        clear P8
        by_cases hc : c2 = 0
        · have hc' : (c2 == 0) = true := beq_iff_eq.2 hc
          clear hc hS8
          go_upto_region 8 with fail
          rw [HY.out]
          clear HY g0 g1 g2 z0 z1 z2
          go_wp2
          go_roundw
          case rel => exact ⟨k - 1, m2, rfl, by omega, by omega, hm26, own8, hs8, hgr8⟩
          case measure => simp [intOf]; omega
        · have hc' : (c2 == 0) = false := beq_eq_false_iff_ne.2 hc
          clear hc own8
          go_upto_region 8 with fail
          rw [HY.out]
          clear HY g0 g1 g2 z0 z1 z2
          go_wp2
          go_roundw
          case rel => exact ⟨k - 1, l, rfl, by omega, by omega, hl6, hS8, hs8, hgr8⟩
          case measure => simp [intOf]; omega
    · go_wp2_with fail
      refine (one_any b a len cap zs 15 (by omega) _ hsr).mono ?_
      rintro e w2 ⟨o, rfl, hs2, hg2⟩
      have hS2 := hS.grown hg2 hlt
      have hgr2 := grown_trans hgr hg2
      clear hS hsr hgr hg2
      cases o with
      | false =>
        go_wp2
        go_ret
        exact ⟨_, l, rfl, by omega, hS2, hs2, hgr2⟩
      | true =>
        by_cases hl0 : l.length = 0
        · have hl0I : ¬ (0 : Int) < (l.length : Int) := by omega
          clear hl0
          go_wp2
          go_ret
          exact ⟨_, l, rfl, by omega, hS2, hs2, hgr2⟩
        · have hl0I : (0 : Int) < (l.length : Int) := by omega
          obtain ⟨y, r, hly⟩ : ∃ y r, l = y :: r := by
            cases l with
            | nil => exact absurd rfl hl0
            | cons y r => exact ⟨y, r, rfl⟩
          obtain ⟨g, hga⟩ : ∃ g, av = some ⟨g, 0, none⟩ := by
            rcases own_cellsR hS2 with ⟨e, e2⟩ | ⟨g, c', e, _⟩
            · rw [e2] at hl0; exact absurd rfl hl0
            · simp only [Value.slice.injEq, true_and] at e
              exact ⟨g, e.1⟩
          subst hga
          have HLY : Hid (l = y :: r) := hly
          clear hly
          go_wp2_with fail
          refine (n_any b a len cap zs 2 (by omega) _ hs2).mono ?_
          rintro e w3 ⟨r3, rfl, _, _, hs3, hg3⟩
          have hS3 := hS2.grown hg3 hlt
          have hgr3 := grown_trans hgr2 hg3
          clear hs2 hS2 hgr2 hg3
          by_cases h3 : r3 = 0
          · have h3' : (r3 == 0) = true := beq_iff_eq.2 h3
            subst h3
            have cA : Below w3.heap.size w3 (w3.alloc (.cells #[.int .i64 (-1), .int .i64 3, .int .i64 4] 2)) := (Below.refl _ _).alloc (Nat.le_refl _) _
            have hs4 := hs3.belowR cA
            have hS4 := hS3.keep cA
            have hgr4 := grown_trans hgr3 (below_grownR (r := some b) cA)
            have PA := BlkIs.new w3 2 #[.int .i64 (-1), .int .i64 3, .int .i64 4]
            have hb3 := hs3.lt
            clear cA hs3 hS3 hgr3
            go_wp2_with fail
            refine (n_any b a len cap zs 3 (by omega) _ hs4).mono ?_
            rintro e w5 ⟨r5, rfl, _, hr5, hs5, hg5⟩
            have P5 := PA.grown hg5 (by omega)
            have hS5 := hS4.grown hg5 hlt
            have hgr5 := grown_trans hgr4 hg5
            have hr5' := hr5 (by omega)
            obtain ⟨q5, rfl⟩ := Int.eq_ofNat_of_zero_le hr5'.1
            have hq5 : q5 < 3 := by omega
            have hq5I : (q5 : Int) < 3 := by omega
            obtain ⟨x, hx⟩ : ∃ x : Int, w5.cell? ⟨w3.heap.size, q5, none⟩ = some (.int .i64 x) := by
              rw [P5.cell]
              match q5, hq5 with
              | 0, _ => exact ⟨_, rfl⟩
              | 1, _ => exact ⟨_, rfl⟩
              | 2, _ => exact ⟨_, rfl⟩
            obtain ⟨hr6, hg6⟩ := World.ownsRow.stored hS5 3 (.int .i64 x)
            have hcell : (cellsOf RumV.cells l).set 3 (.int .i64 x) = cellsOf RumV.cells (⟨y.node, y.inc, y.st, x⟩ :: r) := by rw [HLY.out]; simp [cellsOf, RumV.cells]
            have hlen : l.length = (⟨y.node, y.inc, y.st, x⟩ :: r : List RumV).length := by rw [HLY.out]; rfl
            rw [hcell] at hr6
            have hR6 : RRow (w5.setCell ⟨g, 3, none⟩ (.int .i64 x)) w.heap.size (.slice (some ⟨g, 0, none⟩) l.length cv) (⟨y.node, y.inc, y.st, x⟩ :: r) := by unfold RRow; rw [← hlen]; exact hr6
            have c3 : w5.cell? ⟨g, 3, none⟩ = some (.int .i64 y.sent) := by
              obtain ⟨a', c', e', row⟩ := hS5.parts
              simp only [Value.slice.injEq, true_and] at e'
              rw [← e'.1] at row
              have := row.rum (i := 0) (by omega) (x := y) (by simp [HLY.out])
              have h3 := this.c3
              simpa using h3
            have f3 : w5.frozen? ⟨g, 3, none⟩ = false := World.ownsRow.frozenAt hS5 3
            have hgb : w.heap.size ≤ g := (World.ownsRow.lt hS5 g rfl).1
            have B6 : Below g w5 (w5.setCell ⟨g, 3, none⟩ (.int .i64 x)) := (Below.refl _ _).setCell (p := ⟨g, 3, none⟩) (Nat.le_refl _) _
            have hs6 := hs5.keep B6 (by omega) (fun h x hx => by have := hs.row_lt h x hx; omega)
            have hgr6 := grown_own hgr5 (grown_set w5 g 3 (.int .i64 x)) (fun q hq => by obtain rfl := Option.some.inj hq; exact hgb)
            have hl7 : (⟨y.node, y.inc, y.st, x⟩ :: r : List RumV).length ≤ 7 := by rw [← hlen]; omega
            clear PA hS4 hs4 hgr4 hg5 P5 hr5 hr5' hr6 hg6 hcell B6 hS5 hs5 hgr5 hlen
            go_wp2
            go_ret
            exact ⟨_, _, rfl, hl7, hR6, hs6, hgr6⟩
          · have h3' : (r3 == 0) = false := beq_eq_false_iff_ne.2 h3
            obtain ⟨a', c', e', row3⟩ := hS3.parts
            simp only [Value.slice.injEq, true_and] at e'
            obtain ⟨rfl, rfl⟩ := e'
            have dy := row3.rum (i := 0) (by omega) (x := y) (by simp [HLY.out])
            obtain ⟨y1, y2, y3, y4⟩ := y
            obtain ⟨_, c0, c1, c2, c3⟩ := dy
            simp only [Nat.zero_mul, Nat.add_zero, Nat.zero_add] at c0 c1 c2 c3
            have cA : Below w3.heap.size w3 (w3.alloc (.cells #[.int .i64 y1, .int .i64 y2, .int .i64 y3, .int .i64 y4] 39)) := (Below.refl _ _).alloc (Nat.le_refl _) _
            have hs4 := hs3.belowR cA
            have hS4 : World.ownsRow _ w.heap.size 39 4 _ _ _ := hS3.keep cA
            have hgr4 := grown_trans hgr3 (below_grownR (r := some b) cA)
            have hn1 := oneRowR w3 ⟨y1, y2, y3, y4⟩
            have hbz : w.heap.size ≤ (w3.alloc (.cells #[.int .i64 y1, .int .i64 y2, .int .i64 y3, .int .i64 y4] 39)).heap.size := hgr4.size
            clear cA hs3 hS3 hgr3 row3 h3
            go_wp2_with (at_builtin; refine append_rumsL rfl rfl _ _ rfl w.heap.size _ _ _ rfl hS4 ⟨w3.heap.size, 0, none⟩ 1 1 [⟨y1, y2, y3, y4⟩] rfl rfl hn1 (by omega) hbz ?_)
            intro v5 w5 own5 gr5 _
            have own5' : RRow w5 w.heap.size v5 (l ++ [(⟨y1, y2, y3, y4⟩ : RumV)]) := own_eqR own5 (by simp) (by rw [cellsOf_append])
            have hgb : w.heap.size ≤ g := (hS4.lt g rfl).1
            have k5 : Below w.heap.size (w3.alloc (.cells #[.int .i64 y1, .int .i64 y2, .int .i64 y3, .int .i64 y4] 39)) w5 := (Below.refl _ _).grown gr5 hbz (fun q e => by obtain rfl := Option.some.inj e; exact hgb)
            have hs5 : Src w5 b a len cap zs := hs4.keep k5 hlt (fun h x hx => hs.row_lt h x hx)
            have hgr5 := grown_own hgr4 gr5 (fun q e => by obtain rfl := Option.some.inj e; exact hgb)
            have hl7 : (l ++ [(⟨y1, y2, y3, y4⟩ : RumV)]).length ≤ 7 := by simp; omega
            clear own5 gr5 k5 hS4 hn1 hbz hs4 hgr4
            go_wp2
            go_ret
            exact ⟨_, _, rfl, hl7, own5', hs5, hgr5⟩
set_option maxHeartbeats 4000000 in
set_option maxRecDepth 100000 in
theorem drawRPut_any (a : Option Addr) (len cap : Nat) (zs : List Int) (w : World) (hl : len ≤ 1048576) (hrow : ByteRow w a len cap zs) :
    Calls Try.prog 7 #[.slice a len cap] w fun e w' => ∃ v l, ∃ h : FactV, e = .returned (.tuple #[v, h.val]) ∧ l.length ≤ 7 ∧ RRow w' w.heap.size v l ∧ Below w.heap.size w w' := by
  have b0 := (Below.refl w.heap.size w).alloc (Nat.le_refl _) (.cells #[.int .i64 0, .int .i64 0, .int .i64 0] 25)
  have ra0 := BlkIs.new w 25 #[.int .i64 0, .int .i64 0, .int .i64 0]
  have hrow0 := hrow.below b0
  obtain ⟨W, hW⟩ : ∃ W, w.alloc (.cells #[.int .i64 0, .int .i64 0, .int .i64 0] 25) = W := ⟨_, rfl⟩
  rw [hW] at b0 ra0 hrow0
  have HW : Hid (_ = W) := hW
  have hWs := ra0.lt
  clear hW
  go_enter Try.func7, Try.ntmps7
  go_wp2_with fail
  rw [HW.out]
  clear HW
  refine (source_any a len cap zs _ hl hrow0).mono ?_
  rintro e w1 ⟨rfl, hs1, b1⟩
  have ra1 := ra0.keep b1
  have B1 := b0.trans (b1.mono b0.size)
  have hsl := hs1.lt
  clear ra0 b0 b1 hrow0
  go_wp2_with fail
  refine (rumorsOf_any _ a len cap zs _ hs1).mono ?_
  rintro e w2 ⟨v1, l1, rfl, h1, S1, hs2, hg2⟩
  have ra2 := ra1.grown hg2 (by omega)
  have B2 : Below w.heap.size w w2 := B1.grown hg2 B1.size (fun k e => by obtain rfl := Option.some.inj e; omega)
  have hgb : ∀ q, v1.ownBlock = some q → w1.heap.size ≤ q := fun q e => (World.ownsRow.lt S1 q e).1
  obtain ⟨p1, c1, rfl, _⟩ := S1.parts
  clear ra1 B1 hs1 hg2
  go_wp2_with fail
  refine (factOf_any _ a len cap zs _ hs2).mono ?_
  rintro e w3 ⟨d, rfl, hs3, hg3⟩
  have ra3 := ra2.grown hg3 (by omega)
  have S3 := S1.grown hg3 hsl
  have B3 : Below w.heap.size w w3 := B2.grown hg3 B2.size (fun k e => by obtain rfl := Option.some.inj e; omega)
  obtain ⟨x1, x2, x3⟩ := d
  unfold FactV.val
  clear ra2 B2 hs2 hg3 S1
  have e0 : w3.cell? ⟨w.heap.size, 0, none⟩ = some (.int .i64 0) := ra3.cell 0
  have e1 : w3.cell? ⟨w.heap.size, 1, none⟩ = some (.int .i64 0) := ra3.cell 1
  have e2 : w3.cell? ⟨w.heap.size, 2, none⟩ = some (.int .i64 0) := ra3.cell 2
  have z0 := ra3.fz 0
  have z1 := ra3.fz 1
  have z2 := ra3.fz 2
  have K1 := keeps_three w3 (w.heap.size) (.int .i64 x1) (.int .i64 x2) (.int .i64 x3)
  have HS : Hid (RRow (((w3.setCell ⟨w.heap.size, 0, none⟩ (.int .i64 x1)).setCell ⟨w.heap.size, 1, none⟩ (.int .i64 x2)).setCell ⟨w.heap.size, 2, none⟩ (.int .i64 x3)) w.heap.size (.slice p1 l1.length c1) l1) :=
    RRow.mono (rowKeep S3 K1 (fun q hq => by have := hgb q hq; omega)) (by omega)
  have HB : Hid (Below w.heap.size w (((w3.setCell ⟨w.heap.size, 0, none⟩ (.int .i64 x1)).setCell ⟨w.heap.size, 1, none⟩ (.int .i64 x2)).setCell ⟨w.heap.size, 2, none⟩ (.int .i64 x3))) := B3.trans (K1.toBelow B3.size (fun q hq => by omega))
  clear S3 B3 K1 hgb
  go_wp2
  have Q := blk_put3 ra3 (.int .i64 x1) (.int .i64 x2) (.int .i64 x3)
  obtain ⟨z6, hz6⟩ : ∃ z6, (((w3.setCell ⟨w.heap.size, 0, none⟩ (.int .i64 x1)).setCell ⟨w.heap.size, 1, none⟩ (.int .i64 x2)).setCell ⟨w.heap.size, 2, none⟩ (.int .i64 x3)) = z6 := ⟨_, rfl⟩
  rw [hz6] at Q HS HB ⊢
  have q0 : z6.cell? ⟨w.heap.size, 0, none⟩ = some (.int .i64 x1) := Q.cell 0
  have q1 : z6.cell? ⟨w.heap.size, 1, none⟩ = some (.int .i64 x2) := Q.cell 1
  have q2 : z6.cell? ⟨w.heap.size, 2, none⟩ = some (.int .i64 x3) := Q.cell 2
  refine bodyPost_ret (v := .tuple #[.slice p1 l1.length c1, FactV.val ⟨x1, x2, x3⟩]) (by simp [results, Try.results7, go_sem, FactV.val, q0, q1, q2]) rfl ?_
  exact ⟨_, l1, ⟨x1, x2, x3⟩, rfl, h1, HS.out, HB.out⟩
set_option maxHeartbeats 4000000 in
set_option maxRecDepth 100000 in
theorem drawRPick_any (a : Option Addr) (len cap : Nat) (zs : List Int) (w : World) (hl : len ≤ 1048576) (hrow : ByteRow w a len cap zs) :
    Calls Try.prog 9 #[.slice a len cap] w fun e w' => ∃ v l, ∃ n : Int, e = .returned (.tuple #[v, .int .i64 n]) ∧ l.length ≤ 7 ∧ RRow w' w.heap.size v l ∧ Below w.heap.size w w' := by
  go_enter Try.func9, Try.ntmps9
  go_wp2_with fail
  refine (source_any a len cap zs _ hl hrow).mono ?_
  rintro e w1 ⟨rfl, hs1, B1⟩
  have hsl := hs1.lt
  go_wp2_with fail
  refine (rumorsOf_any _ a len cap zs _ hs1).mono ?_
  rintro e w2 ⟨v1, l1, rfl, h1, S1, hs2, hg2⟩
  have B2 : Below w.heap.size w w2 := B1.grown hg2 B1.size (fun k e => by obtain rfl := Option.some.inj e; omega)
  clear hs1 hg2
  go_wp2_with fail
  refine (n_any _ a len cap zs 6 (by omega) _ hs2).mono ?_
  rintro e w3 ⟨r3, rfl, _, _, hs3, hg3⟩
  have S3 := (S1.grown hg3 hsl).mono B1.size
  have B3 : Below w.heap.size w w3 := B2.grown hg3 B2.size (fun k e => by obtain rfl := Option.some.inj e; omega)
  clear B1 B2 hs2 hg3 S1 hs3
  go_wp2
  go_ret2
  exact ⟨_, l1, r3, rfl, h1, S3, B3⟩
end Go.Proofs.Ytenefjnahanfbaa
