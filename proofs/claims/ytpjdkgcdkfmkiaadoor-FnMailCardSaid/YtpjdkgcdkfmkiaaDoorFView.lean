/- A view of the draws; the draws of promise 5. -/
import Derived.Test.YtpjdkgcdkfmkiaaDoorFDraw
import Derived.Test.YtpjdkgcdkfmkiaaDoorVSpec
import Derived.Test.YtpjdkgcdkfmkiaaDoorG11
namespace Go.Proofs.YtpjdkgcdkfmkiaaDoor
open Go Go.RowKit
set_option linter.unusedVariables false

/-- A row of facts of one's own that is not nil. -/
def FSome (w : World) (base : Nat) (v : Value) (l : List FactV) : Prop := ∃ g cap, v = .slice (some ⟨g, 0, none⟩) l.length cap ∧ w.ownsRow base 43 3 v l.length (cellsOf FactV.cells l)
theorem rowGrown {w w' : World} {lo n b : Nat} {v : Value} {xs : List Value} {e : TypeId} {size : Nat} (h : w.ownsRow lo e size v n xs) (hg : w.grownBy w' (some b)) (hb : b < lo) : w'.ownsRow lo e size v n xs :=
  rowKeep h (G := fun q => q ≠ b) ((Keeps.refl _ _).grown hg (fun k e h => h (Option.some.inj e).symm)) (fun g e => by have := (h.lt g e).1; omega)
theorem FSome.grown {w w' : World} {base b : Nat} {v : Value} {l : List FactV} (h : FSome w base v l) (hg : w.grownBy w' (some b)) (hb : b < base) : FSome w' base v l := by
  obtain ⟨g, cap, e, o⟩ := h
  exact ⟨g, cap, e, rowGrown o hg hb⟩
theorem FSome.keep {w w' : World} {base : Nat} {v : Value} {l : List FactV} (h : FSome w base v l) (hb : Below w.heap.size w w') : FSome w' base v l := by
  obtain ⟨g, cap, e, o⟩ := h
  exact ⟨g, cap, e, rowBelow o hb⟩
theorem FSome.mono {w : World} {base base' : Nat} {v : Value} {l : List FactV} (h : FSome w base v l) (hb : base' ≤ base) : FSome w base' v l := by
  obtain ⟨g, cap, e, o⟩ := h
  exact ⟨g, cap, e, rowLe o hb⟩
theorem FSome.parts {w : World} {base : Nat} {v : Value} {l : List FactV} (h : FSome w base v l) : ∃ g cap, v = .slice (some ⟨g, 0, none⟩) l.length cap ∧ w.ownsRow base 43 3 (.slice (some ⟨g, 0, none⟩) l.length cap) l.length (cellsOf FactV.cells l) ∧ CellRow w (some ⟨g, 0, none⟩) (cellsOf FactV.cells l) ∧ l.length ≤ cap ∧ (cap : Int) ≤ 9223372036854775807 ∧ g < w.heap.size ∧ base ≤ g := by
  obtain ⟨g, cap, rfl, o⟩ := h
  have hc := own_caps o
  refine ⟨g, cap, rfl, o, ?_, hc.1, hc.2.1, hc.2.2.1, hc.2.2.2⟩
  rcases own_cells o with ⟨e, _⟩ | ⟨g', c', e, ho⟩
  · cases e
  · simp only [Value.slice.injEq, Option.some.injEq, Addr.mk.injEq, and_true, true_and] at e
    obtain ⟨rfl, rfl⟩ := e
    exact ho.row
theorem below_grown {w w' : World} {r : Option Nat} (h : Below w.heap.size w w') : w.grownBy w' r := ⟨h.os, h.tape, h.output, h.size, fun i hi _ => h.block i hi⟩
theorem grown_belowF {w w1 w2 : World} {b : Nat} (h1 : Below w.heap.size w w1) (h2 : w1.grownBy w2 (some b)) (hb : w.heap.size ≤ b) : Below w.heap.size w w2 :=
  h1.grown h2 h1.size (fun k e => by obtain rfl := Option.some.inj e; exact hb)
theorem Src.below {w w' : World} {b : Nat} {a : Option Addr} {len cap : Nat} {zs : List Int} (h : Src w b a len cap zs) (k : Below w.heap.size w w') : Src w' b a len cap zs := h.keep k h.lt h.row_lt
set_option maxHeartbeats 4000000 in
set_option maxRecDepth 100000 in
theorem viewOf_any (b : Nat) (a : Option Addr) (len cap : Nat) (zs : List Int) (w : World) (hs : Src w b a len cap zs) :
    Calls Tryd.prog 43 #[.pointer (some ⟨b, 0, none⟩)] w fun e w' => ∃ v l, e = .returned v ∧ l.length ≤ 7 ∧ FSome w' w.heap.size v l ∧ Src w' b a len cap zs ∧ w.grownBy w' (some b) := by
  have hlt := hs.lt
  have hs0 := hs.alloc (.cells #[] 43)
  have hg0 := World.grownBy_alloc w (.cells #[] 43) (some b)
  have S0 : FSome (w.alloc (.cells #[] 43)) w.heap.size (.slice (some ⟨w.heap.size, 0, none⟩) 0 0) [] := ⟨w.heap.size, 0, rfl, World.ownsRow_lit _ #[] 0 (Nat.le_refl _) (by simp [maxLen]) rfl⟩
  obtain ⟨W, hW⟩ : ∃ W, w.alloc (.cells #[] 43) = W := ⟨_, rfl⟩
  rw [hW] at hs0 hg0 S0
  have HW : Hid (_ = W) := hW
  clear hW
  go_enter Tryd.func43, Tryd.ntmps43
  go_wp2_with fail
  rw [HW.out]
  clear HW
  refine (n_any b a len cap zs 6 (by omega) _ hs0).mono ?_
  rintro e w1 ⟨r1, rfl, _, hr1, hs1, hg1⟩
  have S1 := S0.grown hg1 hlt
  have hgw1 := grown_trans hg0 hg1
  have hr1' := hr1 (by omega)
  clear hs0 hg0 hg1 S0 hr1
  go_wp2
  go_loopw [4, 3] (fun i v wr => ∃ (k : Int) (l : List FactV), i = .int .i64 k ∧ 0 ≤ k ∧ k ≤ 6 ∧ l.length ≤ 6 ∧ FSome wr w.heap.size v l ∧ Src wr b a len cap zs ∧ w.grownBy wr (some b)) (fun i _ _ => (intOf i).toNat)
  case atStart => exact ⟨r1, [], rfl, hr1'.1, by omega, by simp, S1, hs1, hgw1⟩
  case round =>
    clear S1 hs1 hgw1 hr1'
    obtain ⟨k, l, rfl, hk0, hk6, hl6, hS, hsr, hgr⟩ := hrel
    obtain ⟨g, cp, rfl, ho, hrow, hcl, hcm, hgl, hgb⟩ := hS.parts
    by_cases hk : 0 < k
    · have hwk : IntKind.i64.wrap (k - 1) = k - 1 := by rw [IntKind.wrap_i64]; omega
      clear ho hrow
      go_wp2_with fail
      refine (factOf_any b a len cap zs _ hsr).mono ?_
      rintro e w2 ⟨d, rfl, hs2, hg2⟩
      have hS2 := hS.grown hg2 hlt
      have hgr2 := grown_trans hgr hg2
      obtain ⟨g', cp', e', ho2, hrow2, _, _, _, _⟩ := hS2.parts
      simp only [Value.slice.injEq, Option.some.injEq, Addr.mk.injEq, and_true, true_and] at e'
      obtain ⟨rfl, rfl⟩ := e'
      obtain ⟨c, m, r, hP⟩ := put_ex l d
      have HP : Hid (PutIs l d c m r) := hP
      have hm6 := put_len hP
      have hmp : c = 0 → 0 < m.length := fun h => by
        rcases hP with ⟨_, e, _⟩ | ⟨_, _, e, _⟩ | ⟨_, _, _, k, hk, rfl, _⟩
        · rw [e] at h; cases h
        · rw [e] at h; cases h
        · exact putL_pos hk.1
      have HMP : Hid (c = 0 → 0 < m.length) := hmp
      obtain ⟨d1, d2, d3⟩ := d
      unfold FactV.val
      clear hS hsr hgr hg2 ho2 hP hmp
      go_wp2_with fail
      refine (specVPut_any g 0 cp l ⟨d1, d2, d3⟩ c m r _ HP.out (by omega) hcl hcm hrow2).mono ?_
      rintro e w3 ⟨v3, rfl, own3, b3⟩
      have hs3 := hs2.below b3
      have hS3 := hS2.keep b3
      have hgr3 := grown_trans hgr2 (below_grown b3)
      have own3w := rowLe own3 (show w.heap.size ≤ w2.heap.size from hgr2.size)
      obtain ⟨va, vn, vc, rfl⟩ := rowShape own3
      unfold outV
      clear hs2 hS2 hgr2 b3 own3 hrow2
      have cA : Below w3.heap.size w3 (w3.alloc (.cells #[.slice va vn vc, .bool r, .int .i64 c] 103)) := (Below.refl _ _).alloc (Nat.le_refl _) _
      have P4 := BlkIs.new w3 103 #[.slice va vn vc, .bool r, .int .i64 c]
      have hs4 := hs3.below cA
      have hS4 := hS3.keep cA
      have own4 := rowBelow own3w cA
      have hgr4 := grown_trans hgr3 (below_grown (r := some b) cA)
      obtain ⟨w4, hw4⟩ : ∃ y, w3.alloc (.cells #[.slice va vn vc, .bool r, .int .i64 c] 103) = y := ⟨_, rfl⟩
      rw [hw4] at P4 hs4 hS4 own4 hgr4
      have HW4 : Hid (_ = w4) := hw4
      have q0 := P4.cell 0
      have q2 := P4.cell 2
      clear hw4 cA hs3 hS3 own3w hgr3 P4
      by_cases hc : c = 0
      · obtain ⟨g5, c5, h5⟩ := own_some own4 (HMP.out hc)
        have hS5 : FSome w4 w.heap.size (.slice va vn vc) m := ⟨g5, c5, h5, own4⟩
        have hc' : (c == 0) = true := beq_iff_eq.2 hc
        clear HMP HP own4 h5 hS4 hc
        go_upto_region 6 with fail
        rw [HW4.out]
        clear HW4
        go_wp2
        go_roundw
        case rel => exact ⟨k - 1, m, rfl, by omega, by omega, hm6, hS5, hs4, hgr4⟩
        case measure => simp [intOf]; omega
      · have hc' : (c == 0) = false := beq_eq_false_iff_ne.2 hc
        clear HMP HP own4
        go_upto_region 6 with fail
        rw [HW4.out]
        clear HW4
        go_wp2
        go_roundw
        case rel => exact ⟨k - 1, l, rfl, by omega, by omega, hl6, hS4, hs4, hgr4⟩
        case measure => simp [intOf]; omega
    · clear ho hrow
      go_wp2_with fail
      refine (one_any b a len cap zs 15 (by omega) _ hsr).mono ?_
      rintro e w2 ⟨o, rfl, hs2, hg2⟩
      have hS2 := hS.grown hg2 hlt
      have hgr2 := grown_trans hgr hg2
      clear hS hsr hgr hg2
      cases o with
      | false =>
        go_wp2
        go_ret
        exact ⟨_, l, rfl, by omega, hS2, hs2, hgr2⟩
      | true =>
        go_wp2_with fail
        refine (factOf_any b a len cap zs _ hs2).mono ?_
        rintro e w3 ⟨d, rfl, hs3, hg3⟩
        have hS3 := hS2.grown hg3 hlt
        have hgr3 := grown_trans hgr2 hg3
        obtain ⟨g', cp', e', ho3, _, _, _, _, _⟩ := hS3.parts
        simp only [Value.slice.injEq, Option.some.injEq, Addr.mk.injEq, and_true, true_and] at e'
        obtain ⟨rfl, rfl⟩ := e'
        obtain ⟨d1, d2, d3⟩ := d
        unfold FactV.val
        clear hs2 hS2 hgr2 hg3 hS3
        have cA : Below w3.heap.size w3 (w3.alloc (.cells #[.int .i64 d1, .int .i64 d2, .int .i64 d3] 43)) := (Below.refl _ _).alloc (Nat.le_refl _) _
        have hs4 := hs3.below cA
        have ho4 := rowBelow ho3 cA
        have hgr4 := grown_trans hgr3 (below_grown (r := some b) cA)
        have hn1 : CellRow (w3.alloc (.cells #[.int .i64 d1, .int .i64 d2, .int .i64 d3] 43)) (some ⟨w3.heap.size, 0, none⟩) (cellsOf FactV.cells [⟨d1, d2, d3⟩]) := oneRowF w3 ⟨d1, d2, d3⟩
        have hbz : w.heap.size ≤ (w3.alloc (.cells #[.int .i64 d1, .int .i64 d2, .int .i64 d3] 43)).heap.size := hgr4.size
        clear cA hgr3 hs3
        go_wp2_with (at_builtin; refine append_factsL rfl rfl _ _ rfl w.heap.size _ _ _ rfl ho4 ⟨w3.heap.size, 0, none⟩ 1 1 [⟨d1, d2, d3⟩] rfl rfl hn1 (by omega) hbz ?_)
        intro v5 w5 own5 gr5 _
        have own5' : w5.ownsRow w.heap.size 43 3 v5 (l ++ [(⟨d1, d2, d3⟩ : FactV)]).length (cellsOf FactV.cells (l ++ [(⟨d1, d2, d3⟩ : FactV)])) := own_eqF own5 (by simp) (by rw [cellsOf_append])
        obtain ⟨g5, c5, h5⟩ := own_some own5' (by simp)
        have hS5 : FSome w5 w.heap.size v5 (l ++ [(⟨d1, d2, d3⟩ : FactV)]) := ⟨g5, c5, h5, own5'⟩
        have k5 : Below w.heap.size (w3.alloc (.cells #[.int .i64 d1, .int .i64 d2, .int .i64 d3] 43)) w5 := (Below.refl _ _).grown gr5 hbz (fun q e => by obtain rfl := Option.some.inj e; exact hgb)
        have hs5 : Src w5 b a len cap zs := hs4.keep k5 hlt (fun h x hx => hs.row_lt h x hx)
        have hgr5 := grown_own hgr4 gr5 (fun q e => by obtain rfl := Option.some.inj e; exact hgb)
        have hl7 : (l ++ [(⟨d1, d2, d3⟩ : FactV)]).length ≤ 7 := by simp; omega
        clear own5 own5' gr5 k5 ho4 ho3 hn1 hbz hs4 hgr4 h5
        go_wp2
        go_ret
        exact ⟨_, _, rfl, hl7, hS5, hs5, hgr5⟩
/-- Two facts in boxes. -/
def TwoF (w : World) (kx ky : Nat) (x y : FactV) : Prop := BlkIs w kx 43 #[.int .i64 x.node, .int .i64 x.inc, .int .i64 x.st] ∧ BlkIs w ky 43 #[.int .i64 y.node, .int .i64 y.inc, .int .i64 y.st]
theorem TwoF.keeps {w w' : World} {kx ky : Nat} {x y : FactV} (h : TwoF w kx ky x y) {G : Nat → Prop} (k : Keeps G w w') (h1 : G kx) (h2 : G ky) : TwoF w' kx ky x y := ⟨h.1.keepK k h1, h.2.keepK k h2⟩
end Go.Proofs.YtpjdkgcdkfmkiaaDoor
