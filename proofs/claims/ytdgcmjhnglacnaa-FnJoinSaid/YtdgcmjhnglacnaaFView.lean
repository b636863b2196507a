/- A view of the draws; the draws of promise 5. -/
import Derived.Test.YtdgcmjhnglacnaaFDraw
import Derived.Test.YtdgcmjhnglacnaaVSpec
import Derived.Test.YtdgcmjhnglacnaaReg
namespace Go.Proofs.Ytdgcmjhnglacnaa
open Go Go.RowKit
set_option linter.unusedVariables false

/-- A row of facts of one's own that is not nil. -/
def FSome (w : World) (base : Nat) (v : Value) (l : List FactV) : Prop := ∃ g cap, v = .slice (some ⟨g, 0, none⟩) l.length cap ∧ w.ownsRow base 24 3 v l.length (cellsOf FactV.cells l)
theorem rowGrown {w w' : World} {lo n b : Nat} {v : Value} {xs : List Value} {e : TypeId} {size : Nat} (h : w.ownsRow lo e size v n xs) (hg : w.grownBy w' (some b)) (hb : b < lo) : w'.ownsRow lo e size v n xs :=
  rowKeep h (G := fun q => q ≠ b) ((Keeps.refl _ _).grown hg (fun k e h => h (Option.some.inj e).symm)) (fun g e => by have := (h.lt g e).1; omega)
theorem FSome.grown {w w' : World} {base b : Nat} {v : Value} {l : List FactV} (h : FSome w base v l) (hg : w.grownBy w' (some b)) (hb : b < base) : FSome w' base v l := by
  obtain ⟨g, cap, e, o⟩ := h
  exact ⟨g, cap, e, rowGrown o hg hb⟩
theorem FSome.keep {w w' : World} {base : Nat} {v : Value} {l : List FactV} (h : FSome w base v l) (hb : Below w.heap.size w w') : FSome w' base v l := by
  obtain ⟨g, cap, e, o⟩ := h
  exact ⟨g, cap, e, rowBelow o hb⟩
theorem FSome.mono {w : World} {base base' : Nat} {v : Value} {l : List FactV} (h : FSome w base v l) (hb : base' ≤ base) : FSome w base' v l := by
  obtain ⟨g, cap, e, o⟩ := h
  exact ⟨g, cap, e, rowLe o hb⟩
theorem FSome.parts {w : World} {base : Nat} {v : Value} {l : List FactV} (h : FSome w base v l) : ∃ g cap, v = .slice (some ⟨g, 0, none⟩) l.length cap ∧ w.ownsRow base 24 3 (.slice (some ⟨g, 0, none⟩) l.length cap) l.length (cellsOf FactV.cells l) ∧ CellRow w (some ⟨g, 0, none⟩) (cellsOf FactV.cells l) ∧ l.length ≤ cap ∧ (cap : Int) ≤ 9223372036854775807 ∧ g < w.heap.size ∧ base ≤ g := by
  obtain ⟨g, cap, rfl, o⟩ := h
  have hc := own_caps o
  refine ⟨g, cap, rfl, o, ?_, hc.1, hc.2.1, hc.2.2.1, hc.2.2.2⟩
  rcases own_cells o with ⟨e, _⟩ | ⟨g', c', e, ho⟩
  · cases e
  · simp only [Value.slice.injEq, Option.some.injEq, Addr.mk.injEq, and_true, true_and] at e
    obtain ⟨rfl, rfl⟩ := e
    exact ho.row
theorem below_grown {w w' : World} {r : Option Nat} (h : Below w.heap.size w w') : w.grownBy w' r := ⟨h.os, h.tape, h.output, h.size, fun i hi _ => h.block i hi⟩
theorem grown_belowF {w w1 w2 : World} {b : Nat} (h1 : Below w.heap.size w w1) (h2 : w1.grownBy w2 (some b)) (hb : w.heap.size ≤ b) : Below w.heap.size w w2 :=
  h1.grown h2 h1.size (fun k e => by obtain rfl := Option.some.inj e; exact hb)
theorem Src.below {w w' : World} {b : Nat} {a : Option Addr} {len cap : Nat} {zs : List Int} (h : Src w b a len cap zs) (k : Below w.heap.size w w') : Src w' b a len cap zs := h.keep k h.lt h.row_lt
set_option maxHeartbeats 4000000 in
set_option maxRecDepth 100000 in
theorem viewOf_any (b : Nat) (a : Option Addr) (len cap : Nat) (zs : List Int) (w : World) (hs : Src w b a len cap zs) :
    Calls Try.prog 48 #[.pointer (some ⟨b, 0, none⟩)] w fun e w' => ∃ v l, e = .returned v ∧ l.length ≤ 7 ∧ FSome w' w.heap.size v l ∧ Src w' b a len cap zs ∧ w.grownBy w' (some b) := by
  have hlt := hs.lt
  have hs0 := hs.alloc (.cells #[] 24)
  have hg0 := World.grownBy_alloc w (.cells #[] 24) (some b)
  have S0 : FSome (w.alloc (.cells #[] 24)) w.heap.size (.slice (some ⟨w.heap.size, 0, none⟩) 0 0) [] := ⟨w.heap.size, 0, rfl, World.ownsRow_lit _ #[] 0 (Nat.le_refl _) (by simp [maxLen]) rfl⟩
  obtain ⟨W, hW⟩ : ∃ W, w.alloc (.cells #[] 24) = W := ⟨_, rfl⟩
  rw [hW] at hs0 hg0 S0
  have HW : Hid (_ = W) := hW
  clear hW
  go_enter Try.func48, Try.ntmps48
  go_wp2_with fail
  rw [HW.out]
  clear HW
  refine (n_any b a len cap zs 6 (by omega) _ hs0).mono ?_
  rintro e w1 ⟨r1, rfl, _, hr1, hs1, hg1⟩
  have S1 := S0.grown hg1 hlt
  have hgw1 := grown_trans hg0 hg1
  have hr1' := hr1 (by omega)
  clear hs0 hg0 hg1 S0 hr1
  go_wp2
  go_loopw [4, 3] (fun i v wr => ∃ (k : Int) (l : List FactV), i = .int .i64 k ∧ 0 ≤ k ∧ k ≤ 6 ∧ l.length ≤ 6 ∧ FSome wr w.heap.size v l ∧ Src wr b a len cap zs ∧ w.grownBy wr (some b)) (fun i _ _ => (intOf i).toNat)
  case atStart => exact ⟨r1, [], rfl, hr1'.1, by omega, by simp, S1, hs1, hgw1⟩
  case round =>
    clear S1 hs1 hgw1 hr1'
    obtain ⟨k, l, rfl, hk0, hk6, hl6, hS, hsr, hgr⟩ := hrel
    obtain ⟨g, cp, rfl, ho, hrow, hcl, hcm, hgl, hgb⟩ := hS.parts
    by_cases hk : 0 < k
    · have hwk : IntKind.i64.wrap (k - 1) = k - 1 := by rw [IntKind.wrap_i64]; omega
      clear ho hrow
      go_wp2_with fail
      refine (factOf_any b a len cap zs _ hsr).mono ?_
      rintro e w2 ⟨d, rfl, hs2, hg2⟩
      have hS2 := hS.grown hg2 hlt
      have hgr2 := grown_trans hgr hg2
      obtain ⟨g', cp', e', ho2, hrow2, _, _, _, _⟩ := hS2.parts
      simp only [Value.slice.injEq, Option.some.injEq, Addr.mk.injEq, and_true, true_and] at e'
      obtain ⟨rfl, rfl⟩ := e'
      obtain ⟨c, m, r, hP⟩ := put_ex l d
      have HP : Hid (PutIs l d c m r) := hP
      have hm6 := put_len hP
      have hmp : c = 0 → 0 < m.length := fun h => by
        rcases hP with ⟨_, e, _⟩ | ⟨_, _, e, _⟩ | ⟨_, _, _, k, hk, rfl, _⟩
        · rw [e] at h; cases h
        · rw [e] at h; cases h
        · exact putL_pos hk.1
      have HMP : Hid (c = 0 → 0 < m.length) := hmp
      obtain ⟨d1, d2, d3⟩ := d
      unfold FactV.val
      clear hS hsr hgr hg2 ho2 hP hmp
      go_wp2_with fail
      refine (specPut_any g 0 cp l ⟨d1, d2, d3⟩ c m r _ HP.out (by omega) hcl hcm hrow2).mono ?_
      rintro e w3 ⟨v3, rfl, own3, b3⟩
      have hs3 := hs2.below b3
      have hS3 := hS2.keep b3
      have hgr3 := grown_trans hgr2 (below_grown b3)
      have own3w := rowLe own3 (show w.heap.size ≤ w2.heap.size from hgr2.size)
      obtain ⟨va, vn, vc, rfl⟩ := rowShape own3
      unfold outV
      clear hs2 hS2 hgr2 b3 own3 hrow2
      have cA : Below w3.heap.size w3 (w3.alloc (.cells #[.slice va vn vc, .bool r, .int .i64 c] 33)) := (Below.refl _ _).alloc (Nat.le_refl _) _
      have P4 := BlkIs.new w3 33 #[.slice va vn vc, .bool r, .int .i64 c]
      have hs4 := hs3.below cA
      have hS4 := hS3.keep cA
      have own4 := rowBelow own3w cA
      have hgr4 := grown_trans hgr3 (below_grown (r := some b) cA)
      obtain ⟨w4, hw4⟩ : ∃ y, w3.alloc (.cells #[.slice va vn vc, .bool r, .int .i64 c] 33) = y := ⟨_, rfl⟩
      rw [hw4] at P4 hs4 hS4 own4 hgr4
      have HW4 : Hid (_ = w4) := hw4
      have q0 := P4.cell 0
      have q2 := P4.cell 2
      clear hw4 cA hs3 hS3 own3w hgr3 P4
      by_cases hc : c = 0
      · obtain ⟨g5, c5, h5⟩ := own_some own4 (HMP.out hc)
        have hS5 : FSome w4 w.heap.size (.slice va vn vc) m := ⟨g5, c5, h5, own4⟩
        have hc' : (c == 0) = true := beq_iff_eq.2 hc
        clear HMP HP own4 h5 hS4 hc
        go_upto_region 6 with fail
        rw [HW4.out]
        clear HW4
        go_wp2
        go_roundw
        case rel => exact ⟨k - 1, m, rfl, by omega, by omega, hm6, hS5, hs4, hgr4⟩
        case measure => simp [intOf]; omega
      · have hc' : (c == 0) = false := beq_eq_false_iff_ne.2 hc
        clear HMP HP own4
        go_upto_region 6 with fail
        rw [HW4.out]
        clear HW4
        go_wp2
        go_roundw
        case rel => exact ⟨k - 1, l, rfl, by omega, by omega, hl6, hS4, hs4, hgr4⟩
        case measure => simp [intOf]; omega
    · clear ho hrow
      go_wp2_with fail
      refine (one_any b a len cap zs 15 (by omega) _ hsr).mono ?_
      rintro e w2 ⟨o, rfl, hs2, hg2⟩
      have hS2 := hS.grown hg2 hlt
      have hgr2 := grown_trans hgr hg2
      clear hS hsr hgr hg2
      cases o with
      | false =>
        go_wp2
        go_ret
        exact ⟨_, l, rfl, by omega, hS2, hs2, hgr2⟩
      | true =>
        go_wp2_with fail
        refine (factOf_any b a len cap zs _ hs2).mono ?_
        rintro e w3 ⟨d, rfl, hs3, hg3⟩
        have hS3 := hS2.grown hg3 hlt
        have hgr3 := grown_trans hgr2 hg3
        obtain ⟨g', cp', e', ho3, _, _, _, _, _⟩ := hS3.parts
        simp only [Value.slice.injEq, Option.some.injEq, Addr.mk.injEq, and_true, true_and] at e'
        obtain ⟨rfl, rfl⟩ := e'
        obtain ⟨d1, d2, d3⟩ := d
        unfold FactV.val
        clear hs2 hS2 hgr2 hg3 hS3
        have cA : Below w3.heap.size w3 (w3.alloc (.cells #[.int .i64 d1, .int .i64 d2, .int .i64 d3] 24)) := (Below.refl _ _).alloc (Nat.le_refl _) _
        have hs4 := hs3.below cA
        have ho4 := rowBelow ho3 cA
        have hgr4 := grown_trans hgr3 (below_grown (r := some b) cA)
        have hn1 : CellRow (w3.alloc (.cells #[.int .i64 d1, .int .i64 d2, .int .i64 d3] 24)) (some ⟨w3.heap.size, 0, none⟩) (cellsOf FactV.cells [⟨d1, d2, d3⟩]) := oneRowF w3 ⟨d1, d2, d3⟩
        have hbz : w.heap.size ≤ (w3.alloc (.cells #[.int .i64 d1, .int .i64 d2, .int .i64 d3] 24)).heap.size := hgr4.size
        clear cA hgr3 hs3
        go_wp2_with (at_builtin; refine append_factsL rfl rfl _ _ rfl w.heap.size _ _ _ rfl ho4 ⟨w3.heap.size, 0, none⟩ 1 1 [⟨d1, d2, d3⟩] rfl rfl hn1 (by omega) hbz ?_)
        intro v5 w5 own5 gr5 _
        have own5' : w5.ownsRow w.heap.size 24 3 v5 (l ++ [(⟨d1, d2, d3⟩ : FactV)]).length (cellsOf FactV.cells (l ++ [(⟨d1, d2, d3⟩ : FactV)])) := own_eqF own5 (by simp) (by rw [cellsOf_append])
        obtain ⟨g5, c5, h5⟩ := own_some own5' (by simp)
        have hS5 : FSome w5 w.heap.size v5 (l ++ [(⟨d1, d2, d3⟩ : FactV)]) := ⟨g5, c5, h5, own5'⟩
        have k5 : Below w.heap.size (w3.alloc (.cells #[.int .i64 d1, .int .i64 d2, .int .i64 d3] 24)) w5 := (Below.refl _ _).grown gr5 hbz (fun q e => by obtain rfl := Option.some.inj e; exact hgb)
        have hs5 : Src w5 b a len cap zs := hs4.keep k5 hlt (fun h x hx => hs.row_lt h x hx)
        have hgr5 := grown_own hgr4 gr5 (fun q e => by obtain rfl := Option.some.inj e; exact hgb)
        have hl7 : (l ++ [(⟨d1, d2, d3⟩ : FactV)]).length ≤ 7 := by simp; omega
        clear own5 own5' gr5 k5 ho4 ho3 hn1 hbz hs4 hgr4 h5
        go_wp2
        go_ret
        exact ⟨_, _, rfl, hl7, hS5, hs5, hgr5⟩
/-- Two facts in boxes. -/
def TwoF (w : World) (kx ky : Nat) (x y : FactV) : Prop := BlkIs w kx 24 #[.int .i64 x.node, .int .i64 x.inc, .int .i64 x.st] ∧ BlkIs w ky 24 #[.int .i64 y.node, .int .i64 y.inc, .int .i64 y.st]
theorem TwoF.keeps {w w' : World} {kx ky : Nat} {x y : FactV} (h : TwoF w kx ky x y) {G : Nat → Prop} (k : Keeps G w w') (h1 : G kx) (h2 : G ky) : TwoF w' kx ky x y := ⟨h.1.keepK k h1, h.2.keepK k h2⟩
set_option maxHeartbeats 4000000 in
set_option maxRecDepth 100000 in
theorem drawFactLess_any (a : Option Addr) (len cap : Nat) (zs : List Int) (w : World) (hl : len ≤ 1048576) (hrow : ByteRow w a len cap zs) :
    Calls Try.prog 46 #[.slice a len cap] w fun e w' => ∃ x y : FactV, e = .returned (.tuple #[x.val, y.val]) ∧ Below w.heap.size w w' := by
  have b0 := ((Below.refl w.heap.size w).alloc (Nat.le_refl _) (.cells #[.int .i64 0, .int .i64 0, .int .i64 0] 24)).alloc (by simp) (.cells #[.int .i64 0, .int .i64 0, .int .i64 0] 24)
  have ra0 := (BlkIs.new w 24 #[.int .i64 0, .int .i64 0, .int .i64 0]).keep ((Below.refl _ _).alloc (Nat.le_refl _) (.cells #[.int .i64 0, .int .i64 0, .int .i64 0] 24))
  have rb0 := BlkIs.new (w.alloc (.cells #[.int .i64 0, .int .i64 0, .int .i64 0] 24)) 24 #[.int .i64 0, .int .i64 0, .int .i64 0]
  rw [World.size_alloc] at rb0
  have hrow0 := hrow.below b0
  obtain ⟨W, hW⟩ : ∃ W, (w.alloc (.cells #[.int .i64 0, .int .i64 0, .int .i64 0] 24)).alloc (.cells #[.int .i64 0, .int .i64 0, .int .i64 0] 24) = W := ⟨_, rfl⟩
  rw [hW] at b0 ra0 rb0 hrow0
  have HW : Hid (_ = W) := hW
  have hWs := rb0.lt
  clear hW
  go_enter Try.func46, Try.ntmps46
  go_wp2_with fail
  rw [HW.out]
  clear HW
  refine (source_any a len cap zs _ hl hrow0).mono ?_
  rintro e w1 ⟨rfl, hs1, b1⟩
  have ra1 := ra0.keep b1
  have rb1 := rb0.keep b1
  have B1 := b0.trans (b1.mono b0.size)
  clear ra0 rb0 b0 b1 hrow0
  go_wp2_with fail
  refine (factOf_any _ a len cap zs _ hs1).mono ?_
  rintro e w2 ⟨x, rfl, hs2, hg2⟩
  have ra2 := ra1.grown hg2 (by omega)
  have rb2 := rb1.grown hg2 (by omega)
  have B2 : Below w.heap.size w w2 := B1.grown hg2 B1.size (fun k e => by obtain rfl := Option.some.inj e; omega)
  obtain ⟨x1, x2, x3⟩ := x
  unfold FactV.val
  clear ra1 rb1 B1 hs1 hg2
  have cA : Below w2.heap.size w2 (w2.alloc (.cells #[.int .i64 x1, .int .i64 x2, .int .i64 x3] 24)) := (Below.refl _ _).alloc (Nat.le_refl _) _
  have px3 := BlkIs.new w2 24 #[.int .i64 x1, .int .i64 x2, .int .i64 x3]
  have ra3 := ra2.keep cA
  have rb3 := rb2.keep cA
  have hs3 := hs2.below cA
  have B3 := B2.trans (cA.mono B2.size)
  have hk3 := rb2.lt
  have hsl := hs2.lt
  obtain ⟨w3, hw3⟩ : ∃ y, w2.alloc (.cells #[.int .i64 x1, .int .i64 x2, .int .i64 x3] 24) = y := ⟨_, rfl⟩
  obtain ⟨kx, hkx⟩ : ∃ k, w2.heap.size = k := ⟨_, rfl⟩
  rw [hw3] at px3 ra3 rb3 hs3 B3
  rw [hkx] at px3 hk3 hsl
  have HW3 : Hid (_ = w3) := hw3
  clear hw3 cA ra2 rb2 hs2 B2
  go_wp2_with fail
  rw [HW3.out]
  clear HW3 hkx
  refine (factOf_any _ a len cap zs _ hs3).mono ?_
  rintro e w4 ⟨y, rfl, hs4, hg4⟩
  have ra4 := ra3.grown hg4 (by omega)
  have rb4 := rb3.grown hg4 (by omega)
  have px4 := px3.grown hg4 (by omega)
  have B4 : Below w.heap.size w w4 := B3.grown hg4 B3.size (fun k e => by obtain rfl := Option.some.inj e; omega)
  obtain ⟨y1, y2, y3⟩ := y
  unfold FactV.val
  clear ra3 rb3 px3 B3 hs3 hg4
  have cA : Below w4.heap.size w4 (w4.alloc (.cells #[.int .i64 y1, .int .i64 y2, .int .i64 y3] 24)) := (Below.refl _ _).alloc (Nat.le_refl _) _
  have py5 := BlkIs.new w4 24 #[.int .i64 y1, .int .i64 y2, .int .i64 y3]
  have px5 := px4.keep cA
  have ra5 := ra4.keep cA
  have rb5 := rb4.keep cA
  have hs5 := hs4.below cA
  have B5 := B4.trans (cA.mono B4.size)
  have hk5 := px4.lt
  have hsl4 := hs4.lt
  obtain ⟨w5, hw5⟩ : ∃ y, w4.alloc (.cells #[.int .i64 y1, .int .i64 y2, .int .i64 y3] 24) = y := ⟨_, rfl⟩
  obtain ⟨ky, hky⟩ : ∃ k, w4.heap.size = k := ⟨_, rfl⟩
  rw [hw5] at py5 px5 ra5 rb5 hs5 B5
  rw [hky] at py5 hk5 hsl4
  have HW5 : Hid (_ = w5) := hw5
  clear hw5 cA ra4 rb4 px4 hs4 B4
  go_wp2_with fail
  rw [HW5.out]
  clear HW5 hky
  refine (one_any _ a len cap zs 3 (by omega) _ hs5).mono ?_
  rintro e zz ⟨o, rfl, hs6, hg6⟩
  have ra := ra5.grown hg6 (by omega)
  have rb := rb5.grown hg6 (by omega)
  have px := px5.grown hg6 (by omega)
  have py := py5.grown hg6 (by omega)
  have BB : Below w.heap.size w zz := B5.grown hg6 B5.size (fun k e => by obtain rfl := Option.some.inj e; omega)
  clear ra5 rb5 px5 py5 B5 hs5 hg6
  cases o with
  | true =>
    go_upto_region 6 with fail
    obtain ⟨Z0, hZ0⟩ : ∃ y, zz.drew = y := ⟨_, rfl⟩
    have RA : BlkIs Z0 w.heap.size 24 #[.int .i64 0, .int .i64 0, .int .i64 0] := by rw [← hZ0]; exact ra
    have RB : BlkIs Z0 (w.heap.size + 1) 24 #[.int .i64 0, .int .i64 0, .int .i64 0] := by rw [← hZ0]; exact rb
    have SS : TwoF Z0 kx ky ⟨x1, x2, x3⟩ ⟨y1, y2, y3⟩ := by rw [← hZ0]; exact ⟨px, py⟩
    have B0 : Below w.heap.size w Z0 := by rw [← hZ0]; exact BB.drew
    clear ra rb px py BB
    refine wp_region_held_drew (S := fun w' => TwoF w' kx ky ⟨x1, x2, x3⟩ ⟨y1, y2, y3⟩) (by kernel_rfl) ?hS0 (fun hHeld => ?_)
    case hS0 => rw [hZ0]; exact SS
    rw [hZ0] at hHeld ⊢
    clear hZ0 SS
    refine takeG 0 (v := .agg #[.int .i64 x1, .int .i64 x2, .int .i64 x3]) rfl (by kernel_rfl) (by kernel_rfl) (by kernel_rfl) (by kernel_rfl) (fun _ _ _ h => h) ?hy (by assumption) ?_
    case hy => (intro w' hSw; have i0 := hSw.1.cell 0; have i1 := hSw.1.cell 1; have i2 := hSw.1.cell 2; dsimp only at i0 i1 i2; go_simp)
    try simp only [List.setIfInBounds_toArray, List.set_cons_zero, List.set_cons_succ]
    refine takeG 1 (v := .agg #[.int .i64 y1, .int .i64 y2, .int .i64 y3]) rfl (by kernel_rfl) (by kernel_rfl) (by kernel_rfl) (by kernel_rfl) (fun _ _ _ h => h) ?hy (by assumption) ?_
    case hy => (intro w' hSw; have i0 := hSw.2.cell 0; have i1 := hSw.2.cell 1; have i2 := hSw.2.cell 2; dsimp only at i0 i1 i2; go_simp)
    try simp only [List.setIfInBounds_toArray, List.set_cons_zero, List.set_cons_succ]
    refine oneH 2 (by kernel_rfl) ?_
    have g0 := RA.cell 0
    have g1 := RA.cell 1
    have g2 := RA.cell 2
    have f0 := RA.fz 0
    have f1 := RA.fz 1
    have f2 := RA.fz 2
    have K1 := keeps_three Z0 (w.heap.size) (.int .i64 x1) (.int .i64 x2) (.int .i64 x3)
    have N1 := fact_put RA x1 x2 x3
    have S1 := hHeld.keeps K1 (by show kx ≠ w.heap.size; omega) (by show ky ≠ w.heap.size; omega)
    have M1 := RB.keepK K1 (by show w.heap.size + 1 ≠ w.heap.size; omega)
    have B1 := B0.trans (K1.toBelow B0.size (fun q hq => by show q ≠ w.heap.size; omega))
    refine storeH rfl (nx := .skip) (w' := (((Z0.setCell ⟨w.heap.size, 0, none⟩ (.int .i64 x1)).setCell ⟨w.heap.size, 1, none⟩ (.int .i64 x2)).setCell ⟨w.heap.size, 2, none⟩ (.int .i64 x3))) (by go_simp) (.inl rfl) S1 ?_
    obtain ⟨Z1, hZ1⟩ : ∃ y, (((Z0.setCell ⟨w.heap.size, 0, none⟩ (.int .i64 x1)).setCell ⟨w.heap.size, 1, none⟩ (.int .i64 x2)).setCell ⟨w.heap.size, 2, none⟩ (.int .i64 x3)) = y := ⟨_, rfl⟩
    rw [hZ1] at N1 S1 M1 B1 ⊢
    clear hZ1 K1 g0 g1 g2 f0 f1 f2
    try simp only [List.setIfInBounds_toArray, List.set_cons_zero, List.set_cons_succ]
    have g0 := M1.cell 0
    have g1 := M1.cell 1
    have g2 := M1.cell 2
    have f0 := M1.fz 0
    have f1 := M1.fz 1
    have f2 := M1.fz 2
    have K2 := keeps_three Z1 (w.heap.size + 1) (.int .i64 y1) (.int .i64 y2) (.int .i64 y3)
    have N2 := fact_put M1 y1 y2 y3
    have S2 := S1.keeps K2 (by show kx ≠ w.heap.size + 1; omega) (by show ky ≠ w.heap.size + 1; omega)
    have N1' := N1.keepK K2 (by show w.heap.size ≠ w.heap.size + 1; omega)
    have B2 := B1.trans (K2.toBelow B1.size (fun q hq => by show q ≠ w.heap.size + 1; omega))
    refine oneH 3 (by kernel_rfl) ?_
    refine storeH rfl (nx := .skip) (w' := (((Z1.setCell ⟨w.heap.size + 1, 0, none⟩ (.int .i64 y1)).setCell ⟨w.heap.size + 1, 1, none⟩ (.int .i64 y2)).setCell ⟨w.heap.size + 1, 2, none⟩ (.int .i64 y3))) (by go_simp) (.inl rfl) S2 ?_
    obtain ⟨Z2, hZ2⟩ : ∃ y, (((Z1.setCell ⟨w.heap.size + 1, 0, none⟩ (.int .i64 y1)).setCell ⟨w.heap.size + 1, 1, none⟩ (.int .i64 y2)).setCell ⟨w.heap.size + 1, 2, none⟩ (.int .i64 y3)) = y := ⟨_, rfl⟩
    rw [hZ2] at N2 N1' B2 ⊢
    clear hZ2 K2 g0 g1 g2 f0 f1 f2 S2 S1 N1 M1 B1
    try simp only [List.setIfInBounds_toArray, List.set_cons_zero, List.set_cons_succ]
    refine wpAnyH_done (by kernel_rfl) ?_ _
    go_wp2
    have i0 := N1'.cell 0
    have i1 := N1'.cell 1
    have i2 := N1'.cell 2
    have j0 := N2.cell 0
    have j1 := N2.cell 1
    have j2 := N2.cell 2
    refine bodyPost_ret (v := .tuple #[FactV.val ⟨x1, x2, x3⟩, FactV.val ⟨y1, y2, y3⟩]) (by simp [results, Try.results46, go_sem, FactV.val, i0, i1, i2, j0, j1, j2]) rfl ?_
    exact ⟨⟨x1, x2, x3⟩, ⟨y1, y2, y3⟩, rfl, B2⟩
  | false =>
    have c0 := px.cell 0
    have e0 := py.cell 0
    have ez := py.fz 0
    have py2 : BlkIs (zz.setCell ⟨ky, 0, none⟩ (.int .i64 x1)) ky 24 #[.int .i64 x1, .int .i64 y2, .int .i64 y3] := by
      have := py.put 0 (.int .i64 x1)
      simpa using this
    have K1 : Keeps (fun q => q ≠ ky) zz (zz.setCell ⟨ky, 0, none⟩ (.int .i64 x1)) := (Keeps.refl _ _).setCell (fun h => h rfl) _
    have ra2 := ra.keepK K1 (by show w.heap.size ≠ ky; omega)
    have rb2 := rb.keepK K1 (by show w.heap.size + 1 ≠ ky; omega)
    have px2 := px.keepK K1 (by show kx ≠ ky; omega)
    have BB2 := BB.trans (K1.toBelow BB.size (fun q hq => by show q ≠ ky; omega))
    clear ra rb px py BB K1
    have ra := ra2
    have rb := rb2
    have px := px2
    have py := py2
    have BB := BB2
    clear ra2 rb2 px2 py2 BB2
    go_upto_region 6 with fail
    obtain ⟨zz2, hzz⟩ : ∃ y, zz.setCell ⟨ky, 0, none⟩ (.int .i64 x1) = y := ⟨_, rfl⟩
    rw [hzz] at ra rb px py BB ⊢
    clear hzz c0 e0 ez
    obtain ⟨zz, rfl⟩ : ∃ z, z = zz2 := ⟨zz2, rfl⟩
    obtain ⟨y1, rfl⟩ : ∃ z, z = x1 := ⟨x1, rfl⟩
    skip
    obtain ⟨Z0, hZ0⟩ : ∃ y, zz.drew = y := ⟨_, rfl⟩
    have RA : BlkIs Z0 w.heap.size 24 #[.int .i64 0, .int .i64 0, .int .i64 0] := by rw [← hZ0]; exact ra
    have RB : BlkIs Z0 (w.heap.size + 1) 24 #[.int .i64 0, .int .i64 0, .int .i64 0] := by rw [← hZ0]; exact rb
    have SS : TwoF Z0 kx ky ⟨y1, x2, x3⟩ ⟨y1, y2, y3⟩ := by rw [← hZ0]; exact ⟨px, py⟩
    have B0 : Below w.heap.size w Z0 := by rw [← hZ0]; exact BB.drew
    clear ra rb px py BB
    refine wp_region_held_drew (S := fun w' => TwoF w' kx ky ⟨y1, x2, x3⟩ ⟨y1, y2, y3⟩) (by kernel_rfl) ?hS0 (fun hHeld => ?_)
    case hS0 => rw [hZ0]; exact SS
    rw [hZ0] at hHeld ⊢
    clear hZ0 SS
    refine takeG 0 (v := .agg #[.int .i64 y1, .int .i64 x2, .int .i64 x3]) rfl (by kernel_rfl) (by kernel_rfl) (by kernel_rfl) (by kernel_rfl) (fun _ _ _ h => h) ?hy (by assumption) ?_
    case hy => (intro w' hSw; have i0 := hSw.1.cell 0; have i1 := hSw.1.cell 1; have i2 := hSw.1.cell 2; dsimp only at i0 i1 i2; go_simp)
    try simp only [List.setIfInBounds_toArray, List.set_cons_zero, List.set_cons_succ]
    refine takeG 1 (v := .agg #[.int .i64 y1, .int .i64 y2, .int .i64 y3]) rfl (by kernel_rfl) (by kernel_rfl) (by kernel_rfl) (by kernel_rfl) (fun _ _ _ h => h) ?hy (by assumption) ?_
    case hy => (intro w' hSw; have i0 := hSw.2.cell 0; have i1 := hSw.2.cell 1; have i2 := hSw.2.cell 2; dsimp only at i0 i1 i2; go_simp)
    try simp only [List.setIfInBounds_toArray, List.set_cons_zero, List.set_cons_succ]
    refine oneH 2 (by kernel_rfl) ?_
    have g0 := RA.cell 0
    have g1 := RA.cell 1
    have g2 := RA.cell 2
    have f0 := RA.fz 0
    have f1 := RA.fz 1
    have f2 := RA.fz 2
    have K1 := keeps_three Z0 (w.heap.size) (.int .i64 y1) (.int .i64 x2) (.int .i64 x3)
    have N1 := fact_put RA y1 x2 x3
    have S1 := hHeld.keeps K1 (by show kx ≠ w.heap.size; omega) (by show ky ≠ w.heap.size; omega)
    have M1 := RB.keepK K1 (by show w.heap.size + 1 ≠ w.heap.size; omega)
    have B1 := B0.trans (K1.toBelow B0.size (fun q hq => by show q ≠ w.heap.size; omega))
    refine storeH rfl (nx := .skip) (w' := (((Z0.setCell ⟨w.heap.size, 0, none⟩ (.int .i64 y1)).setCell ⟨w.heap.size, 1, none⟩ (.int .i64 x2)).setCell ⟨w.heap.size, 2, none⟩ (.int .i64 x3))) (by go_simp) (.inl rfl) S1 ?_
    obtain ⟨Z1, hZ1⟩ : ∃ y, (((Z0.setCell ⟨w.heap.size, 0, none⟩ (.int .i64 y1)).setCell ⟨w.heap.size, 1, none⟩ (.int .i64 x2)).setCell ⟨w.heap.size, 2, none⟩ (.int .i64 x3)) = y := ⟨_, rfl⟩
    rw [hZ1] at N1 S1 M1 B1 ⊢
    clear hZ1 K1 g0 g1 g2 f0 f1 f2
    try simp only [List.setIfInBounds_toArray, List.set_cons_zero, List.set_cons_succ]
    have g0 := M1.cell 0
    have g1 := M1.cell 1
    have g2 := M1.cell 2
    have f0 := M1.fz 0
    have f1 := M1.fz 1
    have f2 := M1.fz 2
    have K2 := keeps_three Z1 (w.heap.size + 1) (.int .i64 y1) (.int .i64 y2) (.int .i64 y3)
    have N2 := fact_put M1 y1 y2 y3
    have S2 := S1.keeps K2 (by show kx ≠ w.heap.size + 1; omega) (by show ky ≠ w.heap.size + 1; omega)
    have N1' := N1.keepK K2 (by show w.heap.size ≠ w.heap.size + 1; omega)
    have B2 := B1.trans (K2.toBelow B1.size (fun q hq => by show q ≠ w.heap.size + 1; omega))
    refine oneH 3 (by kernel_rfl) ?_
    refine storeH rfl (nx := .skip) (w' := (((Z1.setCell ⟨w.heap.size + 1, 0, none⟩ (.int .i64 y1)).setCell ⟨w.heap.size + 1, 1, none⟩ (.int .i64 y2)).setCell ⟨w.heap.size + 1, 2, none⟩ (.int .i64 y3))) (by go_simp) (.inl rfl) S2 ?_
    obtain ⟨Z2, hZ2⟩ : ∃ y, (((Z1.setCell ⟨w.heap.size + 1, 0, none⟩ (.int .i64 y1)).setCell ⟨w.heap.size + 1, 1, none⟩ (.int .i64 y2)).setCell ⟨w.heap.size + 1, 2, none⟩ (.int .i64 y3)) = y := ⟨_, rfl⟩
    rw [hZ2] at N2 N1' B2 ⊢
    clear hZ2 K2 g0 g1 g2 f0 f1 f2 S2 S1 N1 M1 B1
    try simp only [List.setIfInBounds_toArray, List.set_cons_zero, List.set_cons_succ]
    refine wpAnyH_done (by kernel_rfl) ?_ _
    go_wp2
    have i0 := N1'.cell 0
    have i1 := N1'.cell 1
    have i2 := N1'.cell 2
    have j0 := N2.cell 0
    have j1 := N2.cell 1
    have j2 := N2.cell 2
    refine bodyPost_ret (v := .tuple #[FactV.val ⟨y1, x2, x3⟩, FactV.val ⟨y1, y2, y3⟩]) (by simp [results, Try.results46, go_sem, FactV.val, i0, i1, i2, j0, j1, j2]) rfl ?_
    exact ⟨⟨y1, x2, x3⟩, ⟨y1, y2, y3⟩, rfl, B2⟩
set_option maxHeartbeats 4000000 in
set_option maxRecDepth 100000 in
theorem drawViewJoin_any (a : Option Addr) (len cap : Nat) (zs : List Int) (w : World) (hl : len ≤ 1048576) (hrow : ByteRow w a len cap zs) :
    Calls Try.prog 13 #[.slice a len cap] w fun e w' => ∃ v1 v2 l1 l2, e = .returned (.tuple #[v1, v2]) ∧ l1.length ≤ 7 ∧ l2.length ≤ 7 ∧ FSome w' w.heap.size v1 l1 ∧ FSome w' w.heap.size v2 l2 ∧ Below w.heap.size w w' := by
  go_enter Try.func13, Try.ntmps13
  go_wp2_with fail
  refine (source_any a len cap zs _ hl hrow).mono ?_
  rintro e w1 ⟨rfl, hs1, b1⟩
  have hsl := hs1.lt
  go_wp2_with fail
  refine (viewOf_any _ a len cap zs _ hs1).mono ?_
  rintro e w2 ⟨v1, l1, rfl, h1, S1, hs2, hg2⟩
  have B2 : Below w.heap.size w w2 := grown_belowF b1 hg2 (Nat.le_refl _)
  obtain ⟨g1, c1, rfl, _⟩ := S1.parts
  clear b1 hs1 hg2
  go_wp2_with fail
  refine (viewOf_any _ a len cap zs _ hs2).mono ?_
  rintro e w3 ⟨v2, l2, rfl, h2, S2, hs3, hg3⟩
  have S13 := S1.grown hg3 hsl
  have B3 : Below w.heap.size w w3 := grown_belowF B2 hg3 (Nat.le_refl _)
  have HA : Hid (FSome w3 w.heap.size (.slice (some ⟨g1, 0, none⟩) l1.length c1) l1) := S13.mono (by omega)
  have HB : Hid (FSome w3 w.heap.size v2 l2) := S2.mono B2.size
  obtain ⟨g2, c2, rfl, _⟩ := S2.parts
  clear B2 hs2 hg3 S1 S2 S13
  go_wp2
  go_ret2
  exact ⟨_, _, l1, l2, rfl, h1, h2, HA.out, HB.out, B3⟩
set_option maxHeartbeats 4000000 in
set_option maxRecDepth 100000 in
theorem drawViewPut_any (a : Option Addr) (len cap : Nat) (zs : List Int) (w : World) (hl : len ≤ 1048576) (hrow : ByteRow w a len cap zs) :
    Calls Try.prog 14 #[.slice a len cap] w fun e w' => ∃ v l, ∃ h : FactV, e = .returned (.tuple #[v, h.val]) ∧ l.length ≤ 7 ∧ FSome w' w.heap.size v l ∧ Below w.heap.size w w' := by
  have b0 := (Below.refl w.heap.size w).alloc (Nat.le_refl _) (.cells #[.int .i64 0, .int .i64 0, .int .i64 0] 24)
  have ra0 := BlkIs.new w 24 #[.int .i64 0, .int .i64 0, .int .i64 0]
  have hrow0 := hrow.below b0
  obtain ⟨W, hW⟩ : ∃ W, w.alloc (.cells #[.int .i64 0, .int .i64 0, .int .i64 0] 24) = W := ⟨_, rfl⟩
  rw [hW] at b0 ra0 hrow0
  have HW : Hid (_ = W) := hW
  have hWs := ra0.lt
  clear hW
  go_enter Try.func14, Try.ntmps14
  go_wp2_with fail
  rw [HW.out]
  clear HW
  refine (source_any a len cap zs _ hl hrow0).mono ?_
  rintro e w1 ⟨rfl, hs1, b1⟩
  have ra1 := ra0.keep b1
  have B1 := b0.trans (b1.mono b0.size)
  have hsl := hs1.lt
  clear ra0 b0 b1 hrow0
  go_wp2_with fail
  refine (viewOf_any _ a len cap zs _ hs1).mono ?_
  rintro e w2 ⟨v1, l1, rfl, h1, S1, hs2, hg2⟩
  have ra2 := ra1.grown hg2 (by omega)
  have B2 : Below w.heap.size w w2 := B1.grown hg2 B1.size (fun k e => by obtain rfl := Option.some.inj e; omega)
  obtain ⟨g1, c1, rfl, _⟩ := S1.parts
  have hgb : ∀ q, Value.ownBlock (.slice (some ⟨g1, 0, none⟩) l1.length c1) = some q → w1.heap.size ≤ q := fun q e => by obtain ⟨_, _, e', o⟩ := S1; exact (o.lt q e).1
  clear ra1 B1 hs1 hg2
  go_wp2_with fail
  refine (factOf_any _ a len cap zs _ hs2).mono ?_
  rintro e w3 ⟨d, rfl, hs3, hg3⟩
  have ra3 := ra2.grown hg3 (by omega)
  have S3 := S1.grown hg3 hsl
  have B3 : Below w.heap.size w w3 := B2.grown hg3 B2.size (fun k e => by obtain rfl := Option.some.inj e; omega)
  obtain ⟨x1, x2, x3⟩ := d
  unfold FactV.val
  clear ra2 B2 hs2 hg3 S1
  have e0 := ra3.cell 0
  have e1 := ra3.cell 1
  have e2 := ra3.cell 2
  have z0 := ra3.fz 0
  have z1 := ra3.fz 1
  have z2 := ra3.fz 2
  have K1 := keeps_three w3 (w.heap.size) (.int .i64 x1) (.int .i64 x2) (.int .i64 x3)
  have HS : Hid (FSome (((w3.setCell ⟨w.heap.size, 0, none⟩ (.int .i64 x1)).setCell ⟨w.heap.size, 1, none⟩ (.int .i64 x2)).setCell ⟨w.heap.size, 2, none⟩ (.int .i64 x3)) w.heap.size (.slice (some ⟨g1, 0, none⟩) l1.length c1) l1) := by
    obtain ⟨g, cp, e, o⟩ := S3
    exact FSome.mono ⟨g, cp, e, rowKeep o K1 (fun q hq => by have := hgb q hq; omega)⟩ (by omega)
  have HB : Hid (Below w.heap.size w (((w3.setCell ⟨w.heap.size, 0, none⟩ (.int .i64 x1)).setCell ⟨w.heap.size, 1, none⟩ (.int .i64 x2)).setCell ⟨w.heap.size, 2, none⟩ (.int .i64 x3))) := B3.trans (K1.toBelow B3.size (fun q hq => by omega))
  clear S3 B3 K1 hgb
  go_wp2
  have Q := fact_put ra3 x1 x2 x3
  obtain ⟨z6, hz6⟩ : ∃ z6, (((w3.setCell ⟨w.heap.size, 0, none⟩ (.int .i64 x1)).setCell ⟨w.heap.size, 1, none⟩ (.int .i64 x2)).setCell ⟨w.heap.size, 2, none⟩ (.int .i64 x3)) = z6 := ⟨_, rfl⟩
  rw [hz6] at Q HS HB ⊢
  have q0 := Q.cell 0
  have q1 := Q.cell 1
  have q2 := Q.cell 2
  refine bodyPost_ret (v := .tuple #[.slice (some ⟨g1, 0, none⟩) l1.length c1, FactV.val ⟨x1, x2, x3⟩]) (by simp [results, Try.results14, go_sem, FactV.val, q0, q1, q2]) rfl ?_
  exact ⟨_, l1, ⟨x1, x2, x3⟩, rfl, h1, HS.out, HB.out⟩
set_option maxHeartbeats 4000000 in
set_option maxRecDepth 100000 in
theorem drawFactJoin_any (a : Option Addr) (len cap : Nat) (zs : List Int) (w : World) (hl : len ≤ 1048576) (hrow : ByteRow w a len cap zs) :
    Calls Try.prog 12 #[.slice a len cap] w fun e w' => ∃ x y : FactV, e = .returned (.tuple #[x.val, y.val]) ∧ Below w.heap.size w w' := by
  have b0 := ((Below.refl w.heap.size w).alloc (Nat.le_refl _) (.cells #[.int .i64 0, .int .i64 0, .int .i64 0] 24)).alloc (by simp) (.cells #[.int .i64 0, .int .i64 0, .int .i64 0] 24)
  have ra0 := (BlkIs.new w 24 #[.int .i64 0, .int .i64 0, .int .i64 0]).keep ((Below.refl _ _).alloc (Nat.le_refl _) (.cells #[.int .i64 0, .int .i64 0, .int .i64 0] 24))
  have rb0 := BlkIs.new (w.alloc (.cells #[.int .i64 0, .int .i64 0, .int .i64 0] 24)) 24 #[.int .i64 0, .int .i64 0, .int .i64 0]
  rw [World.size_alloc] at rb0
  have hrow0 := hrow.below b0
  obtain ⟨W, hW⟩ : ∃ W, (w.alloc (.cells #[.int .i64 0, .int .i64 0, .int .i64 0] 24)).alloc (.cells #[.int .i64 0, .int .i64 0, .int .i64 0] 24) = W := ⟨_, rfl⟩
  rw [hW] at b0 ra0 rb0 hrow0
  have HW : Hid (_ = W) := hW
  clear hW
  go_enter Try.func12, Try.ntmps12
  go_wp2_with fail
  rw [HW.out]
  clear HW
  refine (drawFactLess_any a len cap zs _ hl hrow0).mono ?_
  rintro e w1 ⟨x, y, rfl, b1⟩
  have ra := ra0.keep b1
  have rb := rb0.keep b1
  have B1 := b0.trans (b1.mono b0.size)
  obtain ⟨x1, x2, x3⟩ := x
  obtain ⟨y1, y2, y3⟩ := y
  unfold FactV.val
  clear ra0 rb0 b0 b1 hrow0
  have e0 := ra.cell 0
  have e1 := ra.cell 1
  have e2 := ra.cell 2
  have z0 := ra.fz 0
  have z1 := ra.fz 1
  have z2 := ra.fz 2
  have g0 := rb.cell 0
  have g1 := rb.cell 1
  have g2 := rb.cell 2
  have f0 := rb.fz 0
  have f1 := rb.fz 1
  have f2 := rb.fz 2
  go_wp2
  have K1 := keeps_three w1 (w.heap.size) (.int .i64 x1) (.int .i64 x2) (.int .i64 x3)
  have N1 := fact_put ra x1 x2 x3
  have M1 := rb.keepK K1 (by show w.heap.size + 1 ≠ w.heap.size; omega)
  have B2 := B1.trans (K1.toBelow B1.size (fun q hq => by show q ≠ w.heap.size; omega))
  obtain ⟨Z1, hZ1⟩ : ∃ y, (((w1.setCell ⟨w.heap.size, 0, none⟩ (.int .i64 x1)).setCell ⟨w.heap.size, 1, none⟩ (.int .i64 x2)).setCell ⟨w.heap.size, 2, none⟩ (.int .i64 x3)) = y := ⟨_, rfl⟩
  rw [hZ1] at N1 M1 B2 ⊢
  have K2 := keeps_three Z1 (w.heap.size + 1) (.int .i64 y1) (.int .i64 y2) (.int .i64 y3)
  have N2 := fact_put M1 y1 y2 y3
  have N1' := N1.keepK K2 (by show w.heap.size ≠ w.heap.size + 1; omega)
  have B3 := B2.trans (K2.toBelow B2.size (fun q hq => by show q ≠ w.heap.size + 1; omega))
  obtain ⟨Z2, hZ2⟩ : ∃ y, (((Z1.setCell ⟨w.heap.size + 1, 0, none⟩ (.int .i64 y1)).setCell ⟨w.heap.size + 1, 1, none⟩ (.int .i64 y2)).setCell ⟨w.heap.size + 1, 2, none⟩ (.int .i64 y3)) = y := ⟨_, rfl⟩
  rw [hZ2] at N2 N1' B3 ⊢
  have i0 := N1'.cell 0
  have i1 := N1'.cell 1
  have i2 := N1'.cell 2
  have j0 := N2.cell 0
  have j1 := N2.cell 1
  have j2 := N2.cell 2
  refine bodyPost_ret (v := .tuple #[FactV.val ⟨x1, x2, x3⟩, FactV.val ⟨y1, y2, y3⟩]) (by simp [results, Try.results12, go_sem, FactV.val, i0, i1, i2, j0, j1, j2]) rfl ?_
  exact ⟨⟨x1, x2, x3⟩, ⟨y1, y2, y3⟩, rfl, B3⟩
end Go.Proofs.Ytdgcmjhnglacnaa
