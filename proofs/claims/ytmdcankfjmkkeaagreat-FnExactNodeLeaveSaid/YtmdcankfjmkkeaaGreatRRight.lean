/- The contracts of RumorsRight, the program's and the specification's. -/
import Derived.Test.YtmdcankfjmkkeaaGreatG11
import Derived.Test.YtmdcankfjmkkeaaGreatRumMark
import Derived.Test.YtmdcankfjmkkeaaGreatG3
import Derived.Test.YtmdcankfjmkkeaaGreatG4
namespace Go.Proofs.YtmdcankfjmkkeaaGreat
open Go Go.RowKit
set_option linter.unusedVariables false
set_option linter.unusedSimpArgs false

set_option maxHeartbeats 1000000 in
set_option maxRecDepth 100000 in
theorem rumorRight_any (d : RumV) (w : World) : Calls Tryz.prog 154 #[d.val] w fun e w' => Tells d.ok e ∧ Below w.heap.size w w' := by
  obtain ⟨x1, x2, x3, x4⟩ := d
  obtain ⟨r, hr⟩ := tells_bool (FactV.ok ⟨x1, x2, x3⟩)
  have HR : Hid (r = true ↔ FactV.ok ⟨x1, x2, x3⟩) := hr
  have HO : Hid (RumV.ok ⟨x1, x2, x3, x4⟩ ↔ (FactV.ok ⟨x1, x2, x3⟩ ∧ 0 ≤ x4 ∧ x4 ≤ 3)) := Iff.rfl
  have P0 := BlkIs.new w 59 #[.int .i64 x1, .int .i64 x2, .int .i64 x3, .int .i64 x4]
  have B0 := (Below.refl w.heap.size w).alloc (Nat.le_refl _) (.cells #[.int .i64 x1, .int .i64 x2, .int .i64 x3, .int .i64 x4] 59)
  obtain ⟨W, hW⟩ : ∃ W, w.alloc (.cells #[.int .i64 x1, .int .i64 x2, .int .i64 x3, .int .i64 x4] 59) = W := ⟨_, rfl⟩
  rw [hW] at P0 B0
  have HW : Hid (_ = W) := hW
  clear hW hr
  unfold RumV.val
  go_enter Tryz.func154, Tryz.ntmps154
  go_wp2_with fail
  rw [HW.out]
  refine (factRight_is ⟨x1, x2, x3⟩ _ r HR.out).mono ?_
  rintro e z ⟨rfl, bz⟩
  have c3 : z.cell? ⟨w.heap.size, 3, none⟩ = some (.int .i64 x4) := (P0.keep bz).cell 3
  have B1 := B0.trans (bz.mono B0.size)
  clear P0 bz B0 HW
  cases r with
  | false =>
    go_wp2
    go_ret
    exact ⟨.no (fun h => by have := HR.out.2 (HO.out.1 h).1; cases this), B1⟩
  | true =>
    have T1 : Hid (FactV.ok ⟨x1, x2, x3⟩) := HR.out.1 rfl
    clear HR
    by_cases h0 : 0 ≤ x4
    · have HY : Hid (RumV.ok ⟨x1, x2, x3, x4⟩ ↔ x4 < 4) := ⟨fun h => by have := (HO.out.1 h).2; omega, fun h => HO.out.2 ⟨T1.out, h0, by omega⟩⟩
      clear HO T1
      go_wp2
      go_ret
      exact ⟨⟨_, rfl, by rw [HY.out]; simp⟩, B1⟩
    · have HY : Hid (¬ RumV.ok ⟨x1, x2, x3, x4⟩) := fun h => by have := (HO.out.1 h).2; omega
      clear HO T1
      go_wp2
      go_ret
      exact ⟨.no HY.out, B1⟩
theorem rumorRight_is (d : RumV) (w : World) (r : Bool) (hr : r = true ↔ d.ok) : Calls Tryz.prog 154 #[d.val] w fun e w' => e = .returned (.bool r) ∧ Below w.heap.size w w' :=
  (rumorRight_any d w).mono fun e w' ⟨h, hb⟩ => ⟨h.is hr, hb⟩
/-- Which nodes there are. -/
def hasN (l : List RumV) (n : Nat) : Bool := l.any fun x => x.node == (n : Int)
def hasA (l : List RumV) : Array Value := #[.bool (hasN l 0), .bool (hasN l 1), .bool (hasN l 2), .bool (hasN l 3), .bool (hasN l 4), .bool (hasN l 5), .bool (hasN l 6)]
theorem hasA_at (l : List RumV) (n : Nat) (h : n ≤ 6) : (hasA l)[n]? = some (.bool (hasN l n)) := by
  rcases n with _ | _ | _ | _ | _ | _ | _ | n
  all_goals first | rfl | omega
theorem hasN_snoc (l : List RumV) (x : RumV) (n : Nat) : hasN (l ++ [x]) n = (hasN l n || x.node == (n : Int)) := by unfold hasN; simp
theorem hasA_snoc (l : List RumV) (x : RumV) (n : Nat) (h : n ≤ 6) (hx : x.node = n) : (hasA l).setIfInBounds n (.bool true) = hasA (l ++ [x]) := by
  unfold hasA
  simp only [hasN_snoc, hx]
  rcases n with _ | _ | _ | _ | _ | _ | _ | n
  all_goals first | (simp; done) | omega
theorem hasN_iff (l : List RumV) (n : Nat) : hasN l n = true ↔ ∃ y ∈ l, y.node = n := by
  unfold hasN; rw [List.any_eq_true]; simp
set_option maxHeartbeats 2000000 in
set_option maxRecDepth 100000 in
theorem implRRight_any (a : Option Addr) (cap : Nat) (l : List RumV) (w : World) (hl : l.length ≤ 1048576) (hrow : CellRow w a (cellsOf RumV.cells l)) :
    Calls Tryz.prog 86 #[.slice a l.length cap] w fun e w' => Tells (rightR l) e ∧ Below w.heap.size w w' := by
  have P0 := BlkIs.new w 172 (hasA [])
  have B0 := (Below.refl w.heap.size w).alloc (Nat.le_refl _) (.cells (hasA []) 172)
  go_enter Tryz.func86, Tryz.ntmps86
  go_wp2
  go_loopw [8] (fun i wr => ∃ k : Nat, k ≤ l.length ∧ i = .int .i64 k ∧ rightR (l.take k) ∧ BlkIs wr w.heap.size 172 (hasA (l.take k)) ∧ Below w.heap.size w wr) (fun i _ => l.length - (intOf i).toNat)
  case atStart => exact ⟨0, Nat.zero_le _, rfl, by rw [List.take_zero]; exact rightR_nil, P0, B0⟩
  case round =>
    obtain ⟨k, hk, rfl, hok, hA, hb⟩ := hrel
    clear P0 B0
    have HK : Hid (rightR (l.take k)) := hok
    clear hok
    by_cases hk2 : k < l.length
    · obtain ⟨b, off, rfl⟩ := hrow.addr (by rw [cellsOf_length RumV.cells_len]; omega)
      obtain ⟨x, hlx⟩ : ∃ x, l[k] = x := ⟨_, rfl⟩
      have d0 := (hrow.keep hb).rum hk2 hlx
      have HT : Hid (l.take (k + 1) = l.take k ++ [x]) := by show _ = _; rw [List.take_succ_eq_append_getElem hk2, hlx]
      have HS : Hid (rightR (l.take (k + 1)) ↔ rightR (l.take k) ∧ x.ok ∧ ∀ y ∈ l.take k, y.node ≠ x.node) := by show _ ↔ _; rw [HT.out]; exact rightR_snoc
      obtain ⟨r, hr⟩ := tells_bool x.ok
      have HR : Hid (r = true ↔ x.ok) := hr
      obtain ⟨x1, x2, x3, x4⟩ := x
      obtain ⟨_, c0, c1, c2, c3⟩ := d0
      dsimp only at c0 c1 c2 c3
      have hk' : (k : Int) < (l.length : Int) := by omega
      have hwl : w.heap.size < wr.heap.size := hA.lt
      have P1 := BlkIs.new wr 59 #[.int .i64 x1, .int .i64 x2, .int .i64 x3, .int .i64 x4]
      have b1 : Below wr.heap.size wr (wr.alloc (.cells #[.int .i64 x1, .int .i64 x2, .int .i64 x3, .int .i64 x4] 59)) := (Below.refl _ _).alloc (Nat.le_refl _) _
      have A1 := hA.keep b1
      have hb1 := hb.trans (b1.mono hb.size)
      obtain ⟨Y, hY⟩ : ∃ Y, wr.alloc (.cells #[.int .i64 x1, .int .i64 x2, .int .i64 x3, .int .i64 x4] 59) = Y := ⟨_, rfl⟩
      rw [hY] at P1 A1 hb1
      have HY : Hid (_ = Y) := hY
      clear hlx hr hA hb b1 hY
      go_wp2_with fail
      rw [HY.out]
      refine (rumorRight_is ⟨x1, x2, x3, x4⟩ _ r HR.out).mono ?_
      rintro e z ⟨rfl, bz⟩
      have p0 : z.cell? ⟨wr.heap.size, 0, none⟩ = some (.int .i64 x1) := (P1.keep bz).cell 0
      have A2 := A1.keep bz
      have B2 := hb1.trans (bz.mono hb1.size)
      clear P1 A1 hb1 bz HY c0 c1 c2 c3
      cases r with
      | false =>
        have HN : Hid (¬ rightR l) := fun h => by
          have := HR.out.2 (HS.out.1 (rightR_take h _)).2.1
          cases this
        clear HR HS HK HT
        go_wp2
        go_ret
        exact ⟨.no HN.out, B2⟩
      | true =>
        have HO : Hid (RumV.ok ⟨x1, x2, x3, x4⟩) := HR.out.1 rfl
        obtain ⟨n, hn, hn6⟩ : ∃ n : Nat, x1 = n ∧ n ≤ 6 := by
          have := HO.out.1.1
          refine ⟨x1.toNat, ?_, ?_⟩
          · have h1 : 1 ≤ x1 := this.1
            omega
          · have h1 : x1 ≤ 6 := this.2
            omega
        subst hn
        have a0 : z.cell? ⟨w.heap.size, n, none⟩ = some (.bool (hasN (l.take k) n)) := (A2.cell n).trans (hasA_at _ n hn6)
        have f0 := A2.fz n
        have hn7 : (n : Int) < 7 := by omega
        have hn7' : n < 7 := by omega
        have HI := hasN_iff (l.take k) n
        obtain ⟨q, hq⟩ : ∃ q, hasN (l.take k) n = q := ⟨_, rfl⟩
        rw [hq] at a0 HI
        have HIH : Hid (q = true ↔ ∃ y ∈ l.take k, y.node = n) := HI
        have HA : Hid ((hasA (l.take k)).setIfInBounds n (.bool true) = hasA (l.take (k + 1))) := by show _ = _; rw [HT.out]; exact hasA_snoc _ _ n hn6 rfl
        clear HR HI hq
        cases q with
        | true =>
          have HN : Hid (¬ rightR l) := fun h => by
            obtain ⟨y, hy, e⟩ := HIH.out.1 rfl
            exact (HS.out.1 (rightR_take h _)).2.2 y hy e
          clear HS HK HT HIH HA HO
          go_wp2
          go_ret
          exact ⟨.no HN.out, B2⟩
        | false =>
          have HN : Hid (rightR (l.take (k + 1))) := HS.out.2 ⟨HK.out, HO.out, fun y hy e => by have := HIH.out.2 ⟨y, hy, e⟩; cases this⟩
          have HP : Hid (BlkIs (z.setCell ⟨w.heap.size, n, none⟩ (.bool true)) w.heap.size 172 (hasA (l.take (k + 1)))) := by
            show BlkIs _ _ _ _
            have := A2.put n (.bool true)
            rwa [HA.out] at this
          have HB : Hid (Below w.heap.size w (z.setCell ⟨w.heap.size, n, none⟩ (.bool true))) := B2.setCell (Nat.le_refl _) _
          clear HS HK HT HIH HA HO A2 B2
          go_wp2
          go_roundw
          case rel => exact ⟨k + 1, by omega, by go_num, HN.out, HP.out, HB.out⟩
          case measure => simp [intOf]; omega
    · obtain rfl : k = l.length := by omega
      have HN : Hid (rightR l) := by have := HK.out; rwa [List.take_length] at this
      clear HK
      go_wp2
      go_ret
      exact ⟨.yes HN.out, hb⟩
theorem implRRight_is (a : Option Addr) (cap : Nat) (l : List RumV) (w : World) (r : Bool) (hr : r = true ↔ rightR l) (hl : l.length ≤ 1048576) (hrow : CellRow w a (cellsOf RumV.cells l)) :
    Calls Tryz.prog 86 #[.slice a l.length cap] w fun e w' => e = .returned (.bool r) ∧ Below w.heap.size w w' :=
  (implRRight_any a cap l w hl hrow).mono fun e w' ⟨h, hb⟩ => ⟨h.is hr, hb⟩
set_option maxHeartbeats 2000000 in
set_option maxRecDepth 100000 in
theorem specRRight_any (a : Option Addr) (cap : Nat) (l : List RumV) (w : World) (hl : l.length ≤ 1048576) (hrow : CellRow w a (cellsOf RumV.cells l)) :
    Calls Tryz.prog 91 #[.slice a l.length cap] w fun e w' => Tells (rightR l) e ∧ Below w.heap.size w w' := by
  by_cases hx : 6 < (l.length : Int)
  · have HR : Hid (¬ rightR l) := fun h => by have := rightR_len h; omega
    go_enter Tryz.func91, Tryz.ntmps91
    go_wp2
    go_ret
    exact ⟨.no HR.out, Below.refl _ _⟩
  go_enter Tryz.func91, Tryz.ntmps91
  go_wp2
  go_loopw [3] (fun i wr => ∃ k : Nat, k ≤ l.length ∧ i = .int .i64 k ∧ rightR (l.take k) ∧ Below w.heap.size w wr) (fun i _ => l.length - (intOf i).toNat)
  case atStart => exact ⟨0, Nat.zero_le _, rfl, by rw [List.take_zero]; exact rightR_nil, Below.refl _ _⟩
  case round =>
    obtain ⟨k, hk, rfl, hok, hb⟩ := hrel
    have HK : Hid (rightR (l.take k)) := hok
    clear hok
    by_cases hk2 : k < l.length
    · obtain ⟨b, off, rfl⟩ := hrow.addr (by rw [cellsOf_length RumV.cells_len]; omega)
      obtain ⟨x, hlx⟩ : ∃ x, l[k] = x := ⟨_, rfl⟩
      have d0 := (hrow.keep hb).rum hk2 hlx
      have HS : Hid (rightR (l.take (k + 1)) ↔ rightR (l.take k) ∧ x.ok ∧ ∀ y ∈ l.take k, y.node ≠ x.node) := by show _ ↔ _; rw [rightR_step hk2, hlx]
      have HX : Hid (l[k] = x) := hlx
      obtain ⟨r, hr⟩ := tells_bool x.fact.ok
      obtain ⟨r2, hr2⟩ := tells_bool (isIn x.sent 0 3)
      obtain ⟨x1, x2, x3, x4⟩ := x
      have HR : Hid (r = true ↔ FactV.ok ⟨x1, x2, x3⟩) := hr
      have HR2 : Hid (r2 = true ↔ isIn x4 0 3) := hr2
      have HO : Hid (RumV.ok ⟨x1, x2, x3, x4⟩ ↔ FactV.ok ⟨x1, x2, x3⟩ ∧ isIn x4 0 3) := Iff.rfl
      have d1 := d0
      obtain ⟨_, c0, c1, c2, c3⟩ := d1
      dsimp only at c0 c1 c2 c3
      have hk' : (k : Int) < (l.length : Int) := by omega
      clear hlx hr hr2
      go_wp2_with fail
      refine (specFact_is ⟨x1, x2, x3⟩ _ r HR.out).mono ?_
      rintro e z ⟨rfl, bz⟩
      have d2 := d0.keep bz
      have B2 := hb.trans (bz.mono hb.size)
      clear d0 hb bz c0 c1 c2 c3
      have d1 := d2
      obtain ⟨_, c0, c1, c2, c3⟩ := d1
      dsimp only at c0 c1 c2 c3
      cases r with
      | false =>
        have HN : Hid (¬ rightR l) := fun h => by
          have := HR.out.2 (HO.out.1 (HS.out.1 (rightR_take h _)).2.1).1
          cases this
        clear HR HS HK HX HR2 HO
        go_wp2
        go_ret
        exact ⟨.no HN.out, B2⟩
      | true =>
        have T1 : Hid (FactV.ok ⟨x1, x2, x3⟩) := HR.out.1 rfl
        clear HR
        go_wp2_with fail
        refine (is_any x4 0 3 _).mono ?_
        rintro e z' ⟨ht, rfl⟩
        obtain rfl := ht.is HR2.out
        clear ht
        cases r2 with
        | false =>
          have HN : Hid (¬ rightR l) := fun h => by
            have := HR2.out.2 (HO.out.1 (HS.out.1 (rightR_take h _)).2.1).2
            cases this
          clear HS HK HX HR2 HO T1
          go_wp2
          go_ret
          exact ⟨.no HN.out, B2⟩
        | true =>
          have T2 : Hid (RumV.ok ⟨x1, x2, x3, x4⟩) := HO.out.2 ⟨T1.out, HR2.out.1 rfl⟩
          clear HR2 HO T1
          clear c0 c1 c2 c3
          go_wp2
          go_loopw [4] (fun i wq => ∃ j : Nat, j ≤ k ∧ i = .int .i64 j ∧ (∀ y ∈ l.take j, y.node ≠ x1) ∧ Below z.heap.size z wq) (fun i _ => k - (intOf i).toNat)
          case atStart => exact ⟨0, Nat.zero_le _, rfl, fun y hy => absurd hy (by simp), Below.refl _ _⟩
          case round =>
            obtain ⟨j, hj, rfl, hno, bq⟩ := hrel
            have HJ : Hid (∀ y ∈ l.take j, y.node ≠ x1) := hno
            clear hno
            have B3 := B2.trans (bq.mono B2.size)
            have d3 := d2.keep bq
            by_cases hj2 : j < k
            · obtain ⟨y, hly⟩ : ∃ y, l[j] = y := ⟨_, rfl⟩
              have e0 := (hrow.keep B3).rum (show j < l.length by omega) hly
              have HT : Hid (l.take (j + 1) = l.take j ++ [y]) := by show _ = _; rw [List.take_succ_eq_append_getElem (by omega), hly]
              have HM : Hid (y ∈ l.take k) := by show _ ∈ _; rw [← hly]; exact List.mem_take_iff_getElem.2 ⟨j, by omega, rfl⟩
              obtain ⟨y1, y2, y3, y4⟩ := y
              obtain ⟨_, c0, c1, c2, c3⟩ := d3
              obtain ⟨_, g0, g1, g2, g3⟩ := e0
              dsimp only at c0 c1 c2 c3 g0 g1 g2 g3
              have hj' : (j : Int) < (k : Int) := by omega
              have hjl : (j : Int) < (l.length : Int) := by omega
              clear hly
              by_cases hyx : y1 = x1
              · have HN : Hid (¬ rightR l) := fun h => (HS.out.1 (rightR_take h _)).2.2 _ HM.out hyx
                subst hyx
                clear HS HK HX T2 HJ HT HM
                go_wp2
                go_region
                all_goals
                  go_wp2
                  go_ret
                  exact ⟨.no HN.out, B3.drew⟩
              · have HN : Hid (∀ q ∈ l.take (j + 1), q.node ≠ x1) := fun q hq => by
                  rw [HT.out] at hq
                  rcases List.mem_append.1 hq with h | h
                  · exact HJ.out q h
                  · rw [List.mem_singleton.1 h]; exact hyx
                have hyb : (y1 == x1) = false := beq_eq_false_iff_ne.2 hyx
                have bd := bq.drew
                clear HS HK HX T2 HJ HT HM
                go_wp2
                go_region
                all_goals
                  go_wp2
                  go_roundw
                  case rel => exact ⟨j + 1, by omega, by go_num, HN.out, bd⟩
                  case measure => simp [intOf]; omega
            · obtain rfl : j = k := by omega
              have HN : Hid (rightR (l.take (j + 1))) := HS.out.2 ⟨HK.out, T2.out, HJ.out⟩
              clear HS HK HX T2 HJ d2 d3
              go_wp2
              go_roundw
              case rel => exact ⟨j + 1, by omega, by go_num, HN.out, B3⟩
              case measure => simp [intOf]; omega
    · obtain rfl : k = l.length := by omega
      have HN : Hid (rightR l) := by have := HK.out; rwa [List.take_length] at this
      clear HK
      go_wp2
      go_ret
      exact ⟨.yes HN.out, hb⟩
theorem specRRight_is (a : Option Addr) (cap : Nat) (l : List RumV) (w : World) (r : Bool) (hr : r = true ↔ rightR l) (hl : l.length ≤ 1048576) (hrow : CellRow w a (cellsOf RumV.cells l)) :
    Calls Tryz.prog 91 #[.slice a l.length cap] w fun e w' => e = .returned (.bool r) ∧ Below w.heap.size w w' :=
  (specRRight_any a cap l w hl hrow).mono fun e w' ⟨h, hb⟩ => ⟨h.is hr, hb⟩
end Go.Proofs.YtmdcankfjmkkeaaGreat
