/- The contracts of the exact laws' helpers over facts: copy, compare, measure. -/
import Derived.Test.YtmdcankfjmkkeaaGreatFPlain
namespace Go.Proofs.YtmdcankfjmkkeaaGreat
open Go Go.RowKit
set_option linter.unusedVariables false

theorem Tryz.infoFact : (Tryz.prog.info? 54).map (fun i => (i.zero, i.size, i.bytes)) = some (some (.agg #[.int .i64 0, .int .i64 0, .int .i64 0]), 3, 24) := by kernel_rfl
theorem toFact_any (d : FactV) (w : World) : Calls Tryz.prog 165 #[d.val] w fun e w' => e = .returned d.val ∧ Below w.heap.size w w' := by
  unfold FactV.val
  go_enter Tryz.func165, Tryz.ntmps165
  go_wp2
  exact bodyPost_ret (v := .agg #[.int .i64 d.node, .int .i64 d.inc, .int .i64 d.st]) (by simp [results, Tryz.results165, go_sem]) rfl ⟨rfl, (((Below.refl _ _).alloc (Nat.le_refl _) _).alloc (by simp) _).alloc (by simp; omega) _⟩
set_option maxHeartbeats 1000000 in
set_option maxRecDepth 100000 in
theorem eqFact_same (d : FactV) (w : World) : Calls Tryz.prog 169 #[d.val, d.val] w fun r w' => r = .returned (.bool true) ∧ Below w.heap.size w w' := by
  unfold FactV.val
  go_enter Tryz.func169, Tryz.ntmps169
  go_wp2
  go_ret
  exact ⟨rfl, ((Below.refl _ _).alloc (Nat.le_refl _) _).alloc (by simp) _⟩
/-- Three cells in the midst of a row are put anew. -/
theorem set_three {X Y : List Value} {a b c e f g : Value} {n : Nat} (hn : X.length = n) : (((X ++ a :: b :: c :: Y).set n e).set (n + 1) f).set (n + 2) g = X ++ e :: f :: g :: Y := by
  subst hn
  rw [List.set_append_right _ _ (Nat.le_refl _), List.set_append_right _ _ (by omega), List.set_append_right _ _ (by omega)]
  simp
set_option maxHeartbeats 1000000 in
set_option maxRecDepth 100000 in
theorem toFacts_any (a : Option Addr) (cap : Nat) (l : List FactV) (w : World) (hl : l.length ≤ 1048576) (hrow : CellRow w a (cellsOf FactV.cells l)) :
    Calls Tryz.prog 104 #[.slice a l.length cap] w fun e w' => e = .returned (.slice (some ⟨w.heap.size, 0, none⟩) l.length l.length) ∧ OwnCells w' w.heap.size (some ⟨w.heap.size, 0, none⟩) (cellsOf FactV.cells l) ∧ Below w.heap.size w w' := by
  obtain ⟨i0, hi0, hz⟩ := Option.map_eq_some_iff.1 Tryz.infoFact
  simp only [Prod.mk.injEq] at hz
  obtain ⟨wm, hmk, hown, hgr⟩ := run_make_full (P := Tryz.prog) w w.heap.size 23 54 i0 _ 3 Tryz.underlying23 hi0 hz.1 hz.2.1 .i64 .i64 l.length (by rw [hz.2.2]; omega) (by unfold maxLen; omega) (Nat.le_refl _)
  obtain ⟨Z, hZ⟩ : ∃ Z : List Value, Z.length = l.length * 3 ∧ OwnCells wm w.heap.size (some ⟨w.heap.size, 0, none⟩) Z := by
    refine ⟨_, hown.1, ?_⟩
    by_cases h0 : l.length = 0
    · exact .inl (List.eq_nil_of_length_eq_zero (by rw [hown.1, h0]))
    · exact .inr ⟨w.heap.size, 0, rfl, Nat.le_refl _, (hown.lt _ rfl).2, fun i hi => by rw [Nat.zero_add, hown.cellAt i (by rw [hown.1] at hi; exact hi), List.getElem?_eq_getElem hi], fun i _ => hown.frozenAt _⟩
  have hZl := hZ.1
  have hZo := hZ.2
  have hb0 : Below w.heap.size w wm := (Below.refl _ _).grown hgr (Nat.le_refl _) (fun k e => by cases e)
  clear hown hgr hZ
  go_enter Tryz.func104, Tryz.ntmps104
  go_wp2
  go_loopw [4] (fun i wr => ∃ k : Nat, k ≤ l.length ∧ i = .int .i64 k ∧ OwnCells wr w.heap.size (some ⟨w.heap.size, 0, none⟩) (cellsOf FactV.cells (l.take k) ++ Z.drop (k * 3)) ∧ Below w.heap.size w wr) (fun i _ => l.length - (intOf i).toNat)
  case atStart => exact ⟨0, Nat.zero_le _, rfl, by simpa [cellsOf] using hZo, hb0⟩
  case round =>
    obtain ⟨k, hk, rfl, ho, hb⟩ := hrel
    clear hmk hb0 hZo
    by_cases hx : k < l.length
    · obtain ⟨b, off, rfl⟩ := hrow.addr (by rw [cellsOf_length FactV.cells_len]; omega)
      have hrow2 := hrow.keep hb
      obtain ⟨x1, x2, x3, hlx⟩ : ∃ x1 x2 x3, l[k] = ⟨x1, x2, x3⟩ := ⟨_, _, _, rfl⟩
      have q0 := hrow2.thing0 FactV.cells_len (i := k) (v := .int .i64 x1) hx (by omega) (by rw [hlx]; rfl)
      have q1 := hrow2.thingj FactV.cells_len (i := k) (j := 1) (v := .int .i64 x2) hx (by omega) (by rw [hlx]; rfl)
      have q2 := hrow2.thingj FactV.cells_len (i := k) (j := 2) (v := .int .i64 x3) hx (by omega) (by rw [hlx]; rfl)
      have hTl : (cellsOf FactV.cells (l.take k) ++ Z.drop (k * 3)).length = l.length * 3 := by
        rw [List.length_append, cellsOf_length FactV.cells_len, List.length_take, List.length_drop, Nat.min_eq_left hk, hZl]; omega
      have HT : Hid ((((cellsOf FactV.cells (l.take k) ++ Z.drop (k * 3)).set (k * 3) (.int .i64 x1)).set (k * 3 + 1) (.int .i64 x2)).set (k * 3 + 2) (.int .i64 x3) = cellsOf FactV.cells (l.take (k + 1)) ++ Z.drop ((k + 1) * 3)) := by
        show _ = _
        have hd : Z.drop (k * 3) = Z[k * 3]'(by omega) :: Z[k * 3 + 1]'(by omega) :: Z[k * 3 + 2]'(by omega) :: Z.drop ((k + 1) * 3) := by
          rw [List.drop_eq_getElem_cons (by omega), List.drop_eq_getElem_cons (by omega), List.drop_eq_getElem_cons (by omega), show (k + 1) * 3 = k * 3 + 1 + 1 + 1 by omega]
        rw [hd, set_three (by rw [cellsOf_length FactV.cells_len, List.length_take, Nat.min_eq_left hk]), List.take_succ_eq_append_getElem hx, cellsOf_append, hlx, List.append_assoc]
        rfl
      go_wp2_with fail
      refine (toFact_any ⟨x1, x2, x3⟩ _).mono ?_
      rintro e y1 ⟨rfl, by1⟩
      unfold FactV.val
      have ho1 := ho.keep by1
      obtain ⟨c0, f0⟩ := ho1.at0 (n := k * 3) (by omega)
      obtain ⟨c1, f1⟩ := ho1.at0 (n := k * 3 + 1) (by omega)
      obtain ⟨c2, f2⟩ := ho1.at0 (n := k * 3 + 2) (by omega)
      obtain ⟨t0, ht0⟩ : ∃ t, (cellsOf FactV.cells (l.take k) ++ Z.drop (k * 3))[k * 3]'(by omega) = t := ⟨_, rfl⟩
      obtain ⟨t1, ht1⟩ : ∃ t, (cellsOf FactV.cells (l.take k) ++ Z.drop (k * 3))[k * 3 + 1]'(by omega) = t := ⟨_, rfl⟩
      obtain ⟨t2, ht2⟩ : ∃ t, (cellsOf FactV.cells (l.take k) ++ Z.drop (k * 3))[k * 3 + 2]'(by omega) = t := ⟨_, rfl⟩
      rw [ht0] at c0
      rw [ht1] at c1
      rw [ht2] at c2
      have HO : Hid (OwnCells (((y1.setCell ⟨w.heap.size, k * 3, none⟩ (.int .i64 x1)).setCell ⟨w.heap.size, k * 3 + 1, none⟩ (.int .i64 x2)).setCell ⟨w.heap.size, k * 3 + 2, none⟩ (.int .i64 x3)) w.heap.size (some ⟨w.heap.size, 0, none⟩) (cellsOf FactV.cells (l.take (k + 1)) ++ Z.drop ((k + 1) * 3))) := by
        have h := ((ho1.put0 (n := k * 3) (.int .i64 x1) (by omega)).put0 (n := k * 3 + 1) (.int .i64 x2) (by simp only [List.length_set]; omega)).put0 (n := k * 3 + 2) (.int .i64 x3) (by simp only [List.length_set]; omega)
        rw [HT.out] at h
        exact h
      have hb1 := hb.trans (by1.mono hb.size)
      have HB : Hid (Below w.heap.size w (((y1.setCell ⟨w.heap.size, k * 3, none⟩ (.int .i64 x1)).setCell ⟨w.heap.size, k * 3 + 1, none⟩ (.int .i64 x2)).setCell ⟨w.heap.size, k * 3 + 2, none⟩ (.int .i64 x3))) := ((hb1.setCell (Nat.le_refl _) _).setCell (Nat.le_refl _) _).setCell (Nat.le_refl _) _
      clear ho ho1 hb hb1 by1 HT hTl ht0 ht1 ht2 q0 q1 q2 hrow2 hlx
      have hx' : (k : Int) < (l.length : Int) := by omega
      go_wp2
      go_roundw
      case rel => exact ⟨k + 1, by omega, by go_num, HO.out, HB.out⟩
      case measure => simp [intOf]; omega
    · obtain rfl : k = l.length := by omega
      rw [List.take_length, List.drop_eq_nil_of_le (by omega), List.append_nil] at ho
      go_wp2
      go_ret
      exact ⟨rfl, ho, hb⟩
set_option maxHeartbeats 1000000 in
set_option maxRecDepth 100000 in
theorem eqFacts_same (a1 : Option Addr) (c1 : Nat) (a2 : Option Addr) (c2 : Nat) (l : List FactV) (w : World) (hl : l.length ≤ 1048576) (h1 : CellRow w a1 (cellsOf FactV.cells l)) (h2 : CellRow w a2 (cellsOf FactV.cells l)) :
    Calls Tryz.prog 110 #[.slice a1 l.length c1, .slice a2 l.length c2] w fun e w' => e = .returned (.bool true) ∧ Below w.heap.size w w' := by
  go_enter Tryz.func110, Tryz.ntmps110
  go_wp2
  go_loopw [5] (fun i wr => ∃ k : Nat, k ≤ l.length ∧ i = .int .i64 k ∧ Below w.heap.size w wr) (fun i _ => l.length - (intOf i).toNat)
  case atStart => exact ⟨0, Nat.zero_le _, rfl, Below.refl _ _⟩
  case round =>
    obtain ⟨k, hk, rfl, hb⟩ := hrel
    by_cases hx : k < l.length
    · obtain ⟨b1, o1, rfl⟩ := h1.addr (by rw [cellsOf_length FactV.cells_len]; omega)
      obtain ⟨b2, o2, rfl⟩ := h2.addr (by rw [cellsOf_length FactV.cells_len]; omega)
      have r1 := h1.keep hb
      have r2 := h2.keep hb
      obtain ⟨x1, x2, x3, hlx⟩ : ∃ x1 x2 x3, l[k] = ⟨x1, x2, x3⟩ := ⟨_, _, _, rfl⟩
      have q0 := r1.thing0 FactV.cells_len (i := k) (v := .int .i64 x1) hx (by omega) (by rw [hlx]; rfl)
      have q1 := r1.thingj FactV.cells_len (i := k) (j := 1) (v := .int .i64 x2) hx (by omega) (by rw [hlx]; rfl)
      have q2 := r1.thingj FactV.cells_len (i := k) (j := 2) (v := .int .i64 x3) hx (by omega) (by rw [hlx]; rfl)
      have p0 := r2.thing0 FactV.cells_len (i := k) (v := .int .i64 x1) hx (by omega) (by rw [hlx]; rfl)
      have p1 := r2.thingj FactV.cells_len (i := k) (j := 1) (v := .int .i64 x2) hx (by omega) (by rw [hlx]; rfl)
      have p2 := r2.thingj FactV.cells_len (i := k) (j := 2) (v := .int .i64 x3) hx (by omega) (by rw [hlx]; rfl)
      have hx' : (k : Int) < (l.length : Int) := by omega
      clear r1 r2 hlx
      go_wp2
      go_region_with (go_at_call 169; refine (eqFact_same ⟨x1, x2, x3⟩ _).mono ?_; rintro e y1 ⟨rfl, by1⟩)
      all_goals
        have hb1 := hb.drew.trans (by1.mono hb.size)
        go_wp2
        go_roundw
        case rel => exact ⟨k + 1, by omega, by go_num, hb1⟩
        case measure => simp [intOf]; omega
    · obtain rfl : k = l.length := by omega
      go_wp2
      go_ret
      exact ⟨rfl, hb⟩
/-- What is left of a measure, or -1. -/
def leftOf (left : Int) (n : Nat) : Int := if left < (n : Int) then -1 else left - n
set_option maxRecDepth 100000 in
theorem szFacts_any (a : Option Addr) (cap : Nat) (n : Nat) (left : Int) (w : World) (h0 : 0 ≤ left) (h1 : left ≤ 1048576) (hl : n ≤ 9223372036854775807) :
    Calls Tryz.prog 100 #[.slice a n cap, .int .i64 left] w fun e w' => e = .returned (.int .i64 (leftOf left n)) ∧ w = w' := by
  have hw : IntKind.i64.wrap (left - (n : Int)) = left - (n : Int) := by rw [IntKind.wrap_i64]; omega
  by_cases hx : left < (n : Int)
  · have HE : Hid (leftOf left n = -1) := if_pos hx
    have hx' : left - (n : Int) < 0 := by omega
    go_enter Tryz.func100, Tryz.ntmps100
    go_wp2
    go_ret
    exact ⟨by rw [HE.out]; rfl, rfl⟩
  · have HE : Hid (leftOf left n = left - (n : Int)) := if_neg hx
    have hx' : ¬ left - (n : Int) < 0 := by omega
    go_enter Tryz.func100, Tryz.ntmps100
    go_wp2
    go_ret
    exact ⟨by rw [HE.out]; rfl, rfl⟩
end Go.Proofs.YtmdcankfjmkkeaaGreat
/- The contracts of one fact and of two: right, less, joined; the program's and the specification's. -/
namespace Go.Proofs.YtmdcankfjmkkeaaGreat
open Go Go.RowKit
set_option linter.unusedVariables false

/-- A fact in a block of its own. -/
structure FBlk (w : World) (b : Nat) (x : FactV) : Prop where
  lt : b < w.heap.size
  c0 : w.cell? ⟨b, 0, none⟩ = some (.int .i64 x.node)
  c1 : w.cell? ⟨b, 1, none⟩ = some (.int .i64 x.inc)
  c2 : w.cell? ⟨b, 2, none⟩ = some (.int .i64 x.st)
theorem FBlk.keep {w w' : World} {b : Nat} {x : FactV} (h : FBlk w b x) (k : Below w.heap.size w w') : FBlk w' b x :=
  ⟨Nat.lt_of_lt_of_le h.lt k.size, (k.cell (p := ⟨b, 0, none⟩) h.lt).trans h.c0, (k.cell (p := ⟨b, 1, none⟩) h.lt).trans h.c1, (k.cell (p := ⟨b, 2, none⟩) h.lt).trans h.c2⟩
theorem FBlk.new (w : World) (x : FactV) : FBlk (w.alloc (.cells #[.int .i64 x.node, .int .i64 x.inc, .int .i64 x.st] 54)) w.heap.size x := by
  have e := heap_alloc_new w (.cells #[.int .i64 x.node, .int .i64 x.inc, .int .i64 x.st] 54)
  refine ⟨by simp, ?_, ?_, ?_⟩ <;> simp only [World.cell?, e] <;> simp
theorem BlkIs3.newL (w : World) (x : FactV) : FBlk (w.alloc (.cells #[.int .i64 x.node, .int .i64 x.inc, .int .i64 x.st] 185)) w.heap.size x := by
  have e := heap_alloc_new w (.cells #[.int .i64 x.node, .int .i64 x.inc, .int .i64 x.st] 185)
  refine ⟨by simp, ?_, ?_, ?_⟩ <;> simp only [World.cell?, e] <;> simp
/-- One of a row's facts. -/
structure FAt (w : World) (b off : Nat) (x : FactV) : Prop where
  lt : b < w.heap.size
  c0 : w.cell? ⟨b, off, none⟩ = some (.int .i64 x.node)
  c1 : w.cell? ⟨b, off + 1, none⟩ = some (.int .i64 x.inc)
  c2 : w.cell? ⟨b, off + 2, none⟩ = some (.int .i64 x.st)
theorem FAt.keep {w w' : World} {b off : Nat} {x : FactV} (h : FAt w b off x) (k : Below w.heap.size w w') : FAt w' b off x :=
  ⟨Nat.lt_of_lt_of_le h.lt k.size, (k.cell (p := ⟨b, off, none⟩) h.lt).trans h.c0, (k.cell (p := ⟨b, off + 1, none⟩) h.lt).trans h.c1, (k.cell (p := ⟨b, off + 2, none⟩) h.lt).trans h.c2⟩
theorem CellRow.fact {w : World} {b off : Nat} {l : List FactV} (h : CellRow w (some ⟨b, off, none⟩) (cellsOf FactV.cells l)) {i : Nat} (hi : i < l.length) {x : FactV} (hx : l[i] = x) : FAt w b (off + i * 3) x := by
  subst hx
  refine ⟨?_, h.thing0 FactV.cells_len hi (by omega) rfl, h.thingj FactV.cells_len (j := 1) hi (by omega) rfl, h.thingj FactV.cells_len (j := 2) hi (by omega) rfl⟩
  have hlen := cellsOf_length FactV.cells_len l
  rcases h with h | ⟨b', off', e, hlt, _⟩
  · rw [h] at hlen; simp only [List.length_nil] at hlen; omega
  · simp only [Option.some.injEq, Addr.mk.injEq, and_true] at e
    rw [e.1]; exact hlt
theorem nodeRight_any (n : Int) (w : World) : Calls Tryz.prog 79 #[.int .i64 n] w fun e w' => Tells (nodeR n) e ∧ w = w' := by
  by_cases h0 : 1 ≤ n
  · by_cases h1 : n ≤ 6
    · have HR : Hid (nodeR n) := ⟨h0, h1⟩
      go_enter Tryz.func79, Tryz.ntmps79
      go_wp2
      go_ret
      exact ⟨.yes HR.out, rfl⟩
    · have HR : Hid (¬ nodeR n) := fun h => h1 h.2
      go_enter Tryz.func79, Tryz.ntmps79
      go_wp2
      go_ret
      exact ⟨.no HR.out, rfl⟩
  · have HR : Hid (¬ nodeR n) := fun h => h0 h.1
    go_enter Tryz.func79, Tryz.ntmps79
    go_wp2
    go_ret
    exact ⟨.no HR.out, rfl⟩
theorem specNode_any (n : Int) (w : World) : Calls Tryz.prog 73 #[.int .i64 n] w fun e w' => Tells (nodeR n) e ∧ w = w' := by
  go_enter Tryz.func73, Tryz.ntmps73
  go_wp2_with fail
  refine (is_any n 1 6 _).mono ?_
  rintro e w' ⟨⟨r, rfl, hr⟩, rfl⟩
  have HR : Hid (r = true ↔ nodeR n) := hr
  clear hr
  go_wp2
  go_ret
  exact ⟨⟨r, rfl, HR.out⟩, rfl⟩
set_option maxHeartbeats 1000000 in
set_option maxRecDepth 100000 in
theorem factRight_any (d : FactV) (w : World) : Calls Tryz.prog 162 #[d.val] w fun e w' => Tells d.ok e ∧ Below w.heap.size w w' := by
  obtain ⟨x1, x2, x3⟩ := d
  have HO : Hid (FactV.ok ⟨x1, x2, x3⟩ ↔ (nodeR x1 ∧ timeR x2 ∧ (1 ≤ x3 ∧ x3 ≤ 3))) := Iff.rfl
  have b1 := (Below.refl w.heap.size w).alloc (Nat.le_refl _) (.cells #[.int .i64 x1, .int .i64 x2, .int .i64 x3] 54)
  unfold FactV.val
  go_enter Tryz.func162, Tryz.ntmps162
  go_wp2_with fail
  refine (nodeRight_any x1 _).mono ?_
  rintro e w' ⟨⟨r1, rfl, h1⟩, rfl⟩
  have H1 : Hid (r1 = true ↔ nodeR x1) := h1
  clear h1
  cases r1 with
  | false =>
    go_wp2
    go_ret
    exact ⟨.no (fun h => by have := H1.out.2 (HO.out.1 h).1; cases this), b1⟩
  | true =>
    have T1 : Hid (nodeR x1) := H1.out.1 rfl
    go_wp2_with fail
    refine (timeRight_any x2 _).mono ?_
    rintro e w' ⟨⟨r2, rfl, h2⟩, rfl⟩
    have H2 : Hid (r2 = true ↔ timeR x2) := h2
    clear h2
    cases r2 with
    | false =>
      go_wp2
      go_ret
      exact ⟨.no (fun h => by have := H2.out.2 (HO.out.1 h).2.1; cases this), b1⟩
    | true =>
      have T2 : Hid (timeR x2) := H2.out.1 rfl
      by_cases h3 : 1 ≤ x3
      · go_wp2
        go_ret
        exact ⟨⟨_, rfl, by rw [HO.out]; simp [T1.out, T2.out, h3]⟩, b1⟩
      · go_wp2
        go_ret
        exact ⟨.no (fun h => by have := (HO.out.1 h).2.2; omega), b1⟩
set_option maxHeartbeats 1000000 in
set_option maxRecDepth 100000 in
theorem specFact_any (d : FactV) (w : World) : Calls Tryz.prog 158 #[d.val] w fun e w' => Tells d.ok e ∧ Below w.heap.size w w' := by
  obtain ⟨x1, x2, x3⟩ := d
  have HO : Hid (FactV.ok ⟨x1, x2, x3⟩ ↔ (nodeR x1 ∧ timeR x2 ∧ isIn x3 1 3)) := Iff.rfl
  have b1 := (Below.refl w.heap.size w).alloc (Nat.le_refl _) (.cells #[.int .i64 x1, .int .i64 x2, .int .i64 x3] 54)
  unfold FactV.val
  go_enter Tryz.func158, Tryz.ntmps158
  go_wp2_with fail
  refine (specNode_any x1 _).mono ?_
  rintro e w' ⟨⟨r1, rfl, h1⟩, rfl⟩
  have H1 : Hid (r1 = true ↔ nodeR x1) := h1
  clear h1
  cases r1 with
  | false =>
    go_wp2
    go_ret
    exact ⟨.no (fun h => by have := H1.out.2 (HO.out.1 h).1; cases this), b1⟩
  | true =>
    have T1 : Hid (nodeR x1) := H1.out.1 rfl
    go_wp2_with fail
    refine (specTime_any x2 _).mono ?_
    rintro e w' ⟨⟨r2, rfl, h2⟩, rfl⟩
    have H2 : Hid (r2 = true ↔ timeR x2) := h2
    clear h2
    cases r2 with
    | false =>
      go_wp2
      go_ret
      exact ⟨.no (fun h => by have := H2.out.2 (HO.out.1 h).2.1; cases this), b1⟩
    | true =>
      have T2 : Hid (timeR x2) := H2.out.1 rfl
      go_wp2_with fail
      refine (is_any x3 1 3 _).mono ?_
      rintro e w' ⟨⟨r3, rfl, h3⟩, rfl⟩
      have H3 : Hid (r3 = true ↔ isIn x3 1 3) := h3
      clear h3
      go_wp2
      go_ret
      exact ⟨⟨_, rfl, by rw [HO.out]; simp only [H3.out, T1.out, T2.out, true_and]⟩, b1⟩
theorem factRight_is (d : FactV) (w : World) (r : Bool) (hr : r = true ↔ d.ok) : Calls Tryz.prog 162 #[d.val] w fun e w' => e = .returned (.bool r) ∧ Below w.heap.size w w' :=
  (factRight_any d w).mono fun e w' ⟨h, hb⟩ => ⟨h.is hr, hb⟩
theorem specFact_is (d : FactV) (w : World) (r : Bool) (hr : r = true ↔ d.ok) : Calls Tryz.prog 158 #[d.val] w fun e w' => e = .returned (.bool r) ∧ Below w.heap.size w w' :=
  (specFact_any d w).mono fun e w' ⟨h, hb⟩ => ⟨h.is hr, hb⟩
set_option maxHeartbeats 1000000 in
set_option maxRecDepth 100000 in
theorem specLess_any (x y : FactV) (w : World) : Calls Tryz.prog 201 #[x.val, y.val] w fun e w' => Tells (x.lt y) e ∧ Below w.heap.size w w' := by
  obtain ⟨x1, x2, x3⟩ := x
  obtain ⟨y1, y2, y3⟩ := y
  unfold FactV.val
  have HO : Hid (FactV.lt ⟨x1, x2, x3⟩ ⟨y1, y2, y3⟩ ↔ (x2 < y2 ∨ (x2 = y2 ∧ x3 < y3))) := Iff.rfl
  have b1 := ((Below.refl w.heap.size w).alloc (Nat.le_refl _) (.cells #[.int .i64 x1, .int .i64 x2, .int .i64 x3] 54)).alloc (by simp) (.cells #[.int .i64 y1, .int .i64 y2, .int .i64 y3] 54)
  by_cases h1 : x2 < y2
  · go_enter Tryz.func201, Tryz.ntmps201
    go_wp2
    go_ret
    exact ⟨.yes (HO.out.2 (.inl h1)), b1⟩
  · by_cases h2 : x2 = y2
    · subst h2
      go_enter Tryz.func201, Tryz.ntmps201
      go_wp2
      go_ret
      exact ⟨⟨_, rfl, by rw [HO.out]; simp⟩, b1⟩
    · have h2' : (x2 == y2) = false := beq_eq_false_iff_ne.2 h2
      go_enter Tryz.func201, Tryz.ntmps201
      go_wp2
      go_ret
      exact ⟨.no (fun h => by have := HO.out.1 h; omega), b1⟩
/-- Two facts in blocks of their own, one behind the other. -/
theorem two_blks (w : World) (x y : FactV) : ∃ W, (w.alloc (.cells #[.int .i64 x.node, .int .i64 x.inc, .int .i64 x.st] 54)).alloc (.cells #[.int .i64 y.node, .int .i64 y.inc, .int .i64 y.st] 54) = W ∧ FBlk W w.heap.size x ∧ FBlk W (w.heap.size + 1) y ∧ Below w.heap.size w W := by
  refine ⟨_, rfl, (FBlk.new w x).keep ((Below.refl _ _).alloc (Nat.le_refl _) _), ?_, ((Below.refl _ _).alloc (Nat.le_refl _) _).alloc (by simp) _⟩
  have := FBlk.new (w.alloc (.cells #[.int .i64 x.node, .int .i64 x.inc, .int .i64 x.st] 54)) y
  rwa [World.size_alloc] at this
set_option maxHeartbeats 1000000 in
set_option maxRecDepth 100000 in
theorem ofOne_any (x y : FactV) (w : World) : Calls Tryz.prog 99 #[x.val, y.val] w fun e w' => Tells (oneNode x y) e ∧ Below w.heap.size w w' := by
  obtain ⟨W, hW, p1, p2, B0⟩ := two_blks w x y
  have HO : Hid (oneNode x y ↔ (x.ok ∧ y.ok ∧ x.node = y.node)) := Iff.rfl
  obtain ⟨r1, hr1⟩ := tells_bool x.ok
  obtain ⟨r2, hr2⟩ := tells_bool y.ok
  obtain ⟨x1, x2, x3⟩ := x
  obtain ⟨y1, y2, y3⟩ := y
  have H1 : Hid (r1 = true ↔ FactV.ok ⟨x1, x2, x3⟩) := hr1
  have H2 : Hid (r2 = true ↔ FactV.ok ⟨y1, y2, y3⟩) := hr2
  have HW : Hid (_ = W) := hW
  clear hW hr1 hr2
  unfold FactV.val
  go_enter Tryz.func99, Tryz.ntmps99
  go_wp2_with fail
  rw [HW.out]
  refine (factRight_is ⟨x1, x2, x3⟩ _ r1 H1.out).mono ?_
  rintro e z1 ⟨rfl, bz1⟩
  have q1 := p1.keep bz1
  have q2 := p2.keep bz1
  have B1 := B0.trans (bz1.mono B0.size)
  clear p1 p2 B0 bz1 HW
  obtain ⟨_, a0, a1, a2⟩ := q2
  dsimp only at a0 a1 a2
  cases r1 with
  | false =>
    go_wp2
    go_ret
    exact ⟨.no (fun h => by have := H1.out.2 (HO.out.1 h).1; cases this), B1⟩
  | true =>
    have K1 : Hid (FactV.ok ⟨x1, x2, x3⟩) := H1.out.1 rfl
    clear H1
    go_wp2_with fail
    refine (factRight_is ⟨y1, y2, y3⟩ _ r2 H2.out).mono ?_
    rintro e z2 ⟨rfl, bz2⟩
    obtain ⟨_, c0, c1, c2⟩ := q1.keep bz2
    have q2 : FBlk z1 (w.heap.size + 1) ⟨y1, y2, y3⟩ := ⟨by assumption, a0, a1, a2⟩
    obtain ⟨_, d0, d1, d2⟩ := q2.keep bz2
    have B2 := B1.trans (bz2.mono B1.size)
    clear q1 q2 bz2 B1 a0 a1 a2
    dsimp only at c0 c1 c2 d0 d1 d2
    cases r2 with
    | false =>
      go_wp2
      go_ret
      exact ⟨.no (fun h => by have := H2.out.2 (HO.out.1 h).2.1; cases this), B2⟩
    | true =>
      have T1 : Hid (FactV.ok ⟨x1, x2, x3⟩) := K1.out
      have T2 : Hid (FactV.ok ⟨y1, y2, y3⟩) := H2.out.1 rfl
      clear H2
      go_wp2
      go_ret
      exact ⟨⟨_, rfl, by rw [HO.out]; simp [T1.out, T2.out]⟩, B2⟩
theorem ofOne_is (x y : FactV) (w : World) (r : Bool) (hr : r = true ↔ oneNode x y) : Calls Tryz.prog 99 #[x.val, y.val] w fun e w' => e = .returned (.bool r) ∧ Below w.heap.size w w' :=
  (ofOne_any x y w).mono fun e w' ⟨h, hb⟩ => ⟨h.is hr, hb⟩
/-- What FactLess tells. -/
def lessF (x y : FactV) : Prop := oneNode x y ∧ x.lt y
set_option maxHeartbeats 1000000 in
set_option maxRecDepth 100000 in
theorem factLess_any (x y : FactV) (w : World) : Calls Tryz.prog 33 #[x.val, y.val] w fun e w' => Tells (lessF x y) e ∧ Below w.heap.size w w' := by
  obtain ⟨W, hW, p1, p2, B0⟩ := two_blks w x y
  obtain ⟨r, hr⟩ := tells_bool (oneNode x y)
  obtain ⟨x1, x2, x3⟩ := x
  obtain ⟨y1, y2, y3⟩ := y
  have HO : Hid (lessF ⟨x1, x2, x3⟩ ⟨y1, y2, y3⟩ ↔ (oneNode ⟨x1, x2, x3⟩ ⟨y1, y2, y3⟩ ∧ (x2 < y2 ∨ (x2 = y2 ∧ x3 < y3)))) := Iff.rfl
  have HR : Hid (r = true ↔ oneNode ⟨x1, x2, x3⟩ ⟨y1, y2, y3⟩) := hr
  have HW : Hid (_ = W) := hW
  clear hW hr
  unfold FactV.val
  go_enter Tryz.func33, Tryz.ntmps33
  go_wp2_with fail
  rw [HW.out]
  refine (ofOne_is ⟨x1, x2, x3⟩ ⟨y1, y2, y3⟩ _ r HR.out).mono ?_
  rintro e z1 ⟨rfl, bz1⟩
  obtain ⟨_, c0, c1, c2⟩ := p1.keep bz1
  obtain ⟨_, d0, d1, d2⟩ := p2.keep bz1
  have B1 := B0.trans (bz1.mono B0.size)
  clear p1 p2 B0 bz1 HW
  dsimp only at c0 c1 c2 d0 d1 d2
  cases r with
  | false =>
    go_wp2
    go_ret
    exact ⟨.no (fun h => by have := HR.out.2 (HO.out.1 h).1; cases this), B1⟩
  | true =>
    have K : Hid (oneNode ⟨x1, x2, x3⟩ ⟨y1, y2, y3⟩) := HR.out.1 rfl
    clear HR
    by_cases h1 : x2 < y2
    · go_wp2
      go_ret
      exact ⟨.yes (HO.out.2 ⟨K.out, .inl h1⟩), B1⟩
    · by_cases h2 : x2 = y2
      · subst h2
        have KO : Hid (lessF ⟨x1, x2, x3⟩ ⟨y1, x2, y3⟩ ↔ x3 < y3) := ⟨fun h => by have := (HO.out.1 h).2; omega, fun h => HO.out.2 ⟨K.out, .inr ⟨rfl, h⟩⟩⟩
        clear HO K
        go_wp2
        go_ret
        exact ⟨⟨_, rfl, by rw [KO.out]; simp⟩, B1⟩
      · have h2' : (x2 == y2) = false := beq_eq_false_iff_ne.2 h2
        have KO : Hid (¬ lessF ⟨x1, x2, x3⟩ ⟨y1, y2, y3⟩) := fun h => by have := (HO.out.1 h).2; omega
        clear HO K
        go_wp2
        go_ret
        exact ⟨⟨_, rfl, by simp [KO.out, h1]⟩, B1⟩
theorem factLess_is (x y : FactV) (w : World) (r : Bool) (hr : r = true ↔ lessF x y) : Calls Tryz.prog 33 #[x.val, y.val] w fun e w' => e = .returned (.bool r) ∧ Below w.heap.size w w' :=
  (factLess_any x y w).mono fun e w' ⟨h, hb⟩ => ⟨h.is hr, hb⟩
theorem specLess_is (x y : FactV) (w : World) (r : Bool) (hr : r = true ↔ x.lt y) : Calls Tryz.prog 201 #[x.val, y.val] w fun e w' => e = .returned (.bool r) ∧ Below w.heap.size w w' :=
  (specLess_any x y w).mono fun e w' ⟨h, hb⟩ => ⟨h.is hr, hb⟩
end Go.Proofs.YtmdcankfjmkkeaaGreat
