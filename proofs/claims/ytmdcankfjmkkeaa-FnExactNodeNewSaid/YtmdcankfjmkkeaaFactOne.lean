/- The contracts of one fact and of two: right, less, joined; the program's and the specification's. -/
import Derived.Test.YtmdcankfjmkkeaaFactSpec
namespace Go.Proofs.Ytmdcankfjmkkeaa
open Go Go.RowKit
set_option linter.unusedVariables false

/-- A fact in a block of its own. -/
structure FBlk (w : World) (b : Nat) (x : FactV) : Prop where
  lt : b < w.heap.size
  c0 : w.cell? ⟨b, 0, none⟩ = some (.int .i64 x.node)
  c1 : w.cell? ⟨b, 1, none⟩ = some (.int .i64 x.inc)
  c2 : w.cell? ⟨b, 2, none⟩ = some (.int .i64 x.st)
theorem FBlk.keep {w w' : World} {b : Nat} {x : FactV} (h : FBlk w b x) (k : Below w.heap.size w w') : FBlk w' b x :=
  ⟨Nat.lt_of_lt_of_le h.lt k.size, (k.cell (p := ⟨b, 0, none⟩) h.lt).trans h.c0, (k.cell (p := ⟨b, 1, none⟩) h.lt).trans h.c1, (k.cell (p := ⟨b, 2, none⟩) h.lt).trans h.c2⟩
theorem FBlk.new (w : World) (x : FactV) : FBlk (w.alloc (.cells #[.int .i64 x.node, .int .i64 x.inc, .int .i64 x.st] 62)) w.heap.size x := by
  have e := heap_alloc_new w (.cells #[.int .i64 x.node, .int .i64 x.inc, .int .i64 x.st] 62)
  refine ⟨by simp, ?_, ?_, ?_⟩ <;> simp only [World.cell?, e] <;> simp
theorem BlkIs3.newL (w : World) (x : FactV) : FBlk (w.alloc (.cells #[.int .i64 x.node, .int .i64 x.inc, .int .i64 x.st] 96)) w.heap.size x := by
  have e := heap_alloc_new w (.cells #[.int .i64 x.node, .int .i64 x.inc, .int .i64 x.st] 96)
  refine ⟨by simp, ?_, ?_, ?_⟩ <;> simp only [World.cell?, e] <;> simp
/-- One of a row's facts. -/
structure FAt (w : World) (b off : Nat) (x : FactV) : Prop where
  lt : b < w.heap.size
  c0 : w.cell? ⟨b, off, none⟩ = some (.int .i64 x.node)
  c1 : w.cell? ⟨b, off + 1, none⟩ = some (.int .i64 x.inc)
  c2 : w.cell? ⟨b, off + 2, none⟩ = some (.int .i64 x.st)
theorem FAt.keep {w w' : World} {b off : Nat} {x : FactV} (h : FAt w b off x) (k : Below w.heap.size w w') : FAt w' b off x :=
  ⟨Nat.lt_of_lt_of_le h.lt k.size, (k.cell (p := ⟨b, off, none⟩) h.lt).trans h.c0, (k.cell (p := ⟨b, off + 1, none⟩) h.lt).trans h.c1, (k.cell (p := ⟨b, off + 2, none⟩) h.lt).trans h.c2⟩
theorem CellRow.fact {w : World} {b off : Nat} {l : List FactV} (h : CellRow w (some ⟨b, off, none⟩) (cellsOf FactV.cells l)) {i : Nat} (hi : i < l.length) {x : FactV} (hx : l[i] = x) : FAt w b (off + i * 3) x := by
  subst hx
  refine ⟨?_, h.thing0 FactV.cells_len hi (by omega) rfl, h.thingj FactV.cells_len (j := 1) hi (by omega) rfl, h.thingj FactV.cells_len (j := 2) hi (by omega) rfl⟩
  have hlen := cellsOf_length FactV.cells_len l
  rcases h with h | ⟨b', off', e, hlt, _⟩
  · rw [h] at hlen; simp only [List.length_nil] at hlen; omega
  · simp only [Option.some.injEq, Addr.mk.injEq, and_true] at e
    rw [e.1]; exact hlt
theorem nodeRight_any (n : Int) (w : World) : Calls Try.prog 48 #[.int .i64 n] w fun e w' => Tells (nodeR n) e ∧ w = w' := by
  by_cases h0 : 1 ≤ n
  · by_cases h1 : n ≤ 6
    · have HR : Hid (nodeR n) := ⟨h0, h1⟩
      go_enter Try.func48, Try.ntmps48
      go_wp2
      go_ret
      exact ⟨.yes HR.out, rfl⟩
    · have HR : Hid (¬ nodeR n) := fun h => h1 h.2
      go_enter Try.func48, Try.ntmps48
      go_wp2
      go_ret
      exact ⟨.no HR.out, rfl⟩
  · have HR : Hid (¬ nodeR n) := fun h => h0 h.1
    go_enter Try.func48, Try.ntmps48
    go_wp2
    go_ret
    exact ⟨.no HR.out, rfl⟩
theorem specNode_any (n : Int) (w : World) : Calls Try.prog 22 #[.int .i64 n] w fun e w' => Tells (nodeR n) e ∧ w = w' := by
  go_enter Try.func22, Try.ntmps22
  go_wp2_with fail
  refine (is_any n 1 6 _).mono ?_
  rintro e w' ⟨⟨r, rfl, hr⟩, rfl⟩
  have HR : Hid (r = true ↔ nodeR n) := hr
  clear hr
  go_wp2
  go_ret
  exact ⟨⟨r, rfl, HR.out⟩, rfl⟩
set_option maxHeartbeats 1000000 in
set_option maxRecDepth 100000 in
theorem factRight_any (d : FactV) (w : World) : Calls Try.prog 93 #[d.val] w fun e w' => Tells d.ok e ∧ Below w.heap.size w w' := by
  obtain ⟨x1, x2, x3⟩ := d
  have HO : Hid (FactV.ok ⟨x1, x2, x3⟩ ↔ (nodeR x1 ∧ timeR x2 ∧ (1 ≤ x3 ∧ x3 ≤ 3))) := Iff.rfl
  have b1 := (Below.refl w.heap.size w).alloc (Nat.le_refl _) (.cells #[.int .i64 x1, .int .i64 x2, .int .i64 x3] 62)
  unfold FactV.val
  go_enter Try.func93, Try.ntmps93
  go_wp2_with fail
  refine (nodeRight_any x1 _).mono ?_
  rintro e w' ⟨⟨r1, rfl, h1⟩, rfl⟩
  have H1 : Hid (r1 = true ↔ nodeR x1) := h1
  clear h1
  cases r1 with
  | false =>
    go_wp2
    go_ret
    exact ⟨.no (fun h => by have := H1.out.2 (HO.out.1 h).1; cases this), b1⟩
  | true =>
    have T1 : Hid (nodeR x1) := H1.out.1 rfl
    go_wp2_with fail
    refine (timeRight_any x2 _).mono ?_
    rintro e w' ⟨⟨r2, rfl, h2⟩, rfl⟩
    have H2 : Hid (r2 = true ↔ timeR x2) := h2
    clear h2
    cases r2 with
    | false =>
      go_wp2
      go_ret
      exact ⟨.no (fun h => by have := H2.out.2 (HO.out.1 h).2.1; cases this), b1⟩
    | true =>
      have T2 : Hid (timeR x2) := H2.out.1 rfl
      by_cases h3 : 1 ≤ x3
      · go_wp2
        go_ret
        exact ⟨⟨_, rfl, by rw [HO.out]; simp [T1.out, T2.out, h3]⟩, b1⟩
      · go_wp2
        go_ret
        exact ⟨.no (fun h => by have := (HO.out.1 h).2.2; omega), b1⟩
set_option maxHeartbeats 1000000 in
set_option maxRecDepth 100000 in
theorem specFact_any (d : FactV) (w : World) : Calls Try.prog 60 #[d.val] w fun e w' => Tells d.ok e ∧ Below w.heap.size w w' := by
  obtain ⟨x1, x2, x3⟩ := d
  have HO : Hid (FactV.ok ⟨x1, x2, x3⟩ ↔ (nodeR x1 ∧ timeR x2 ∧ isIn x3 1 3)) := Iff.rfl
  have b1 := (Below.refl w.heap.size w).alloc (Nat.le_refl _) (.cells #[.int .i64 x1, .int .i64 x2, .int .i64 x3] 62)
  unfold FactV.val
  go_enter Try.func60, Try.ntmps60
  go_wp2_with fail
  refine (specNode_any x1 _).mono ?_
  rintro e w' ⟨⟨r1, rfl, h1⟩, rfl⟩
  have H1 : Hid (r1 = true ↔ nodeR x1) := h1
  clear h1
  cases r1 with
  | false =>
    go_wp2
    go_ret
    exact ⟨.no (fun h => by have := H1.out.2 (HO.out.1 h).1; cases this), b1⟩
  | true =>
    have T1 : Hid (nodeR x1) := H1.out.1 rfl
    go_wp2_with fail
    refine (specTime_any x2 _).mono ?_
    rintro e w' ⟨⟨r2, rfl, h2⟩, rfl⟩
    have H2 : Hid (r2 = true ↔ timeR x2) := h2
    clear h2
    cases r2 with
    | false =>
      go_wp2
      go_ret
      exact ⟨.no (fun h => by have := H2.out.2 (HO.out.1 h).2.1; cases this), b1⟩
    | true =>
      have T2 : Hid (timeR x2) := H2.out.1 rfl
      go_wp2_with fail
      refine (is_any x3 1 3 _).mono ?_
      rintro e w' ⟨⟨r3, rfl, h3⟩, rfl⟩
      have H3 : Hid (r3 = true ↔ isIn x3 1 3) := h3
      clear h3
      go_wp2
      go_ret
      exact ⟨⟨_, rfl, by rw [HO.out]; simp only [H3.out, T1.out, T2.out, true_and]⟩, b1⟩
theorem factRight_is (d : FactV) (w : World) (r : Bool) (hr : r = true ↔ d.ok) : Calls Try.prog 93 #[d.val] w fun e w' => e = .returned (.bool r) ∧ Below w.heap.size w w' :=
  (factRight_any d w).mono fun e w' ⟨h, hb⟩ => ⟨h.is hr, hb⟩
theorem specFact_is (d : FactV) (w : World) (r : Bool) (hr : r = true ↔ d.ok) : Calls Try.prog 60 #[d.val] w fun e w' => e = .returned (.bool r) ∧ Below w.heap.size w w' :=
  (specFact_any d w).mono fun e w' ⟨h, hb⟩ => ⟨h.is hr, hb⟩
/-- Two facts in blocks of their own, one behind the other. -/
theorem two_blks (w : World) (x y : FactV) : ∃ W, (w.alloc (.cells #[.int .i64 x.node, .int .i64 x.inc, .int .i64 x.st] 62)).alloc (.cells #[.int .i64 y.node, .int .i64 y.inc, .int .i64 y.st] 62) = W ∧ FBlk W w.heap.size x ∧ FBlk W (w.heap.size + 1) y ∧ Below w.heap.size w W := by
  refine ⟨_, rfl, (FBlk.new w x).keep ((Below.refl _ _).alloc (Nat.le_refl _) _), ?_, ((Below.refl _ _).alloc (Nat.le_refl _) _).alloc (by simp) _⟩
  have := FBlk.new (w.alloc (.cells #[.int .i64 x.node, .int .i64 x.inc, .int .i64 x.st] 62)) y
  rwa [World.size_alloc] at this
set_option maxHeartbeats 1000000 in
set_option maxRecDepth 100000 in
theorem ofOne_any (x y : FactV) (w : World) : Calls Try.prog 106 #[x.val, y.val] w fun e w' => Tells (oneNode x y) e ∧ Below w.heap.size w w' := by
  obtain ⟨W, hW, p1, p2, B0⟩ := two_blks w x y
  have HO : Hid (oneNode x y ↔ (x.ok ∧ y.ok ∧ x.node = y.node)) := Iff.rfl
  obtain ⟨r1, hr1⟩ := tells_bool x.ok
  obtain ⟨r2, hr2⟩ := tells_bool y.ok
  obtain ⟨x1, x2, x3⟩ := x
  obtain ⟨y1, y2, y3⟩ := y
  have H1 : Hid (r1 = true ↔ FactV.ok ⟨x1, x2, x3⟩) := hr1
  have H2 : Hid (r2 = true ↔ FactV.ok ⟨y1, y2, y3⟩) := hr2
  have HW : Hid (_ = W) := hW
  clear hW hr1 hr2
  unfold FactV.val
  go_enter Try.func106, Try.ntmps106
  go_wp2_with fail
  rw [HW.out]
  refine (factRight_is ⟨x1, x2, x3⟩ _ r1 H1.out).mono ?_
  rintro e z1 ⟨rfl, bz1⟩
  have q1 := p1.keep bz1
  have q2 := p2.keep bz1
  have B1 := B0.trans (bz1.mono B0.size)
  clear p1 p2 B0 bz1 HW
  obtain ⟨_, a0, a1, a2⟩ := q2
  dsimp only at a0 a1 a2
  cases r1 with
  | false =>
    go_wp2
    go_ret
    exact ⟨.no (fun h => by have := H1.out.2 (HO.out.1 h).1; cases this), B1⟩
  | true =>
    have K1 : Hid (FactV.ok ⟨x1, x2, x3⟩) := H1.out.1 rfl
    clear H1
    go_wp2_with fail
    refine (factRight_is ⟨y1, y2, y3⟩ _ r2 H2.out).mono ?_
    rintro e z2 ⟨rfl, bz2⟩
    obtain ⟨_, c0, c1, c2⟩ := q1.keep bz2
    have q2 : FBlk z1 (w.heap.size + 1) ⟨y1, y2, y3⟩ := ⟨by assumption, a0, a1, a2⟩
    obtain ⟨_, d0, d1, d2⟩ := q2.keep bz2
    have B2 := B1.trans (bz2.mono B1.size)
    clear q1 q2 bz2 B1 a0 a1 a2
    dsimp only at c0 c1 c2 d0 d1 d2
    cases r2 with
    | false =>
      go_wp2
      go_ret
      exact ⟨.no (fun h => by have := H2.out.2 (HO.out.1 h).2.1; cases this), B2⟩
    | true =>
      have T1 : Hid (FactV.ok ⟨x1, x2, x3⟩) := K1.out
      have T2 : Hid (FactV.ok ⟨y1, y2, y3⟩) := H2.out.1 rfl
      clear H2
      go_wp2
      go_ret
      exact ⟨⟨_, rfl, by rw [HO.out]; simp [T1.out, T2.out]⟩, B2⟩
theorem ofOne_is (x y : FactV) (w : World) (r : Bool) (hr : r = true ↔ oneNode x y) : Calls Try.prog 106 #[x.val, y.val] w fun e w' => e = .returned (.bool r) ∧ Below w.heap.size w w' :=
  (ofOne_any x y w).mono fun e w' ⟨h, hb⟩ => ⟨h.is hr, hb⟩
/-- What FactLess tells. -/
def lessF (x y : FactV) : Prop := oneNode x y ∧ x.lt y
set_option maxHeartbeats 1000000 in
set_option maxRecDepth 100000 in
theorem factLess_any (x y : FactV) (w : World) : Calls Try.prog 108 #[x.val, y.val] w fun e w' => Tells (lessF x y) e ∧ Below w.heap.size w w' := by
  obtain ⟨W, hW, p1, p2, B0⟩ := two_blks w x y
  obtain ⟨r, hr⟩ := tells_bool (oneNode x y)
  obtain ⟨x1, x2, x3⟩ := x
  obtain ⟨y1, y2, y3⟩ := y
  have HO : Hid (lessF ⟨x1, x2, x3⟩ ⟨y1, y2, y3⟩ ↔ (oneNode ⟨x1, x2, x3⟩ ⟨y1, y2, y3⟩ ∧ (x2 < y2 ∨ (x2 = y2 ∧ x3 < y3)))) := Iff.rfl
  have HR : Hid (r = true ↔ oneNode ⟨x1, x2, x3⟩ ⟨y1, y2, y3⟩) := hr
  have HW : Hid (_ = W) := hW
  clear hW hr
  unfold FactV.val
  go_enter Try.func108, Try.ntmps108
  go_wp2_with fail
  rw [HW.out]
  refine (ofOne_is ⟨x1, x2, x3⟩ ⟨y1, y2, y3⟩ _ r HR.out).mono ?_
  rintro e z1 ⟨rfl, bz1⟩
  obtain ⟨_, c0, c1, c2⟩ := p1.keep bz1
  obtain ⟨_, d0, d1, d2⟩ := p2.keep bz1
  have B1 := B0.trans (bz1.mono B0.size)
  clear p1 p2 B0 bz1 HW
  dsimp only at c0 c1 c2 d0 d1 d2
  cases r with
  | false =>
    go_wp2
    go_ret
    exact ⟨.no (fun h => by have := HR.out.2 (HO.out.1 h).1; cases this), B1⟩
  | true =>
    have K : Hid (oneNode ⟨x1, x2, x3⟩ ⟨y1, y2, y3⟩) := HR.out.1 rfl
    clear HR
    by_cases h1 : x2 < y2
    · go_wp2
      go_ret
      exact ⟨.yes (HO.out.2 ⟨K.out, .inl h1⟩), B1⟩
    · by_cases h2 : x2 = y2
      · subst h2
        have KO : Hid (lessF ⟨x1, x2, x3⟩ ⟨y1, x2, y3⟩ ↔ x3 < y3) := ⟨fun h => by have := (HO.out.1 h).2; omega, fun h => HO.out.2 ⟨K.out, .inr ⟨rfl, h⟩⟩⟩
        clear HO K
        go_wp2
        go_ret
        exact ⟨⟨_, rfl, by rw [KO.out]; simp⟩, B1⟩
      · have h2' : (x2 == y2) = false := beq_eq_false_iff_ne.2 h2
        have KO : Hid (¬ lessF ⟨x1, x2, x3⟩ ⟨y1, y2, y3⟩) := fun h => by have := (HO.out.1 h).2; omega
        clear HO K
        go_wp2
        go_ret
        exact ⟨⟨_, rfl, by simp [KO.out, h1]⟩, B1⟩
theorem factLess_is (x y : FactV) (w : World) (r : Bool) (hr : r = true ↔ lessF x y) : Calls Try.prog 108 #[x.val, y.val] w fun e w' => e = .returned (.bool r) ∧ Below w.heap.size w w' :=
  (factLess_any x y w).mono fun e w' ⟨h, hb⟩ => ⟨h.is hr, hb⟩
end Go.Proofs.Ytmdcankfjmkkeaa
