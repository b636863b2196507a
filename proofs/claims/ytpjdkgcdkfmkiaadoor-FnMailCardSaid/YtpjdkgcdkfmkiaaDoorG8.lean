/- The contracts of the exact laws' helpers over facts: copy, compare, measure. -/
import Derived.Test.YtpjdkgcdkfmkiaaDoorFPlain
namespace Go.Proofs.YtpjdkgcdkfmkiaaDoor
open Go Go.RowKit
set_option linter.unusedVariables false

theorem Tryd.infoFact : (Tryd.prog.info? 43).map (fun i => (i.zero, i.size, i.bytes)) = some (some (.agg #[.int .i64 0, .int .i64 0, .int .i64 0]), 3, 24) := by kernel_rfl
set_option maxHeartbeats 1000000 in
set_option maxRecDepth 100000 in
theorem eqFact_same (d : FactV) (w : World) : Calls Tryd.prog 75 #[d.val, d.val] w fun r w' => r = .returned (.bool true) ∧ Below w.heap.size w w' := by
  unfold FactV.val
  go_enter Tryd.func75, Tryd.ntmps75
  go_wp2
  go_ret
  exact ⟨rfl, ((Below.refl _ _).alloc (Nat.le_refl _) _).alloc (by simp) _⟩
/-- Three cells in the midst of a row are put anew. -/
theorem set_three {X Y : List Value} {a b c e f g : Value} {n : Nat} (hn : X.length = n) : (((X ++ a :: b :: c :: Y).set n e).set (n + 1) f).set (n + 2) g = X ++ e :: f :: g :: Y := by
  subst hn
  rw [List.set_append_right _ _ (Nat.le_refl _), List.set_append_right _ _ (by omega), List.set_append_right _ _ (by omega)]
  simp
set_option maxHeartbeats 1000000 in
set_option maxRecDepth 100000 in
theorem eqFacts_same (a1 : Option Addr) (c1 : Nat) (a2 : Option Addr) (c2 : Nat) (l : List FactV) (w : World) (hl : l.length ≤ 1048576) (h1 : CellRow w a1 (cellsOf FactV.cells l)) (h2 : CellRow w a2 (cellsOf FactV.cells l)) :
    Calls Tryd.prog 61 #[.slice a1 l.length c1, .slice a2 l.length c2] w fun e w' => e = .returned (.bool true) ∧ Below w.heap.size w w' := by
  go_enter Tryd.func61, Tryd.ntmps61
  go_wp2
  go_loopw [5] (fun i wr => ∃ k : Nat, k ≤ l.length ∧ i = .int .i64 k ∧ Below w.heap.size w wr) (fun i _ => l.length - (intOf i).toNat)
  case atStart => exact ⟨0, Nat.zero_le _, rfl, Below.refl _ _⟩
  case round =>
    obtain ⟨k, hk, rfl, hb⟩ := hrel
    by_cases hx : k < l.length
    · obtain ⟨b1, o1, rfl⟩ := h1.addr (by rw [cellsOf_length FactV.cells_len]; omega)
      obtain ⟨b2, o2, rfl⟩ := h2.addr (by rw [cellsOf_length FactV.cells_len]; omega)
      have r1 := h1.keep hb
      have r2 := h2.keep hb
      obtain ⟨x1, x2, x3, hlx⟩ : ∃ x1 x2 x3, l[k] = ⟨x1, x2, x3⟩ := ⟨_, _, _, rfl⟩
      have q0 := r1.thing0 FactV.cells_len (i := k) (v := .int .i64 x1) hx (by omega) (by rw [hlx]; rfl)
      have q1 := r1.thingj FactV.cells_len (i := k) (j := 1) (v := .int .i64 x2) hx (by omega) (by rw [hlx]; rfl)
      have q2 := r1.thingj FactV.cells_len (i := k) (j := 2) (v := .int .i64 x3) hx (by omega) (by rw [hlx]; rfl)
      have p0 := r2.thing0 FactV.cells_len (i := k) (v := .int .i64 x1) hx (by omega) (by rw [hlx]; rfl)
      have p1 := r2.thingj FactV.cells_len (i := k) (j := 1) (v := .int .i64 x2) hx (by omega) (by rw [hlx]; rfl)
      have p2 := r2.thingj FactV.cells_len (i := k) (j := 2) (v := .int .i64 x3) hx (by omega) (by rw [hlx]; rfl)
      have hx' : (k : Int) < (l.length : Int) := by omega
      clear r1 r2 hlx
      go_wp2
      go_region_with (go_at_call 75; refine (eqFact_same ⟨x1, x2, x3⟩ _).mono ?_; rintro e y1 ⟨rfl, by1⟩)
      all_goals
        have hb1 := hb.drew.trans (by1.mono hb.size)
        go_wp2
        go_roundw
        case rel => exact ⟨k + 1, by omega, by go_num, hb1⟩
        case measure => simp [intOf]; omega
    · obtain rfl : k = l.length := by omega
      go_wp2
      go_ret
      exact ⟨rfl, hb⟩
/-- What is left of a measure, or -1. -/
def leftOf (left : Int) (n : Nat) : Int := if left < (n : Int) then -1 else left - n
end Go.Proofs.YtpjdkgcdkfmkiaaDoor
/- The contracts of one fact and of two: right, less, joined; the program's and the specification's. -/
namespace Go.Proofs.YtpjdkgcdkfmkiaaDoor
open Go Go.RowKit
set_option linter.unusedVariables false

/-- A fact in a block of its own. -/
structure FBlk (w : World) (b : Nat) (x : FactV) : Prop where
  lt : b < w.heap.size
  c0 : w.cell? ⟨b, 0, none⟩ = some (.int .i64 x.node)
  c1 : w.cell? ⟨b, 1, none⟩ = some (.int .i64 x.inc)
  c2 : w.cell? ⟨b, 2, none⟩ = some (.int .i64 x.st)
theorem FBlk.keep {w w' : World} {b : Nat} {x : FactV} (h : FBlk w b x) (k : Below w.heap.size w w') : FBlk w' b x :=
  ⟨Nat.lt_of_lt_of_le h.lt k.size, (k.cell (p := ⟨b, 0, none⟩) h.lt).trans h.c0, (k.cell (p := ⟨b, 1, none⟩) h.lt).trans h.c1, (k.cell (p := ⟨b, 2, none⟩) h.lt).trans h.c2⟩
theorem FBlk.new (w : World) (x : FactV) : FBlk (w.alloc (.cells #[.int .i64 x.node, .int .i64 x.inc, .int .i64 x.st] 43)) w.heap.size x := by
  have e := heap_alloc_new w (.cells #[.int .i64 x.node, .int .i64 x.inc, .int .i64 x.st] 43)
  refine ⟨by simp, ?_, ?_, ?_⟩ <;> simp only [World.cell?, e] <;> simp
/-- One of a row's facts. -/
structure FAt (w : World) (b off : Nat) (x : FactV) : Prop where
  lt : b < w.heap.size
  c0 : w.cell? ⟨b, off, none⟩ = some (.int .i64 x.node)
  c1 : w.cell? ⟨b, off + 1, none⟩ = some (.int .i64 x.inc)
  c2 : w.cell? ⟨b, off + 2, none⟩ = some (.int .i64 x.st)
theorem FAt.keep {w w' : World} {b off : Nat} {x : FactV} (h : FAt w b off x) (k : Below w.heap.size w w') : FAt w' b off x :=
  ⟨Nat.lt_of_lt_of_le h.lt k.size, (k.cell (p := ⟨b, off, none⟩) h.lt).trans h.c0, (k.cell (p := ⟨b, off + 1, none⟩) h.lt).trans h.c1, (k.cell (p := ⟨b, off + 2, none⟩) h.lt).trans h.c2⟩
theorem CellRow.fact {w : World} {b off : Nat} {l : List FactV} (h : CellRow w (some ⟨b, off, none⟩) (cellsOf FactV.cells l)) {i : Nat} (hi : i < l.length) {x : FactV} (hx : l[i] = x) : FAt w b (off + i * 3) x := by
  subst hx
  refine ⟨?_, h.thing0 FactV.cells_len hi (by omega) rfl, h.thingj FactV.cells_len (j := 1) hi (by omega) rfl, h.thingj FactV.cells_len (j := 2) hi (by omega) rfl⟩
  have hlen := cellsOf_length FactV.cells_len l
  rcases h with h | ⟨b', off', e, hlt, _⟩
  · rw [h] at hlen; simp only [List.length_nil] at hlen; omega
  · simp only [Option.some.injEq, Addr.mk.injEq, and_true] at e
    rw [e.1]; exact hlt
theorem nodeRight_any (n : Int) (w : World) : Calls Tryd.prog 32 #[.int .i64 n] w fun e w' => Tells (nodeR n) e ∧ w = w' := by
  by_cases h0 : 1 ≤ n
  · by_cases h1 : n ≤ 6
    · have HR : Hid (nodeR n) := ⟨h0, h1⟩
      go_enter Tryd.func32, Tryd.ntmps32
      go_wp2
      go_ret
      exact ⟨.yes HR.out, rfl⟩
    · have HR : Hid (¬ nodeR n) := fun h => h1 h.2
      go_enter Tryd.func32, Tryd.ntmps32
      go_wp2
      go_ret
      exact ⟨.no HR.out, rfl⟩
  · have HR : Hid (¬ nodeR n) := fun h => h0 h.1
    go_enter Tryd.func32, Tryd.ntmps32
    go_wp2
    go_ret
    exact ⟨.no HR.out, rfl⟩
theorem specNode_any (n : Int) (w : World) : Calls Tryd.prog 37 #[.int .i64 n] w fun e w' => Tells (nodeR n) e ∧ w = w' := by
  go_enter Tryd.func37, Tryd.ntmps37
  go_wp2_with fail
  refine (is_any n 1 6 _).mono ?_
  rintro e w' ⟨⟨r, rfl, hr⟩, rfl⟩
  have HR : Hid (r = true ↔ nodeR n) := hr
  clear hr
  go_wp2
  go_ret
  exact ⟨⟨r, rfl, HR.out⟩, rfl⟩
set_option maxHeartbeats 1000000 in
set_option maxRecDepth 100000 in
theorem factRight_any (d : FactV) (w : World) : Calls Tryd.prog 59 #[d.val] w fun e w' => Tells d.ok e ∧ Below w.heap.size w w' := by
  obtain ⟨x1, x2, x3⟩ := d
  have HO : Hid (FactV.ok ⟨x1, x2, x3⟩ ↔ (nodeR x1 ∧ timeR x2 ∧ (1 ≤ x3 ∧ x3 ≤ 3))) := Iff.rfl
  have b1 := (Below.refl w.heap.size w).alloc (Nat.le_refl _) (.cells #[.int .i64 x1, .int .i64 x2, .int .i64 x3] 43)
  unfold FactV.val
  go_enter Tryd.func59, Tryd.ntmps59
  go_wp2_with fail
  refine (nodeRight_any x1 _).mono ?_
  rintro e w' ⟨⟨r1, rfl, h1⟩, rfl⟩
  have H1 : Hid (r1 = true ↔ nodeR x1) := h1
  clear h1
  cases r1 with
  | false =>
    go_wp2
    go_ret
    exact ⟨.no (fun h => by have := H1.out.2 (HO.out.1 h).1; cases this), b1⟩
  | true =>
    have T1 : Hid (nodeR x1) := H1.out.1 rfl
    go_wp2_with fail
    refine (timeRight_any x2 _).mono ?_
    rintro e w' ⟨⟨r2, rfl, h2⟩, rfl⟩
    have H2 : Hid (r2 = true ↔ timeR x2) := h2
    clear h2
    cases r2 with
    | false =>
      go_wp2
      go_ret
      exact ⟨.no (fun h => by have := H2.out.2 (HO.out.1 h).2.1; cases this), b1⟩
    | true =>
      have T2 : Hid (timeR x2) := H2.out.1 rfl
      by_cases h3 : 1 ≤ x3
      · go_wp2
        go_ret
        exact ⟨⟨_, rfl, by rw [HO.out]; simp [T1.out, T2.out, h3]⟩, b1⟩
      · go_wp2
        go_ret
        exact ⟨.no (fun h => by have := (HO.out.1 h).2.2; omega), b1⟩
set_option maxHeartbeats 1000000 in
set_option maxRecDepth 100000 in
theorem specFact_any (d : FactV) (w : World) : Calls Tryd.prog 60 #[d.val] w fun e w' => Tells d.ok e ∧ Below w.heap.size w w' := by
  obtain ⟨x1, x2, x3⟩ := d
  have HO : Hid (FactV.ok ⟨x1, x2, x3⟩ ↔ (nodeR x1 ∧ timeR x2 ∧ isIn x3 1 3)) := Iff.rfl
  have b1 := (Below.refl w.heap.size w).alloc (Nat.le_refl _) (.cells #[.int .i64 x1, .int .i64 x2, .int .i64 x3] 43)
  unfold FactV.val
  go_enter Tryd.func60, Tryd.ntmps60
  go_wp2_with fail
  refine (specNode_any x1 _).mono ?_
  rintro e w' ⟨⟨r1, rfl, h1⟩, rfl⟩
  have H1 : Hid (r1 = true ↔ nodeR x1) := h1
  clear h1
  cases r1 with
  | false =>
    go_wp2
    go_ret
    exact ⟨.no (fun h => by have := H1.out.2 (HO.out.1 h).1; cases this), b1⟩
  | true =>
    have T1 : Hid (nodeR x1) := H1.out.1 rfl
    go_wp2_with fail
    refine (specTime_any x2 _).mono ?_
    rintro e w' ⟨⟨r2, rfl, h2⟩, rfl⟩
    have H2 : Hid (r2 = true ↔ timeR x2) := h2
    clear h2
    cases r2 with
    | false =>
      go_wp2
      go_ret
      exact ⟨.no (fun h => by have := H2.out.2 (HO.out.1 h).2.1; cases this), b1⟩
    | true =>
      have T2 : Hid (timeR x2) := H2.out.1 rfl
      go_wp2_with fail
      refine (is_any x3 1 3 _).mono ?_
      rintro e w' ⟨⟨r3, rfl, h3⟩, rfl⟩
      have H3 : Hid (r3 = true ↔ isIn x3 1 3) := h3
      clear h3
      go_wp2
      go_ret
      exact ⟨⟨_, rfl, by rw [HO.out]; simp only [H3.out, T1.out, T2.out, true_and]⟩, b1⟩
theorem factRight_is (d : FactV) (w : World) (r : Bool) (hr : r = true ↔ d.ok) : Calls Tryd.prog 59 #[d.val] w fun e w' => e = .returned (.bool r) ∧ Below w.heap.size w w' :=
  (factRight_any d w).mono fun e w' ⟨h, hb⟩ => ⟨h.is hr, hb⟩
theorem specFact_is (d : FactV) (w : World) (r : Bool) (hr : r = true ↔ d.ok) : Calls Tryd.prog 60 #[d.val] w fun e w' => e = .returned (.bool r) ∧ Below w.heap.size w w' :=
  (specFact_any d w).mono fun e w' ⟨h, hb⟩ => ⟨h.is hr, hb⟩
set_option maxHeartbeats 1000000 in
set_option maxRecDepth 100000 in
theorem specLess_any (x y : FactV) (w : World) : Calls Tryd.prog 87 #[x.val, y.val] w fun e w' => Tells (x.lt y) e ∧ Below w.heap.size w w' := by
  obtain ⟨x1, x2, x3⟩ := x
  obtain ⟨y1, y2, y3⟩ := y
  unfold FactV.val
  have HO : Hid (FactV.lt ⟨x1, x2, x3⟩ ⟨y1, y2, y3⟩ ↔ (x2 < y2 ∨ (x2 = y2 ∧ x3 < y3))) := Iff.rfl
  have b1 := ((Below.refl w.heap.size w).alloc (Nat.le_refl _) (.cells #[.int .i64 x1, .int .i64 x2, .int .i64 x3] 43)).alloc (by simp) (.cells #[.int .i64 y1, .int .i64 y2, .int .i64 y3] 43)
  by_cases h1 : x2 < y2
  · go_enter Tryd.func87, Tryd.ntmps87
    go_wp2
    go_ret
    exact ⟨.yes (HO.out.2 (.inl h1)), b1⟩
  · by_cases h2 : x2 = y2
    · subst h2
      go_enter Tryd.func87, Tryd.ntmps87
      go_wp2
      go_ret
      exact ⟨⟨_, rfl, by rw [HO.out]; simp⟩, b1⟩
    · have h2' : (x2 == y2) = false := beq_eq_false_iff_ne.2 h2
      go_enter Tryd.func87, Tryd.ntmps87
      go_wp2
      go_ret
      exact ⟨.no (fun h => by have := HO.out.1 h; omega), b1⟩
/-- Two facts in blocks of their own, one behind the other. -/
theorem two_blks (w : World) (x y : FactV) : ∃ W, (w.alloc (.cells #[.int .i64 x.node, .int .i64 x.inc, .int .i64 x.st] 43)).alloc (.cells #[.int .i64 y.node, .int .i64 y.inc, .int .i64 y.st] 43) = W ∧ FBlk W w.heap.size x ∧ FBlk W (w.heap.size + 1) y ∧ Below w.heap.size w W := by
  refine ⟨_, rfl, (FBlk.new w x).keep ((Below.refl _ _).alloc (Nat.le_refl _) _), ?_, ((Below.refl _ _).alloc (Nat.le_refl _) _).alloc (by simp) _⟩
  have := FBlk.new (w.alloc (.cells #[.int .i64 x.node, .int .i64 x.inc, .int .i64 x.st] 43)) y
  rwa [World.size_alloc] at this
/-- What FactLess tells. -/
def lessF (x y : FactV) : Prop := oneNode x y ∧ x.lt y
theorem specLess_is (x y : FactV) (w : World) (r : Bool) (hr : r = true ↔ x.lt y) : Calls Tryd.prog 87 #[x.val, y.val] w fun e w' => e = .returned (.bool r) ∧ Below w.heap.size w w' :=
  (specLess_any x y w).mono fun e w' ⟨h, hb⟩ => ⟨h.is hr, hb⟩
end Go.Proofs.YtpjdkgcdkfmkiaaDoor
