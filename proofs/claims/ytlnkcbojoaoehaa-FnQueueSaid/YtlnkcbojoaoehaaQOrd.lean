/- The contracts of the program's order of what is due, and of what could stand in a queue. -/
import Derived.Test.YtlnkcbojoaoehaaQPlain
import Derived.Deep.RegionHeld3
namespace Go.Proofs.Ytlnkcbojoaoehaa
open Go Go.RowKit
set_option linter.unusedVariables false

theorem isNaN_any (a : Int) (w : World) : Calls Try.prog 68 #[.int .i64 a] w fun e w' => e = .returned (.bool false) ∧ w = w' := by
  go_enter Try.func68, Try.ntmps68
  go_wp2
  go_ret
  exact ⟨by simp, rfl⟩
theorem compare_any (a b : Int) (w : World) : Calls Try.prog 66 #[.int .i64 a, .int .i64 b] w fun e w' => e = .returned (.int .i64 (ordI a b)) ∧ w = w' := by
  rcases ordI_cases a b with ⟨h, k⟩ | ⟨h, k⟩ | ⟨h, k⟩
  · have HH : Hid (ordI a b = -1) := h
    clear h
    go_enter Try.func66, Try.ntmps66
    go_wp2_with (go_at_call 68; refine (isNaN_any _ _).mono ?_; rintro e w' ⟨rfl, rfl⟩)
    go_ret
    exact ⟨by rw [HH.out]; rfl, rfl⟩
  · have HH : Hid (ordI a b = 1) := h
    have k2 : ¬ a < b := by omega
    clear h
    go_enter Try.func66, Try.ntmps66
    go_wp2_with (go_at_call 68; refine (isNaN_any _ _).mono ?_; rintro e w' ⟨rfl, rfl⟩)
    go_ret
    exact ⟨by rw [HH.out]; rfl, rfl⟩
  · subst k
    have HH : Hid (ordI a a = 0) := h
    clear h
    go_enter Try.func66, Try.ntmps66
    go_wp2_with (go_at_call 68; refine (isNaN_any _ _).mono ?_; rintro e w' ⟨rfl, rfl⟩)
    go_ret
    exact ⟨by rw [HH.out]; rfl, rfl⟩
set_option maxHeartbeats 1000000 in
set_option maxRecDepth 100000 in
theorem or2_any (g : Nat) (a b : Int) (w : World) (h0 : w.cell? ⟨g, 0, none⟩ = some (.int .i64 a)) (h1 : w.cell? ⟨g, 1, none⟩ = some (.int .i64 b)) :
    Calls Try.prog 65 #[.slice (some ⟨g, 0, none⟩) 2 2] w fun e w' => e = .returned (.int .i64 (orI a b)) ∧ w = w' := by
  by_cases ha : a = 0
  · subst ha
    by_cases hb : b = 0
    · subst hb
      go_enter Try.func65, Try.ntmps65
      go_wp2
      refine wp_loop_rounds 3 ?_
      rw [rounds_succ]
      go_wp2
      rw [rounds_succ]
      go_wp2
      rw [rounds_succ]
      go_wp2
      go_ret
      exact ⟨by simp [orI], rfl⟩
    · have hb' : (b == 0) = false := beq_eq_false_iff_ne.2 hb
      go_enter Try.func65, Try.ntmps65
      go_wp2
      refine wp_loop_rounds 2 ?_
      rw [rounds_succ]
      go_wp2
      rw [rounds_succ]
      go_wp2
      go_ret
      exact ⟨by simp [orI], rfl⟩
  · have ha' : (a == 0) = false := beq_eq_false_iff_ne.2 ha
    go_enter Try.func65, Try.ntmps65
    go_wp2
    refine wp_loop_rounds 1 ?_
    rw [rounds_succ]
    go_wp2
    go_ret
    exact ⟨by simp [orI, ha], rfl⟩
theorem cell_third (W : World) (c : Array Value) (t : Nat) (i : Nat) (v : Value) (h : c[i]? = some v) : (W.alloc (.cells c t)).drew.cell? ⟨W.heap.size, i, none⟩ = some v := by
  have := heap_alloc_new W (.cells c t)
  show (W.alloc (.cells c t)).cell? ⟨W.heap.size, i, none⟩ = some v
  simp only [World.cell?, this]
  simpa using h
/-- A struct in a block of its own. -/
structure BlkOf (w : World) (b : Nat) (x : DueV) : Prop where
  lt : b < w.heap.size
  c0 : w.cell? ⟨b, 0, none⟩ = some (.int .i64 x.at0)
  c1 : w.cell? ⟨b, 1, none⟩ = some (.int .i64 x.seq)
  c2 : w.cell? ⟨b, 2, none⟩ = some (.int .i64 x.node)
  c3 : w.cell? ⟨b, 3, none⟩ = some (.string x.text)
theorem BlkOf.keep {w w' : World} {b : Nat} {x : DueV} (h : BlkOf w b x) (k : Below w.heap.size w w') : BlkOf w' b x :=
  ⟨Nat.lt_of_lt_of_le h.lt k.size, (k.cell (p := ⟨b, 0, none⟩) h.lt).trans h.c0, (k.cell (p := ⟨b, 1, none⟩) h.lt).trans h.c1, (k.cell (p := ⟨b, 2, none⟩) h.lt).trans h.c2, (k.cell (p := ⟨b, 3, none⟩) h.lt).trans h.c3⟩
theorem BlkOf.new (w : World) (x : DueV) : BlkOf (w.alloc (.cells #[.int .i64 x.at0, .int .i64 x.seq, .int .i64 x.node, .string x.text] 25)) w.heap.size x := by
  have e := heap_alloc_new w (.cells #[.int .i64 x.at0, .int .i64 x.seq, .int .i64 x.node, .string x.text] 25)
  refine ⟨by simp, ?_, ?_, ?_, ?_⟩ <;> simp only [World.cell?, e] <;> simp
set_option maxHeartbeats 1000000 in
set_option maxRecDepth 100000 in
theorem dueOrder_any (x y : DueV) (w : World) : Calls Try.prog 45 #[x.val, y.val] w fun e w' => e = .returned (.int .i64 (ordD x y)) ∧ Below w.heap.size w w' := by
  obtain ⟨x1, x2, x3, x4⟩ := x
  obtain ⟨y1, y2, y3, y4⟩ := y
  unfold DueV.val
  have HE : Hid (orI (ordI x1 y1) (ordI x2 y2) = ordD ⟨x1, x2, x3, x4⟩ ⟨y1, y2, y3, y4⟩) := rfl
  go_enter Try.func45, Try.ntmps45
  go_upto_region 1 with fail
  have p1 := BlkOf.new w ⟨x1, x2, x3, x4⟩
  have p2 := BlkOf.new (w.alloc (.cells #[.int .i64 x1, .int .i64 x2, .int .i64 x3, .string x4] 25)) ⟨y1, y2, y3, y4⟩
  have q1 := p1.keep (((Below.refl _ _).alloc (Nat.le_refl _) (.cells #[.int .i64 y1, .int .i64 y2, .int .i64 y3, .string y4] 25)))
  have B0 : Below w.heap.size w ((w.alloc (.cells #[.int .i64 x1, .int .i64 x2, .int .i64 x3, .string x4] 25)).alloc (.cells #[.int .i64 y1, .int .i64 y2, .int .i64 y3, .string y4] 25)) := ((Below.refl _ _).alloc (Nat.le_refl _) _).alloc (by simp) _
  rw [World.size_alloc] at p2
  obtain ⟨W, hW⟩ : ∃ W, ((w.alloc (.cells #[.int .i64 x1, .int .i64 x2, .int .i64 x3, .string x4] 25)).alloc (.cells #[.int .i64 y1, .int .i64 y2, .int .i64 y3, .string y4] 25)) = W := ⟨_, rfl⟩
  dsimp only at p1 p2 q1
  rw [hW] at p2 q1 B0 ⊢
  clear hW p1
  obtain ⟨l1, a0, a1, _, _⟩ := q1
  obtain ⟨l2, b0, b1, _, _⟩ := p2
  go_region_held3 (fun w' => w'.cell? ⟨w.heap.size, 0, none⟩ = some (.int .i64 x1) ∧ w'.cell? ⟨w.heap.size, 1, none⟩ = some (.int .i64 x2) ∧ w'.cell? ⟨w.heap.size + 1, 0, none⟩ = some (.int .i64 y1) ∧ w'.cell? ⟨w.heap.size + 1, 1, none⟩ = some (.int .i64 y2)) (go_keep) (first | (go_at_call 66; refine (compare_any _ _ _).mono ?_; rintro e w' ⟨rfl, rfl⟩) | (go_at_call 65; refine (or2_any _ (ordI x1 y1) (ordI x2 y2) _ (cell_third _ _ _ _ _ rfl) (cell_third _ _ _ _ _ rfl)).mono ?_; rintro e w' ⟨rfl, rfl⟩))
  all_goals
    go_wp2
    go_ret
    exact ⟨by rw [HE.out]; rfl, (B0.alloc B0.size _).drew⟩
end Go.Proofs.Ytlnkcbojoaoehaa
