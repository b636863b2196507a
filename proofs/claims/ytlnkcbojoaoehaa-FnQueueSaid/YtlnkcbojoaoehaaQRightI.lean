/- The contract of the program's QueueRight. -/
import Derived.Test.YtlnkcbojoaoehaaQRight
import Derived.Test.YtlnkcbojoaoehaaReg
namespace Go.Proofs.Ytlnkcbojoaoehaa
open Go Go.RowKit
set_option linter.unusedVariables false

theorem dueRight_yes (d : DueV) (w : World) (h : d.ok) : Calls Try.prog 44 #[d.val] w fun e w' => e = .returned (.bool true) ∧ Below w.heap.size w w' :=
  (dueRight_any d w).mono fun e w' ⟨⟨r, he, hr⟩, hb⟩ => ⟨by rw [he, hr.2 h], hb⟩
theorem dueRight_no (d : DueV) (w : World) (h : ¬ d.ok) : Calls Try.prog 44 #[d.val] w fun e w' => e = .returned (.bool false) ∧ Below w.heap.size w w' :=
  (dueRight_any d w).mono fun e w' ⟨⟨r, he, hr⟩, hb⟩ => ⟨by rw [he]; cases r with | false => rfl | true => exact absurd (hr.1 rfl) h, hb⟩
/-- One of a row's Dues. -/
structure DueAt (w : World) (b off : Nat) (x : DueV) : Prop where
  lt : b < w.heap.size
  c0 : w.cell? ⟨b, off, none⟩ = some (.int .i64 x.at0)
  c1 : w.cell? ⟨b, off + 1, none⟩ = some (.int .i64 x.seq)
  c2 : w.cell? ⟨b, off + 2, none⟩ = some (.int .i64 x.node)
  c3 : w.cell? ⟨b, off + 3, none⟩ = some (.string x.text)
theorem DueAt.keep {w w' : World} {b off : Nat} {x : DueV} (h : DueAt w b off x) (k : Below w.heap.size w w') : DueAt w' b off x :=
  ⟨Nat.lt_of_lt_of_le h.lt k.size, (k.cell (p := ⟨b, off, none⟩) h.lt).trans h.c0, (k.cell (p := ⟨b, off + 1, none⟩) h.lt).trans h.c1, (k.cell (p := ⟨b, off + 2, none⟩) h.lt).trans h.c2, (k.cell (p := ⟨b, off + 3, none⟩) h.lt).trans h.c3⟩
theorem CellRow.due {w : World} {b off : Nat} {l : List DueV} (h : CellRow w (some ⟨b, off, none⟩) (cellsOf DueV.cells l)) {i : Nat} (hi : i < l.length) : DueAt w b (off + i * 4) l[i] := by
  refine ⟨?_, h.thing0 DueV.cells_len hi (by omega) rfl, h.thingj DueV.cells_len (j := 1) hi (by omega) rfl, h.thingj DueV.cells_len (j := 2) hi (by omega) rfl, h.thingj DueV.cells_len (j := 3) hi (by omega) rfl⟩
  have hlen := cellsOf_length DueV.cells_len l
  rcases h with h | ⟨b', off', e, hlt, _⟩
  · rw [h] at hlen; simp only [List.length_nil] at hlen; omega
  · simp only [Option.some.injEq, Addr.mk.injEq, and_true] at e
    rw [e.1]; exact hlt
theorem CellRow.duef {w : World} {b off : Nat} {l : List DueV} (h : CellRow w (some ⟨b, off, none⟩) (cellsOf DueV.cells l)) {i : Nat} (hi : i < l.length) {x : DueV} (hx : l[i] = x) : DueAt w b (off + i * 4) x := hx ▸ h.due hi
set_option maxHeartbeats 2000000 in
set_option maxRecDepth 100000 in
theorem implQRight_any (a : Option Addr) (cap : Nat) (l : List DueV) (w : World) (hl : l.length ≤ 1048576) (hrow : CellRow w a (cellsOf DueV.cells l)) :
    Calls Try.prog 18 #[.slice a l.length cap] w fun e w' => Tells (rightQ l) e ∧ Below w.heap.size w w' := by
  by_cases hx : 200 < (l.length : Int)
  · have HR : Hid (¬ rightQ l) := fun h => by have := h.1; omega
    go_enter Try.func18, Try.ntmps18
    go_wp2
    go_ret
    exact ⟨.no HR.out, Below.refl _ _⟩
  go_enter Try.func18, Try.ntmps18
  go_wp2
  go_loopw [10] (fun i wr => ∃ k : Nat, k ≤ l.length ∧ i = .int .i64 k ∧ (∀ j, j < k → okAt l j) ∧ Below w.heap.size w wr) (fun i _ => l.length - (intOf i).toNat)
  case atStart => exact ⟨0, Nat.zero_le _, rfl, fun j hj => absurd hj (by omega), Below.refl _ _⟩
  case round =>
    obtain ⟨k, hk, rfl, hok, hb⟩ := hrel
    have HK : Hid (∀ j, j < k → okAt l j) := hok
    clear hok
    by_cases hk2 : k < l.length
    · obtain ⟨b, off, rfl⟩ := hrow.addr (by rw [cellsOf_length DueV.cells_len]; omega)
      obtain ⟨x, hlx⟩ : ∃ x, l[k] = x := ⟨_, rfl⟩
      obtain ⟨x1, x2, x3, x4⟩ := x
      have d0 := (hrow.keep hb).duef hk2 hlx
      have B1 : Below wr.heap.size wr (wr.alloc (.cells #[.int .i64 x1, .int .i64 x2, .int .i64 x3, .string x4] 25)) := (Below.refl _ _).alloc (Nat.le_refl _) _
      have p0 := BlkOf.new wr ⟨x1, x2, x3, x4⟩
      obtain ⟨_, q0, q1, q2, q3⟩ := d0
      dsimp only at q0 q1 q2 q3
      have hk' : (k : Int) < (l.length : Int) := by omega
      have hbB := hb.trans (B1.mono hb.size)
      by_cases hok : DueV.ok ⟨x1, x2, x3, x4⟩
      · have HO : Hid (DueV.ok ⟨x1, x2, x3, x4⟩) := hok
        clear hok
        rcases k with _ | j
        · have HN : Hid (∀ j, j < 0 + 1 → okAt l j) := fun j hj => by
            obtain rfl : j = 0 := by omega
            exact ⟨hk2, by rw [hlx]; exact HO.out, fun h => absurd h (by omega)⟩
          simp only [Nat.zero_mul, Nat.add_zero] at q0 q1 q2 q3
          clear hlx
          go_upto_region 6 with fail
          obtain ⟨W, hW⟩ : ∃ W, wr.alloc (.cells #[.int .i64 x1, .int .i64 x2, .int .i64 x3, .string x4] 25) = W := ⟨_, rfl⟩
          rw [hW] at p0 hbB ⊢
          clear hW B1 q0 q1 q2 q3
          have f0 := p0
          obtain ⟨pl, c0, c1, c2, c3⟩ := p0
          dsimp only at c0 c1 c2 c3
          refine wp_region_held_drew (S := (fun w' => Below W.heap.size W w')) (by kernel_rfl) ?hS0 (fun hHeld => ?_)
          case hS0 => exact (Below.refl _ _).drew
          refine takeG 0 (v := .agg #[.int .i64 x1, .int .i64 x2, .int .i64 x3, .string x4]) rfl (by kernel_rfl) (by kernel_rfl) (by kernel_rfl) (by kernel_rfl) (fun _ _ _ h => h) ?hy (by assumption) ?_
          case hy => (intro w' hSw; obtain ⟨_, s0, s1, s2, s3⟩ := (f0).keep hSw; dsimp only at s0 s1 s2 s3; go_simp)
          try simp only [List.setIfInBounds_toArray, List.set_cons_zero, List.set_cons_succ]
          refine runG 1 (by kernel_rfl) rfl (by kernel_rfl) ?_
          go_simp
          refine (dueRight_yes ⟨x1, x2, x3, x4⟩ _ HO.out).mono ?_
          rintro e z1 ⟨rfl, bz1⟩
          have hz1 : Below W.heap.size W z1 := hHeld.trans bz1
          refine ⟨hz1, ?_⟩
          clear hHeld
          try simp only [Act.put, List.setIfInBounds_toArray, List.set_cons_zero, List.set_cons_succ]
          refine takeG 2 (v := .bool false) rfl (by kernel_rfl) (by kernel_rfl) (by kernel_rfl) (by kernel_rfl) (fun _ _ _ h => h) ?hy (by assumption) ?_
          case hy => (intro w' hSw; go_simp)
          try simp only [List.setIfInBounds_toArray, List.set_cons_zero, List.set_cons_succ]
          refine takeG 3 (v := .bool false) rfl (by kernel_rfl) (by kernel_rfl) (by kernel_rfl) (by kernel_rfl) (fun _ _ _ h => h) ?hy (by assumption) ?_
          case hy => (intro w' hSw; go_simp)
          try simp only [List.setIfInBounds_toArray, List.set_cons_zero, List.set_cons_succ]
          refine takeG 4 (v := .int .i64 0) rfl (by kernel_rfl) (by kernel_rfl) (by kernel_rfl) (by kernel_rfl) (fun _ _ _ h => h) ?hy (by assumption) ?_
          case hy => (intro w' hSw; go_simp)
          try simp only [List.setIfInBounds_toArray, List.set_cons_zero, List.set_cons_succ]
          refine takeG 5 (v := .bool false) rfl (by kernel_rfl) (by kernel_rfl) (by kernel_rfl) (by kernel_rfl) (fun _ _ _ h => h) ?hy (by assumption) ?_
          case hy => (intro w' hSw; go_simp)
          try simp only [List.setIfInBounds_toArray, List.set_cons_zero, List.set_cons_succ]
          refine takeG 6 (v := .bool false) rfl (by kernel_rfl) (by kernel_rfl) (by kernel_rfl) (by kernel_rfl) (fun _ _ _ h => h) ?hy (by assumption) ?_
          case hy => (intro w' hSw; go_simp)
          try simp only [List.setIfInBounds_toArray, List.set_cons_zero, List.set_cons_succ]
          refine skipG 7 rfl (by kernel_rfl) (by kernel_rfl) (by kernel_rfl) (by kernel_rfl) (fun _ _ _ h => h) (by assumption) ?_
          try simp only [List.setIfInBounds_toArray, List.set_cons_zero, List.set_cons_succ]
          refine skipG 8 rfl (by kernel_rfl) (by kernel_rfl) (by kernel_rfl) (by kernel_rfl) (fun _ _ _ h => h) (by assumption) ?_
          try simp only [List.setIfInBounds_toArray, List.set_cons_zero, List.set_cons_succ]
          refine skipG 9 rfl (by kernel_rfl) (by kernel_rfl) (by kernel_rfl) (by kernel_rfl) (fun _ _ _ h => h) (by assumption) ?_
          try simp only [List.setIfInBounds_toArray, List.set_cons_zero, List.set_cons_succ]
          refine skipG 10 rfl (by kernel_rfl) (by kernel_rfl) (by kernel_rfl) (by kernel_rfl) (fun _ _ _ h => h) (by assumption) ?_
          try simp only [List.setIfInBounds_toArray, List.set_cons_zero, List.set_cons_succ]
          refine skipG 11 rfl (by kernel_rfl) (by kernel_rfl) (by kernel_rfl) (by kernel_rfl) (fun _ _ _ h => h) (by assumption) ?_
          try simp only [List.setIfInBounds_toArray, List.set_cons_zero, List.set_cons_succ]
          refine skipG 12 rfl (by kernel_rfl) (by kernel_rfl) (by kernel_rfl) (by kernel_rfl) (fun _ _ _ h => h) (by assumption) ?_
          try simp only [List.setIfInBounds_toArray, List.set_cons_zero, List.set_cons_succ]
          refine skipG 13 rfl (by kernel_rfl) (by kernel_rfl) (by kernel_rfl) (by kernel_rfl) (fun _ _ _ h => h) (by assumption) ?_
          try simp only [List.setIfInBounds_toArray, List.set_cons_zero, List.set_cons_succ]
          refine skipG 14 rfl (by kernel_rfl) (by kernel_rfl) (by kernel_rfl) (by kernel_rfl) (fun _ _ _ h => h) (by assumption) ?_
          try simp only [List.setIfInBounds_toArray, List.set_cons_zero, List.set_cons_succ]
          refine takeG 15 (v := .bool false) rfl (by kernel_rfl) (by kernel_rfl) (by kernel_rfl) (by kernel_rfl) (fun _ _ _ h => h) ?hy (by assumption) ?_
          case hy => (intro w' hSw; go_simp)
          try simp only [List.setIfInBounds_toArray, List.set_cons_zero, List.set_cons_succ]
          refine takeG 16 (v := .bool false) rfl (by kernel_rfl) (by kernel_rfl) (by kernel_rfl) (by kernel_rfl) (fun _ _ _ h => h) ?hy (by assumption) ?_
          case hy => (intro w' hSw; go_simp)
          try simp only [List.setIfInBounds_toArray, List.set_cons_zero, List.set_cons_succ]
          refine wpAnyH_done (by kernel_rfl) ?_ _
          have hb1 := hbB.trans (hz1.mono hbB.size)
          go_wp2
          go_roundw
          case rel => exact ⟨0 + 1, by omega, by go_num, HN.out, hb1⟩
          case measure => simp [intOf]; omega
        · obtain ⟨y, hly⟩ : ∃ y, l[j] = y := ⟨_, rfl⟩
          obtain ⟨y1, y2, y3, y4⟩ := y
          have e0 := (hrow.keep hbB).duef (show j < l.length by omega) hly
          have hd1 : decide (0 < (j : Int) + 1) = true := decide_eq_true (by omega)
          have hj1 : (j : Int) < (l.length : Int) := by omega
          have hwj : IntKind.i64.wrap (j : Int) = (j : Int) := by rw [IntKind.wrap_i64]; omega
          by_cases hlt : DueV.lt ⟨y1, y2, y3, y4⟩ ⟨x1, x2, x3, x4⟩
          · have hd2 : decide (0 ≤ ordD ⟨y1, y2, y3, y4⟩ ⟨x1, x2, x3, x4⟩) = false := decide_eq_false (by have := ordD_neg.2 hlt; omega)
            have HN : Hid (∀ i, i < j + 1 + 1 → okAt l i) := fun i hi => by
              by_cases e : i < j + 1
              · exact HK.out i e
              · obtain rfl : i = j + 1 := by omega
                exact ⟨hk2, by rw [hlx]; exact HO.out, fun _ => by rw [hlx]; simp only [Nat.add_sub_cancel]; rw [hly]; exact hlt⟩
            clear hlx hly hlt HK
            go_upto_region 6 with fail
            obtain ⟨W, hW⟩ : ∃ W, wr.alloc (.cells #[.int .i64 x1, .int .i64 x2, .int .i64 x3, .string x4] 25) = W := ⟨_, rfl⟩
            rw [hW] at e0 p0 hbB ⊢
            clear hW B1 q0 q1 q2 q3
            have f0 := p0
            clear p0
            refine wp_region_held_drew (S := (fun w' => Below W.heap.size W w')) (by kernel_rfl) ?hS0 (fun hHeld => ?_)
            case hS0 => exact (Below.refl _ _).drew
            refine takeG 0 (v := .agg #[.int .i64 x1, .int .i64 x2, .int .i64 x3, .string x4]) rfl (by kernel_rfl) (by kernel_rfl) (by kernel_rfl) (by kernel_rfl) (fun _ _ _ h => h) ?hy (by assumption) ?_
            case hy => (intro w' hSw; obtain ⟨_, s0, s1, s2, s3⟩ := (f0).keep hSw; dsimp only at s0 s1 s2 s3; go_simp)
            try simp only [List.setIfInBounds_toArray, List.set_cons_zero, List.set_cons_succ]
            refine runG 1 (by kernel_rfl) rfl (by kernel_rfl) ?_
            go_simp
            refine (dueRight_yes ⟨x1, x2, x3, x4⟩ _ HO.out).mono ?_
            rintro e z1 ⟨rfl, bz1⟩
            have hz1 : Below W.heap.size W z1 := hHeld.trans bz1
            refine ⟨hz1, ?_⟩
            clear hHeld
            try simp only [Act.put, List.setIfInBounds_toArray, List.set_cons_zero, List.set_cons_succ]
            refine takeG 2 (v := .bool false) rfl (by kernel_rfl) (by kernel_rfl) (by kernel_rfl) (by kernel_rfl) (fun _ _ _ h => h) ?hy (by assumption) ?_
            case hy => (intro w' hSw; go_simp)
            try simp only [List.setIfInBounds_toArray, List.set_cons_zero, List.set_cons_succ]
            refine takeG 3 (v := .bool false) rfl (by kernel_rfl) (by kernel_rfl) (by kernel_rfl) (by kernel_rfl) (fun _ _ _ h => h) ?hy (by assumption) ?_
            case hy => (intro w' hSw; go_simp)
            try simp only [List.setIfInBounds_toArray, List.set_cons_zero, List.set_cons_succ]
            refine takeG 4 (v := .int .i64 ((j : Int) + 1)) rfl (by kernel_rfl) (by kernel_rfl) (by kernel_rfl) (by kernel_rfl) (fun _ _ _ h => h) ?hy (by assumption) ?_
            case hy => (intro w' hSw; go_simp)
            try simp only [List.setIfInBounds_toArray, List.set_cons_zero, List.set_cons_succ]
            refine takeG 5 (v := .bool true) rfl (by kernel_rfl) (by kernel_rfl) (by kernel_rfl) (by kernel_rfl) (fun _ _ _ h => h) ?hy (by assumption) ?_
            case hy => (intro w' hSw; go_simp)
            try simp only [List.setIfInBounds_toArray, List.set_cons_zero, List.set_cons_succ]
            refine takeG 6 (v := .bool true) rfl (by kernel_rfl) (by kernel_rfl) (by kernel_rfl) (by kernel_rfl) (fun _ _ _ h => h) ?hy (by assumption) ?_
            case hy => (intro w' hSw; go_simp)
            try simp only [List.setIfInBounds_toArray, List.set_cons_zero, List.set_cons_succ]
            refine takeG 7 (v := .slice (some ⟨b, off, none⟩) l.length cap) rfl (by kernel_rfl) (by kernel_rfl) (by kernel_rfl) (by kernel_rfl) (fun _ _ _ h => h) ?hy (by assumption) ?_
            case hy => (intro w' hSw; go_simp)
            try simp only [List.setIfInBounds_toArray, List.set_cons_zero, List.set_cons_succ]
            refine takeG 8 (v := .int .i64 ((j : Int) + 1)) rfl (by kernel_rfl) (by kernel_rfl) (by kernel_rfl) (by kernel_rfl) (fun _ _ _ h => h) ?hy (by assumption) ?_
            case hy => (intro w' hSw; go_simp)
            try simp only [List.setIfInBounds_toArray, List.set_cons_zero, List.set_cons_succ]
            refine takeG 9 (v := .int .i64 (j : Int)) rfl (by kernel_rfl) (by kernel_rfl) (by kernel_rfl) (by kernel_rfl) (fun _ _ _ h => h) ?hy (by assumption) ?_
            case hy => (intro w' hSw; go_simp)
            try simp only [List.setIfInBounds_toArray, List.set_cons_zero, List.set_cons_succ]
            refine takeG 10 (v := .pointer (some ⟨b, off + j * 4, none⟩)) rfl (by kernel_rfl) (by kernel_rfl) (by kernel_rfl) (by kernel_rfl) (fun _ _ _ h => h) ?hy (by assumption) ?_
            case hy => (intro w' hSw; go_simp)
            try simp only [List.setIfInBounds_toArray, List.set_cons_zero, List.set_cons_succ]
            refine takeG 11 (v := .agg #[.int .i64 y1, .int .i64 y2, .int .i64 y3, .string y4]) rfl (by kernel_rfl) (by kernel_rfl) (by kernel_rfl) (by kernel_rfl) (fun _ _ _ h => h) ?hy (by assumption) ?_
            case hy => (intro w' hSw; obtain ⟨_, s0, s1, s2, s3⟩ := (e0).keep hSw; dsimp only at s0 s1 s2 s3; go_simp)
            try simp only [List.setIfInBounds_toArray, List.set_cons_zero, List.set_cons_succ]
            refine takeG 12 (v := .agg #[.int .i64 x1, .int .i64 x2, .int .i64 x3, .string x4]) rfl (by kernel_rfl) (by kernel_rfl) (by kernel_rfl) (by kernel_rfl) (fun _ _ _ h => h) ?hy (by assumption) ?_
            case hy => (intro w' hSw; obtain ⟨_, s0, s1, s2, s3⟩ := (f0).keep hSw; dsimp only at s0 s1 s2 s3; go_simp)
            try simp only [List.setIfInBounds_toArray, List.set_cons_zero, List.set_cons_succ]
            refine runG 13 (by kernel_rfl) rfl (by kernel_rfl) ?_
            go_simp
            refine (dueOrder_any ⟨y1, y2, y3, y4⟩ ⟨x1, x2, x3, x4⟩ _).mono ?_
            rintro e z2 ⟨rfl, bz2⟩
            have hz2 : Below W.heap.size W z2 := hz1.trans (bz2.mono hz1.size)
            refine ⟨hz2, ?_⟩
            try simp only [Act.put, List.setIfInBounds_toArray, List.set_cons_zero, List.set_cons_succ]
            refine takeG 14 (v := .bool false) rfl (by kernel_rfl) (by kernel_rfl) (by kernel_rfl) (by kernel_rfl) (fun _ _ _ h => h) ?hy (by assumption) ?_
            case hy => (intro w' hSw; go_simp)
            try simp only [List.setIfInBounds_toArray, List.set_cons_zero, List.set_cons_succ]
            refine takeG 15 (v := .bool false) rfl (by kernel_rfl) (by kernel_rfl) (by kernel_rfl) (by kernel_rfl) (fun _ _ _ h => h) ?hy (by assumption) ?_
            case hy => (intro w' hSw; go_simp)
            try simp only [List.setIfInBounds_toArray, List.set_cons_zero, List.set_cons_succ]
            refine takeG 16 (v := .bool false) rfl (by kernel_rfl) (by kernel_rfl) (by kernel_rfl) (by kernel_rfl) (fun _ _ _ h => h) ?hy (by assumption) ?_
            case hy => (intro w' hSw; go_simp)
            try simp only [List.setIfInBounds_toArray, List.set_cons_zero, List.set_cons_succ]
            refine wpAnyH_done (by kernel_rfl) ?_ _
            have hb1 := hbB.trans (hz2.mono hbB.size)
            go_wp2
            go_roundw
            case rel => exact ⟨j + 1 + 1, by omega, by go_num, HN.out, hb1⟩
            case measure => simp [intOf]; omega
          · have hd2 : decide (0 ≤ ordD ⟨y1, y2, y3, y4⟩ ⟨x1, x2, x3, x4⟩) = true := decide_eq_true (ordD_nonneg.2 hlt)
            have HN : Hid (¬ rightQ l) := fun h => hlt (by have := (h.2 (j + 1) hk2).2.2 (by omega); rw [hlx] at this; simp only [Nat.add_sub_cancel] at this; rw [hly] at this; exact this)
            clear hlx hly hlt HK
            go_upto_region 6 with fail
            obtain ⟨W, hW⟩ : ∃ W, wr.alloc (.cells #[.int .i64 x1, .int .i64 x2, .int .i64 x3, .string x4] 25) = W := ⟨_, rfl⟩
            rw [hW] at e0 p0 hbB ⊢
            clear hW B1 q0 q1 q2 q3
            have f0 := p0
            clear p0
            refine wp_region_held_drew (S := (fun w' => Below W.heap.size W w')) (by kernel_rfl) ?hS0 (fun hHeld => ?_)
            case hS0 => exact (Below.refl _ _).drew
            refine takeG 0 (v := .agg #[.int .i64 x1, .int .i64 x2, .int .i64 x3, .string x4]) rfl (by kernel_rfl) (by kernel_rfl) (by kernel_rfl) (by kernel_rfl) (fun _ _ _ h => h) ?hy (by assumption) ?_
            case hy => (intro w' hSw; obtain ⟨_, s0, s1, s2, s3⟩ := (f0).keep hSw; dsimp only at s0 s1 s2 s3; go_simp)
            try simp only [List.setIfInBounds_toArray, List.set_cons_zero, List.set_cons_succ]
            refine runG 1 (by kernel_rfl) rfl (by kernel_rfl) ?_
            go_simp
            refine (dueRight_yes ⟨x1, x2, x3, x4⟩ _ HO.out).mono ?_
            rintro e z1 ⟨rfl, bz1⟩
            have hz1 : Below W.heap.size W z1 := hHeld.trans bz1
            refine ⟨hz1, ?_⟩
            clear hHeld
            try simp only [Act.put, List.setIfInBounds_toArray, List.set_cons_zero, List.set_cons_succ]
            refine takeG 2 (v := .bool false) rfl (by kernel_rfl) (by kernel_rfl) (by kernel_rfl) (by kernel_rfl) (fun _ _ _ h => h) ?hy (by assumption) ?_
            case hy => (intro w' hSw; go_simp)
            try simp only [List.setIfInBounds_toArray, List.set_cons_zero, List.set_cons_succ]
            refine takeG 3 (v := .bool false) rfl (by kernel_rfl) (by kernel_rfl) (by kernel_rfl) (by kernel_rfl) (fun _ _ _ h => h) ?hy (by assumption) ?_
            case hy => (intro w' hSw; go_simp)
            try simp only [List.setIfInBounds_toArray, List.set_cons_zero, List.set_cons_succ]
            refine takeG 4 (v := .int .i64 ((j : Int) + 1)) rfl (by kernel_rfl) (by kernel_rfl) (by kernel_rfl) (by kernel_rfl) (fun _ _ _ h => h) ?hy (by assumption) ?_
            case hy => (intro w' hSw; go_simp)
            try simp only [List.setIfInBounds_toArray, List.set_cons_zero, List.set_cons_succ]
            refine takeG 5 (v := .bool true) rfl (by kernel_rfl) (by kernel_rfl) (by kernel_rfl) (by kernel_rfl) (fun _ _ _ h => h) ?hy (by assumption) ?_
            case hy => (intro w' hSw; go_simp)
            try simp only [List.setIfInBounds_toArray, List.set_cons_zero, List.set_cons_succ]
            refine takeG 6 (v := .bool true) rfl (by kernel_rfl) (by kernel_rfl) (by kernel_rfl) (by kernel_rfl) (fun _ _ _ h => h) ?hy (by assumption) ?_
            case hy => (intro w' hSw; go_simp)
            try simp only [List.setIfInBounds_toArray, List.set_cons_zero, List.set_cons_succ]
            refine takeG 7 (v := .slice (some ⟨b, off, none⟩) l.length cap) rfl (by kernel_rfl) (by kernel_rfl) (by kernel_rfl) (by kernel_rfl) (fun _ _ _ h => h) ?hy (by assumption) ?_
            case hy => (intro w' hSw; go_simp)
            try simp only [List.setIfInBounds_toArray, List.set_cons_zero, List.set_cons_succ]
            refine takeG 8 (v := .int .i64 ((j : Int) + 1)) rfl (by kernel_rfl) (by kernel_rfl) (by kernel_rfl) (by kernel_rfl) (fun _ _ _ h => h) ?hy (by assumption) ?_
            case hy => (intro w' hSw; go_simp)
            try simp only [List.setIfInBounds_toArray, List.set_cons_zero, List.set_cons_succ]
            refine takeG 9 (v := .int .i64 (j : Int)) rfl (by kernel_rfl) (by kernel_rfl) (by kernel_rfl) (by kernel_rfl) (fun _ _ _ h => h) ?hy (by assumption) ?_
            case hy => (intro w' hSw; go_simp)
            try simp only [List.setIfInBounds_toArray, List.set_cons_zero, List.set_cons_succ]
            refine takeG 10 (v := .pointer (some ⟨b, off + j * 4, none⟩)) rfl (by kernel_rfl) (by kernel_rfl) (by kernel_rfl) (by kernel_rfl) (fun _ _ _ h => h) ?hy (by assumption) ?_
            case hy => (intro w' hSw; go_simp)
            try simp only [List.setIfInBounds_toArray, List.set_cons_zero, List.set_cons_succ]
            refine takeG 11 (v := .agg #[.int .i64 y1, .int .i64 y2, .int .i64 y3, .string y4]) rfl (by kernel_rfl) (by kernel_rfl) (by kernel_rfl) (by kernel_rfl) (fun _ _ _ h => h) ?hy (by assumption) ?_
            case hy => (intro w' hSw; obtain ⟨_, s0, s1, s2, s3⟩ := (e0).keep hSw; dsimp only at s0 s1 s2 s3; go_simp)
            try simp only [List.setIfInBounds_toArray, List.set_cons_zero, List.set_cons_succ]
            refine takeG 12 (v := .agg #[.int .i64 x1, .int .i64 x2, .int .i64 x3, .string x4]) rfl (by kernel_rfl) (by kernel_rfl) (by kernel_rfl) (by kernel_rfl) (fun _ _ _ h => h) ?hy (by assumption) ?_
            case hy => (intro w' hSw; obtain ⟨_, s0, s1, s2, s3⟩ := (f0).keep hSw; dsimp only at s0 s1 s2 s3; go_simp)
            try simp only [List.setIfInBounds_toArray, List.set_cons_zero, List.set_cons_succ]
            refine runG 13 (by kernel_rfl) rfl (by kernel_rfl) ?_
            go_simp
            refine (dueOrder_any ⟨y1, y2, y3, y4⟩ ⟨x1, x2, x3, x4⟩ _).mono ?_
            rintro e z2 ⟨rfl, bz2⟩
            have hz2 : Below W.heap.size W z2 := hz1.trans (bz2.mono hz1.size)
            refine ⟨hz2, ?_⟩
            try simp only [Act.put, List.setIfInBounds_toArray, List.set_cons_zero, List.set_cons_succ]
            refine takeG 14 (v := .bool true) rfl (by kernel_rfl) (by kernel_rfl) (by kernel_rfl) (by kernel_rfl) (fun _ _ _ h => h) ?hy (by assumption) ?_
            case hy => (intro w' hSw; go_simp)
            try simp only [List.setIfInBounds_toArray, List.set_cons_zero, List.set_cons_succ]
            refine takeG 15 (v := .bool true) rfl (by kernel_rfl) (by kernel_rfl) (by kernel_rfl) (by kernel_rfl) (fun _ _ _ h => h) ?hy (by assumption) ?_
            case hy => (intro w' hSw; go_simp)
            try simp only [List.setIfInBounds_toArray, List.set_cons_zero, List.set_cons_succ]
            refine takeG 16 (v := .bool true) rfl (by kernel_rfl) (by kernel_rfl) (by kernel_rfl) (by kernel_rfl) (fun _ _ _ h => h) ?hy (by assumption) ?_
            case hy => (intro w' hSw; go_simp)
            try simp only [List.setIfInBounds_toArray, List.set_cons_zero, List.set_cons_succ]
            refine wpAnyH_done (by kernel_rfl) ?_ _
            have hb1 := hbB.trans (hz2.mono hbB.size)
            go_wp2
            go_ret
            exact ⟨.no HN.out, hb1⟩
      · have HO : Hid (¬ DueV.ok ⟨x1, x2, x3, x4⟩) := hok
        have HN : Hid (¬ rightQ l) := fun h => hok (by have := (h.2 k hk2).2.1; rw [hlx] at this; exact this)
        clear hok hlx HK
        go_upto_region 6 with fail
        obtain ⟨W, hW⟩ : ∃ W, wr.alloc (.cells #[.int .i64 x1, .int .i64 x2, .int .i64 x3, .string x4] 25) = W := ⟨_, rfl⟩
        rw [hW] at p0 hbB ⊢
        clear hW B1 q0 q1 q2 q3
        have f0 := p0
        clear p0
        refine wp_region_held_drew (S := (fun w' => Below W.heap.size W w')) (by kernel_rfl) ?hS0 (fun hHeld => ?_)
        case hS0 => exact (Below.refl _ _).drew
        refine takeG 0 (v := .agg #[.int .i64 x1, .int .i64 x2, .int .i64 x3, .string x4]) rfl (by kernel_rfl) (by kernel_rfl) (by kernel_rfl) (by kernel_rfl) (fun _ _ _ h => h) ?hy (by assumption) ?_
        case hy => (intro w' hSw; obtain ⟨_, s0, s1, s2, s3⟩ := (f0).keep hSw; dsimp only at s0 s1 s2 s3; go_simp)
        try simp only [List.setIfInBounds_toArray, List.set_cons_zero, List.set_cons_succ]
        refine runG 1 (by kernel_rfl) rfl (by kernel_rfl) ?_
        go_simp
        refine (dueRight_no ⟨x1, x2, x3, x4⟩ _ HO.out).mono ?_
        rintro e z1 ⟨rfl, bz1⟩
        have hz1 : Below W.heap.size W z1 := hHeld.trans bz1
        refine ⟨hz1, ?_⟩
        clear hHeld
        try simp only [Act.put, List.setIfInBounds_toArray, List.set_cons_zero, List.set_cons_succ]
        refine takeG 2 (v := .bool true) rfl (by kernel_rfl) (by kernel_rfl) (by kernel_rfl) (by kernel_rfl) (fun _ _ _ h => h) ?hy (by assumption) ?_
        case hy => (intro w' hSw; go_simp)
        try simp only [List.setIfInBounds_toArray, List.set_cons_zero, List.set_cons_succ]
        refine takeG 3 (v := .bool true) rfl (by kernel_rfl) (by kernel_rfl) (by kernel_rfl) (by kernel_rfl) (fun _ _ _ h => h) ?hy (by assumption) ?_
        case hy => (intro w' hSw; go_simp)
        try simp only [List.setIfInBounds_toArray, List.set_cons_zero, List.set_cons_succ]
        refine skipG 4 rfl (by kernel_rfl) (by kernel_rfl) (by kernel_rfl) (by kernel_rfl) (fun _ _ _ h => h) (by assumption) ?_
        try simp only [List.setIfInBounds_toArray, List.set_cons_zero, List.set_cons_succ]
        refine skipG 5 rfl (by kernel_rfl) (by kernel_rfl) (by kernel_rfl) (by kernel_rfl) (fun _ _ _ h => h) (by assumption) ?_
        try simp only [List.setIfInBounds_toArray, List.set_cons_zero, List.set_cons_succ]
        refine skipG 6 rfl (by kernel_rfl) (by kernel_rfl) (by kernel_rfl) (by kernel_rfl) (fun _ _ _ h => h) (by assumption) ?_
        try simp only [List.setIfInBounds_toArray, List.set_cons_zero, List.set_cons_succ]
        refine skipG 7 rfl (by kernel_rfl) (by kernel_rfl) (by kernel_rfl) (by kernel_rfl) (fun _ _ _ h => h) (by assumption) ?_
        try simp only [List.setIfInBounds_toArray, List.set_cons_zero, List.set_cons_succ]
        refine skipG 8 rfl (by kernel_rfl) (by kernel_rfl) (by kernel_rfl) (by kernel_rfl) (fun _ _ _ h => h) (by assumption) ?_
        try simp only [List.setIfInBounds_toArray, List.set_cons_zero, List.set_cons_succ]
        refine skipG 9 rfl (by kernel_rfl) (by kernel_rfl) (by kernel_rfl) (by kernel_rfl) (fun _ _ _ h => h) (by assumption) ?_
        try simp only [List.setIfInBounds_toArray, List.set_cons_zero, List.set_cons_succ]
        refine skipG 10 rfl (by kernel_rfl) (by kernel_rfl) (by kernel_rfl) (by kernel_rfl) (fun _ _ _ h => h) (by assumption) ?_
        try simp only [List.setIfInBounds_toArray, List.set_cons_zero, List.set_cons_succ]
        refine skipG 11 rfl (by kernel_rfl) (by kernel_rfl) (by kernel_rfl) (by kernel_rfl) (fun _ _ _ h => h) (by assumption) ?_
        try simp only [List.setIfInBounds_toArray, List.set_cons_zero, List.set_cons_succ]
        refine skipG 12 rfl (by kernel_rfl) (by kernel_rfl) (by kernel_rfl) (by kernel_rfl) (fun _ _ _ h => h) (by assumption) ?_
        try simp only [List.setIfInBounds_toArray, List.set_cons_zero, List.set_cons_succ]
        refine skipG 13 rfl (by kernel_rfl) (by kernel_rfl) (by kernel_rfl) (by kernel_rfl) (fun _ _ _ h => h) (by assumption) ?_
        try simp only [List.setIfInBounds_toArray, List.set_cons_zero, List.set_cons_succ]
        refine skipG 14 rfl (by kernel_rfl) (by kernel_rfl) (by kernel_rfl) (by kernel_rfl) (fun _ _ _ h => h) (by assumption) ?_
        try simp only [List.setIfInBounds_toArray, List.set_cons_zero, List.set_cons_succ]
        refine skipG 15 rfl (by kernel_rfl) (by kernel_rfl) (by kernel_rfl) (by kernel_rfl) (fun _ _ _ h => h) (by assumption) ?_
        try simp only [List.setIfInBounds_toArray, List.set_cons_zero, List.set_cons_succ]
        refine takeG 16 (v := .bool true) rfl (by kernel_rfl) (by kernel_rfl) (by kernel_rfl) (by kernel_rfl) (fun _ _ _ h => h) ?hy (by assumption) ?_
        case hy => (intro w' hSw; go_simp)
        try simp only [List.setIfInBounds_toArray, List.set_cons_zero, List.set_cons_succ]
        refine wpAnyH_done (by kernel_rfl) ?_ _
        have hb1 := hbB.trans (hz1.mono hbB.size)
        go_wp2
        go_ret
        exact ⟨.no HN.out, hb1⟩
    · obtain rfl : k = l.length := by omega
      have HR : Hid (rightQ l) := ⟨by omega, HK.out⟩
      go_wp2
      go_ret
      exact ⟨.yes HR.out, hb⟩
end Go.Proofs.Ytlnkcbojoaoehaa
