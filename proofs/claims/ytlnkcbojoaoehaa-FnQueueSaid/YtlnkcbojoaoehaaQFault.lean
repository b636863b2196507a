/- The contracts of the faults of a queue. -/
import Derived.Test.YtlnkcbojoaoehaaQOut
namespace Go.Proofs.Ytlnkcbojoaoehaa
open Go Go.RowKit
set_option linter.unusedVariables false

theorem implQ_yes (a : Option Addr) (cap : Nat) (l : List DueV) (w : World) (hl : l.length ≤ 1048576) (hrow : CellRow w a (cellsOf DueV.cells l)) (h : rightQ l) :
    Calls Try.prog 18 #[.slice a l.length cap] w fun e w' => e = .returned (.bool true) ∧ Below w.heap.size w w' :=
  (implQRight_any a cap l w hl hrow).mono fun e w' ⟨⟨r, he, hr⟩, hb⟩ => ⟨by rw [he, hr.2 h], hb⟩
theorem implQ_no (a : Option Addr) (cap : Nat) (l : List DueV) (w : World) (hl : l.length ≤ 1048576) (hrow : CellRow w a (cellsOf DueV.cells l)) (h : ¬ rightQ l) :
    Calls Try.prog 18 #[.slice a l.length cap] w fun e w' => e = .returned (.bool false) ∧ Below w.heap.size w w' :=
  (implQRight_any a cap l w hl hrow).mono fun e w' ⟨⟨r, he, hr⟩, hb⟩ => ⟨by rw [he]; cases r with | false => rfl | true => exact absurd (hr.1 rfl) h, hb⟩
set_option maxRecDepth 100000 in
theorem queueFault_any (a : Option Addr) (cap : Nat) (l : List DueV) (c : Int) (w : World) (hc : FaultIs l c) (hl : l.length ≤ 1048576) (hrow : CellRow w a (cellsOf DueV.cells l)) :
    Calls Try.prog 38 #[.slice a l.length cap] w fun e w' => e = .returned (.int .i64 c) ∧ Below w.heap.size w w' := by
  rcases hc with ⟨h1, rfl⟩ | ⟨h1, h2, rfl⟩ | ⟨h2, rfl⟩
  · have h1' : 400 < (l.length : Int) := by omega
    go_enter Try.func38, Try.ntmps38
    go_wp2
    go_ret
    exact ⟨rfl, Below.refl _ _⟩
  · have h1' : ¬ 400 < (l.length : Int) := by omega
    have HN : Hid (¬ rightQ l) := h2
    clear h2
    go_enter Try.func38, Try.ntmps38
    go_wp2_with fail
    refine (implQ_no a cap l _ hl hrow HN.out).mono ?_
    rintro e w' ⟨rfl, hb⟩
    go_wp2
    go_ret
    exact ⟨rfl, hb⟩
  · have h1' : ¬ 400 < (l.length : Int) := by have := h2.1; omega
    have HN : Hid (rightQ l) := h2
    clear h2
    go_enter Try.func38, Try.ntmps38
    go_wp2_with fail
    refine (implQ_yes a cap l _ hl hrow HN.out).mono ?_
    rintro e w' ⟨rfl, hb⟩
    go_wp2
    go_ret
    exact ⟨rfl, hb⟩
theorem bsearchD_yes (a : Option Addr) (cap : Nat) (l : List DueV) (d : DueV) (w : World) (hl : l.length ≤ 1048576) (hrow : CellRow w a (cellsOf DueV.cells l)) (hr : l.Pairwise DueV.lt) (ht : thereD l d) :
    Calls Try.prog 53 #[.slice a l.length cap, d.val, .func (.func 45) #[] #[]] w fun e w' => ∃ k, e = .returned (.tuple #[.int .i64 k, .bool true]) ∧ Below w.heap.size w w' :=
  (bsearchD_any a cap l d w hl hrow hr).mono fun e w' ⟨k, r, he, h, hb⟩ => ⟨k, by rw [he, h.2 ht], hb⟩
theorem bsearchD_no (a : Option Addr) (cap : Nat) (l : List DueV) (d : DueV) (w : World) (hl : l.length ≤ 1048576) (hrow : CellRow w a (cellsOf DueV.cells l)) (hr : l.Pairwise DueV.lt) (ht : ¬ thereD l d) :
    Calls Try.prog 53 #[.slice a l.length cap, d.val, .func (.func 45) #[] #[]] w fun e w' => ∃ k, e = .returned (.tuple #[.int .i64 k, .bool false]) ∧ Below w.heap.size w w' :=
  (bsearchD_any a cap l d w hl hrow hr).mono fun e w' ⟨k, r, he, h, hb⟩ => ⟨k, by rw [he]; cases r with | false => rfl | true => exact absurd (h.1 rfl) ht, hb⟩
set_option maxHeartbeats 1000000 in
set_option maxRecDepth 100000 in
theorem putFault_any (a : Option Addr) (cap : Nat) (l : List DueV) (d : DueV) (c : Int) (m : List DueV) (w : World) (hP : PutIs l d c m) (hl : l.length ≤ 1048576) (hrow : CellRow w a (cellsOf DueV.cells l)) :
    Calls Try.prog 33 #[.slice a l.length cap, d.val] w fun e w' => e = .returned (.int .i64 c) ∧ Below w.heap.size w w' := by
  obtain ⟨x1, x2, x3, x4⟩ := d
  have b0 := (Below.refl w.heap.size w).alloc (Nat.le_refl _) (.cells #[.int .i64 x1, .int .i64 x2, .int .i64 x3, .string x4] 25)
  have p0 := BlkOf.new w ⟨x1, x2, x3, x4⟩
  have hrow0 := hrow.keep b0
  obtain ⟨W, hW⟩ : ∃ W, w.alloc (.cells #[.int .i64 x1, .int .i64 x2, .int .i64 x3, .string x4] 25) = W := ⟨_, rfl⟩
  have hWw : (w.alloc (.cells #[.int .i64 x1, .int .i64 x2, .int .i64 x3, .string x4] 25)) = W := hW
  rw [hW] at b0 p0 hrow0
  have HW : Hid (w.alloc (.cells #[.int .i64 x1, .int .i64 x2, .int .i64 x3, .string x4] 25) = W) := hW
  clear hW hWw
  obtain ⟨q, hq⟩ := fault_ex l
  have HQ : Hid (FaultIs l q) := hq
  by_cases hq0 : q = 0
  · subst hq0
    have hr : rightQ l := by
      rcases hq with ⟨_, e⟩ | ⟨_, _, e⟩ | ⟨h, _⟩
      · cases e
      · cases e
      · exact h
    have hlq := hr.1
    have HRi : Hid (l.Pairwise DueV.lt) := rightQ_lt hr
    have HRq : Hid (rightQ l) := hr
    unfold DueV.val
    dsimp only
    go_enter Try.func33, Try.ntmps33
    go_wp2_with fail
    rw [HW.out]
    refine (queueFault_any a cap l 0 _ HQ.out hl hrow0).mono ?_
    rintro e z1 ⟨rfl, bz1⟩
    have p1 := p0.keep bz1
    have hrow1 := hrow0.keep bz1
    have b1 := b0.trans (bz1.mono b0.size)
    clear p0 hrow0 b0 bz1 HW
    have p1' := p1
    obtain ⟨_, c0, c1, c2, c3⟩ := p1
    dsimp only at c0 c1 c2 c3
    by_cases hok : DueV.ok ⟨x1, x2, x3, x4⟩
    · have HO : Hid (DueV.ok ⟨x1, x2, x3, x4⟩) := hok
      have HP : Hid (PutIs l ⟨x1, x2, x3, x4⟩ c m) := hP
      clear hok hP hq hr
      go_wp2_with fail
      refine (dueRight_yes ⟨x1, x2, x3, x4⟩ _ HO.out).mono ?_
      rintro e z2 ⟨rfl, bz2⟩
      obtain ⟨_, e0, e1, e2, e3⟩ := p1'.keep bz2
      dsimp only at e0 e1 e2 e3
      have hrow2 := hrow1.keep bz2
      have b2 := b1.trans (bz2.mono b1.size)
      clear c0 c1 c2 c3 bz2 hrow1 b1 p1'
      by_cases ht : thereD l ⟨x1, x2, x3, x4⟩
      · have HT : Hid (thereD l ⟨x1, x2, x3, x4⟩) := ht
        have hc7 : c = 7 := by
          rcases HP.out with ⟨h, _⟩ | ⟨_, h | h, _⟩ | ⟨_, _, _, h, _⟩ | ⟨_, _, h, _⟩ | ⟨_, _, h, _⟩
          · omega
          · exact absurd HRq.out h
          · exact absurd HO.out h
          · exact h
          · exact absurd ht h
          · exact absurd ht h
        subst hc7
        clear ht
        go_wp2_with fail
        refine (bsearchD_yes a cap l ⟨x1, x2, x3, x4⟩ _ hl hrow2 HRi.out HT.out).mono ?_
        rintro e z3 ⟨k, rfl, bz3⟩
        have b3 := b2.trans (bz3.mono b2.size)
        go_wp2
        go_ret
        exact ⟨rfl, b3⟩
      · have HT : Hid (¬ thereD l ⟨x1, x2, x3, x4⟩) := ht
        clear ht
        go_wp2_with fail
        refine (bsearchD_no a cap l ⟨x1, x2, x3, x4⟩ _ hl hrow2 HRi.out HT.out).mono ?_
        rintro e z3 ⟨k, rfl, bz3⟩
        have b3 := b2.trans (bz3.mono b2.size)
        by_cases h200 : l.length = 200
        · have hc9 : c = 9 := by
            rcases HP.out with ⟨h, _⟩ | ⟨_, h | h, _⟩ | ⟨_, _, h, _⟩ | ⟨_, _, _, _, h, _⟩ | ⟨_, _, _, h, _⟩
            · omega
            · exact absurd HRq.out h
            · exact absurd HO.out h
            · exact absurd h HT.out
            · exact h
            · omega
          subst hc9
          have h2' : ((l.length : Int) == 200) = true := beq_iff_eq.2 (by omega)
          clear h200
          go_wp2
          go_ret
          exact ⟨rfl, b3⟩
        · have hc0 : c = 0 := by
            rcases HP.out with ⟨h, _⟩ | ⟨_, h | h, _⟩ | ⟨_, _, h, _⟩ | ⟨_, _, _, h, _⟩ | ⟨_, _, _, _, h, _⟩
            · omega
            · exact absurd HRq.out h
            · exact absurd HO.out h
            · exact absurd h HT.out
            · omega
            · exact h
          subst hc0
          have h2' : ((l.length : Int) == 200) = false := beq_eq_false_iff_ne.2 (by omega)
          clear h200
          go_wp2
          go_ret
          exact ⟨rfl, b3⟩
    · have hc1 : c = 1 := by
        rcases hP with ⟨h, _⟩ | ⟨_, _, h, _⟩ | ⟨_, h, _⟩ | ⟨_, h, _⟩ | ⟨_, h, _⟩
        · omega
        · exact h
        · exact absurd h hok
        · exact absurd h hok
        · exact absurd h hok
      subst hc1
      have HO : Hid (¬ DueV.ok ⟨x1, x2, x3, x4⟩) := hok
      clear hok hP hq hr
      go_wp2_with fail
      refine (dueRight_no ⟨x1, x2, x3, x4⟩ _ HO.out).mono ?_
      rintro e z2 ⟨rfl, bz2⟩
      have b2 := b1.trans (bz2.mono b1.size)
      go_wp2
      go_ret
      exact ⟨rfl, b2⟩
  · have hcq : c = q := by
      rcases hq with ⟨h, e⟩ | ⟨h, h2, e⟩ | ⟨_, e⟩
      · rcases hP with ⟨_, h3, _⟩ | ⟨h3, _⟩ | ⟨h3, _⟩ | ⟨h3, _⟩ | ⟨h3, _⟩
        · omega
        · omega
        · have := h3.1; omega
        · have := h3.1; omega
        · have := h3.1; omega
      · rcases hP with ⟨h3, _⟩ | ⟨_, _, h3, _⟩ | ⟨h3, _⟩ | ⟨h3, _⟩ | ⟨h3, _⟩
        · omega
        · omega
        · exact absurd h3 h2
        · exact absurd h3 h2
        · exact absurd h3 h2
      · exact absurd e hq0
    subst hcq
    have hb0 : (c == 0) = false := beq_eq_false_iff_ne.2 hq0
    clear hP hq hq0
    unfold DueV.val
    dsimp only
    go_enter Try.func33, Try.ntmps33
    go_wp2_with fail
    rw [HW.out]
    refine (queueFault_any a cap l c _ HQ.out hl hrow0).mono ?_
    rintro e z1 ⟨rfl, bz1⟩
    have b1 := b0.trans (bz1.mono b0.size)
    go_wp2
    go_ret
    exact ⟨rfl, b1⟩
end Go.Proofs.Ytlnkcbojoaoehaa
