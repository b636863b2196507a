/- The contract of the program's Shuffle: it answers as the specification's. -/
import Derived.Test.YtmdcankfjmkkeaaGreatG19
import Derived.Test.YtmdcankfjmkkeaaGreatG24
import Derived.Test.YtmdcankfjmkkeaaGreatG4
namespace Go.Proofs.YtmdcankfjmkkeaaGreat
open Go Go.RowKit
set_option linter.unusedVariables false
set_option linter.unusedSimpArgs false

theorem NumBlk.set {w : World} {g : Nat} {m : List Int} (h : NumBlk w g m) (i : Nat) (x : Int) : NumBlk (w.setCell ⟨g, i, none⟩ (.int .i64 x)) g (m.set i x) := by
  have := heap_setCell_same w g i _ 2 (.int .i64 x) h
  have e : ((numsV m).toArray.setIfInBounds i (.int .i64 x)) = (numsV (m.set i x)).toArray := by rw [numsV_set]; simp
  rw [e] at this
  exact this
theorem NumBlk.cellD {w : World} {g : Nat} {m : List Int} (h : NumBlk w g m) {i : Nat} (hi : i < m.length) : w.cell? ⟨g, i, none⟩ = some (.int .i64 (m.getD i 0)) := by
  have h' : w.heap[g]? = some (.cells (numsV m).toArray 2 (0, 0)) := h
  rw [getD_at hi]
  simp [World.cell?, h', numsV, List.getElem?_eq_getElem hi]
theorem NumBlk.frz {w : World} {g : Nat} {m : List Int} (h : NumBlk w g m) (i : Nat) : w.frozen? ⟨g, i, none⟩ = false := frozen_of_row w g i _ _ h
/-- A block of two cells: a seed and a list. -/
def PairIs (w : World) (o : Nat) (s : Int) (v : Value) : Prop := w.cell? ⟨o, 0, none⟩ = some (.int .i64 s) ∧ w.cell? ⟨o, 1, none⟩ = some v ∧ w.frozen? ⟨o, 0, none⟩ = false ∧ w.frozen? ⟨o, 1, none⟩ = false
theorem PairIs.lt {w : World} {o : Nat} {s : Int} {v : Value} (h : PairIs w o s v) : o < w.heap.size := by
  rcases Nat.lt_or_ge o w.heap.size with k | k
  · exact k
  · have := h.1
    simp [World.cell?, Array.getElem?_eq_none k] at this
theorem PairIs.keep {w w' : World} {o : Nat} {s : Int} {v : Value} (h : PairIs w o s v) (hb : Below w.heap.size w w') : PairIs w' o s v := by
  have hl := h.lt
  obtain ⟨a, b, c, d⟩ := h
  exact ⟨(hb.cell (p := ⟨o, 0, none⟩) hl).trans a, (hb.cell (p := ⟨o, 1, none⟩) hl).trans b, (hb.frozen (p := ⟨o, 0, none⟩) hl).trans c, (hb.frozen (p := ⟨o, 1, none⟩) hl).trans d⟩
theorem PairIs.other {w : World} {o g : Nat} {s : Int} {v : Value} (h : PairIs w o s v) (hne : g ≠ o) (i : Nat) (u : Value) : PairIs (w.setCell ⟨g, i, none⟩ u) o s v := by
  obtain ⟨a, b, c, d⟩ := h
  refine ⟨?_, ?_, by rw [World.frozen?_setCell]; exact c, by rw [World.frozen?_setCell]; exact d⟩
  · rw [World.cell?_setCell_other _ _ _ _ (fun e => hne (by have := congrArg Addr.block e; simpa using this))]; exact a
  · rw [World.cell?_setCell_other _ _ _ _ (fun e => hne (by have := congrArg Addr.block e; simpa using this))]; exact b
theorem PairIs.seed {w : World} {o : Nat} {s t : Int} {v : Value} (h : PairIs w o s v) : PairIs (w.setCell ⟨o, 0, none⟩ (.int .i64 t)) o t v := by
  obtain ⟨a, b, c, d⟩ := h
  refine ⟨World.cell?_setCell_same' _ _ _ (by rw [a]; rfl), ?_, by rw [World.frozen?_setCell]; exact c, by rw [World.frozen?_setCell]; exact d⟩
  rw [World.cell?_setCell_other _ _ _ _ (fun e => by have := congrArg Addr.off e; simp at this)]; exact b
theorem NumBlk.other {w : World} {g o : Nat} {m : List Int} (h : NumBlk w g m) (hne : g ≠ o) (i : Nat) (u : Value) : NumBlk (w.setCell ⟨o, i, none⟩ u) g m := (Below.heap_setCell _ _ _ _ hne).trans h
theorem pair_new (w : World) (s : Int) (v : Value) (t : Nat) : PairIs (w.alloc (.cells #[.int .i64 s, v] t)) w.heap.size s v := by
  refine ⟨?_, ?_, ?_, ?_⟩
  · rw [World.cell?_alloc_at _ _ _ _ rfl]; rfl
  · rw [World.cell?_alloc_at _ _ _ _ rfl]; rfl
  · simp
  · simp
set_option maxHeartbeats 4000000 in
set_option maxRecDepth 100000 in
theorem implShuffle_some (a : Option Addr) (cap : Nat) (l : List Int) (seed : Int) (w : World) (hl : l.length ≤ 400) (hne : 0 < l.length) (hrow : NumRow w a l) (hs0 : 0 ≤ seed) (hs1 : seed ≤ 2147483647) :
    Calls Tryz.prog 211 #[.slice a l.length cap, .int .i64 seed] w fun e w' => ∃ v, e = .returned (shufOut (mixL (l.length - 1) l seed).2 v) ∧ w'.ownsRow w.heap.size 2 1 v l.length (numsV (mixL (l.length - 1) l seed).1) ∧ Below w.heap.size w w' := by
  have HD : Hid ((decide (0 ≤ seed) && decide (seed ≤ 2147483647)) = true) := by show _ = _; simp [hs0, hs1]
  have b0 : Below w.heap.size w (w.alloc (.cells #[.int .i64 0, .slice none 0 0] 199)) := (Below.refl _ _).alloc (Nat.le_refl _) _
  have hrow1 := hrow.keep b0
  have hr0 := pair_new w 0 (.slice none 0 0) 199
  have hz0 : (w.alloc (.cells #[.int .i64 0, .slice none 0 0] 199)).heap.size = w.heap.size + 1 := by simp
  go_enter Tryz.func211, Tryz.ntmps211
  go_wp2_with fail
  refine (seedRight_any seed _).mono ?_
  rintro e x1 ⟨rfl, rfl⟩
  rw [HD.out]
  go_wp2_with fail
  refine (copied_any a cap l _ (by omega) hne hrow1).mono ?_
  rintro e x1 ⟨rfl, nb1, b1⟩
  rw [hz0] at nb1 b1
  have hr1 := hr0.keep (by rw [hz0]; exact b1)
  have bw1 : Below w.heap.size w x1 := b0.trans (b1.mono (by omega))
  have nb1a := nb1.keep ((Below.refl _ _).alloc (Nat.le_refl _) (.cells #[.int .i64 seed, .slice (some ⟨w.heap.size + 1, 0, none⟩) l.length l.length] 199))
  have hr1a := hr1.keep ((Below.refl _ _).alloc (Nat.le_refl _) (.cells #[.int .i64 seed, .slice (some ⟨w.heap.size + 1, 0, none⟩) l.length l.length] 199))
  have ho1 := pair_new x1 seed (.slice (some ⟨w.heap.size + 1, 0, none⟩) l.length l.length) 199
  have bw1a := bw1.alloc bw1.size (.cells #[.int .i64 seed, .slice (some ⟨w.heap.size + 1, 0, none⟩) l.length l.length] 199)
  have hxg : w.heap.size + 1 < x1.heap.size := nb1.lt
  clear nb1 hr0 hr1 bw1 b1
  go_wp2
  go_loopw [25] (fun i wr => ∃ (k : Nat) (m : List Int) (s : Int), i = .int .i64 k ∧ k ≤ l.length - 1 ∧ 0 ≤ s ∧ s ≤ 2147483647 ∧ m.length = l.length ∧ mixL (l.length - 1 - k) m s = mixL (l.length - 1) l seed ∧ NumBlk wr (w.heap.size + 1) m ∧ PairIs wr x1.heap.size s (.slice (some ⟨w.heap.size + 1, 0, none⟩) l.length l.length) ∧ PairIs wr w.heap.size 0 (.slice none 0 0) ∧ Below w.heap.size w wr) (fun i _ => l.length - (intOf i).toNat)
  case atStart => exact ⟨0, l, seed, rfl, by omega, hs0, hs1, rfl, rfl, nb1a, ho1, hr1a, bw1a⟩
  case round =>
    obtain ⟨k, m, s, rfl, hk, hk0, hk1, hml, hmix, nb, po, pr, hb⟩ := hrel
    have HM : Hid (mixL (l.length - 1 - k) m s = mixL (l.length - 1) l seed) := hmix
    have HL : Hid (m.length = l.length) := hml
    clear hmix hml
    by_cases hx : k < l.length - 1
    · obtain ⟨j, hj⟩ : ∃ j, l.length - 1 - k = j + 1 := ⟨l.length - 1 - k - 1, by omega⟩
      have hI : (l.length : Int) - 1 - (k : Int) = (j : Int) + 1 := by omega
      have hjm : j + 1 < m.length := by have := HL.out; omega
      have hjl : j + 1 < l.length := by omega
      have q0 := po.1
      have HC : Hid (chanceV s ((j : Int) + 1 + 1) = (nextS s, drawN s ((j : Int) + 1 + 1))) := chance_yes (by simp [hk0, hk1]) (by simp; omega)
      go_wp2_with fail
      refine (implChance_any s _ _).mono ?_
      rintro e x2 ⟨rfl, b2⟩
      rw [HC.out]
      unfold chanceOut
      have hd0 := drawN_bd s (most := (j : Int) + 1 + 1) (by omega)
      have hn0 := nextS_bd s
      have HS : Hid (mixL (j + 1) m s = mixL j (swapL m (j + 1) (drawN s ((j : Int) + 1 + 1)).toNat) (nextS s)) := by
        show _ = _
        rw [mixL, show (j : Int) + 2 = (j : Int) + 1 + 1 from by omega]
      obtain ⟨d, hd⟩ := Int.eq_ofNat_of_zero_le hd0.1
      have hdl : d < m.length := by omega
      have hdl' : d < l.length := by have := HL.out; omega
      rw [hd] at HS ⊢
      rw [Int.toNat_natCast] at HS
      obtain ⟨s2, hs2⟩ : ∃ s2, nextS s = s2 := ⟨_, rfl⟩
      rw [hs2] at HS hn0 ⊢
      clear hd0 hd hs2 HC
      rw [hj] at HM
      have ba := (Below.refl x2.heap.size x2).alloc (Nat.le_refl _) (.cells #[.int .i64 s2, .int .i64 (d : Int)] 232)
      have nbA := (nb.keep b2).keep ba
      have poA := (po.keep b2).keep ba
      have prA := (pr.keep b2).keep ba
      have pcA := pair_new x2 s2 (.int .i64 (d : Int)) 232
      have bA := (hb.trans (b2.mono hb.size)).trans (ba.mono (hb.trans (b2.mono hb.size)).size)
      have hx2 : x1.heap.size < x2.heap.size := Nat.lt_of_lt_of_le po.lt b2.size
      clear nb po pr hb b2 ba q0 b0 hrow1 hrow nb1a hr1a ho1 bw1a
      go_upto_region 9 with fail
      generalize hWW : x2.alloc (Obj.cells #[Value.int IntKind.i64 s2, Value.int IntKind.i64 (d : Int)] 232) = W at nbA poA prA pcA bA ⊢
      clear hWW
      obtain ⟨cb, hcb⟩ : ∃ cb, x2.heap.size = cb := ⟨_, rfl⟩
      obtain ⟨ob, hob⟩ : ∃ ob, x1.heap.size = ob := ⟨_, rfl⟩
      rw [hcb] at pcA hx2 ⊢
      rw [hob] at poA hxg hx2 ⊢
      obtain ⟨gb, hgb⟩ : ∃ gb, w.heap.size + 1 = gb := ⟨_, rfl⟩
      rw [hgb] at poA nbA hxg ⊢
      have hgw : w.heap.size < gb := by omega
      have n1 : ¬ gb = ob := by omega
      have n2 : ¬ gb = cb := by omega
      have n3 : ¬ ob = gb := by omega
      have n4 : ¬ cb = gb := by omega
      have e1 := poA.2.1
      have e2 := pcA.2.1
      have c1 := nbA.cellD hjm
      have c2 := nbA.cellD hdl
      have f1 := nbA.frz (j + 1)
      have f2 := nbA.frz d
      have HN : Hid (NumBlk ((W.setCell ⟨gb, j + 1, none⟩ (.int .i64 (m.getD d 0))).setCell ⟨gb, d, none⟩ (.int .i64 (m.getD (j + 1) 0))) gb (swapL m (j + 1) d)) := (nbA.set (j + 1) (m.getD d 0)).set d (m.getD (j + 1) 0)
      have c3 : ((W.setCell ⟨gb, j + 1, none⟩ (.int .i64 (m.getD d 0))).cell? ⟨gb, d, none⟩).isSome = true := by
        rw [(nbA.set (j + 1) (m.getD d 0)).cellD (by rw [List.length_set]; exact hdl)]; rfl
      obtain ⟨y3, hy3⟩ := Option.isSome_iff_exists.1 c3
      have HB : Hid (Below w.heap.size w ((W.setCell ⟨gb, j + 1, none⟩ (.int .i64 (m.getD d 0))).setCell ⟨gb, d, none⟩ (.int .i64 (m.getD (j + 1) 0)))) := (bA.setCell (p := ⟨gb, j + 1, none⟩) (by show w.heap.size ≤ gb; omega) _).setCell (p := ⟨gb, d, none⟩) (by show w.heap.size ≤ gb; omega) _
      have HP : Hid (∀ o s v, PairIs W o s v → gb ≠ o → PairIs ((W.setCell ⟨gb, j + 1, none⟩ (.int .i64 (m.getD d 0))).setCell ⟨gb, d, none⟩ (.int .i64 (m.getD (j + 1) 0))) o s v) := fun o s v h hne => (h.other hne _ _).other hne _ _
      have HP1 : Hid (PairIs ((W.setCell ⟨gb, j + 1, none⟩ (.int .i64 (m.getD d 0))).setCell ⟨gb, d, none⟩ (.int .i64 (m.getD (j + 1) 0))) ob s (.slice (some ⟨gb, 0, none⟩) l.length l.length)) := HP.out _ _ _ poA n1
      have HP2 : Hid (PairIs ((W.setCell ⟨gb, j + 1, none⟩ (.int .i64 (m.getD d 0))).setCell ⟨gb, d, none⟩ (.int .i64 (m.getD (j + 1) 0))) w.heap.size 0 (.slice none 0 0)) := HP.out _ _ _ prA (by omega)
      have HP3 : Hid (PairIs ((W.setCell ⟨gb, j + 1, none⟩ (.int .i64 (m.getD d 0))).setCell ⟨gb, d, none⟩ (.int .i64 (m.getD (j + 1) 0))) cb s2 (.int .i64 (d : Int))) := HP.out _ _ _ pcA n2
      clear HP c3 nbA poA prA pcA bA
      obtain ⟨y1, hy1⟩ : ∃ y, m.getD (j + 1) 0 = y := ⟨_, rfl⟩
      obtain ⟨y2, hy2⟩ : ∃ y, m.getD d 0 = y := ⟨_, rfl⟩
      rw [hy1] at c1 HN HB HP1 HP2 HP3
      rw [hy2] at c2 HN HB HP1 HP2 HP3 hy3
      clear hy1 hy2
      have i1 : (0 : Int) ≤ (j : Int) + 1 := by omega
      have i2 : (j : Int) + 1 < (l.length : Int) := by omega
      have i3 : ((j : Int) + 1).toNat = j + 1 := by omega
      have i4 : (d : Int) < (l.length : Int) := by omega
      have HS1 : Hid (((W.setCell ⟨gb, j + 1, none⟩ (.int .i64 y2)).drew).cell? ⟨ob, 1, none⟩ = some (.slice (some ⟨gb, 0, none⟩) l.length l.length) ∧ ((W.setCell ⟨gb, j + 1, none⟩ (.int .i64 y2)).drew).cell? ⟨cb, 1, none⟩ = some (.int .i64 (d : Int))) := by
        refine ⟨?_, ?_⟩
        · exact (World.cell?_setCell_far W _ _ _ n1).trans e1
        · exact (World.cell?_setCell_far W _ _ _ n2).trans e2
      have HS2 : Hid ((((W.setCell ⟨gb, j + 1, none⟩ (.int .i64 y2)).setCell ⟨gb, d, none⟩ (.int .i64 y1)).drew).cell? ⟨ob, 1, none⟩ = some (.slice (some ⟨gb, 0, none⟩) l.length l.length) ∧ (((W.setCell ⟨gb, j + 1, none⟩ (.int .i64 y2)).setCell ⟨gb, d, none⟩ (.int .i64 y1)).drew).cell? ⟨cb, 1, none⟩ = some (.int .i64 (d : Int))) := ⟨HP1.out.2.1, HP3.out.2.1⟩
      refine wp_region_held_drew (S := (fun w' => w'.cell? ⟨ob, 1, none⟩ = some (.slice (some ⟨gb, 0, none⟩) l.length l.length) ∧ w'.cell? ⟨cb, 1, none⟩ = some (.int .i64 (d : Int)))) (by kernel_rfl) (by go_keep) (fun hHeld => ?_)
      refine takeH 0 (v := .pointer (some ⟨ob, 1, none⟩)) rfl (by kernel_rfl) (by kernel_rfl) (by kernel_rfl) (fun _ _ _ h => h) ?hy (by assumption) ?_
      case hy => (intro w' hSw; (try dsimp only at hSw); go_simp)
      try simp only [List.setIfInBounds_toArray, List.set_cons_zero, List.set_cons_succ]
      refine takeH 1 (v := .slice (some ⟨gb, 0, none⟩) l.length l.length) rfl (by kernel_rfl) (by kernel_rfl) (by kernel_rfl) (fun _ _ _ h => h) ?hy (by assumption) ?_
      case hy => (intro w' hSw; (try dsimp only at hSw); go_simp)
      try simp only [List.setIfInBounds_toArray, List.set_cons_zero, List.set_cons_succ]
      refine takeH 2 (v := .int .i64 ((j : Int) + 1)) rfl (by kernel_rfl) (by kernel_rfl) (by kernel_rfl) (fun _ _ _ h => h) ?hy (by assumption) ?_
      case hy => (intro w' hSw; (try dsimp only at hSw); go_simp)
      try simp only [List.setIfInBounds_toArray, List.set_cons_zero, List.set_cons_succ]
      refine takeH 3 (v := .pointer (some ⟨ob, 1, none⟩)) rfl (by kernel_rfl) (by kernel_rfl) (by kernel_rfl) (fun _ _ _ h => h) ?hy (by assumption) ?_
      case hy => (intro w' hSw; (try dsimp only at hSw); go_simp)
      try simp only [List.setIfInBounds_toArray, List.set_cons_zero, List.set_cons_succ]
      refine takeH 4 (v := .slice (some ⟨gb, 0, none⟩) l.length l.length) rfl (by kernel_rfl) (by kernel_rfl) (by kernel_rfl) (fun _ _ _ h => h) ?hy (by assumption) ?_
      case hy => (intro w' hSw; (try dsimp only at hSw); go_simp)
      try simp only [List.setIfInBounds_toArray, List.set_cons_zero, List.set_cons_succ]
      refine takeH 5 (v := .pointer (some ⟨cb, 1, none⟩)) rfl (by kernel_rfl) (by kernel_rfl) (by kernel_rfl) (fun _ _ _ h => h) ?hy (by assumption) ?_
      case hy => (intro w' hSw; (try dsimp only at hSw); go_simp)
      try simp only [List.setIfInBounds_toArray, List.set_cons_zero, List.set_cons_succ]
      refine takeH 6 (v := .int .i64 (d : Int)) rfl (by kernel_rfl) (by kernel_rfl) (by kernel_rfl) (fun _ _ _ h => h) ?hy (by assumption) ?_
      case hy => (intro w' hSw; (try dsimp only at hSw); go_simp)
      try simp only [List.setIfInBounds_toArray, List.set_cons_zero, List.set_cons_succ]
      refine takeH 7 (v := .pointer (some ⟨ob, 1, none⟩)) rfl (by kernel_rfl) (by kernel_rfl) (by kernel_rfl) (fun _ _ _ h => h) ?hy (by assumption) ?_
      case hy => (intro w' hSw; (try dsimp only at hSw); go_simp)
      try simp only [List.setIfInBounds_toArray, List.set_cons_zero, List.set_cons_succ]
      refine takeH 8 (v := .slice (some ⟨gb, 0, none⟩) l.length l.length) rfl (by kernel_rfl) (by kernel_rfl) (by kernel_rfl) (fun _ _ _ h => h) ?hy (by assumption) ?_
      case hy => (intro w' hSw; (try dsimp only at hSw); go_simp)
      try simp only [List.setIfInBounds_toArray, List.set_cons_zero, List.set_cons_succ]
      refine takeH 9 (v := .pointer (some ⟨cb, 1, none⟩)) rfl (by kernel_rfl) (by kernel_rfl) (by kernel_rfl) (fun _ _ _ h => h) ?hy (by assumption) ?_
      case hy => (intro w' hSw; (try dsimp only at hSw); go_simp)
      try simp only [List.setIfInBounds_toArray, List.set_cons_zero, List.set_cons_succ]
      refine takeH 10 (v := .int .i64 (d : Int)) rfl (by kernel_rfl) (by kernel_rfl) (by kernel_rfl) (fun _ _ _ h => h) ?hy (by assumption) ?_
      case hy => (intro w' hSw; (try dsimp only at hSw); go_simp)
      try simp only [List.setIfInBounds_toArray, List.set_cons_zero, List.set_cons_succ]
      refine takeH 11 (v := .pointer (some ⟨gb, d, none⟩)) rfl (by kernel_rfl) (by kernel_rfl) (by kernel_rfl) (fun _ _ _ h => h) ?hy (by assumption) ?_
      case hy => (intro w' hSw; (try dsimp only at hSw); go_simp)
      try simp only [List.setIfInBounds_toArray, List.set_cons_zero, List.set_cons_succ]
      refine takeH 13 (v := .pointer (some ⟨ob, 1, none⟩)) rfl (by kernel_rfl) (by kernel_rfl) (by kernel_rfl) (fun _ _ _ h => h) ?hy (by assumption) ?_
      case hy => (intro w' hSw; (try dsimp only at hSw); go_simp)
      try simp only [List.setIfInBounds_toArray, List.set_cons_zero, List.set_cons_succ]
      refine takeH 14 (v := .slice (some ⟨gb, 0, none⟩) l.length l.length) rfl (by kernel_rfl) (by kernel_rfl) (by kernel_rfl) (fun _ _ _ h => h) ?hy (by assumption) ?_
      case hy => (intro w' hSw; (try dsimp only at hSw); go_simp)
      try simp only [List.setIfInBounds_toArray, List.set_cons_zero, List.set_cons_succ]
      refine takeH 15 (v := .int .i64 ((j : Int) + 1)) rfl (by kernel_rfl) (by kernel_rfl) (by kernel_rfl) (fun _ _ _ h => h) ?hy (by assumption) ?_
      case hy => (intro w' hSw; (try dsimp only at hSw); go_simp)
      try simp only [List.setIfInBounds_toArray, List.set_cons_zero, List.set_cons_succ]
      refine takeH 16 (v := .pointer (some ⟨gb, j + 1, none⟩)) rfl (by kernel_rfl) (by kernel_rfl) (by kernel_rfl) (fun _ _ _ h => h) ?hy (by assumption) ?_
      case hy => (intro w' hSw; (try dsimp only at hSw); go_simp)
      try simp only [List.setIfInBounds_toArray, List.set_cons_zero, List.set_cons_succ]
      refine twoH 12 17 (by kernel_rfl) ?_ ?_
      · refine doH rfl (v := .int .i64 y2) (w' := W.drew) (by go_simp) (by assumption) ?_
        try simp only [List.setIfInBounds_toArray, List.set_cons_zero, List.set_cons_succ]
        refine oneH 17 (by kernel_rfl) ?_
        refine doH rfl (v := .int .i64 y1) (w' := W.drew) (by go_simp) (by assumption) ?_
        try simp only [List.setIfInBounds_toArray, List.set_cons_zero, List.set_cons_succ]
        refine takeH 18 (v := .pointer (some ⟨gb, j + 1, none⟩)) rfl (by kernel_rfl) (by kernel_rfl) (by kernel_rfl) (fun _ _ _ h => h) ?hy (by assumption) ?_
        case hy => (intro w' hSw; (try dsimp only at hSw); go_simp)
        try simp only [List.setIfInBounds_toArray, List.set_cons_zero, List.set_cons_succ]
        refine oneH 19 (by kernel_rfl) ?_
        refine storeH rfl (nx := .skip) (w' := (W.setCell ⟨gb, j + 1, none⟩ (.int .i64 y2)).drew) (by go_simp) (.inl rfl) HS1.out ?_
        try simp only [List.setIfInBounds_toArray, List.set_cons_zero, List.set_cons_succ]
        clear hHeld
        have hHeld := HS1.out
        refine takeH 20 (v := .pointer (some ⟨gb, d, none⟩)) rfl (by kernel_rfl) (by kernel_rfl) (by kernel_rfl) (fun _ _ _ h => h) ?hy (by assumption) ?_
        case hy => (intro w' hSw; (try dsimp only at hSw); go_simp)
        try simp only [List.setIfInBounds_toArray, List.set_cons_zero, List.set_cons_succ]
        refine oneH 21 (by kernel_rfl) ?_
        refine storeH rfl (nx := .skip) (w' := ((W.setCell ⟨gb, j + 1, none⟩ (.int .i64 y2)).setCell ⟨gb, d, none⟩ (.int .i64 y1)).drew) (by go_simp) (.inl rfl) HS2.out ?_
        try simp only [List.setIfInBounds_toArray, List.set_cons_zero, List.set_cons_succ]
        clear hHeld
        refine wpAnyH_done (by kernel_rfl) ?_ _
        have p1 := HP1.out
        have r0 := HP3.out.1
        have r1 := p1.1
        have r2 := p1.2.2.1
        have HN' : Hid (NumBlk (((W.setCell ⟨gb, j + 1, none⟩ (.int .i64 y2)).setCell ⟨gb, d, none⟩ (.int .i64 y1)).drew.setCell ⟨ob, 0, none⟩ (.int .i64 s2)) gb (swapL m (j + 1) d)) := NumBlk.other (show NumBlk ((W.setCell ⟨gb, j + 1, none⟩ (.int .i64 y2)).setCell ⟨gb, d, none⟩ (.int .i64 y1)).drew gb _ from HN.out) n1 _ _
        have HP1' : Hid (PairIs (((W.setCell ⟨gb, j + 1, none⟩ (.int .i64 y2)).setCell ⟨gb, d, none⟩ (.int .i64 y1)).drew.setCell ⟨ob, 0, none⟩ (.int .i64 s2)) ob s2 (.slice (some ⟨gb, 0, none⟩) l.length l.length)) := PairIs.seed (show PairIs ((W.setCell ⟨gb, j + 1, none⟩ (.int .i64 y2)).setCell ⟨gb, d, none⟩ (.int .i64 y1)).drew ob s _ from HP1.out)
        have HP2' : Hid (PairIs (((W.setCell ⟨gb, j + 1, none⟩ (.int .i64 y2)).setCell ⟨gb, d, none⟩ (.int .i64 y1)).drew.setCell ⟨ob, 0, none⟩ (.int .i64 s2)) w.heap.size 0 (.slice none 0 0)) := PairIs.other (show PairIs ((W.setCell ⟨gb, j + 1, none⟩ (.int .i64 y2)).setCell ⟨gb, d, none⟩ (.int .i64 y1)).drew w.heap.size 0 _ from HP2.out) (by omega) _ _
        have HB' : Hid (Below w.heap.size w (((W.setCell ⟨gb, j + 1, none⟩ (.int .i64 y2)).setCell ⟨gb, d, none⟩ (.int .i64 y1)).drew.setCell ⟨ob, 0, none⟩ (.int .i64 s2))) := HB.out.drew.setCell (p := ⟨ob, 0, none⟩) (by show w.heap.size ≤ ob; omega) _
        clear p1 HN HP1 HP2 HP3 HB HS1 HS2
        go_wp2
        subst hob
        subst hgb
        subst hcb
        go_roundw
        case rel => exact ⟨k + 1, swapL m (j + 1) d, s2, by go_num, by omega, hn0.1, hn0.2, by rw [swapL_length]; exact HL.out, by rw [show l.length - 1 - (k + 1) = j by omega]; exact HS.out.symm.trans HM.out, HN'.out, HP1'.out, HP2'.out, HB'.out⟩
        case measure => simp [intOf]; omega
      · refine doH rfl (v := .int .i64 y1) (w' := W.drew) (by go_simp) (by assumption) ?_
        try simp only [List.setIfInBounds_toArray, List.set_cons_zero, List.set_cons_succ]
        refine oneH 12 (by kernel_rfl) ?_
        refine doH rfl (v := .int .i64 y2) (w' := W.drew) (by go_simp) (by assumption) ?_
        try simp only [List.setIfInBounds_toArray, List.set_cons_zero, List.set_cons_succ]
        refine takeH 18 (v := .pointer (some ⟨gb, j + 1, none⟩)) rfl (by kernel_rfl) (by kernel_rfl) (by kernel_rfl) (fun _ _ _ h => h) ?hy (by assumption) ?_
        case hy => (intro w' hSw; (try dsimp only at hSw); go_simp)
        try simp only [List.setIfInBounds_toArray, List.set_cons_zero, List.set_cons_succ]
        refine oneH 19 (by kernel_rfl) ?_
        refine storeH rfl (nx := .skip) (w' := (W.setCell ⟨gb, j + 1, none⟩ (.int .i64 y2)).drew) (by go_simp) (.inl rfl) HS1.out ?_
        try simp only [List.setIfInBounds_toArray, List.set_cons_zero, List.set_cons_succ]
        clear hHeld
        have hHeld := HS1.out
        refine takeH 20 (v := .pointer (some ⟨gb, d, none⟩)) rfl (by kernel_rfl) (by kernel_rfl) (by kernel_rfl) (fun _ _ _ h => h) ?hy (by assumption) ?_
        case hy => (intro w' hSw; (try dsimp only at hSw); go_simp)
        try simp only [List.setIfInBounds_toArray, List.set_cons_zero, List.set_cons_succ]
        refine oneH 21 (by kernel_rfl) ?_
        refine storeH rfl (nx := .skip) (w' := ((W.setCell ⟨gb, j + 1, none⟩ (.int .i64 y2)).setCell ⟨gb, d, none⟩ (.int .i64 y1)).drew) (by go_simp) (.inl rfl) HS2.out ?_
        try simp only [List.setIfInBounds_toArray, List.set_cons_zero, List.set_cons_succ]
        clear hHeld
        refine wpAnyH_done (by kernel_rfl) ?_ _
        have p1 := HP1.out
        have r0 := HP3.out.1
        have r1 := p1.1
        have r2 := p1.2.2.1
        have HN' : Hid (NumBlk (((W.setCell ⟨gb, j + 1, none⟩ (.int .i64 y2)).setCell ⟨gb, d, none⟩ (.int .i64 y1)).drew.setCell ⟨ob, 0, none⟩ (.int .i64 s2)) gb (swapL m (j + 1) d)) := NumBlk.other (show NumBlk ((W.setCell ⟨gb, j + 1, none⟩ (.int .i64 y2)).setCell ⟨gb, d, none⟩ (.int .i64 y1)).drew gb _ from HN.out) n1 _ _
        have HP1' : Hid (PairIs (((W.setCell ⟨gb, j + 1, none⟩ (.int .i64 y2)).setCell ⟨gb, d, none⟩ (.int .i64 y1)).drew.setCell ⟨ob, 0, none⟩ (.int .i64 s2)) ob s2 (.slice (some ⟨gb, 0, none⟩) l.length l.length)) := PairIs.seed (show PairIs ((W.setCell ⟨gb, j + 1, none⟩ (.int .i64 y2)).setCell ⟨gb, d, none⟩ (.int .i64 y1)).drew ob s _ from HP1.out)
        have HP2' : Hid (PairIs (((W.setCell ⟨gb, j + 1, none⟩ (.int .i64 y2)).setCell ⟨gb, d, none⟩ (.int .i64 y1)).drew.setCell ⟨ob, 0, none⟩ (.int .i64 s2)) w.heap.size 0 (.slice none 0 0)) := PairIs.other (show PairIs ((W.setCell ⟨gb, j + 1, none⟩ (.int .i64 y2)).setCell ⟨gb, d, none⟩ (.int .i64 y1)).drew w.heap.size 0 _ from HP2.out) (by omega) _ _
        have HB' : Hid (Below w.heap.size w (((W.setCell ⟨gb, j + 1, none⟩ (.int .i64 y2)).setCell ⟨gb, d, none⟩ (.int .i64 y1)).drew.setCell ⟨ob, 0, none⟩ (.int .i64 s2))) := HB.out.drew.setCell (p := ⟨ob, 0, none⟩) (by show w.heap.size ≤ ob; omega) _
        clear p1 HN HP1 HP2 HP3 HB HS1 HS2
        go_wp2
        subst hob
        subst hgb
        subst hcb
        go_roundw
        case rel => exact ⟨k + 1, swapL m (j + 1) d, s2, by go_num, by omega, hn0.1, hn0.2, by rw [swapL_length]; exact HL.out, by rw [show l.length - 1 - (k + 1) = j by omega]; exact HS.out.symm.trans HM.out, HN'.out, HP1'.out, HP2'.out, HB'.out⟩
        case measure => simp [intOf]; omega
    · obtain rfl : k = l.length - 1 := by omega
      have HF : Hid (mixL (l.length - 1) l seed = (m, s)) := by
        have := HM.out
        rw [Nat.sub_self] at this
        exact this.symm
      have hnl : ¬ (((l.length - 1 : Nat) : Int) < (l.length : Int) - 1) := by omega
      obtain ⟨o0, o1, _, _⟩ := po
      obtain ⟨q0, q1, f0, f1⟩ := pr
      have HB : Hid (∀ (u v : Value), Below w.heap.size w ((wr.setCell ⟨w.heap.size, 0, none⟩ u).setCell ⟨w.heap.size, 1, none⟩ v)) := fun u v => two_below hb
      have hnb : ∀ (u v : Value), NumBlk ((wr.setCell ⟨w.heap.size, 0, none⟩ u).setCell ⟨w.heap.size, 1, none⟩ v) (w.heap.size + 1) m := fun u v => (nb.other (by omega) _ _).other (by omega) _ _
      have HO : Hid (∀ (u v : Value), ((wr.setCell ⟨w.heap.size, 0, none⟩ u).setCell ⟨w.heap.size, 1, none⟩ v).ownsRow w.heap.size 2 1 (.slice (some ⟨w.heap.size + 1, 0, none⟩) l.length l.length) l.length (numsV m)) := fun u v => by
        have := (hnb u v).owns (base := w.heap.size) (by omega) (by have := HL.out; omega)
        rw [HL.out] at this
        exact this
      clear hnb nb hb HM HL
      go_wp2
      exact bodyPost_ret (v := .agg #[.int .i64 s, .slice (some ⟨w.heap.size + 1, 0, none⟩) l.length l.length]) (by simp [results, Tryz.results211, go_sem, q0, q1]) rfl ⟨_, by rw [HF.out]; rfl, by rw [HF.out]; exact HO.out _ _, HB.out _ _⟩

set_option maxHeartbeats 1000000 in
set_option maxRecDepth 100000 in
theorem implShuffle_nil (a : Option Addr) (cap : Nat) (seed : Int) (w : World) (hs0 : 0 ≤ seed) (hs1 : seed ≤ 2147483647) :
    Calls Tryz.prog 211 #[.slice a 0 cap, .int .i64 seed] w fun e w' => e = .returned (shufOut seed (.slice none 0 0)) ∧ Below w.heap.size w w' := by
  have HD : Hid ((decide (0 ≤ seed) && decide (seed ≤ 2147483647)) = true) := by show _ = _; simp [hs0, hs1]
  go_enter Tryz.func211, Tryz.ntmps211
  go_wp2_with fail
  refine (seedRight_any seed _).mono ?_
  rintro e x1 ⟨rfl, rfl⟩
  rw [HD.out]
  go_wp2_with fail
  refine (copied_nil a cap _).mono ?_
  rintro e x2 ⟨rfl, rfl⟩
  go_wp2
  go_loopw [25] (fun i wr => i = .int .i64 0 ∧ PairIs wr (w.heap.size + 1) seed (.slice none 0 0) ∧ PairIs wr w.heap.size 0 (.slice none 0 0) ∧ Below w.heap.size w wr) (fun i _ => 0)
  case atStart =>
    have b0 : Below w.heap.size w (w.alloc (.cells #[.int .i64 0, .slice none 0 0] 199)) := (Below.refl _ _).alloc (Nat.le_refl _) _
    have p0 := pair_new w 0 (.slice none 0 0) 199
    have p1 := pair_new (w.alloc (.cells #[.int .i64 0, .slice none 0 0] 199)) seed (.slice none 0 0) 199
    have hz : (w.alloc (.cells #[.int .i64 0, .slice none 0 0] 199)).heap.size = w.heap.size + 1 := by simp
    rw [hz] at p1
    exact ⟨rfl, p1, p0.keep ((Below.refl _ _).alloc (Nat.le_refl _) _), b0.alloc b0.size _⟩
  case round =>
    obtain ⟨rfl, po, pr, hb⟩ := hrel
    obtain ⟨o0, o1, _, _⟩ := po
    obtain ⟨q0, q1, f0, f1⟩ := pr
    have HB : Hid (∀ (u v : Value), Below w.heap.size w ((wr.setCell ⟨w.heap.size, 0, none⟩ u).setCell ⟨w.heap.size, 1, none⟩ v)) := fun u v => two_below hb
    clear hb
    go_wp2
    exact bodyPost_ret (v := .agg #[.int .i64 seed, .slice none 0 0]) (by simp [results, Tryz.results211, go_sem, q0, q1]) rfl ⟨rfl, HB.out _ _⟩
set_option maxHeartbeats 1000000 in
set_option maxRecDepth 100000 in
theorem implShuffle_any (a : Option Addr) (cap : Nat) (l : List Int) (seed : Int) (w : World) (hl : l.length ≤ 1048576) (hrow : NumRow w a l) :
    Calls Tryz.prog 211 #[.slice a l.length cap, .int .i64 seed] w fun e w' => ∃ v, e = .returned (shufOut (shufL l seed).2 v) ∧ w'.ownsRow w.heap.size 2 1 v (shufL l seed).1.length (numsV (shufL l seed).1) ∧ Below w.heap.size w w' := by
  have b0 : Below w.heap.size w (w.alloc (.cells #[.int .i64 0, .slice none 0 0] 199)) := (Below.refl _ _).alloc (Nat.le_refl _) _
  by_cases h1 : 400 < (l.length : Int)
  · have HE : Hid (shufL l seed = ([], 0)) := if_pos (.inl h1)
    go_enter Tryz.func211, Tryz.ntmps211
    go_wp2
    exact bodyPost_ret (v := .agg #[.int .i64 0, .slice none 0 0]) (by simp [results, Tryz.results211, go_sem]) rfl ⟨_, by rw [HE.out]; rfl, by rw [HE.out]; exact World.ownsRow_nil _ _ _ _, b0⟩
  cases h2 : (decide (0 ≤ seed) && decide (seed ≤ 2147483647)) with
  | false =>
    have HE : Hid (shufL l seed = ([], 0)) := if_pos (.inr h2)
    have HD : Hid ((decide (0 ≤ seed) && decide (seed ≤ 2147483647)) = false) := h2
    clear h2
    go_enter Tryz.func211, Tryz.ntmps211
    go_wp2_with fail
    refine (seedRight_any seed _).mono ?_
    rintro e x1 ⟨rfl, rfl⟩
    rw [HD.out]
    go_wp2
    exact bodyPost_ret (v := .agg #[.int .i64 0, .slice none 0 0]) (by simp [results, Tryz.results211, go_sem]) rfl ⟨_, by rw [HE.out]; rfl, by rw [HE.out]; exact World.ownsRow_nil _ _ _ _, b0⟩
  | true =>
    have hE : shufL l seed = mixL (l.length - 1) l seed := if_neg (by rw [h2]; simp; omega)
    simp at h2
    obtain ⟨s0, s1⟩ := h2
    rw [hE, mixL_length]
    by_cases h0 : l.length = 0
    · obtain rfl : l = [] := List.eq_nil_of_length_eq_zero h0
      refine (implShuffle_nil a cap seed w s0 s1).mono ?_
      rintro e w' ⟨rfl, hb⟩
      exact ⟨_, rfl, World.ownsRow_nil _ _ _ _, hb⟩
    · exact implShuffle_some a cap l seed w (by omega) (by omega) hrow s0 s1
end Go.Proofs.YtmdcankfjmkkeaaGreat
