/- The contract of the program's hasNews. -/
import Derived.Test.YtdgcmjhnglacnaaFMap
import Derived.Test.YtdgcmjhnglacnaaReg
namespace Go.Proofs.Ytdgcmjhnglacnaa
open Go Go.RowKit Go.Maps
set_option linter.unusedVariables false

theorem FBlk.grown {w w' : World} {b : Nat} {x : FactV} {row : Option Nat} (h : FBlk w b x) (hg : w.grownBy w' row) (hne : some b ≠ row) : FBlk w' b x :=
  ⟨Nat.lt_of_lt_of_le h.lt hg.size, hg.cell h.c0 hne, hg.cell h.c1 hne, hg.cell h.c2 hne⟩
theorem Counts.drew {w : World} {b n : Nat} {S : List FactV} (h : Counts w b n S) : Counts w.drew b n S := h
set_option maxHeartbeats 2000000 in
set_option maxRecDepth 100000 in
theorem hasNews_any (a1 a2 : Option Addr) (c1 c2 : Nat) (l m : List FactV) (w : World) (hl : l.length ≤ 1000) (hm : m.length ≤ 1000) (ho1 : ∀ f ∈ l, f.ok) (ho2 : ∀ f ∈ m, f.ok) (h1 : CellRow w a1 (cellsOf FactV.cells l)) (h2 : CellRow w a2 (cellsOf FactV.cells m)) :
    Calls Try.prog 53 #[.slice a1 l.length c1, .slice a2 m.length c2] w fun e w' => Tells (newsV l m) e ∧ Below w.heap.size w w' := by
  have hmm := @run_makeMap Try.prog
  have H1 : Hid (∀ f ∈ l, f.ok) := ho1
  have H2 : Hid (∀ f ∈ m, f.ok) := ho2
  clear ho1 ho2
  go_enter Try.func53, Try.ntmps53
  go_wp2
  clear hmm
  go_loopw [13] (fun i wr => ∃ k : Nat, k ≤ l.length ∧ i = .int .i64 k ∧ Counts wr w.heap.size k (l.take k) ∧ Below w.heap.size w wr) (fun i _ => l.length - (intOf i).toNat)
  case atStart => exact ⟨0, Nat.zero_le _, rfl, counts_made w, (Below.refl _ _).alloc (Nat.le_refl _) _⟩
  case round =>
    obtain ⟨k, hk, rfl, hc, hb⟩ := hrel
    by_cases hx : k < l.length
    · obtain ⟨b, off, rfl⟩ := h1.addr (by rw [cellsOf_length FactV.cells_len]; omega)
      obtain ⟨x, hlx⟩ : ∃ x, l[k] = x := ⟨_, rfl⟩
      have hok : x.ok := H1.out x (hlx ▸ List.getElem_mem hx)
      have HT : Hid (l.take (k + 1) = l.take k ++ [x]) := by
        show _ = _
        rw [List.take_succ_eq_append_getElem hx, hlx]
      obtain ⟨x1, x2, x3⟩ := x
      obtain ⟨_, q0, q1, q2⟩ := (h1.keep hb).fact hx hlx
      dsimp only at q0 q1 q2
      have hk' : (k : Int) < (l.length : Int) := by omega
      have hcA := hc.alloc (.cells #[.int .i64 x1, .int .i64 x2, .int .i64 x3] 24)
      have hbA := hb.alloc hb.size (.cells #[.int .i64 x1, .int .i64 x2, .int .i64 x3] 24)
      have pA := FBlk.new wr ⟨x1, x2, x3⟩
      obtain ⟨W, hW⟩ : ∃ W, wr.alloc (.cells #[.int .i64 x1, .int .i64 x2, .int .i64 x3] 24) = W := ⟨_, rfl⟩
      dsimp only at pA
      rw [hW] at hcA hbA pA
      have HW : Hid (_ = W) := hW
      have hwr := hc.lt
      clear hlx hW hc hb
      go_upto_region 5 with fail
      rw [HW.out]
      clear HW q0 q1 q2
      obtain ⟨Y, hY⟩ : ∃ Y, W.drew = Y := ⟨_, rfl⟩
      have hcY : Counts Y w.heap.size k (l.take k) := by rw [← hY]; exact hcA
      have hbY : Below w.heap.size w Y := by rw [← hY]; exact hbA.drew
      have pY : FBlk Y wr.heap.size ⟨x1, x2, x3⟩ := by rw [← hY]; exact ⟨pA.1, pA.2, pA.3, pA.4⟩
      obtain ⟨c, hlk, c0, c1', _⟩ := hcY.look hok
      obtain ⟨v0, st, Y1, hen, hg1, hst⟩ := hcY.entry hok (by omega)
      obtain ⟨hlk1, Y2, hes, hc2, hg2⟩ := hst c hlk
      have hne : some w.heap.size ≠ some wr.heap.size := by
        have := hcA.lt
        have h3 := hwr
        intro e
        have := Option.some.inj e
        omega
      have pY1 : FBlk Y1 wr.heap.size ⟨x1, x2, x3⟩ := pY.grown hg1 (fun e => hne e.symm)
      have pY2 : FBlk Y2 wr.heap.size ⟨x1, x2, x3⟩ := pY.grown hg2 (fun e => hne e.symm)
      have hb2 : Below w.heap.size w Y2 := hbY.grown hg2 hbY.size (fun j hj => by cases hj; exact Nat.le_refl _)
      have HC2 : Hid (Counts Y2 w.heap.size (k + 1) (l.take (k + 1))) := by show Counts _ _ _ _; rw [HT.out]; exact hc2
      unfold FactV.val at hlk hen hlk1
      dsimp only at hlk hen hlk1
      have hwc : IntKind.i64.wrap (c + 1) = c + 1 := by rw [IntKind.wrap_i64]; omega
      clear hst hc2 hcA hbA hcY hbY hg1 hg2 HT hok
      refine wp_region_held_drew (S := fun w' => FBlk w' wr.heap.size ⟨x1, x2, x3⟩) (by kernel_rfl) ?hS0 (fun hHeld => ?_)
      case hS0 => rw [hY]; exact pY
      rw [hY] at hHeld ⊢
      clear hY pA
      refine takeG 0 (v := .map (some w.heap.size)) rfl (by kernel_rfl) (by kernel_rfl) (by kernel_rfl) (by kernel_rfl) (fun _ _ _ h => h) ?hy (by assumption) ?_
      case hy => (intro w' hSw; go_simp)
      try simp only [List.setIfInBounds_toArray, List.set_cons_zero, List.set_cons_succ]
      refine takeG 1 (v := .agg #[.int .i64 x1, .int .i64 x2, .int .i64 x3]) rfl (by kernel_rfl) (by kernel_rfl) (by kernel_rfl) (by kernel_rfl) (fun _ _ _ h => h) ?hy (by assumption) ?_
      case hy => (intro w' hSw; obtain ⟨_, s0, s1, s2⟩ := hSw; dsimp only at s0 s1 s2; go_simp)
      try simp only [List.setIfInBounds_toArray, List.set_cons_zero, List.set_cons_succ]
      refine twoH 2 4 (by kernel_rfl) ?_ ?_
      · refine doH rfl (v := .int .i64 c) (w' := Y) (by go_simp) pY ?_
        try simp only [List.setIfInBounds_toArray, List.set_cons_zero, List.set_cons_succ]
        refine takeG 3 (v := .int .i64 (c + 1)) rfl (by kernel_rfl) (by kernel_rfl) (by kernel_rfl) (by kernel_rfl) (fun _ _ _ h => h) ?hy (by assumption) ?_
        case hy => (intro w' hSw; go_simp)
        try simp only [List.setIfInBounds_toArray, List.set_cons_zero, List.set_cons_succ]
        refine oneH 4 (by kernel_rfl) ?_
        refine doH rfl (v := .tuple #[v0, .int .i64 (st : Int)]) (w' := Y1) (by go_simp) pY1 ?_
        try simp only [List.setIfInBounds_toArray, List.set_cons_zero, List.set_cons_succ]
        refine takeG 5 (v := .int .i64 (st : Int)) rfl (by kernel_rfl) (by kernel_rfl) (by kernel_rfl) (by kernel_rfl) (fun _ _ _ h => h) ?hy (by assumption) ?_
        case hy => (intro w' hSw; go_simp)
        try simp only [List.setIfInBounds_toArray, List.set_cons_zero, List.set_cons_succ]
        refine oneH 6 (by kernel_rfl) ?_
        refine storeH rfl (nx := .skip) (w' := Y2) (by go_simp) (.inl rfl) pY2 ?_
        refine wpAnyH_done (by kernel_rfl) ?_ _
        clear hlk hen hlk1 hes pY pY1 pY2 hHeld
        go_wp2
        go_roundw
        case rel => exact ⟨k + 1, by omega, by go_num, HC2.out, hb2⟩
        case measure => simp [intOf]; omega
      · refine doH rfl (v := .tuple #[v0, .int .i64 (st : Int)]) (w' := Y1) (by go_simp) pY1 ?_
        try simp only [List.setIfInBounds_toArray, List.set_cons_zero, List.set_cons_succ]
        refine takeG 5 (v := .int .i64 (st : Int)) rfl (by kernel_rfl) (by kernel_rfl) (by kernel_rfl) (by kernel_rfl) (fun _ _ _ h => h) ?hy (by assumption) ?_
        case hy => (intro w' hSw; go_simp)
        try simp only [List.setIfInBounds_toArray, List.set_cons_zero, List.set_cons_succ]
        refine oneH 2 (by kernel_rfl) ?_
        refine doH rfl (v := .int .i64 c) (w' := Y1) (by go_simp) pY1 ?_
        try simp only [List.setIfInBounds_toArray, List.set_cons_zero, List.set_cons_succ]
        refine takeG 3 (v := .int .i64 (c + 1)) rfl (by kernel_rfl) (by kernel_rfl) (by kernel_rfl) (by kernel_rfl) (fun _ _ _ h => h) ?hy (by assumption) ?_
        case hy => (intro w' hSw; go_simp)
        try simp only [List.setIfInBounds_toArray, List.set_cons_zero, List.set_cons_succ]
        refine oneH 6 (by kernel_rfl) ?_
        refine storeH rfl (nx := .skip) (w' := Y2) (by go_simp) (.inl rfl) pY2 ?_
        refine wpAnyH_done (by kernel_rfl) ?_ _
        clear hlk hen hlk1 hes pY pY1 pY2 hHeld
        go_wp2
        go_roundw
        case rel => exact ⟨k + 1, by omega, by go_num, HC2.out, hb2⟩
        case measure => simp [intOf]; omega
    · obtain rfl : k = l.length := by omega
      rw [List.take_length] at hc
      go_wp2
      go_loopw [26] (fun i wr2 => ∃ j : Nat, j ≤ m.length ∧ i = .int .i64 j ∧ (∀ q (h : q < m.length), q < j → m[q] ∈ l) ∧ Counts wr2 w.heap.size l.length l ∧ Below w.heap.size w wr2) (fun i _ => m.length - (intOf i).toNat)
      case atStart => exact ⟨0, Nat.zero_le _, rfl, fun q _ h => absurd h (by omega), hc, hb⟩
      case round =>
        clear hc hb
        obtain ⟨j, hj, rfl, hall, hc, hb⟩ := hrel
        have HA : Hid (∀ q (h : q < m.length), q < j → m[q] ∈ l) := hall
        clear hall
        by_cases hx2 : j < m.length
        · obtain ⟨b, off, rfl⟩ := h2.addr (by rw [cellsOf_length FactV.cells_len]; omega)
          obtain ⟨x, hlx⟩ : ∃ x, m[j] = x := ⟨_, rfl⟩
          have hok : x.ok := H2.out x (hlx ▸ List.getElem_mem hx2)
          have HX : Hid (m[j] = x) := hlx
          obtain ⟨x1, x2, x3⟩ := x
          obtain ⟨_, q0, q1, q2⟩ := (h2.keep hb).fact hx2 hlx
          dsimp only at q0 q1 q2
          have hj' : (j : Int) < (m.length : Int) := by omega
          have hcA := hc.alloc (.cells #[.int .i64 x1, .int .i64 x2, .int .i64 x3] 24)
          have hbA := hb.alloc hb.size (.cells #[.int .i64 x1, .int .i64 x2, .int .i64 x3] 24)
          obtain ⟨c, hlk, c0, c1', c2'⟩ := hcA.look hok
          unfold FactV.val at hlk
          dsimp only at hlk
          by_cases hcz : c = 0
          · subst hcz
            have HN : Hid (newsV l m) := ⟨m[j], List.getElem_mem hx2, fun h => by rw [HX.out] at h; have := c2'.2 h; omega⟩
            clear c2' hlx hcA hok
            go_wp2
            go_ret
            exact ⟨.yes HN.out, hbA⟩
          · have hcz' : (c == 0) = false := beq_eq_false_iff_ne.2 hcz
            have HA2 : Hid (∀ q (h : q < m.length), q < j + 1 → m[q] ∈ l) := fun q hq hqj => by
              by_cases e : q = j
              · subst e; rw [HX.out]; exact c2'.1 (by omega)
              · exact HA.out q hq (by omega)
            clear c2' hlx hok hcz HA HX
            go_wp2
            go_roundw
            case rel => exact ⟨j + 1, by omega, by go_num, HA2.out, hcA, hbA⟩
            case measure => simp [intOf]; omega
        · obtain rfl : j = m.length := by omega
          have HN : Hid (¬ newsV l m) := fun ⟨f, hf, hn⟩ => by
            obtain ⟨q, hq, rfl⟩ := List.getElem_of_mem hf
            exact hn (HA.out q hq hq)
          clear HA
          go_wp2
          go_ret
          exact ⟨.no HN.out, hb⟩
theorem hasNews_is (a1 a2 : Option Addr) (c1 c2 : Nat) (l m : List FactV) (w : World) (r : Bool) (hr : r = true ↔ newsV l m) (hl : l.length ≤ 1000) (hm : m.length ≤ 1000) (ho1 : ∀ f ∈ l, f.ok) (ho2 : ∀ f ∈ m, f.ok) (h1 : CellRow w a1 (cellsOf FactV.cells l)) (h2 : CellRow w a2 (cellsOf FactV.cells m)) :
    Calls Try.prog 53 #[.slice a1 l.length c1, .slice a2 m.length c2] w fun e w' => e = .returned (.bool r) ∧ Below w.heap.size w w' :=
  (hasNews_any a1 a2 c1 c2 l m w hl hm ho1 ho2 h1 h2).mono fun e w' ⟨h, hb⟩ => ⟨h.is hr, hb⟩
end Go.Proofs.Ytdgcmjhnglacnaa
