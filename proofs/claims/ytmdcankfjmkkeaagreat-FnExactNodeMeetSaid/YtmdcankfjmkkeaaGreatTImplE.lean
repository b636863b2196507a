/- The contract of the program's Some. -/
import Derived.Test.YtmdcankfjmkkeaaGreatTImplD
import Derived.Test.YtmdcankfjmkkeaaGreatG21
import Derived.Test.YtmdcankfjmkkeaaGreatG10
namespace Go.Proofs.YtmdcankfjmkkeaaGreat
open Go Go.RowKit
set_option linter.unusedVariables false
set_option linter.unusedSimpArgs false

/-- What an answer of Some says, and what it owns. -/
def SomePostI (l : List Int) (s : Int) (w : World) (e : Ending) (w' : World) : Prop :=
  ∃ a cap, e = .returned (shufOut s (.slice a l.length cap)) ∧ OwnNums w' w.heap.size a l ∧ (∀ b off, a = some ⟨b, off, none⟩ → w.heap.size ≤ b ∧ b < w'.heap.size) ∧ Below w.heap.size w w'
theorem somePost_own {l : List Int} {s : Int} {w : World} {e : Ending} {w' : World} (h : SomePost l s w e w') : SomePostI l s w e w' := by
  obtain ⟨v, rfl, own, b⟩ := h
  obtain ⟨a, cap, rfl, o⟩ := own_nums own
  exact ⟨a, cap, rfl, o, fun b off e => own.lt b (by rw [e]; rfl), b⟩
theorem OwnNums.keepK {w w' : World} {lo : Nat} {a : Option Addr} {l : List Int} (h : OwnNums w lo a l) {G : Nat → Prop} (k : Keeps G w w') (hg : ∀ b, lo ≤ b → b < w.heap.size → G b) : OwnNums w' lo a l := by
  rcases h with h | ⟨b, off, rfl, hlo, hlt, hc, hf⟩
  · exact .inl h
  · exact .inr ⟨b, off, rfl, hlo, Nat.lt_of_lt_of_le hlt k.size, fun i hi => (k.cell (p := ⟨b, off + i, none⟩) hlt (hg b hlo hlt)).trans (hc i hi), fun i hi => (k.frozen (p := ⟨b, off + i, none⟩) hlt (hg b hlo hlt)).trans (hf i hi)⟩
theorem OwnNums.takeN {w : World} {lo : Nat} {a : Option Addr} {l : List Int} (h : OwnNums w lo a l) (k : Nat) (hk : k ≤ l.length) : OwnNums w lo (rowA a 0 k) (l.take k) := by
  by_cases e : k = 0
  · subst e
    exact .inl (by simp)
  · rcases h with h | ⟨b, off, rfl, hlo, hlt, hc, hf⟩
    · rw [h] at hk
      simp at hk
      exact absurd hk e
    · refine .inr ⟨b, off, by unfold rowA; rw [if_neg e]; simp [Addr.add], hlo, hlt, fun i hi => ?_, fun i hi => ?_⟩
      · rw [List.length_take] at hi
        rw [hc i (by omega)]; simp
      · rw [List.length_take] at hi
        exact hf i (by omega)
theorem OwnNums.le {w : World} {lo lo' : Nat} {a : Option Addr} {l : List Int} (h : OwnNums w lo a l) (hb : lo' ≤ lo) : OwnNums w lo' a l := by
  rcases h with h | ⟨b, off, e, hlo, r⟩
  · exact .inl h
  · exact .inr ⟨b, off, e, Nat.le_trans hb hlo, r⟩

set_option maxHeartbeats 4000000 in
set_option maxRecDepth 100000 in
theorem implSome_any (a : Option Addr) (cap : Nat) (nodes : List Int) (many seed : Int) (l : List Int) (s : Int) (w : World) (h : SomeIs nodes many seed l s) (hl : nodes.length ≤ 1048576) (hrow : NumRow w a nodes) :
    Calls Tryz.prog 186 #[.slice a nodes.length cap, .int .i64 many, .int .i64 seed] w (SomePostI l s w) := by
  obtain ⟨x2, hx2⟩ := tells_bool (setT nodes)
  have HX2 : Hid (x2 = true ↔ setT nodes) := hx2
  have HBAD : Hid (¬ (askT nodes seed ∧ 0 ≤ many ∧ many ≤ 6) → l = [] ∧ s = 0) := fun hb => by
    rcases h with ⟨h, _⟩ | ⟨_, e⟩
    · exact absurd h hb
    · exact e
  have HOK : Hid (askT nodes seed ∧ 0 ≤ many ∧ many ≤ 6 → l = someL nodes many seed ∧ s = someS nodes seed) := fun hb => by
    rcases h with ⟨_, e⟩ | ⟨h, _⟩
    · exact e
    · exact absurd hb h
  clear h hx2
  have q0 := BlkIs.new w 199 #[.int .i64 0, .slice none 0 0]
  have B0 : Below w.heap.size w (w.alloc (.cells #[.int .i64 0, .slice none 0 0] 199)) := (Below.refl _ _).alloc (Nat.le_refl _) _
  have s0 := hrow.keep B0
  obtain ⟨W, hW⟩ : ∃ W, w.alloc (.cells #[.int .i64 0, .slice none 0 0] 199) = W := ⟨_, rfl⟩
  rw [hW] at q0 B0 s0
  have HW : Hid (_ = W) := hW
  clear hW
  have hqs := q0.lt
  go_enter Tryz.func186, Tryz.ntmps186
  go_upto_region 1 with fail
  rw [HW.out]
  clear HW
  go_wp2_with fail
  refine (nodesRight_is a cap nodes _ x2 HX2.out hl s0).mono ?_
  rintro e y2 ⟨rfl, b2⟩
  have q2 := q0.keep b2
  have s2 := s0.keep b2
  have B2 := B0.trans (b2.mono B0.size)
  clear q0 s0 B0 b2
  cases x2 with
  | false =>
    obtain ⟨rfl, rfl⟩ := HBAD.out (fun h => by have := HX2.out.2 (askT_iff.1 h.1).1; cases this)
    clear HBAD HOK HX2
    have g0 : y2.cell? ⟨w.heap.size, 0, none⟩ = some (.int .i64 0) := q2.cell 0
    have z0 := q2.fz 0
    have g1 : y2.cell? ⟨w.heap.size, 1, none⟩ = some (.slice none 0 0) := q2.cell 1
    have z1 := q2.fz 1
    have RZ : BlkIs ((y2.setCell ⟨w.heap.size, 0, none⟩ (.int .i64 0)).setCell ⟨w.heap.size, 1, none⟩ (.slice none 0 0)) (w.heap.size) 199 #[.int .i64 0, .slice none 0 0] := blk_put2 q2 _ _
    have BZ : Below w.heap.size w ((y2.setCell ⟨w.heap.size, 0, none⟩ (.int .i64 0)).setCell ⟨w.heap.size, 1, none⟩ (.slice none 0 0)) := ((B2.setCell (p := ⟨w.heap.size, 0, none⟩) (by dsimp only; omega) (.int .i64 0)).setCell (p := ⟨w.heap.size, 1, none⟩) (by dsimp only; omega) (.slice none 0 0))
    have KZ : Keeps (fun k => k ≠ w.heap.size) y2 ((y2.setCell ⟨w.heap.size, 0, none⟩ (.int .i64 0)).setCell ⟨w.heap.size, 1, none⟩ (.slice none 0 0)) := keeps_two _ _ _ _
    go_wp2
    obtain ⟨Z, hZ⟩ : ∃ Z, ((y2.setCell ⟨w.heap.size, 0, none⟩ (.int .i64 0)).setCell ⟨w.heap.size, 1, none⟩ (.slice none 0 0)) = Z := ⟨_, rfl⟩
    rw [hZ] at RZ BZ KZ ⊢
    clear hZ g0 z0 g1 z1
    have h0 : Z.cell? ⟨w.heap.size, 0, none⟩ = some (.int .i64 0) := RZ.cell 0
    have h1 : Z.cell? ⟨w.heap.size, 1, none⟩ = some (.slice none 0 0) := RZ.cell 1
    exact bodyPost_ret (v := .agg #[.int .i64 0, .slice none 0 0]) (by simp [results, Tryz.results186, go_sem, h0, h1]) rfl ⟨_, _, rfl, .inl rfl, (fun b off e => by cases e), BZ⟩
  | true =>
    have K2 : Hid (setT nodes) := HX2.out.1 rfl
    clear HX2
    go_wp2_with fail
    refine (seedRight_any seed _).mono ?_
    rintro e y4 ⟨rfl, hyy⟩
    replace hyy : y2 = y4 := hyy.symm
    subst hyy
    obtain ⟨x4, hx4⟩ : ∃ q, (decide (0 ≤ seed) && decide (seed ≤ 2147483647)) = q := ⟨_, rfl⟩
    rw [hx4]
    have HX4 : Hid ((decide (0 ≤ seed) && decide (seed ≤ 2147483647)) = x4) := hx4
    clear hx4
    cases x4 with
    | false =>
      obtain ⟨rfl, rfl⟩ := HBAD.out (fun h => by have := HX4.out; simp [h.1.2.2.1, h.1.2.2.2] at this)
      clear HBAD HOK HX4
      have g0 : y2.cell? ⟨w.heap.size, 0, none⟩ = some (.int .i64 0) := q2.cell 0
      have z0 := q2.fz 0
      have g1 : y2.cell? ⟨w.heap.size, 1, none⟩ = some (.slice none 0 0) := q2.cell 1
      have z1 := q2.fz 1
      have RZ : BlkIs ((y2.setCell ⟨w.heap.size, 0, none⟩ (.int .i64 0)).setCell ⟨w.heap.size, 1, none⟩ (.slice none 0 0)) (w.heap.size) 199 #[.int .i64 0, .slice none 0 0] := blk_put2 q2 _ _
      have BZ : Below w.heap.size w ((y2.setCell ⟨w.heap.size, 0, none⟩ (.int .i64 0)).setCell ⟨w.heap.size, 1, none⟩ (.slice none 0 0)) := ((B2.setCell (p := ⟨w.heap.size, 0, none⟩) (by dsimp only; omega) (.int .i64 0)).setCell (p := ⟨w.heap.size, 1, none⟩) (by dsimp only; omega) (.slice none 0 0))
      have KZ : Keeps (fun k => k ≠ w.heap.size) y2 ((y2.setCell ⟨w.heap.size, 0, none⟩ (.int .i64 0)).setCell ⟨w.heap.size, 1, none⟩ (.slice none 0 0)) := keeps_two _ _ _ _
      go_wp2
      obtain ⟨Z, hZ⟩ : ∃ Z, ((y2.setCell ⟨w.heap.size, 0, none⟩ (.int .i64 0)).setCell ⟨w.heap.size, 1, none⟩ (.slice none 0 0)) = Z := ⟨_, rfl⟩
      rw [hZ] at RZ BZ KZ ⊢
      clear hZ g0 z0 g1 z1
      have h0 : Z.cell? ⟨w.heap.size, 0, none⟩ = some (.int .i64 0) := RZ.cell 0
      have h1 : Z.cell? ⟨w.heap.size, 1, none⟩ = some (.slice none 0 0) := RZ.cell 1
      exact bodyPost_ret (v := .agg #[.int .i64 0, .slice none 0 0]) (by simp [results, Tryz.results186, go_sem, h0, h1]) rfl ⟨_, _, rfl, .inl rfl, (fun b off e => by cases e), BZ⟩
    | true =>
      have K4 : Hid (0 ≤ seed ∧ seed ≤ 2147483647) := by have h := HX4.out; show _ ∧ _; simpa using h
      clear HX4
      by_cases hm0 : many < 0
      · obtain ⟨rfl, rfl⟩ := HBAD.out (fun h => by omega)
        clear HBAD HOK
        have g0 : y2.cell? ⟨w.heap.size, 0, none⟩ = some (.int .i64 0) := q2.cell 0
        have z0 := q2.fz 0
        have g1 : y2.cell? ⟨w.heap.size, 1, none⟩ = some (.slice none 0 0) := q2.cell 1
        have z1 := q2.fz 1
        have RZ : BlkIs ((y2.setCell ⟨w.heap.size, 0, none⟩ (.int .i64 0)).setCell ⟨w.heap.size, 1, none⟩ (.slice none 0 0)) (w.heap.size) 199 #[.int .i64 0, .slice none 0 0] := blk_put2 q2 _ _
        have BZ : Below w.heap.size w ((y2.setCell ⟨w.heap.size, 0, none⟩ (.int .i64 0)).setCell ⟨w.heap.size, 1, none⟩ (.slice none 0 0)) := ((B2.setCell (p := ⟨w.heap.size, 0, none⟩) (by dsimp only; omega) (.int .i64 0)).setCell (p := ⟨w.heap.size, 1, none⟩) (by dsimp only; omega) (.slice none 0 0))
        have KZ : Keeps (fun k => k ≠ w.heap.size) y2 ((y2.setCell ⟨w.heap.size, 0, none⟩ (.int .i64 0)).setCell ⟨w.heap.size, 1, none⟩ (.slice none 0 0)) := keeps_two _ _ _ _
        go_wp2
        obtain ⟨Z, hZ⟩ : ∃ Z, ((y2.setCell ⟨w.heap.size, 0, none⟩ (.int .i64 0)).setCell ⟨w.heap.size, 1, none⟩ (.slice none 0 0)) = Z := ⟨_, rfl⟩
        rw [hZ] at RZ BZ KZ ⊢
        clear hZ g0 z0 g1 z1
        have h0 : Z.cell? ⟨w.heap.size, 0, none⟩ = some (.int .i64 0) := RZ.cell 0
        have h1 : Z.cell? ⟨w.heap.size, 1, none⟩ = some (.slice none 0 0) := RZ.cell 1
        exact bodyPost_ret (v := .agg #[.int .i64 0, .slice none 0 0]) (by simp [results, Tryz.results186, go_sem, h0, h1]) rfl ⟨_, _, rfl, .inl rfl, (fun b off e => by cases e), BZ⟩
      by_cases hm6 : 6 < many
      · obtain ⟨rfl, rfl⟩ := HBAD.out (fun h => by omega)
        clear HBAD HOK
        have g0 : y2.cell? ⟨w.heap.size, 0, none⟩ = some (.int .i64 0) := q2.cell 0
        have z0 := q2.fz 0
        have g1 : y2.cell? ⟨w.heap.size, 1, none⟩ = some (.slice none 0 0) := q2.cell 1
        have z1 := q2.fz 1
        have RZ : BlkIs ((y2.setCell ⟨w.heap.size, 0, none⟩ (.int .i64 0)).setCell ⟨w.heap.size, 1, none⟩ (.slice none 0 0)) (w.heap.size) 199 #[.int .i64 0, .slice none 0 0] := blk_put2 q2 _ _
        have BZ : Below w.heap.size w ((y2.setCell ⟨w.heap.size, 0, none⟩ (.int .i64 0)).setCell ⟨w.heap.size, 1, none⟩ (.slice none 0 0)) := ((B2.setCell (p := ⟨w.heap.size, 0, none⟩) (by dsimp only; omega) (.int .i64 0)).setCell (p := ⟨w.heap.size, 1, none⟩) (by dsimp only; omega) (.slice none 0 0))
        have KZ : Keeps (fun k => k ≠ w.heap.size) y2 ((y2.setCell ⟨w.heap.size, 0, none⟩ (.int .i64 0)).setCell ⟨w.heap.size, 1, none⟩ (.slice none 0 0)) := keeps_two _ _ _ _
        go_wp2
        obtain ⟨Z, hZ⟩ : ∃ Z, ((y2.setCell ⟨w.heap.size, 0, none⟩ (.int .i64 0)).setCell ⟨w.heap.size, 1, none⟩ (.slice none 0 0)) = Z := ⟨_, rfl⟩
        rw [hZ] at RZ BZ KZ ⊢
        clear hZ g0 z0 g1 z1
        have h0 : Z.cell? ⟨w.heap.size, 0, none⟩ = some (.int .i64 0) := RZ.cell 0
        have h1 : Z.cell? ⟨w.heap.size, 1, none⟩ = some (.slice none 0 0) := RZ.cell 1
        exact bodyPost_ret (v := .agg #[.int .i64 0, .slice none 0 0]) (by simp [results, Tryz.results186, go_sem, h0, h1]) rfl ⟨_, _, rfl, .inl rfl, (fun b off e => by cases e), BZ⟩
      have ha : askT nodes seed := askT_iff.2 ⟨K2.out, K4.out⟩
      obtain ⟨rfl, rfl⟩ := HOK.out ⟨ha, by omega, by omega⟩
      clear HBAD HOK
      have hn6 := nodesT_len ha.1
      have hSH : shufL nodes seed = mixL (nodes.length - 1) nodes seed := if_neg (by simp [ha.2.2.1, ha.2.2.2]; omega)
      clear ha
      obtain ⟨mix, ms, hmm⟩ : ∃ m s, mixL (nodes.length - 1) nodes seed = (m, s) := ⟨_, _, rfl⟩
      have hml : mix.length = nodes.length := by have := mixL_length (nodes.length - 1) nodes seed; rw [hmm] at this; exact this
      rw [hmm] at hSH
      have HMM : Hid (shufL nodes seed = (mix, ms)) := hSH
      obtain ⟨kk, hkk⟩ : ∃ k : Nat, k = min many.toNat mix.length := ⟨_, rfl⟩
      have HL : Hid (someL nodes many seed = mix.take kk) := by
        show someL nodes many seed = mix.take kk
        unfold someL
        rw [hmm, hkk]
        rcases Nat.le_total many.toNat mix.length with c | c
        · rw [Nat.min_eq_left c]
        · rw [Nat.min_eq_right c, List.take_of_length_le c, List.take_length]
      have HS : Hid (someS nodes seed = ms) := by show someS nodes seed = ms; unfold someS; rw [hmm]
      have HLEN : Hid ((mix.take kk).length = kk) := by show (mix.take kk).length = kk; rw [List.length_take]; omega
      have hkm : kk ≤ mix.length := by omega
      have hx4 : mix.length ≤ 6 := by omega
      have HMN : Hid ((many ≤ (mix.length : Int) ∧ many = (kk : Int)) ∨ ((mix.length : Int) < many ∧ kk = mix.length)) := by show _ ∨ _; omega
      clear hSH hmm hml hkk
      go_wp2_with fail
      refine (implShuffle_any a cap nodes seed _ hl s2).mono ?_
      rintro e z ⟨v, rfl, ov, bz⟩
      rw [HMM.out] at ov ⊢
      dsimp only at ov ⊢
      obtain ⟨va, vc, rfl⟩ : ∃ va vc, v = .slice va mix.length vc := by
        rcases ov.2 with ⟨e, e2⟩ | ⟨g, gc, cur, e, _⟩
        · exact ⟨none, 0, by rw [e, e2]⟩
        · exact ⟨_, gc, e⟩
      have hcp : mix.length ≤ vc := by
        rcases ov.2 with ⟨e, e2⟩ | ⟨g', gc, cur, e, _, _, h1, _⟩
        · omega
        · cases e; exact h1
      have hlt : ∀ b off, rowA va 0 kk = some ⟨b, off, none⟩ → y2.heap.size ≤ b ∧ b < z.heap.size := fun b off e => by
        unfold rowA at e
        split at e
        · exact ov.lt b (by rw [e]; rfl)
        · cases va with
          | none => cases e
          | some ad =>
            simp [Addr.add] at e
            exact ov.lt b (by rw [e]; rfl)
      have HLT : Hid (∀ b off, rowA va 0 kk = some ⟨b, off, none⟩ → y2.heap.size ≤ b ∧ b < z.heap.size) := hlt
      obtain ⟨a', cap', e', ow⟩ := own_nums ov
      simp only [Value.slice.injEq, true_and] at e'
      obtain ⟨rfl, rfl⟩ := e'
      have q3 := q2.keep bz
      have B3 := B2.trans (bz.mono B2.size)
      have hyl := q2.lt
      unfold shufOut
      clear q2 s2 B2 HMM ov hlt
      have bA : Below z.heap.size z (z.alloc (.cells #[.int .i64 ms, .slice va mix.length vc] 199)) := (Below.refl _ _).alloc (Nat.le_refl _) _
      have X1 := BlkIs.new z 199 #[.int .i64 ms, .slice va mix.length vc]
      have q4 := q3.keep bA
      have B4 := B3.trans (bA.mono B3.size)
      have ow4 := ow.keep bA
      obtain ⟨Y, hY⟩ : ∃ Y, z.alloc (.cells #[.int .i64 ms, .slice va mix.length vc] 199) = Y := ⟨_, rfl⟩
      obtain ⟨kx, hkx⟩ : ∃ k, z.heap.size = k := ⟨_, rfl⟩
      rw [hY] at X1 q4 B4 ow4
      rw [hkx] at X1
      have HY : Hid (_ = Y) := hY
      have HKX : Hid (z.heap.size = kx) := hkx
      have hkxx : kx < Y.heap.size := by rw [← hkx, ← hY]; simp
      have hzq : w.heap.size < kx := by rw [← hkx]; exact q3.lt
      have HZK : Hid (z.heap.size = kx) := hkx
      clear hY hkx bA q3 B3 ow bz
      go_upto_region 4 with fail
      rw [HY.out, HKX.out]
      clear HY HKX
      obtain ⟨V, hV⟩ : ∃ V, Y.drew = V := ⟨_, rfl⟩
      have XV : BlkIs V kx 199 #[.int .i64 ms, .slice va mix.length vc] := by rw [← hV]; exact X1
      have qV : BlkIs V w.heap.size 199 #[.int .i64 0, .slice none 0 0] := by rw [← hV]; exact q4
      have BV : Below w.heap.size w V := by rw [← hV]; exact B4.drew
      have oV : OwnNums V y2.heap.size va mix := by rw [← hV]; exact ow4.keep (Below.refl _ _).drew
      refine wp_region_held_drew (S := fun w' => Keeps (fun q => q ≠ w.heap.size) V w') (by kernel_rfl) ?hS0 (fun hHeld => ?_)
      case hS0 => rw [hV]; exact Keeps.refl _ _
      rw [hV] at hHeld ⊢
      have hVs : kx < V.heap.size := XV.lt
      clear hV X1 q4 B4 ow4
      refine takeG 0 (v := .pointer (some ⟨kx, 0, none⟩)) rfl (by kernel_rfl) (by kernel_rfl) (by kernel_rfl) (by kernel_rfl) (fun _ _ _ h => h) ?hy (by assumption) ?_
      case hy => (intro w' hSw; go_simp)
      try simp only [List.setIfInBounds_toArray, List.set_cons_zero, List.set_cons_succ]
      refine takeG 1 (v := .int .i64 ms) rfl (by kernel_rfl) (by kernel_rfl) (by kernel_rfl) (by kernel_rfl) (fun _ _ _ h => h) ?hy (by assumption) ?_
      case hy => (intro w' hSw; have s0 := (show w'.cell? ⟨kx, 0, none⟩ = some (.int .i64 ms) from (XV.keepK hSw (by omega)).cell 0); (try dsimp only at s0); go_simp)
      try simp only [List.setIfInBounds_toArray, List.set_cons_zero, List.set_cons_succ]
      refine takeG 2 (v := .pointer (some ⟨kx, 1, none⟩)) rfl (by kernel_rfl) (by kernel_rfl) (by kernel_rfl) (by kernel_rfl) (fun _ _ _ h => h) ?hy (by assumption) ?_
      case hy => (intro w' hSw; go_simp)
      try simp only [List.setIfInBounds_toArray, List.set_cons_zero, List.set_cons_succ]
      refine takeG 3 (v := .slice va mix.length vc) rfl (by kernel_rfl) (by kernel_rfl) (by kernel_rfl) (by kernel_rfl) (fun _ _ _ h => h) ?hy (by assumption) ?_
      case hy => (intro w' hSw; have s0 := (show w'.cell? ⟨kx, 1, none⟩ = some (.slice va mix.length vc) from (XV.keepK hSw (by omega)).cell 1); (try dsimp only at s0); go_simp)
      try simp only [List.setIfInBounds_toArray, List.set_cons_zero, List.set_cons_succ]
      refine takeG 4 (v := .int .i64 many) rfl (by kernel_rfl) (by kernel_rfl) (by kernel_rfl) (by kernel_rfl) (fun _ _ _ h => h) ?hy (by assumption) ?_
      case hy => (intro w' hSw; go_simp)
      try simp only [List.setIfInBounds_toArray, List.set_cons_zero, List.set_cons_succ]
      refine takeG 5 (v := .pointer (some ⟨kx, 1, none⟩)) rfl (by kernel_rfl) (by kernel_rfl) (by kernel_rfl) (by kernel_rfl) (fun _ _ _ h => h) ?hy (by assumption) ?_
      case hy => (intro w' hSw; go_simp)
      try simp only [List.setIfInBounds_toArray, List.set_cons_zero, List.set_cons_succ]
      refine takeG 6 (v := .slice va mix.length vc) rfl (by kernel_rfl) (by kernel_rfl) (by kernel_rfl) (by kernel_rfl) (fun _ _ _ h => h) ?hy (by assumption) ?_
      case hy => (intro w' hSw; have s0 := (show w'.cell? ⟨kx, 1, none⟩ = some (.slice va mix.length vc) from (XV.keepK hSw (by omega)).cell 1); (try dsimp only at s0); go_simp)
      try simp only [List.setIfInBounds_toArray, List.set_cons_zero, List.set_cons_succ]
      refine takeG 7 (v := .int .i64 (mix.length : Int)) rfl (by kernel_rfl) (by kernel_rfl) (by kernel_rfl) (by kernel_rfl) (fun _ _ _ h => h) ?hy (by assumption) ?_
      case hy => (intro w' hSw; go_simp)
      try simp only [List.setIfInBounds_toArray, List.set_cons_zero, List.set_cons_succ]
      refine takeG 8 (v := .int .i64 (kk : Int)) rfl (by kernel_rfl) (by kernel_rfl) (by kernel_rfl) (by kernel_rfl) (fun _ _ _ h => h) ?hy (by assumption) ?_
      case hy =>
        intro w' hSw
        rcases HMN.out with ⟨h1, h2⟩ | ⟨h1, h2⟩
        · go_simp
          omega
        · go_simp
          try omega
      try simp only [List.setIfInBounds_toArray, List.set_cons_zero, List.set_cons_succ]
      refine runG 9 (by kernel_rfl) rfl (by kernel_rfl) ?_
      go_simp
      refine (rowOf_any va mix.length vc 0 kk _ (Nat.zero_le _) (by omega)).mono ?_
      rintro e x2 ⟨rfl, hz⟩
      replace hz : V = x2 := hz.symm
      subst hz
      refine ⟨hHeld, ?_⟩
      try simp only [Act.put, List.setIfInBounds_toArray, List.set_cons_zero, List.set_cons_succ]
      rw [Nat.sub_zero]
      refine takeG 10 (v := .agg #[.int .i64 ms, .slice (rowA va 0 kk) kk kk]) rfl (by kernel_rfl) (by kernel_rfl) (by kernel_rfl) (by kernel_rfl) (fun _ _ _ h => h) ?hy (by assumption) ?_
      case hy => (intro w' hSw; go_simp)
      try simp only [List.setIfInBounds_toArray, List.set_cons_zero, List.set_cons_succ]
      have g0 : V.cell? ⟨w.heap.size, 0, none⟩ = some (.int .i64 0) := qV.cell 0
      have z0 := qV.fz 0
      have g1 : V.cell? ⟨w.heap.size, 1, none⟩ = some (.slice none 0 0) := qV.cell 1
      have z1 := qV.fz 1
      have RZ : BlkIs ((V.setCell ⟨w.heap.size, 0, none⟩ (.int .i64 ms)).setCell ⟨w.heap.size, 1, none⟩ (.slice (rowA va 0 kk) kk kk)) (w.heap.size) 199 #[.int .i64 ms, .slice (rowA va 0 kk) kk kk] := blk_put2 qV _ _
      have BZ : Below w.heap.size w ((V.setCell ⟨w.heap.size, 0, none⟩ (.int .i64 ms)).setCell ⟨w.heap.size, 1, none⟩ (.slice (rowA va 0 kk) kk kk)) := ((BV.setCell (p := ⟨w.heap.size, 0, none⟩) (by dsimp only; omega) (.int .i64 ms)).setCell (p := ⟨w.heap.size, 1, none⟩) (by dsimp only; omega) (.slice (rowA va 0 kk) kk kk))
      have KZ : Keeps (fun k => k ≠ w.heap.size) V ((V.setCell ⟨w.heap.size, 0, none⟩ (.int .i64 ms)).setCell ⟨w.heap.size, 1, none⟩ (.slice (rowA va 0 kk) kk kk)) := keeps_two _ _ _ _
      refine oneH 11 (by kernel_rfl) (storeH rfl (w' := ((V.setCell ⟨w.heap.size, 0, none⟩ (.int .i64 ms)).setCell ⟨w.heap.size, 1, none⟩ (.slice (rowA va 0 kk) kk kk))) (nx := .skip) (by go_simp) (.inl rfl) (hHeld.trans KZ) ?_)
      try simp only [Act.put, List.setIfInBounds_toArray, List.set_cons_zero, List.set_cons_succ]
      refine wpAnyH_done (by kernel_rfl) ?_ _
      have own4 := ((oV.takeN kk hkm).keepK KZ (fun b h1 h2 => by omega)).le (Nat.le_of_lt hyl)
      have BZZ : V.heap.size ≤ ((V.setCell ⟨w.heap.size, 0, none⟩ (.int .i64 ms)).setCell ⟨w.heap.size, 1, none⟩ (.slice (rowA va 0 kk) kk kk)).heap.size := KZ.size
      obtain ⟨Z, hZ⟩ : ∃ Z, ((V.setCell ⟨w.heap.size, 0, none⟩ (.int .i64 ms)).setCell ⟨w.heap.size, 1, none⟩ (.slice (rowA va 0 kk) kk kk)) = Z := ⟨_, rfl⟩
      rw [hZ] at RZ BZ own4 BZZ ⊢
      clear hZ g0 z0 g1 z1 KZ
      go_wp2
      have h0 : Z.cell? ⟨w.heap.size, 0, none⟩ = some (.int .i64 ms) := RZ.cell 0
      have h1 : Z.cell? ⟨w.heap.size, 1, none⟩ = some (.slice (rowA va 0 kk) kk kk) := RZ.cell 1
      exact bodyPost_ret (v := .agg #[.int .i64 ms, .slice (rowA va 0 kk) kk kk]) (by simp [results, Tryz.results186, go_sem, h0, h1]) rfl ⟨rowA va 0 kk, kk, by rw [HL.out, HLEN.out, HS.out]; rfl, by rw [HL.out]; exact own4, (fun b off e => by have h1 := HLT.out b off e; have h2 := BZZ; have h3 := HZK.out; omega), BZ⟩
end Go.Proofs.YtmdcankfjmkkeaaGreat
