/- The contracts of the specification's TurnNext and Some. -/
import Derived.Test.YtmdcankfjmkkeaaGreatG20
import Derived.Test.YtmdcankfjmkkeaaGreatG10
import Derived.Test.YtmdcankfjmkkeaaGreatG16
import Derived.Maps.AppendAt
import Derived.Lib.AppendZerosOnto
namespace Go.Proofs.YtmdcankfjmkkeaaGreat
open Go Go.RowKit
set_option linter.unusedVariables false
set_option linter.unusedSimpArgs false

theorem blk_put5 {W : World} {b t : Nat} {u0 u1 u2 u3 u4 : Value} (h : BlkIs W b t #[u0, u1, u2, u3, u4]) (v0 v1 v2 v3 v4 : Value) : BlkIs (((((W.setCell ⟨b, 0, none⟩ (v0)).setCell ⟨b, 1, none⟩ (v1)).setCell ⟨b, 2, none⟩ (v2)).setCell ⟨b, 3, none⟩ (v3)).setCell ⟨b, 4, none⟩ (v4)) b t #[v0, v1, v2, v3, v4] := by
  have := ((((h.put 0 v0).put 1 v1).put 2 v2).put 3 v3).put 4 v4
  simpa using this
theorem keeps_five (w : World) (b : Nat) (v0 v1 v2 v3 v4 : Value) : Keeps (fun k => k ≠ b) w (((((w.setCell ⟨b, 0, none⟩ (v0)).setCell ⟨b, 1, none⟩ (v1)).setCell ⟨b, 2, none⟩ (v2)).setCell ⟨b, 3, none⟩ (v3)).setCell ⟨b, 4, none⟩ (v4)) :=
  (((((Keeps.refl _ _).setCell (fun h => h rfl) _).setCell (fun h => h rfl) _).setCell (fun h => h rfl) _).setCell (fun h => h rfl) _).setCell (fun h => h rfl) _
theorem blk_put2 {W : World} {b t : Nat} {u0 u1 : Value} (h : BlkIs W b t #[u0, u1]) (v0 v1 : Value) : BlkIs ((W.setCell ⟨b, 0, none⟩ (v0)).setCell ⟨b, 1, none⟩ (v1)) b t #[v0, v1] := by
  have := (h.put 0 v0).put 1 v1
  simpa using this
theorem keeps_two (w : World) (b : Nat) (v0 v1 : Value) : Keeps (fun k => k ≠ b) w ((w.setCell ⟨b, 0, none⟩ (v0)).setCell ⟨b, 1, none⟩ (v1)) :=
  ((Keeps.refl _ _).setCell (fun h => h rfl) _).setCell (fun h => h rfl) _
/-- What an answer of TurnNext says, and what it owns. -/
def TOutPost (o : TOutV) (w : World) (e : Ending) (w' : World) : Prop :=
  ∃ v, e = .returned (.agg #[v, .int .i64 o.at0, .int .i64 o.node, .int .i64 o.seed, .int .i64 o.code]) ∧ w'.ownsRow w.heap.size 2 1 v o.list.length (numsV o.list) ∧ Below w.heap.size w w'
/-- One world. -/
def SameW (a b : World) : Prop := a = b
theorem rowLeN {w : World} {base base' e size : Nat} {v : Value} {n : Nat} {xs : List Value} (h : w.ownsRow base e size v n xs) (hb : base' ≤ base) : w.ownsRow base' e size v n xs :=
  ⟨h.1, h.2.imp id fun ⟨g, cap, cur, a, b, c⟩ => ⟨g, cap, cur, a, Nat.le_trans hb b, c⟩⟩
theorem run_append_numsT {w : World} (base : Nat) (v : Value) (n : Nat) (xs : List Value) (hown : w.ownsRow base 2 1 v n xs) (b off cap : Nat) (l : List Int) (hrow : NumRow w (some ⟨b, off, none⟩) l) (h63 : n + l.length ≤ 2000000) (hbase : base ≤ w.heap.size) :
    ∃ v' w', (Builtin.append_ #[25, 25] 25 #[v, .slice (some ⟨b, off, none⟩) l.length cap]).run Tryz.prog w = .ok v' w' ∧ w'.ownsRow base 2 1 v' (n + l.length) (xs ++ numsV l) ∧ w.grownBy w' v.ownBlock ∧ (v'.ownBlock = v.ownBlock ∨ v'.ownBlock = some w.heap.size) := by
  obtain ⟨i0, hi0, hz0, hzs, hzb⟩ := info_partsI
  have hsrc : ∀ j u, (numsV l)[j]? = some u → w.cell? ((⟨b, off, none⟩ : Addr).add j) = some u := fun j u hu => by
    have hj : j < l.length := by
      have := (List.getElem?_eq_some_iff.1 hu).1
      rwa [numsV_length] at this
    obtain ⟨b', off', e, _, hc⟩ := hrow.addrN (by omega)
    simp only [Option.some.injEq, Addr.mk.injEq, and_true] at e
    obtain ⟨rfl, rfl⟩ := e
    rw [addr_off, hc j hj]
    rw [numsV, List.getElem?_map, List.getElem?_eq_getElem hj] at hu
    exact hu
  obtain ⟨v', w', hr, h2, h3, _, h5⟩ := run_append_own_at (P := Tryz.prog) w base 25 25 2 i0 _ 1 8 Tryz.underlying25 hi0 hz0 hzs hzb rfl (by omega) v n xs hown ⟨b, off, none⟩ l.length cap (numsV l) (by rw [numsV_length]; omega) hsrc (fun v hv => by obtain ⟨x, _, rfl⟩ := List.mem_map.1 hv; rfl) (by unfold maxLen; omega) (by omega) hbase
  exact ⟨v', w', hr, h2, h3, h5⟩
set_option maxHeartbeats 4000000 in
set_option maxRecDepth 100000 in
theorem specL07Next_any (a : Option Addr) (cap : Nat) (t : TurnV) (a1 : Option Addr) (cap1 : Nat) (nodes : List Int) (seed : Int) (o : TOutV) (w : World) (ht : t.ok) (ha : askT nodes seed) (h : TNextIs t nodes seed o) (hc1 : a1 = none → cap1 = 0) (hrow : NumRow w a t.list) (hrow1 : NumRow w a1 nodes) :
    Calls Tryz.prog 149 #[turnV (.slice a t.list.length cap) t.at0, .slice a1 nodes.length cap1, .int .i64 seed] w (TOutPost o w) := by
  have hl6 := nodesT_len ht.1
  have hn6 := nodesT_len ha.1
  have hat := ht.2
  have hsd := ha.2.2
  obtain ⟨l, at1⟩ := t
  dsimp only at hl6 hat hrow ⊢
  obtain ⟨at0, rfl⟩ := Int.eq_ofNat_of_zero_le hat.1
  have HO : Hid ((nodes = [] ∧ o = ⟨[], 0, 0, 0, 6⟩) ∨ (nodes ≠ [] ∧ ∃ i, FirstT ⟨l, (at0 : Int)⟩ nodes i ∧ o = ⟨l, (i : Int) + 1, l.getD i 0, seed, 0⟩) ∨ (nodes ≠ [] ∧ NoneT ⟨l, (at0 : Int)⟩ nodes ∧ o = ⟨(mixL (nodes.length - 1) nodes seed).1, 1, (mixL (nodes.length - 1) nodes seed).1.getD 0 0, (mixL (nodes.length - 1) nodes seed).2, 0⟩)) := by
    rcases h with ⟨h1, _⟩ | ⟨_, h2, _⟩ | ⟨_, _, h3, e⟩ | ⟨_, _, h3, i, hi, e⟩ | ⟨_, _, h3, hno, e⟩
    · omega
    · exact absurd ⟨ht, ha⟩ h2
    · exact .inl ⟨h3, e⟩
    · exact .inr (.inl ⟨h3, i, hi, e⟩)
    · exact .inr (.inr ⟨h3, hno, e⟩)
  unfold turnV
  have p0 := (BlkIs.new w 27 #[.slice a l.length cap, .int .i64 at0]).keep ((Below.refl _ _).alloc (Nat.le_refl _) (.cells #[.slice none 0 0, .int .i64 0, .int .i64 0, .int .i64 0, .int .i64 0] 154))
  have q0 := BlkIs.new (w.alloc (.cells #[.slice a l.length cap, .int .i64 at0] 27)) 154 #[.slice none 0 0, .int .i64 0, .int .i64 0, .int .i64 0, .int .i64 0]
  rw [World.size_alloc] at q0
  have B0 : Below w.heap.size w ((w.alloc (.cells #[.slice a l.length cap, .int .i64 at0] 27)).alloc (.cells #[.slice none 0 0, .int .i64 0, .int .i64 0, .int .i64 0, .int .i64 0] 154)) := ((Below.refl _ _).alloc (Nat.le_refl _) _).alloc (by simp) _
  have r0 := hrow.keep B0
  have s0 := hrow1.keep B0
  obtain ⟨W, hW⟩ : ∃ W, (w.alloc (.cells #[.slice a l.length cap, .int .i64 at0] 27)).alloc (.cells #[.slice none 0 0, .int .i64 0, .int .i64 0, .int .i64 0, .int .i64 0] 154) = W := ⟨_, rfl⟩
  rw [hW] at p0 q0 B0 r0 s0
  have HW : Hid (_ = W) := hW
  clear hW h ht ha
  go_enter Tryz.func149, Tryz.ntmps149
  go_upto_region 1 with fail
  rw [HW.out]
  clear HW
  have hqs := q0.lt
  by_cases hn0 : nodes = []
  · have ho : o = ⟨[], 0, 0, 0, 6⟩ := by
      rcases HO.out with ⟨_, e⟩ | ⟨h, _⟩ | ⟨h, _⟩
      · exact e
      · exact absurd hn0 h
      · exact absurd hn0 h
    subst ho
    subst hn0
    clear HO
    have g0 : W.cell? ⟨w.heap.size + 1, 0, none⟩ = some (.slice none 0 0) := q0.cell 0
    have z0 := q0.fz 0
    have g1 : W.cell? ⟨w.heap.size + 1, 1, none⟩ = some (.int .i64 0) := q0.cell 1
    have z1 := q0.fz 1
    have g2 : W.cell? ⟨w.heap.size + 1, 2, none⟩ = some (.int .i64 0) := q0.cell 2
    have z2 := q0.fz 2
    have g3 : W.cell? ⟨w.heap.size + 1, 3, none⟩ = some (.int .i64 0) := q0.cell 3
    have z3 := q0.fz 3
    have g4 : W.cell? ⟨w.heap.size + 1, 4, none⟩ = some (.int .i64 0) := q0.cell 4
    have z4 := q0.fz 4
    have RZ : BlkIs (((((W.setCell ⟨w.heap.size + 1, 0, none⟩ (.slice none 0 0)).setCell ⟨w.heap.size + 1, 1, none⟩ (.int .i64 0)).setCell ⟨w.heap.size + 1, 2, none⟩ (.int .i64 0)).setCell ⟨w.heap.size + 1, 3, none⟩ (.int .i64 0)).setCell ⟨w.heap.size + 1, 4, none⟩ (.int .i64 6)) (w.heap.size + 1) 154 #[.slice none 0 0, .int .i64 0, .int .i64 0, .int .i64 0, .int .i64 6] := blk_put5 q0 _ _ _ _ _
    have BZ : Below w.heap.size w (((((W.setCell ⟨w.heap.size + 1, 0, none⟩ (.slice none 0 0)).setCell ⟨w.heap.size + 1, 1, none⟩ (.int .i64 0)).setCell ⟨w.heap.size + 1, 2, none⟩ (.int .i64 0)).setCell ⟨w.heap.size + 1, 3, none⟩ (.int .i64 0)).setCell ⟨w.heap.size + 1, 4, none⟩ (.int .i64 6)) := (((((B0.setCell (p := ⟨w.heap.size + 1, 0, none⟩) (by dsimp only; omega) (.slice none 0 0)).setCell (p := ⟨w.heap.size + 1, 1, none⟩) (by dsimp only; omega) (.int .i64 0)).setCell (p := ⟨w.heap.size + 1, 2, none⟩) (by dsimp only; omega) (.int .i64 0)).setCell (p := ⟨w.heap.size + 1, 3, none⟩) (by dsimp only; omega) (.int .i64 0)).setCell (p := ⟨w.heap.size + 1, 4, none⟩) (by dsimp only; omega) (.int .i64 6))
    have KZ : Keeps (fun k => k ≠ w.heap.size + 1) W (((((W.setCell ⟨w.heap.size + 1, 0, none⟩ (.slice none 0 0)).setCell ⟨w.heap.size + 1, 1, none⟩ (.int .i64 0)).setCell ⟨w.heap.size + 1, 2, none⟩ (.int .i64 0)).setCell ⟨w.heap.size + 1, 3, none⟩ (.int .i64 0)).setCell ⟨w.heap.size + 1, 4, none⟩ (.int .i64 6)) := keeps_five _ _ _ _ _ _ _
    go_wp2
    obtain ⟨Z, hZ⟩ : ∃ Z, (((((W.setCell ⟨w.heap.size + 1, 0, none⟩ (.slice none 0 0)).setCell ⟨w.heap.size + 1, 1, none⟩ (.int .i64 0)).setCell ⟨w.heap.size + 1, 2, none⟩ (.int .i64 0)).setCell ⟨w.heap.size + 1, 3, none⟩ (.int .i64 0)).setCell ⟨w.heap.size + 1, 4, none⟩ (.int .i64 6)) = Z := ⟨_, rfl⟩
    rw [hZ] at RZ BZ KZ ⊢
    clear hZ g0 z0 g1 z1 g2 z2 g3 z3 g4 z4
    have h0 : Z.cell? ⟨w.heap.size + 1, 0, none⟩ = some (.slice none 0 0) := RZ.cell 0
    have h1 : Z.cell? ⟨w.heap.size + 1, 1, none⟩ = some (.int .i64 0) := RZ.cell 1
    have h2 : Z.cell? ⟨w.heap.size + 1, 2, none⟩ = some (.int .i64 0) := RZ.cell 2
    have h3 : Z.cell? ⟨w.heap.size + 1, 3, none⟩ = some (.int .i64 0) := RZ.cell 3
    have h4 : Z.cell? ⟨w.heap.size + 1, 4, none⟩ = some (.int .i64 6) := RZ.cell 4
    exact bodyPost_ret (v := .agg #[.slice none 0 0, .int .i64 0, .int .i64 0, .int .i64 0, .int .i64 6]) (by simp [results, Tryz.results149, go_sem, h0, h1, h2, h3, h4]) rfl ⟨_, rfl, ⟨rfl, .inl ⟨rfl, rfl⟩⟩, BZ⟩
  have hnb : (((nodes.length : Nat) : Int) == 0) = false := beq_eq_false_iff_ne.2 (fun e => hn0 (List.eq_nil_of_length_eq_zero (by omega)))
  have HN0 : Hid (nodes ≠ []) := hn0
  clear hn0
  have c1 : W.cell? ⟨w.heap.size, 1, none⟩ = some (.int .i64 at0) := p0.cell 1
  go_wp2
  clear c1
  go_loopw [7] (fun i wr => ∃ k : Nat, k ≤ l.length ∧ i = .int .i64 k ∧ at0 ≤ k ∧ (∀ j (hj : j < l.length), at0 ≤ j → j < k → l[j] ∉ nodes) ∧ SameW wr W) (fun i _ => l.length - (intOf i).toNat)
  case atStart => exact ⟨at0, by omega, rfl, Nat.le_refl _, fun j _ h1 h2 => by omega, rfl⟩
  case round =>
    obtain ⟨k, hk, rfl, hak, hno, hwr⟩ := hrel
    replace hwr : W = wr := (show wr = W from hwr).symm
    subst hwr
    have HNO : Hid (∀ j (hj : j < l.length), at0 ≤ j → j < k → l[j] ∉ nodes) := hno
    clear hno
    have c0 : W.cell? ⟨w.heap.size, 0, none⟩ = some (.slice a l.length cap) := p0.cell 0
    have hl64 : IntKind.i64.wrap (l.length : Int) = (l.length : Int) := by rw [IntKind.wrap_i64]; omega
    by_cases hx : k < l.length
    · obtain ⟨b, off, rfl, hbl, hcell⟩ := r0.addrN (by omega)
      have ck := hcell k hx
      obtain ⟨x, hlx⟩ : ∃ x, l[k] = x := ⟨_, rfl⟩
      rw [hlx] at ck
      have HX : Hid (l[k] = x) := hlx
      have hkI : (k : Int) < (l.length : Int) := by omega
      have hk0 : ¬ (k : Int) < 0 := by omega
      have hwk : IntKind.i64.wrap ((k : Int) + 1) = (k : Int) + 1 := by rw [IntKind.wrap_i64]; omega
      clear hlx hcell
      go_wp2_with fail
      refine (l02Has_any a1 cap1 nodes x _ (by omega) s0).mono ?_
      rintro e z ⟨rfl, hzz⟩
      replace hzz : W = z := hzz.symm
      subst hzz
      by_cases hm : x ∈ nodes
      · rw [decide_eq_true hm]
        have HF : Hid (FirstT ⟨l, (at0 : Int)⟩ nodes k) := ⟨by show (at0 : Int) ≤ k; omega, hx, by show l[k] ∈ nodes; rw [HX.out]; exact hm, fun j hj h1 h2 => HNO.out j hj (by dsimp only at h1; omega) h2⟩
        have ho : o = ⟨l, (k : Int) + 1, x, seed, 0⟩ := by
          have e3 : l.getD k 0 = x := by rw [List.getD_eq_getElem?_getD, List.getElem?_eq_getElem hx, HX.out]; rfl
          rcases HO.out with ⟨e, _⟩ | ⟨_, i, hi, e⟩ | ⟨_, hn, _⟩
          · exact absurd e HN0.out
          · have hik : i = k := by
              obtain ⟨i1, i2, i3, i4⟩ := hi
              dsimp only at i1 i2 i3 i4
              rcases Nat.lt_trichotomy i k with c | c | c
              · exact absurd i3 (HNO.out i i2 (by omega) c)
              · exact c
              · exact absurd hm (by have := i4 k hx (by omega) c; rw [HX.out] at this; exact this)
            subst hik
            rw [e, e3]
          · exact absurd hm (by have := hn k hx (by show (at0 : Int) ≤ k; omega); dsimp only at this; rw [HX.out] at this; exact this)
        subst ho
        clear HO HF HNO hm
        go_upto_region 7 with fail
        obtain ⟨Y, hY⟩ : ∃ Y, W.drew = Y := ⟨_, rfl⟩
        have pY : BlkIs Y w.heap.size 27 #[.slice (some ⟨b, off, none⟩) l.length cap, .int .i64 at0] := by rw [← hY]; exact p0
        have qY : BlkIs Y (w.heap.size + 1) 154 #[.slice none 0 0, .int .i64 0, .int .i64 0, .int .i64 0, .int .i64 0] := by rw [← hY]; exact q0
        have rY : NumRow Y (some ⟨b, off, none⟩) l := by rw [← hY]; exact r0.keep (Below.refl _ _).drew
        have BY : Below w.heap.size w Y := by rw [← hY]; exact B0.drew
        have hcellS : ∀ w', Keeps (fun q => q ≠ w.heap.size + 1) Y w' → w'.cell? ⟨b, off + k, none⟩ = some (.int .i64 x) := fun w' hK => by
          have hb1 : b ≠ w.heap.size + 1 := by
            rcases hrow with e | ⟨b', off', e, hlt, _⟩
            · rw [e] at hx; simp at hx
            · simp only [Option.some.injEq, Addr.mk.injEq, and_true] at e; omega
          have : Y.cell? ⟨b, off + k, none⟩ = some (.int .i64 x) := by rw [← hY]; exact ck
          exact (hK.cell (p := ⟨b, off + k, none⟩) (by show b < Y.heap.size; rw [← hY]; exact hbl) hb1).trans this
        refine wp_region_held_drew (S := fun w' => Keeps (fun q => q ≠ w.heap.size + 1) Y w') (by kernel_rfl) ?hS0 (fun hHeld => ?_)
        case hS0 => rw [hY]; exact Keeps.refl _ _
        rw [hY] at hHeld ⊢
        clear hY p0 q0 r0 s0 B0 c0 ck
        have hYs := qY.lt
        refine takeG 1 (v := .pointer (some ⟨w.heap.size, 0, none⟩)) rfl (by kernel_rfl) (by kernel_rfl) (by kernel_rfl) (by kernel_rfl) (fun _ _ _ h => h) ?hy (by assumption) ?_
        case hy => (intro w' hSw; go_simp)
        try simp only [List.setIfInBounds_toArray, List.set_cons_zero, List.set_cons_succ]
        refine takeG 2 (v := .slice (some ⟨b, off, none⟩) l.length cap) rfl (by kernel_rfl) (by kernel_rfl) (by kernel_rfl) (by kernel_rfl) (fun _ _ _ h => h) ?hy (by assumption) ?_
        case hy => (intro w' hSw; have s0 := (show w'.cell? ⟨w.heap.size, 0, none⟩ = some (.slice (some ⟨b, off, none⟩) l.length cap) from (pY.keepK hSw (by omega)).cell 0); (try dsimp only at s0); go_simp)
        try simp only [List.setIfInBounds_toArray, List.set_cons_zero, List.set_cons_succ]
        refine takeG 4 (v := .int .i64 (k : Int)) rfl (by kernel_rfl) (by kernel_rfl) (by kernel_rfl) (by kernel_rfl) (fun _ _ _ h => h) ?hy (by assumption) ?_
        case hy => (intro w' hSw; go_simp)
        try simp only [List.setIfInBounds_toArray, List.set_cons_zero, List.set_cons_succ]
        refine takeG 5 (v := .int .i64 ((k : Int) + 1)) rfl (by kernel_rfl) (by kernel_rfl) (by kernel_rfl) (by kernel_rfl) (fun _ _ _ h => h) ?hy (by assumption) ?_
        case hy => (intro w' hSw; go_simp)
        try simp only [List.setIfInBounds_toArray, List.set_cons_zero, List.set_cons_succ]
        refine takeG 7 (v := .pointer (some ⟨w.heap.size, 0, none⟩)) rfl (by kernel_rfl) (by kernel_rfl) (by kernel_rfl) (by kernel_rfl) (fun _ _ _ h => h) ?hy (by assumption) ?_
        case hy => (intro w' hSw; go_simp)
        try simp only [List.setIfInBounds_toArray, List.set_cons_zero, List.set_cons_succ]
        refine takeG 8 (v := .slice (some ⟨b, off, none⟩) l.length cap) rfl (by kernel_rfl) (by kernel_rfl) (by kernel_rfl) (by kernel_rfl) (fun _ _ _ h => h) ?hy (by assumption) ?_
        case hy => (intro w' hSw; have s0 := (show w'.cell? ⟨w.heap.size, 0, none⟩ = some (.slice (some ⟨b, off, none⟩) l.length cap) from (pY.keepK hSw (by omega)).cell 0); (try dsimp only at s0); go_simp)
        try simp only [List.setIfInBounds_toArray, List.set_cons_zero, List.set_cons_succ]
        refine takeG 9 (v := .int .i64 (k : Int)) rfl (by kernel_rfl) (by kernel_rfl) (by kernel_rfl) (by kernel_rfl) (fun _ _ _ h => h) ?hy (by assumption) ?_
        case hy => (intro w' hSw; go_simp)
        try simp only [List.setIfInBounds_toArray, List.set_cons_zero, List.set_cons_succ]
        refine takeG 10 (v := .pointer (some ⟨b, off + k, none⟩)) rfl (by kernel_rfl) (by kernel_rfl) (by kernel_rfl) (by kernel_rfl) (fun _ _ _ h => h) ?hy (by assumption) ?_
        case hy => (intro w' hSw; go_simp)
        try simp only [List.setIfInBounds_toArray, List.set_cons_zero, List.set_cons_succ]
        refine takeG 11 (v := .int .i64 x) rfl (by kernel_rfl) (by kernel_rfl) (by kernel_rfl) (by kernel_rfl) (fun _ _ _ h => h) ?hy (by assumption) ?_
        case hy => (intro w' hSw; have s0 := hcellS w' hSw; (try dsimp only at s0); go_simp)
        try simp only [List.setIfInBounds_toArray, List.set_cons_zero, List.set_cons_succ]
        refine takeG 12 (v := .int .i64 seed) rfl (by kernel_rfl) (by kernel_rfl) (by kernel_rfl) (by kernel_rfl) (fun _ _ _ h => h) ?hy (by assumption) ?_
        case hy => (intro w' hSw; go_simp)
        try simp only [List.setIfInBounds_toArray, List.set_cons_zero, List.set_cons_succ]
        have KA : Below Y.heap.size Y (Y.alloc (.cells #[] 2)) := (Below.refl _ _).alloc (Nat.le_refl _) _
        refine oneH 0 (by kernel_rfl) (doH rfl (v := .slice (some ⟨Y.heap.size, 0, none⟩) 0 0) (w' := Y.alloc (.cells #[] 2)) (by go_simp) (Keeps.ofBelow KA (fun _ hq _ => hq)) ?_)
        try simp only [Act.put, List.setIfInBounds_toArray, List.set_cons_zero, List.set_cons_succ]
        have OA : (Y.alloc (.cells #[] 2)).ownsRow Y.heap.size 2 1 (.slice (some ⟨Y.heap.size, 0, none⟩) 0 0) 0 [] := World.ownsRow_lit _ #[] 0 (Nat.le_refl _) (by simp [maxLen]) rfl
        obtain ⟨v2, x2, hr2, own2, gr2, _⟩ := run_append_numsT Y.heap.size _ _ _ OA b off cap l (rY.keep KA) (by omega) KA.size
        have KB2 : Below Y.heap.size Y x2 := KA.grown gr2 KA.size (fun g hg => (OA.lt g hg).1)
        have S2 : Keeps (fun q => q ≠ w.heap.size + 1) Y x2 := Keeps.ofBelow KB2 (fun _ hq _ => hq)
        obtain ⟨va, vn, vc, rfl⟩ : ∃ a n c, v2 = .slice a n c := by
          rcases own2.2 with ⟨e, _⟩ | ⟨g, cap, cur, e, _⟩
          · exact ⟨_, _, _, e⟩
          · exact ⟨_, _, _, e⟩
        refine oneH 3 (by kernel_rfl) (doH rfl (exec_append (.tmp 29) (.tmp 31) 25 25 rfl _ _ rfl rfl hr2) S2 ?_)
        try simp only [Act.put, List.setIfInBounds_toArray, List.set_cons_zero, List.set_cons_succ]
        refine takeG 6 (v := .agg #[.slice va vn vc, .int .i64 ((k : Int) + 1)]) rfl (by kernel_rfl) (by kernel_rfl) (by kernel_rfl) (by kernel_rfl) (fun _ _ _ h => h) ?hy (by assumption) ?_
        case hy => (intro w' hSw; go_simp)
        try simp only [List.setIfInBounds_toArray, List.set_cons_zero, List.set_cons_succ]
        refine takeG 13 (v := .agg #[.slice va vn vc, .int .i64 ((k : Int) + 1), .int .i64 x, .int .i64 seed, .int .i64 0]) rfl (by kernel_rfl) (by kernel_rfl) (by kernel_rfl) (by kernel_rfl) (fun _ _ _ h => h) ?hy (by assumption) ?_
        case hy => (intro w' hSw; go_simp)
        try simp only [List.setIfInBounds_toArray, List.set_cons_zero, List.set_cons_succ]
        have Q2 := qY.keep KB2
        have B2 : Below w.heap.size w x2 := BY.trans (KB2.mono BY.size)
        have hge : ∀ g, Value.ownBlock (.slice va vn vc) = some g → g ≠ w.heap.size + 1 := fun g hg => by have := (own2.lt g hg).1; omega
        have own3 : x2.ownsRow w.heap.size 2 1 (.slice va vn vc) l.length (numsV l) := rowLeN (by simpa using own2) BY.size
        clear hr2 gr2 KA OA own2
        have g0 : x2.cell? ⟨w.heap.size + 1, 0, none⟩ = some (.slice none 0 0) := Q2.cell 0
        have z0 := Q2.fz 0
        have g1 : x2.cell? ⟨w.heap.size + 1, 1, none⟩ = some (.int .i64 0) := Q2.cell 1
        have z1 := Q2.fz 1
        have g2 : x2.cell? ⟨w.heap.size + 1, 2, none⟩ = some (.int .i64 0) := Q2.cell 2
        have z2 := Q2.fz 2
        have g3 : x2.cell? ⟨w.heap.size + 1, 3, none⟩ = some (.int .i64 0) := Q2.cell 3
        have z3 := Q2.fz 3
        have g4 : x2.cell? ⟨w.heap.size + 1, 4, none⟩ = some (.int .i64 0) := Q2.cell 4
        have z4 := Q2.fz 4
        have RZ : BlkIs (((((x2.setCell ⟨w.heap.size + 1, 0, none⟩ (.slice va vn vc)).setCell ⟨w.heap.size + 1, 1, none⟩ (.int .i64 ((k : Int) + 1))).setCell ⟨w.heap.size + 1, 2, none⟩ (.int .i64 x)).setCell ⟨w.heap.size + 1, 3, none⟩ (.int .i64 seed)).setCell ⟨w.heap.size + 1, 4, none⟩ (.int .i64 0)) (w.heap.size + 1) 154 #[.slice va vn vc, .int .i64 ((k : Int) + 1), .int .i64 x, .int .i64 seed, .int .i64 0] := blk_put5 Q2 _ _ _ _ _
        have BZ : Below w.heap.size w (((((x2.setCell ⟨w.heap.size + 1, 0, none⟩ (.slice va vn vc)).setCell ⟨w.heap.size + 1, 1, none⟩ (.int .i64 ((k : Int) + 1))).setCell ⟨w.heap.size + 1, 2, none⟩ (.int .i64 x)).setCell ⟨w.heap.size + 1, 3, none⟩ (.int .i64 seed)).setCell ⟨w.heap.size + 1, 4, none⟩ (.int .i64 0)) := (((((B2.setCell (p := ⟨w.heap.size + 1, 0, none⟩) (by dsimp only; omega) (.slice va vn vc)).setCell (p := ⟨w.heap.size + 1, 1, none⟩) (by dsimp only; omega) (.int .i64 ((k : Int) + 1))).setCell (p := ⟨w.heap.size + 1, 2, none⟩) (by dsimp only; omega) (.int .i64 x)).setCell (p := ⟨w.heap.size + 1, 3, none⟩) (by dsimp only; omega) (.int .i64 seed)).setCell (p := ⟨w.heap.size + 1, 4, none⟩) (by dsimp only; omega) (.int .i64 0))
        have KZ : Keeps (fun k => k ≠ w.heap.size + 1) x2 (((((x2.setCell ⟨w.heap.size + 1, 0, none⟩ (.slice va vn vc)).setCell ⟨w.heap.size + 1, 1, none⟩ (.int .i64 ((k : Int) + 1))).setCell ⟨w.heap.size + 1, 2, none⟩ (.int .i64 x)).setCell ⟨w.heap.size + 1, 3, none⟩ (.int .i64 seed)).setCell ⟨w.heap.size + 1, 4, none⟩ (.int .i64 0)) := keeps_five _ _ _ _ _ _ _
        refine oneH 14 (by kernel_rfl) (storeH rfl (w' := (((((x2.setCell ⟨w.heap.size + 1, 0, none⟩ (.slice va vn vc)).setCell ⟨w.heap.size + 1, 1, none⟩ (.int .i64 ((k : Int) + 1))).setCell ⟨w.heap.size + 1, 2, none⟩ (.int .i64 x)).setCell ⟨w.heap.size + 1, 3, none⟩ (.int .i64 seed)).setCell ⟨w.heap.size + 1, 4, none⟩ (.int .i64 0))) (nx := .skip) (by go_simp) (.inl rfl) (S2.trans KZ) ?_)
        try simp only [Act.put, List.setIfInBounds_toArray, List.set_cons_zero, List.set_cons_succ]
        refine wpAnyH_done (by kernel_rfl) ?_ _
        have own4 := rowKeep own3 KZ hge
        obtain ⟨Z, hZ⟩ : ∃ Z, (((((x2.setCell ⟨w.heap.size + 1, 0, none⟩ (.slice va vn vc)).setCell ⟨w.heap.size + 1, 1, none⟩ (.int .i64 ((k : Int) + 1))).setCell ⟨w.heap.size + 1, 2, none⟩ (.int .i64 x)).setCell ⟨w.heap.size + 1, 3, none⟩ (.int .i64 seed)).setCell ⟨w.heap.size + 1, 4, none⟩ (.int .i64 0)) = Z := ⟨_, rfl⟩
        rw [hZ] at RZ BZ own4 ⊢
        clear hZ g0 z0 g1 z1 g2 z2 g3 z3 g4 z4 KZ own3
        go_wp2
        have h0 : Z.cell? ⟨w.heap.size + 1, 0, none⟩ = some (.slice va vn vc) := RZ.cell 0
        have h1 : Z.cell? ⟨w.heap.size + 1, 1, none⟩ = some (.int .i64 ((k : Int) + 1)) := RZ.cell 1
        have h2 : Z.cell? ⟨w.heap.size + 1, 2, none⟩ = some (.int .i64 x) := RZ.cell 2
        have h3 : Z.cell? ⟨w.heap.size + 1, 3, none⟩ = some (.int .i64 seed) := RZ.cell 3
        have h4 : Z.cell? ⟨w.heap.size + 1, 4, none⟩ = some (.int .i64 0) := RZ.cell 4
        exact bodyPost_ret (v := .agg #[.slice va vn vc, .int .i64 ((k : Int) + 1), .int .i64 x, .int .i64 seed, .int .i64 0]) (by simp [results, Tryz.results149, go_sem, h0, h1, h2, h3, h4]) rfl ⟨_, rfl, own4, BZ⟩
      · rw [decide_eq_false hm]
        have HN2 : Hid (∀ j (hj : j < l.length), at0 ≤ j → j < k + 1 → l[j] ∉ nodes) := fun j hj h1 h2 => by
          by_cases e : j = k
          · subst e; rw [HX.out]; exact hm
          · exact HNO.out j hj h1 (by omega)
        clear HNO hm
        go_wp2
        go_roundw
        case rel => exact ⟨k + 1, by omega, by go_num, by omega, HN2.out, rfl⟩
        case measure => simp [intOf]; omega
    · obtain rfl : k = l.length := by omega
      have ho : o = ⟨(mixL (nodes.length - 1) nodes seed).1, 1, (mixL (nodes.length - 1) nodes seed).1.getD 0 0, (mixL (nodes.length - 1) nodes seed).2, 0⟩ := by
        rcases HO.out with ⟨e, _⟩ | ⟨_, i, hi, e⟩ | ⟨_, _, e⟩
        · exact absurd e HN0.out
        · obtain ⟨i1, i2, i3, i4⟩ := hi
          dsimp only at i1 i2 i3
          exact absurd i3 (HNO.out i i2 (by omega) i2)
        · exact e
      obtain ⟨M, hM⟩ : ∃ M, mixL (nodes.length - 1) nodes seed = M := ⟨_, rfl⟩
      have hMl : M.1.length = nodes.length := by rw [← hM]; exact mixL_length _ _ _
      rw [hM] at ho
      have HMM : Hid (mixL (nodes.length - 1) nodes seed = M) := hM
      have HML : Hid (M.1.length = nodes.length) := hMl
      obtain ⟨mix, ms⟩ := M
      dsimp only at ho
      subst ho
      clear HO HNO hMl hM
      go_wp2_with fail
      refine (l02Mix_any a1 cap1 nodes seed _ (by omega) hc1 s0 hsd.1 hsd.2).mono ?_
      rintro e z ⟨v, rfl, ov0, bz⟩
      rw [HMM.out] at ov0 ⊢
      dsimp only at ov0 ⊢
      have ov : z.ownsRow W.heap.size 2 1 v mix.length (numsV mix) := by rw [show mix.length = nodes.length from HML.out]; exact ov0
      have hmp : 0 < mix.length := by rw [show mix.length = nodes.length from HML.out]; exact List.length_pos_iff.2 HN0.out
      obtain ⟨g, gc, rfl⟩ : ∃ g gc, v = .slice (some ⟨g, 0, none⟩) mix.length gc := by
        rcases ov.2 with ⟨_, e⟩ | ⟨g, gc, cur, e, _⟩
        · omega
        · exact ⟨g, gc, e⟩
      have p1 := p0.keep bz
      have q1 := q0.keep bz
      have B1 := B0.trans (bz.mono B0.size)
      unfold shufOut
      clear p0 q0 r0 s0 B0 bz c0 ov0 HMM
      have bA : Below z.heap.size z (z.alloc (.cells #[.int .i64 ms, .slice (some ⟨g, 0, none⟩) mix.length gc] 199)) := (Below.refl _ _).alloc (Nat.le_refl _) _
      have X1 := BlkIs.new z 199 #[.int .i64 ms, .slice (some ⟨g, 0, none⟩) mix.length gc]
      have q2 := q1.keep bA
      have B2 := B1.trans (bA.mono B1.size)
      have ov2 := own_below ov bA
      obtain ⟨Y0, hY0⟩ : ∃ Y, z.alloc (.cells #[.int .i64 ms, .slice (some ⟨g, 0, none⟩) mix.length gc] 199) = Y := ⟨_, rfl⟩
      obtain ⟨kx, hkx⟩ : ∃ k, z.heap.size = k := ⟨_, rfl⟩
      rw [hY0] at X1 q2 B2 ov2
      rw [hkx] at X1
      have HY0 : Hid (_ = Y0) := hY0
      have HKX : Hid (z.heap.size = kx) := hkx
      have hzq : w.heap.size + 1 < kx := by rw [← hkx]; exact q1.lt
      have hWl : w.heap.size + 1 < W.heap.size := hqs
      have hgW : W.heap.size ≤ g := (ov2.lt g rfl).1
      clear hY0 hkx bA p1 q1 B1 ov
      go_upto_region 9 with fail
      rw [HY0.out, HKX.out]
      clear HY0 HKX
      obtain ⟨Y, hY⟩ : ∃ Y, Y0.drew = Y := ⟨_, rfl⟩
      have xY : BlkIs Y kx 199 #[.int .i64 ms, .slice (some ⟨g, 0, none⟩) mix.length gc] := by rw [← hY]; exact X1
      have qY : BlkIs Y (w.heap.size + 1) 154 #[.slice none 0 0, .int .i64 0, .int .i64 0, .int .i64 0, .int .i64 0] := by rw [← hY]; exact q2
      have BY : Below w.heap.size w Y := by rw [← hY]; exact B2.drew
      have oY : Y.ownsRow W.heap.size 2 1 (.slice (some ⟨g, 0, none⟩) mix.length gc) mix.length (numsV mix) := by rw [← hY]; exact ov2
      refine wp_region_held_drew (S := fun w' => Keeps (fun q => q ≠ w.heap.size + 1) Y w') (by kernel_rfl) ?hS0 (fun hHeld => ?_)
      case hS0 => rw [hY]; exact Keeps.refl _ _
      rw [hY] at hHeld ⊢
      clear hY X1 q2 B2 ov2
      have hgl := (oY.lt g rfl).2
      have cg : Y.cell? ⟨g, 0, none⟩ = some (.int .i64 (mix.getD 0 0)) := by rw [oY.cellAt 0 (by omega)]; exact numsV_at hmp
      have hmI : (0 : Int) < (mix.length : Int) := by omega
      refine takeG 0 (v := .pointer (some ⟨kx, 1, none⟩)) rfl (by kernel_rfl) (by kernel_rfl) (by kernel_rfl) (by kernel_rfl) (fun _ _ _ h => h) ?hy (by assumption) ?_
      case hy => (intro w' hSw; go_simp)
      try simp only [List.setIfInBounds_toArray, List.set_cons_zero, List.set_cons_succ]
      refine takeG 1 (v := .slice (some ⟨g, 0, none⟩) mix.length gc) rfl (by kernel_rfl) (by kernel_rfl) (by kernel_rfl) (by kernel_rfl) (fun _ _ _ h => h) ?hy (by assumption) ?_
      case hy => (intro w' hSw; have s0 := (show w'.cell? ⟨kx, 1, none⟩ = some (.slice (some ⟨g, 0, none⟩) mix.length gc) from (xY.keepK hSw (by omega)).cell 1); (try dsimp only at s0); go_simp)
      try simp only [List.setIfInBounds_toArray, List.set_cons_zero, List.set_cons_succ]
      refine takeG 2 (v := .agg #[.slice (some ⟨g, 0, none⟩) mix.length gc, .int .i64 1]) rfl (by kernel_rfl) (by kernel_rfl) (by kernel_rfl) (by kernel_rfl) (fun _ _ _ h => h) ?hy (by assumption) ?_
      case hy => (intro w' hSw; go_simp)
      try simp only [List.setIfInBounds_toArray, List.set_cons_zero, List.set_cons_succ]
      refine takeG 3 (v := .pointer (some ⟨kx, 1, none⟩)) rfl (by kernel_rfl) (by kernel_rfl) (by kernel_rfl) (by kernel_rfl) (fun _ _ _ h => h) ?hy (by assumption) ?_
      case hy => (intro w' hSw; go_simp)
      try simp only [List.setIfInBounds_toArray, List.set_cons_zero, List.set_cons_succ]
      refine takeG 4 (v := .slice (some ⟨g, 0, none⟩) mix.length gc) rfl (by kernel_rfl) (by kernel_rfl) (by kernel_rfl) (by kernel_rfl) (fun _ _ _ h => h) ?hy (by assumption) ?_
      case hy => (intro w' hSw; have s0 := (show w'.cell? ⟨kx, 1, none⟩ = some (.slice (some ⟨g, 0, none⟩) mix.length gc) from (xY.keepK hSw (by omega)).cell 1); (try dsimp only at s0); go_simp)
      try simp only [List.setIfInBounds_toArray, List.set_cons_zero, List.set_cons_succ]
      refine takeG 5 (v := .pointer (some ⟨g, 0, none⟩)) rfl (by kernel_rfl) (by kernel_rfl) (by kernel_rfl) (by kernel_rfl) (fun _ _ _ h => h) ?hy (by assumption) ?_
      case hy => (intro w' hSw; go_simp)
      try simp only [List.setIfInBounds_toArray, List.set_cons_zero, List.set_cons_succ]
      refine takeG 6 (v := .int .i64 (mix.getD 0 0)) rfl (by kernel_rfl) (by kernel_rfl) (by kernel_rfl) (by kernel_rfl) (fun _ _ _ h => h) ?hy (by assumption) ?_
      case hy => (intro w' hSw; have s0 := (hSw.cell (p := ⟨g, 0, none⟩) hgl (show g ≠ w.heap.size + 1 by omega)).trans cg; (try dsimp only at s0); go_simp)
      try simp only [List.setIfInBounds_toArray, List.set_cons_zero, List.set_cons_succ]
      refine takeG 7 (v := .pointer (some ⟨kx, 0, none⟩)) rfl (by kernel_rfl) (by kernel_rfl) (by kernel_rfl) (by kernel_rfl) (fun _ _ _ h => h) ?hy (by assumption) ?_
      case hy => (intro w' hSw; go_simp)
      try simp only [List.setIfInBounds_toArray, List.set_cons_zero, List.set_cons_succ]
      refine takeG 8 (v := .int .i64 ms) rfl (by kernel_rfl) (by kernel_rfl) (by kernel_rfl) (by kernel_rfl) (fun _ _ _ h => h) ?hy (by assumption) ?_
      case hy => (intro w' hSw; have s0 := (show w'.cell? ⟨kx, 0, none⟩ = some (.int .i64 ms) from (xY.keepK hSw (by omega)).cell 0); (try dsimp only at s0); go_simp)
      try simp only [List.setIfInBounds_toArray, List.set_cons_zero, List.set_cons_succ]
      refine takeG 9 (v := .agg #[.slice (some ⟨g, 0, none⟩) mix.length gc, .int .i64 1, .int .i64 (mix.getD 0 0), .int .i64 ms, .int .i64 0]) rfl (by kernel_rfl) (by kernel_rfl) (by kernel_rfl) (by kernel_rfl) (fun _ _ _ h => h) ?hy (by assumption) ?_
      case hy => (intro w' hSw; go_simp)
      try simp only [List.setIfInBounds_toArray, List.set_cons_zero, List.set_cons_succ]
      have hge : ∀ q, Value.ownBlock (.slice (some ⟨g, 0, none⟩) mix.length gc) = some q → q ≠ w.heap.size + 1 := fun q hq => by have := (oY.lt q hq).1; omega
      have own3 : Y.ownsRow w.heap.size 2 1 (.slice (some ⟨g, 0, none⟩) mix.length gc) mix.length (numsV mix) := rowLeN oY (by omega)
      have g0 : Y.cell? ⟨w.heap.size + 1, 0, none⟩ = some (.slice none 0 0) := qY.cell 0
      have z0 := qY.fz 0
      have g1 : Y.cell? ⟨w.heap.size + 1, 1, none⟩ = some (.int .i64 0) := qY.cell 1
      have z1 := qY.fz 1
      have g2 : Y.cell? ⟨w.heap.size + 1, 2, none⟩ = some (.int .i64 0) := qY.cell 2
      have z2 := qY.fz 2
      have g3 : Y.cell? ⟨w.heap.size + 1, 3, none⟩ = some (.int .i64 0) := qY.cell 3
      have z3 := qY.fz 3
      have g4 : Y.cell? ⟨w.heap.size + 1, 4, none⟩ = some (.int .i64 0) := qY.cell 4
      have z4 := qY.fz 4
      have RZ : BlkIs (((((Y.setCell ⟨w.heap.size + 1, 0, none⟩ (.slice (some ⟨g, 0, none⟩) mix.length gc)).setCell ⟨w.heap.size + 1, 1, none⟩ (.int .i64 1)).setCell ⟨w.heap.size + 1, 2, none⟩ (.int .i64 (mix.getD 0 0))).setCell ⟨w.heap.size + 1, 3, none⟩ (.int .i64 ms)).setCell ⟨w.heap.size + 1, 4, none⟩ (.int .i64 0)) (w.heap.size + 1) 154 #[.slice (some ⟨g, 0, none⟩) mix.length gc, .int .i64 1, .int .i64 (mix.getD 0 0), .int .i64 ms, .int .i64 0] := blk_put5 qY _ _ _ _ _
      have BZ : Below w.heap.size w (((((Y.setCell ⟨w.heap.size + 1, 0, none⟩ (.slice (some ⟨g, 0, none⟩) mix.length gc)).setCell ⟨w.heap.size + 1, 1, none⟩ (.int .i64 1)).setCell ⟨w.heap.size + 1, 2, none⟩ (.int .i64 (mix.getD 0 0))).setCell ⟨w.heap.size + 1, 3, none⟩ (.int .i64 ms)).setCell ⟨w.heap.size + 1, 4, none⟩ (.int .i64 0)) := (((((BY.setCell (p := ⟨w.heap.size + 1, 0, none⟩) (by dsimp only; omega) (.slice (some ⟨g, 0, none⟩) mix.length gc)).setCell (p := ⟨w.heap.size + 1, 1, none⟩) (by dsimp only; omega) (.int .i64 1)).setCell (p := ⟨w.heap.size + 1, 2, none⟩) (by dsimp only; omega) (.int .i64 (mix.getD 0 0))).setCell (p := ⟨w.heap.size + 1, 3, none⟩) (by dsimp only; omega) (.int .i64 ms)).setCell (p := ⟨w.heap.size + 1, 4, none⟩) (by dsimp only; omega) (.int .i64 0))
      have KZ : Keeps (fun k => k ≠ w.heap.size + 1) Y (((((Y.setCell ⟨w.heap.size + 1, 0, none⟩ (.slice (some ⟨g, 0, none⟩) mix.length gc)).setCell ⟨w.heap.size + 1, 1, none⟩ (.int .i64 1)).setCell ⟨w.heap.size + 1, 2, none⟩ (.int .i64 (mix.getD 0 0))).setCell ⟨w.heap.size + 1, 3, none⟩ (.int .i64 ms)).setCell ⟨w.heap.size + 1, 4, none⟩ (.int .i64 0)) := keeps_five _ _ _ _ _ _ _
      refine oneH 10 (by kernel_rfl) (storeH rfl (w' := (((((Y.setCell ⟨w.heap.size + 1, 0, none⟩ (.slice (some ⟨g, 0, none⟩) mix.length gc)).setCell ⟨w.heap.size + 1, 1, none⟩ (.int .i64 1)).setCell ⟨w.heap.size + 1, 2, none⟩ (.int .i64 (mix.getD 0 0))).setCell ⟨w.heap.size + 1, 3, none⟩ (.int .i64 ms)).setCell ⟨w.heap.size + 1, 4, none⟩ (.int .i64 0))) (nx := .skip) (by go_simp) (.inl rfl) (hHeld.trans KZ) ?_)
      try simp only [Act.put, List.setIfInBounds_toArray, List.set_cons_zero, List.set_cons_succ]
      refine wpAnyH_done (by kernel_rfl) ?_ _
      have own4 := rowKeep own3 KZ hge
      obtain ⟨Z, hZ⟩ : ∃ Z, (((((Y.setCell ⟨w.heap.size + 1, 0, none⟩ (.slice (some ⟨g, 0, none⟩) mix.length gc)).setCell ⟨w.heap.size + 1, 1, none⟩ (.int .i64 1)).setCell ⟨w.heap.size + 1, 2, none⟩ (.int .i64 (mix.getD 0 0))).setCell ⟨w.heap.size + 1, 3, none⟩ (.int .i64 ms)).setCell ⟨w.heap.size + 1, 4, none⟩ (.int .i64 0)) = Z := ⟨_, rfl⟩
      rw [hZ] at RZ BZ own4 ⊢
      clear hZ g0 z0 g1 z1 g2 z2 g3 z3 g4 z4 KZ own3
      go_wp2
      have h0 : Z.cell? ⟨w.heap.size + 1, 0, none⟩ = some (.slice (some ⟨g, 0, none⟩) mix.length gc) := RZ.cell 0
      have h1 : Z.cell? ⟨w.heap.size + 1, 1, none⟩ = some (.int .i64 1) := RZ.cell 1
      have h2 : Z.cell? ⟨w.heap.size + 1, 2, none⟩ = some (.int .i64 (mix.getD 0 0)) := RZ.cell 2
      have h3 : Z.cell? ⟨w.heap.size + 1, 3, none⟩ = some (.int .i64 ms) := RZ.cell 3
      have h4 : Z.cell? ⟨w.heap.size + 1, 4, none⟩ = some (.int .i64 0) := RZ.cell 4
      exact bodyPost_ret (v := .agg #[.slice (some ⟨g, 0, none⟩) mix.length gc, .int .i64 1, .int .i64 (mix.getD 0 0), .int .i64 ms, .int .i64 0]) (by simp [results, Tryz.results149, go_sem, h0, h1, h2, h3, h4]) rfl ⟨_, rfl, own4, BZ⟩
end Go.Proofs.YtmdcankfjmkkeaaGreat
