/- The contracts of ViewAt: the program's and the specification's. -/
import Derived.Test.YtmdcankfjmkkeaaGreatG4
import Derived.Test.YtmdcankfjmkkeaaGreatVRightI
import Derived.Test.YtmdcankfjmkkeaaGreatVRightS
namespace Go.Proofs.YtmdcankfjmkkeaaGreat
open Go Go.RowKit
set_option linter.unusedVariables false

/-- The fact of a node, or the zero one. -/
def atF (l : List FactV) (n : Int) : FactV := (look l n).getD factZ
def AtIs (l : List FactV) (n : Int) (m : FactV) : Prop := (rightV l ∧ m = atF l n) ∨ (¬ rightV l ∧ m = factZ)
theorem atIs_ex (l : List FactV) (n : Int) : ∃ m, AtIs l n m := by
  by_cases h : rightV l
  · exact ⟨_, .inl ⟨h, rfl⟩⟩
  · exact ⟨_, .inr ⟨h, rfl⟩⟩
theorem look_at {l : List FactV} {n : Int} {k : Nat} (h1 : ∀ j (h : j < l.length), j < k → l[j].node ≠ n) (hk : k < l.length) (h2 : l[k].node = n) : look l n = some l[k] := by
  induction l generalizing k with
  | nil => simp at hk
  | cons x r ih =>
    rw [look_cons]
    cases k with
    | zero => rw [if_pos (by simpa using h2)]; rfl
    | succ k =>
      have := h1 0 (by simp) (by omega)
      rw [if_neg (by simpa using this)]
      simp only [List.getElem_cons_succ]
      exact ih (fun j hj hjk => by have := h1 (j + 1) (by simpa using hj) (by omega); simpa using this) (by simpa using hk) (by simpa using h2)
theorem look_not {l : List FactV} {n : Int} (h1 : ∀ j (h : j < l.length), l[j].node ≠ n) : look l n = none := look_none.2 fun x hx => by
  obtain ⟨i, hi, rfl⟩ := List.getElem_of_mem hx
  exact h1 i hi
theorem atF_there {l : List FactV} {n : Int} {k : Nat} (hr : riseV l) (h : k < l.length) (e : l[k].node = n) : atF l n = l[k] := by
  unfold atF
  rw [← e, look_of hr (List.getElem_mem h)]; rfl
theorem atF_not {l : List FactV} {n : Int} {k : Nat} (hr : riseV l) (hp : placeF l n k) (h : ¬ thereF l n k) : atF l n = factZ := by
  unfold atF
  rw [look_not]
  · rfl
  · intro j hj e
    rcases Nat.lt_trichotomy j k with c | c | c
    · have := hp.2.1 j hj c; omega
    · subst c; exact h ⟨hj, e⟩
    · have h1 := hp.2.2 k (by omega) (Nat.le_refl _)
      have h2 := rise_at hr c hj
      omega
set_option maxHeartbeats 2000000 in
set_option maxRecDepth 100000 in
theorem implAt_any (a : Option Addr) (cap : Nat) (l : List FactV) (n : Int) (m : FactV) (hm : AtIs l n m) (w : World) (hl : l.length ≤ 1048576) (hrow : CellRow w a (cellsOf FactV.cells l)) :
    Calls Tryz.prog 32 #[.slice a l.length cap, .int .i64 n] w fun e w' => e = .returned m.val ∧ Below w.heap.size w w' := by
  obtain ⟨r, hr⟩ := tells_bool (rightV l)
  have HR : Hid (r = true ↔ rightV l) := hr
  have HM : Hid (AtIs l n m) := hm
  clear hr hm
  have p3 := BlkIs.new w 54 #[.int .i64 0, .int .i64 0, .int .i64 0]
  have B0 := (Below.refl w.heap.size w).alloc (Nat.le_refl _) (.cells #[.int .i64 0, .int .i64 0, .int .i64 0] 54)
  have hrow0 := hrow.keep B0
  obtain ⟨W, hW⟩ : ∃ W, w.alloc (.cells #[.int .i64 0, .int .i64 0, .int .i64 0] 54) = W := ⟨_, rfl⟩
  rw [hW] at p3 B0 hrow0
  have HW : Hid (_ = W) := hW
  clear hW
  go_enter Tryz.func32, Tryz.ntmps32
  go_wp2_with fail
  rw [HW.out]
  refine (implVRight_is a cap l _ r HR.out hl hrow0).mono ?_
  rintro e z1 ⟨rfl, b1⟩
  have q3 := p3.keep b1
  have hrow1 := hrow0.keep b1
  have B1 := B0.trans (b1.mono B0.size)
  have g0 : z1.cell? ⟨w.heap.size, 0, none⟩ = some (.int .i64 0) := q3.cell 0
  have f0 := q3.fz 0
  have g1 : z1.cell? ⟨w.heap.size, 1, none⟩ = some (.int .i64 0) := q3.cell 1
  have f1 := q3.fz 1
  have g2 : z1.cell? ⟨w.heap.size, 2, none⟩ = some (.int .i64 0) := q3.cell 2
  have f2 := q3.fz 2
  clear p3 hrow0 B0 b1 HW
  cases r with
  | false =>
    have HV : Hid (m = factZ) := HM.out.elim (fun h => by have := HR.out.2 h.1; cases this) (fun h => h.2)
    clear HM HR
    go_wp2
    have Q := fact_put q3 0 0 0
    have BB := ((B1.setCell (p := ⟨w.heap.size, 0, none⟩) (Nat.le_refl _) (.int .i64 0)).setCell (p := ⟨w.heap.size, 1, none⟩) (Nat.le_refl _) (.int .i64 0)).setCell (p := ⟨w.heap.size, 2, none⟩) (Nat.le_refl _) (.int .i64 0)
    obtain ⟨z6, hz6⟩ : ∃ z6, (((z1.setCell ⟨w.heap.size, 0, none⟩ (.int .i64 0)).setCell ⟨w.heap.size, 1, none⟩ (.int .i64 0)).setCell ⟨w.heap.size, 2, none⟩ (.int .i64 0)) = z6 := ⟨_, rfl⟩
    rw [hz6] at Q BB ⊢
    have e0 : z6.cell? ⟨w.heap.size, 0, none⟩ = some (.int .i64 0) := Q.cell 0
    have e1 : z6.cell? ⟨w.heap.size, 1, none⟩ = some (.int .i64 0) := Q.cell 1
    have e2 : z6.cell? ⟨w.heap.size, 2, none⟩ = some (.int .i64 0) := Q.cell 2
    exact bodyPost_ret (v := .agg #[.int .i64 0, .int .i64 0, .int .i64 0]) (by simp [results, Tryz.results32, go_sem, e0, e1, e2]) rfl ⟨by rw [HV.out]; rfl, BB⟩
  | true =>
    have hri : rightV l := HR.out.1 rfl
    have HV : Hid (m = atF l n) := HM.out.elim (fun h => h.2) (fun h => absurd hri h.1)
    have HRi : Hid (riseV l) := rightV_rise hri
    clear HM HR hri g0 g1 g2 f0 f1 f2
    go_wp2_with fail
    refine (fsearch_any a cap l n _ hl hrow1 HRi.out).mono ?_
    rintro e z2 ⟨k, rt, rfl, hp, ht, b2⟩
    have q4 := q3.keep b2
    have hrow2 := hrow1.keep b2
    have B2 := B1.trans (b2.mono B1.size)
    have g0 : z2.cell? ⟨w.heap.size, 0, none⟩ = some (.int .i64 0) := q4.cell 0
    have f0 := q4.fz 0
    have g1 : z2.cell? ⟨w.heap.size, 1, none⟩ = some (.int .i64 0) := q4.cell 1
    have f1 := q4.fz 1
    have g2 : z2.cell? ⟨w.heap.size, 2, none⟩ = some (.int .i64 0) := q4.cell 2
    have f2 := q4.fz 2
    clear q3 hrow1 B1 b2
    cases rt with
    | false =>
      have HZ : Hid (m = factZ) := HV.out.trans (atF_not HRi.out hp (fun h => by have := ht.2 h; cases this))
      clear HV HRi hp ht
      go_wp2
      have Q := fact_put q4 0 0 0
      have BB := ((B2.setCell (p := ⟨w.heap.size, 0, none⟩) (Nat.le_refl _) (.int .i64 0)).setCell (p := ⟨w.heap.size, 1, none⟩) (Nat.le_refl _) (.int .i64 0)).setCell (p := ⟨w.heap.size, 2, none⟩) (Nat.le_refl _) (.int .i64 0)
      obtain ⟨z6, hz6⟩ : ∃ z6, (((z2.setCell ⟨w.heap.size, 0, none⟩ (.int .i64 0)).setCell ⟨w.heap.size, 1, none⟩ (.int .i64 0)).setCell ⟨w.heap.size, 2, none⟩ (.int .i64 0)) = z6 := ⟨_, rfl⟩
      rw [hz6] at Q BB ⊢
      have e0 : z6.cell? ⟨w.heap.size, 0, none⟩ = some (.int .i64 0) := Q.cell 0
      have e1 : z6.cell? ⟨w.heap.size, 1, none⟩ = some (.int .i64 0) := Q.cell 1
      have e2 : z6.cell? ⟨w.heap.size, 2, none⟩ = some (.int .i64 0) := Q.cell 2
      exact bodyPost_ret (v := .agg #[.int .i64 0, .int .i64 0, .int .i64 0]) (by simp [results, Tryz.results32, go_sem, e0, e1, e2]) rfl ⟨by rw [HZ.out]; rfl, BB⟩
    | true =>
      obtain ⟨hk, he⟩ := ht.1 rfl
      have hmk : m = l[k] := HV.out.trans (atF_there HRi.out hk he)
      obtain ⟨b, off, rfl⟩ := hrow2.addr (by rw [cellsOf_length FactV.cells_len]; omega)
      obtain ⟨m1, m2, m3⟩ := m
      obtain ⟨_, s0, s1, s2⟩ := hrow2.fact hk hmk.symm
      have hkI : (k : Int) < (l.length : Int) := by omega
      have hne : b ≠ w.heap.size := by
        rcases hrow with h | ⟨b', o', e, hlt, _⟩
        · have := cellsOf_length FactV.cells_len l; rw [h] at this; simp at this; omega
        · have : b = b' := by simpa using congrArg (Option.map Addr.block) e
          omega
      clear HV HRi hp ht hmk he hrow2 hrow
      dsimp only at s0 s1 s2
      go_wp2
      have Q := fact_put q4 m1 m2 m3
      have BB := ((B2.setCell (p := ⟨w.heap.size, 0, none⟩) (Nat.le_refl _) (.int .i64 m1)).setCell (p := ⟨w.heap.size, 1, none⟩) (Nat.le_refl _) (.int .i64 m2)).setCell (p := ⟨w.heap.size, 2, none⟩) (Nat.le_refl _) (.int .i64 m3)
      obtain ⟨z6, hz6⟩ : ∃ z6, (((z2.setCell ⟨w.heap.size, 0, none⟩ (.int .i64 m1)).setCell ⟨w.heap.size, 1, none⟩ (.int .i64 m2)).setCell ⟨w.heap.size, 2, none⟩ (.int .i64 m3)) = z6 := ⟨_, rfl⟩
      rw [hz6] at Q BB ⊢
      have e0 : z6.cell? ⟨w.heap.size, 0, none⟩ = some (.int .i64 m1) := Q.cell 0
      have e1 : z6.cell? ⟨w.heap.size, 1, none⟩ = some (.int .i64 m2) := Q.cell 1
      have e2 : z6.cell? ⟨w.heap.size, 2, none⟩ = some (.int .i64 m3) := Q.cell 2
      exact bodyPost_ret (v := .agg #[.int .i64 m1, .int .i64 m2, .int .i64 m3]) (by simp [results, Tryz.results32, go_sem, e0, e1, e2]) rfl ⟨rfl, BB⟩
set_option maxHeartbeats 2000000 in
set_option maxRecDepth 100000 in
theorem specL04At_any (a : Option Addr) (cap : Nat) (l : List FactV) (n : Int) (m : FactV) (hm : m = atF l n) (w : World) (hl : l.length ≤ 1048576) (hrow : CellRow w a (cellsOf FactV.cells l)) :
    Calls Tryz.prog 94 #[.slice a l.length cap, .int .i64 n] w fun e w' => e = .returned m.val ∧ Below w.heap.size w w' := by
  have HM : Hid (m = atF l n) := hm
  clear hm
  have p3 := BlkIs.new w 54 #[.int .i64 0, .int .i64 0, .int .i64 0]
  have B0 := (Below.refl w.heap.size w).alloc (Nat.le_refl _) (.cells #[.int .i64 0, .int .i64 0, .int .i64 0] 54)
  have hrow0 := hrow.keep B0
  obtain ⟨W, hW⟩ : ∃ W, w.alloc (.cells #[.int .i64 0, .int .i64 0, .int .i64 0] 54) = W := ⟨_, rfl⟩
  rw [hW] at p3 B0 hrow0
  have HW : Hid (_ = W) := hW
  clear hW
  have g0 : W.cell? ⟨w.heap.size, 0, none⟩ = some (.int .i64 0) := p3.cell 0
  have f0 := p3.fz 0
  have g1 : W.cell? ⟨w.heap.size, 1, none⟩ = some (.int .i64 0) := p3.cell 1
  have f1 := p3.fz 1
  have g2 : W.cell? ⟨w.heap.size, 2, none⟩ = some (.int .i64 0) := p3.cell 2
  have f2 := p3.fz 2
  go_enter Tryz.func94, Tryz.ntmps94
  go_wp2
  rw [HW.out]
  go_loopw [5] (fun i wr => ∃ k : Nat, k ≤ l.length ∧ i = .int .i64 k ∧ (∀ j (h : j < l.length), j < k → l[j].node ≠ n) ∧ wr = W) (fun i _ => l.length - (intOf i).toNat)
  case atStart => exact ⟨0, Nat.zero_le _, rfl, fun j _ hj => absurd hj (by omega), rfl⟩
  case round =>
    obtain ⟨k, hk, rfl, hn, rfl⟩ := hrel
    clear HW
    have HN : Hid (∀ j (h : j < l.length), j < k → l[j].node ≠ n) := hn
    clear hn
    by_cases hx : k < l.length
    · obtain ⟨b, off, rfl⟩ := hrow.addr (by rw [cellsOf_length FactV.cells_len]; omega)
      have hkI : (k : Int) < (l.length : Int) := by omega
      obtain ⟨x, hlx⟩ : ∃ x, l[k] = x := ⟨_, rfl⟩
      obtain ⟨x1, x2, x3⟩ := x
      obtain ⟨_, s0, s1, s2⟩ := hrow0.fact hx hlx
      dsimp only at s0 s1 s2
      have hne : b ≠ w.heap.size := by
        rcases hrow with h | ⟨b', o', e, hlt, _⟩
        · have := cellsOf_length FactV.cells_len l; rw [h] at this; simp at this; omega
        · have : b = b' := by simpa using congrArg (Option.map Addr.block) e
          omega
      by_cases hc : x1 = n
      · have hc' : (x1 == n) = true := beq_iff_eq.2 hc
        have HV : Hid (m = ⟨x1, x2, x3⟩) := by
          show _ = _
          rw [HM.out, ← hlx]
          unfold atF
          rw [look_at HN.out hx (by rw [hlx]; exact hc)]; rfl
        clear HM HN hlx hc hrow hrow0
        go_wp2
        have Q := fact_put p3 x1 x2 x3
        have BB := ((B0.setCell (p := ⟨w.heap.size, 0, none⟩) (Nat.le_refl _) (.int .i64 x1)).setCell (p := ⟨w.heap.size, 1, none⟩) (Nat.le_refl _) (.int .i64 x2)).setCell (p := ⟨w.heap.size, 2, none⟩) (Nat.le_refl _) (.int .i64 x3)
        obtain ⟨z6, hz6⟩ : ∃ z6, (((wr.setCell ⟨w.heap.size, 0, none⟩ (.int .i64 x1)).setCell ⟨w.heap.size, 1, none⟩ (.int .i64 x2)).setCell ⟨w.heap.size, 2, none⟩ (.int .i64 x3)) = z6 := ⟨_, rfl⟩
        rw [hz6] at Q BB ⊢
        have e0 : z6.cell? ⟨w.heap.size, 0, none⟩ = some (.int .i64 x1) := Q.cell 0
        have e1 : z6.cell? ⟨w.heap.size, 1, none⟩ = some (.int .i64 x2) := Q.cell 1
        have e2 : z6.cell? ⟨w.heap.size, 2, none⟩ = some (.int .i64 x3) := Q.cell 2
        exact bodyPost_ret (v := .agg #[.int .i64 x1, .int .i64 x2, .int .i64 x3]) (by simp [results, Tryz.results94, go_sem, e0, e1, e2]) rfl ⟨by rw [HV.out]; rfl, BB⟩
      · have hc' : (x1 == n) = false := beq_eq_false_iff_ne.2 hc
        have HN2 : Hid (∀ j (h : j < l.length), j < k + 1 → l[j].node ≠ n) := fun j hj hjk => by
          by_cases e : j = k
          · subst e; rw [hlx]; exact hc
          · exact HN.out j hj (by omega)
        clear HN hlx hc
        go_wp2
        go_roundw
        case rel => exact ⟨k + 1, by omega, by go_num, HN2.out, by first | rfl | trivial⟩
        case measure => simp [intOf]; omega
    · obtain rfl : k = l.length := by omega
      have HV : Hid (m = factZ) := by
        show _ = _
        rw [HM.out]
        unfold atF
        rw [look_not (fun j hj => HN.out j hj hj)]; rfl
      clear HM HN
      go_wp2
      have Q := fact_put p3 0 0 0
      have BB := ((B0.setCell (p := ⟨w.heap.size, 0, none⟩) (Nat.le_refl _) (.int .i64 0)).setCell (p := ⟨w.heap.size, 1, none⟩) (Nat.le_refl _) (.int .i64 0)).setCell (p := ⟨w.heap.size, 2, none⟩) (Nat.le_refl _) (.int .i64 0)
      obtain ⟨z6, hz6⟩ : ∃ z6, (((wr.setCell ⟨w.heap.size, 0, none⟩ (.int .i64 0)).setCell ⟨w.heap.size, 1, none⟩ (.int .i64 0)).setCell ⟨w.heap.size, 2, none⟩ (.int .i64 0)) = z6 := ⟨_, rfl⟩
      rw [hz6] at Q BB ⊢
      have e0 : z6.cell? ⟨w.heap.size, 0, none⟩ = some (.int .i64 0) := Q.cell 0
      have e1 : z6.cell? ⟨w.heap.size, 1, none⟩ = some (.int .i64 0) := Q.cell 1
      have e2 : z6.cell? ⟨w.heap.size, 2, none⟩ = some (.int .i64 0) := Q.cell 2
      exact bodyPost_ret (v := .agg #[.int .i64 0, .int .i64 0, .int .i64 0]) (by simp [results, Tryz.results94, go_sem, e0, e1, e2]) rfl ⟨by rw [HV.out]; rfl, BB⟩
set_option maxHeartbeats 2000000 in
set_option maxRecDepth 100000 in
theorem specAt_any (a : Option Addr) (cap : Nat) (l : List FactV) (n : Int) (m : FactV) (hm : AtIs l n m) (w : World) (hl : l.length ≤ 1048576) (hrow : CellRow w a (cellsOf FactV.cells l)) :
    Calls Tryz.prog 30 #[.slice a l.length cap, .int .i64 n] w fun e w' => e = .returned m.val ∧ Below w.heap.size w w' := by
  obtain ⟨r, hr⟩ := tells_bool (rightV l)
  have HR : Hid (r = true ↔ rightV l) := hr
  have HM : Hid (AtIs l n m) := hm
  clear hr hm
  have p3 := BlkIs.new w 54 #[.int .i64 0, .int .i64 0, .int .i64 0]
  have B0 := (Below.refl w.heap.size w).alloc (Nat.le_refl _) (.cells #[.int .i64 0, .int .i64 0, .int .i64 0] 54)
  have hrow0 := hrow.keep B0
  obtain ⟨W, hW⟩ : ∃ W, w.alloc (.cells #[.int .i64 0, .int .i64 0, .int .i64 0] 54) = W := ⟨_, rfl⟩
  rw [hW] at p3 B0 hrow0
  have HW : Hid (_ = W) := hW
  clear hW
  go_enter Tryz.func30, Tryz.ntmps30
  go_wp2_with fail
  rw [HW.out]
  refine (specVRight_is a cap l _ r HR.out hl hrow0).mono ?_
  rintro e z1 ⟨rfl, b1⟩
  have q3 := p3.keep b1
  have hrow1 := hrow0.keep b1
  have B1 := B0.trans (b1.mono B0.size)
  have g0 : z1.cell? ⟨w.heap.size, 0, none⟩ = some (.int .i64 0) := q3.cell 0
  have f0 := q3.fz 0
  have g1 : z1.cell? ⟨w.heap.size, 1, none⟩ = some (.int .i64 0) := q3.cell 1
  have f1 := q3.fz 1
  have g2 : z1.cell? ⟨w.heap.size, 2, none⟩ = some (.int .i64 0) := q3.cell 2
  have f2 := q3.fz 2
  clear p3 hrow0 B0 b1 HW
  cases r with
  | false =>
    have HV : Hid (m = factZ) := HM.out.elim (fun h => by have := HR.out.2 h.1; cases this) (fun h => h.2)
    clear HM HR
    go_wp2
    have Q := fact_put q3 0 0 0
    have BB := ((B1.setCell (p := ⟨w.heap.size, 0, none⟩) (Nat.le_refl _) (.int .i64 0)).setCell (p := ⟨w.heap.size, 1, none⟩) (Nat.le_refl _) (.int .i64 0)).setCell (p := ⟨w.heap.size, 2, none⟩) (Nat.le_refl _) (.int .i64 0)
    obtain ⟨z6, hz6⟩ : ∃ z6, (((z1.setCell ⟨w.heap.size, 0, none⟩ (.int .i64 0)).setCell ⟨w.heap.size, 1, none⟩ (.int .i64 0)).setCell ⟨w.heap.size, 2, none⟩ (.int .i64 0)) = z6 := ⟨_, rfl⟩
    rw [hz6] at Q BB ⊢
    have e0 : z6.cell? ⟨w.heap.size, 0, none⟩ = some (.int .i64 0) := Q.cell 0
    have e1 : z6.cell? ⟨w.heap.size, 1, none⟩ = some (.int .i64 0) := Q.cell 1
    have e2 : z6.cell? ⟨w.heap.size, 2, none⟩ = some (.int .i64 0) := Q.cell 2
    exact bodyPost_ret (v := .agg #[.int .i64 0, .int .i64 0, .int .i64 0]) (by simp [results, Tryz.results30, go_sem, e0, e1, e2]) rfl ⟨by rw [HV.out]; rfl, BB⟩
  | true =>
    have hri : rightV l := HR.out.1 rfl
    have HV : Hid (m = atF l n) := HM.out.elim (fun h => h.2) (fun h => absurd hri h.1)
    clear HM HR hri g0 g1 g2 f0 f1 f2
    go_wp2_with fail
    refine (specL04At_any a cap l n m HV.out _ hl hrow1).mono ?_
    rintro e z2 ⟨rfl, b2⟩
    have q4 := q3.keep b2
    have B2 := B1.trans (b2.mono B1.size)
    obtain ⟨m1, m2, m3⟩ := m
    unfold FactV.val
    dsimp only
    have g0 : z2.cell? ⟨w.heap.size, 0, none⟩ = some (.int .i64 0) := q4.cell 0
    have f0 := q4.fz 0
    have g1 : z2.cell? ⟨w.heap.size, 1, none⟩ = some (.int .i64 0) := q4.cell 1
    have f1 := q4.fz 1
    have g2 : z2.cell? ⟨w.heap.size, 2, none⟩ = some (.int .i64 0) := q4.cell 2
    have f2 := q4.fz 2
    clear q3 hrow1 B1 b2 HV
    go_wp2
    have Q := fact_put q4 m1 m2 m3
    have BB := ((B2.setCell (p := ⟨w.heap.size, 0, none⟩) (Nat.le_refl _) (.int .i64 m1)).setCell (p := ⟨w.heap.size, 1, none⟩) (Nat.le_refl _) (.int .i64 m2)).setCell (p := ⟨w.heap.size, 2, none⟩) (Nat.le_refl _) (.int .i64 m3)
    obtain ⟨z6, hz6⟩ : ∃ z6, (((z2.setCell ⟨w.heap.size, 0, none⟩ (.int .i64 m1)).setCell ⟨w.heap.size, 1, none⟩ (.int .i64 m2)).setCell ⟨w.heap.size, 2, none⟩ (.int .i64 m3)) = z6 := ⟨_, rfl⟩
    rw [hz6] at Q BB ⊢
    have e0 : z6.cell? ⟨w.heap.size, 0, none⟩ = some (.int .i64 m1) := Q.cell 0
    have e1 : z6.cell? ⟨w.heap.size, 1, none⟩ = some (.int .i64 m2) := Q.cell 1
    have e2 : z6.cell? ⟨w.heap.size, 2, none⟩ = some (.int .i64 m3) := Q.cell 2
    exact bodyPost_ret (v := .agg #[.int .i64 m1, .int .i64 m2, .int .i64 m3]) (by simp [results, Tryz.results30, go_sem, e0, e1, e2]) rfl ⟨rfl, BB⟩
end Go.Proofs.YtmdcankfjmkkeaaGreat
