/- The contracts of the exact laws' helpers over mails: copy, compare, measure. -/
import Derived.Test.YtpjdkgcdkfmkiaaMailArgs
import Derived.Test.YtpjdkgcdkfmkiaaKeep
import Derived.Test.YtpjdkgcdkfmkiaaFactOne
namespace Go.Proofs.Ytpjdkgcdkfmkiaa
open Go Go.RowKit
set_option linter.unusedVariables false

theorem blk7_cells {W : World} {b t : Nat} {u0 u1 u2 u3 u4 u5 u6 : Value} (h : BlkIs W b t #[u0, u1, u2, u3, u4, u5, u6]) :
    W.cell? ⟨b, 0, none⟩ = some u0 ∧ W.cell? ⟨b, 1, none⟩ = some u1 ∧ W.cell? ⟨b, 2, none⟩ = some u2 ∧ W.cell? ⟨b, 3, none⟩ = some u3 ∧ W.cell? ⟨b, 4, none⟩ = some u4 ∧ W.cell? ⟨b, 5, none⟩ = some u5 ∧ W.cell? ⟨b, 6, none⟩ = some u6 :=
  ⟨h.cell 0, h.cell 1, h.cell 2, h.cell 3, h.cell 4, h.cell 5, h.cell 6⟩
theorem szMail_any (m : MailA) (left : Int) (w : World) (h0 : 0 ≤ left) (h1 : left ≤ 1048576) (hl : m.l.length ≤ 9223372036854775807) :
    Calls Try.prog 5 #[m.val, .int .i64 left] w fun e w' => e = .returned (.int .i64 (leftOf left m.l.length)) ∧ Below w.heap.size w w' := by
  obtain ⟨k, f, t, n, a, r, p, cap, l⟩ := m
  unfold MailA.val
  dsimp only at hl ⊢
  have b1 := (Below.refl w.heap.size w).alloc (Nat.le_refl _) (.cells #[.int .i64 k, .int .i64 f, .int .i64 t, .int .i64 n, .int .i64 a, .int .i64 r, .slice p l.length cap] 24)
  go_enter Try.func5, Try.ntmps5
  go_wp2_with fail
  refine (szFacts_any p cap l.length left _ h0 h1 hl).mono ?_
  rintro e x ⟨rfl, rfl⟩
  by_cases hs : leftOf left l.length < 0
  · have e1 : leftOf left l.length = -1 := by
      unfold leftOf at hs ⊢
      by_cases h : left < (l.length : Int)
      · rw [if_pos h]
      · rw [if_neg h] at hs
        omega
    rw [e1]
    have HE : Hid (leftOf left l.length = -1) := e1
    clear hs e1
    go_wp2
    go_ret
    exact ⟨by rw [HE.out]; rfl, b1⟩
  · obtain ⟨q, hq⟩ : ∃ q : Int, leftOf left l.length = q := ⟨_, rfl⟩
    rw [hq] at hs ⊢
    have HE : Hid (leftOf left l.length = q) := hq
    clear hq
    go_wp2
    go_ret
    exact ⟨by rw [HE.out]; rfl, b1⟩
theorem blk_put7 {W : World} {b t : Nat} {u0 u1 u2 u3 u4 u5 u6 : Value} (h : BlkIs W b t #[u0, u1, u2, u3, u4, u5, u6]) (v0 v1 v2 v3 v4 v5 v6 : Value) :
    BlkIs (((((((W.setCell ⟨b, 0, none⟩ v0).setCell ⟨b, 1, none⟩ v1).setCell ⟨b, 2, none⟩ v2).setCell ⟨b, 3, none⟩ v3).setCell ⟨b, 4, none⟩ v4).setCell ⟨b, 5, none⟩ v5).setCell ⟨b, 6, none⟩ v6) b t #[v0, v1, v2, v3, v4, v5, v6] := by
  have := ((((((h.put 0 v0).put 1 v1).put 2 v2).put 3 v3).put 4 v4).put 5 v5).put 6 v6
  simpa using this
theorem keeps_seven (w : World) (b : Nat) (v0 v1 v2 v3 v4 v5 v6 : Value) : Keeps (fun k => k ≠ b) w (((((((w.setCell ⟨b, 0, none⟩ v0).setCell ⟨b, 1, none⟩ v1).setCell ⟨b, 2, none⟩ v2).setCell ⟨b, 3, none⟩ v3).setCell ⟨b, 4, none⟩ v4).setCell ⟨b, 5, none⟩ v5).setCell ⟨b, 6, none⟩ v6) :=
  (((((((Keeps.refl _ _).setCell (fun h => h rfl) _).setCell (fun h => h rfl) _).setCell (fun h => h rfl) _).setCell (fun h => h rfl) _).setCell (fun h => h rfl) _).setCell (fun h => h rfl) _).setCell (fun h => h rfl) _
theorem OwnCells.keepK {w w' : World} {lo : Nat} {a : Option Addr} {cs : List Value} (h : OwnCells w lo a cs) {G : Nat → Prop} (k : Keeps G w w') (hg : ∀ b, lo ≤ b → G b) : OwnCells w' lo a cs := by
  rcases h with h | ⟨b, off, rfl, hlo, hlt, hc, hf⟩
  · exact .inl h
  · exact .inr ⟨b, off, rfl, hlo, Nat.lt_of_lt_of_le hlt k.size, fun i hi => (k.cell (p := ⟨b, off + i, none⟩) hlt (hg b hlo)).trans (hc i hi), fun i hi => (k.frozen (p := ⟨b, off + i, none⟩) hlt (hg b hlo)).trans (hf i hi)⟩
set_option maxHeartbeats 1000000 in
set_option maxRecDepth 100000 in
theorem toMail_any (m : MailA) (w : World) (hl : m.l.length ≤ 1048576) (hrow : CellRow w m.p (cellsOf FactV.cells m.l)) :
    Calls Try.prog 7 #[m.val] w fun e w' => ∃ g, e = .returned (MailA.val { m with p := some ⟨g, 0, none⟩, cap := m.l.length }) ∧ OwnCells w' w.heap.size (some ⟨g, 0, none⟩) (cellsOf FactV.cells m.l) ∧ Below w.heap.size w w' := by
  obtain ⟨k, f, t, n, a, r, p, cap, l⟩ := m
  unfold MailA.val
  dsimp only at hl hrow ⊢
  go_enter Try.func7, Try.ntmps7
  go_upto_region 8 with fail
  have B0 := (((Below.refl w.heap.size w).alloc (Nat.le_refl _) (.cells #[.int .i64 k, .int .i64 f, .int .i64 t, .int .i64 n, .int .i64 a, .int .i64 r, .slice p l.length cap] 24)).alloc (by simp) (.cells #[.int .i64 0, .int .i64 0, .int .i64 0, .int .i64 0, .int .i64 0, .int .i64 0, .slice none 0 0] 29)).alloc (by simp; omega) (.cells #[.int .i64 k, .int .i64 f, .int .i64 t, .int .i64 n, .int .i64 a, .int .i64 r, .slice none 0 0] 29)
  have p0 := ((BlkIs.new w 24 #[.int .i64 k, .int .i64 f, .int .i64 t, .int .i64 n, .int .i64 a, .int .i64 r, .slice p l.length cap]).keep ((Below.refl _ _).alloc (Nat.le_refl _) (.cells #[.int .i64 0, .int .i64 0, .int .i64 0, .int .i64 0, .int .i64 0, .int .i64 0, .slice none 0 0] 29))).keep ((Below.refl _ _).alloc (Nat.le_refl _) (.cells #[.int .i64 k, .int .i64 f, .int .i64 t, .int .i64 n, .int .i64 a, .int .i64 r, .slice none 0 0] 29))
  have p1 := (BlkIs.new (w.alloc (.cells #[.int .i64 k, .int .i64 f, .int .i64 t, .int .i64 n, .int .i64 a, .int .i64 r, .slice p l.length cap] 24)) 29 #[.int .i64 0, .int .i64 0, .int .i64 0, .int .i64 0, .int .i64 0, .int .i64 0, .slice none 0 0]).keep ((Below.refl _ _).alloc (Nat.le_refl _) (.cells #[.int .i64 k, .int .i64 f, .int .i64 t, .int .i64 n, .int .i64 a, .int .i64 r, .slice none 0 0] 29))
  have p2 := BlkIs.new ((w.alloc (.cells #[.int .i64 k, .int .i64 f, .int .i64 t, .int .i64 n, .int .i64 a, .int .i64 r, .slice p l.length cap] 24)).alloc (.cells #[.int .i64 0, .int .i64 0, .int .i64 0, .int .i64 0, .int .i64 0, .int .i64 0, .slice none 0 0] 29)) 29 #[.int .i64 k, .int .i64 f, .int .i64 t, .int .i64 n, .int .i64 a, .int .i64 r, .slice none 0 0]
  rw [World.size_alloc] at p1
  rw [World.size_alloc, World.size_alloc] at p2
  obtain ⟨W, hW⟩ : ∃ W, ((w.alloc (.cells #[.int .i64 k, .int .i64 f, .int .i64 t, .int .i64 n, .int .i64 a, .int .i64 r, .slice p l.length cap] 24)).alloc (.cells #[.int .i64 0, .int .i64 0, .int .i64 0, .int .i64 0, .int .i64 0, .int .i64 0, .slice none 0 0] 29)).alloc (.cells #[.int .i64 k, .int .i64 f, .int .i64 t, .int .i64 n, .int .i64 a, .int .i64 r, .slice none 0 0] 29) = W := ⟨_, rfl⟩
  rw [hW] at B0 p0 p1 p2 ⊢
  have hs : w.heap.size + 3 ≤ W.heap.size := by rw [← hW]; simp
  have HS : Hid (w.heap.size + 3 ≤ W.heap.size) := hs
  clear hW hs
  have hrowW := hrow.keep B0
  have c6 := p0.cell 6
  simp only [List.getElem?_toArray, List.getElem?_cons_succ, List.getElem?_cons_zero] at c6
  go_wp2_with fail
  refine (toFacts_any p cap l _ hl hrowW).mono ?_
  rintro e x ⟨rfl, ox, bx⟩
  obtain ⟨g, hg⟩ : ∃ g, W.heap.size = g := ⟨_, rfl⟩
  have HG : Hid (W.heap.size = g) := hg
  have B1 := B0.trans (bx.mono B0.size)
  have q1 := p1.keep bx
  have q2 := p2.keep bx
  have d6 := q2.cell 6
  have f6 := q2.fz 6
  simp only [List.getElem?_toArray, List.getElem?_cons_succ, List.getElem?_cons_zero] at d6
  rw [hg] at ox ⊢
  clear bx p0 p1 p2 c6 hrowW B0 hg
  go_upto_region 9 with fail
  have K2 : Keeps (fun k => k ≠ w.heap.size + 1 + 1) x (x.setCell ⟨w.heap.size + 1 + 1, 6, none⟩ (.slice (some ⟨g, 0, none⟩) l.length l.length)) := (Keeps.refl _ _).setCell (fun h => h rfl) _
  have r1 := q1.keepK K2 (by omega)
  have r2 := q2.put 6 (.slice (some ⟨g, 0, none⟩) l.length l.length)
  simp only [List.setIfInBounds_toArray, List.set_cons_succ, List.set_cons_zero] at r2
  have B2 := B1.trans (K2.toBelow B1.size (fun k hk => by omega))
  have o2 := ox.keepK K2 (fun b hb => by have := HS.out; have := HG.out; omega)
  obtain ⟨Y, hY⟩ : ∃ Y, x.setCell ⟨w.heap.size + 1 + 1, 6, none⟩ (.slice (some ⟨g, 0, none⟩) l.length l.length) = Y := ⟨_, rfl⟩
  rw [hY] at K2 r1 r2 B2 o2 ⊢
  have e0 := r2.cell 0
  have e1 := r2.cell 1
  have e2 := r2.cell 2
  have e3 := r2.cell 3
  have e4 := r2.cell 4
  have e5 := r2.cell 5
  have e6 := r2.cell 6
  simp only [List.getElem?_toArray, List.getElem?_cons_succ, List.getElem?_cons_zero] at e0 e1 e2 e3 e4 e5 e6
  have z0 := r1.cell 0
  have z1 := r1.cell 1
  have z2 := r1.cell 2
  have z3 := r1.cell 3
  have z4 := r1.cell 4
  have z5 := r1.cell 5
  have z6 := r1.cell 6
  simp only [List.getElem?_toArray, List.getElem?_cons_succ, List.getElem?_cons_zero] at z0 z1 z2 z3 z4 z5 z6
  have y0 := r1.fz 0
  have y1 := r1.fz 1
  have y2 := r1.fz 2
  have y3 := r1.fz 3
  have y4 := r1.fz 4
  have y5 := r1.fz 5
  have y6 := r1.fz 6
  have Kq := keeps_seven Y (w.heap.size + 1) (.int .i64 k) (.int .i64 f) (.int .i64 t) (.int .i64 n) (.int .i64 a) (.int .i64 r) (.slice (some ⟨g, 0, none⟩) l.length l.length)
  have rq := blk_put7 r1 (.int .i64 k) (.int .i64 f) (.int .i64 t) (.int .i64 n) (.int .i64 a) (.int .i64 r) (.slice (some ⟨g, 0, none⟩) l.length l.length)
  have Bq := B2.trans (Kq.toBelow B2.size (fun k hk => by omega))
  have oq := o2.keepK Kq (fun b hb => by have := HS.out; have := HG.out; omega)
  clear hY K2 r1 r2 B2 o2 q1 q2 d6 f6 ox B1 hrow
  go_wp2
  obtain ⟨Z, hZ⟩ : ∃ Z, ((((((Y.setCell ⟨w.heap.size + 1, 0, none⟩ (.int .i64 k)).setCell ⟨w.heap.size + 1, 1, none⟩ (.int .i64 f)).setCell ⟨w.heap.size + 1, 2, none⟩ (.int .i64 t)).setCell ⟨w.heap.size + 1, 3, none⟩ (.int .i64 n)).setCell ⟨w.heap.size + 1, 4, none⟩ (.int .i64 a)).setCell ⟨w.heap.size + 1, 5, none⟩ (.int .i64 r)).setCell ⟨w.heap.size + 1, 6, none⟩ (.slice (some ⟨g, 0, none⟩) l.length l.length) = Z := ⟨_, rfl⟩
  rw [hZ] at rq Bq oq ⊢
  have t0 := rq.cell 0
  have t1 := rq.cell 1
  have t2 := rq.cell 2
  have t3 := rq.cell 3
  have t4 := rq.cell 4
  have t5 := rq.cell 5
  have t6 := rq.cell 6
  simp only [List.getElem?_toArray, List.getElem?_cons_succ, List.getElem?_cons_zero] at t0 t1 t2 t3 t4 t5 t6
  exact bodyPost_ret (v := .agg #[.int .i64 k, .int .i64 f, .int .i64 t, .int .i64 n, .int .i64 a, .int .i64 r, .slice (some ⟨g, 0, none⟩) l.length l.length]) (by simp [results, Try.results7, go_sem, t0, t1, t2, t3, t4, t5, t6]) rfl ⟨g, rfl, oq.mono (by have := HS.out; have := HG.out; omega), Bq⟩
set_option maxHeartbeats 1000000 in
set_option maxRecDepth 100000 in
theorem eqMail_same (k f t n a r : Int) (p1 p2 : Option Addr) (cap1 cap2 : Nat) (l : List FactV) (w : World) (hl : l.length ≤ 1048576) (h1 : CellRow w p1 (cellsOf FactV.cells l)) (h2 : CellRow w p2 (cellsOf FactV.cells l)) :
    Calls Try.prog 9 #[MailA.val ⟨k, f, t, n, a, r, p1, cap1, l⟩, MailA.val ⟨k, f, t, n, a, r, p2, cap2, l⟩] w fun e w' => e = .returned (.bool true) ∧ Below w.heap.size w w' := by
  unfold MailA.val
  dsimp only
  have B0 := ((Below.refl w.heap.size w).alloc (Nat.le_refl _) (.cells #[.int .i64 k, .int .i64 f, .int .i64 t, .int .i64 n, .int .i64 a, .int .i64 r, .slice p1 l.length cap1] 29)).alloc (by simp) (.cells #[.int .i64 k, .int .i64 f, .int .i64 t, .int .i64 n, .int .i64 a, .int .i64 r, .slice p2 l.length cap2] 29)
  have m1 := h1.keep B0
  have m2 := h2.keep B0
  go_enter Try.func9, Try.ntmps9
  go_wp2_with fail
  refine (eqFacts_same p1 cap1 p2 cap2 l _ hl m1 m2).mono ?_
  rintro e x ⟨rfl, bx⟩
  have B1 := B0.trans (bx.mono B0.size)
  clear bx m1 m2 B0
  go_wp2
  go_ret
  exact ⟨rfl, B1⟩
end Go.Proofs.Ytpjdkgcdkfmkiaa
