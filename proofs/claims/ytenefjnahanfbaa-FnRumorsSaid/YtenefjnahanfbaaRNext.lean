/- The contract of the program's picking.next: the rumor of the least Sent is taken out. -/
import Derived.Test.YtenefjnahanfbaaRDel
namespace Go.Proofs.Ytenefjnahanfbaa
open Go Go.RowKit
set_option linter.unusedVariables false
set_option linter.unusedSimpArgs false

theorem but_at {c : List RumV} (h : c.Pairwise fun a b => a.node ≠ b.node) {t : Nat} (ht : t < c.length) : c.take t ++ c.drop (t + 1) = butR c c[t].node := by
  have e : c = c.take t ++ c[t] :: c.drop (t + 1) := by rw [← List.drop_eq_getElem_cons ht, List.take_append_drop]
  obtain ⟨x, hx⟩ : ∃ x, c[t] = x := ⟨_, rfl⟩
  rw [hx] at e ⊢
  have h' := h
  rw [e] at h'
  obtain ⟨_, h2, h3⟩ := List.pairwise_append.1 h'
  obtain ⟨h4, _⟩ := List.pairwise_cons.1 h2
  have e1 : butR (c.take t) x.node = c.take t := List.filter_eq_self.2 fun y hy => decide_eq_true (h3 y hy x (by simp))
  have e2 : butR (c.drop (t + 1)) x.node = c.drop (t + 1) := List.filter_eq_self.2 fun y hy => decide_eq_true (fun q => h4 y hy q.symm)
  have e3 : butR c x.node = butR (c.take t) x.node ++ butR (c.drop (t + 1)) x.node := by
    conv => lhs; rw [e]
    unfold butR
    rw [List.filter_append, List.filter_cons_of_neg (by simp)]
  rw [e3, e1, e2]
/-- What next answers, and what is left. -/
def NextPost (pb base : Nat) (v : Value) (c : List RumV) (w : World) (e : Ending) (w' : World) : Prop :=
  (c = [] ∧ e = .returned (.tuple #[factZ.val, .bool false]) ∧ Below w.heap.size w w') ∨
  ∃ x v', leastR c = some x ∧ e = .returned (.tuple #[x.fact.val, .bool true]) ∧ BlkIs w' pb 62 #[v'] ∧ w'.ownsRow base 39 4 v' (butR c x.node).length (cellsOf RumV.cells (butR c x.node)) ∧ v'.ownBlock = v.ownBlock ∧ Keeps (fun q => q ≠ pb ∧ v.ownBlock ≠ some q) w w'
def LeastTo (c : List RumV) (k t : Nat) : Prop := (k = 0 ∧ t = 0) ∨ ∃ h : t < c.length, t < k ∧ leastR (c.take k) = some c[t]
theorem leastTo_no {c : List RumV} {k t : Nat} {x y : RumV} (h : LeastTo c k t) (hk : k < c.length) (hx : c[k] = x) (ht : t < c.length) (hy : c[t] = y) (hs : ¬ x.sent < y.sent) : LeastTo c (k + 1) t := by
  refine .inr ⟨ht, ?_, ?_⟩
  · rcases h with ⟨rfl, rfl⟩ | ⟨_, h, _⟩ <;> omega
  · rw [List.take_succ_eq_append_getElem hk, leastR_snoc]
    rcases h with ⟨rfl, rfl⟩ | ⟨_, _, h⟩
    · simp [leastR, leastS]
    · rw [h, hx, hy]
      simp [leastS, hs]
theorem leastTo_yes {c : List RumV} {k t : Nat} {x y : RumV} (h : LeastTo c k t) (hk : k < c.length) (hx : c[k] = x) (ht : t < c.length) (hy : c[t] = y) (hs : x.sent < y.sent) : LeastTo c (k + 1) k := by
  refine .inr ⟨hk, by omega, ?_⟩
  rw [List.take_succ_eq_append_getElem hk, leastR_snoc]
  rcases h with ⟨rfl, rfl⟩ | ⟨_, _, h⟩
  · simp [leastR, leastS]
  · rw [h, hx, hy]
    simp [leastS, hs]
theorem leastTo_lt {c : List RumV} {k t : Nat} (h : LeastTo c k t) (hc : 0 < c.length) : t < c.length := by
  rcases h with ⟨rfl, rfl⟩ | ⟨h, _⟩
  · exact hc
  · exact h
set_option maxHeartbeats 4000000 in
set_option maxRecDepth 100000 in
theorem next_any (pb base : Nat) (v : Value) (c : List RumV) (w : World) (hl : c.length ≤ 1000) (hd : c.Pairwise fun a b => a.node ≠ b.node) (hp : BlkIs w pb 62 #[v]) (ho : w.ownsRow base 39 4 v c.length (cellsOf RumV.cells c)) (hbase : base ≤ w.heap.size) :
    Calls Try.prog 34 #[.pointer (some ⟨pb, 0, none⟩)] w (NextPost pb base v c w) := by
  have hpl := hp.lt
  have B0 := (Below.refl w.heap.size w).alloc (Nat.le_refl _) (.cells #[.int .i64 0, .int .i64 0, .int .i64 0] 25)
  have R0 := BlkIs.new w 25 #[.int .i64 0, .int .i64 0, .int .i64 0]
  have P0 := hp.keep B0
  have O0 := rowBelow ho B0
  obtain ⟨a, cap, rfl, _⟩ := OwnsRow.cellRowR ho
  have HD : Hid (c.Pairwise fun a b => a.node ≠ b.node) := hd
  obtain ⟨W, hW⟩ : ∃ W, w.alloc (.cells #[.int .i64 0, .int .i64 0, .int .i64 0] 25) = W := ⟨_, rfl⟩
  rw [hW] at B0 R0 P0 O0
  have HW : Hid (_ = W) := hW
  have hrl := R0.lt
  clear hW hd hp ho
  have g0 : W.cell? ⟨pb, 0, none⟩ = some (.slice a c.length cap) := P0.cell 0
  go_enter Try.func34, Try.ntmps34
  by_cases hc0 : c.length = 0
  · have hc0I : ((c.length : Nat) : Int) = 0 := by omega
    go_upto_region 1 with fail
    rw [HW.out]
    have z0 : W.cell? ⟨w.heap.size, 0, none⟩ = some (.int .i64 0) := R0.cell 0
    have z1 : W.cell? ⟨w.heap.size, 1, none⟩ = some (.int .i64 0) := R0.cell 1
    have z2 : W.cell? ⟨w.heap.size, 2, none⟩ = some (.int .i64 0) := R0.cell 2
    have f0 := R0.fz 0
    have f1 := R0.fz 1
    have f2 := R0.fz 2
    have RZ : BlkIs (((W.setCell ⟨w.heap.size, 0, none⟩ (.int .i64 0)).setCell ⟨w.heap.size, 1, none⟩ (.int .i64 0)).setCell ⟨w.heap.size, 2, none⟩ (.int .i64 0)) w.heap.size 25 #[.int .i64 0, .int .i64 0, .int .i64 0] := blk_put3 R0 _ _ _
    have BZ : Below w.heap.size w (((W.setCell ⟨w.heap.size, 0, none⟩ (.int .i64 0)).setCell ⟨w.heap.size, 1, none⟩ (.int .i64 0)).setCell ⟨w.heap.size, 2, none⟩ (.int .i64 0)) := ((B0.setCell (Nat.le_refl _) _).setCell (Nat.le_refl _) _).setCell (Nat.le_refl _) _
    have HC : Hid (c = []) := List.eq_nil_of_length_eq_zero hc0
    clear HW R0 P0 O0 B0 hc0
    go_wp2
    obtain ⟨Z, hZ⟩ : ∃ Z, (((W.setCell ⟨w.heap.size, 0, none⟩ (.int .i64 0)).setCell ⟨w.heap.size, 1, none⟩ (.int .i64 0)).setCell ⟨w.heap.size, 2, none⟩ (.int .i64 0)) = Z := ⟨_, rfl⟩
    rw [hZ] at RZ BZ ⊢
    clear hZ z0 z1 z2 f0 f1 f2 g0
    have h0 : Z.cell? ⟨w.heap.size, 0, none⟩ = some (.int .i64 0) := RZ.cell 0
    have h1 : Z.cell? ⟨w.heap.size, 1, none⟩ = some (.int .i64 0) := RZ.cell 1
    have h2 : Z.cell? ⟨w.heap.size, 2, none⟩ = some (.int .i64 0) := RZ.cell 2
    exact bodyPost_ret (v := .tuple #[.agg #[.int .i64 0, .int .i64 0, .int .i64 0], .bool false]) (by simp [results, Try.results34, go_sem, h0, h1, h2]) rfl (.inl ⟨HC.out, rfl, BZ⟩)
  · have hc0I : ¬ ((c.length : Nat) : Int) = 0 := by omega
    have hcp : 0 < c.length := by omega
    go_upto_region 1 with fail
    rw [HW.out]
    clear HW hc0
    go_wp2
    clear g0
    go_loopw [20, 4] (fun i s wr => ∃ k t : Nat, k ≤ c.length ∧ i = .int .i64 k ∧ s = .int .i64 t ∧ LeastTo c k t ∧ Below W.heap.size W wr) (fun i _ _ => c.length - (intOf i).toNat)
    case atStart => exact ⟨0, 0, Nat.zero_le _, rfl, rfl, .inl ⟨rfl, rfl⟩, Below.refl _ _⟩
    case round =>
      obtain ⟨k, t, hk, rfl, rfl, hlt, bb⟩ := hrel
      have ht := leastTo_lt hlt hcp
      have HT : Hid (LeastTo c k t) := hlt
      clear hlt
      have P1 := P0.keep bb
      have O1 := rowBelow O0 bb
      have R1 := R0.keep bb
      obtain ⟨g, ga⟩ : ∃ g, a = some ⟨g, 0, none⟩ := by
        rcases own_cellsR O1 with ⟨e, e2⟩ | ⟨g, c', e, _⟩
        · rw [e2] at hcp; simp at hcp
        · simp only [Value.slice.injEq, true_and] at e
          exact ⟨g, e.1⟩
      subst ga
      have row1 : CellRow wr (some ⟨g, 0, none⟩) (cellsOf RumV.cells c) := by
        obtain ⟨a', cap', e, r⟩ := OwnsRow.cellRowR O1
        simp only [Value.slice.injEq] at e
        rw [e.1]; exact r
      obtain ⟨y, hy⟩ : ∃ y, c[t] = y := ⟨_, rfl⟩
      have dt := row1.rum ht hy
      rw [Nat.zero_add] at dt
      have HY : Hid (c[t] = y) := hy
      clear hy
      have htI : (t : Int) < (c.length : Int) := by omega
      by_cases hx : k < c.length
      · obtain ⟨x, hcx⟩ : ∃ x, c[k] = x := ⟨_, rfl⟩
        have dk := row1.rum hx hcx
        rw [Nat.zero_add] at dk
        have HX : Hid (c[k] = x) := hcx
        obtain ⟨x1, x2, x3, x4⟩ := x
        obtain ⟨y1, y2, y3, y4⟩ := y
        have b1 : Below wr.heap.size wr (wr.alloc (.cells #[.int .i64 x1, .int .i64 x2, .int .i64 x3, .int .i64 x4] 39)) := (Below.refl _ _).alloc (Nat.le_refl _) _
        have q1 := BlkIs.new wr 39 #[.int .i64 x1, .int .i64 x2, .int .i64 x3, .int .i64 x4]
        have P2 := P1.keep b1
        have dt2 := dt.keep b1
        have B2 := bb.trans (b1.mono bb.size)
        obtain ⟨_, e0, e1, e2, e3⟩ := dk
        dsimp only at e0 e1 e2 e3
        obtain ⟨Y, hY⟩ : ∃ Y, wr.alloc (.cells #[.int .i64 x1, .int .i64 x2, .int .i64 x3, .int .i64 x4] 39) = Y := ⟨_, rfl⟩
        rw [hY] at q1 P2 dt2 B2
        have HYY : Hid (_ = Y) := hY
        have hkI : (k : Int) < (c.length : Int) := by omega
        clear hcx hY b1 P1 O1 R1 row1 dt bb
        go_upto_region 7 with fail
        rw [HYY.out]
        have s3 : Y.cell? ⟨wr.heap.size, 3, none⟩ = some (.int .i64 x4) := q1.cell 3
        have p2 : Y.cell? ⟨pb, 0, none⟩ = some (.slice (some ⟨g, 0, none⟩) c.length cap) := P2.cell 0
        obtain ⟨_, d0, d1, d2, d3⟩ := dt2
        dsimp only at d0 d1 d2 d3
        clear e0 e1 e2 e3 HYY q1 P2
        by_cases hs : x4 < y4
        · have HN : Hid (LeastTo c (k + 1) k) := leastTo_yes HT.out hx HX.out ht HY.out hs
          have BD := B2.drew
          clear HT HX HY
          go_region
          all_goals
            go_wp2
            go_roundw
            case rel => exact ⟨k + 1, k, by omega, by go_num, rfl, HN.out, BD⟩
            case measure => simp [intOf]; omega
        · have HN : Hid (LeastTo c (k + 1) t) := leastTo_no HT.out hx HX.out ht HY.out hs
          have BD := B2.drew
          clear HT HX HY
          go_region
          all_goals
            go_wp2
            go_roundw
            case rel => exact ⟨k + 1, t, by omega, by go_num, rfl, HN.out, BD⟩
            case measure => simp [intOf]; omega
      · obtain rfl : k = c.length := by omega
        have HL : Hid (leastR c = some y) := by
          show _ = _
          rcases HT.out with ⟨h, _⟩ | ⟨_, _, h⟩
          · omega
          · rw [List.take_length] at h; rw [h, HY.out]
        have HE : Hid (c.take t ++ c.drop (t + 1) = butR c y.node) := by show _ = _; rw [but_at HD.out ht, HY.out]
        obtain ⟨y1, y2, y3, y4⟩ := y
        have p1 : wr.cell? ⟨pb, 0, none⟩ = some (.slice (some ⟨g, 0, none⟩) c.length cap) := P1.cell 0
        have b1 : Below wr.heap.size wr (wr.alloc (.cells #[.int .i64 y1, .int .i64 y2, .int .i64 y3] 25)) := (Below.refl _ _).alloc (Nat.le_refl _) _
        have q1 := BlkIs.new wr 25 #[.int .i64 y1, .int .i64 y2, .int .i64 y3]
        have P2 := P1.keep b1
        have O2 := rowBelow O1 b1
        have R2 := R1.keep b1
        have B2 := B0.trans ((bb.trans (b1.mono bb.size)).mono B0.size)
        obtain ⟨_, d0, d1, d2, d3⟩ := dt
        dsimp only at d0 d1 d2 d3
        obtain ⟨Y, hY⟩ : ∃ Y, wr.alloc (.cells #[.int .i64 y1, .int .i64 y2, .int .i64 y3] 25) = Y := ⟨_, rfl⟩
        rw [hY] at q1 P2 O2 R2 B2
        have HYY : Hid (_ = Y) := hY
        have hwr := bb.size
        clear hY b1 P1 O1 R1 row1 bb HT HY
        go_upto_region 11 with fail
        rw [HYY.out]
        have p2 : Y.cell? ⟨pb, 0, none⟩ = some (.slice (some ⟨g, 0, none⟩) c.length cap) := P2.cell 0
        have hwt : IntKind.i64.wrap ((t : Int) + 1) = ((t + 1 : Nat) : Int) := by rw [IntKind.wrap_i64]; omega
        clear d0 d1 d2 d3 HYY p1
        go_wp2_with fail
        refine (deleteR_any _ t (t + 1) c base _ hl ht rfl O2).mono ?_
        rintro e z ⟨v', rfl, own3, hbk, K3⟩
        obtain ⟨va, vn, vc, rfl⟩ := rowShape own3
        have hnP : Value.ownBlock (.slice (some ⟨g, 0, none⟩) c.length cap) ≠ some pb := P2.not_row (by decide) O2
        have hnR : Value.ownBlock (.slice (some ⟨g, 0, none⟩) c.length cap) ≠ some w.heap.size := R2.not_row (by decide) O2
        have hnQ : Value.ownBlock (.slice (some ⟨g, 0, none⟩) c.length cap) ≠ some wr.heap.size := q1.not_row (by decide) O2
        have P3 := P2.keepK K3 hnP
        have R3 := R2.keepK K3 hnR
        have q3 := q1.keepK K3 hnQ
        have KW : Keeps (fun q => q ≠ pb ∧ Value.ownBlock (.slice (some ⟨g, 0, none⟩) c.length cap) ≠ some q) w z := (Keeps.ofBelow B2 (fun _ hq _ => hq)).trans (K3.mono (fun q _ hq => hq.2))
        have c0 : z.cell? ⟨pb, 0, none⟩ = some (.slice (some ⟨g, 0, none⟩) c.length cap) := P3.cell 0
        have f0 := P3.fz 0
        have s0 : z.cell? ⟨wr.heap.size, 0, none⟩ = some (.int .i64 y1) := q3.cell 0
        have s1 : z.cell? ⟨wr.heap.size, 1, none⟩ = some (.int .i64 y2) := q3.cell 1
        have s2 : z.cell? ⟨wr.heap.size, 2, none⟩ = some (.int .i64 y3) := q3.cell 2
        have r0 : z.cell? ⟨w.heap.size, 0, none⟩ = some (.int .i64 0) := R3.cell 0
        have r1 : z.cell? ⟨w.heap.size, 1, none⟩ = some (.int .i64 0) := R3.cell 1
        have r2 : z.cell? ⟨w.heap.size, 2, none⟩ = some (.int .i64 0) := R3.cell 2
        have t0 := R3.fz 0
        have t1 := R3.fz 1
        have t2 := R3.fz 2
        have hne1 : pb ≠ w.heap.size := by omega
        have hne2 : pb ≠ wr.heap.size := by omega
        have hne3 : w.heap.size ≠ pb := by omega
        have hne4 : wr.heap.size ≠ pb := by omega
        have hne5 : wr.heap.size ≠ w.heap.size := by omega
        have hne6 : w.heap.size ≠ wr.heap.size := by omega
        have A1 : BlkIs (z.setCell ⟨pb, 0, none⟩ (.slice va vn vc)) pb 62 #[.slice va vn vc] := by simpa using P3.put 0 (.slice va vn vc)
        have KA : Keeps (fun q => q ≠ pb) z (z.setCell ⟨pb, 0, none⟩ (.slice va vn vc)) := (Keeps.refl _ _).setCell (fun h => h rfl) _
        have AR := R3.keepK KA hne3
        have KB := keeps_three (z.setCell ⟨pb, 0, none⟩ (.slice va vn vc)) w.heap.size (.int .i64 y1) (.int .i64 y2) (.int .i64 y3)
        have AZ := A1.keepK KB hne1
        have RZ := blk_put3 AR (.int .i64 y1) (.int .i64 y2) (.int .i64 y3)
        have hnv : Value.ownBlock (.slice va vn vc) ≠ some pb := by rw [hbk]; exact hnP
        have hnw : Value.ownBlock (.slice va vn vc) ≠ some w.heap.size := by rw [hbk]; exact hnR
        have OZ := rowKeep (rowKeep own3 KA (fun q hq e => hnv (by rw [hq, e]))) KB (fun q hq e => hnw (by rw [hq, e]))
        have KZ : Keeps (fun q => q ≠ pb ∧ Value.ownBlock (.slice (some ⟨g, 0, none⟩) c.length cap) ≠ some q) w ((((z.setCell ⟨pb, 0, none⟩ (.slice va vn vc)).setCell ⟨w.heap.size, 0, none⟩ (.int .i64 y1)).setCell ⟨w.heap.size, 1, none⟩ (.int .i64 y2)).setCell ⟨w.heap.size, 2, none⟩ (.int .i64 y3)) := by
          have h1 := KW.trans (KA.mono (fun q _ hq => hq.1))
          exact ⟨KB.os.trans h1.os, KB.tape.trans h1.tape, KB.output.trans h1.output, Nat.le_trans h1.size KB.size, fun q hq hg => (KB.block q (Nat.lt_of_lt_of_le hq h1.size) (by omega)).trans (h1.block q hq hg)⟩
        rw [HE.out] at OZ
        have HBK : Hid (Value.ownBlock (.slice va vn vc) = Value.ownBlock (.slice (some ⟨g, 0, none⟩) c.length cap)) := hbk
        clear hbk
        clear P2 O2 R2 q1 B2 K3 P3 R3 q3 KW A1 KA AR KB p2 own3 hnP hnR hnQ hnv hnw P0 O0 R0 B0
        go_wp2
        obtain ⟨Z, hZ⟩ : ∃ Z, ((((z.setCell ⟨pb, 0, none⟩ (.slice va vn vc)).setCell ⟨w.heap.size, 0, none⟩ (.int .i64 y1)).setCell ⟨w.heap.size, 1, none⟩ (.int .i64 y2)).setCell ⟨w.heap.size, 2, none⟩ (.int .i64 y3)) = Z := ⟨_, rfl⟩
        rw [hZ] at AZ RZ OZ KZ ⊢
        clear hZ c0 f0 s0 s1 s2 r0 r1 r2 t0 t1 t2
        have h0 : Z.cell? ⟨w.heap.size, 0, none⟩ = some (.int .i64 y1) := RZ.cell 0
        have h1 : Z.cell? ⟨w.heap.size, 1, none⟩ = some (.int .i64 y2) := RZ.cell 1
        have h2 : Z.cell? ⟨w.heap.size, 2, none⟩ = some (.int .i64 y3) := RZ.cell 2
        exact bodyPost_ret (v := .tuple #[.agg #[.int .i64 y1, .int .i64 y2, .int .i64 y3], .bool true]) (by simp [results, Try.results34, go_sem, h0, h1, h2]) rfl (.inr ⟨_, _, HL.out, rfl, AZ, OZ, HBK.out, KZ⟩)
end Go.Proofs.Ytenefjnahanfbaa
