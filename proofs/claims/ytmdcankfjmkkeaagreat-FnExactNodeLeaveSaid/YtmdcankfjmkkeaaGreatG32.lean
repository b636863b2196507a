/- The contract of the program's withFact: a fact put into a view of the call's own. -/
import Derived.Test.YtmdcankfjmkkeaaGreatFInsert
import Derived.Test.YtmdcankfjmkkeaaGreatG4
import Derived.Test.YtmdcankfjmkkeaaGreatG31
import Derived.Test.YtmdcankfjmkkeaaGreatG18
namespace Go.Proofs.YtmdcankfjmkkeaaGreat
open Go Go.RowKit
set_option linter.unusedVariables false

theorem FBlk.keepK {w w' : World} {b : Nat} {x : FactV} (h : FBlk w b x) {G : Nat → Prop} (k : Keeps G w w') (hg : G b) : FBlk w' b x :=
  ⟨Nat.lt_of_lt_of_le h.lt k.size, (k.cell (p := ⟨b, 0, none⟩) h.lt hg).trans h.c0, (k.cell (p := ⟨b, 1, none⟩) h.lt hg).trans h.c1, (k.cell (p := ⟨b, 2, none⟩) h.lt hg).trans h.c2⟩
theorem OwnsRow.cellRow {w : World} {base : Nat} {v : Value} {l : List FactV} (h : w.ownsRow base 54 3 v l.length (cellsOf FactV.cells l)) : ∃ a cap, v = .slice a l.length cap ∧ CellRow w a (cellsOf FactV.cells l) := by
  rcases own_cells h with ⟨rfl, rfl⟩ | ⟨g, cap, rfl, ho⟩
  · exact ⟨none, 0, rfl, .inl rfl⟩
  · exact ⟨_, cap, rfl, ho.row⟩
set_option maxHeartbeats 2000000 in
set_option maxRecDepth 100000 in
theorem withFact_any (v : Value) (l : List FactV) (f : FactV) (k base : Nat) (w : World) (hr : rightV l) (hf : f.ok) (hp : placeF l f.node k) (ho : w.ownsRow base 54 3 v l.length (cellsOf FactV.cells l)) (hbase : base ≤ w.heap.size) :
    Calls Tryz.prog 140 #[v, f.val] w (InsPost base v (putL l f k) w) := by
  have hl6 := rightV_len hr
  obtain ⟨a, cap, rfl, hrow⟩ := OwnsRow.cellRow ho
  have HR : Hid (rightV l) := hr
  have HF : Hid (f.ok) := hf
  have HP : Hid (placeF l f.node k) := hp
  have HRi : Hid (riseV l) := rightV_rise hr
  have hownlt : ∀ g, Value.ownBlock (.slice a l.length cap) = some g → g < w.heap.size := fun g e => (ho.lt g e).2
  have p0 := FBlk.new w f
  have B0 := (Below.refl w.heap.size w).alloc (Nat.le_refl _) (.cells #[.int .i64 f.node, .int .i64 f.inc, .int .i64 f.st] 54)
  have ho0 := rowBelow ho B0
  have hrow0 := hrow.keep B0
  obtain ⟨f1, f2, f3⟩ := f
  dsimp only at p0 B0 ho0 hrow0
  obtain ⟨W, hW⟩ : ∃ W, w.alloc (.cells #[.int .i64 f1, .int .i64 f2, .int .i64 f3] 54) = W := ⟨_, rfl⟩
  rw [hW] at p0 B0 ho0 hrow0
  have HW : Hid (_ = W) := hW
  clear hr hf hp ho hrow hW
  unfold FactV.val
  go_enter Tryz.func140, Tryz.ntmps140
  go_wp2_with fail
  rw [HW.out]
  refine (fsearch_any a cap l f1 _ (by omega) hrow0 HRi.out).mono ?_
  rintro e z1 ⟨k', rt, rfl, hp', ht, b1⟩
  obtain rfl : k' = k := place_one hp' HP.out
  have p1 := p0.keep b1
  have ho1 := rowBelow ho0 b1
  have hrow1 := hrow0.keep b1
  have B1 := B0.trans (b1.mono B0.size)
  have K1 : Keeps (fun q => Value.ownBlock (.slice a l.length cap) ≠ some q) w z1 := Keeps.ofBelow B1 (fun q hq _ => hq)
  have hsz : w.heap.size < z1.heap.size := p1.lt
  have HT : Hid (rt = true ↔ thereF l f1 k') := ht
  clear p0 ho0 hrow0 B0 b1 HW hp' ht
  cases rt with
  | false =>
    have HN : Hid (putL l ⟨f1, f2, f3⟩ k' = insF l ⟨f1, f2, f3⟩ k') := putL_new (fun h => by have := HT.out.2 h; cases this)
    have hk : k' ≤ l.length := HP.out.1
    clear HT
    have p1' := p1
    obtain ⟨_, c0, c1, c2⟩ := p1'
    dsimp only at c0 c1 c2
    have P2 := BlkIs.new z1 54 #[.int .i64 f1, .int .i64 f2, .int .i64 f3]
    have b2 : Below z1.heap.size z1 (z1.alloc (.cells #[.int .i64 f1, .int .i64 f2, .int .i64 f3] 54)) := (Below.refl _ _).alloc (Nat.le_refl _) _
    have ho2 := rowBelow ho1 b2
    have K2 := K1.below b2
    have hb2 : base ≤ (z1.alloc (.cells #[.int .i64 f1, .int .i64 f2, .int .i64 f3] 54)).heap.size := by simp; omega
    clear p1 ho1 hrow1 B1 K1 b2
    go_wp2_with fail
    refine (insertF_any (.slice a l.length cap) z1.heap.size k' l ⟨f1, f2, f3⟩ base _ (by omega) hk (fun e => by have := hownlt _ e; omega) ho2 P2 hb2).mono ?_
    rintro e z3 ⟨v', rfl, ho3, K3⟩
    have K4 := K2.trans K3
    have HO : Hid (z3.ownsRow base 54 3 v' (putL l ⟨f1, f2, f3⟩ k').length (cellsOf FactV.cells (putL l ⟨f1, f2, f3⟩ k'))) := by show World.ownsRow _ _ _ _ _ _ _; rw [HN.out]; exact ho3
    clear K2 K3 ho2 P2 ho3 c0 c1 c2 HN
    go_wp2
    go_ret
    exact ⟨v', rfl, HO.out, K4⟩
  | true =>
    obtain ⟨hk, hn⟩ := HT.out.1 rfl
    have HN : Hid (putL l ⟨f1, f2, f3⟩ k' = l.set k' (joinF l[k'] ⟨f1, f2, f3⟩)) := putL_set hk hn
    have hok : l[k'].ok := rightV_ok HR.out _ (List.getElem_mem hk)
    obtain ⟨x, hlx⟩ : ∃ x, l[k'] = x := ⟨_, rfl⟩
    rw [hlx] at hok hn HN
    obtain ⟨m, hm⟩ : ∃ m, joinF x ⟨f1, f2, f3⟩ = m := ⟨_, rfl⟩
    have HM : Hid (JoinFIs x ⟨f1, f2, f3⟩ m) := .inl ⟨⟨hok, HF.out, hn⟩, hm.symm⟩
    rw [hm] at HN
    obtain ⟨g, hga⟩ : ∃ g, a = some ⟨g, 0, none⟩ := by
      rcases own_cells ho1 with ⟨e, e2⟩ | ⟨g, c, e, _⟩
      · rw [e2] at hk; simp at hk
      · simp only [Value.slice.injEq, true_and] at e
        exact ⟨g, e.1⟩
    subst hga
    have dx := hrow1.fact hk hlx
    rw [Nat.zero_add] at dx
    have hgl := hownlt g rfl
    obtain ⟨x1, x2, x3⟩ := x
    obtain ⟨m1, m2, m3⟩ := m
    have hkI : (k' : Int) < (l.length : Int) := by omega
    clear HT hok hn hm hlx hrow1
    go_upto_region 4 with fail
    obtain ⟨Y, hY⟩ : ∃ Y, z1.drew = Y := ⟨_, rfl⟩
    have dY : FAt Y g (k' * 3) ⟨x1, x2, x3⟩ := by rw [← hY]; exact ⟨dx.1, dx.2, dx.3, dx.4⟩
    have pY : FBlk Y w.heap.size ⟨f1, f2, f3⟩ := by rw [← hY]; exact ⟨p1.1, p1.2, p1.3, p1.4⟩
    have hoY : Y.ownsRow base 54 3 (.slice (some ⟨g, 0, none⟩) l.length cap) l.length (cellsOf FactV.cells l) := by rw [← hY]; exact ho1
    have KY : Keeps (fun q => Value.ownBlock (.slice (some ⟨g, 0, none⟩) l.length cap) ≠ some q) w Y := by rw [← hY]; exact K1.drew
    clear dx p1 ho1 K1 B1
    have hne : w.heap.size ≠ g := by omega
    refine wp_region_held_drew (S := fun w' => Keeps (fun q => q ≠ g) Y w') (by kernel_rfl) ?hS0 (fun hHeld => ?_)
    case hS0 => rw [hY]; exact Keeps.refl _ _
    rw [hY] at hHeld ⊢
    clear hY
    refine takeG 0 (v := .slice (some ⟨g, 0, none⟩) l.length cap) rfl (by kernel_rfl) (by kernel_rfl) (by kernel_rfl) (by kernel_rfl) (fun _ _ _ h => h) ?hy (by assumption) ?_
    case hy => (intro w' hSw; go_simp)
    try simp only [List.setIfInBounds_toArray, List.set_cons_zero, List.set_cons_succ]
    refine takeG 1 (v := .int .i64 (k' : Int)) rfl (by kernel_rfl) (by kernel_rfl) (by kernel_rfl) (by kernel_rfl) (fun _ _ _ h => h) ?hy (by assumption) ?_
    case hy => (intro w' hSw; go_simp)
    try simp only [List.setIfInBounds_toArray, List.set_cons_zero, List.set_cons_succ]
    refine takeG 2 (v := .slice (some ⟨g, 0, none⟩) l.length cap) rfl (by kernel_rfl) (by kernel_rfl) (by kernel_rfl) (by kernel_rfl) (fun _ _ _ h => h) ?hy (by assumption) ?_
    case hy => (intro w' hSw; go_simp)
    try simp only [List.setIfInBounds_toArray, List.set_cons_zero, List.set_cons_succ]
    refine takeG 3 (v := .int .i64 (k' : Int)) rfl (by kernel_rfl) (by kernel_rfl) (by kernel_rfl) (by kernel_rfl) (fun _ _ _ h => h) ?hy (by assumption) ?_
    case hy => (intro w' hSw; go_simp)
    try simp only [List.setIfInBounds_toArray, List.set_cons_zero, List.set_cons_succ]
    refine takeG 4 (v := .pointer (some ⟨g, k' * 3, none⟩)) rfl (by kernel_rfl) (by kernel_rfl) (by kernel_rfl) (by kernel_rfl) (fun _ _ _ h => h) ?hy (by assumption) ?_
    case hy => (intro w' hSw; go_simp)
    try simp only [List.setIfInBounds_toArray, List.set_cons_zero, List.set_cons_succ]
    refine takeG 6 (v := .agg #[.int .i64 f1, .int .i64 f2, .int .i64 f3]) rfl (by kernel_rfl) (by kernel_rfl) (by kernel_rfl) (by kernel_rfl) (fun _ _ _ h => h) ?hy (by assumption) ?_
    case hy => (intro w' hSw; obtain ⟨_, s0, s1, s2⟩ := pY.keepK hSw hne; dsimp only at s0 s1 s2; go_simp)
    try simp only [List.setIfInBounds_toArray, List.set_cons_zero, List.set_cons_succ]
    obtain ⟨_, t0, t1, t2⟩ := dY
    dsimp only at t0 t1 t2
    refine oneH 5 (by kernel_rfl) ?_
    refine doH rfl (v := .agg #[.int .i64 x1, .int .i64 x2, .int .i64 x3]) (w' := Y) (by go_simp) hHeld ?_
    try simp only [List.setIfInBounds_toArray, List.set_cons_zero, List.set_cons_succ]
    have dY : FAt Y g (k' * 3) ⟨x1, x2, x3⟩ := ⟨by assumption, t0, t1, t2⟩
    refine runG 7 (by kernel_rfl) rfl (by kernel_rfl) ?_
    go_simp
    refine (factJoin_any ⟨x1, x2, x3⟩ ⟨f1, f2, f3⟩ ⟨m1, m2, m3⟩ HM.out _).mono ?_
    rintro e z2 ⟨rfl, bz2⟩
    have hz2 : Below Y.heap.size Y z2 := bz2
    have hS2 : Keeps (fun q => q ≠ g) Y z2 := Keeps.ofBelow bz2 (fun _ hq _ => hq)
    refine ⟨hS2, ?_⟩
    clear hHeld bz2
    unfold FactV.val
    dsimp only
    try simp only [Act.put, List.setIfInBounds_toArray, List.set_cons_zero, List.set_cons_succ]
    refine takeG 8 (v := .pointer (some ⟨g, k' * 3, none⟩)) rfl (by kernel_rfl) (by kernel_rfl) (by kernel_rfl) (by kernel_rfl) (fun _ _ _ h => h) ?hy (by assumption) ?_
    case hy => (intro w' hSw; go_simp)
    try simp only [List.setIfInBounds_toArray, List.set_cons_zero, List.set_cons_succ]
    have ho2 := rowBelow hoY hz2
    have K2 := KY.below hz2
    obtain ⟨_, c0, c1, c2⟩ := dY.keep hz2
    dsimp only at c0 c1 c2
    obtain ⟨r1, g1⟩ := ho2.stored (k' * 3) (.int .i64 m1)
    obtain ⟨r2, g2⟩ := r1.stored (k' * 3 + 1) (.int .i64 m2)
    obtain ⟨r3, g3⟩ := r2.stored (k' * 3 + 2) (.int .i64 m3)
    have fz0 := ho2.frozenAt (k' * 3)
    have fz1 := ho2.frozenAt (k' * 3 + 1)
    have fz2 := ho2.frozenAt (k' * 3 + 2)
    have hset := cellsOf_set hk ⟨m1, m2, m3⟩
    rw [← hset] at r3
    have K5 := ((K2.grown g1 (fun q e h => h e)).grown g2 (fun q e h => h e)).grown g3 (fun q e h => h e)
    clear r1 r2 g1 g2 g3 hset ho2 K2
    have hS3 := ((hS2.setCell (p := ⟨g, k' * 3, none⟩) (fun h => h rfl) (.int .i64 m1)).setCell (p := ⟨g, k' * 3 + 1, none⟩) (fun h => h rfl) (.int .i64 m2)).setCell (p := ⟨g, k' * 3 + 2, none⟩) (fun h => h rfl) (.int .i64 m3)
    refine oneH 9 (by kernel_rfl) ?_
    refine storeH rfl (nx := .skip) (w' := (((z2.setCell ⟨g, k' * 3, none⟩ (.int .i64 m1)).setCell ⟨g, k' * 3 + 1, none⟩ (.int .i64 m2)).setCell ⟨g, k' * 3 + 2, none⟩ (.int .i64 m3))) (by go_simp) (.inl rfl) hS3 ?_
    refine wpAnyH_done (by kernel_rfl) ?_ _
    obtain ⟨z6, hz6⟩ : ∃ z6, (((z2.setCell ⟨g, k' * 3, none⟩ (.int .i64 m1)).setCell ⟨g, k' * 3 + 1, none⟩ (.int .i64 m2)).setCell ⟨g, k' * 3 + 2, none⟩ (.int .i64 m3)) = z6 := ⟨_, rfl⟩
    rw [hz6] at r3 K5 ⊢
    have HO : Hid (z6.ownsRow base 54 3 (.slice (some ⟨g, 0, none⟩) l.length cap) (putL l ⟨f1, f2, f3⟩ k').length (cellsOf FactV.cells (putL l ⟨f1, f2, f3⟩ k'))) := by show World.ownsRow _ _ _ _ _ _ _; rw [HN.out, List.length_set]; exact r3
    clear hz6 r3 hS2 hS3 c0 c1 c2 fz0 fz1 fz2 HN t0 t1 t2 dY pY hoY KY hz2 HM
    go_wp2
    go_ret
    exact ⟨_, rfl, HO.out, K5⟩
end Go.Proofs.YtmdcankfjmkkeaaGreat
/- A node and three cells more in one block, its lists rows of one's own: what a call works on. -/
namespace Go.Proofs.YtmdcankfjmkkeaaGreat
open Go Go.RowKit
set_option linter.unusedVariables false
set_option linter.unusedSimpArgs false

theorem rowSlice {w : World} {lo n : Nat} {v : Value} {xs : List Value} {e : TypeId} {size : Nat} (h : w.ownsRow lo e size v n xs) : ∃ a cap, v = .slice a n cap := by
  rcases h.2 with ⟨hv, hn⟩ | ⟨g, cap, cur, hv, _⟩
  · exact ⟨none, 0, by rw [hv, hn]⟩
  · exact ⟨_, cap, hv⟩
theorem OwnsRow.cellRowDb {w : World} {base : Nat} {v : Value} {l : List FactV} (h : w.ownsRow base 112 3 v l.length (cellsOf FactV.cells l)) : ∃ a cap, v = .slice a l.length cap ∧ CellRow w a (cellsOf FactV.cells l) := by
  rcases own_cellsDb h with ⟨rfl, rfl⟩ | ⟨g, cap, rfl, ho⟩
  · exact ⟨none, 0, rfl, .inl rfl⟩
  · exact ⟨_, cap, rfl, ho.row⟩
/-- A node's lists, rows of one's own. -/
structure StRows (w : World) (c : Nat) (a : NodeM) (n : NodeV) : Prop where
  v : w.ownsRow c 54 3 (.slice a.va n.view.length a.vc) n.view.length (cellsOf FactV.cells n.view)
  r : w.ownsRow c 59 4 (.slice a.ra n.rum.length a.rc) n.rum.length (cellsOf RumV.cells n.rum)
  t : w.ownsRow c 2 1 (.slice a.ta n.tl.length a.tc) n.tl.length (numsV n.tl)
  d : w.ownsRow c 112 3 (.slice a.da n.db.length a.dc) n.db.length (cellsOf FactV.cells n.db)
/-- No type of such a list's elements. -/
structure NotEl (T : TypeId) : Prop where
  f : T ≠ 54
  r : T ≠ 59
  i : T ≠ 2
  d : T ≠ 112
theorem StRows.keep {w w' : World} {c : Nat} {a : NodeM} {n : NodeV} (h : StRows w c a n) (k : Below w.heap.size w w') : StRows w' c a n := ⟨rowBelow h.v k, rowBelow h.r k, rowBelow h.t k, rowBelow h.d k⟩
theorem StRows.keepB {w w' : World} {c b : Nat} {a : NodeM} {n : NodeV} {T : TypeId} {cs : Array Value} (h : StRows w c a n) (hb : BlkIs w b T cs) (hT : NotEl T) (k : Keeps (fun q => q ≠ b) w w') : StRows w' c a n :=
  ⟨rowKeep h.v k (fun g e hg => hb.not_row hT.f h.v (hg ▸ e)), rowKeep h.r k (fun g e hg => hb.not_row hT.r h.r (hg ▸ e)), rowKeep h.t k (fun g e hg => hb.not_row hT.i h.t (hg ▸ e)), rowKeep h.d k (fun g e hg => hb.not_row hT.d h.d (hg ▸ e))⟩
theorem StRows.nodeRows {w : World} {c : Nat} {a : NodeM} {n : NodeV} (h : StRows w c a n) : NodeRows w a n := by
  obtain ⟨_, _, e1, r1⟩ := OwnsRow.cellRow h.v
  obtain ⟨_, _, e4, r4⟩ := OwnsRow.cellRowDb h.d
  obtain ⟨_, _, e2, r2⟩ := OwnsRow.cellRowR h.r
  obtain ⟨_, _, e3, r3⟩ := own_nums h.t
  simp only [Value.slice.injEq, true_and] at e1 e2 e3 e4
  obtain ⟨rfl, rfl⟩ := e1
  obtain ⟨rfl, rfl⟩ := e2
  obtain ⟨rfl, rfl⟩ := e3
  obtain ⟨rfl, rfl⟩ := e4
  exact ⟨r1, r2, r3.row, r4⟩
theorem row_room {w : World} {lo n m cap : Nat} {a : Option Addr} {xs : List Value} {e : TypeId} {size : Nat} (h : w.ownsRow lo e size (.slice a m cap) n xs) : m ≤ cap ∧ (cap : Int) ≤ 9223372036854775807 := by
  rcases h.2 with ⟨hv, hn⟩ | ⟨g, c', cur, hv, _, _, h1, h2, _⟩
  · simp only [Value.slice.injEq] at hv
    omega
  · simp only [Value.slice.injEq] at hv
    unfold maxLen at h2
    omega
theorem StRows.room {w : World} {c : Nat} {a : NodeM} {n : NodeV} (h : StRows w c a n) : NodeRoom a n := ⟨(row_room h.v).1, (row_room h.r).1, (row_room h.t).1, (row_room h.d).1⟩
theorem row_ap {w : World} {lo lo' n m : Nat} {u v : Value} {xs ys : List Value} {e f : TypeId} {size size' : Nat} (h : w.ownsRow lo e size u n xs) (k : w.ownsRow lo' f size' v m ys) (hne : e ≠ f) {g : Nat} (h1 : u.ownBlock = some g) (h2 : v.ownBlock = some g) : False := by
  rcases h.2 with ⟨rfl, _⟩ | ⟨g1, c1, cur1, rfl, _, hg, _⟩
  · cases h1
  rcases k.2 with ⟨rfl, _⟩ | ⟨g2, c2, cur2, rfl, _, hg2, _⟩
  · cases h2
  simp only [Value.ownBlock, Option.some.injEq] at h1 h2
  subst h1
  subst h2
  rw [hg] at hg2
  simp only [Option.some.injEq, Obj.cells.injEq] at hg2
  exact hne hg2.2.1
theorem StRows.own {w : World} {c : Nat} {a : NodeM} {n : NodeV} (h : StRows w c a n) : OwnNode w c a n where
  v := own_sl h.v
  r := own_slR h.r
  t := by
    obtain ⟨_, _, e3, r3⟩ := own_nums h.t
    simp only [Value.slice.injEq, true_and] at e3
    obtain ⟨rfl, rfl⟩ := e3
    exact r3
  d := own_slDb h.d
  vr := fun g h1 h2 => (row_ap h.v h.r (by decide) h1 h2).elim
  vd := fun g h1 h2 => (row_ap h.v h.d (by decide) h1 h2).elim
  rd := fun g h1 h2 => (row_ap h.r h.d (by decide) h1 h2).elim
  tv := fun g off h1 h2 => (row_ap h.t h.v (by decide) (by rw [h1]; rfl) h2).elim
  tr := fun g off h1 h2 => (row_ap h.t h.r (by decide) (by rw [h1]; rfl) h2).elim
  td := fun g off h1 h2 => (row_ap h.t h.d (by decide) (by rw [h1]; rfl) h2).elim
  tb := fun b off h1 => h.t.lt b (by rw [h1]; rfl)
/-- Such a block. -/
def stCells (a : NodeM) (n : NodeV) (x y z : Value) : Array Value := #[.int .i64 n.id, .int .i64 n.inc, .int .i64 n.num, .int .i64 n.seed, .int .i64 n.next, .slice a.va n.view.length a.vc, .slice a.ra n.rum.length a.rc, .slice a.ta n.tl.length a.tc, .int .i64 n.at0, .int .i64 n.pb.node, .int .i64 n.pb.num, .int .i64 n.pb.due, .bool n.pb.asked, .slice a.da n.db.length a.dc, x, y, z]
structure NodeSt (T : TypeId) (w : World) (c b : Nat) (a : NodeM) (n : NodeV) (x y z : Value) : Prop where
  blk : BlkIs w b T (stCells a n x y z)
  lo : c ≤ b
  rows : StRows w c a n
theorem NodeSt.keep {T : TypeId} {w w' : World} {c b : Nat} {a : NodeM} {n : NodeV} {x y z : Value} (h : NodeSt T w c b a n x y z) (k : Below w.heap.size w w') : NodeSt T w' c b a n x y z := ⟨h.blk.keep k, h.lo, h.rows.keep k⟩
end Go.Proofs.YtmdcankfjmkkeaaGreat
/- What the exact laws of a node's calls need: an answer of one's own, carried along, read, compared, marked and held. -/
namespace Go.Proofs.YtmdcankfjmkkeaaGreat
open Go Go.RowKit
set_option linter.unusedVariables false
set_option linter.unusedSimpArgs false

theorem OwnOut.keep {w w' : World} {lo : Nat} {a : NodeM} {n : NodeV} {v : Value} {ms : List MailA} (h : OwnOut w lo a n v ms) (k : Below w.heap.size w w') : OwnOut w' lo a n v ms :=
  have K : Keeps (fun _ => True) w w' := Keeps.ofBelow k (fun q hq _ => hq)
  ⟨h.node.off K (fun _ _ => trivial), h.mails.off K (fun _ _ => trivial), h.ap⟩
theorem OwnOut.offO {w w' : World} {lo : Nat} {a : NodeM} {n : NodeV} {v : Value} {ms : List MailA} (h : OwnOut w lo a n v ms) {G : Nat → Prop} (k : Keeps G w w') (hg : ∀ g, ¬ (offN a n g ∧ offM v ms g) → G g) : OwnOut w' lo a n v ms :=
  ⟨h.node.off k (fun g hn => hg g (fun h => hn h.1)), h.mails.off k (fun g hn => hg g (fun h => hn h.2)), h.ap⟩
theorem OwnOut.rows {w : World} {lo : Nat} {a : NodeM} {n : NodeV} {v : Value} {ms : List MailA} (h : OwnOut w lo a n v ms) : NodeRows w a n := by
  obtain ⟨_, _, e1, c1, _⟩ := h.node.v
  obtain ⟨_, _, e2, c2, _⟩ := h.node.r
  obtain ⟨_, _, e4, c4, _⟩ := h.node.d
  unfold vSl at e1
  unfold rSl at e2
  unfold dSl at e4
  simp only [Value.slice.injEq, true_and] at e1 e2 e4
  obtain ⟨rfl, rfl⟩ := e1
  obtain ⟨rfl, rfl⟩ := e2
  obtain ⟨rfl, rfl⟩ := e4
  exact ⟨c1.row, c2.row, h.node.t.row, c4.row⟩
theorem OwnOut.slice {w : World} {lo : Nat} {a : NodeM} {n : NodeV} {v : Value} {ms : List MailA} (h : OwnOut w lo a n v ms) : ∃ am ac, v = .slice am ms.length ac := by
  obtain ⟨am, ac, e, _⟩ := h.mails.row
  exact ⟨am, ac, e⟩
theorem OwnOut.mailsAt {w : World} {lo : Nat} {a : NodeM} {n : NodeV} {am : Option Addr} {ac : Nat} {ms : List MailA} (h : OwnOut w lo a n (.slice am ms.length ac) ms) : MailsAt w am ms := by
  obtain ⟨_, _, e, oc, _⟩ := h.mails.row
  simp only [Value.slice.injEq, true_and] at e
  obtain ⟨rfl, rfl⟩ := e
  refine ⟨oc.row, fun i hi => ?_⟩
  obtain ⟨_, _, e2, c2, _⟩ := h.mails.facts i hi
  unfold slM at e2
  simp only [Value.slice.injEq, true_and] at e2
  obtain ⟨rfl, rfl⟩ := e2
  exact c2.row
theorem slBound {w : World} {lo n g : Nat} {v : Value} {l : List FactV} (h : OwnSl w lo v l) (hg : ¬ blkOf v l.length g) : lo ≤ g ∧ g < w.heap.size := by
  unfold blkOf at hg
  obtain ⟨a, cap, rfl, oc, hz⟩ := h
  have h0 : l.length ≠ 0 := fun h => hg (.inl h)
  have he : (Value.slice a l.length cap).ownBlock = some g := by
    by_cases e : (Value.slice a l.length cap).ownBlock = some g
    · exact e
    · exact absurd (.inr e) hg
  rcases oc with h1 | ⟨q, off, rfl, hlo, hlt, _⟩
  · have := cellsOf_length FactV.cells_len l
    rw [h1] at this
    simp only [List.length_nil] at this
    omega
  · simp only [Value.ownBlock, Option.some.injEq] at he
    omega
theorem slBoundR {w : World} {lo n g : Nat} {v : Value} {l : List RumV} (h : OwnSlR w lo v l) (hg : ¬ blkOf v l.length g) : lo ≤ g ∧ g < w.heap.size := by
  unfold blkOf at hg
  obtain ⟨a, cap, rfl, oc, hz⟩ := h
  have h0 : l.length ≠ 0 := fun h => hg (.inl h)
  have he : (Value.slice a l.length cap).ownBlock = some g := by
    by_cases e : (Value.slice a l.length cap).ownBlock = some g
    · exact e
    · exact absurd (.inr e) hg
  rcases oc with h1 | ⟨q, off, rfl, hlo, hlt, _⟩
  · have := cellsOf_length RumV.cells_len l
    rw [h1] at this
    simp only [List.length_nil] at this
    omega
  · simp only [Value.ownBlock, Option.some.injEq] at he
    omega
theorem OwnNode.bound {w : World} {lo : Nat} {a : NodeM} {n : NodeV} (h : OwnNode w lo a n) {g : Nat} (hg : ¬ offN a n g) : lo ≤ g ∧ g < w.heap.size := by
  by_cases h1 : blkOf (vSl a n) n.view.length g
  · by_cases h2 : blkOf (rSl a n) n.rum.length g
    · by_cases h4 : blkOf (dSl a n) n.db.length g
      · by_cases h3 : ∀ b off, a.ta = some ⟨b, off, none⟩ → g ≠ b
        · exact absurd ⟨h1, h2, h3, h4⟩ hg
        · simp only [Classical.not_forall, Classical.not_not] at h3
          obtain ⟨b, off, e, rfl⟩ := h3
          exact h.tb _ off e
      · exact slBound (n := 0) h.d h4
    · exact slBoundR (n := 0) h.r h2
  · exact slBound (n := 0) h.v h1
theorem OwnMails.bound {w : World} {lo : Nat} {v : Value} {ms : List MailA} (h : OwnMails w lo v ms) {g : Nat} (hg : ¬ offM v ms g) : lo ≤ g ∧ g < w.heap.size := by
  by_cases h1 : blkOf v ms.length g
  · by_cases h2 : ∀ i (h : i < ms.length), blkOf (slM ms[i]) ms[i].l.length g
    · exact absurd ⟨h1, h2⟩ hg
    · simp only [Classical.not_forall] at h2
      obtain ⟨i, hi, h3⟩ := h2
      exact slBound (n := 0) (h.facts i hi) h3
  · obtain ⟨a, cap, rfl, oc, hz⟩ := h.row
    unfold blkOf at h1
    have h0 : ms.length ≠ 0 := fun h => h1 (.inl h)
    have he : (Value.slice a ms.length cap).ownBlock = some g := by
      by_cases e : (Value.slice a ms.length cap).ownBlock = some g
      · exact e
      · exact absurd (.inr e) h1
    rcases oc with h4 | ⟨q, off, rfl, hlo, hlt, _⟩
    · have := cellsOf_length MailA.cells_len ms
      rw [h4] at this
      simp only [List.length_nil] at this
      omega
    · simp only [Value.ownBlock, Option.some.injEq] at he
      omega
theorem OwnOut.bound {w : World} {lo : Nat} {a : NodeM} {n : NodeV} {v : Value} {ms : List MailA} (h : OwnOut w lo a n v ms) {g : Nat} (hg : ¬ (offN a n g ∧ offM v ms g)) : lo ≤ g ∧ g < w.heap.size := by
  by_cases h1 : offN a n g
  · exact h.mails.bound (fun h2 => hg ⟨h1, h2⟩)
  · exact h.node.bound h1
/-- An answer's lists are short. -/
structure OutSmall (x : NOutV) : Prop where
  node : NodeLen x.node 1048576
  mails : x.mails.length ≤ 100
  facts : ∀ m ∈ x.mails, m.facts.length ≤ 1000
theorem map_alike {ms ns : List MailA} (h : ms.map MailA.v = ns.map MailA.v) : ∀ i (hi : i < ms.length) (hj : i < ns.length), Alike ms[i] ns[i] := by
  intro i hi hj
  have e : (ms.map MailA.v)[i]'(by simpa using hi) = (ns.map MailA.v)[i]'(by simpa using hj) := by simp only [h]
  simp only [List.getElem_map, MailA.v, MailV.mk.injEq] at e
  exact e
theorem map_facts {x : NOutV} (hs : OutSmall x) {ms : List MailA} (h : ms.map MailA.v = x.mails) : ms.length ≤ 1048576 ∧ ∀ i (hi : i < ms.length), ms[i].l.length ≤ 1048576 := by
  have h1 : ms.length = x.mails.length := by rw [← h]; simp
  have h2 := hs.mails
  refine ⟨by omega, fun i hi => ?_⟩
  have h3 := hs.facts ms[i].v (by rw [← h]; exact List.mem_map.2 ⟨_, List.getElem_mem hi, rfl⟩)
  have : ms[i].v.facts = ms[i].l := rfl
  rw [this] at h3
  omega
theorem kM_small {x : NOutV} (hs : OutSmall x) (k : Nat) {ms : List MailA} (h : ms.map MailA.v = x.mails) : kM k ms ≤ k + 400000 := by
  have h1 : ms.length = x.mails.length := by rw [← h]; simp
  have h2 := hs.mails
  have hf : ∀ m ∈ ms, m.l.length ≤ 1000 := fun m hm => hs.facts m.v (by rw [← h]; exact List.mem_map.2 ⟨m, hm, rfl⟩)
  have key : ∀ (l : List MailA) (k : Nat), (∀ m ∈ l, m.l.length ≤ 1000) → kM k l ≤ k + 4000 * l.length := by
    intro l
    induction l with
    | nil => intro k _; simp [kM]
    | cons m r ih =>
      intro k hm
      have h0 := hm m (by simp)
      have := ih (k + 6 + 3 * m.l.length) (fun q hq => hm q (List.mem_cons_of_mem _ hq))
      simp only [kM, List.length_cons] at this ⊢
      omega
  have := key ms k hf
  omega
end Go.Proofs.YtmdcankfjmkkeaaGreat
