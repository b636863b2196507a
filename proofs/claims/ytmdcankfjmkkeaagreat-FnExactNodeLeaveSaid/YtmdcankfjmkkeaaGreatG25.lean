/- A node in memory, and as an argument of a law. -/
import Derived.Test.YtmdcankfjmkkeaaGreatG22
import Derived.Test.YtmdcankfjmkkeaaGreatG23
import Derived.Test.YtmdcankfjmkkeaaGreatRumMark
import Derived.Test.YtmdcankfjmkkeaaGreatTArgs
import Derived.OpenShut
import Derived.Lib.SmallJoins
import Derived.Test.YtmdcankfjmkkeaaGreatG4
import Derived.Test.YtmdcankfjmkkeaaGreatG3
namespace Go.Proofs.YtmdcankfjmkkeaaGreat
open Go Go.RowKit Go.ChangeShapes Go.WideShapes
set_option linter.unusedVariables false
set_option linter.unusedSimpArgs false

/-- Where a node's lists lie. -/
structure NodeM where
  va : Option Addr
  vc : Nat
  ra : Option Addr
  rc : Nat
  ta : Option Addr
  tc : Nat
  da : Option Addr
  dc : Nat
def nodeCells (a : NodeM) (n : NodeV) : Array Value := #[.int .i64 n.id, .int .i64 n.inc, .int .i64 n.num, .int .i64 n.seed, .int .i64 n.next, .slice a.va n.view.length a.vc, .slice a.ra n.rum.length a.rc, .slice a.ta n.tl.length a.tc, .int .i64 n.at0, .int .i64 n.pb.node, .int .i64 n.pb.num, .int .i64 n.pb.due, .bool n.pb.asked, .slice a.da n.db.length a.dc]
def nodeVal (a : NodeM) (n : NodeV) : Value := .agg (nodeCells a n)
/-- Its lists, to read. -/
structure NodeRows (w : World) (a : NodeM) (n : NodeV) : Prop where
  v : CellRow w a.va (cellsOf FactV.cells n.view)
  r : CellRow w a.ra (cellsOf RumV.cells n.rum)
  t : NumRow w a.ta n.tl
  d : CellRow w a.da (cellsOf FactV.cells n.db)
theorem NodeRows.keep {w w' : World} {a : NodeM} {n : NodeV} (h : NodeRows w a n) (hb : Below w.heap.size w w') : NodeRows w' a n := ⟨h.v.keep hb, h.r.keep hb, h.t.keep hb, h.d.keep hb⟩
/-- Their room. -/
structure NodeRoom (a : NodeM) (n : NodeV) : Prop where
  v : n.view.length ≤ a.vc
  r : n.rum.length ≤ a.rc
  t : n.tl.length ≤ a.tc
  d : n.db.length ≤ a.dc
/-- How long they are at most. -/
structure NodeLen (n : NodeV) (k : Nat) : Prop where
  v : n.view.length ≤ k
  r : n.rum.length ≤ k
  t : n.tl.length ≤ k
  d : n.db.length ≤ k
theorem array14 {α : Type} {cs : Array α} (h : cs.size = 14) : ∃ c0 c1 c2 c3 c4 c5 c6 c7 c8 c9 c10 c11 c12 c13, cs = #[c0, c1, c2, c3, c4, c5, c6, c7, c8, c9, c10, c11, c12, c13] := by
  obtain ⟨l⟩ := cs
  match l, h with
  | [c0, c1, c2, c3, c4, c5, c6, c7, c8, c9, c10, c11, c12, c13], _ => exact ⟨c0, c1, c2, c3, c4, c5, c6, c7, c8, c9, c10, c11, c12, c13, rfl⟩
/-- A node as an argument. -/
structure NodeA where
  m : NodeM
  n : NodeV
def NodeA.val (x : NodeA) : Value := nodeVal x.m x.n
def NodeArg (w : World) (x : NodeA) : Prop := NodeRows w x.m x.n ∧ NodeRoom x.m x.n ∧ NodeLen x.n maxLen ∧ (x.m.ta = none → x.m.tc = 0)
set_option maxHeartbeats 1000000 in
set_option maxRecDepth 100000 in
theorem nodeVal_open {H : Type} {enc : TypeId × Value → H} {w : World} {r : Reach} {b0 : Nat} {spare : Nat → Bool} {held : Bool} {v : Value} {d : DataW H} {p : List MemPlace} (hv : Value.okWide Tryz.prog w r b0 67 v) (h : DataW.Trod enc Tryz.prog w 0 spare held 67 v d p) :
    ∃ x : NodeA, v = x.val ∧ NodeArg w x := by
  obtain ⟨cs, rfl, hsz⟩ := okWide_struct Tryz.underlying67 hv
  obtain ⟨c0, c1, c2, c3, c4, c5, c6, c7, c8, c9, c10, c11, c12, c13, rfl⟩ := array14 (hsz.trans (by kernel_rfl))
  obtain ⟨fuel, hf⟩ := h
  obtain ⟨_, n, hx⟩ := trod_fields Tryz.underlying67 hf
  have k1 : Tryz.prog.cellsOf 2 = 1 := by kernel_rfl
  have k2 : Tryz.prog.cellsOf 61 = 1 := by kernel_rfl
  have k3 : Tryz.prog.cellsOf 62 = 1 := by kernel_rfl
  have k4 : Tryz.prog.cellsOf 63 = 2 := by kernel_rfl
  have k5 : Tryz.prog.cellsOf 64 = 4 := by kernel_rfl
  have k6 : Tryz.prog.cellsOf 65 = 1 := by kernel_rfl
  have k7 : Tryz.prog.cellsOf 25 = 1 := by kernel_rfl
  have k8 : Tryz.prog.cellsOf 4 = 1 := by kernel_rfl
  obtain ⟨y0, h0⟩ := hx 0 _ rfl
  obtain ⟨y1, h1⟩ := hx 1 _ rfl
  obtain ⟨y2, h2⟩ := hx 2 _ rfl
  obtain ⟨y3, h3⟩ := hx 3 _ rfl
  obtain ⟨y4, h4⟩ := hx 4 _ rfl
  obtain ⟨y5, h5⟩ := hx 5 _ rfl
  obtain ⟨y6, h6⟩ := hx 6 _ rfl
  obtain ⟨y7, h7⟩ := hx 7 _ rfl
  obtain ⟨y8, h8⟩ := hx 8 _ rfl
  obtain ⟨y9, h9⟩ := hx 9 _ rfl
  simp [Value.cells, k1, k2, k3, k4, k5, k6] at h0 h1 h2 h3 h4 h5 h6 h7 h8 h9
  obtain ⟨_, n2, hx2⟩ := trod_fields Tryz.underlying63 h7
  obtain ⟨z0, g0⟩ := hx2 0 _ rfl
  obtain ⟨z1, g1⟩ := hx2 1 _ rfl
  simp [k1, k7] at g0 g1
  obtain ⟨_, n3, hx3⟩ := trod_fields Tryz.underlying64 h8
  obtain ⟨q0, e0⟩ := hx3 0 _ rfl
  obtain ⟨q1, e1⟩ := hx3 1 _ rfl
  obtain ⟨q2, e2⟩ := hx3 2 _ rfl
  obtain ⟨q3, e3⟩ := hx3 3 _ rfl
  simp [k1, k8] at e0 e1 e2 e3
  obtain ⟨i0, a0, _, _⟩ := DataW.trod_int Tryz.underlying2 h0
  obtain ⟨i1, a1, _, _⟩ := DataW.trod_int Tryz.underlying2 h1
  obtain ⟨i2, a2, _, _⟩ := DataW.trod_int Tryz.underlying2 h2
  obtain ⟨i3, a3, _, _⟩ := DataW.trod_int Tryz.underlying2 h3
  obtain ⟨i4, a4, _, _⟩ := DataW.trod_int Tryz.underlying2 h4
  obtain ⟨j1, b1, _, _⟩ := DataW.trod_int Tryz.underlying2 g1
  obtain ⟨m0, s0, _, _⟩ := DataW.trod_int Tryz.underlying2 e0
  obtain ⟨m1, s1, _, _⟩ := DataW.trod_int Tryz.underlying2 e1
  obtain ⟨m2, s2, _, _⟩ := DataW.trod_int Tryz.underlying2 e2
  obtain ⟨m3, s3, _⟩ := DataW.trod_bool Tryz.underlying4 e3
  obtain ⟨va, vl, vc, t5⟩ := Joins.slice_form Tryz.underlying61 h5
  obtain ⟨ra, rl, rc, t6⟩ := Joins.slice_form Tryz.underlying62 h6
  obtain ⟨ta, tl, tc, t7⟩ := Joins.slice_form Tryz.underlying25 g0
  obtain ⟨da, dl, dc, t9⟩ := Joins.slice_form Tryz.underlying65 h9
  simp only [List.cons.injEq, and_true] at a0 a1 a2 a3 a4 b1 s0 s1 s2 s3 t5 t6 t7 t9
  subst t5 t6 t7 t9
  obtain ⟨lv, rfl, fv⟩ := factArg_open h5
  obtain ⟨lr, rfl, fr⟩ := rumorArg_open h6
  obtain ⟨lt, rfl, ft, fl⟩ := numArg_open g0
  obtain ⟨ld, rfl, fd⟩ := doubtArg_open h9
  refine ⟨⟨⟨va, vc, ra, rc, ta, tc, da, dc⟩, ⟨i0, i1, i2, i3, i4, lv, lr, lt, j1, ⟨m0, m1, m2, m3⟩, ld⟩⟩, ?_, ⟨fv.1, fr.1, ft.1, fd.1⟩, ⟨fv.2.2, fr.2.2, ft.2.1, fd.2.2⟩, ⟨fv.2.1, fr.2.1, by unfold maxLen; omega, fd.2.1⟩, ft.2.2.1⟩
  rw [a0, a1, a2, a3, a4, b1, s0, s1, s2, s3]
  rfl
end Go.Proofs.YtmdcankfjmkkeaaGreat
/- The contracts of the exact laws' helpers over mails: copy, compare, measure. -/
namespace Go.Proofs.YtmdcankfjmkkeaaGreat
open Go Go.RowKit
set_option linter.unusedVariables false

theorem blk7_cells {W : World} {b t : Nat} {u0 u1 u2 u3 u4 u5 u6 : Value} (h : BlkIs W b t #[u0, u1, u2, u3, u4, u5, u6]) :
    W.cell? ⟨b, 0, none⟩ = some u0 ∧ W.cell? ⟨b, 1, none⟩ = some u1 ∧ W.cell? ⟨b, 2, none⟩ = some u2 ∧ W.cell? ⟨b, 3, none⟩ = some u3 ∧ W.cell? ⟨b, 4, none⟩ = some u4 ∧ W.cell? ⟨b, 5, none⟩ = some u5 ∧ W.cell? ⟨b, 6, none⟩ = some u6 :=
  ⟨h.cell 0, h.cell 1, h.cell 2, h.cell 3, h.cell 4, h.cell 5, h.cell 6⟩
theorem szMail_any (m : MailA) (left : Int) (w : World) (h0 : 0 ≤ left) (h1 : left ≤ 1048576) (hl : m.l.length ≤ 9223372036854775807) :
    Calls Tryz.prog 41 #[m.val, .int .i64 left] w fun e w' => e = .returned (.int .i64 (leftOf left m.l.length)) ∧ Below w.heap.size w w' := by
  obtain ⟨k, f, t, n, a, r, p, cap, l⟩ := m
  unfold MailA.val
  dsimp only at hl ⊢
  have b1 := (Below.refl w.heap.size w).alloc (Nat.le_refl _) (.cells #[.int .i64 k, .int .i64 f, .int .i64 t, .int .i64 n, .int .i64 a, .int .i64 r, .slice p l.length cap] 75)
  go_enter Tryz.func41, Tryz.ntmps41
  go_wp2_with fail
  refine (szFacts_any p cap l.length left _ h0 h1 hl).mono ?_
  rintro e x ⟨rfl, rfl⟩
  by_cases hs : leftOf left l.length < 0
  · have e1 : leftOf left l.length = -1 := by
      unfold leftOf at hs ⊢
      by_cases h : left < (l.length : Int)
      · rw [if_pos h]
      · rw [if_neg h] at hs
        omega
    rw [e1]
    have HE : Hid (leftOf left l.length = -1) := e1
    clear hs e1
    go_wp2
    go_ret
    exact ⟨by rw [HE.out]; rfl, b1⟩
  · obtain ⟨q, hq⟩ : ∃ q : Int, leftOf left l.length = q := ⟨_, rfl⟩
    rw [hq] at hs ⊢
    have HE : Hid (leftOf left l.length = q) := hq
    clear hq
    go_wp2
    go_ret
    exact ⟨by rw [HE.out]; rfl, b1⟩
theorem blk_put7 {W : World} {b t : Nat} {u0 u1 u2 u3 u4 u5 u6 : Value} (h : BlkIs W b t #[u0, u1, u2, u3, u4, u5, u6]) (v0 v1 v2 v3 v4 v5 v6 : Value) :
    BlkIs (((((((W.setCell ⟨b, 0, none⟩ v0).setCell ⟨b, 1, none⟩ v1).setCell ⟨b, 2, none⟩ v2).setCell ⟨b, 3, none⟩ v3).setCell ⟨b, 4, none⟩ v4).setCell ⟨b, 5, none⟩ v5).setCell ⟨b, 6, none⟩ v6) b t #[v0, v1, v2, v3, v4, v5, v6] := by
  have := ((((((h.put 0 v0).put 1 v1).put 2 v2).put 3 v3).put 4 v4).put 5 v5).put 6 v6
  simpa using this
theorem keeps_seven (w : World) (b : Nat) (v0 v1 v2 v3 v4 v5 v6 : Value) : Keeps (fun k => k ≠ b) w (((((((w.setCell ⟨b, 0, none⟩ v0).setCell ⟨b, 1, none⟩ v1).setCell ⟨b, 2, none⟩ v2).setCell ⟨b, 3, none⟩ v3).setCell ⟨b, 4, none⟩ v4).setCell ⟨b, 5, none⟩ v5).setCell ⟨b, 6, none⟩ v6) :=
  (((((((Keeps.refl _ _).setCell (fun h => h rfl) _).setCell (fun h => h rfl) _).setCell (fun h => h rfl) _).setCell (fun h => h rfl) _).setCell (fun h => h rfl) _).setCell (fun h => h rfl) _).setCell (fun h => h rfl) _
theorem OwnCells.keepK {w w' : World} {lo : Nat} {a : Option Addr} {cs : List Value} (h : OwnCells w lo a cs) {G : Nat → Prop} (k : Keeps G w w') (hg : ∀ b, lo ≤ b → G b) : OwnCells w' lo a cs := by
  rcases h with h | ⟨b, off, rfl, hlo, hlt, hc, hf⟩
  · exact .inl h
  · exact .inr ⟨b, off, rfl, hlo, Nat.lt_of_lt_of_le hlt k.size, fun i hi => (k.cell (p := ⟨b, off + i, none⟩) hlt (hg b hlo)).trans (hc i hi), fun i hi => (k.frozen (p := ⟨b, off + i, none⟩) hlt (hg b hlo)).trans (hf i hi)⟩
set_option maxHeartbeats 1000000 in
set_option maxRecDepth 100000 in
theorem toMail_any (m : MailA) (w : World) (hl : m.l.length ≤ 1048576) (hrow : CellRow w m.p (cellsOf FactV.cells m.l)) :
    Calls Tryz.prog 42 #[m.val] w fun e w' => ∃ g, e = .returned (MailA.val { m with p := some ⟨g, 0, none⟩, cap := m.l.length }) ∧ OwnCells w' w.heap.size (some ⟨g, 0, none⟩) (cellsOf FactV.cells m.l) ∧ Below w.heap.size w w' := by
  obtain ⟨k, f, t, n, a, r, p, cap, l⟩ := m
  unfold MailA.val
  dsimp only at hl hrow ⊢
  go_enter Tryz.func42, Tryz.ntmps42
  go_upto_region 8 with fail
  have B0 := (((Below.refl w.heap.size w).alloc (Nat.le_refl _) (.cells #[.int .i64 k, .int .i64 f, .int .i64 t, .int .i64 n, .int .i64 a, .int .i64 r, .slice p l.length cap] 75)).alloc (by simp) (.cells #[.int .i64 0, .int .i64 0, .int .i64 0, .int .i64 0, .int .i64 0, .int .i64 0, .slice none 0 0] 40)).alloc (by simp; omega) (.cells #[.int .i64 k, .int .i64 f, .int .i64 t, .int .i64 n, .int .i64 a, .int .i64 r, .slice none 0 0] 40)
  have p0 := ((BlkIs.new w 75 #[.int .i64 k, .int .i64 f, .int .i64 t, .int .i64 n, .int .i64 a, .int .i64 r, .slice p l.length cap]).keep ((Below.refl _ _).alloc (Nat.le_refl _) (.cells #[.int .i64 0, .int .i64 0, .int .i64 0, .int .i64 0, .int .i64 0, .int .i64 0, .slice none 0 0] 40))).keep ((Below.refl _ _).alloc (Nat.le_refl _) (.cells #[.int .i64 k, .int .i64 f, .int .i64 t, .int .i64 n, .int .i64 a, .int .i64 r, .slice none 0 0] 40))
  have p1 := (BlkIs.new (w.alloc (.cells #[.int .i64 k, .int .i64 f, .int .i64 t, .int .i64 n, .int .i64 a, .int .i64 r, .slice p l.length cap] 75)) 40 #[.int .i64 0, .int .i64 0, .int .i64 0, .int .i64 0, .int .i64 0, .int .i64 0, .slice none 0 0]).keep ((Below.refl _ _).alloc (Nat.le_refl _) (.cells #[.int .i64 k, .int .i64 f, .int .i64 t, .int .i64 n, .int .i64 a, .int .i64 r, .slice none 0 0] 40))
  have p2 := BlkIs.new ((w.alloc (.cells #[.int .i64 k, .int .i64 f, .int .i64 t, .int .i64 n, .int .i64 a, .int .i64 r, .slice p l.length cap] 75)).alloc (.cells #[.int .i64 0, .int .i64 0, .int .i64 0, .int .i64 0, .int .i64 0, .int .i64 0, .slice none 0 0] 40)) 40 #[.int .i64 k, .int .i64 f, .int .i64 t, .int .i64 n, .int .i64 a, .int .i64 r, .slice none 0 0]
  rw [World.size_alloc] at p1
  rw [World.size_alloc, World.size_alloc] at p2
  obtain ⟨W, hW⟩ : ∃ W, ((w.alloc (.cells #[.int .i64 k, .int .i64 f, .int .i64 t, .int .i64 n, .int .i64 a, .int .i64 r, .slice p l.length cap] 75)).alloc (.cells #[.int .i64 0, .int .i64 0, .int .i64 0, .int .i64 0, .int .i64 0, .int .i64 0, .slice none 0 0] 40)).alloc (.cells #[.int .i64 k, .int .i64 f, .int .i64 t, .int .i64 n, .int .i64 a, .int .i64 r, .slice none 0 0] 40) = W := ⟨_, rfl⟩
  rw [hW] at B0 p0 p1 p2 ⊢
  have hs : w.heap.size + 3 ≤ W.heap.size := by rw [← hW]; simp
  have HS : Hid (w.heap.size + 3 ≤ W.heap.size) := hs
  clear hW hs
  have hrowW := hrow.keep B0
  have c6 := p0.cell 6
  simp only [List.getElem?_toArray, List.getElem?_cons_succ, List.getElem?_cons_zero] at c6
  go_wp2_with fail
  refine (toFacts_any p cap l _ hl hrowW).mono ?_
  rintro e x ⟨rfl, ox, bx⟩
  obtain ⟨g, hg⟩ : ∃ g, W.heap.size = g := ⟨_, rfl⟩
  have HG : Hid (W.heap.size = g) := hg
  have B1 := B0.trans (bx.mono B0.size)
  have q1 := p1.keep bx
  have q2 := p2.keep bx
  have d6 := q2.cell 6
  have f6 := q2.fz 6
  simp only [List.getElem?_toArray, List.getElem?_cons_succ, List.getElem?_cons_zero] at d6
  rw [hg] at ox ⊢
  clear bx p0 p1 p2 c6 hrowW B0 hg
  go_upto_region 9 with fail
  have K2 : Keeps (fun k => k ≠ w.heap.size + 1 + 1) x (x.setCell ⟨w.heap.size + 1 + 1, 6, none⟩ (.slice (some ⟨g, 0, none⟩) l.length l.length)) := (Keeps.refl _ _).setCell (fun h => h rfl) _
  have r1 := q1.keepK K2 (by omega)
  have r2 := q2.put 6 (.slice (some ⟨g, 0, none⟩) l.length l.length)
  simp only [List.setIfInBounds_toArray, List.set_cons_succ, List.set_cons_zero] at r2
  have B2 := B1.trans (K2.toBelow B1.size (fun k hk => by omega))
  have o2 := ox.keepK K2 (fun b hb => by have := HS.out; have := HG.out; omega)
  obtain ⟨Y, hY⟩ : ∃ Y, x.setCell ⟨w.heap.size + 1 + 1, 6, none⟩ (.slice (some ⟨g, 0, none⟩) l.length l.length) = Y := ⟨_, rfl⟩
  rw [hY] at K2 r1 r2 B2 o2 ⊢
  have e0 := r2.cell 0
  have e1 := r2.cell 1
  have e2 := r2.cell 2
  have e3 := r2.cell 3
  have e4 := r2.cell 4
  have e5 := r2.cell 5
  have e6 := r2.cell 6
  simp only [List.getElem?_toArray, List.getElem?_cons_succ, List.getElem?_cons_zero] at e0 e1 e2 e3 e4 e5 e6
  have z0 := r1.cell 0
  have z1 := r1.cell 1
  have z2 := r1.cell 2
  have z3 := r1.cell 3
  have z4 := r1.cell 4
  have z5 := r1.cell 5
  have z6 := r1.cell 6
  simp only [List.getElem?_toArray, List.getElem?_cons_succ, List.getElem?_cons_zero] at z0 z1 z2 z3 z4 z5 z6
  have y0 := r1.fz 0
  have y1 := r1.fz 1
  have y2 := r1.fz 2
  have y3 := r1.fz 3
  have y4 := r1.fz 4
  have y5 := r1.fz 5
  have y6 := r1.fz 6
  have Kq := keeps_seven Y (w.heap.size + 1) (.int .i64 k) (.int .i64 f) (.int .i64 t) (.int .i64 n) (.int .i64 a) (.int .i64 r) (.slice (some ⟨g, 0, none⟩) l.length l.length)
  have rq := blk_put7 r1 (.int .i64 k) (.int .i64 f) (.int .i64 t) (.int .i64 n) (.int .i64 a) (.int .i64 r) (.slice (some ⟨g, 0, none⟩) l.length l.length)
  have Bq := B2.trans (Kq.toBelow B2.size (fun k hk => by omega))
  have oq := o2.keepK Kq (fun b hb => by have := HS.out; have := HG.out; omega)
  clear hY K2 r1 r2 B2 o2 q1 q2 d6 f6 ox B1 hrow
  go_wp2
  obtain ⟨Z, hZ⟩ : ∃ Z, ((((((Y.setCell ⟨w.heap.size + 1, 0, none⟩ (.int .i64 k)).setCell ⟨w.heap.size + 1, 1, none⟩ (.int .i64 f)).setCell ⟨w.heap.size + 1, 2, none⟩ (.int .i64 t)).setCell ⟨w.heap.size + 1, 3, none⟩ (.int .i64 n)).setCell ⟨w.heap.size + 1, 4, none⟩ (.int .i64 a)).setCell ⟨w.heap.size + 1, 5, none⟩ (.int .i64 r)).setCell ⟨w.heap.size + 1, 6, none⟩ (.slice (some ⟨g, 0, none⟩) l.length l.length) = Z := ⟨_, rfl⟩
  rw [hZ] at rq Bq oq ⊢
  have t0 := rq.cell 0
  have t1 := rq.cell 1
  have t2 := rq.cell 2
  have t3 := rq.cell 3
  have t4 := rq.cell 4
  have t5 := rq.cell 5
  have t6 := rq.cell 6
  simp only [List.getElem?_toArray, List.getElem?_cons_succ, List.getElem?_cons_zero] at t0 t1 t2 t3 t4 t5 t6
  exact bodyPost_ret (v := .agg #[.int .i64 k, .int .i64 f, .int .i64 t, .int .i64 n, .int .i64 a, .int .i64 r, .slice (some ⟨g, 0, none⟩) l.length l.length]) (by simp [results, Tryz.results42, go_sem, t0, t1, t2, t3, t4, t5, t6]) rfl ⟨g, rfl, oq.mono (by have := HS.out; have := HG.out; omega), Bq⟩
set_option maxHeartbeats 1000000 in
set_option maxRecDepth 100000 in
theorem eqMail_same (k f t n a r : Int) (p1 p2 : Option Addr) (cap1 cap2 : Nat) (l : List FactV) (w : World) (hl : l.length ≤ 1048576) (h1 : CellRow w p1 (cellsOf FactV.cells l)) (h2 : CellRow w p2 (cellsOf FactV.cells l)) :
    Calls Tryz.prog 43 #[MailA.val ⟨k, f, t, n, a, r, p1, cap1, l⟩, MailA.val ⟨k, f, t, n, a, r, p2, cap2, l⟩] w fun e w' => e = .returned (.bool true) ∧ Below w.heap.size w w' := by
  unfold MailA.val
  dsimp only
  have B0 := ((Below.refl w.heap.size w).alloc (Nat.le_refl _) (.cells #[.int .i64 k, .int .i64 f, .int .i64 t, .int .i64 n, .int .i64 a, .int .i64 r, .slice p1 l.length cap1] 40)).alloc (by simp) (.cells #[.int .i64 k, .int .i64 f, .int .i64 t, .int .i64 n, .int .i64 a, .int .i64 r, .slice p2 l.length cap2] 40)
  have m1 := h1.keep B0
  have m2 := h2.keep B0
  go_enter Tryz.func43, Tryz.ntmps43
  go_wp2_with fail
  refine (eqFacts_same p1 cap1 p2 cap2 l _ hl m1 m2).mono ?_
  rintro e x ⟨rfl, bx⟩
  have B1 := B0.trans (bx.mono B0.size)
  clear bx m1 m2 B0
  go_wp2
  go_ret
  exact ⟨rfl, B1⟩
end Go.Proofs.YtmdcankfjmkkeaaGreat
