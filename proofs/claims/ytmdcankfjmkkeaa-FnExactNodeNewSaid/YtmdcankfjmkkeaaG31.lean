/- A node in memory, and as an argument of a law. -/
import Derived.Test.YtmdcankfjmkkeaaG25
import Derived.Test.YtmdcankfjmkkeaaDbSpec
import Derived.Test.YtmdcankfjmkkeaaG27
import Derived.Test.YtmdcankfjmkkeaaG28
import Derived.Test.YtmdcankfjmkkeaaRumMark
import Derived.Test.YtmdcankfjmkkeaaTArgs
import Derived.OpenShut
import Derived.Lib.SmallJoins
import Derived.Test.YtmdcankfjmkkeaaG5
import Derived.Test.YtmdcankfjmkkeaaFactOne
namespace Go.Proofs.Ytmdcankfjmkkeaa
open Go Go.RowKit Go.ChangeShapes Go.WideShapes
set_option linter.unusedVariables false
set_option linter.unusedSimpArgs false

/-- Where a node's lists lie. -/
structure NodeM where
  va : Option Addr
  vc : Nat
  ra : Option Addr
  rc : Nat
  ta : Option Addr
  tc : Nat
  da : Option Addr
  dc : Nat
def nodeCells (a : NodeM) (n : NodeV) : Array Value := #[.int .i64 n.id, .int .i64 n.inc, .int .i64 n.num, .int .i64 n.seed, .int .i64 n.next, .slice a.va n.view.length a.vc, .slice a.ra n.rum.length a.rc, .slice a.ta n.tl.length a.tc, .int .i64 n.at0, .int .i64 n.pb.node, .int .i64 n.pb.num, .int .i64 n.pb.due, .bool n.pb.asked, .slice a.da n.db.length a.dc]
def nodeVal (a : NodeM) (n : NodeV) : Value := .agg (nodeCells a n)
/-- Its lists, to read. -/
structure NodeRows (w : World) (a : NodeM) (n : NodeV) : Prop where
  v : CellRow w a.va (cellsOf FactV.cells n.view)
  r : CellRow w a.ra (cellsOf RumV.cells n.rum)
  t : NumRow w a.ta n.tl
  d : CellRow w a.da (cellsOf FactV.cells n.db)
theorem NodeRows.keep {w w' : World} {a : NodeM} {n : NodeV} (h : NodeRows w a n) (hb : Below w.heap.size w w') : NodeRows w' a n := ⟨h.v.keep hb, h.r.keep hb, h.t.keep hb, h.d.keep hb⟩
/-- Their room. -/
structure NodeRoom (a : NodeM) (n : NodeV) : Prop where
  v : n.view.length ≤ a.vc
  r : n.rum.length ≤ a.rc
  t : n.tl.length ≤ a.tc
  d : n.db.length ≤ a.dc
/-- How long they are at most. -/
structure NodeLen (n : NodeV) (k : Nat) : Prop where
  v : n.view.length ≤ k
  r : n.rum.length ≤ k
  t : n.tl.length ≤ k
  d : n.db.length ≤ k
theorem array14 {α : Type} {cs : Array α} (h : cs.size = 14) : ∃ c0 c1 c2 c3 c4 c5 c6 c7 c8 c9 c10 c11 c12 c13, cs = #[c0, c1, c2, c3, c4, c5, c6, c7, c8, c9, c10, c11, c12, c13] := by
  obtain ⟨l⟩ := cs
  match l, h with
  | [c0, c1, c2, c3, c4, c5, c6, c7, c8, c9, c10, c11, c12, c13], _ => exact ⟨c0, c1, c2, c3, c4, c5, c6, c7, c8, c9, c10, c11, c12, c13, rfl⟩
/-- A node as an argument. -/
structure NodeA where
  m : NodeM
  n : NodeV
def NodeA.val (x : NodeA) : Value := nodeVal x.m x.n
def NodeArg (w : World) (x : NodeA) : Prop := NodeRows w x.m x.n ∧ NodeRoom x.m x.n ∧ NodeLen x.n maxLen ∧ (x.m.ta = none → x.m.tc = 0)
set_option maxHeartbeats 1000000 in
set_option maxRecDepth 100000 in
theorem nodeVal_open {H : Type} {enc : TypeId × Value → H} {w : World} {r : Reach} {b0 : Nat} {spare : Nat → Bool} {held : Bool} {v : Value} {d : DataW H} {p : List MemPlace} (hv : Value.okWide Try.prog w r b0 31 v) (h : DataW.Trod enc Try.prog w 0 spare held 31 v d p) :
    ∃ x : NodeA, v = x.val ∧ NodeArg w x := by
  obtain ⟨cs, rfl, hsz⟩ := okWide_struct Try.underlying31 hv
  obtain ⟨c0, c1, c2, c3, c4, c5, c6, c7, c8, c9, c10, c11, c12, c13, rfl⟩ := array14 (hsz.trans (by kernel_rfl))
  obtain ⟨fuel, hf⟩ := h
  obtain ⟨_, n, hx⟩ := trod_fields Try.underlying31 hf
  have k1 : Try.prog.cellsOf 2 = 1 := by kernel_rfl
  have k2 : Try.prog.cellsOf 22 = 1 := by kernel_rfl
  have k3 : Try.prog.cellsOf 23 = 1 := by kernel_rfl
  have k4 : Try.prog.cellsOf 26 = 2 := by kernel_rfl
  have k5 : Try.prog.cellsOf 28 = 4 := by kernel_rfl
  have k6 : Try.prog.cellsOf 29 = 1 := by kernel_rfl
  have k7 : Try.prog.cellsOf 24 = 1 := by kernel_rfl
  have k8 : Try.prog.cellsOf 4 = 1 := by kernel_rfl
  obtain ⟨y0, h0⟩ := hx 0 _ rfl
  obtain ⟨y1, h1⟩ := hx 1 _ rfl
  obtain ⟨y2, h2⟩ := hx 2 _ rfl
  obtain ⟨y3, h3⟩ := hx 3 _ rfl
  obtain ⟨y4, h4⟩ := hx 4 _ rfl
  obtain ⟨y5, h5⟩ := hx 5 _ rfl
  obtain ⟨y6, h6⟩ := hx 6 _ rfl
  obtain ⟨y7, h7⟩ := hx 7 _ rfl
  obtain ⟨y8, h8⟩ := hx 8 _ rfl
  obtain ⟨y9, h9⟩ := hx 9 _ rfl
  simp [Value.cells, k1, k2, k3, k4, k5, k6] at h0 h1 h2 h3 h4 h5 h6 h7 h8 h9
  obtain ⟨_, n2, hx2⟩ := trod_fields Try.underlying26 h7
  obtain ⟨z0, g0⟩ := hx2 0 _ rfl
  obtain ⟨z1, g1⟩ := hx2 1 _ rfl
  simp [k1, k7] at g0 g1
  obtain ⟨_, n3, hx3⟩ := trod_fields Try.underlying28 h8
  obtain ⟨q0, e0⟩ := hx3 0 _ rfl
  obtain ⟨q1, e1⟩ := hx3 1 _ rfl
  obtain ⟨q2, e2⟩ := hx3 2 _ rfl
  obtain ⟨q3, e3⟩ := hx3 3 _ rfl
  simp [k1, k8] at e0 e1 e2 e3
  obtain ⟨i0, a0, _, _⟩ := DataW.trod_int Try.underlying2 h0
  obtain ⟨i1, a1, _, _⟩ := DataW.trod_int Try.underlying2 h1
  obtain ⟨i2, a2, _, _⟩ := DataW.trod_int Try.underlying2 h2
  obtain ⟨i3, a3, _, _⟩ := DataW.trod_int Try.underlying2 h3
  obtain ⟨i4, a4, _, _⟩ := DataW.trod_int Try.underlying2 h4
  obtain ⟨j1, b1, _, _⟩ := DataW.trod_int Try.underlying2 g1
  obtain ⟨m0, s0, _, _⟩ := DataW.trod_int Try.underlying2 e0
  obtain ⟨m1, s1, _, _⟩ := DataW.trod_int Try.underlying2 e1
  obtain ⟨m2, s2, _, _⟩ := DataW.trod_int Try.underlying2 e2
  obtain ⟨m3, s3, _⟩ := DataW.trod_bool Try.underlying4 e3
  obtain ⟨va, vl, vc, t5⟩ := Joins.slice_form Try.underlying22 h5
  obtain ⟨ra, rl, rc, t6⟩ := Joins.slice_form Try.underlying23 h6
  obtain ⟨ta, tl, tc, t7⟩ := Joins.slice_form Try.underlying24 g0
  obtain ⟨da, dl, dc, t9⟩ := Joins.slice_form Try.underlying29 h9
  simp only [List.cons.injEq, and_true] at a0 a1 a2 a3 a4 b1 s0 s1 s2 s3 t5 t6 t7 t9
  subst t5 t6 t7 t9
  obtain ⟨lv, rfl, fv⟩ := factArg_open h5
  obtain ⟨lr, rfl, fr⟩ := rumorArg_open h6
  obtain ⟨lt, rfl, ft, fl⟩ := numArg_open g0
  obtain ⟨ld, rfl, fd⟩ := doubtArg_open h9
  refine ⟨⟨⟨va, vc, ra, rc, ta, tc, da, dc⟩, ⟨i0, i1, i2, i3, i4, lv, lr, lt, j1, ⟨m0, m1, m2, m3⟩, ld⟩⟩, ?_, ⟨fv.1, fr.1, ft.1, fd.1⟩, ⟨fv.2.2, fr.2.2, ft.2.1, fd.2.2⟩, ⟨fv.2.1, fr.2.1, by unfold maxLen; omega, fd.2.1⟩, ft.2.2.1⟩
  rw [a0, a1, a2, a3, a4, b1, s0, s1, s2, s3]
  rfl
end Go.Proofs.Ytmdcankfjmkkeaa
/- The contracts of the exact laws' helpers over mails: copy, compare, measure. -/
namespace Go.Proofs.Ytmdcankfjmkkeaa
open Go Go.RowKit
set_option linter.unusedVariables false

theorem blk7_cells {W : World} {b t : Nat} {u0 u1 u2 u3 u4 u5 u6 : Value} (h : BlkIs W b t #[u0, u1, u2, u3, u4, u5, u6]) :
    W.cell? ⟨b, 0, none⟩ = some u0 ∧ W.cell? ⟨b, 1, none⟩ = some u1 ∧ W.cell? ⟨b, 2, none⟩ = some u2 ∧ W.cell? ⟨b, 3, none⟩ = some u3 ∧ W.cell? ⟨b, 4, none⟩ = some u4 ∧ W.cell? ⟨b, 5, none⟩ = some u5 ∧ W.cell? ⟨b, 6, none⟩ = some u6 :=
  ⟨h.cell 0, h.cell 1, h.cell 2, h.cell 3, h.cell 4, h.cell 5, h.cell 6⟩
theorem blk_put7 {W : World} {b t : Nat} {u0 u1 u2 u3 u4 u5 u6 : Value} (h : BlkIs W b t #[u0, u1, u2, u3, u4, u5, u6]) (v0 v1 v2 v3 v4 v5 v6 : Value) :
    BlkIs (((((((W.setCell ⟨b, 0, none⟩ v0).setCell ⟨b, 1, none⟩ v1).setCell ⟨b, 2, none⟩ v2).setCell ⟨b, 3, none⟩ v3).setCell ⟨b, 4, none⟩ v4).setCell ⟨b, 5, none⟩ v5).setCell ⟨b, 6, none⟩ v6) b t #[v0, v1, v2, v3, v4, v5, v6] := by
  have := ((((((h.put 0 v0).put 1 v1).put 2 v2).put 3 v3).put 4 v4).put 5 v5).put 6 v6
  simpa using this
theorem keeps_seven (w : World) (b : Nat) (v0 v1 v2 v3 v4 v5 v6 : Value) : Keeps (fun k => k ≠ b) w (((((((w.setCell ⟨b, 0, none⟩ v0).setCell ⟨b, 1, none⟩ v1).setCell ⟨b, 2, none⟩ v2).setCell ⟨b, 3, none⟩ v3).setCell ⟨b, 4, none⟩ v4).setCell ⟨b, 5, none⟩ v5).setCell ⟨b, 6, none⟩ v6) :=
  (((((((Keeps.refl _ _).setCell (fun h => h rfl) _).setCell (fun h => h rfl) _).setCell (fun h => h rfl) _).setCell (fun h => h rfl) _).setCell (fun h => h rfl) _).setCell (fun h => h rfl) _).setCell (fun h => h rfl) _
theorem OwnCells.keepK {w w' : World} {lo : Nat} {a : Option Addr} {cs : List Value} (h : OwnCells w lo a cs) {G : Nat → Prop} (k : Keeps G w w') (hg : ∀ b, lo ≤ b → G b) : OwnCells w' lo a cs := by
  rcases h with h | ⟨b, off, rfl, hlo, hlt, hc, hf⟩
  · exact .inl h
  · exact .inr ⟨b, off, rfl, hlo, Nat.lt_of_lt_of_le hlt k.size, fun i hi => (k.cell (p := ⟨b, off + i, none⟩) hlt (hg b hlo)).trans (hc i hi), fun i hi => (k.frozen (p := ⟨b, off + i, none⟩) hlt (hg b hlo)).trans (hf i hi)⟩
set_option maxHeartbeats 1000000 in
set_option maxRecDepth 100000 in
theorem eqMail_same (k f t n a r : Int) (p1 p2 : Option Addr) (cap1 cap2 : Nat) (l : List FactV) (w : World) (hl : l.length ≤ 1048576) (h1 : CellRow w p1 (cellsOf FactV.cells l)) (h2 : CellRow w p2 (cellsOf FactV.cells l)) :
    Calls Try.prog 83 #[MailA.val ⟨k, f, t, n, a, r, p1, cap1, l⟩, MailA.val ⟨k, f, t, n, a, r, p2, cap2, l⟩] w fun e w' => e = .returned (.bool true) ∧ Below w.heap.size w w' := by
  unfold MailA.val
  dsimp only
  have B0 := ((Below.refl w.heap.size w).alloc (Nat.le_refl _) (.cells #[.int .i64 k, .int .i64 f, .int .i64 t, .int .i64 n, .int .i64 a, .int .i64 r, .slice p1 l.length cap1] 122)).alloc (by simp) (.cells #[.int .i64 k, .int .i64 f, .int .i64 t, .int .i64 n, .int .i64 a, .int .i64 r, .slice p2 l.length cap2] 122)
  have m1 := h1.keep B0
  have m2 := h2.keep B0
  go_enter Try.func83, Try.ntmps83
  go_wp2_with fail
  refine (eqFacts_same p1 cap1 p2 cap2 l _ hl m1 m2).mono ?_
  rintro e x ⟨rfl, bx⟩
  have B1 := B0.trans (bx.mono B0.size)
  clear bx m1 m2 B0
  go_wp2
  go_ret
  exact ⟨rfl, B1⟩
end Go.Proofs.Ytmdcankfjmkkeaa
