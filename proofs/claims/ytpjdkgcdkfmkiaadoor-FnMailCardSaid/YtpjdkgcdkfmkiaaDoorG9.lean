/- What of memory stays as it lay, by blocks; and a block that is known whole. No program. -/
import Derived.Test.YtpjdkgcdkfmkiaaDoorG6
import Derived.Deep.OwnRows
import Derived.Test.YtpjdkgcdkfmkiaaDoorG8
namespace Go.Proofs.YtpjdkgcdkfmkiaaDoor
open Go Go.RowKit
set_option linter.unusedVariables false

/-- What lay and is G lies as it lay. -/
structure Keeps (G : Nat → Prop) (w w' : World) : Prop where
  os : w'.os = w.os
  tape : w'.tape = w.tape
  output : w'.output = w.output
  size : w.heap.size ≤ w'.heap.size
  block : ∀ k, k < w.heap.size → G k → w'.heap[k]? = w.heap[k]?
theorem Keeps.refl (G : Nat → Prop) (w : World) : Keeps G w w := ⟨rfl, rfl, rfl, Nat.le_refl _, fun _ _ _ => rfl⟩
theorem Keeps.trans {G : Nat → Prop} {a b c : World} (h : Keeps G a b) (k : Keeps G b c) : Keeps G a c :=
  ⟨k.os.trans h.os, k.tape.trans h.tape, k.output.trans h.output, Nat.le_trans h.size k.size, fun i hi hg => (k.block i (Nat.lt_of_lt_of_le hi h.size) hg).trans (h.block i hi hg)⟩
theorem Keeps.mono {G G' : Nat → Prop} {a b : World} (h : Keeps G a b) (hg : ∀ k, k < a.heap.size → G' k → G k) : Keeps G' a b := ⟨h.os, h.tape, h.output, h.size, fun i hi hk => h.block i hi (hg i hi hk)⟩
theorem Keeps.alloc {G : Nat → Prop} {a w : World} (h : Keeps G a w) (o : Obj) : Keeps G a (w.alloc o) :=
  h.trans ⟨rfl, rfl, rfl, by simp, fun k hk _ => Below.heap_alloc _ _ _ hk⟩
theorem Keeps.drew {G : Nat → Prop} {a w : World} (h : Keeps G a w) : Keeps G a w.drew := ⟨h.os, h.tape, h.output, h.size, h.block⟩
theorem Keeps.setCell {G : Nat → Prop} {a w : World} (h : Keeps G a w) {p : Addr} (hp : ¬ G p.block) (u : Value) : Keeps G a (w.setCell p u) :=
  h.trans ⟨rfl, rfl, rfl, by simp [World.setCell], fun k hk hg => Below.heap_setCell _ _ _ _ (fun e => hp (e ▸ hg))⟩
theorem Keeps.below {G : Nat → Prop} {a w w' : World} (h : Keeps G a w) (k : Below w.heap.size w w') : Keeps G a w' :=
  h.trans ⟨k.os, k.tape, k.output, k.size, fun i hi _ => k.block i hi⟩
theorem Keeps.toBelow {G : Nat → Prop} {n : Nat} {a b : World} (h : Keeps G a b) (hn : n ≤ a.heap.size) (hg : ∀ k, k < n → G k) : Below n a b := ⟨h.os, h.tape, h.output, h.size, fun k hk => h.block k (by omega) (hg k hk)⟩
theorem Keeps.ofBelow {G : Nat → Prop} {n : Nat} {a b : World} (h : Below n a b) (hg : ∀ k, k < a.heap.size → G k → k < n) : Keeps G a b := ⟨h.os, h.tape, h.output, h.size, fun k hk hk2 => h.block k (hg k hk hk2)⟩
theorem Keeps.grown {G : Nat → Prop} {a w w' : World} {row : Option Nat} (h : Keeps G a w) (hg : w.grownBy w' row) (hr : ∀ k, row = some k → ¬ G k) : Keeps G a w' :=
  h.trans ⟨hg.os, hg.tape, hg.output, hg.size, fun k hk hgk => hg.block k hk (fun e => hr k e.symm hgk)⟩
theorem Keeps.cell {G : Nat → Prop} {w w' : World} (h : Keeps G w w') {p : Addr} (hp : p.block < w.heap.size) (hg : G p.block) : w'.cell? p = w.cell? p := World.cell?_of_block (h.block _ hp hg)
theorem Keeps.frozen {G : Nat → Prop} {w w' : World} (h : Keeps G w w') {p : Addr} (hp : p.block < w.heap.size) (hg : G p.block) : w'.frozen? p = w.frozen? p := World.frozen?_of_block (h.block _ hp hg)

/-- A block, known whole. -/
def BlkIs (w : World) (b : Nat) (t : TypeId) (cs : Array Value) : Prop := w.heap[b]? = some (.cells cs t (0, 0))
theorem BlkIs.lt {w : World} {b t : Nat} {cs : Array Value} (h : BlkIs w b t cs) : b < w.heap.size := (Array.getElem?_eq_some_iff.1 h).1
theorem BlkIs.keep {w w' : World} {b t : Nat} {cs : Array Value} (h : BlkIs w b t cs) (k : Below w.heap.size w w') : BlkIs w' b t cs := (k.block b h.lt).trans h
theorem BlkIs.keepK {w w' : World} {b t : Nat} {cs : Array Value} (h : BlkIs w b t cs) {G : Nat → Prop} (k : Keeps G w w') (hg : G b) : BlkIs w' b t cs := (k.block b h.lt hg).trans h
theorem BlkIs.cell {w : World} {b t : Nat} {cs : Array Value} (h : BlkIs w b t cs) (i : Nat) : w.cell? ⟨b, i, none⟩ = cs[i]? := by
  simp [World.cell?, show w.heap[b]? = _ from h]
theorem BlkIs.fz {w : World} {b t : Nat} {cs : Array Value} (h : BlkIs w b t cs) (i : Nat) : w.frozen? ⟨b, i, none⟩ = false := by
  simp [World.frozen?, show w.heap[b]? = _ from h]
theorem BlkIs.new (w : World) (t : TypeId) (cs : Array Value) : BlkIs (w.alloc (.cells cs t)) w.heap.size t cs := heap_alloc_new w _
theorem BlkIs.put {w : World} {b t : Nat} {cs : Array Value} (h : BlkIs w b t cs) (i : Nat) (v : Value) : BlkIs (w.setCell ⟨b, i, none⟩ v) b t (cs.setIfInBounds i v) := heap_setCell_same w b i _ _ v h
theorem BlkIs.not_row {w : World} {b t : Nat} {cs : Array Value} (h : BlkIs w b t cs) {base size k : Nat} {e : TypeId} {v : Value} {xs : List Value} (hne : t ≠ e) (hr : w.ownsRow base e size v k xs) : v.ownBlock ≠ some b := by
  rcases hr.2 with ⟨rfl, _⟩ | ⟨g, cap, cur, rfl, _, hgb, _⟩
  · simp [Value.ownBlock]
  · intro e'
    obtain rfl : g = b := by simpa [Value.ownBlock] using e'
    have := (show w.heap[g]? = _ from h).symm.trans hgb
    simp only [Option.some.injEq, Obj.cells.injEq] at this
    exact hne this.2.1
theorem rowKeep {w w' : World} {lo n : Nat} {v : Value} {xs : List Value} {e : TypeId} {size : Nat} (h : w.ownsRow lo e size v n xs) {G : Nat → Prop} (k : Keeps G w w') (hg : ∀ g, v.ownBlock = some g → G g) : w'.ownsRow lo e size v n xs := by
  refine ⟨h.1, ?_⟩
  rcases h.2 with q | ⟨g, cap, cur, rfl, r1, r2, r3⟩
  · exact .inl q
  · exact .inr ⟨g, cap, cur, rfl, r1, (k.block g (Array.getElem?_eq_some_iff.1 r2).1 (hg g rfl)).trans r2, r3⟩
theorem rowBelow {w w' : World} {lo n : Nat} {v : Value} {xs : List Value} {e : TypeId} {size : Nat} (h : w.ownsRow lo e size v n xs) (k : Below w.heap.size w w') : w'.ownsRow lo e size v n xs :=
  rowKeep h (G := fun _ => True) (Keeps.ofBelow k (fun _ hk _ => hk)) (fun _ _ => trivial)
theorem rowShape {w : World} {lo n : Nat} {v : Value} {xs : List Value} {e : TypeId} {size : Nat} (h : w.ownsRow lo e size v n xs) : ∃ a n c, v = .slice a n c := by
  rcases h.2 with ⟨rfl, _⟩ | ⟨g, cap, cur, rfl, _⟩
  · exact ⟨_, _, _, rfl⟩
  · exact ⟨_, _, _, rfl⟩
end Go.Proofs.YtpjdkgcdkfmkiaaDoor
/- The contracts of two facts: what is less by the specification, what is joined. -/
namespace Go.Proofs.YtpjdkgcdkfmkiaaDoor
open Go Go.RowKit
set_option linter.unusedVariables false

theorem FactV.lt_dec (x y : FactV) : ∃ r : Bool, (r = true ↔ x.lt y) := tells_bool _
/-- Two facts and a third, of zeros, in blocks of their own. -/
theorem three_blks (w : World) (x y : FactV) : ∃ W, ((w.alloc (.cells #[.int .i64 x.node, .int .i64 x.inc, .int .i64 x.st] 43)).alloc (.cells #[.int .i64 y.node, .int .i64 y.inc, .int .i64 y.st] 43)).alloc (.cells #[.int .i64 0, .int .i64 0, .int .i64 0] 43) = W ∧ FBlk W w.heap.size x ∧ FBlk W (w.heap.size + 1) y ∧ BlkIs W (w.heap.size + 2) 43 #[.int .i64 0, .int .i64 0, .int .i64 0] ∧ Below w.heap.size w W := by
  obtain ⟨W, hW, p1, p2, B0⟩ := two_blks w x y
  have k : Below W.heap.size W (W.alloc (.cells #[.int .i64 0, .int .i64 0, .int .i64 0] 43)) := (Below.refl _ _).alloc (Nat.le_refl _) _
  refine ⟨_, rfl, by rw [hW]; exact p1.keep k, by rw [hW]; exact p2.keep k, ?_, by rw [hW]; exact B0.alloc B0.size _⟩
  have hs : W.heap.size = w.heap.size + 2 := by rw [← hW]; simp
  rw [hW, ← hs]
  exact BlkIs.new _ _ _
/-- A fact put into a block. -/
theorem fact_put {W : World} {b : Nat} {u0 u1 u2 : Value} (h : BlkIs W b 43 #[u0, u1, u2]) (x1 x2 x3 : Int) :
    BlkIs (((W.setCell ⟨b, 0, none⟩ (.int .i64 x1)).setCell ⟨b, 1, none⟩ (.int .i64 x2)).setCell ⟨b, 2, none⟩ (.int .i64 x3)) b 43 #[.int .i64 x1, .int .i64 x2, .int .i64 x3] := by
  have := ((h.put 0 (.int .i64 x1)).put 1 (.int .i64 x2)).put 2 (.int .i64 x3)
  simpa using this
set_option maxHeartbeats 1000000 in
set_option maxRecDepth 100000 in
theorem specJoin_any (x y : FactV) (w : World) : Calls Tryd.prog 85 #[x.val, y.val] w fun e w' => e = .returned (joinF x y).val ∧ Below w.heap.size w w' := by
  obtain ⟨W, hW, p1, p2, p3, B0⟩ := three_blks w x y
  obtain ⟨r, hr⟩ := tells_bool (x.lt y)
  have HE : Hid (joinF x y = if r = true then y else x) := by
    show _ = _
    cases r with
    | true => rw [if_pos rfl]; exact joinF_yes (hr.1 rfl)
    | false => rw [if_neg (by decide)]; exact joinF_no (fun h => by have := hr.2 h; cases this)
  obtain ⟨x1, x2, x3⟩ := x
  obtain ⟨y1, y2, y3⟩ := y
  have HR : Hid (r = true ↔ FactV.lt ⟨x1, x2, x3⟩ ⟨y1, y2, y3⟩) := hr
  have HW : Hid (_ = W) := hW
  clear hW hr
  unfold FactV.val
  go_enter Tryd.func85, Tryd.ntmps85
  go_wp2_with fail
  rw [HW.out]
  refine (specLess_is ⟨x1, x2, x3⟩ ⟨y1, y2, y3⟩ _ r HR.out).mono ?_
  rintro e z1 ⟨rfl, bz1⟩
  obtain ⟨_, c0, c1, c2⟩ := p1.keep bz1
  obtain ⟨_, d0, d1, d2⟩ := p2.keep bz1
  have q3 := p3.keep bz1
  have g0 : z1.cell? ⟨w.heap.size + 2, 0, none⟩ = some (.int .i64 0) := q3.cell 0
  have g1 : z1.cell? ⟨w.heap.size + 2, 1, none⟩ = some (.int .i64 0) := q3.cell 1
  have g2 : z1.cell? ⟨w.heap.size + 2, 2, none⟩ = some (.int .i64 0) := q3.cell 2
  have f0 := q3.fz 0
  have f1 := q3.fz 1
  have f2 := q3.fz 2
  have B1 := B0.trans (bz1.mono B0.size)
  clear p1 p2 p3 B0 bz1 HW HR
  dsimp only at c0 c1 c2 d0 d1 d2
  cases r with
  | true =>
    have HV : Hid (joinF ⟨x1, x2, x3⟩ ⟨y1, y2, y3⟩ = ⟨y1, y2, y3⟩) := HE.out
    clear HE
    go_wp2
    have Q := fact_put q3 y1 y2 y3
    have BB := ((B1.setCell (p := ⟨w.heap.size + 2, 0, none⟩) (by show _ ≤ w.heap.size + 2; omega) (.int .i64 y1)).setCell (p := ⟨w.heap.size + 2, 1, none⟩) (by show _ ≤ w.heap.size + 2; omega) (.int .i64 y2)).setCell (p := ⟨w.heap.size + 2, 2, none⟩) (by show _ ≤ w.heap.size + 2; omega) (.int .i64 y3)
    obtain ⟨z6, hz6⟩ : ∃ z6, (((z1.setCell ⟨w.heap.size + 2, 0, none⟩ (.int .i64 y1)).setCell ⟨w.heap.size + 2, 1, none⟩ (.int .i64 y2)).setCell ⟨w.heap.size + 2, 2, none⟩ (.int .i64 y3)) = z6 := ⟨_, rfl⟩
    rw [hz6] at Q BB ⊢
    have e0 : z6.cell? ⟨w.heap.size + 2, 0, none⟩ = some (.int .i64 y1) := Q.cell 0
    have e1 : z6.cell? ⟨w.heap.size + 2, 1, none⟩ = some (.int .i64 y2) := Q.cell 1
    have e2 : z6.cell? ⟨w.heap.size + 2, 2, none⟩ = some (.int .i64 y3) := Q.cell 2
    exact bodyPost_ret (v := .agg #[.int .i64 y1, .int .i64 y2, .int .i64 y3]) (by simp [results, Tryd.results85, go_sem, e0, e1, e2]) rfl ⟨by rw [HV.out], BB⟩
  | false =>
    have HV : Hid (joinF ⟨x1, x2, x3⟩ ⟨y1, y2, y3⟩ = ⟨x1, x2, x3⟩) := HE.out
    clear HE
    go_wp2
    have Q := fact_put q3 x1 x2 x3
    have BB := ((B1.setCell (p := ⟨w.heap.size + 2, 0, none⟩) (by show _ ≤ w.heap.size + 2; omega) (.int .i64 x1)).setCell (p := ⟨w.heap.size + 2, 1, none⟩) (by show _ ≤ w.heap.size + 2; omega) (.int .i64 x2)).setCell (p := ⟨w.heap.size + 2, 2, none⟩) (by show _ ≤ w.heap.size + 2; omega) (.int .i64 x3)
    obtain ⟨z6, hz6⟩ : ∃ z6, (((z1.setCell ⟨w.heap.size + 2, 0, none⟩ (.int .i64 x1)).setCell ⟨w.heap.size + 2, 1, none⟩ (.int .i64 x2)).setCell ⟨w.heap.size + 2, 2, none⟩ (.int .i64 x3)) = z6 := ⟨_, rfl⟩
    rw [hz6] at Q BB ⊢
    have e0 : z6.cell? ⟨w.heap.size + 2, 0, none⟩ = some (.int .i64 x1) := Q.cell 0
    have e1 : z6.cell? ⟨w.heap.size + 2, 1, none⟩ = some (.int .i64 x2) := Q.cell 1
    have e2 : z6.cell? ⟨w.heap.size + 2, 2, none⟩ = some (.int .i64 x3) := Q.cell 2
    exact bodyPost_ret (v := .agg #[.int .i64 x1, .int .i64 x2, .int .i64 x3]) (by simp [results, Tryd.results85, go_sem, e0, e1, e2]) rfl ⟨by rw [HV.out], BB⟩
end Go.Proofs.YtpjdkgcdkfmkiaaDoor
