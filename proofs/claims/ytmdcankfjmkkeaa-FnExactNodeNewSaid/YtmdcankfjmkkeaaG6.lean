/- The contracts of two facts: what is less by the specification, what is joined. -/
import Derived.Test.YtmdcankfjmkkeaaFactOne
import Derived.Test.YtmdcankfjmkkeaaG5
import Derived.Test.YtmdcankfjmkkeaaChecked
import Derived.Deep.RegionHeld3
import Derived.WalkKit
import Derived.Below
namespace Go.Proofs.Ytmdcankfjmkkeaa
open Go Go.RowKit
set_option linter.unusedVariables false

theorem FactV.lt_dec (x y : FactV) : ∃ r : Bool, (r = true ↔ x.lt y) := tells_bool _
/-- Two facts and a third, of zeros, in blocks of their own. -/
theorem three_blks (w : World) (x y : FactV) : ∃ W, ((w.alloc (.cells #[.int .i64 x.node, .int .i64 x.inc, .int .i64 x.st] 62)).alloc (.cells #[.int .i64 y.node, .int .i64 y.inc, .int .i64 y.st] 62)).alloc (.cells #[.int .i64 0, .int .i64 0, .int .i64 0] 62) = W ∧ FBlk W w.heap.size x ∧ FBlk W (w.heap.size + 1) y ∧ BlkIs W (w.heap.size + 2) 62 #[.int .i64 0, .int .i64 0, .int .i64 0] ∧ Below w.heap.size w W := by
  obtain ⟨W, hW, p1, p2, B0⟩ := two_blks w x y
  have k : Below W.heap.size W (W.alloc (.cells #[.int .i64 0, .int .i64 0, .int .i64 0] 62)) := (Below.refl _ _).alloc (Nat.le_refl _) _
  refine ⟨_, rfl, by rw [hW]; exact p1.keep k, by rw [hW]; exact p2.keep k, ?_, by rw [hW]; exact B0.alloc B0.size _⟩
  have hs : W.heap.size = w.heap.size + 2 := by rw [← hW]; simp
  rw [hW, ← hs]
  exact BlkIs.new _ _ _
/-- A fact put into a block. -/
theorem fact_put {W : World} {b : Nat} {u0 u1 u2 : Value} (h : BlkIs W b 62 #[u0, u1, u2]) (x1 x2 x3 : Int) :
    BlkIs (((W.setCell ⟨b, 0, none⟩ (.int .i64 x1)).setCell ⟨b, 1, none⟩ (.int .i64 x2)).setCell ⟨b, 2, none⟩ (.int .i64 x3)) b 62 #[.int .i64 x1, .int .i64 x2, .int .i64 x3] := by
  have := ((h.put 0 (.int .i64 x1)).put 1 (.int .i64 x2)).put 2 (.int .i64 x3)
  simpa using this
end Go.Proofs.Ytmdcankfjmkkeaa
/- A region that draws its order: what it reads of cells that nobody in it writes is taken first, one operation a line; the rest is run as it comes up. No program. -/
namespace Go.Proofs.Ytmdcankfjmkkeaa
open Go
set_option linter.unusedVariables false

/-- An operation of a region that yields in every world that meets S is taken first; its slot by number. -/
theorem takeH {P : Program} {md : Region.Mode} {ops : Array Oper} {Q : Exit → Act → World → Prop} {S : World → Prop} (i : Nat) {D : Nat} {op : Op} {ty : TypeId} {pos : String} {after : Array Edge} {v : Value} {fuel : Nat} {listed : Array Bool} {a : Act} {w : World} (hi : ops[i]? = some ⟨some D, op, ty, pos, after, none⟩)
    (hs : Region.noSelect ops = true) (hf : Region.free md ops listed i = true) (hr : (Region.ready md ops listed).contains i = true)
    (hQ : ∀ c a w, Q (.panic c) (a.put (some D) v) w → Q (.panic c) a w) (hy : ∀ w, S w → (execOp a.eval ⟨some D, op, ty, pos, after, none⟩).run P w = .ok (.value v) w) (hS : S w)
    (h : wpAnyH P md ops Q S fuel (listed.setIfInBounds i true) { tmps := a.tmps.setIfInBounds D v, defers := a.defers } w) : wpAnyH P md ops Q S (fuel + 1) listed a w :=
  wpAnyH_take hi hs hf hr hQ (Or.inl ⟨rfl, hy⟩) hS h
/-- An operation that is run where it comes up. -/
theorem doH {P : Program} {md : Region.Mode} {ops : Array Oper} {Q : Exit → Act → World → Prop} {S : World → Prop} {i : Nat} {D : Nat} {op : Op} {ty : TypeId} {pos : String} {after : Array Edge} {v : Value} {fuel : Nat} {listed : Array Bool} {a : Act} {w w' : World} (hi : ops[i]? = some ⟨some D, op, ty, pos, after, none⟩)
    (hrun : (execOp a.eval ⟨some D, op, ty, pos, after, none⟩).run P w = .ok (.value v) w') (hS : S w')
    (h : wpAnyH P md ops Q S fuel (listed.setIfInBounds i true) { tmps := a.tmps.setIfInBounds D v, defers := a.defers } w') :
    wpOp P ops Q i (fun a' w' => S w' ∧ wpAnyH P md ops Q S fuel (listed.setIfInBounds i true) a' w') a w := by
  unfold wpOp
  simp only [hi]
  rw [if_pos (show Region.wanted _ _ = true from rfl)]
  refine .inl ?_
  unfold Oper.wp
  rw [hrun]
  exact ⟨hS, h⟩
theorem storeH {P : Program} {md : Region.Mode} {ops : Array Oper} {Q : Exit → Act → World → Prop} {S : World → Prop} {i : Nat} {op : Op} {ty : TypeId} {pos : String} {after : Array Edge} {nx : Next} {fuel : Nat} {listed : Array Bool} {a : Act} {w w' : World} (hi : ops[i]? = some ⟨none, op, ty, pos, after, none⟩)
    (hrun : (execOp a.eval ⟨none, op, ty, pos, after, none⟩).run P w = .ok nx w') (hnx : nx = .skip ∨ ∃ v, nx = .value v) (hS : S w')
    (h : wpAnyH P md ops Q S fuel (listed.setIfInBounds i true) a w') :
    wpOp P ops Q i (fun a' w' => S w' ∧ wpAnyH P md ops Q S fuel (listed.setIfInBounds i true) a' w') a w := by
  unfold wpOp
  simp only [hi]
  rw [if_pos (show Region.wanted _ _ = true from rfl)]
  refine .inl ?_
  unfold Oper.wp
  rw [hrun]
  rcases hnx with rfl | ⟨v, rfl⟩
  · exact ⟨hS, h⟩
  · exact ⟨hS, h⟩
theorem oneH {P : Program} {md : Region.Mode} {ops : Array Oper} {Q : Exit → Act → World → Prop} {S : World → Prop} (i : Nat) {fuel : Nat} {listed : Array Bool} {a : Act} {w : World} (hr : Region.ready md ops listed = [i])
    (h : wpOp P ops Q i (fun a' w' => S w' ∧ wpAnyH P md ops Q S fuel (listed.setIfInBounds i true) a' w') a w) : wpAnyH P md ops Q S (fuel + 1) listed a w :=
  wpAnyH_all hr (by simp) (fun j hj => by obtain rfl := List.mem_singleton.1 hj; exact h)
theorem twoH {P : Program} {md : Region.Mode} {ops : Array Oper} {Q : Exit → Act → World → Prop} {S : World → Prop} (i j : Nat) {fuel : Nat} {listed : Array Bool} {a : Act} {w : World} (hr : Region.ready md ops listed = [i, j])
    (h1 : wpOp P ops Q i (fun a' w' => S w' ∧ wpAnyH P md ops Q S fuel (listed.setIfInBounds i true) a' w') a w)
    (h2 : wpOp P ops Q j (fun a' w' => S w' ∧ wpAnyH P md ops Q S fuel (listed.setIfInBounds j true) a' w') a w) : wpAnyH P md ops Q S (fuel + 1) listed a w :=
  wpAnyH_all hr (by simp) (fun q hq => by
    rcases List.mem_cons.1 hq with rfl | hq
    · exact h1
    · obtain rfl := List.mem_singleton.1 hq; exact h2)
end Go.Proofs.Ytmdcankfjmkkeaa
/- A region that draws its order, with guards: op by op; what lay at its start lies on (S: Below). No program. -/
namespace Go.Proofs.Ytmdcankfjmkkeaa
open Go Go.RowKit
set_option linter.unusedVariables false

/-- An operation that is asked for and yields in every world that meets S is taken first. -/
theorem takeG {P : Program} {md : Region.Mode} {ops : Array Oper} {Q : Exit → Act → World → Prop} {S : World → Prop} (i : Nat) {D : Nat} {op : Op} {ty : TypeId} {pos : String} {after : Array Edge} {g : Option (Nat × Bool)} {v : Value} {fuel : Nat} {listed : Array Bool} {a : Act} {w : World} (hi : ops[i]? = some ⟨some D, op, ty, pos, after, g⟩)
    (hs : Region.noSelect ops = true) (hf : Region.free md ops listed i = true) (hr : (Region.ready md ops listed).contains i = true) (hw : Region.wanted ⟨some D, op, ty, pos, after, g⟩ (yielded ops a.tmps) = true)
    (hQ : ∀ c a w, Q (.panic c) (a.put (some D) v) w → Q (.panic c) a w) (hy : ∀ w, S w → (execOp a.eval ⟨some D, op, ty, pos, after, g⟩).run P w = .ok (.value v) w) (hS : S w)
    (h : wpAnyH P md ops Q S fuel (listed.setIfInBounds i true) { tmps := a.tmps.setIfInBounds D v, defers := a.defers } w) : wpAnyH P md ops Q S (fuel + 1) listed a w :=
  wpAnyH_take hi hs hf hr hQ (Or.inl ⟨hw, hy⟩) hS h
/-- One that is not asked for leaves its slot empty. -/
theorem skipG {P : Program} {md : Region.Mode} {ops : Array Oper} {Q : Exit → Act → World → Prop} {S : World → Prop} (i : Nat) {D : Nat} {op : Op} {ty : TypeId} {pos : String} {after : Array Edge} {g : Option (Nat × Bool)} {fuel : Nat} {listed : Array Bool} {a : Act} {w : World} (hi : ops[i]? = some ⟨some D, op, ty, pos, after, g⟩)
    (hs : Region.noSelect ops = true) (hf : Region.free md ops listed i = true) (hr : (Region.ready md ops listed).contains i = true) (hw : Region.wanted ⟨some D, op, ty, pos, after, g⟩ (yielded ops a.tmps) = false)
    (hQ : ∀ c a w, Q (.panic c) (a.put (some D) undef) w → Q (.panic c) a w) (hS : S w)
    (h : wpAnyH P md ops Q S fuel (listed.setIfInBounds i true) { tmps := a.tmps.setIfInBounds D undef, defers := a.defers } w) : wpAnyH P md ops Q S (fuel + 1) listed a w :=
  wpAnyH_take hi hs hf hr hQ (Or.inr ⟨hw, rfl⟩) hS h
/-- One alone that may come up, and is asked for: it is run. -/
theorem runG {P : Program} {md : Region.Mode} {ops : Array Oper} {Q : Exit → Act → World → Prop} {S : World → Prop} (i : Nat) {d : Option Nat} {op : Op} {ty : TypeId} {pos : String} {after : Array Edge} {g : Option (Nat × Bool)} {fuel : Nat} {listed : Array Bool} {a : Act} {w : World} (hr : Region.ready md ops listed = [i]) (hi : ops[i]? = some ⟨d, op, ty, pos, after, g⟩)
    (hw : Region.wanted ⟨d, op, ty, pos, after, g⟩ (yielded ops a.tmps) = true)
    (h : Oper.wp P ⟨d, op, ty, pos, after, g⟩ a w (fun a' w' => S w' ∧ wpAnyH P md ops Q S fuel (listed.setIfInBounds i true) a' w') Q) : wpAnyH P md ops Q S (fuel + 1) listed a w := by
  refine oneH i hr ?_
  unfold wpOp
  simp only [hi]
  rw [if_pos hw]
  exact .inl h
/-- A call that is run: its contract, whatever comes behind. -/
theorem skipAloneG {P : Program} {md : Region.Mode} {ops : Array Oper} {Q : Exit → Act → World → Prop} {S : World → Prop} (i : Nat) {D : Nat} {op : Op} {ty : TypeId} {pos : String} {after : Array Edge} {g : Option (Nat × Bool)} {fuel : Nat} {listed : Array Bool} {a : Act} {w : World} (hr : Region.ready md ops listed = [i]) (hi : ops[i]? = some ⟨some D, op, ty, pos, after, g⟩)
    (hw : Region.wanted ⟨some D, op, ty, pos, after, g⟩ (yielded ops a.tmps) = false) (hS : S w)
    (h : wpAnyH P md ops Q S fuel (listed.setIfInBounds i true) { tmps := a.tmps.setIfInBounds D undef, defers := a.defers } w) : wpAnyH P md ops Q S (fuel + 1) listed a w := by
  refine oneH i hr ?_
  unfold wpOp
  simp only [hi]
  rw [if_neg (by rw [hw]; exact Bool.false_ne_true)]
  exact ⟨hS, h⟩
/-- One that is run where it comes up, guarded or not. -/
theorem callH {P : Program} {ops : Array Oper} {Q : Exit → Act → World → Prop} {K : Act → World → Prop} {i : Nat} {d : Option Nat} {op : Op} {ty : TypeId} {pos : String} {after : Array Edge} {g : Option (Nat × Bool)} {a : Act} {w : World} (hi : ops[i]? = some ⟨d, op, ty, pos, after, g⟩)
    (hw : Region.wanted ⟨d, op, ty, pos, after, g⟩ (yielded ops a.tmps) = true) (h : Oper.wp P ⟨d, op, ty, pos, after, g⟩ a w K Q) : wpOp P ops Q i K a w := by
  unfold wpOp
  simp only [hi]
  rw [if_pos hw]
  exact .inl h
end Go.Proofs.Ytmdcankfjmkkeaa
