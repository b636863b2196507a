/- A block known whole: loads of the whole of it, stores of the whole of it or of one cell, the result in it: each with a world that is a letter. No program of its own. -/
import Derived.Test.YtgmdgjkmdnpmiaaKeep
import Derived.Laws.Tables
import Derived.Laws.Rows
import Derived.Deep.MidRow
import Derived.Lib.ReflectliteSwap
namespace Go.Proofs.Ytgmdgjkmdnpmiaa
open Go Go.RowKit
set_option linter.unusedVariables false

theorem keeps_setRow (w : World) (g : Nat) (cells : Array Value) : Keeps (fun k => k ≠ g) w (w.setRow g cells) := ⟨rfl, rfl, rfl, by simp [World.setRow], fun k _ hk => setRow_other w g k cells hk⟩
theorem keeps_setCell (w : World) (g i : Nat) (v : Value) : Keeps (fun k => k ≠ g) w (w.setCell ⟨g, i, none⟩ v) := (Keeps.refl _ _).setCell (fun h => h rfl) _
/-- A struct is stored into a block. -/
theorem store_blk {P : Program} {ops : Array Oper} {rest : List Oper} {o : Oper} {a : Act} {w : World} {Q : Exit → Act → World → Prop} {g t : Nat} {old cells : Array Value} (hb : BlkIs w g t old) (hgd : o.guard = none) (ty : TypeId) (x y : Operand) (ho : o.op = .store ty x y)
    (hx : a.eval x = .pointer (some ⟨g, 0, none⟩)) (hy : a.eval y = .agg cells) (hi : (P.info? ty).map (·.size) = some cells.size) (hold : old.size = cells.size) (h1 : cells.all (·.oneCell') = true)
    (h : ∀ w', BlkIs w' g t cells → Keeps (fun k => k ≠ g) w w' → wpList P ops Q rest (a.put o.dst undef) w') : wpList P ops Q (o :: rest) a w :=
  wpList_store_row hgd ty x y ho g cells hx hy t old hb hi hold h1 (h _ (setRow_heap w g old cells t (0, 0) hb) (keeps_setRow w g cells))
/-- One cell of it is stored. -/
theorem run_cell {P : Program} {w : World} {ty : TypeId} {g t i : Nat} {cs : Array Value} {v : Value} (hb : BlkIs w g t cs) (hi : i < cs.size) (hs : (P.info? ty).map (·.size) = some 1) (hv : v.oneCell' = true) : (storeVar ty ⟨g, i, none⟩ v).run P w = .ok () (w.setCell ⟨g, i, none⟩ v) := by
  obtain ⟨ie, hie, hz⟩ := Option.map_eq_some_iff.1 hs
  exact Go.Lib.rl_storeVar_one ty ie hie hz ⟨g, i, none⟩ v cs[i] hv w ((hb.cell i).trans (Array.getElem?_eq_getElem hi)) (hb.fz i)
theorem store_cell {P : Program} {ops : Array Oper} {rest : List Oper} {o : Oper} {a : Act} {w : World} {Q : Exit → Act → World → Prop} {g t : Nat} {cs : Array Value} (hb : BlkIs w g t cs) (hgd : o.guard = none) (ty : TypeId) (x y : Operand) (ho : o.op = .store ty x y) (i : Nat) (v : Value)
    (hx : a.eval x = .pointer (some ⟨g, i, none⟩)) (hy : a.eval y = v) (hi : i < cs.size) (hs : (P.info? ty).map (·.size) = some 1) (hv : v.oneCell' = true)
    (h : ∀ w', BlkIs w' g t (cs.setIfInBounds i v) → Keeps (fun k => k ≠ g) w w' → wpList P ops Q rest (a.put o.dst undef) w') : wpList P ops Q (o :: rest) a w :=
  wpList_plain hgd fun _ hK => by
    unfold Oper.wp execOp
    simp only [ho, hx, hy, Instr.storeAt, Instr.sureAddr, Sem.run_bind, Sem.run_pure, Result.andThen_ok, run_cell hb hi hs hv]
    exact hK _ _ (h _ (hb.put i v) (keeps_setCell w g i v))
/-- The whole of it is read. -/
theorem load_blk {P : Program} {ops : Array Oper} {rest : List Oper} {o : Oper} {a : Act} {w : World} {Q : Exit → Act → World → Prop} {g t : Nat} {cs : Array Value} (hb : BlkIs w g t cs) (hgd : o.guard = none) (ty : TypeId) (x : Operand) (ho : o.op = .load ty x)
    (hx : a.eval x = .pointer (some ⟨g, 0, none⟩)) (fs : Array Field) (hu : P.underlying ty = some (.struct fs)) (hi : (P.info? ty).map (·.size) = some cs.size)
    (h : wpList P ops Q rest (a.put o.dst (.agg cs)) w) : wpList P ops Q (o :: rest) a w :=
  wpList_load_row hgd ty x ho g hx t cs (0, 0) (.struct fs) hb hu rfl hi h
/-- A part of it is read. -/
theorem load_part {P : Program} {ops : Array Oper} {rest : List Oper} {o : Oper} {a : Act} {w : World} {Q : Exit → Act → World → Prop} {g t : Nat} {cs : Array Value} (hb : BlkIs w g t cs) (hgd : o.guard = none) (ty : TypeId) (x : Operand) (ho : o.op = .load ty x) (i n : Nat)
    (hx : a.eval x = .pointer (some ⟨g, i, none⟩)) (fs : Array Field) (hu : P.underlying ty = some (.struct fs)) (hi : (P.info? ty).map (·.size) = some n) (part : List Value) (hp : (cs.toList.drop i).take n = part) (hn : part.length = n)
    (h : wpList P ops Q rest (a.put o.dst (.agg part.toArray)) w) : wpList P ops Q (o :: rest) a w := by
  subst hp
  refine Go.wpList_load_mid hgd ty x ho g i hx _ (.struct fs) ?_ hu rfl (by rw [hi, hn]) h
  intro j v hj
  rw [hb.cell]
  have : j < n := by
    have := (List.getElem?_eq_some_iff.1 hj).1
    simp at this; omega
  rw [List.getElem?_take_of_lt this, List.getElem?_drop] at hj
  simpa using hj
/-- The result lies in it. -/
theorem ret_blk {P : Program} {fn : Func} {R : Ending → World → Prop} {a : Act} {w : World} {g t : Nat} {cs : Array Value} (hb : BlkIs w g t cs) {p : Tmp} {ty : TypeId} (h : fn.results = #[.cell p ty]) (hp : a.tmps.getD p undef = .pointer (some ⟨g, 0, none⟩))
    (fs : Array Field) (hu : P.underlying ty = some (.struct fs)) (hi : (P.info? ty).map (·.size) = some cs.size) (hd : a.defers = []) (hR : R (.returned (.agg cs)) w) : bodyPost P fn R .ret a w :=
  bodyPost_ret (results_cell_row h a.tmps w g t cs (0, 0) (.struct fs) hp hb hu rfl hi) hd hR
theorem Keeps.belowNe {w w' : World} {c g : Nat} (h : Keeps (fun k => k ≠ g) w w') (hg : c ≤ g) (hc : c ≤ w.heap.size) : Below c w w' := h.toBelow hc (fun k hk => by omega)
/-- The same, as an operation that is run. -/
theorem exec_store_blk {P : Program} {op : Op} {ty' : TypeId} {pos : String} {after : Array Edge} {gd : Option (Nat × Bool)} {ev : Operand → Value} {w : World} {g t : Nat} {old cells : Array Value} (hb : BlkIs w g t old) (ty : TypeId) (x y : Operand) (ho : op = .store ty x y)
    (hx : ev x = .pointer (some ⟨g, 0, none⟩)) (hy : ev y = .agg cells) (hi : (P.info? ty).map (·.size) = some cells.size) (hold : old.size = cells.size) (h1 : cells.all (·.oneCell') = true) : (execOp ev ⟨none, op, ty', pos, after, gd⟩).run P w = .ok .skip (w.setRow g cells) := by
  subst ho
  unfold execOp
  simp only [hx, hy, Instr.storeAt, Instr.sureAddr, Sem.run_bind, Sem.run_pure, Result.andThen_ok, run_storeVar_row w g t ty old cells hb hi hold h1]
theorem exec_store_cell {P : Program} {op : Op} {ty' : TypeId} {pos : String} {after : Array Edge} {gd : Option (Nat × Bool)} {ev : Operand → Value} {w : World} {g t i : Nat} {cs : Array Value} {v : Value} (hb : BlkIs w g t cs) (ty : TypeId) (x y : Operand) (ho : op = .store ty x y)
    (hx : ev x = .pointer (some ⟨g, i, none⟩)) (hy : ev y = v) (hi : i < cs.size) (hs : (P.info? ty).map (·.size) = some 1) (hv : v.oneCell' = true) : (execOp ev ⟨none, op, ty', pos, after, gd⟩).run P w = .ok .skip (w.setCell ⟨g, i, none⟩ v) := by
  subst ho
  unfold execOp
  simp only [hx, hy, Instr.storeAt, Instr.sureAddr, Sem.run_bind, Sem.run_pure, Result.andThen_ok, run_cell hb hi hs hv]
end Go.Proofs.Ytgmdgjkmdnpmiaa
