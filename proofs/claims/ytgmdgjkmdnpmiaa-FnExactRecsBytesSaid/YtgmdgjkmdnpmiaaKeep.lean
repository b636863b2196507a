/- What of memory stays as it lay, by blocks; and a block that is known whole. No program. -/
import Derived.Test.YtgmdgjkmdnpmiaaCells
import Derived.Deep.OwnRows
namespace Go.Proofs.Ytgmdgjkmdnpmiaa
open Go Go.RowKit
set_option linter.unusedVariables false

/-- What lay and is G lies as it lay. -/
structure Keeps (G : Nat → Prop) (w w' : World) : Prop where
  os : w'.os = w.os
  tape : w'.tape = w.tape
  output : w'.output = w.output
  size : w.heap.size ≤ w'.heap.size
  block : ∀ k, k < w.heap.size → G k → w'.heap[k]? = w.heap[k]?
theorem Keeps.refl (G : Nat → Prop) (w : World) : Keeps G w w := ⟨rfl, rfl, rfl, Nat.le_refl _, fun _ _ _ => rfl⟩
theorem Keeps.trans {G : Nat → Prop} {a b c : World} (h : Keeps G a b) (k : Keeps G b c) : Keeps G a c :=
  ⟨k.os.trans h.os, k.tape.trans h.tape, k.output.trans h.output, Nat.le_trans h.size k.size, fun i hi hg => (k.block i (Nat.lt_of_lt_of_le hi h.size) hg).trans (h.block i hi hg)⟩
theorem Keeps.mono {G G' : Nat → Prop} {a b : World} (h : Keeps G a b) (hg : ∀ k, k < a.heap.size → G' k → G k) : Keeps G' a b := ⟨h.os, h.tape, h.output, h.size, fun i hi hk => h.block i hi (hg i hi hk)⟩
theorem Keeps.alloc {G : Nat → Prop} {a w : World} (h : Keeps G a w) (o : Obj) : Keeps G a (w.alloc o) :=
  h.trans ⟨rfl, rfl, rfl, by simp, fun k hk _ => Below.heap_alloc _ _ _ hk⟩
theorem Keeps.drew {G : Nat → Prop} {a w : World} (h : Keeps G a w) : Keeps G a w.drew := ⟨h.os, h.tape, h.output, h.size, h.block⟩
theorem Keeps.setCell {G : Nat → Prop} {a w : World} (h : Keeps G a w) {p : Addr} (hp : ¬ G p.block) (u : Value) : Keeps G a (w.setCell p u) :=
  h.trans ⟨rfl, rfl, rfl, by simp [World.setCell], fun k hk hg => Below.heap_setCell _ _ _ _ (fun e => hp (e ▸ hg))⟩
theorem Keeps.below {G : Nat → Prop} {a w w' : World} (h : Keeps G a w) (k : Below w.heap.size w w') : Keeps G a w' :=
  h.trans ⟨k.os, k.tape, k.output, k.size, fun i hi _ => k.block i hi⟩
theorem Keeps.toBelow {G : Nat → Prop} {n : Nat} {a b : World} (h : Keeps G a b) (hn : n ≤ a.heap.size) (hg : ∀ k, k < n → G k) : Below n a b := ⟨h.os, h.tape, h.output, h.size, fun k hk => h.block k (by omega) (hg k hk)⟩
theorem Keeps.ofBelow {G : Nat → Prop} {n : Nat} {a b : World} (h : Below n a b) (hg : ∀ k, k < a.heap.size → G k → k < n) : Keeps G a b := ⟨h.os, h.tape, h.output, h.size, fun k hk hk2 => h.block k (hg k hk hk2)⟩
theorem Keeps.grown {G : Nat → Prop} {a w w' : World} {row : Option Nat} (h : Keeps G a w) (hg : w.grownBy w' row) (hr : ∀ k, row = some k → ¬ G k) : Keeps G a w' :=
  h.trans ⟨hg.os, hg.tape, hg.output, hg.size, fun k hk hgk => hg.block k hk (fun e => hr k e.symm hgk)⟩
theorem Keeps.cell {G : Nat → Prop} {w w' : World} (h : Keeps G w w') {p : Addr} (hp : p.block < w.heap.size) (hg : G p.block) : w'.cell? p = w.cell? p := World.cell?_of_block (h.block _ hp hg)
theorem Keeps.frozen {G : Nat → Prop} {w w' : World} (h : Keeps G w w') {p : Addr} (hp : p.block < w.heap.size) (hg : G p.block) : w'.frozen? p = w.frozen? p := World.frozen?_of_block (h.block _ hp hg)

/-- A block, known whole. -/
def BlkIs (w : World) (b : Nat) (t : TypeId) (cs : Array Value) : Prop := w.heap[b]? = some (.cells cs t (0, 0))
theorem BlkIs.lt {w : World} {b t : Nat} {cs : Array Value} (h : BlkIs w b t cs) : b < w.heap.size := (Array.getElem?_eq_some_iff.1 h).1
theorem BlkIs.keep {w w' : World} {b t : Nat} {cs : Array Value} (h : BlkIs w b t cs) (k : Below w.heap.size w w') : BlkIs w' b t cs := (k.block b h.lt).trans h
theorem BlkIs.keepK {w w' : World} {b t : Nat} {cs : Array Value} (h : BlkIs w b t cs) {G : Nat → Prop} (k : Keeps G w w') (hg : G b) : BlkIs w' b t cs := (k.block b h.lt hg).trans h
theorem BlkIs.cell {w : World} {b t : Nat} {cs : Array Value} (h : BlkIs w b t cs) (i : Nat) : w.cell? ⟨b, i, none⟩ = cs[i]? := by
  simp [World.cell?, show w.heap[b]? = _ from h]
theorem BlkIs.fz {w : World} {b t : Nat} {cs : Array Value} (h : BlkIs w b t cs) (i : Nat) : w.frozen? ⟨b, i, none⟩ = false := by
  simp [World.frozen?, show w.heap[b]? = _ from h]
theorem BlkIs.new (w : World) (t : TypeId) (cs : Array Value) : BlkIs (w.alloc (.cells cs t)) w.heap.size t cs := heap_alloc_new w _
theorem BlkIs.put {w : World} {b t : Nat} {cs : Array Value} (h : BlkIs w b t cs) (i : Nat) (v : Value) : BlkIs (w.setCell ⟨b, i, none⟩ v) b t (cs.setIfInBounds i v) := heap_setCell_same w b i _ _ v h
theorem BlkIs.not_row {w : World} {b t : Nat} {cs : Array Value} (h : BlkIs w b t cs) {base size k : Nat} {e : TypeId} {v : Value} {xs : List Value} (hne : t ≠ e) (hr : w.ownsRow base e size v k xs) : v.ownBlock ≠ some b := by
  rcases hr.2 with ⟨rfl, _⟩ | ⟨g, cap, cur, rfl, _, hgb, _⟩
  · simp [Value.ownBlock]
  · intro e'
    obtain rfl : g = b := by simpa [Value.ownBlock] using e'
    have := (show w.heap[g]? = _ from h).symm.trans hgb
    simp only [Option.some.injEq, Obj.cells.injEq] at this
    exact hne this.2.1
theorem rowKeep {w w' : World} {lo n : Nat} {v : Value} {xs : List Value} {e : TypeId} {size : Nat} (h : w.ownsRow lo e size v n xs) {G : Nat → Prop} (k : Keeps G w w') (hg : ∀ g, v.ownBlock = some g → G g) : w'.ownsRow lo e size v n xs := by
  refine ⟨h.1, ?_⟩
  rcases h.2 with q | ⟨g, cap, cur, rfl, r1, r2, r3⟩
  · exact .inl q
  · exact .inr ⟨g, cap, cur, rfl, r1, (k.block g (Array.getElem?_eq_some_iff.1 r2).1 (hg g rfl)).trans r2, r3⟩
theorem rowBelow {w w' : World} {lo n : Nat} {v : Value} {xs : List Value} {e : TypeId} {size : Nat} (h : w.ownsRow lo e size v n xs) (k : Below w.heap.size w w') : w'.ownsRow lo e size v n xs :=
  rowKeep h (G := fun _ => True) (Keeps.ofBelow k (fun _ hk _ => hk)) (fun _ _ => trivial)
theorem rowShape {w : World} {lo n : Nat} {v : Value} {xs : List Value} {e : TypeId} {size : Nat} (h : w.ownsRow lo e size v n xs) : ∃ a n c, v = .slice a n c := by
  rcases h.2 with ⟨rfl, _⟩ | ⟨g, cap, cur, rfl, _⟩
  · exact ⟨_, _, _, rfl⟩
  · exact ⟨_, _, _, rfl⟩
end Go.Proofs.Ytgmdgjkmdnpmiaa
