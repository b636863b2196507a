/- The methods of a heap of what is due, found through its interface. -/
import Derived.Test.YtlnkcbojoaoehaaHeapPlain
import Derived.Test.YtlnkcbojoaoehaaQRightI
import Derived.RangeFuncBox
namespace Go.Proofs.Ytlnkcbojoaoehaa
open Go Go.RowKit
set_option linter.unusedVariables false

theorem m_recv (s : String) (a : Addr) (w : World) : (receiverAt 56 (.val (.pointer (some a))) false (some s)).run Try.prog w = ((loadVar 80 a).run Try.prog w) := by kernel_rfl
theorem m_load (b : Nat) (v : Value) (w : World) (h : w.cell? ⟨b, 0, none⟩ = some v) : (loadVar 80 ⟨b, 0, none⟩).run Try.prog w = .ok v w := by go_simp
theorem m_val {name : String} {f : FuncId} (hfind : ((Try.prog.info? 56).bind fun i => i.methods.find? (·.name == name)).map (fun m => (m.path, m.func)) = some (#[], some (f, false))) (b : Nat) (v : Value) (w : World) (h : w.cell? ⟨b, 0, none⟩ = some v) :
    (method 218 56 (.pointer (some ⟨b, 0, none⟩)) name).run Try.prog w = .ok (f, v) w := by
  obtain ⟨i, hi, hm⟩ := Option.map_eq_some_iff.1 hfind
  obtain ⟨j, hj, hf⟩ := Option.bind_eq_some_iff.1 hi
  simp only [Prod.mk.injEq] at hm
  unfold method
  simp [go_sem, Sem.run_bind, typeInfo, hj, hf, hm.1, hm.2, follow]
  rw [m_recv, m_load b v w h]
  rfl
theorem m_len (b : Nat) (v : Value) (w : World) (h : w.cell? ⟨b, 0, none⟩ = some v) : (method 218 56 (.pointer (some ⟨b, 0, none⟩)) "Len").run Try.prog w = .ok (59, v) w := m_val (by kernel_rfl) b v w h
theorem m_less (b : Nat) (v : Value) (w : World) (h : w.cell? ⟨b, 0, none⟩ = some v) : (method 218 56 (.pointer (some ⟨b, 0, none⟩)) "Less").run Try.prog w = .ok (85, v) w := m_val (by kernel_rfl) b v w h
theorem m_swap (b : Nat) (v : Value) (w : World) (h : w.cell? ⟨b, 0, none⟩ = some v) : (method 218 56 (.pointer (some ⟨b, 0, none⟩)) "Swap").run Try.prog w = .ok (88, v) w := m_val (by kernel_rfl) b v w h
theorem m_pop (a : Addr) (w : World) : (method 218 56 (.pointer (some a)) "Pop").run Try.prog w = .ok (86, .pointer (some a)) w := by kernel_rfl
theorem m_push (a : Addr) (w : World) : (method 218 56 (.pointer (some a)) "Push").run Try.prog w = .ok (87, .pointer (some a)) w := by kernel_rfl

/-- What lay and is G lies as it lay. -/
structure Keeps (G : Nat → Prop) (w w' : World) : Prop where
  os : w'.os = w.os
  tape : w'.tape = w.tape
  output : w'.output = w.output
  size : w.heap.size ≤ w'.heap.size
  block : ∀ k, k < w.heap.size → G k → w'.heap[k]? = w.heap[k]?
theorem Keeps.refl (G : Nat → Prop) (w : World) : Keeps G w w := ⟨rfl, rfl, rfl, Nat.le_refl _, fun _ _ _ => rfl⟩
theorem Keeps.trans {G : Nat → Prop} {a b c : World} (h : Keeps G a b) (k : Keeps G b c) : Keeps G a c :=
  ⟨k.os.trans h.os, k.tape.trans h.tape, k.output.trans h.output, Nat.le_trans h.size k.size, fun i hi hg => (k.block i (Nat.lt_of_lt_of_le hi h.size) hg).trans (h.block i hi hg)⟩
theorem Keeps.mono {G G' : Nat → Prop} {a b : World} (h : Keeps G a b) (hg : ∀ k, k < a.heap.size → G' k → G k) : Keeps G' a b := ⟨h.os, h.tape, h.output, h.size, fun i hi hk => h.block i hi (hg i hi hk)⟩
theorem Keeps.alloc {G : Nat → Prop} {a w : World} (h : Keeps G a w) (o : Obj) : Keeps G a (w.alloc o) :=
  h.trans ⟨rfl, rfl, rfl, by simp, fun k hk _ => Below.heap_alloc _ _ _ hk⟩
theorem Keeps.drew {G : Nat → Prop} {a w : World} (h : Keeps G a w) : Keeps G a w.drew := ⟨h.os, h.tape, h.output, h.size, h.block⟩
theorem Keeps.setCell {G : Nat → Prop} {a w : World} (h : Keeps G a w) {p : Addr} (hp : ¬ G p.block) (u : Value) : Keeps G a (w.setCell p u) :=
  h.trans ⟨rfl, rfl, rfl, by simp [World.setCell], fun k hk hg => Below.heap_setCell _ _ _ _ (fun e => hp (e ▸ hg))⟩
theorem Keeps.below {G : Nat → Prop} {a w w' : World} (h : Keeps G a w) (k : Below w.heap.size w w') : Keeps G a w' :=
  h.trans ⟨k.os, k.tape, k.output, k.size, fun i hi _ => k.block i hi⟩
theorem Keeps.toBelow {G : Nat → Prop} {n : Nat} {a b : World} (h : Keeps G a b) (hn : n ≤ a.heap.size) (hg : ∀ k, k < n → G k) : Below n a b := ⟨h.os, h.tape, h.output, h.size, fun k hk => h.block k (by omega) (hg k hk)⟩
theorem Keeps.ofBelow {G : Nat → Prop} {n : Nat} {a b : World} (h : Below n a b) (hg : ∀ k, k < a.heap.size → G k → k < n) : Keeps G a b := ⟨h.os, h.tape, h.output, h.size, fun k hk hk2 => h.block k (hg k hk hk2)⟩
theorem Keeps.grown {G : Nat → Prop} {a w w' : World} {row : Option Nat} (h : Keeps G a w) (hg : w.grownBy w' row) (hr : ∀ k, row = some k → ¬ G k) : Keeps G a w' :=
  h.trans ⟨hg.os, hg.tape, hg.output, hg.size, fun k hk hgk => hg.block k hk (fun e => hr k e.symm hgk)⟩
theorem Keeps.cell {G : Nat → Prop} {w w' : World} (h : Keeps G w w') {p : Addr} (hp : p.block < w.heap.size) (hg : G p.block) : w'.cell? p = w.cell? p := World.cell?_of_block (h.block _ hp hg)
theorem Keeps.frozen {G : Nat → Prop} {w w' : World} (h : Keeps G w w') {p : Addr} (hp : p.block < w.heap.size) (hg : G p.block) : w'.frozen? p = w.frozen? p := World.frozen?_of_block (h.block _ hp hg)

/-- A heap's box and its row. -/
structure HeapAt (w : World) (lo hb g cap : Nat) (l : List DueV) : Prop where
  box : Boxed w hb 80 (.slice (some ⟨g, 0, none⟩) l.length cap)
  row : w.ownsRow lo 25 4 (.slice (some ⟨g, 0, none⟩) l.length cap) l.length (cellsOf DueV.cells l)
theorem HeapAt.ne {w : World} {lo hb g cap : Nat} {l : List DueV} (h : HeapAt w lo hb g cap l) : hb ≠ g := by
  have := h.box.not_row (by decide) h.row
  simpa [Value.ownBlock] using this
theorem HeapAt.lo {w : World} {lo hb g cap : Nat} {l : List DueV} (h : HeapAt w lo hb g cap l) : lo ≤ g ∧ g < w.heap.size := h.row.lt g rfl
theorem HeapAt.keep {w w' : World} {lo hb g cap : Nat} {l : List DueV} (h : HeapAt w lo hb g cap l) {G : Nat → Prop} (k : Keeps G w w') (h1 : G hb) (h2 : G g) : HeapAt w' lo hb g cap l := by
  refine ⟨(k.block hb h.box.lt h1).trans h.box, h.row.1, ?_⟩
  rcases h.row.2 with ⟨e, _⟩ | ⟨g', cap', cur, e, r1, r2, r3⟩
  · cases e
  · have e' : g = g' := by simpa [Value.ownBlock] using congrArg Value.ownBlock e
    subst e'
    exact .inr ⟨g, cap', cur, e, r1, (k.block g h.lo.2 h2).trans r2, r3⟩
theorem HeapAt.keepB {w w' : World} {lo hb g cap : Nat} {l : List DueV} (h : HeapAt w lo hb g cap l) (k : Below w.heap.size w w') : HeapAt w' lo hb g cap l :=
  h.keep (G := fun _ => True) (Keeps.ofBelow k (fun _ hk _ => hk)) trivial trivial
/-- One of its Dues. -/
theorem HeapAt.due {w : World} {lo hb g cap : Nat} {l : List DueV} (h : HeapAt w lo hb g cap l) {i : Nat} (hi : i < l.length) : DueAt w g (i * 4) (dAt l i) := by
  have hlen := cellsOf_length DueV.cells_len l
  have key : ∀ j v, j < 4 → (dAt l i).cells[j]? = some v → w.cell? ⟨g, i * 4 + j, none⟩ = some v := fun j v hj hv => by
    rw [h.row.cellAt (i * 4 + j) (by have : (i + 1) * 4 ≤ l.length * 4 := Nat.mul_le_mul_right _ hi; omega), cellsOf_at DueV.cells_len l i j hi hj, ← dAt_eq hi, hv]
  exact ⟨h.lo.2, key 0 _ (by omega) rfl, key 1 _ (by omega) rfl, key 2 _ (by omega) rfl, key 3 _ (by omega) rfl⟩
end Go.Proofs.Ytlnkcbojoaoehaa
