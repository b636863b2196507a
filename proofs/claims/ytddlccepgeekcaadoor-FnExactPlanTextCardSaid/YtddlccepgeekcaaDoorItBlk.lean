/- An item in a block of its own, and one of a row. -/
import Derived.Test.YtddlccepgeekcaaDoorItSpec
import Derived.Test.YtddlccepgeekcaaDoorKeep
namespace Go.Proofs.YtddlccepgeekcaaDoor
open Go Go.RowKit
set_option linter.unusedVariables false

/-- An item in a block of its own. -/
structure IBlk (w : World) (b : Nat) (x : ItemV) : Prop where
  lt : b < w.heap.size
  c0 : w.cell? ⟨b, 0, none⟩ = some (.int .i64 x.kind)
  c1 : w.cell? ⟨b, 1, none⟩ = some (.int .i64 x.tm)
  c2 : w.cell? ⟨b, 2, none⟩ = some (.int .i64 x.pa)
  c3 : w.cell? ⟨b, 3, none⟩ = some (.int .i64 x.pb)
theorem IBlk.keep {w w' : World} {b : Nat} {x : ItemV} (h : IBlk w b x) (k : Below w.heap.size w w') : IBlk w' b x :=
  ⟨Nat.lt_of_lt_of_le h.lt k.size, (k.cell (p := ⟨b, 0, none⟩) h.lt).trans h.c0, (k.cell (p := ⟨b, 1, none⟩) h.lt).trans h.c1, (k.cell (p := ⟨b, 2, none⟩) h.lt).trans h.c2, (k.cell (p := ⟨b, 3, none⟩) h.lt).trans h.c3⟩
theorem IBlk.new (w : World) (x : ItemV) : IBlk (w.alloc (.cells #[.int .i64 x.kind, .int .i64 x.tm, .int .i64 x.pa, .int .i64 x.pb] 32)) w.heap.size x := by
  have e := heap_alloc_new w (.cells #[.int .i64 x.kind, .int .i64 x.tm, .int .i64 x.pa, .int .i64 x.pb] 32)
  refine ⟨by simp, ?_, ?_, ?_, ?_⟩ <;> simp only [World.cell?, e] <;> simp
theorem IBlk.newL (w : World) (x : ItemV) : IBlk (w.alloc (.cells #[.int .i64 x.kind, .int .i64 x.tm, .int .i64 x.pa, .int .i64 x.pb] 35)) w.heap.size x := by
  have e := heap_alloc_new w (.cells #[.int .i64 x.kind, .int .i64 x.tm, .int .i64 x.pa, .int .i64 x.pb] 35)
  refine ⟨by simp, ?_, ?_, ?_, ?_⟩ <;> simp only [World.cell?, e] <;> simp
/-- One of a row's items. -/
structure IAt (w : World) (b off : Nat) (x : ItemV) : Prop where
  lt : b < w.heap.size
  c0 : w.cell? ⟨b, off, none⟩ = some (.int .i64 x.kind)
  c1 : w.cell? ⟨b, off + 1, none⟩ = some (.int .i64 x.tm)
  c2 : w.cell? ⟨b, off + 2, none⟩ = some (.int .i64 x.pa)
  c3 : w.cell? ⟨b, off + 3, none⟩ = some (.int .i64 x.pb)
theorem IAt.keep {w w' : World} {b off : Nat} {x : ItemV} (h : IAt w b off x) (k : Below w.heap.size w w') : IAt w' b off x :=
  ⟨Nat.lt_of_lt_of_le h.lt k.size, (k.cell (p := ⟨b, off, none⟩) h.lt).trans h.c0, (k.cell (p := ⟨b, off + 1, none⟩) h.lt).trans h.c1, (k.cell (p := ⟨b, off + 2, none⟩) h.lt).trans h.c2, (k.cell (p := ⟨b, off + 3, none⟩) h.lt).trans h.c3⟩
theorem CellRow.item {w : World} {b off : Nat} {l : List ItemV} (h : CellRow w (some ⟨b, off, none⟩) (cellsOf ItemV.cells l)) {i : Nat} (hi : i < l.length) {x : ItemV} (hx : l[i] = x) : IAt w b (off + i * 4) x := by
  subst hx
  refine ⟨?_, h.thing0 ItemV.cells_len hi (by omega) rfl, h.thingj ItemV.cells_len (j := 1) hi (by omega) rfl, h.thingj ItemV.cells_len (j := 2) hi (by omega) rfl, h.thingj ItemV.cells_len (j := 3) hi (by omega) rfl⟩
  have hlen := cellsOf_length ItemV.cells_len l
  rcases h with h | ⟨b', off', e, hlt, _⟩
  · rw [h] at hlen; simp only [List.length_nil] at hlen; omega
  · simp only [Option.some.injEq, Addr.mk.injEq, and_true] at e
    rw [e.1]; exact hlt
/-- How deep it is, by the kind. -/
theorem ItemV.deep_loop {x : ItemV} {d : Int} (h : x.kind = 8) : x.deep d = d + 1 := if_pos h
theorem ItemV.deep_end {x : ItemV} {d : Int} (h : x.kind = 9) : x.deep d = d - 1 := by unfold ItemV.deep; rw [if_neg (by omega), if_pos h]
theorem ItemV.deep_same {x : ItemV} {d : Int} (h : ¬ x.kind = 8) (h' : ¬ x.kind = 9) : x.deep d = d := by unfold ItemV.deep; rw [if_neg h, if_neg h']
theorem ItemV.deep_near {x : ItemV} {d : Int} : d - 1 ≤ x.deep d ∧ x.deep d ≤ d + 1 := by
  unfold ItemV.deep
  split
  · omega
  · split <;> omega
end Go.Proofs.YtddlccepgeekcaaDoor
