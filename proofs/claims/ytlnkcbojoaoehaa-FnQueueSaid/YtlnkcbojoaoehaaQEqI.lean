/- Marks and holds that begin at one, as the laws call them. -/
import Derived.Test.YtlnkcbojoaoehaaQEq
namespace Go.Proofs.Ytlnkcbojoaoehaa
open Go Go.RowKit
set_option linter.unusedVariables false

theorem markDues_i (lo : Nat) (v : Value) (l : List DueV) (k : Nat) (w : World) (hl : l.length ≤ 1048576) (ho : OwnSl w lo v l) :
    Calls Try.prog 27 #[v, .int .i64 1] w fun e w' => e = .returned (.int .i64 (1 + 4 * l.length : Nat)) ∧ OwnSl w' lo v (markL l.length 1) ∧ Keeps (blkOf v l.length) w w' := markDues_any lo v l 1 w hl (by omega) (by omega) ho
theorem markOut_i (lo : Nat) (v : Value) (d : DueV) (c : Int) (l : List DueV) (k : Nat) (w : World) (hl : l.length ≤ 1048576) (ho : OwnSl w lo v l) :
    Calls Try.prog 28 #[outV v d c, .int .i64 1] w fun e w' => e = .returned (.int .i64 (1 + 4 * l.length : Nat)) ∧ OwnSl w' lo v (markL l.length 1) ∧ Keeps (blkOf v l.length) w w' := markOut_any lo v d c l 1 w hl (by omega) (by omega) ho
theorem heldOut_i (lo : Nat) (v : Value) (d : DueV) (c : Int) (n k : Nat) (w : World) (hl : n ≤ 1048576) (ho : OwnSl w lo v (markL n 1)) :
    Calls Try.prog 29 #[outV v d c, .int .i64 1] w fun e w' => e = .returned (.int .i64 (1 + 4 * n : Nat)) ∧ Below w.heap.size w w' := heldOut_any lo v d c n 1 w hl (by omega) (by omega) ho
theorem OwnSl.keepB {w w' : World} {base : Nat} {v : Value} {l : List DueV} (h : OwnSl w base v l) {u : Value} {n : Nat} (k : Keeps (blkOf u n) w w') (hne : ∀ g, v.ownBlock = some g → blkOf u n g) : OwnSl w' base v l := by
  obtain ⟨a, cap, rfl, ho, hz⟩ := h
  refine ⟨a, cap, rfl, ?_, hz⟩
  rcases ho with h0 | ⟨q, off, rfl, hlo, hlt, hc, hf⟩
  · exact .inl h0
  · have hq := hne q rfl
    exact .inr ⟨q, off, rfl, hlo, Nat.lt_of_lt_of_le hlt k.size, fun i hi => (k.cell (p := ⟨q, off + i, none⟩) hlt hq).trans (hc i hi), fun i hi => (k.frozen (p := ⟨q, off + i, none⟩) hlt hq).trans (hf i hi)⟩
end Go.Proofs.Ytlnkcbojoaoehaa
