/- The contracts of the exact laws' helpers over mails: copy, compare, measure. -/
import Derived.Test.YtmdcankfjmkkeaaG37
import Derived.Test.YtmdcankfjmkkeaaKeep
import Derived.Test.YtmdcankfjmkkeaaFactOne
namespace Go.Proofs.Ytmdcankfjmkkeaa
open Go Go.RowKit
set_option linter.unusedVariables false

theorem blk7_cells {W : World} {b t : Nat} {u0 u1 u2 u3 u4 u5 u6 : Value} (h : BlkIs W b t #[u0, u1, u2, u3, u4, u5, u6]) :
    W.cell? ⟨b, 0, none⟩ = some u0 ∧ W.cell? ⟨b, 1, none⟩ = some u1 ∧ W.cell? ⟨b, 2, none⟩ = some u2 ∧ W.cell? ⟨b, 3, none⟩ = some u3 ∧ W.cell? ⟨b, 4, none⟩ = some u4 ∧ W.cell? ⟨b, 5, none⟩ = some u5 ∧ W.cell? ⟨b, 6, none⟩ = some u6 :=
  ⟨h.cell 0, h.cell 1, h.cell 2, h.cell 3, h.cell 4, h.cell 5, h.cell 6⟩
theorem blk_put7 {W : World} {b t : Nat} {u0 u1 u2 u3 u4 u5 u6 : Value} (h : BlkIs W b t #[u0, u1, u2, u3, u4, u5, u6]) (v0 v1 v2 v3 v4 v5 v6 : Value) :
    BlkIs (((((((W.setCell ⟨b, 0, none⟩ v0).setCell ⟨b, 1, none⟩ v1).setCell ⟨b, 2, none⟩ v2).setCell ⟨b, 3, none⟩ v3).setCell ⟨b, 4, none⟩ v4).setCell ⟨b, 5, none⟩ v5).setCell ⟨b, 6, none⟩ v6) b t #[v0, v1, v2, v3, v4, v5, v6] := by
  have := ((((((h.put 0 v0).put 1 v1).put 2 v2).put 3 v3).put 4 v4).put 5 v5).put 6 v6
  simpa using this
theorem keeps_seven (w : World) (b : Nat) (v0 v1 v2 v3 v4 v5 v6 : Value) : Keeps (fun k => k ≠ b) w (((((((w.setCell ⟨b, 0, none⟩ v0).setCell ⟨b, 1, none⟩ v1).setCell ⟨b, 2, none⟩ v2).setCell ⟨b, 3, none⟩ v3).setCell ⟨b, 4, none⟩ v4).setCell ⟨b, 5, none⟩ v5).setCell ⟨b, 6, none⟩ v6) :=
  (((((((Keeps.refl _ _).setCell (fun h => h rfl) _).setCell (fun h => h rfl) _).setCell (fun h => h rfl) _).setCell (fun h => h rfl) _).setCell (fun h => h rfl) _).setCell (fun h => h rfl) _).setCell (fun h => h rfl) _
theorem OwnCells.keepK {w w' : World} {lo : Nat} {a : Option Addr} {cs : List Value} (h : OwnCells w lo a cs) {G : Nat → Prop} (k : Keeps G w w') (hg : ∀ b, lo ≤ b → G b) : OwnCells w' lo a cs := by
  rcases h with h | ⟨b, off, rfl, hlo, hlt, hc, hf⟩
  · exact .inl h
  · exact .inr ⟨b, off, rfl, hlo, Nat.lt_of_lt_of_le hlt k.size, fun i hi => (k.cell (p := ⟨b, off + i, none⟩) hlt (hg b hlo)).trans (hc i hi), fun i hi => (k.frozen (p := ⟨b, off + i, none⟩) hlt (hg b hlo)).trans (hf i hi)⟩
set_option maxHeartbeats 1000000 in
set_option maxRecDepth 100000 in
theorem eqMail_same (k f t n a r : Int) (p1 p2 : Option Addr) (cap1 cap2 : Nat) (l : List FactV) (w : World) (hl : l.length ≤ 1048576) (h1 : CellRow w p1 (cellsOf FactV.cells l)) (h2 : CellRow w p2 (cellsOf FactV.cells l)) :
    Calls Try.prog 83 #[MailA.val ⟨k, f, t, n, a, r, p1, cap1, l⟩, MailA.val ⟨k, f, t, n, a, r, p2, cap2, l⟩] w fun e w' => e = .returned (.bool true) ∧ Below w.heap.size w w' := by
  unfold MailA.val
  dsimp only
  have B0 := ((Below.refl w.heap.size w).alloc (Nat.le_refl _) (.cells #[.int .i64 k, .int .i64 f, .int .i64 t, .int .i64 n, .int .i64 a, .int .i64 r, .slice p1 l.length cap1] 122)).alloc (by simp) (.cells #[.int .i64 k, .int .i64 f, .int .i64 t, .int .i64 n, .int .i64 a, .int .i64 r, .slice p2 l.length cap2] 122)
  have m1 := h1.keep B0
  have m2 := h2.keep B0
  go_enter Try.func83, Try.ntmps83
  go_wp2_with fail
  refine (eqFacts_same p1 cap1 p2 cap2 l _ hl m1 m2).mono ?_
  rintro e x ⟨rfl, bx⟩
  have B1 := B0.trans (bx.mono B0.size)
  clear bx m1 m2 B0
  go_wp2
  go_ret
  exact ⟨rfl, B1⟩
end Go.Proofs.Ytmdcankfjmkkeaa
