/- The contracts of the exact laws' helpers over facts: copy, compare, measure. -/
import Derived.Test.YtenefjnahanfbaaFPlain
namespace Go.Proofs.Ytenefjnahanfbaa
open Go Go.RowKit
set_option linter.unusedVariables false

theorem Try.infoFact : (Try.prog.info? 25).map (fun i => (i.zero, i.size, i.bytes)) = some (some (.agg #[.int .i64 0, .int .i64 0, .int .i64 0]), 3, 24) := by kernel_rfl
theorem toFact_any (d : FactV) (w : World) : Calls Try.prog 21 #[d.val] w fun e w' => e = .returned d.val ∧ Below w.heap.size w w' := by
  unfold FactV.val
  go_enter Try.func21, Try.ntmps21
  go_wp2
  exact bodyPost_ret (v := .agg #[.int .i64 d.node, .int .i64 d.inc, .int .i64 d.st]) (by simp [results, Try.results21, go_sem]) rfl ⟨rfl, (((Below.refl _ _).alloc (Nat.le_refl _) _).alloc (by simp) _).alloc (by simp; omega) _⟩
set_option maxHeartbeats 1000000 in
set_option maxRecDepth 100000 in
theorem eqFact_same (d : FactV) (w : World) : Calls Try.prog 62 #[d.val, d.val] w fun r w' => r = .returned (.bool true) ∧ Below w.heap.size w w' := by
  unfold FactV.val
  go_enter Try.func62, Try.ntmps62
  go_wp2
  go_ret
  exact ⟨rfl, ((Below.refl _ _).alloc (Nat.le_refl _) _).alloc (by simp) _⟩
/-- Three cells in the midst of a row are put anew. -/
theorem set_three {X Y : List Value} {a b c e f g : Value} {n : Nat} (hn : X.length = n) : (((X ++ a :: b :: c :: Y).set n e).set (n + 1) f).set (n + 2) g = X ++ e :: f :: g :: Y := by
  subst hn
  rw [List.set_append_right _ _ (Nat.le_refl _), List.set_append_right _ _ (by omega), List.set_append_right _ _ (by omega)]
  simp
set_option maxHeartbeats 1000000 in
set_option maxRecDepth 100000 in
theorem eqFacts_same (a1 : Option Addr) (c1 : Nat) (a2 : Option Addr) (c2 : Nat) (l : List FactV) (w : World) (hl : l.length ≤ 1048576) (h1 : CellRow w a1 (cellsOf FactV.cells l)) (h2 : CellRow w a2 (cellsOf FactV.cells l)) :
    Calls Try.prog 49 #[.slice a1 l.length c1, .slice a2 l.length c2] w fun e w' => e = .returned (.bool true) ∧ Below w.heap.size w w' := by
  go_enter Try.func49, Try.ntmps49
  go_wp2
  go_loopw [5] (fun i wr => ∃ k : Nat, k ≤ l.length ∧ i = .int .i64 k ∧ Below w.heap.size w wr) (fun i _ => l.length - (intOf i).toNat)
  case atStart => exact ⟨0, Nat.zero_le _, rfl, Below.refl _ _⟩
  case round =>
    obtain ⟨k, hk, rfl, hb⟩ := hrel
    by_cases hx : k < l.length
    · obtain ⟨b1, o1, rfl⟩ := h1.addr (by rw [cellsOf_length FactV.cells_len]; omega)
      obtain ⟨b2, o2, rfl⟩ := h2.addr (by rw [cellsOf_length FactV.cells_len]; omega)
      have r1 := h1.keep hb
      have r2 := h2.keep hb
      obtain ⟨x1, x2, x3, hlx⟩ : ∃ x1 x2 x3, l[k] = ⟨x1, x2, x3⟩ := ⟨_, _, _, rfl⟩
      have q0 := r1.thing0 FactV.cells_len (i := k) (v := .int .i64 x1) hx (by omega) (by rw [hlx]; rfl)
      have q1 := r1.thingj FactV.cells_len (i := k) (j := 1) (v := .int .i64 x2) hx (by omega) (by rw [hlx]; rfl)
      have q2 := r1.thingj FactV.cells_len (i := k) (j := 2) (v := .int .i64 x3) hx (by omega) (by rw [hlx]; rfl)
      have p0 := r2.thing0 FactV.cells_len (i := k) (v := .int .i64 x1) hx (by omega) (by rw [hlx]; rfl)
      have p1 := r2.thingj FactV.cells_len (i := k) (j := 1) (v := .int .i64 x2) hx (by omega) (by rw [hlx]; rfl)
      have p2 := r2.thingj FactV.cells_len (i := k) (j := 2) (v := .int .i64 x3) hx (by omega) (by rw [hlx]; rfl)
      have hx' : (k : Int) < (l.length : Int) := by omega
      clear r1 r2 hlx
      go_wp2
      go_region_with (go_at_call 62; refine (eqFact_same ⟨x1, x2, x3⟩ _).mono ?_; rintro e y1 ⟨rfl, by1⟩)
      all_goals
        have hb1 := hb.drew.trans (by1.mono hb.size)
        go_wp2
        go_roundw
        case rel => exact ⟨k + 1, by omega, by go_num, hb1⟩
        case measure => simp [intOf]; omega
    · obtain rfl : k = l.length := by omega
      go_wp2
      go_ret
      exact ⟨rfl, hb⟩
/-- What is left of a measure, or -1. -/
def leftOf (left : Int) (n : Nat) : Int := if left < (n : Int) then -1 else left - n
end Go.Proofs.Ytenefjnahanfbaa
