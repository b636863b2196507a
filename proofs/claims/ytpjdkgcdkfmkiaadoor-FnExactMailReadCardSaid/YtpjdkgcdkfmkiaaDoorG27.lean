/- A region that draws its order, in a round of a range over a function: the laws of plain walks serve there too. No program. -/
import Derived.Test.YtpjdkgcdkfmkiaaDoorG26
import Derived.OrdersIn
import Derived.OrdersHeld
import Derived.RangeFuncCalls
import Derived.Test.YtpjdkgcdkfmkiaaDoorFPlain
namespace Go.Proofs.YtpjdkgcdkfmkiaaDoor
open Go Go.RowKit
set_option linter.unusedVariables false

theorem oper_round {P : Program} {Q : Exit → Act → World → Prop} {l n : Nat} {o : Oper} {a : Act} {w : World} {K K' : Act → World → Prop} (hd : ∀ c, o.op ≠ .defer c) (hk : ∀ a w, K a w → K' a w) (h : o.wp P a w K Q) : o.wpIn (Fence.wide.inRound l) n P a w K' Q := by
  unfold Oper.wpIn
  unfold Oper.wp at h
  rw [Oper.semAt_eq _ _ _ hd]
  refine ⟨fun f _ => trivial, ?_⟩
  generalize (execOp a.eval o).run P w = r at *
  cases r with
  | ok x w' =>
    cases x with
    | value v => exact hk _ _ h
    | skip => exact hk _ _ h
    | defer d => exact hk _ _ h
    | enter f args =>
      refine ⟨fun e => by simp [Fence.wide] at e, CallsIn.mono (CallsIn.inRound l (callsIn_wide.2 h)) ?_⟩
      intro e w'' he
      cases e <;> first | exact hk _ _ he | exact he
    | row row args =>
      refine ⟨fun e => by simp [Fence.wide] at e, ?_⟩
      intro c cs _
      obtain ⟨v, w2, hr, hs⟩ := h c cs
      exact ⟨v, w2, hk _ _ hr, stepsIn_wide.2 hs⟩
    | _ => exact h.elim
  | halt x w' => cases x <;> first | exact h | exact h.elim
theorem any_round {P : Program} {md : Region.Mode} {ops : Array Oper} {Q : Exit → Act → World → Prop} {l n : Nat} (hq : ¬ LetsOut Q) (hd : ∀ (i : Nat) (o : Oper), ops[i]? = some o → ∀ c, o.op ≠ .defer c) :
    ∀ (fuel : Nat) (listed : Array Bool) (a : Act) (w : World), wpAny P md ops Q fuel listed a w → wpAnyIn (Fence.wide.inRound l) n P md ops Q fuel listed a w := by
  intro fuel
  induction fuel with
  | zero => intro listed a w h; exact h
  | succ fuel ih =>
    intro listed a w h
    refine ⟨h.1, fun i hi => ?_⟩
    have h2 := h.2 i hi
    unfold wpOp at h2
    unfold wpOpIn
    cases ho : ops[i]? with
    | none => rw [ho] at h2; exact ih _ _ _ h2
    | some o =>
      rw [ho] at h2
      simp only at h2 ⊢
      by_cases hw : Region.wanted o (yielded ops a.tmps) = true
      · rw [if_pos hw] at h2 ⊢
        rcases h2 with h2 | ⟨_, h2⟩
        · exact oper_round (hd i o ho) (fun a w h => ih _ _ _ h) h2
        · exact absurd h2 hq
      · rw [if_neg hw] at h2 ⊢
        exact ⟨fun f _ => trivial, ih _ _ _ h2⟩
def noDefer (ops : Array Oper) : Bool := ops.all fun o => match o.op with | .defer _ => false | _ => true
theorem noDefer_at {ops : Array Oper} (h : noDefer ops = true) : ∀ (i : Nat) (o : Oper), ops[i]? = some o → ∀ c, o.op ≠ .defer c := by
  intro i o ho c hc
  unfold noDefer at h
  rw [Array.all_eq_true] at h
  obtain ⟨hi, he⟩ := Array.getElem?_eq_some_iff.1 ho
  have := h i hi
  rw [he, hc] at this
  exact absurd this (by simp)
/-- A drawn region of a round, by the laws of a plain one. -/
theorem region_round {P : Program} {ops : Array Oper} {Q : Exit → Act → World → Prop} {S : World → Prop} {l n id : Nat} {a : Act} {w : World} (hm : P.follows .mixedOrders = true) (hd : noDefer ops = true) (hq : ¬ LetsOut Q) (hS : S w.drew)
    (h : S w.drew → wpAnyH P .any ops Q S ops.size (Array.replicate ops.size false) a w.drew) : (Code.region id ops true).wpIn (Fence.wide.inRound l) n P Q a w :=
  wpIn_region_any hm (any_round hq (noDefer_at hd) _ _ _ _ (wpAny_of_held _ _ _ _ (h hS)))
end Go.Proofs.YtpjdkgcdkfmkiaaDoor
/- The contracts of the exact laws' helpers over facts: copy, compare, measure. -/
namespace Go.Proofs.YtpjdkgcdkfmkiaaDoor
open Go Go.RowKit
set_option linter.unusedVariables false

theorem Tryd.infoFact : (Tryd.prog.info? 43).map (fun i => (i.zero, i.size, i.bytes)) = some (some (.agg #[.int .i64 0, .int .i64 0, .int .i64 0]), 3, 24) := by kernel_rfl
set_option maxHeartbeats 1000000 in
set_option maxRecDepth 100000 in
theorem eqFact_same (d : FactV) (w : World) : Calls Tryd.prog 75 #[d.val, d.val] w fun r w' => r = .returned (.bool true) ∧ Below w.heap.size w w' := by
  unfold FactV.val
  go_enter Tryd.func75, Tryd.ntmps75
  go_wp2
  go_ret
  exact ⟨rfl, ((Below.refl _ _).alloc (Nat.le_refl _) _).alloc (by simp) _⟩
/-- Three cells in the midst of a row are put anew. -/
theorem set_three {X Y : List Value} {a b c e f g : Value} {n : Nat} (hn : X.length = n) : (((X ++ a :: b :: c :: Y).set n e).set (n + 1) f).set (n + 2) g = X ++ e :: f :: g :: Y := by
  subst hn
  rw [List.set_append_right _ _ (Nat.le_refl _), List.set_append_right _ _ (by omega), List.set_append_right _ _ (by omega)]
  simp
set_option maxHeartbeats 1000000 in
set_option maxRecDepth 100000 in
theorem eqFacts_same (a1 : Option Addr) (c1 : Nat) (a2 : Option Addr) (c2 : Nat) (l : List FactV) (w : World) (hl : l.length ≤ 1048576) (h1 : CellRow w a1 (cellsOf FactV.cells l)) (h2 : CellRow w a2 (cellsOf FactV.cells l)) :
    Calls Tryd.prog 61 #[.slice a1 l.length c1, .slice a2 l.length c2] w fun e w' => e = .returned (.bool true) ∧ Below w.heap.size w w' := by
  go_enter Tryd.func61, Tryd.ntmps61
  go_wp2
  go_loopw [5] (fun i wr => ∃ k : Nat, k ≤ l.length ∧ i = .int .i64 k ∧ Below w.heap.size w wr) (fun i _ => l.length - (intOf i).toNat)
  case atStart => exact ⟨0, Nat.zero_le _, rfl, Below.refl _ _⟩
  case round =>
    obtain ⟨k, hk, rfl, hb⟩ := hrel
    by_cases hx : k < l.length
    · obtain ⟨b1, o1, rfl⟩ := h1.addr (by rw [cellsOf_length FactV.cells_len]; omega)
      obtain ⟨b2, o2, rfl⟩ := h2.addr (by rw [cellsOf_length FactV.cells_len]; omega)
      have r1 := h1.keep hb
      have r2 := h2.keep hb
      obtain ⟨x1, x2, x3, hlx⟩ : ∃ x1 x2 x3, l[k] = ⟨x1, x2, x3⟩ := ⟨_, _, _, rfl⟩
      have q0 := r1.thing0 FactV.cells_len (i := k) (v := .int .i64 x1) hx (by omega) (by rw [hlx]; rfl)
      have q1 := r1.thingj FactV.cells_len (i := k) (j := 1) (v := .int .i64 x2) hx (by omega) (by rw [hlx]; rfl)
      have q2 := r1.thingj FactV.cells_len (i := k) (j := 2) (v := .int .i64 x3) hx (by omega) (by rw [hlx]; rfl)
      have p0 := r2.thing0 FactV.cells_len (i := k) (v := .int .i64 x1) hx (by omega) (by rw [hlx]; rfl)
      have p1 := r2.thingj FactV.cells_len (i := k) (j := 1) (v := .int .i64 x2) hx (by omega) (by rw [hlx]; rfl)
      have p2 := r2.thingj FactV.cells_len (i := k) (j := 2) (v := .int .i64 x3) hx (by omega) (by rw [hlx]; rfl)
      have hx' : (k : Int) < (l.length : Int) := by omega
      clear r1 r2 hlx
      go_wp2
      go_region_with (go_at_call 75; refine (eqFact_same ⟨x1, x2, x3⟩ _).mono ?_; rintro e y1 ⟨rfl, by1⟩)
      all_goals
        have hb1 := hb.drew.trans (by1.mono hb.size)
        go_wp2
        go_roundw
        case rel => exact ⟨k + 1, by omega, by go_num, hb1⟩
        case measure => simp [intOf]; omega
    · obtain rfl : k = l.length := by omega
      go_wp2
      go_ret
      exact ⟨rfl, hb⟩
/-- What is left of a measure, or -1. -/
def leftOf (left : Int) (n : Nat) : Int := if left < (n : Int) then -1 else left - n
end Go.Proofs.YtpjdkgcdkfmkiaaDoor
