/- A scope in which the run jumps to three labels, forward and back: what holds at each jump bears a number, which every pass from a label lowers. -/
import Derived.ScopeJumps
import Derived.WalkMore
import Derived.WalkKit
namespace Go.Proofs.YtpjdkgcdkfmkiaaDoor
set_option linter.unusedVariables false
open Go

/-- As Q; by a goto to the label 0, 1 or 2: what is asked of that jump. -/
def jumps3 (K0 K1 K2 : Act → World → Prop) (Q : Exit → Act → World → Prop) : Exit → Act → World → Prop
  | .goto l, a, w => (l = 0 ∧ K0 a w) ∨ (l = 1 ∧ K1 a w) ∨ (l = 2 ∧ K2 a w)
  | e, a, w => Q e a w

theorem jumps3_mono {K0 K1 K2 L0 L1 L2 : Act → World → Prop} {Q : Exit → Act → World → Prop} (h0 : ∀ a w, K0 a w → L0 a w) (h1 : ∀ a w, K1 a w → L1 a w) (h2 : ∀ a w, K2 a w → L2 a w) :
    ∀ e a w, jumps3 K0 K1 K2 Q e a w → jumps3 L0 L1 L2 Q e a w := by
  intro e a w h
  cases e with
  | goto l =>
    rcases h with ⟨e, h⟩ | ⟨e, h⟩ | ⟨e, h⟩
    · exact .inl ⟨e, h0 a w h⟩
    · exact .inr (.inl ⟨e, h1 a w h⟩)
    · exact .inr (.inr ⟨e, h2 a w h⟩)
  | normal => exact h
  | exit id => exact h
  | ret => exact h
  | panic ch => exact h
  | outgrown => exact h

theorem wp_scope3 {P : Program} {a : Act} {w : World} {Q : Exit → Act → World → Prop} {c r0 r1 r2 : Code} (J0 J1 J2 : Nat → Act → World → Prop)
    (f0 : findLabel c 0 = some r0) (f1 : findLabel c 1 = some r1) (f2 : findLabel c 2 = some r2)
    (first : (∀ n a w, J0 n a w → r0.wp P (jumps3 (fun a w => ∃ m, m < n ∧ J0 m a w) (fun a w => ∃ m, m < n ∧ J1 m a w) (fun a w => ∃ m, m < n ∧ J2 m a w) Q) a w) → c.wp P (jumps3 (fun a w => ∃ n, J0 n a w) (fun a w => ∃ n, J1 n a w) (fun a w => ∃ n, J2 n a w) Q) a w)
    (p0 : ∀ n a w, J0 n a w → r0.wp P (jumps3 (fun a w => ∃ m, m < n ∧ J0 m a w) (fun a w => ∃ m, m < n ∧ J1 m a w) (fun a w => ∃ m, m < n ∧ J2 m a w) Q) a w)
    (p1 : ∀ n a w, J1 n a w → r1.wp P (jumps3 (fun a w => ∃ m, m < n ∧ J0 m a w) (fun a w => ∃ m, m < n ∧ J1 m a w) (fun a w => ∃ m, m < n ∧ J2 m a w) Q) a w)
    (p2 : ∀ n a w, J2 n a w → r2.wp P (jumps3 (fun a w => ∃ m, m < n ∧ J0 m a w) (fun a w => ∃ m, m < n ∧ J1 m a w) (fun a w => ∃ m, m < n ∧ J2 m a w) Q) a w) :
    (Code.scope c).wp P Q a w := by
  intro b k cs
  have g0 : gotoIn 0 (.inScope c :: k) = some (.code r0 :: .inScope c :: k) := by simp [gotoIn, f0]
  have g1 : gotoIn 1 (.inScope c :: k) = some (.code r1 :: .inScope c :: k) := by simp [gotoIn, f1]
  have g2 : gotoIn 2 (.inScope c :: k) = some (.code r2 :: .inScope c :: k) := by simp [gotoIn, f2]
  have key : ∀ n, (∀ a w, J0 n a w → ∃ e a' w', Q e a' w' ∧ Arrives P (lone (b.at a (.code r0 :: .inScope c :: k)) cs w) b k cs e a' w') ∧
      (∀ a w, J1 n a w → ∃ e a' w', Q e a' w' ∧ Arrives P (lone (b.at a (.code r1 :: .inScope c :: k)) cs w) b k cs e a' w') ∧
      (∀ a w, J2 n a w → ∃ e a' w', Q e a' w' ∧ Arrives P (lone (b.at a (.code r2 :: .inScope c :: k)) cs w) b k cs e a' w') := by
    intro n
    induction n using Nat.strongRecOn with
    | _ n ih =>
      have one : ∀ (r : Code), (∀ a w, r.wp P (jumps3 (fun a w => ∃ m, m < n ∧ J0 m a w) (fun a w => ∃ m, m < n ∧ J1 m a w) (fun a w => ∃ m, m < n ∧ J2 m a w) Q) a w →
          ∃ e a' w', Q e a' w' ∧ Arrives P (lone (b.at a (.code r :: .inScope c :: k)) cs w) b k cs e a' w') := by
        intro r a w h
        obtain ⟨e, a1, w1, hq, harr⟩ := h b (.inScope c :: k) cs
        cases e with
        | normal => exact ⟨.normal, a1, w1, hq, Steps.trans harr (.one step_inScope)⟩
        | exit id => exact ⟨.exit id, a1, w1, hq, fun k' hk => harr k' (by simp [exitTo, hk])⟩
        | goto l =>
          rcases hq with ⟨rfl, m, hm, hJ⟩ | ⟨rfl, m, hm, hJ⟩ | ⟨rfl, m, hm, hJ⟩
          · obtain ⟨e2, a2, w2, hq2, harr2⟩ := (ih m hm).1 a1 w1 hJ
            exact ⟨e2, a2, w2, hq2, .of_steps (harr _ g0) harr2⟩
          · obtain ⟨e2, a2, w2, hq2, harr2⟩ := (ih m hm).2.1 a1 w1 hJ
            exact ⟨e2, a2, w2, hq2, .of_steps (harr _ g1) harr2⟩
          · obtain ⟨e2, a2, w2, hq2, harr2⟩ := (ih m hm).2.2 a1 w1 hJ
            exact ⟨e2, a2, w2, hq2, .of_steps (harr _ g2) harr2⟩
        | ret => exact ⟨_, a1, w1, hq, harr⟩
        | panic ch => exact ⟨_, a1, w1, hq, harr⟩
        | outgrown => exact ⟨_, a1, w1, hq, harr⟩
      exact ⟨fun a w h => one r0 a w (p0 n a w h), fun a w h => one r1 a w (p1 n a w h), fun a w h => one r2 a w (p2 n a w h)⟩
  obtain ⟨e, a1, w1, hq, harr⟩ := first p0 b (.inScope c :: k) cs
  cases e with
  | normal => exact ⟨.normal, a1, w1, hq, .head step_scope (Steps.trans harr (.one step_inScope))⟩
  | exit id => exact ⟨.exit id, a1, w1, hq, fun k' hk => .head step_scope (harr k' (by simp [exitTo, hk]))⟩
  | goto l =>
    rcases hq with ⟨rfl, m, hJ⟩ | ⟨rfl, m, hJ⟩ | ⟨rfl, m, hJ⟩
    · obtain ⟨e2, a2, w2, hq2, harr2⟩ := (key m).1 a1 w1 hJ
      exact ⟨e2, a2, w2, hq2, .of_steps (.head step_scope (harr _ g0)) harr2⟩
    · obtain ⟨e2, a2, w2, hq2, harr2⟩ := (key m).2.1 a1 w1 hJ
      exact ⟨e2, a2, w2, hq2, .of_steps (.head step_scope (harr _ g1)) harr2⟩
    · obtain ⟨e2, a2, w2, hq2, harr2⟩ := (key m).2.2 a1 w1 hJ
      exact ⟨e2, a2, w2, hq2, .of_steps (.head step_scope (harr _ g2)) harr2⟩
  | ret => exact ⟨_, a1, w1, hq, .of_steps (.one step_scope) harr⟩
  | panic ch => exact ⟨_, a1, w1, hq, .of_steps (.one step_scope) harr⟩
  | outgrown => exact ⟨_, a1, w1, hq, .of_steps (.one step_scope) harr⟩
end Go.Proofs.YtpjdkgcdkfmkiaaDoor
