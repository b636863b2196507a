/- A scope in which the run jumps to three labels, forward and back: what holds at each jump bears a number, which every pass from a label lowers. -/
import Derived.ScopeJumps
import Derived.WalkMore
import Derived.WalkKit
import Derived.Test.YtpjdkgcdkfmkiaaDoorChecked
import Derived.Test.YtpjdkgcdkfmkiaaDoorPlain2
import Derived.WalkLawsBesides
import Derived.WalkSpells
namespace Go.Proofs.YtpjdkgcdkfmkiaaDoor
set_option linter.unusedVariables false
open Go

/-- As Q; by a goto to the label 0, 1 or 2: what is asked of that jump. -/
def jumps3 (K0 K1 K2 : Act → World → Prop) (Q : Exit → Act → World → Prop) : Exit → Act → World → Prop
  | .goto l, a, w => (l = 0 ∧ K0 a w) ∨ (l = 1 ∧ K1 a w) ∨ (l = 2 ∧ K2 a w)
  | e, a, w => Q e a w

theorem jumps3_mono {K0 K1 K2 L0 L1 L2 : Act → World → Prop} {Q : Exit → Act → World → Prop} (h0 : ∀ a w, K0 a w → L0 a w) (h1 : ∀ a w, K1 a w → L1 a w) (h2 : ∀ a w, K2 a w → L2 a w) :
    ∀ e a w, jumps3 K0 K1 K2 Q e a w → jumps3 L0 L1 L2 Q e a w := by
  intro e a w h
  cases e with
  | goto l =>
    rcases h with ⟨e, h⟩ | ⟨e, h⟩ | ⟨e, h⟩
    · exact .inl ⟨e, h0 a w h⟩
    · exact .inr (.inl ⟨e, h1 a w h⟩)
    · exact .inr (.inr ⟨e, h2 a w h⟩)
  | normal => exact h
  | exit id => exact h
  | ret => exact h
  | panic ch => exact h
  | outgrown => exact h

theorem wp_scope3 {P : Program} {a : Act} {w : World} {Q : Exit → Act → World → Prop} {c r0 r1 r2 : Code} (J0 J1 J2 : Nat → Act → World → Prop)
    (f0 : findLabel c 0 = some r0) (f1 : findLabel c 1 = some r1) (f2 : findLabel c 2 = some r2)
    (first : (∀ n a w, J0 n a w → r0.wp P (jumps3 (fun a w => ∃ m, m < n ∧ J0 m a w) (fun a w => ∃ m, m < n ∧ J1 m a w) (fun a w => ∃ m, m < n ∧ J2 m a w) Q) a w) → c.wp P (jumps3 (fun a w => ∃ n, J0 n a w) (fun a w => ∃ n, J1 n a w) (fun a w => ∃ n, J2 n a w) Q) a w)
    (p0 : ∀ n a w, J0 n a w → r0.wp P (jumps3 (fun a w => ∃ m, m < n ∧ J0 m a w) (fun a w => ∃ m, m < n ∧ J1 m a w) (fun a w => ∃ m, m < n ∧ J2 m a w) Q) a w)
    (p1 : ∀ n a w, J1 n a w → r1.wp P (jumps3 (fun a w => ∃ m, m < n ∧ J0 m a w) (fun a w => ∃ m, m < n ∧ J1 m a w) (fun a w => ∃ m, m < n ∧ J2 m a w) Q) a w)
    (p2 : ∀ n a w, J2 n a w → r2.wp P (jumps3 (fun a w => ∃ m, m < n ∧ J0 m a w) (fun a w => ∃ m, m < n ∧ J1 m a w) (fun a w => ∃ m, m < n ∧ J2 m a w) Q) a w) :
    (Code.scope c).wp P Q a w := by
  intro b k cs
  have g0 : gotoIn 0 (.inScope c :: k) = some (.code r0 :: .inScope c :: k) := by simp [gotoIn, f0]
  have g1 : gotoIn 1 (.inScope c :: k) = some (.code r1 :: .inScope c :: k) := by simp [gotoIn, f1]
  have g2 : gotoIn 2 (.inScope c :: k) = some (.code r2 :: .inScope c :: k) := by simp [gotoIn, f2]
  have key : ∀ n, (∀ a w, J0 n a w → ∃ e a' w', Q e a' w' ∧ Arrives P (lone (b.at a (.code r0 :: .inScope c :: k)) cs w) b k cs e a' w') ∧
      (∀ a w, J1 n a w → ∃ e a' w', Q e a' w' ∧ Arrives P (lone (b.at a (.code r1 :: .inScope c :: k)) cs w) b k cs e a' w') ∧
      (∀ a w, J2 n a w → ∃ e a' w', Q e a' w' ∧ Arrives P (lone (b.at a (.code r2 :: .inScope c :: k)) cs w) b k cs e a' w') := by
    intro n
    induction n using Nat.strongRecOn with
    | _ n ih =>
      have one : ∀ (r : Code), (∀ a w, r.wp P (jumps3 (fun a w => ∃ m, m < n ∧ J0 m a w) (fun a w => ∃ m, m < n ∧ J1 m a w) (fun a w => ∃ m, m < n ∧ J2 m a w) Q) a w →
          ∃ e a' w', Q e a' w' ∧ Arrives P (lone (b.at a (.code r :: .inScope c :: k)) cs w) b k cs e a' w') := by
        intro r a w h
        obtain ⟨e, a1, w1, hq, harr⟩ := h b (.inScope c :: k) cs
        cases e with
        | normal => exact ⟨.normal, a1, w1, hq, Steps.trans harr (.one step_inScope)⟩
        | exit id => exact ⟨.exit id, a1, w1, hq, fun k' hk => harr k' (by simp [exitTo, hk])⟩
        | goto l =>
          rcases hq with ⟨rfl, m, hm, hJ⟩ | ⟨rfl, m, hm, hJ⟩ | ⟨rfl, m, hm, hJ⟩
          · obtain ⟨e2, a2, w2, hq2, harr2⟩ := (ih m hm).1 a1 w1 hJ
            exact ⟨e2, a2, w2, hq2, .of_steps (harr _ g0) harr2⟩
          · obtain ⟨e2, a2, w2, hq2, harr2⟩ := (ih m hm).2.1 a1 w1 hJ
            exact ⟨e2, a2, w2, hq2, .of_steps (harr _ g1) harr2⟩
          · obtain ⟨e2, a2, w2, hq2, harr2⟩ := (ih m hm).2.2 a1 w1 hJ
            exact ⟨e2, a2, w2, hq2, .of_steps (harr _ g2) harr2⟩
        | ret => exact ⟨_, a1, w1, hq, harr⟩
        | panic ch => exact ⟨_, a1, w1, hq, harr⟩
        | outgrown => exact ⟨_, a1, w1, hq, harr⟩
      exact ⟨fun a w h => one r0 a w (p0 n a w h), fun a w h => one r1 a w (p1 n a w h), fun a w h => one r2 a w (p2 n a w h)⟩
  obtain ⟨e, a1, w1, hq, harr⟩ := first p0 b (.inScope c :: k) cs
  cases e with
  | normal => exact ⟨.normal, a1, w1, hq, .head step_scope (Steps.trans harr (.one step_inScope))⟩
  | exit id => exact ⟨.exit id, a1, w1, hq, fun k' hk => .head step_scope (harr k' (by simp [exitTo, hk]))⟩
  | goto l =>
    rcases hq with ⟨rfl, m, hJ⟩ | ⟨rfl, m, hJ⟩ | ⟨rfl, m, hJ⟩
    · obtain ⟨e2, a2, w2, hq2, harr2⟩ := (key m).1 a1 w1 hJ
      exact ⟨e2, a2, w2, hq2, .of_steps (.head step_scope (harr _ g0)) harr2⟩
    · obtain ⟨e2, a2, w2, hq2, harr2⟩ := (key m).2.1 a1 w1 hJ
      exact ⟨e2, a2, w2, hq2, .of_steps (.head step_scope (harr _ g1)) harr2⟩
    · obtain ⟨e2, a2, w2, hq2, harr2⟩ := (key m).2.2 a1 w1 hJ
      exact ⟨e2, a2, w2, hq2, .of_steps (.head step_scope (harr _ g2)) harr2⟩
  | ret => exact ⟨_, a1, w1, hq, .of_steps (.one step_scope) harr⟩
  | panic ch => exact ⟨_, a1, w1, hq, .of_steps (.one step_scope) harr⟩
  | outgrown => exact ⟨_, a1, w1, hq, .of_steps (.one step_scope) harr⟩
end Go.Proofs.YtpjdkgcdkfmkiaaDoor
/- The contract of readBits: a number's bytes read by gotos. -/
namespace Go.Proofs.YtpjdkgcdkfmkiaaDoor
open Go Go.RowKit
set_option linter.unusedVariables false

/-- What readBits hands back. -/
def readV (p : Nat) (r : Nat × Nat × Int) : Value := if r.2.2 = 0 then .tuple #[.int .u64 (r.1 : Nat), .int .i64 ((p + r.2.1 : Nat) : Int), .nilIface] else .tuple #[.int .u64 0, .int .i64 0, .iface 86 (.agg #[.int .i64 r.2.2])]
theorem readV_code {p : Nat} {r : Nat × Nat × Int} {c : Int} (h : r = (0, 0, c)) (hc : c ≠ 0) : Ending.returned (.tuple #[.int .u64 0, .int .i64 0, .iface 86 (.agg #[.int .i64 c])]) = .returned (readV p r) := by
  subst h; unfold readV; rw [if_neg hc]
theorem readV_ok {p q : Nat} {x : Int} {r : Nat × Nat × Int} {u k : Nat} (h : r = (u, k, 0)) (hx : x = (u : Nat)) (hq : q = p + k) : Ending.returned (.tuple #[.int .u64 x, .int .i64 (q : Nat), .nilIface]) = .returned (readV p r) := by
  subst h; subst hx; subst hq; unfold readV; rw [if_pos rfl]

def rbJ0 (s : ByteArray) (p : Nat) (w : World) (n : Nat) (a : Act) (w' : World) : Prop := w' = w ∧ ∃ (q i h u : Nat) (u9 u10 u11 u12 u13 u14 u15 u16 u17 u18 u19 u20 u21 u22 u23 u24 u25 u26 u27 u28 u29 u30 u31 u32 u33 u34 u35 u36 u37 u38 u39 u40 u41 u42 u43 u44 u45 u46 u47 u48 u49 u50 u51 u52 u53 u54 u55 u56 : Value), a = { tmps := #[.string s, .int .i64 (q : Nat), undef, undef, .int .u64 0, .int .i64 0, .nilIface, .int .u64 (u : Nat), .int .u64 (h : Nat), u9, u10, u11, u12, u13, u14, u15, u16, u17, u18, u19, u20, u21, u22, u23, u24, u25, u26, u27, u28, u29, u30, u31, u32, u33, u34, u35, u36, u37, u38, u39, u40, u41, u42, u43, u44, u45, u46, u47, u48, u49, u50, u51, u52, u53, u54, u55, u56], defers := [] } ∧ n = 12 - i ∧ RdAt s p q i h u
def rbJ1 (s : ByteArray) (p : Nat) (w : World) (n : Nat) (a : Act) (w' : World) : Prop := w' = w ∧ ∃ (q i h u c : Nat) (u10 u11 u12 u13 u14 u15 u16 u17 u18 u19 u20 u21 u22 u23 u24 u25 u26 u27 u28 u29 u30 u31 u32 u33 u34 u35 u36 u37 u38 u39 u40 u41 u42 u43 u44 u45 u46 u47 u48 u49 u50 u51 u52 u53 u54 u55 u56 : Value), a = { tmps := #[.string s, .int .i64 (q : Nat), undef, undef, .int .u64 0, .int .i64 0, .nilIface, .int .u64 (u : Nat), .int .u64 (h : Nat), .int .u8 (c : Nat), u10, u11, u12, u13, u14, u15, u16, u17, u18, u19, u20, u21, u22, u23, u24, u25, u26, u27, u28, u29, u30, u31, u32, u33, u34, u35, u36, u37, u38, u39, u40, u41, u42, u43, u44, u45, u46, u47, u48, u49, u50, u51, u52, u53, u54, u55, u56], defers := [] } ∧ n = 1 ∧ RdLast s p q i h u c
def rbJ2 (s : ByteArray) (p : Nat) (w : World) (n : Nat) (a : Act) (w' : World) : Prop := w' = w ∧ ∃ (u1 u7 u8 u9 u10 u11 u12 u13 u14 u15 u16 u17 u18 u19 u20 u21 u22 u23 u24 u25 u26 u27 u28 u29 u30 u31 u32 u33 u34 u35 u36 u37 u38 u39 u40 u41 u42 u43 u44 u45 u46 u47 u48 u49 u50 u51 u52 u53 u54 u55 u56 : Value), a = { tmps := #[.string s, u1, undef, undef, .int .u64 0, .int .i64 0, .nilIface, u7, u8, u9, u10, u11, u12, u13, u14, u15, u16, u17, u18, u19, u20, u21, u22, u23, u24, u25, u26, u27, u28, u29, u30, u31, u32, u33, u34, u35, u36, u37, u38, u39, u40, u41, u42, u43, u44, u45, u46, u47, u48, u49, u50, u51, u52, u53, u54, u55, u56], defers := [] } ∧ n = 0 ∧ rdOf s p = (0, 0, 3)

set_option maxHeartbeats 4000000 in
set_option maxRecDepth 100000 in
theorem readBits_any (s : ByteArray) (p : Nat) (w : World) (hs : s.size ≤ 8000) :
    Calls Tryd.prog 79 #[.string s, .int .i64 (p : Nat)] w fun e w' => e = .returned (readV p (rdOf s p)) ∧ w' = w := by
  have hz := RdAt_zero s p
  have HR0 : Hid (RdAt s p p 0 0 0) := hz
  clear hz
  go_enter Tryd.func79, Tryd.ntmps79
  go_wp2
  refine wp_scope3 (rbJ0 s p w) (rbJ1 s p w) (rbJ2 s p w) rfl rfl rfl ?_ ?_ ?_ ?_
  · intro hp0
    clear hp0
    by_cases h1 : p < s.size
    · by_cases h2 : s[p].toNat < 128
      · have h2' : decide ((s[p].toNat : Int) < 128) = true := by simp; omega
        go_wp2
        go_step3
        go_wp2
        go_step3
        exact .inr (.inl ⟨rfl, 1, by unfold rbJ1; exact ⟨rfl, p + 1, 0, 0, 0, s[p].toNat, _, _, _, _, _, _, _, _, _, _, _, _, _, _, _, _, _, _, _, _, _, _, _, _, _, _, _, _, _, _, _, _, _, _, _, _, _, _, _, _, _, _, _, _, _, _, _, rfl, rfl, HR0.out.last h1 h2⟩⟩)
      · have h2' : decide ((s[p].toNat : Int) < 128) = false := by simp; omega
        go_wp2
        go_step3
        go_wp2
        go_step3
        exact .inl ⟨rfl, 11, by unfold rbJ0; exact ⟨rfl, p + 1, 1, 7, 0 + s[p].toNat % 128 * 2 ^ 0, _, _, _, _, _, _, _, _, _, _, _, _, _, _, _, _, _, _, _, _, _, _, _, _, _, _, _, _, _, _, _, _, _, _, _, _, _, _, _, _, _, _, _, _, _, _, _, _, by rw [or_first]; rfl, rfl, HR0.out.more h1 h2 (by omega)⟩⟩
    · go_wp2
      go_step3
      go_wp2
      simp only [jumps3]
      go_ret3
      exact ⟨readV_code (HR0.out.short h1) (by omega), rfl⟩
  · rintro n a w' ⟨rfl, q, i, h, u, u9, u10, u11, u12, u13, u14, u15, u16, u17, u18, u19, u20, u21, u22, u23, u24, u25, u26, u27, u28, u29, u30, u31, u32, u33, u34, u35, u36, u37, u38, u39, u40, u41, u42, u43, u44, u45, u46, u47, u48, u49, u50, u51, u52, u53, u54, u55, u56, rfl, rfl, hrd⟩
    have HR : Hid (RdAt s p q i h u) := hrd
    obtain ⟨e1, e2, hi, hq2, hu, e3⟩ := hrd
    have HU : Hid (u < 2 ^ h) := hu
    have h63 : h ≤ 63 := by omega
    have E2 : Hid (h = 7 * i) := e2
    clear e1 e2 e3 hu
    by_cases h1 : q < s.size
    · by_cases h2 : s[q].toNat < 128
      · have h2' : decide ((s[q].toNat : Int) < 128) = true := by simp; omega
        go_wp2
        go_step3
        exact .inr (.inl ⟨rfl, 1, by omega, by unfold rbJ1; exact ⟨rfl, q + 1, i, h, u, s[q].toNat, _, _, _, _, _, _, _, _, _, _, _, _, _, _, _, _, _, _, _, _, _, _, _, _, _, _, _, _, _, _, _, _, _, _, _, _, _, _, _, _, _, _, _, _, _, _, _, rfl, rfl, HR.out.last h1 h2⟩⟩)
      · have h2' : decide ((s[q].toNat : Int) < 128) = false := by simp; omega
        by_cases h3 : i = 9
        · have h3' : ((h : Int) == 63) = true := by have := E2.out; simp; omega
          have E3 : Hid (i = 9) := h3
          clear h3
          go_wp2
          go_step3
          exact .inr (.inr ⟨rfl, 0, by omega, by unfold rbJ2; exact ⟨rfl, _, _, _, _, _, _, _, _, _, _, _, _, _, _, _, _, _, _, _, _, _, _, _, _, _, _, _, _, _, _, _, _, _, _, _, _, _, _, _, _, _, _, _, _, _, _, _, _, _, _, _, rfl, rfl, HR.out.wrong h1 h2 E3.out⟩⟩)
        · have h3' : ((h : Int) == 63) = false := by have := E2.out; simp; omega
          have h56 : h ≤ 56 := by have := E2.out; omega
          go_wp2
          go_step3
          exact .inl ⟨rfl, 12 - (i + 1), by omega, by unfold rbJ0; exact ⟨rfl, q + 1, i + 1, h + 7, u + s[q].toNat % 128 * 2 ^ h, _, _, _, _, _, _, _, _, _, _, _, _, _, _, _, _, _, _, _, _, _, _, _, _, _, _, _, _, _, _, _, _, _, _, _, _, _, _, _, _, _, _, _, _, _, _, _, _, by rw [or_shift HU.out h56]; rfl, rfl, HR.out.more h1 h2 h3⟩⟩
    · go_wp2
      simp only [jumps3]
      go_ret3
      exact ⟨readV_code (HR.out.short h1) (by omega), rfl⟩
  · rintro n a w' ⟨rfl, q, i, h, u, c, u10, u11, u12, u13, u14, u15, u16, u17, u18, u19, u20, u21, u22, u23, u24, u25, u26, u27, u28, u29, u30, u31, u32, u33, u34, u35, u36, u37, u38, u39, u40, u41, u42, u43, u44, u45, u46, u47, u48, u49, u50, u51, u52, u53, u54, u55, u56, rfl, rfl, e1, e2, hi, hq2, hu, hc, hrd⟩
    have HR : Hid (rdOf s p = (if (i = 9 ∧ 1 < c) ∨ (0 < i ∧ c = 0) then (0, 0, 3) else (u + c * 2 ^ h, i + 1, 0))) := hrd
    have HU : Hid (u < 2 ^ h) := hu
    have h63 : h ≤ 63 := by omega
    have E1 : Hid (q = p + i + 1) := e1
    have E2 : Hid (h = 7 * i) := e2
    clear e1 e2 hu hrd
    by_cases h1 : i = 9
    · have h1' : ((h : Int) == 63) = true := by have := E2.out; simp; omega
      have h0 : 0 < h := by have := E2.out; omega
      have E3 : Hid (i = 9) := h1
      clear h1
      by_cases h2 : 1 < c
      · have h2' : decide (1 < (c : Int)) = true := by simp; omega
        go_wp2
        go_step3
        exact .inr (.inr ⟨rfl, 0, by omega, by unfold rbJ2; exact ⟨rfl, _, _, _, _, _, _, _, _, _, _, _, _, _, _, _, _, _, _, _, _, _, _, _, _, _, _, _, _, _, _, _, _, _, _, _, _, _, _, _, _, _, _, _, _, _, _, _, _, _, _, _, rfl, rfl, by rw [HR.out, if_pos (.inl ⟨E3.out, h2⟩)]⟩⟩)
      · have h2' : decide (1 < (c : Int)) = false := by simp; omega
        by_cases h3 : c = 0
        · have h3' : ((c : Int) == 0) = true := by simp; omega
          have E4 : Hid (c = 0) := h3
          clear h3
          go_wp2
          go_step3
          exact .inr (.inr ⟨rfl, 0, by omega, by unfold rbJ2; exact ⟨rfl, _, _, _, _, _, _, _, _, _, _, _, _, _, _, _, _, _, _, _, _, _, _, _, _, _, _, _, _, _, _, _, _, _, _, _, _, _, _, _, _, _, _, _, _, _, _, _, _, _, _, _, rfl, rfl, by rw [HR.out, if_pos (.inr ⟨by have := E3.out; omega, E4.out⟩)]⟩⟩)
        · have h3' : ((c : Int) == 0) = false := by simp; omega
          go_wp2
          simp only [jumps3]
          go_ret3
          exact ⟨readV_ok (by rw [HR.out, if_neg (by omega)]) (or_last HU.out h63 (by have := E2.out; have := E3.out; omega)) (by have := E1.out; omega), rfl⟩
    · have h1' : ((h : Int) == 63) = false := by have := E2.out; simp; omega
      by_cases h3 : c = 0
      · have h3' : ((c : Int) == 0) = true := by simp; omega
        have E4 : Hid (c = 0) := h3
        clear h3
        by_cases h4 : 0 < i
        · have h4' : 0 < h := by have := E2.out; omega
          go_wp2
          go_step3
          exact .inr (.inr ⟨rfl, 0, by omega, by unfold rbJ2; exact ⟨rfl, _, _, _, _, _, _, _, _, _, _, _, _, _, _, _, _, _, _, _, _, _, _, _, _, _, _, _, _, _, _, _, _, _, _, _, _, _, _, _, _, _, _, _, _, _, _, _, _, _, _, _, rfl, rfl, by rw [HR.out, if_pos (.inr ⟨h4, E4.out⟩)]⟩⟩)
        · have h4' : ¬ 0 < h := by have := E2.out; omega
          go_wp2
          simp only [jumps3]
          go_ret3
          exact ⟨readV_ok (by rw [HR.out, if_neg (by omega)]) (or_last HU.out h63 (by have := E2.out; omega)) (by have := E1.out; omega), rfl⟩
      · have h3' : ((c : Int) == 0) = false := by simp; omega
        by_cases h4 : 0 < i
        · have h4' : 0 < h := by have := E2.out; omega
          go_wp2
          simp only [jumps3]
          go_ret3
          exact ⟨readV_ok (by rw [HR.out, if_neg (by omega)]) (or_last HU.out h63 (by have := E2.out; omega)) (by have := E1.out; omega), rfl⟩
        · have h4' : ¬ 0 < h := by have := E2.out; omega
          go_wp2
          simp only [jumps3]
          go_ret3
          exact ⟨readV_ok (by rw [HR.out, if_neg (by omega)]) (or_last HU.out h63 (by have := E2.out; omega)) (by have := E1.out; omega), rfl⟩
  · rintro n a w' ⟨rfl, u1, u7, u8, u9, u10, u11, u12, u13, u14, u15, u16, u17, u18, u19, u20, u21, u22, u23, u24, u25, u26, u27, u28, u29, u30, u31, u32, u33, u34, u35, u36, u37, u38, u39, u40, u41, u42, u43, u44, u45, u46, u47, u48, u49, u50, u51, u52, u53, u54, u55, u56, rfl, rfl, hrd⟩
    have HR : Hid (rdOf s p = (0, 0, 3)) := hrd
    clear hrd
    go_wp2
    simp only [jumps3]
    go_ret3
    exact ⟨readV_code HR.out (by omega), rfl⟩
end Go.Proofs.YtpjdkgcdkfmkiaaDoor
