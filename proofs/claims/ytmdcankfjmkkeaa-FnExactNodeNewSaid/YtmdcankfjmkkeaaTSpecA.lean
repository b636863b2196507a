/- The contracts of the specification's tests of nodes and of a turn. -/
import Derived.Test.YtmdcankfjmkkeaaG23
import Derived.Test.YtmdcankfjmkkeaaG13
import Derived.Test.YtmdcankfjmkkeaaG6
import Derived.Test.YtmdcankfjmkkeaaG5
import Derived.Test.YtmdcankfjmkkeaaG1
namespace Go.Proofs.Ytmdcankfjmkkeaa
open Go Go.RowKit
set_option linter.unusedVariables false
set_option linter.unusedSimpArgs false

theorem nodeT_any (n : Int) (w : World) : Calls Try.prog 22 #[.int .i64 n] w fun e w' => e = .returned (.bool (decide (1 ≤ n) && decide (n ≤ 6))) ∧ w' = w := by
  go_enter Try.func22, Try.ntmps22
  go_wp2_with fail
  refine (l02Is_any n 1 6 _).mono ?_
  rintro e z ⟨rfl, rfl⟩
  go_wp2
  go_ret
  exact ⟨rfl, rfl⟩
theorem NumRow.takeN {w : World} {b off : Nat} {l : List Int} (h : NumRow w (some ⟨b, off, none⟩) l) (k : Nat) : NumRow w (some ⟨b, off, none⟩) (l.take k) := by
  rcases h with h | ⟨b', off', e, hlt, hc⟩
  · exact .inl (by rw [h]; simp)
  · simp only [Option.some.injEq, Addr.mk.injEq, and_true] at e
    obtain ⟨rfl, rfl⟩ := e
    exact .inr ⟨_, _, rfl, hlt, fun i hi => by rw [hc i (by rw [List.length_take] at hi; omega)]; simp⟩
theorem NumRow.addrN {w : World} {a : Option Addr} {l : List Int} (h : NumRow w a l) (hp : 0 < l.length) : ∃ b off, a = some ⟨b, off, none⟩ ∧ b < w.heap.size ∧ ∀ i (h : i < l.length), w.cell? ⟨b, off + i, none⟩ = some (.int .i64 l[i]) := by
  rcases h with h | ⟨b, off, e, h1, h2⟩
  · rw [h] at hp; simp at hp
  · exact ⟨b, off, e, h1, h2⟩
set_option maxHeartbeats 2000000 in
set_option maxRecDepth 100000 in
theorem specNodes_is (a : Option Addr) (cap : Nat) (l : List Int) (w : World) (r : Bool) (hr : r = true ↔ nodesT l) (hl : l.length ≤ 1048576) (hcap : l.length ≤ cap) (hrow : NumRow w a l) :
    Calls Try.prog 61 #[.slice a l.length cap] w fun e w' => e = .returned (.bool r) ∧ Below w.heap.size w w' := by
  have HR : Hid (r = true ↔ nodesT l) := hr
  clear hr
  have no : ¬ nodesT l → r = false := fun h => by
    cases r with
    | false => rfl
    | true => exact absurd (HR.out.1 rfl) h
  have HNO : Hid (¬ nodesT l → r = false) := no
  clear no
  by_cases hx : 6 < (l.length : Int)
  · have hf : r = false := HNO.out (fun h => by have := nodesT_len h; omega)
    subst hf
    go_enter Try.func61, Try.ntmps61
    go_wp2
    go_ret
    exact ⟨rfl, Below.refl _ _⟩
  go_enter Try.func61, Try.ntmps61
  go_wp2
  go_loopw [3] (fun i wr => ∃ k : Nat, k ≤ l.length ∧ i = .int .i64 k ∧ nodesT (l.take k) ∧ Below w.heap.size w wr) (fun i _ => l.length - (intOf i).toNat)
  case atStart => exact ⟨0, Nat.zero_le _, rfl, by rw [List.take_zero]; exact nodesT_nil, Below.refl _ _⟩
  case round =>
    obtain ⟨k, hk, rfl, hok, hb⟩ := hrel
    have HK : Hid (nodesT (l.take k)) := hok
    clear hok
    by_cases hk2 : k < l.length
    · have row1 := hrow.keep hb
      obtain ⟨b, off, rfl, hbl, hcell⟩ := row1.addrN (by omega)
      have ck := hcell k hk2
      have HST : Hid (nodesT (l.take (k + 1)) ↔ nodesT (l.take k) ∧ (1 ≤ l[k] ∧ l[k] ≤ 6) ∧ l[k] ∉ l.take k) := nodesT_step hk2
      have rowk := row1.takeN k
      have hlk : (l.take k).length = k := by rw [List.length_take]; omega
      obtain ⟨x, hlx⟩ : ∃ x, l[k] = x := ⟨_, rfl⟩
      rw [hlx] at ck HST
      have hkI : (k : Int) < (l.length : Int) := by omega
      have hkc : (k : Int) ≤ (cap : Int) := by omega
      have hk0 : ¬ (k : Int) < 0 := by omega
      have HLK : Hid ((l.take k).length = k) := hlk
      have hcellS : ∀ w', Below wr.heap.size wr w' → w'.cell? ⟨b, off + k, none⟩ = some (.int .i64 x) := fun w' h => (h.cell (p := ⟨b, off + k, none⟩) hbl).trans ck
      clear hlx hlk hcell
      obtain ⟨q1, hq1⟩ : ∃ q, (decide (1 ≤ x) && decide (x ≤ 6)) = q := ⟨_, rfl⟩
      have hc1 : Calls Try.prog 22 #[.int .i64 x] wr.drew fun e w' => e = .returned (.bool q1) ∧ w' = wr.drew := by rw [← hq1]; exact nodeT_any x _
      have HQ1 : Hid ((decide (1 ≤ x) && decide (x ≤ 6)) = q1) := hq1
      clear hq1
      go_upto_region 6 with fail
      cases q1 with
      | false =>
        have hf : r = false := HNO.out (fun h => by
          have h1 := (HST.out.1 (nodesT_sub h (List.take_sublist _ _))).2.1
          have := HQ1.out
          simp [h1.1, h1.2] at this)
        subst hf
        clear HST HK HQ1 HR HNO
        refine wp_region_held_drew (S := (fun w' => Below wr.heap.size wr w')) (by kernel_rfl) ?hS0 (fun hHeld => ?_)
        case hS0 => exact (Below.refl _ _).drew
        refine takeG 0 (v := .slice (some ⟨b, off, none⟩) l.length cap) rfl (by kernel_rfl) (by kernel_rfl) (by kernel_rfl) (by kernel_rfl) (fun _ _ _ h => h) ?hy (by assumption) ?_
        case hy => (intro w' hSw; go_simp)
        try simp only [List.setIfInBounds_toArray, List.set_cons_zero, List.set_cons_succ]
        refine takeG 1 (v := .int .i64 (k : Int)) rfl (by kernel_rfl) (by kernel_rfl) (by kernel_rfl) (by kernel_rfl) (fun _ _ _ h => h) ?hy (by assumption) ?_
        case hy => (intro w' hSw; go_simp)
        try simp only [List.setIfInBounds_toArray, List.set_cons_zero, List.set_cons_succ]
        refine takeG 2 (v := .pointer (some ⟨b, off + k, none⟩)) rfl (by kernel_rfl) (by kernel_rfl) (by kernel_rfl) (by kernel_rfl) (fun _ _ _ h => h) ?hy (by assumption) ?_
        case hy => (intro w' hSw; go_simp)
        try simp only [List.setIfInBounds_toArray, List.set_cons_zero, List.set_cons_succ]
        refine takeG 3 (v := .int .i64 x) rfl (by kernel_rfl) (by kernel_rfl) (by kernel_rfl) (by kernel_rfl) (fun _ _ _ h => h) ?hy (by assumption) ?_
        case hy => (intro w' hSw; have s0 := hcellS w' hSw; (try dsimp only at s0); go_simp)
        try simp only [List.setIfInBounds_toArray, List.set_cons_zero, List.set_cons_succ]
        refine runG 4 (by kernel_rfl) rfl (by kernel_rfl) ?_
        go_simp
        refine hc1.mono ?_
        rintro e z ⟨rfl, rfl⟩
        refine ⟨hHeld, ?_⟩
        try simp only [Act.put, List.setIfInBounds_toArray, List.set_cons_zero, List.set_cons_succ]
        refine takeG 5 (v := .bool true) rfl (by kernel_rfl) (by kernel_rfl) (by kernel_rfl) (by kernel_rfl) (fun _ _ _ h => h) ?hy (by assumption) ?_
        case hy => (intro w' hSw; go_simp)
        try simp only [List.setIfInBounds_toArray, List.set_cons_zero, List.set_cons_succ]
        refine takeG 6 (v := .bool true) rfl (by kernel_rfl) (by kernel_rfl) (by kernel_rfl) (by kernel_rfl) (fun _ _ _ h => h) ?hy (by assumption) ?_
        case hy => (intro w' hSw; go_simp)
        try simp only [List.setIfInBounds_toArray, List.set_cons_zero, List.set_cons_succ]
        refine skipG 7 rfl (by kernel_rfl) (by kernel_rfl) (by kernel_rfl) (by kernel_rfl) (fun _ _ _ h => h) (by assumption) ?_
        try simp only [List.setIfInBounds_toArray, List.set_cons_zero, List.set_cons_succ]
        refine skipG 8 rfl (by kernel_rfl) (by kernel_rfl) (by kernel_rfl) (by kernel_rfl) (fun _ _ _ h => h) (by assumption) ?_
        try simp only [List.setIfInBounds_toArray, List.set_cons_zero, List.set_cons_succ]
        refine skipG 9 rfl (by kernel_rfl) (by kernel_rfl) (by kernel_rfl) (by kernel_rfl) (fun _ _ _ h => h) (by assumption) ?_
        try simp only [List.setIfInBounds_toArray, List.set_cons_zero, List.set_cons_succ]
        refine skipG 10 rfl (by kernel_rfl) (by kernel_rfl) (by kernel_rfl) (by kernel_rfl) (fun _ _ _ h => h) (by assumption) ?_
        try simp only [List.setIfInBounds_toArray, List.set_cons_zero, List.set_cons_succ]
        refine skipG 11 rfl (by kernel_rfl) (by kernel_rfl) (by kernel_rfl) (by kernel_rfl) (fun _ _ _ h => h) (by assumption) ?_
        try simp only [List.setIfInBounds_toArray, List.set_cons_zero, List.set_cons_succ]
        refine skipG 12 rfl (by kernel_rfl) (by kernel_rfl) (by kernel_rfl) (by kernel_rfl) (fun _ _ _ h => h) (by assumption) ?_
        try simp only [List.setIfInBounds_toArray, List.set_cons_zero, List.set_cons_succ]
        refine skipG 13 rfl (by kernel_rfl) (by kernel_rfl) (by kernel_rfl) (by kernel_rfl) (fun _ _ _ h => h) (by assumption) ?_
        try simp only [List.setIfInBounds_toArray, List.set_cons_zero, List.set_cons_succ]
        refine skipG 14 rfl (by kernel_rfl) (by kernel_rfl) (by kernel_rfl) (by kernel_rfl) (fun _ _ _ h => h) (by assumption) ?_
        try simp only [List.setIfInBounds_toArray, List.set_cons_zero, List.set_cons_succ]
        refine takeG 15 (v := .bool true) rfl (by kernel_rfl) (by kernel_rfl) (by kernel_rfl) (by kernel_rfl) (fun _ _ _ h => h) ?hy (by assumption) ?_
        case hy => (intro w' hSw; go_simp)
        try simp only [List.setIfInBounds_toArray, List.set_cons_zero, List.set_cons_succ]
        refine wpAnyH_done (by kernel_rfl) ?_ _
        go_wp2
        go_ret
        exact ⟨rfl, hb.drew⟩
      | true =>
        have hx16 : 1 ≤ x ∧ x ≤ 6 := by have := HQ1.out; simpa using this
        have hc2 : Calls Try.prog 92 #[.slice (some ⟨b, off, none⟩) k cap, .int .i64 x] wr.drew fun e w' => e = .returned (.bool (decide (x ∈ l.take k))) ∧ w' = wr.drew := by
          have := l02Has_any (some ⟨b, off, none⟩) cap (l.take k) x wr.drew (by rw [HLK.out]; omega) (rowk.keep (Below.refl _ _).drew)
          rw [HLK.out] at this
          exact this
        have HX : Hid (1 ≤ x ∧ x ≤ 6) := hx16
        obtain ⟨q2, hq2⟩ : ∃ q, decide (x ∈ l.take k) = q := ⟨_, rfl⟩
        rw [hq2] at hc2
        have HQ2 : Hid (decide (x ∈ l.take k) = q2) := hq2
        clear hx16 HQ1 hq2 HLK rowk
        refine wp_region_held_drew (S := (fun w' => Below wr.heap.size wr w')) (by kernel_rfl) ?hS0 (fun hHeld => ?_)
        case hS0 => exact (Below.refl _ _).drew
        refine takeG 0 (v := .slice (some ⟨b, off, none⟩) l.length cap) rfl (by kernel_rfl) (by kernel_rfl) (by kernel_rfl) (by kernel_rfl) (fun _ _ _ h => h) ?hy (by assumption) ?_
        case hy => (intro w' hSw; go_simp)
        try simp only [List.setIfInBounds_toArray, List.set_cons_zero, List.set_cons_succ]
        refine takeG 1 (v := .int .i64 (k : Int)) rfl (by kernel_rfl) (by kernel_rfl) (by kernel_rfl) (by kernel_rfl) (fun _ _ _ h => h) ?hy (by assumption) ?_
        case hy => (intro w' hSw; go_simp)
        try simp only [List.setIfInBounds_toArray, List.set_cons_zero, List.set_cons_succ]
        refine takeG 2 (v := .pointer (some ⟨b, off + k, none⟩)) rfl (by kernel_rfl) (by kernel_rfl) (by kernel_rfl) (by kernel_rfl) (fun _ _ _ h => h) ?hy (by assumption) ?_
        case hy => (intro w' hSw; go_simp)
        try simp only [List.setIfInBounds_toArray, List.set_cons_zero, List.set_cons_succ]
        refine takeG 3 (v := .int .i64 x) rfl (by kernel_rfl) (by kernel_rfl) (by kernel_rfl) (by kernel_rfl) (fun _ _ _ h => h) ?hy (by assumption) ?_
        case hy => (intro w' hSw; have s0 := hcellS w' hSw; (try dsimp only at s0); go_simp)
        try simp only [List.setIfInBounds_toArray, List.set_cons_zero, List.set_cons_succ]
        refine runG 4 (by kernel_rfl) rfl (by kernel_rfl) ?_
        go_simp
        refine hc1.mono ?_
        rintro e z ⟨rfl, rfl⟩
        refine ⟨hHeld, ?_⟩
        try simp only [Act.put, List.setIfInBounds_toArray, List.set_cons_zero, List.set_cons_succ]
        refine takeG 5 (v := .bool false) rfl (by kernel_rfl) (by kernel_rfl) (by kernel_rfl) (by kernel_rfl) (fun _ _ _ h => h) ?hy (by assumption) ?_
        case hy => (intro w' hSw; go_simp)
        try simp only [List.setIfInBounds_toArray, List.set_cons_zero, List.set_cons_succ]
        refine takeG 6 (v := .bool false) rfl (by kernel_rfl) (by kernel_rfl) (by kernel_rfl) (by kernel_rfl) (fun _ _ _ h => h) ?hy (by assumption) ?_
        case hy => (intro w' hSw; go_simp)
        try simp only [List.setIfInBounds_toArray, List.set_cons_zero, List.set_cons_succ]
        refine takeG 7 (v := .slice (some ⟨b, off, none⟩) l.length cap) rfl (by kernel_rfl) (by kernel_rfl) (by kernel_rfl) (by kernel_rfl) (fun _ _ _ h => h) ?hy (by assumption) ?_
        case hy => (intro w' hSw; go_simp)
        try simp only [List.setIfInBounds_toArray, List.set_cons_zero, List.set_cons_succ]
        refine takeG 8 (v := .int .i64 (k : Int)) rfl (by kernel_rfl) (by kernel_rfl) (by kernel_rfl) (by kernel_rfl) (fun _ _ _ h => h) ?hy (by assumption) ?_
        case hy => (intro w' hSw; go_simp)
        try simp only [List.setIfInBounds_toArray, List.set_cons_zero, List.set_cons_succ]
        refine takeG 9 (v := .slice (some ⟨b, off, none⟩) k cap) rfl (by kernel_rfl) (by kernel_rfl) (by kernel_rfl) (by kernel_rfl) (fun _ _ _ h => h) ?hy (by assumption) ?_
        case hy => (intro w' hSw; go_simp)
        try simp only [List.setIfInBounds_toArray, List.set_cons_zero, List.set_cons_succ]
        refine takeG 10 (v := .slice (some ⟨b, off, none⟩) l.length cap) rfl (by kernel_rfl) (by kernel_rfl) (by kernel_rfl) (by kernel_rfl) (fun _ _ _ h => h) ?hy (by assumption) ?_
        case hy => (intro w' hSw; go_simp)
        try simp only [List.setIfInBounds_toArray, List.set_cons_zero, List.set_cons_succ]
        refine takeG 11 (v := .int .i64 (k : Int)) rfl (by kernel_rfl) (by kernel_rfl) (by kernel_rfl) (by kernel_rfl) (fun _ _ _ h => h) ?hy (by assumption) ?_
        case hy => (intro w' hSw; go_simp)
        try simp only [List.setIfInBounds_toArray, List.set_cons_zero, List.set_cons_succ]
        refine takeG 12 (v := .pointer (some ⟨b, off + k, none⟩)) rfl (by kernel_rfl) (by kernel_rfl) (by kernel_rfl) (by kernel_rfl) (fun _ _ _ h => h) ?hy (by assumption) ?_
        case hy => (intro w' hSw; go_simp)
        try simp only [List.setIfInBounds_toArray, List.set_cons_zero, List.set_cons_succ]
        refine takeG 13 (v := .int .i64 x) rfl (by kernel_rfl) (by kernel_rfl) (by kernel_rfl) (by kernel_rfl) (fun _ _ _ h => h) ?hy (by assumption) ?_
        case hy => (intro w' hSw; have s0 := hcellS w' hSw; (try dsimp only at s0); go_simp)
        try simp only [List.setIfInBounds_toArray, List.set_cons_zero, List.set_cons_succ]
        refine runG 14 (by kernel_rfl) rfl (by kernel_rfl) ?_
        go_simp
        refine hc2.mono ?_
        rintro e z ⟨rfl, rfl⟩
        refine ⟨hHeld, ?_⟩
        try simp only [Act.put, List.setIfInBounds_toArray, List.set_cons_zero, List.set_cons_succ]
        refine takeG 15 (v := .bool q2) rfl (by kernel_rfl) (by kernel_rfl) (by kernel_rfl) (by kernel_rfl) (fun _ _ _ h => h) ?hy (by assumption) ?_
        case hy => (intro w' hSw; go_simp)
        try simp only [List.setIfInBounds_toArray, List.set_cons_zero, List.set_cons_succ]
        refine wpAnyH_done (by kernel_rfl) ?_ _
        cases q2 with
        | true =>
          have hf : r = false := HNO.out (fun h => by
            have h1 := (HST.out.1 (nodesT_sub h (List.take_sublist _ _))).2.2
            exact h1 (of_decide_eq_true HQ2.out))
          subst hf
          go_wp2
          go_ret
          exact ⟨rfl, hb.drew⟩
        | false =>
          have HN : Hid (nodesT (l.take (k + 1))) := HST.out.2 ⟨HK.out, HX.out, of_decide_eq_false HQ2.out⟩
          have hbd := hb.drew
          clear HST HK HQ2 HX
          go_wp2
          go_roundw
          case rel => exact ⟨k + 1, by omega, by go_num, HN.out, hbd⟩
          case measure => simp [intOf]; omega
    · obtain rfl : k = l.length := by omega
      have ht : r = true := HR.out.2 (by have := HK.out; rwa [List.take_length] at this)
      subst ht
      clear HK
      go_wp2
      go_ret
      exact ⟨rfl, hb⟩
/-- A turn, as a value. -/
def turnV (v : Value) (at0 : Int) : Value := .agg #[v, .int .i64 at0]
set_option maxHeartbeats 1000000 in
set_option maxRecDepth 100000 in
theorem specTRight_is (a : Option Addr) (cap : Nat) (t : TurnV) (w : World) (r : Bool) (hr : r = true ↔ t.ok) (hl : t.list.length ≤ 1048576) (hcap : t.list.length ≤ cap) (hrow : NumRow w a t.list) :
    Calls Try.prog 27 #[turnV (.slice a t.list.length cap) t.at0] w fun e w' => e = .returned (.bool r) ∧ Below w.heap.size w w' := by
  obtain ⟨l, at0⟩ := t
  dsimp only at hl hcap hrow ⊢
  obtain ⟨q, hq⟩ := tells_bool (nodesT l)
  have HQ : Hid (q = true ↔ nodesT l) := hq
  have HR : Hid (r = true ↔ nodesT l ∧ 0 ≤ at0 ∧ at0 ≤ l.length) := hr
  clear hr hq
  unfold turnV
  have P0 := BlkIs.new w 36 #[.slice a l.length cap, .int .i64 at0]
  have B0 := (Below.refl w.heap.size w).alloc (Nat.le_refl _) (.cells #[.slice a l.length cap, .int .i64 at0] 36)
  have r0 := hrow.keep B0
  obtain ⟨W, hW⟩ : ∃ W, w.alloc (.cells #[.slice a l.length cap, .int .i64 at0] 36) = W := ⟨_, rfl⟩
  rw [hW] at P0 B0 r0
  have HW : Hid (_ = W) := hW
  clear hW
  go_enter Try.func27, Try.ntmps27
  go_wp2_with fail
  rw [HW.out]
  refine (specNodes_is a cap l _ q HQ.out hl hcap r0).mono ?_
  rintro e z ⟨rfl, bz⟩
  have c0 : z.cell? ⟨w.heap.size, 0, none⟩ = some (.slice a l.length cap) := (P0.keep bz).cell 0
  have c1 : z.cell? ⟨w.heap.size, 1, none⟩ = some (.int .i64 at0) := (P0.keep bz).cell 1
  have B1 := B0.trans (bz.mono B0.size)
  clear P0 bz B0 HW r0
  cases q with
  | false =>
    have hf : r = false := by
      cases r with
      | false => rfl
      | true => have := HQ.out.2 (HR.out.1 rfl).1; cases this
    subst hf
    go_wp2
    go_ret
    exact ⟨rfl, B1⟩
  | true =>
    have hn : nodesT l := HQ.out.1 rfl
    have HE : Hid ((decide (0 ≤ at0) && decide (at0 ≤ (l.length : Int))) = r) := by
      show _ = _
      cases r with
      | false =>
        have : ¬ (0 ≤ at0 ∧ at0 ≤ (l.length : Int)) := fun h => by have := HR.out.2 ⟨hn, h⟩; cases this
        simp only [Bool.and_eq_false_iff, decide_eq_false_iff_not]
        omega
      | true => have := (HR.out.1 rfl).2; simp [this.1, this.2]
    have hl64 : IntKind.i64.wrap (l.length : Int) = (l.length : Int) := by rw [IntKind.wrap_i64]; omega
    clear HQ HR hn
    go_wp2_with fail
    refine (l02Is_any at0 0 (l.length : Int) _).mono ?_
    rintro e z2 ⟨rfl, rfl⟩
    rw [HE.out]
    go_wp2
    go_ret
    exact ⟨rfl, B1⟩
end Go.Proofs.Ytmdcankfjmkkeaa
