/- The contracts of the specification's tests of nodes and of a turn. -/
import Derived.Test.YtmdcankfjmkkeaaGreatG19
import Derived.Test.YtmdcankfjmkkeaaGreatG10
import Derived.Test.YtmdcankfjmkkeaaGreatG4
import Derived.Test.YtmdcankfjmkkeaaGreatG1
import Derived.OneCell
namespace Go.Proofs.YtmdcankfjmkkeaaGreat
open Go Go.RowKit
set_option linter.unusedVariables false
set_option linter.unusedSimpArgs false

theorem nodeT_any (n : Int) (w : World) : Calls Tryz.prog 73 #[.int .i64 n] w fun e w' => e = .returned (.bool (decide (1 ≤ n) && decide (n ≤ 6))) ∧ w' = w := by
  go_enter Tryz.func73, Tryz.ntmps73
  go_wp2_with fail
  refine (l02Is_any n 1 6 _).mono ?_
  rintro e z ⟨rfl, rfl⟩
  go_wp2
  go_ret
  exact ⟨rfl, rfl⟩
theorem NumRow.takeN {w : World} {b off : Nat} {l : List Int} (h : NumRow w (some ⟨b, off, none⟩) l) (k : Nat) : NumRow w (some ⟨b, off, none⟩) (l.take k) := by
  rcases h with h | ⟨b', off', e, hlt, hc⟩
  · exact .inl (by rw [h]; simp)
  · simp only [Option.some.injEq, Addr.mk.injEq, and_true] at e
    obtain ⟨rfl, rfl⟩ := e
    exact .inr ⟨_, _, rfl, hlt, fun i hi => by rw [hc i (by rw [List.length_take] at hi; omega)]; simp⟩
theorem NumRow.addrN {w : World} {a : Option Addr} {l : List Int} (h : NumRow w a l) (hp : 0 < l.length) : ∃ b off, a = some ⟨b, off, none⟩ ∧ b < w.heap.size ∧ ∀ i (h : i < l.length), w.cell? ⟨b, off + i, none⟩ = some (.int .i64 l[i]) := by
  rcases h with h | ⟨b, off, e, h1, h2⟩
  · rw [h] at hp; simp at hp
  · exact ⟨b, off, e, h1, h2⟩
set_option maxHeartbeats 2000000 in
set_option maxRecDepth 100000 in
theorem specNodes_is (a : Option Addr) (cap : Nat) (l : List Int) (w : World) (r : Bool) (hr : r = true ↔ nodesT l) (hl : l.length ≤ 1048576) (hcap : l.length ≤ cap) (hrow : NumRow w a l) :
    Calls Tryz.prog 159 #[.slice a l.length cap] w fun e w' => e = .returned (.bool r) ∧ Below w.heap.size w w' := by
  have HR : Hid (r = true ↔ nodesT l) := hr
  clear hr
  have no : ¬ nodesT l → r = false := fun h => by
    cases r with
    | false => rfl
    | true => exact absurd (HR.out.1 rfl) h
  have HNO : Hid (¬ nodesT l → r = false) := no
  clear no
  by_cases hx : 6 < (l.length : Int)
  · have hf : r = false := HNO.out (fun h => by have := nodesT_len h; omega)
    subst hf
    go_enter Tryz.func159, Tryz.ntmps159
    go_wp2
    go_ret
    exact ⟨rfl, Below.refl _ _⟩
  go_enter Tryz.func159, Tryz.ntmps159
  go_wp2
  go_loopw [3] (fun i wr => ∃ k : Nat, k ≤ l.length ∧ i = .int .i64 k ∧ nodesT (l.take k) ∧ Below w.heap.size w wr) (fun i _ => l.length - (intOf i).toNat)
  case atStart => exact ⟨0, Nat.zero_le _, rfl, by rw [List.take_zero]; exact nodesT_nil, Below.refl _ _⟩
  case round =>
    obtain ⟨k, hk, rfl, hok, hb⟩ := hrel
    have HK : Hid (nodesT (l.take k)) := hok
    clear hok
    by_cases hk2 : k < l.length
    · have row1 := hrow.keep hb
      obtain ⟨b, off, rfl, hbl, hcell⟩ := row1.addrN (by omega)
      have ck := hcell k hk2
      have HST : Hid (nodesT (l.take (k + 1)) ↔ nodesT (l.take k) ∧ (1 ≤ l[k] ∧ l[k] ≤ 6) ∧ l[k] ∉ l.take k) := nodesT_step hk2
      have rowk := row1.takeN k
      have hlk : (l.take k).length = k := by rw [List.length_take]; omega
      obtain ⟨x, hlx⟩ : ∃ x, l[k] = x := ⟨_, rfl⟩
      rw [hlx] at ck HST
      have hkI : (k : Int) < (l.length : Int) := by omega
      have hkc : (k : Int) ≤ (cap : Int) := by omega
      have hk0 : ¬ (k : Int) < 0 := by omega
      have HLK : Hid ((l.take k).length = k) := hlk
      have hcellS : ∀ w', Below wr.heap.size wr w' → w'.cell? ⟨b, off + k, none⟩ = some (.int .i64 x) := fun w' h => (h.cell (p := ⟨b, off + k, none⟩) hbl).trans ck
      clear hlx hlk hcell
      obtain ⟨q1, hq1⟩ : ∃ q, (decide (1 ≤ x) && decide (x ≤ 6)) = q := ⟨_, rfl⟩
      have hc1 : Calls Tryz.prog 73 #[.int .i64 x] wr.drew fun e w' => e = .returned (.bool q1) ∧ w' = wr.drew := by rw [← hq1]; exact nodeT_any x _
      have HQ1 : Hid ((decide (1 ≤ x) && decide (x ≤ 6)) = q1) := hq1
      clear hq1
      go_upto_region 6 with fail
      cases q1 with
      | false =>
        have hf : r = false := HNO.out (fun h => by
          have h1 := (HST.out.1 (nodesT_sub h (List.take_sublist _ _))).2.1
          have := HQ1.out
          simp [h1.1, h1.2] at this)
        subst hf
        clear HST HK HQ1 HR HNO
        refine wp_region_held_drew (S := (fun w' => Below wr.heap.size wr w')) (by kernel_rfl) ?hS0 (fun hHeld => ?_)
        case hS0 => exact (Below.refl _ _).drew
        refine takeG 0 (v := .slice (some ⟨b, off, none⟩) l.length cap) rfl (by kernel_rfl) (by kernel_rfl) (by kernel_rfl) (by kernel_rfl) (fun _ _ _ h => h) ?hy (by assumption) ?_
        case hy => (intro w' hSw; go_simp)
        try simp only [List.setIfInBounds_toArray, List.set_cons_zero, List.set_cons_succ]
        refine takeG 1 (v := .int .i64 (k : Int)) rfl (by kernel_rfl) (by kernel_rfl) (by kernel_rfl) (by kernel_rfl) (fun _ _ _ h => h) ?hy (by assumption) ?_
        case hy => (intro w' hSw; go_simp)
        try simp only [List.setIfInBounds_toArray, List.set_cons_zero, List.set_cons_succ]
        refine takeG 2 (v := .pointer (some ⟨b, off + k, none⟩)) rfl (by kernel_rfl) (by kernel_rfl) (by kernel_rfl) (by kernel_rfl) (fun _ _ _ h => h) ?hy (by assumption) ?_
        case hy => (intro w' hSw; go_simp)
        try simp only [List.setIfInBounds_toArray, List.set_cons_zero, List.set_cons_succ]
        refine takeG 3 (v := .int .i64 x) rfl (by kernel_rfl) (by kernel_rfl) (by kernel_rfl) (by kernel_rfl) (fun _ _ _ h => h) ?hy (by assumption) ?_
        case hy => (intro w' hSw; have s0 := hcellS w' hSw; (try dsimp only at s0); go_simp)
        try simp only [List.setIfInBounds_toArray, List.set_cons_zero, List.set_cons_succ]
        refine runG 4 (by kernel_rfl) rfl (by kernel_rfl) ?_
        go_simp
        refine hc1.mono ?_
        rintro e z ⟨rfl, rfl⟩
        refine ⟨hHeld, ?_⟩
        try simp only [Act.put, List.setIfInBounds_toArray, List.set_cons_zero, List.set_cons_succ]
        refine takeG 5 (v := .bool true) rfl (by kernel_rfl) (by kernel_rfl) (by kernel_rfl) (by kernel_rfl) (fun _ _ _ h => h) ?hy (by assumption) ?_
        case hy => (intro w' hSw; go_simp)
        try simp only [List.setIfInBounds_toArray, List.set_cons_zero, List.set_cons_succ]
        refine takeG 6 (v := .bool true) rfl (by kernel_rfl) (by kernel_rfl) (by kernel_rfl) (by kernel_rfl) (fun _ _ _ h => h) ?hy (by assumption) ?_
        case hy => (intro w' hSw; go_simp)
        try simp only [List.setIfInBounds_toArray, List.set_cons_zero, List.set_cons_succ]
        refine skipG 7 rfl (by kernel_rfl) (by kernel_rfl) (by kernel_rfl) (by kernel_rfl) (fun _ _ _ h => h) (by assumption) ?_
        try simp only [List.setIfInBounds_toArray, List.set_cons_zero, List.set_cons_succ]
        refine skipG 8 rfl (by kernel_rfl) (by kernel_rfl) (by kernel_rfl) (by kernel_rfl) (fun _ _ _ h => h) (by assumption) ?_
        try simp only [List.setIfInBounds_toArray, List.set_cons_zero, List.set_cons_succ]
        refine skipG 9 rfl (by kernel_rfl) (by kernel_rfl) (by kernel_rfl) (by kernel_rfl) (fun _ _ _ h => h) (by assumption) ?_
        try simp only [List.setIfInBounds_toArray, List.set_cons_zero, List.set_cons_succ]
        refine skipG 10 rfl (by kernel_rfl) (by kernel_rfl) (by kernel_rfl) (by kernel_rfl) (fun _ _ _ h => h) (by assumption) ?_
        try simp only [List.setIfInBounds_toArray, List.set_cons_zero, List.set_cons_succ]
        refine skipG 11 rfl (by kernel_rfl) (by kernel_rfl) (by kernel_rfl) (by kernel_rfl) (fun _ _ _ h => h) (by assumption) ?_
        try simp only [List.setIfInBounds_toArray, List.set_cons_zero, List.set_cons_succ]
        refine skipG 12 rfl (by kernel_rfl) (by kernel_rfl) (by kernel_rfl) (by kernel_rfl) (fun _ _ _ h => h) (by assumption) ?_
        try simp only [List.setIfInBounds_toArray, List.set_cons_zero, List.set_cons_succ]
        refine skipG 13 rfl (by kernel_rfl) (by kernel_rfl) (by kernel_rfl) (by kernel_rfl) (fun _ _ _ h => h) (by assumption) ?_
        try simp only [List.setIfInBounds_toArray, List.set_cons_zero, List.set_cons_succ]
        refine skipG 14 rfl (by kernel_rfl) (by kernel_rfl) (by kernel_rfl) (by kernel_rfl) (fun _ _ _ h => h) (by assumption) ?_
        try simp only [List.setIfInBounds_toArray, List.set_cons_zero, List.set_cons_succ]
        refine takeG 15 (v := .bool true) rfl (by kernel_rfl) (by kernel_rfl) (by kernel_rfl) (by kernel_rfl) (fun _ _ _ h => h) ?hy (by assumption) ?_
        case hy => (intro w' hSw; go_simp)
        try simp only [List.setIfInBounds_toArray, List.set_cons_zero, List.set_cons_succ]
        refine wpAnyH_done (by kernel_rfl) ?_ _
        go_wp2
        go_ret
        exact ⟨rfl, hb.drew⟩
      | true =>
        have hx16 : 1 ≤ x ∧ x ≤ 6 := by have := HQ1.out; simpa using this
        have hc2 : Calls Tryz.prog 198 #[.slice (some ⟨b, off, none⟩) k cap, .int .i64 x] wr.drew fun e w' => e = .returned (.bool (decide (x ∈ l.take k))) ∧ w' = wr.drew := by
          have := l02Has_any (some ⟨b, off, none⟩) cap (l.take k) x wr.drew (by rw [HLK.out]; omega) (rowk.keep (Below.refl _ _).drew)
          rw [HLK.out] at this
          exact this
        have HX : Hid (1 ≤ x ∧ x ≤ 6) := hx16
        obtain ⟨q2, hq2⟩ : ∃ q, decide (x ∈ l.take k) = q := ⟨_, rfl⟩
        rw [hq2] at hc2
        have HQ2 : Hid (decide (x ∈ l.take k) = q2) := hq2
        clear hx16 HQ1 hq2 HLK rowk
        refine wp_region_held_drew (S := (fun w' => Below wr.heap.size wr w')) (by kernel_rfl) ?hS0 (fun hHeld => ?_)
        case hS0 => exact (Below.refl _ _).drew
        refine takeG 0 (v := .slice (some ⟨b, off, none⟩) l.length cap) rfl (by kernel_rfl) (by kernel_rfl) (by kernel_rfl) (by kernel_rfl) (fun _ _ _ h => h) ?hy (by assumption) ?_
        case hy => (intro w' hSw; go_simp)
        try simp only [List.setIfInBounds_toArray, List.set_cons_zero, List.set_cons_succ]
        refine takeG 1 (v := .int .i64 (k : Int)) rfl (by kernel_rfl) (by kernel_rfl) (by kernel_rfl) (by kernel_rfl) (fun _ _ _ h => h) ?hy (by assumption) ?_
        case hy => (intro w' hSw; go_simp)
        try simp only [List.setIfInBounds_toArray, List.set_cons_zero, List.set_cons_succ]
        refine takeG 2 (v := .pointer (some ⟨b, off + k, none⟩)) rfl (by kernel_rfl) (by kernel_rfl) (by kernel_rfl) (by kernel_rfl) (fun _ _ _ h => h) ?hy (by assumption) ?_
        case hy => (intro w' hSw; go_simp)
        try simp only [List.setIfInBounds_toArray, List.set_cons_zero, List.set_cons_succ]
        refine takeG 3 (v := .int .i64 x) rfl (by kernel_rfl) (by kernel_rfl) (by kernel_rfl) (by kernel_rfl) (fun _ _ _ h => h) ?hy (by assumption) ?_
        case hy => (intro w' hSw; have s0 := hcellS w' hSw; (try dsimp only at s0); go_simp)
        try simp only [List.setIfInBounds_toArray, List.set_cons_zero, List.set_cons_succ]
        refine runG 4 (by kernel_rfl) rfl (by kernel_rfl) ?_
        go_simp
        refine hc1.mono ?_
        rintro e z ⟨rfl, rfl⟩
        refine ⟨hHeld, ?_⟩
        try simp only [Act.put, List.setIfInBounds_toArray, List.set_cons_zero, List.set_cons_succ]
        refine takeG 5 (v := .bool false) rfl (by kernel_rfl) (by kernel_rfl) (by kernel_rfl) (by kernel_rfl) (fun _ _ _ h => h) ?hy (by assumption) ?_
        case hy => (intro w' hSw; go_simp)
        try simp only [List.setIfInBounds_toArray, List.set_cons_zero, List.set_cons_succ]
        refine takeG 6 (v := .bool false) rfl (by kernel_rfl) (by kernel_rfl) (by kernel_rfl) (by kernel_rfl) (fun _ _ _ h => h) ?hy (by assumption) ?_
        case hy => (intro w' hSw; go_simp)
        try simp only [List.setIfInBounds_toArray, List.set_cons_zero, List.set_cons_succ]
        refine takeG 7 (v := .slice (some ⟨b, off, none⟩) l.length cap) rfl (by kernel_rfl) (by kernel_rfl) (by kernel_rfl) (by kernel_rfl) (fun _ _ _ h => h) ?hy (by assumption) ?_
        case hy => (intro w' hSw; go_simp)
        try simp only [List.setIfInBounds_toArray, List.set_cons_zero, List.set_cons_succ]
        refine takeG 8 (v := .int .i64 (k : Int)) rfl (by kernel_rfl) (by kernel_rfl) (by kernel_rfl) (by kernel_rfl) (fun _ _ _ h => h) ?hy (by assumption) ?_
        case hy => (intro w' hSw; go_simp)
        try simp only [List.setIfInBounds_toArray, List.set_cons_zero, List.set_cons_succ]
        refine takeG 9 (v := .slice (some ⟨b, off, none⟩) k cap) rfl (by kernel_rfl) (by kernel_rfl) (by kernel_rfl) (by kernel_rfl) (fun _ _ _ h => h) ?hy (by assumption) ?_
        case hy => (intro w' hSw; go_simp)
        try simp only [List.setIfInBounds_toArray, List.set_cons_zero, List.set_cons_succ]
        refine takeG 10 (v := .slice (some ⟨b, off, none⟩) l.length cap) rfl (by kernel_rfl) (by kernel_rfl) (by kernel_rfl) (by kernel_rfl) (fun _ _ _ h => h) ?hy (by assumption) ?_
        case hy => (intro w' hSw; go_simp)
        try simp only [List.setIfInBounds_toArray, List.set_cons_zero, List.set_cons_succ]
        refine takeG 11 (v := .int .i64 (k : Int)) rfl (by kernel_rfl) (by kernel_rfl) (by kernel_rfl) (by kernel_rfl) (fun _ _ _ h => h) ?hy (by assumption) ?_
        case hy => (intro w' hSw; go_simp)
        try simp only [List.setIfInBounds_toArray, List.set_cons_zero, List.set_cons_succ]
        refine takeG 12 (v := .pointer (some ⟨b, off + k, none⟩)) rfl (by kernel_rfl) (by kernel_rfl) (by kernel_rfl) (by kernel_rfl) (fun _ _ _ h => h) ?hy (by assumption) ?_
        case hy => (intro w' hSw; go_simp)
        try simp only [List.setIfInBounds_toArray, List.set_cons_zero, List.set_cons_succ]
        refine takeG 13 (v := .int .i64 x) rfl (by kernel_rfl) (by kernel_rfl) (by kernel_rfl) (by kernel_rfl) (fun _ _ _ h => h) ?hy (by assumption) ?_
        case hy => (intro w' hSw; have s0 := hcellS w' hSw; (try dsimp only at s0); go_simp)
        try simp only [List.setIfInBounds_toArray, List.set_cons_zero, List.set_cons_succ]
        refine runG 14 (by kernel_rfl) rfl (by kernel_rfl) ?_
        go_simp
        refine hc2.mono ?_
        rintro e z ⟨rfl, rfl⟩
        refine ⟨hHeld, ?_⟩
        try simp only [Act.put, List.setIfInBounds_toArray, List.set_cons_zero, List.set_cons_succ]
        refine takeG 15 (v := .bool q2) rfl (by kernel_rfl) (by kernel_rfl) (by kernel_rfl) (by kernel_rfl) (fun _ _ _ h => h) ?hy (by assumption) ?_
        case hy => (intro w' hSw; go_simp)
        try simp only [List.setIfInBounds_toArray, List.set_cons_zero, List.set_cons_succ]
        refine wpAnyH_done (by kernel_rfl) ?_ _
        cases q2 with
        | true =>
          have hf : r = false := HNO.out (fun h => by
            have h1 := (HST.out.1 (nodesT_sub h (List.take_sublist _ _))).2.2
            exact h1 (of_decide_eq_true HQ2.out))
          subst hf
          go_wp2
          go_ret
          exact ⟨rfl, hb.drew⟩
        | false =>
          have HN : Hid (nodesT (l.take (k + 1))) := HST.out.2 ⟨HK.out, HX.out, of_decide_eq_false HQ2.out⟩
          have hbd := hb.drew
          clear HST HK HQ2 HX
          go_wp2
          go_roundw
          case rel => exact ⟨k + 1, by omega, by go_num, HN.out, hbd⟩
          case measure => simp [intOf]; omega
    · obtain rfl : k = l.length := by omega
      have ht : r = true := HR.out.2 (by have := HK.out; rwa [List.take_length] at this)
      subst ht
      clear HK
      go_wp2
      go_ret
      exact ⟨rfl, hb⟩
/-- A turn, as a value. -/
def turnV (v : Value) (at0 : Int) : Value := .agg #[v, .int .i64 at0]
set_option maxHeartbeats 1000000 in
set_option maxRecDepth 100000 in
theorem specTRight_is (a : Option Addr) (cap : Nat) (t : TurnV) (w : World) (r : Bool) (hr : r = true ↔ t.ok) (hl : t.list.length ≤ 1048576) (hcap : t.list.length ≤ cap) (hrow : NumRow w a t.list) :
    Calls Tryz.prog 92 #[turnV (.slice a t.list.length cap) t.at0] w fun e w' => e = .returned (.bool r) ∧ Below w.heap.size w w' := by
  obtain ⟨l, at0⟩ := t
  dsimp only at hl hcap hrow ⊢
  obtain ⟨q, hq⟩ := tells_bool (nodesT l)
  have HQ : Hid (q = true ↔ nodesT l) := hq
  have HR : Hid (r = true ↔ nodesT l ∧ 0 ≤ at0 ∧ at0 ≤ l.length) := hr
  clear hr hq
  unfold turnV
  have P0 := BlkIs.new w 27 #[.slice a l.length cap, .int .i64 at0]
  have B0 := (Below.refl w.heap.size w).alloc (Nat.le_refl _) (.cells #[.slice a l.length cap, .int .i64 at0] 27)
  have r0 := hrow.keep B0
  obtain ⟨W, hW⟩ : ∃ W, w.alloc (.cells #[.slice a l.length cap, .int .i64 at0] 27) = W := ⟨_, rfl⟩
  rw [hW] at P0 B0 r0
  have HW : Hid (_ = W) := hW
  clear hW
  go_enter Tryz.func92, Tryz.ntmps92
  go_wp2_with fail
  rw [HW.out]
  refine (specNodes_is a cap l _ q HQ.out hl hcap r0).mono ?_
  rintro e z ⟨rfl, bz⟩
  have c0 : z.cell? ⟨w.heap.size, 0, none⟩ = some (.slice a l.length cap) := (P0.keep bz).cell 0
  have c1 : z.cell? ⟨w.heap.size, 1, none⟩ = some (.int .i64 at0) := (P0.keep bz).cell 1
  have B1 := B0.trans (bz.mono B0.size)
  clear P0 bz B0 HW r0
  cases q with
  | false =>
    have hf : r = false := by
      cases r with
      | false => rfl
      | true => have := HQ.out.2 (HR.out.1 rfl).1; cases this
    subst hf
    go_wp2
    go_ret
    exact ⟨rfl, B1⟩
  | true =>
    have hn : nodesT l := HQ.out.1 rfl
    have HE : Hid ((decide (0 ≤ at0) && decide (at0 ≤ (l.length : Int))) = r) := by
      show _ = _
      cases r with
      | false =>
        have : ¬ (0 ≤ at0 ∧ at0 ≤ (l.length : Int)) := fun h => by have := HR.out.2 ⟨hn, h⟩; cases this
        simp only [Bool.and_eq_false_iff, decide_eq_false_iff_not]
        omega
      | true => have := (HR.out.1 rfl).2; simp [this.1, this.2]
    have hl64 : IntKind.i64.wrap (l.length : Int) = (l.length : Int) := by rw [IntKind.wrap_i64]; omega
    clear HQ HR hn
    go_wp2_with fail
    refine (l02Is_any at0 0 (l.length : Int) _).mono ?_
    rintro e z2 ⟨rfl, rfl⟩
    rw [HE.out]
    go_wp2
    go_ret
    exact ⟨rfl, B1⟩
end Go.Proofs.YtmdcankfjmkkeaaGreat
/- The contracts of chapter 3's specification: what is shuffled. -/
namespace Go.Proofs.YtmdcankfjmkkeaaGreat
open Go Go.RowKit
set_option linter.unusedVariables false

/-- What a shuffle hands back. -/
def shufOut (s : Int) (v : Value) : Value := .agg #[.int .i64 s, v]
theorem numsV_set (m : List Int) (i : Nat) (x : Int) : numsV (m.set i x) = (numsV m).set i (.int .i64 x) := by simp [numsV, List.map_set]
theorem numsV_at {m : List Int} {i : Nat} (h : i < m.length) : (numsV m)[i]? = some (.int .i64 (m.getD i 0)) := by
  rw [numsV, List.getElem?_map, List.getElem?_eq_getElem h, getD_at h]; rfl
/-- A row of one's own with one cell turned. -/
theorem own_set {w : World} {base g cap : Nat} {m : List Int} (h : w.ownsRow base 2 1 (.slice (some ⟨g, 0, none⟩) m.length cap) m.length (numsV m)) (i : Nat) (x : Int) :
    (w.setCell ⟨g, i, none⟩ (.int .i64 x)).ownsRow base 2 1 (.slice (some ⟨g, 0, none⟩) (m.set i x).length cap) (m.set i x).length (numsV (m.set i x)) := by
  have := (h.stored i (.int .i64 x)).1
  rw [numsV_set, List.length_set]
  exact this
theorem own_below {w w' : World} {base e size n : Nat} {v : Value} {xs : List Value} (h : w.ownsRow base e size v n xs) (hb : Below w.heap.size w w') : w'.ownsRow base e size v n xs := by
  refine ⟨h.1, ?_⟩
  rcases h.2 with k | ⟨g, cap, cur, hv, hbg, hg, rest⟩
  · exact .inl k
  · subst hv
    exact .inr ⟨g, cap, cur, rfl, hbg, (hb.block g (h.lt g rfl).2).trans hg, rest⟩
def ResIs (w : World) (r : Nat) : Prop := w.cell? ⟨r, 0, none⟩ = some (.int .i64 0) ∧ w.cell? ⟨r, 1, none⟩ = some (.slice none 0 0) ∧ w.frozen? ⟨r, 0, none⟩ = false ∧ w.frozen? ⟨r, 1, none⟩ = false
theorem ResIs.lt {w : World} {r : Nat} (h : ResIs w r) : r < w.heap.size := by
  rcases Nat.lt_or_ge r w.heap.size with k | k
  · exact k
  · have := h.1
    simp [World.cell?, Array.getElem?_eq_none k] at this
theorem ResIs.keep {w w' : World} {r : Nat} (h : ResIs w r) (hb : Below w.heap.size w w') : ResIs w' r := by
  have hl := h.lt
  obtain ⟨a, b, c, d⟩ := h
  exact ⟨(hb.cell (p := ⟨r, 0, none⟩) hl).trans a, (hb.cell (p := ⟨r, 1, none⟩) hl).trans b, (hb.frozen (p := ⟨r, 0, none⟩) hl).trans c, (hb.frozen (p := ⟨r, 1, none⟩) hl).trans d⟩
theorem ResIs.alloc {w : World} {r : Nat} (h : ResIs w r) (o : Obj) : ResIs (w.alloc o) r := h.keep ((Below.refl _ _).alloc (Nat.le_refl _) o)
theorem ResIs.set {w : World} {r g : Nat} (h : ResIs w r) (hne : g ≠ r) (i : Nat) (v : Value) : ResIs (w.setCell ⟨g, i, none⟩ v) r := by
  obtain ⟨a, b, c, d⟩ := h
  refine ⟨?_, ?_, by rw [World.frozen?_setCell]; exact c, by rw [World.frozen?_setCell]; exact d⟩
  · rw [World.cell?_setCell_other _ _ _ _ (fun e => hne (by have := congrArg Addr.block e; simpa using this))]; exact a
  · rw [World.cell?_setCell_other _ _ _ _ (fun e => hne (by have := congrArg Addr.block e; simpa using this))]; exact b
set_option maxHeartbeats 2000000 in
set_option maxRecDepth 100000 in
theorem l02Mix_any (a : Option Addr) (cap : Nat) (l : List Int) (seed : Int) (w : World) (hl : l.length ≤ 400) (hcap : a = none → cap = 0) (hrow : NumRow w a l) (hs0 : 0 ≤ seed) (hs1 : seed ≤ 2147483647) :
    Calls Tryz.prog 199 #[.slice a l.length cap, .int .i64 seed] w fun e w' => ∃ v, e = .returned (shufOut (mixL (l.length - 1) l seed).2 v) ∧ w'.ownsRow w.heap.size 2 1 v l.length (numsV (mixL (l.length - 1) l seed).1) ∧ Below w.heap.size w w' := by
  have br : Below w.heap.size w (w.alloc (.cells #[.int .i64 0, .slice none 0 0] 199)) := (Below.refl _ _).alloc (Nat.le_refl _) _
  have bb : Below (w.heap.size + 1) (w.alloc (.cells #[.int .i64 0, .slice none 0 0] 199)) ((w.alloc (.cells #[.int .i64 0, .slice none 0 0] 199)).alloc (.cells #[] 2)) := (Below.refl _ _).alloc (by simp) _
  have hlit : ((w.alloc (.cells #[.int .i64 0, .slice none 0 0] 199)).alloc (.cells #[] 2)).ownsRow (w.heap.size + 1) 2 1 (.slice (some ⟨w.heap.size + 1, 0, none⟩) 0 0) 0 [] := by
    have h := World.ownsRow_lit (base := w.heap.size + 1) (e := 2) (size := 1) (w.alloc (.cells #[.int .i64 0, .slice none 0 0] 199)) #[] 0 (by simp) (by simp [maxLen]) rfl
    have hz : (w.alloc (.cells #[.int .i64 0, .slice none 0 0] 199)).heap.size = w.heap.size + 1 := by simp
    rw [hz] at h
    exact h
  have hrow1 := hrow.keep (br.alloc br.size (.cells #[] 2))
  go_enter Tryz.func199, Tryz.ntmps199
  go_wp2_with (at_builtin; refine append_nums rfl _ _ rfl (w.heap.size + 1) _ 0 [] rfl hlit a cap l rfl hcap hrow1 (by omega) (by simp) ?_)
  intro v1 w1 own1 g1
  have b1 : Below (w.heap.size + 1) (w.alloc (.cells #[.int .i64 0, .slice none 0 0] 199)) w1 := bb.grown g1 (by simp) (fun g hg => by obtain rfl := Option.some.inj hg; exact Nat.le_refl _)
  have b1' : Below (w.alloc (.cells #[.int .i64 0, .slice none 0 0] 199)).heap.size (w.alloc (.cells #[.int .i64 0, .slice none 0 0] 199)) w1 := b1.mono (by simp)
  obtain ⟨q0, q1, f0, f1⟩ := two_kept b1'
  have bw1 : Below w.heap.size w w1 := br.trans (b1.mono (by omega))
  have hown : w1.ownsRow (w.heap.size + 1) 2 1 v1 l.length (numsV l) := own_eq own1 (by omega) (by simp)
  clear own1 g1 bb hrow1 b1 hlit
  obtain ⟨a', c', hv1, _⟩ := own_nums hown
  subst hv1
  have hres : ResIs w1 w.heap.size := ⟨q0, q1, f0, f1⟩
  clear q0 q1 f0 f1
  go_wp2
  go_loopw [6, 1] (fun i sv wr => ∃ (x : Int) (k : Nat) (m : List Int) (s : Int), i = .int .i64 x ∧ sv = .int .i64 s ∧ (x = k ∨ x = -1 ∧ k = 0) ∧ (k < l.length ∨ k = 0) ∧ 0 ≤ s ∧ s ≤ 2147483647 ∧ m.length = l.length ∧ mixL k m s = mixL (l.length - 1) l seed ∧ wr.ownsRow (w.heap.size + 1) 2 1 (.slice a' m.length c') m.length (numsV m) ∧ ResIs wr w.heap.size ∧ Below w.heap.size w wr) (fun i _ _ => (intOf i).toNat)
  case atStart => exact ⟨_, l.length - 1, l, seed, rfl, rfl, by omega, by omega, hs0, hs1, rfl, rfl, hown, hres, bw1⟩
  case round =>
    obtain ⟨x, k, m, s, rfl, rfl, hxk, hkl, hk0, hk1, hml, hmix, hown, hres, hb⟩ := hrel
    have HM : Hid (mixL k m s = mixL (l.length - 1) l seed) := hmix
    have HL : Hid (m.length = l.length) := hml
    clear hmix hml
    by_cases hx : 0 < x
    · obtain ⟨j, rfl⟩ : ∃ j, k = j + 1 := ⟨k - 1, by omega⟩
      obtain rfl : x = ((j + 1 : Nat) : Int) := by omega
      have hjm : j + 1 < m.length := by have := HL.out; omega
      rcases hown.2 with ⟨hv, hn⟩ | ⟨g, c, cur, hv, hbg, _⟩
      · omega
      simp only [Value.slice.injEq, true_and] at hv
      obtain ⟨rfl, rfl⟩ := hv
      go_wp2_with fail
      refine (l02Draw_any s _ _ hk0 hk1 (by omega) (by omega)).mono ?_
      rintro e x2 ⟨rfl, b2⟩
      unfold chanceOut
      have hjl : j + 1 < l.length := by have := HL.out; omega
      have hd0 := drawN_bd s (most := (j : Int) + 1 + 1) (by omega)
      have hn0 := nextS_bd s
      have HS : Hid (mixL (j + 1) m s = mixL j (swapL m (j + 1) (drawN s ((j : Int) + 1 + 1)).toNat) (nextS s)) := by
        show _ = _
        rw [mixL, show (j : Int) + 2 = (j : Int) + 1 + 1 from by omega]
      obtain ⟨d, hd⟩ := Int.eq_ofNat_of_zero_le hd0.1
      have hdl : d < m.length := by omega
      have hdl' : d < l.length := by have := HL.out; omega
      rw [hd] at HS ⊢
      rw [Int.toNat_natCast] at HS
      obtain ⟨s2, hs2⟩ : ∃ s2, nextS s = s2 := ⟨_, rfl⟩
      rw [hs2] at HS hn0 ⊢
      clear hd0 hd hs2
      have hg1 := (hown.lt g rfl).1
      have hg2 := (hown.lt g rfl).2
      have hgx : g ≠ x2.heap.size := by have := b2.size; omega
      have hoA := (own_below hown b2).alloc (.cells #[.int .i64 s2, .int .i64 (d : Int)] 232)
      have hoB := own_set hoA (j + 1) (m.getD d 0)
      have hoC := own_set hoB d (m.getD (j + 1) 0)
      have e1 := hoA.cellAt (j + 1) (by omega)
      have e2 := hoA.cellAt d (by omega)
      have e3 := hoB.cellAt d (by rw [List.length_set]; omega)
      rw [numsV_at hjm] at e1
      rw [numsV_at hdl] at e2
      rw [numsV_at (by rw [List.length_set]; exact hdl)] at e3
      have z1 := hoA.frozenAt (j + 1)
      have z3 := hoB.frozenAt d
      have bA := (hb.trans (b2.mono hb.size)).alloc (hb.trans (b2.mono hb.size)).size (.cells #[.int .i64 s2, .int .i64 (d : Int)] 232)
      have bC := (bA.setCell (p := ⟨g, j + 1, none⟩) (by show w.heap.size ≤ g; omega) (.int .i64 (m.getD d 0))).setCell (p := ⟨g, d, none⟩) (by show w.heap.size ≤ g; omega) (.int .i64 (m.getD (j + 1) 0))
      have hrC := (((hres.keep b2).alloc (.cells #[.int .i64 s2, .int .i64 (d : Int)] 232)).set (g := g) (by omega) (j + 1) (.int .i64 (m.getD d 0))).set (g := g) (by omega) d (.int .i64 (m.getD (j + 1) 0))
      have HO : Hid ((((x2.alloc (.cells #[.int .i64 s2, .int .i64 (d : Int)] 232)).setCell ⟨g, j + 1, none⟩ (.int .i64 (m.getD d 0))).setCell ⟨g, d, none⟩ (.int .i64 (m.getD (j + 1) 0))).ownsRow (w.heap.size + 1) 2 1 (.slice (some ⟨g, 0, none⟩) (swapL m (j + 1) d).length c') (swapL m (j + 1) d).length (numsV (swapL m (j + 1) d))) := hoC
      have HR : Hid (ResIs (((x2.alloc (.cells #[.int .i64 s2, .int .i64 (d : Int)] 232)).setCell ⟨g, j + 1, none⟩ (.int .i64 (m.getD d 0))).setCell ⟨g, d, none⟩ (.int .i64 (m.getD (j + 1) 0))) w.heap.size) := hrC
      have HB : Hid (Below w.heap.size w (((x2.alloc (.cells #[.int .i64 s2, .int .i64 (d : Int)] 232)).setCell ⟨g, j + 1, none⟩ (.int .i64 (m.getD d 0))).setCell ⟨g, d, none⟩ (.int .i64 (m.getD (j + 1) 0)))) := bC
      clear hoA hoB hoC bA bC hrC hown hres hb
      obtain ⟨y1, hy1⟩ : ∃ y, m.getD (j + 1) 0 = y := ⟨_, rfl⟩
      obtain ⟨y2, hy2⟩ : ∃ y, m.getD d 0 = y := ⟨_, rfl⟩
      obtain ⟨y3, hy3⟩ : ∃ y, (m.set (j + 1) (m.getD d 0)).getD d 0 = y := ⟨_, rfl⟩
      rw [hy3] at e3
      rw [hy1] at e1 HO HR HB
      rw [hy2] at e2 e3 z3 HO HR HB
      clear hy1 hy2 hy3
      go_wp2
      go_roundw
      case rel => exact ⟨(j : Int), j, swapL m (j + 1) d, s2, by go_num, by go_num, .inl rfl, .inl (by omega), hn0.1, hn0.2, by rw [swapL_length]; exact HL.out, HS.out.symm.trans HM.out, HO.out, HR.out, HB.out⟩
      case measure => simp [intOf]
    · obtain rfl : k = 0 := by omega
      have HF : Hid (mixL (l.length - 1) l seed = (m, s)) := HM.out.symm
      obtain ⟨q0, q1, f0, f1⟩ := hres
      have hr1 : ∀ (u v : Value), Below w.heap.size w ((wr.setCell ⟨w.heap.size, 0, none⟩ u).setCell ⟨w.heap.size, 1, none⟩ v) := fun u v => two_below hb
      have HB : Hid (∀ (u v : Value), Below w.heap.size w ((wr.setCell ⟨w.heap.size, 0, none⟩ u).setCell ⟨w.heap.size, 1, none⟩ v)) := hr1
      have hne : Value.ownBlock (.slice a' m.length c') ≠ some w.heap.size := fun e => by have := (hown.lt _ e).1; omega
      have HO : Hid (∀ (u v : Value), ((wr.setCell ⟨w.heap.size, 0, none⟩ u).setCell ⟨w.heap.size, 1, none⟩ v).ownsRow w.heap.size 2 1 (.slice a' m.length c') m.length (numsV m)) :=
        fun u v => own_mono (ownsRow_setCell_other (ownsRow_setCell_other hown hne u) hne v) (by omega)
      rw [HL.out] at HO
      clear hr1 hne hown hb
      go_wp2
      exact bodyPost_ret (v := .agg #[.int .i64 s, .slice a' l.length c']) (by simp [results, Tryz.results199, go_sem, q0, q1]) rfl ⟨_, by rw [HF.out]; rfl, by rw [HF.out]; exact HO.out _ _, HB.out _ _⟩


/-- Shuffle. -/
def shufL (l : List Int) (seed : Int) : List Int × Int := if 400 < (l.length : Int) ∨ (decide (0 ≤ seed) && decide (seed ≤ 2147483647)) = false then ([], 0) else mixL (l.length - 1) l seed
end Go.Proofs.YtmdcankfjmkkeaaGreat
