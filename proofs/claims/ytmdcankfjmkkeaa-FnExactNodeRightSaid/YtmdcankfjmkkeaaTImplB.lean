/- The contracts of the program's TurnRight, of what is asked ahead of a turn, and of the place of the next one. -/
import Derived.Test.YtmdcankfjmkkeaaTImplA
import Derived.Test.YtmdcankfjmkkeaaG32
namespace Go.Proofs.Ytmdcankfjmkkeaa
open Go Go.RowKit
set_option linter.unusedVariables false
set_option linter.unusedSimpArgs false

set_option maxHeartbeats 2000000 in
set_option maxRecDepth 100000 in
theorem implTRight_is (a : Option Addr) (cap : Nat) (t : TurnV) (w : World) (r : Bool) (hr : r = true ↔ t.ok) (hl : t.list.length ≤ 1048576) (hcap : t.list.length ≤ cap) (hrow : NumRow w a t.list) :
    Calls Try.prog 39 #[turnV (.slice a t.list.length cap) t.at0] w fun e w' => e = .returned (.bool r) ∧ Below w.heap.size w w' := by
  obtain ⟨l, at0⟩ := t
  dsimp only at hl hcap hrow ⊢
  have HR : Hid (r = true ↔ nodesT l ∧ 0 ≤ at0 ∧ at0 ≤ l.length) := hr
  clear hr
  have HNO : Hid (¬ (nodesT l ∧ 0 ≤ at0 ∧ at0 ≤ l.length) → r = false) := fun h => by
    cases r with
    | false => rfl
    | true => exact absurd (HR.out.1 rfl) h
  unfold turnV
  have P0 := BlkIs.new w 36 #[.slice a l.length cap, .int .i64 at0]
  have B0 := (Below.refl w.heap.size w).alloc (Nat.le_refl _) (.cells #[.slice a l.length cap, .int .i64 at0] 36)
  have r0 := hrow.keep B0
  obtain ⟨W, hW⟩ : ∃ W, w.alloc (.cells #[.slice a l.length cap, .int .i64 at0] 36) = W := ⟨_, rfl⟩
  rw [hW] at P0 B0 r0
  have HW : Hid (_ = W) := hW
  clear hW
  have c0 : W.cell? ⟨w.heap.size, 0, none⟩ = some (.slice a l.length cap) := P0.cell 0
  have c1 : W.cell? ⟨w.heap.size, 1, none⟩ = some (.int .i64 at0) := P0.cell 1
  by_cases hx : 6 < (l.length : Int)
  · have hf : r = false := HNO.out (fun h => by have := nodesT_len h.1; omega)
    subst hf
    go_enter Try.func39, Try.ntmps39
    go_upto_region 1 with fail
    rw [HW.out]
    clear HW
    go_wp2
    go_ret
    exact ⟨rfl, B0⟩
  obtain ⟨q, hq⟩ := tells_bool (allT l)
  have HQ : Hid (q = true ↔ allT l) := hq
  clear hq
  go_enter Try.func39, Try.ntmps39
  go_upto_region 1 with fail
  rw [HW.out]
  clear HW
  go_wp2_with fail
  refine (allNodes_is a cap l _ q HQ.out hl r0).mono ?_
  rintro e z ⟨rfl, hz⟩
  replace hz : W = z := hz.symm
  subst hz
  cases q with
  | false =>
    have hf : r = false := HNO.out (fun h => by have := HQ.out.2 h.1.1; cases this)
    subst hf
    go_wp2
    go_ret
    exact ⟨rfl, B0⟩
  | true =>
    have HA : Hid (allT l) := HQ.out.1 rfl
    clear HQ
    by_cases h0 : at0 < 0
    · have hf : r = false := HNO.out (fun h => by have := h.2.1; omega)
      subst hf
      go_wp2
      go_ret
      exact ⟨rfl, B0⟩
    by_cases h1 : (l.length : Int) < at0
    · have hf : r = false := HNO.out (fun h => by have := h.2.2; omega)
      subst hf
      go_wp2
      go_ret
      exact ⟨rfl, B0⟩
    go_wp2
    go_loop [31] (fun i => ∃ k : Nat, k ≤ l.length ∧ i = .int .i64 k ∧ nodesT (l.take k)) (fun i => l.length - (intOf i).toNat)
    case atStart => exact ⟨0, Nat.zero_le _, rfl, by rw [List.take_zero]; exact nodesT_nil⟩
    case round =>
      obtain ⟨k, hk, rfl, hok⟩ := hrel
      have HK : Hid (nodesT (l.take k)) := hok
      clear hok
      by_cases hk2 : k < l.length
      · have rk0 := rowA_row r0 (Nat.zero_le k) hk
        rw [List.drop_zero, Nat.sub_zero] at rk0
        obtain ⟨b, off, ha, hbl, hcell⟩ := r0.addrN (by omega)
        subst ha
        have ck := hcell k hk2
        have HST : Hid (nodesT (l.take (k + 1)) ↔ nodesT (l.take k) ∧ (1 ≤ l[k] ∧ l[k] ≤ 6) ∧ l[k] ∉ l.take k) := nodesT_step hk2
        have hlk : (l.take k).length = k := by rw [List.length_take]; omega
        obtain ⟨x, hlx⟩ : ∃ x, l[k] = x := ⟨_, rfl⟩
        have HXA : Hid (1 ≤ x ∧ x ≤ 6) := by rw [← hlx]; exact HA.out _ (List.getElem_mem hk2)
        rw [hlx] at ck HST
        have hkI : (k : Int) < (l.length : Int) := by omega
        have HLK : Hid ((l.take k).length = k) := hlk
        clear hlx hlk hcell
        go_wp2_with fail
        refine (rowOf_any (some ⟨b, off, none⟩) l.length cap 0 k _ (Nat.zero_le _) (by omega)).mono ?_
        rintro e z ⟨rfl, hz⟩
        replace hz : W = z := hz.symm
        subst hz
        rw [Nat.sub_zero]
        obtain ⟨ra, hra⟩ : ∃ ra, rowA (some ⟨b, off, none⟩) 0 k = ra := ⟨_, rfl⟩
        rw [hra] at rk0 ⊢
        clear hra
        have hcn := contains_any ra k (l.take k) x W (by rw [HLK.out]; omega) rk0
        rw [HLK.out] at hcn
        obtain ⟨q2, hq2⟩ : ∃ q, decide (x ∈ l.take k) = q := ⟨_, rfl⟩
        rw [hq2] at hcn
        have HQ2 : Hid (decide (x ∈ l.take k) = q2) := hq2
        clear hq2 rk0
        go_wp2_with fail
        refine hcn.mono ?_
        rintro e z ⟨rfl, hz⟩
        replace hz : W = z := hz.symm
        subst hz
        clear hcn
        cases q2 with
        | true =>
          have hf : r = false := HNO.out (fun h => by
            have h1 := (HST.out.1 (nodesT_sub h.1 (List.take_sublist _ _))).2.2
            exact h1 (of_decide_eq_true HQ2.out))
          subst hf
          go_wp2
          go_ret
          exact ⟨rfl, B0⟩
        | false =>
          have HN : Hid (nodesT (l.take (k + 1))) := HST.out.2 ⟨HK.out, HXA.out, of_decide_eq_false HQ2.out⟩
          clear HST HK HQ2 HXA
          go_wp2
          go_round
          case rel => exact ⟨k + 1, by omega, by go_num, HN.out⟩
          case measure => simp [intOf]; omega
      · obtain rfl : k = l.length := by omega
        have ht : r = true := HR.out.2 ⟨by have := HK.out; rwa [List.take_length] at this, by omega, by omega⟩
        subst ht
        clear HK
        go_wp2
        go_ret
        exact ⟨rfl, B0⟩
/-- A right set of nodes. -/
def setT (l : List Int) : Prop := nodesT l ∧ rises l
theorem setT_iff {l : List Int} : setT l ↔ rightL l ∧ allT l := by
  constructor
  · rintro ⟨h1, h2⟩
    exact ⟨⟨by have := nodesT_len h1; omega, h2⟩, h1.1⟩
  · rintro ⟨h1, h2⟩
    exact ⟨⟨h2, h1.2.imp (fun h => Int.ne_of_lt h)⟩, h1.2⟩
end Go.Proofs.Ytmdcankfjmkkeaa
