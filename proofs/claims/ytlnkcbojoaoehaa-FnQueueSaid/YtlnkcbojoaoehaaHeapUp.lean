/- The contracts of container/heap's up and Init. -/
import Derived.Test.YtlnkcbojoaoehaaHeapDown
namespace Go.Proofs.Ytlnkcbojoaoehaa
open Go Go.RowKit
set_option linter.unusedVariables false

def UpPost (lo hb g cap : Nat) (l : List DueV) (w : World) (e : Ending) (w' : World) : Prop := e = .returned (.tuple #[]) ∧ ∃ l', Turned lo hb g cap l 0 l.length w w' l'
set_option maxHeartbeats 2000000 in
set_option maxRecDepth 100000 in
theorem hup_any (lo hb g cap : Nat) (l : List DueV) (j0 : Nat) (w : World) (h : HeapAt w lo hb g cap l) (hj : j0 < l.length) (hl : l.length ≤ 1048576) (hh : heapUp l j0 l.length) :
    Calls Try.prog 56 #[.iface 56 (.pointer (some ⟨hb, 0, none⟩)), .int .i64 j0] w (UpPost lo hb g cap l w) := by
  go_enter Try.func56, Try.ntmps56
  go_wp2
  go_loopw [1] (fun i wr => ∃ (k : Nat) (l' : List DueV), i = .int .i64 k ∧ k < l.length ∧ l'.Perm l ∧ heapUp l' k l.length ∧ HeapAt wr lo hb g cap l' ∧ Keeps (fun q => q ≠ g) w wr) (fun i _ => (intOf i).toNat)
  case atStart => exact ⟨j0, l, rfl, hj, List.Perm.refl _, hh, h, Keeps.refl _ _⟩
  case round =>
    obtain ⟨k, l', rfl, hk, hp, hup, hA, hK⟩ := hrel
    have hk' : k < l'.length := by rw [hp.length_eq]; exact hk
    have hn' : l.length ≤ l'.length := by rw [hp.length_eq]; exact Nat.le_refl _
    have HP : Hid (l'.Perm l) := hp
    have HU : Hid (heapUp l' k l.length) := hup
    have HE : Hid (∀ q, l.length ≤ q → dAt l' q = dAt l q) := fun q hq => by
      have : l'.length ≤ q := by rw [hp.length_eq]; exact hq
      simp [dAt, List.getD, List.getElem?_eq_none this, List.getElem?_eq_none hq]
    clear hp hup h hh
    rcases k with _ | q
    · have HH : Hid (heapFrom l' 0 l.length) := heapUp_done HU.out (fun h => absurd h (by omega))
      go_wp2
      go_end0
      exact ⟨rfl, l', HP.out, HE.out, HH.out, hA, hK⟩
    · have hwq : IntKind.i64.wrap (q : Int) = (q : Int) := by rw [IntKind.wrap_i64]; omega
      have hwd : IntKind.i64.wrap ((q : Int).tdiv 2) = (q : Int) / 2 := by rw [IntKind.wrap_i64, Int.tdiv_eq_ediv_of_nonneg (by omega)]; omega
      have hne : ((q : Int) / 2 == (q : Int) + 1) = false := beq_eq_false_iff_ne.2 (by omega)
      have hpar : (q + 1 - 1) / 2 = q / 2 := by simp
      by_cases h3 : (dAt l' (q + 1)).lt (dAt l' (q / 2))
      · have HS : Hid (heapUp (swapD l' (q / 2) (q + 1)) (q / 2) l.length) := by
          have := heapUp_step HU.out (by omega) hk hn' (by rw [hpar]; exact h3)
          rw [hpar] at this
          exact this
        have HP2 : Hid ((swapD l' (q / 2) (q + 1)).Perm l) := (swapD_perm (by omega) (by omega)).trans HP.out
        have HL : Hid ((dAt l' (q + 1)).lt (dAt l' (q / 2))) := h3
        clear h3 hpar
        have m2 := m_less hb _ _ hA.box.cell
        go_wp2_with fail
        refine (hless_y lo hb g cap l' (q + 1) (q / 2) _ _ (by omega) (by omega) _ hA (by omega) (by omega) HL.out).mono ?_
        rintro e z2 ⟨rfl, bz2⟩
        have hA2 := hA.keepB bz2
        have hK2 := hK.below bz2
        have m3 := m_swap hb _ _ hA2.box.cell
        go_wp2_with fail
        refine (hswap_i lo hb g cap l' (q / 2) (q + 1) _ _ (by omega) (by omega) _ hA2 (by omega) (by omega)).mono ?_
        rintro e z3 ⟨rfl, hA3, bz3⟩
        have hK3 := hK2.trans bz3
        go_wp2
        go_roundw
        case rel => exact ⟨q / 2, swapD l' (q / 2) (q + 1), congrArg (Value.int .i64) (by omega), by omega, HP2.out, HS.out, hA3, hK3⟩
        case measure => simp [intOf]; omega
      · have HH : Hid (heapFrom l' 0 l.length) := heapUp_done HU.out (fun _ => by rw [hpar]; exact h3)
        have HL : Hid (¬ (dAt l' (q + 1)).lt (dAt l' (q / 2))) := h3
        clear h3 hpar
        have m2 := m_less hb _ _ hA.box.cell
        go_wp2_with fail
        refine (hless_n lo hb g cap l' (q + 1) (q / 2) _ _ (by omega) (by omega) _ hA (by omega) (by omega) HL.out).mono ?_
        rintro e z2 ⟨rfl, bz2⟩
        have hA2 := hA.keepB bz2
        have hK2 := hK.below bz2
        go_wp2
        go_end0
        exact ⟨rfl, l', HP.out, HE.out, HH.out, hA2, hK2⟩
set_option maxHeartbeats 2000000 in
set_option maxRecDepth 100000 in
theorem hinit_any (lo hb g cap : Nat) (l : List DueV) (w : World) (h : HeapAt w lo hb g cap l) (hl : l.length ≤ 1048576) :
    Calls Try.prog 55 #[.iface 56 (.pointer (some ⟨hb, 0, none⟩))] w (UpPost lo hb g cap l w) := by
  have m1 := m_len hb _ _ h.box.cell
  have hwd : IntKind.i64.wrap ((l.length : Int).tdiv 2) = (l.length : Int) / 2 := by rw [IntKind.wrap_i64, Int.tdiv_eq_ediv_of_nonneg (by omega)]; omega
  have hws : IntKind.i64.wrap ((l.length : Int) / 2 - 1) = (l.length : Int) / 2 - 1 := by rw [IntKind.wrap_i64]; omega
  go_enter Try.func55, Try.ntmps55
  go_wp2_with fail
  refine (hlen_any _ _ _ _).mono ?_
  rintro e w' ⟨rfl, rfl⟩
  go_wp2
  clear m1
  go_loopw [3] (fun i wr => ∃ (k : Nat) (l' : List DueV), i = .int .i64 ((k : Int) - 1) ∧ k ≤ l.length ∧ l'.Perm l ∧ heapFrom l' k l.length ∧ HeapAt wr lo hb g cap l' ∧ Keeps (fun q => q ≠ g) w wr) (fun i _ => (intOf i + 1).toNat)
  case atStart => exact ⟨l.length / 2, l, congrArg (Value.int .i64) (by omega), by omega, List.Perm.refl _, heapFrom_far (by omega), h, Keeps.refl _ _⟩
  case round =>
    obtain ⟨k, l', rfl, hk, hp, hfr, hA, hK⟩ := hrel
    have hn' : l.length ≤ l'.length := by rw [hp.length_eq]; exact Nat.le_refl _
    have hl' : l'.length ≤ 1048576 := by rw [hp.length_eq]; exact hl
    have HP : Hid (l'.Perm l) := hp
    have HE : Hid (∀ q, l.length ≤ q → dAt l' q = dAt l q) := fun q hq => by
      have : l'.length ≤ q := by rw [hp.length_eq]; exact hq
      simp [dAt, List.getD, List.getElem?_eq_none this, List.getElem?_eq_none hq]
    have HF : Hid (heapFrom l' k l.length) := hfr
    clear hp hfr h
    rcases k with _ | q
    · go_wp2
      go_end0
      exact ⟨rfl, l', HP.out, HE.out, HF.out, hA, hK⟩
    · have hq0 : ¬ (q : Int) < 0 := by omega
      have hwq : IntKind.i64.wrap ((q : Int) - 1) = (q : Int) - 1 := by rw [IntKind.wrap_i64]; omega
      go_wp2_with fail
      refine (hdown_any lo hb g cap l' q l.length _ hA hn' hl' (by omega) HF.out).mono ?_
      rintro e z2 ⟨⟨v, rfl⟩, l2, hT⟩
      have HP2 : Hid (l2.Perm l) := hT.perm.trans HP.out
      have HF2 : Hid (heapFrom l2 q l.length) := hT.heap
      have hA2 := hT.at'
      have hK2 := hK.trans hT.keep
      clear hT
      go_wp2
      go_roundw
      case rel => exact ⟨q, l2, rfl, by omega, HP2.out, HF2.out, hA2, hK2⟩
      case measure => simp [intOf]
end Go.Proofs.Ytlnkcbojoaoehaa
