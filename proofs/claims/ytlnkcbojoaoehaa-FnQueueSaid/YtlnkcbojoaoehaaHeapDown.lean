/- The contract of container/heap's down. -/
import Derived.Test.YtlnkcbojoaoehaaHeapOps
namespace Go.Proofs.Ytlnkcbojoaoehaa
open Go Go.RowKit
set_option linter.unusedVariables false

/-- A heap's list turned, below n, to a heap from i0 on. -/
structure Turned (lo hb g cap : Nat) (l : List DueV) (i0 n : Nat) (w w' : World) (l' : List DueV) : Prop where
  perm : l'.Perm l
  tail : ∀ k, n ≤ k → dAt l' k = dAt l k
  heap : heapFrom l' i0 n
  at' : HeapAt w' lo hb g cap l'
  keep : Keeps (fun k => k ≠ g) w w'
def DownPost (lo hb g cap : Nat) (l : List DueV) (i0 n : Nat) (w : World) (e : Ending) (w' : World) : Prop := (∃ v, e = .returned v) ∧ ∃ l', Turned lo hb g cap l i0 n w w' l'
set_option maxHeartbeats 2000000 in
set_option maxRecDepth 100000 in
theorem hdown_any (lo hb g cap : Nat) (l : List DueV) (i0 n : Nat) (w : World) (h : HeapAt w lo hb g cap l) (hn : n ≤ l.length) (hl : l.length ≤ 1048576) (hi0 : i0 ≤ 1048576) (hh : heapFrom l (i0 + 1) n) :
    Calls Try.prog 67 #[.iface 56 (.pointer (some ⟨hb, 0, none⟩)), .int .i64 i0, .int .i64 n] w (DownPost lo hb g cap l i0 n w) := by
  go_enter Try.func67, Try.ntmps67
  go_wp2
  go_loopw [7] (fun i wr => ∃ (k : Nat) (l' : List DueV), i = .int .i64 k ∧ i0 ≤ k ∧ k ≤ 1048576 ∧ l'.Perm l ∧ (∀ q, n ≤ q → dAt l' q = dAt l q) ∧ heapBut l' i0 k n ∧ HeapAt wr lo hb g cap l' ∧ Keeps (fun q => q ≠ g) w wr) (fun i _ => n - (intOf i).toNat)
  case atStart => exact ⟨i0, l, rfl, Nat.le_refl _, hi0, List.Perm.refl _, fun _ _ => rfl, heapBut_start hh, h, Keeps.refl _ _⟩
  case round =>
    obtain ⟨k, l', rfl, hk0, hkm, hp, ht, hbut, hA, hK⟩ := hrel
    have hw1 : IntKind.i64.wrap (2 * (k : Int)) = 2 * (k : Int) := by rw [IntKind.wrap_i64]; omega
    have hw2 : IntKind.i64.wrap (2 * (k : Int) + 1) = 2 * (k : Int) + 1 := by rw [IntKind.wrap_i64]; omega
    have hn' : n ≤ l'.length := by rw [hp.length_eq]; exact hn
    have HP : Hid (l'.Perm l) := hp
    have HT : Hid (∀ q, n ≤ q → dAt l' q = dAt l q) := ht
    have HB : Hid (heapBut l' i0 k n) := hbut
    clear hp ht hbut h hh
    by_cases h1 : (n : Int) ≤ 2 * (k : Int) + 1
    · have HH : Hid (heapFrom l' i0 n) := heapBut_done HB.out (fun c c0 cn cp => by omega)
      go_wp2
      go_ret
      exact ⟨⟨_, rfl⟩, l', HP.out, HT.out, HH.out, hA, hK⟩
    · have hw3 : IntKind.i64.wrap (2 * (k : Int) + 1 + 1) = 2 * (k : Int) + 1 + 1 := by rw [IntKind.wrap_i64]; omega
      have h10 : ¬ 2 * (k : Int) + 1 < 0 := by omega
      by_cases h2 : 2 * (k : Int) + 1 + 1 < (n : Int)
      · by_cases h4 : (dAt l' (2 * k + 1 + 1)).lt (dAt l' (2 * k + 1))
        · have HM : Hid (∀ c, 0 < c → c < n → (c - 1) / 2 = k → ¬ (dAt l' c).lt (dAt l' (2 * k + 1 + 1))) := fun c c0 cn cp => by
            obtain e | e : c = 2 * k + 1 ∨ c = 2 * k + 1 + 1 := by omega
            · rw [e]; exact DueV.lt_nlt h4
            · rw [e]; exact DueV.lt_irrefl _
          have m1 := m_less hb _ _ hA.box.cell
          have HQ : Hid ((dAt l' (2 * k + 1 + 1)).lt (dAt l' (2 * k + 1))) := h4
          clear h4
          go_wp2_with fail
          refine (hless_y lo hb g cap l' (2 * k + 1 + 1) (2 * k + 1) _ _ (by omega) (by omega) _ hA (by omega) (by omega) HQ.out).mono ?_
          rintro e z1 ⟨rfl, bz1⟩
          have hA1 := hA.keepB bz1
          have hK1 := hK.below bz1
          clear m1 hA
          by_cases h3 : (dAt l' (2 * k + 1 + 1)).lt (dAt l' k)
          · have HS : Hid (heapBut (swapD l' k (2 * k + 1 + 1)) i0 (2 * k + 1 + 1) n) := heapBut_step HB.out hk0 (by omega) (by omega) (by omega) (by omega) HM.out h3
            have HT2 : Hid (∀ q, n ≤ q → dAt (swapD l' k (2 * k + 1 + 1)) q = dAt l q) := fun q hq => by rw [dAt_swap (by omega) (by omega), if_neg (by omega), if_neg (by omega)]; exact HT.out q hq
            have HP2 : Hid ((swapD l' k (2 * k + 1 + 1)).Perm l) := (swapD_perm (by omega) (by omega)).trans HP.out
            have HL : Hid ((dAt l' (2 * k + 1 + 1)).lt (dAt l' k)) := h3
            clear h3
            have m2 := m_less hb _ _ hA1.box.cell
            go_wp2_with fail
            refine (hless_y lo hb g cap l' (2 * k + 1 + 1) k _ _ (by omega) (by omega) _ hA1 (by omega) (by omega) HL.out).mono ?_
            rintro e z2 ⟨rfl, bz2⟩
            have hA2 := hA1.keepB bz2
            have hK2 := hK1.below bz2
            have m3 := m_swap hb _ _ hA2.box.cell
            go_wp2_with fail
            refine (hswap_i lo hb g cap l' k (2 * k + 1 + 1) _ _ (by omega) (by omega) _ hA2 (by omega) (by omega)).mono ?_
            rintro e z3 ⟨rfl, hA3, bz3⟩
            have hK3 := hK2.trans bz3
            go_wp2
            go_roundw
            case rel => exact ⟨2 * k + 1 + 1, swapD l' k (2 * k + 1 + 1), by go_num, by omega, by omega, HP2.out, HT2.out, HS.out, hA3, hK3⟩
            case measure => simp [intOf]; omega
          · have HH : Hid (heapFrom l' i0 n) := heapBut_done HB.out (fun c c0 cn cp => DueV.nlt_trans (HM.out c c0 cn cp) h3)
            have HL : Hid (¬ (dAt l' (2 * k + 1 + 1)).lt (dAt l' k)) := h3
            clear h3
            have m2 := m_less hb _ _ hA1.box.cell
            go_wp2_with fail
            refine (hless_n lo hb g cap l' (2 * k + 1 + 1) k _ _ (by omega) (by omega) _ hA1 (by omega) (by omega) HL.out).mono ?_
            rintro e z2 ⟨rfl, bz2⟩
            have hA2 := hA1.keepB bz2
            have hK2 := hK1.below bz2
            go_wp2
            go_ret
            exact ⟨⟨_, rfl⟩, l', HP.out, HT.out, HH.out, hA2, hK2⟩
        · have HM : Hid (∀ c, 0 < c → c < n → (c - 1) / 2 = k → ¬ (dAt l' c).lt (dAt l' (2 * k + 1))) := fun c c0 cn cp => by
            obtain e | e : c = 2 * k + 1 ∨ c = 2 * k + 1 + 1 := by omega
            · rw [e]; exact DueV.lt_irrefl _
            · rw [e]; exact h4
          have m1 := m_less hb _ _ hA.box.cell
          have HQ : Hid (¬ (dAt l' (2 * k + 1 + 1)).lt (dAt l' (2 * k + 1))) := h4
          clear h4
          go_wp2_with fail
          refine (hless_n lo hb g cap l' (2 * k + 1 + 1) (2 * k + 1) _ _ (by omega) (by omega) _ hA (by omega) (by omega) HQ.out).mono ?_
          rintro e z1 ⟨rfl, bz1⟩
          have hA1 := hA.keepB bz1
          have hK1 := hK.below bz1
          clear m1 hA
          by_cases h3 : (dAt l' (2 * k + 1)).lt (dAt l' k)
          · have HS : Hid (heapBut (swapD l' k (2 * k + 1)) i0 (2 * k + 1) n) := heapBut_step HB.out hk0 (by omega) (by omega) (by omega) (by omega) HM.out h3
            have HT2 : Hid (∀ q, n ≤ q → dAt (swapD l' k (2 * k + 1)) q = dAt l q) := fun q hq => by rw [dAt_swap (by omega) (by omega), if_neg (by omega), if_neg (by omega)]; exact HT.out q hq
            have HP2 : Hid ((swapD l' k (2 * k + 1)).Perm l) := (swapD_perm (by omega) (by omega)).trans HP.out
            have HL : Hid ((dAt l' (2 * k + 1)).lt (dAt l' k)) := h3
            clear h3
            have m2 := m_less hb _ _ hA1.box.cell
            go_wp2_with fail
            refine (hless_y lo hb g cap l' (2 * k + 1) k _ _ (by omega) (by omega) _ hA1 (by omega) (by omega) HL.out).mono ?_
            rintro e z2 ⟨rfl, bz2⟩
            have hA2 := hA1.keepB bz2
            have hK2 := hK1.below bz2
            have m3 := m_swap hb _ _ hA2.box.cell
            go_wp2_with fail
            refine (hswap_i lo hb g cap l' k (2 * k + 1) _ _ (by omega) (by omega) _ hA2 (by omega) (by omega)).mono ?_
            rintro e z3 ⟨rfl, hA3, bz3⟩
            have hK3 := hK2.trans bz3
            go_wp2
            go_roundw
            case rel => exact ⟨2 * k + 1, swapD l' k (2 * k + 1), by go_num, by omega, by omega, HP2.out, HT2.out, HS.out, hA3, hK3⟩
            case measure => simp [intOf]; omega
          · have HH : Hid (heapFrom l' i0 n) := heapBut_done HB.out (fun c c0 cn cp => DueV.nlt_trans (HM.out c c0 cn cp) h3)
            have HL : Hid (¬ (dAt l' (2 * k + 1)).lt (dAt l' k)) := h3
            clear h3
            have m2 := m_less hb _ _ hA1.box.cell
            go_wp2_with fail
            refine (hless_n lo hb g cap l' (2 * k + 1) k _ _ (by omega) (by omega) _ hA1 (by omega) (by omega) HL.out).mono ?_
            rintro e z2 ⟨rfl, bz2⟩
            have hA2 := hA1.keepB bz2
            have hK2 := hK1.below bz2
            go_wp2
            go_ret
            exact ⟨⟨_, rfl⟩, l', HP.out, HT.out, HH.out, hA2, hK2⟩
      · have HM : Hid (∀ c, 0 < c → c < n → (c - 1) / 2 = k → ¬ (dAt l' c).lt (dAt l' (2 * k + 1))) := fun c c0 cn cp => by
          obtain e : c = 2 * k + 1 := by omega
          rw [e]; exact DueV.lt_irrefl _
        by_cases h3 : (dAt l' (2 * k + 1)).lt (dAt l' k)
        · have HS : Hid (heapBut (swapD l' k (2 * k + 1)) i0 (2 * k + 1) n) := heapBut_step HB.out hk0 (by omega) (by omega) (by omega) (by omega) HM.out h3
          have HT2 : Hid (∀ q, n ≤ q → dAt (swapD l' k (2 * k + 1)) q = dAt l q) := fun q hq => by rw [dAt_swap (by omega) (by omega), if_neg (by omega), if_neg (by omega)]; exact HT.out q hq
          have HP2 : Hid ((swapD l' k (2 * k + 1)).Perm l) := (swapD_perm (by omega) (by omega)).trans HP.out
          have HL : Hid ((dAt l' (2 * k + 1)).lt (dAt l' k)) := h3
          clear h3
          have m2 := m_less hb _ _ hA.box.cell
          go_wp2_with fail
          refine (hless_y lo hb g cap l' (2 * k + 1) k _ _ (by omega) (by omega) _ hA (by omega) (by omega) HL.out).mono ?_
          rintro e z2 ⟨rfl, bz2⟩
          have hA2 := hA.keepB bz2
          have hK2 := hK.below bz2
          have m3 := m_swap hb _ _ hA2.box.cell
          go_wp2_with fail
          refine (hswap_i lo hb g cap l' k (2 * k + 1) _ _ (by omega) (by omega) _ hA2 (by omega) (by omega)).mono ?_
          rintro e z3 ⟨rfl, hA3, bz3⟩
          have hK3 := hK2.trans bz3
          go_wp2
          go_roundw
          case rel => exact ⟨2 * k + 1, swapD l' k (2 * k + 1), by go_num, by omega, by omega, HP2.out, HT2.out, HS.out, hA3, hK3⟩
          case measure => simp [intOf]; omega
        · have HH : Hid (heapFrom l' i0 n) := heapBut_done HB.out (fun c c0 cn cp => DueV.nlt_trans (HM.out c c0 cn cp) h3)
          have HL : Hid (¬ (dAt l' (2 * k + 1)).lt (dAt l' k)) := h3
          clear h3
          have m2 := m_less hb _ _ hA.box.cell
          go_wp2_with fail
          refine (hless_n lo hb g cap l' (2 * k + 1) k _ _ (by omega) (by omega) _ hA (by omega) (by omega) HL.out).mono ?_
          rintro e z2 ⟨rfl, bz2⟩
          have hA2 := hA.keepB bz2
          have hK2 := hK.below bz2
          go_wp2
          go_ret
          exact ⟨⟨_, rfl⟩, l', HP.out, HT.out, HH.out, hA2, hK2⟩
end Go.Proofs.Ytlnkcbojoaoehaa
