/- The contracts of the exact laws' marks and holds of what is due. -/
import Derived.Test.YtlnkcbojoaoehaaMarkT
import Derived.Test.YtlnkcbojoaoehaaHeapOps
import Derived.Test.YtlnkcbojoaoehaaQOut
namespace Go.Proofs.Ytlnkcbojoaoehaa
open Go Go.RowKit
set_option linter.unusedVariables false

theorem markText_i (k : Nat) (K : Int) (e : K = (k : Int)) (w : World) (h0 : 0 < k) (hk : k ≤ 1000000000) : Calls Try.prog 48 #[.int .i64 K] w fun e w' => e = .returned (.string (mtext k)) ∧ Below w.heap.size w w' := by
  subst e; exact markText_any k w h0 hk
def markOne (k : Nat) : DueV := ⟨k, (k + 1 : Nat), (k + 2 : Nat), mtext (k + 3)⟩
def markL : Nat → Nat → List DueV
  | 0, _ => []
  | n + 1, k => markL n k ++ [markOne (k + 4 * n)]
theorem markL_length (n k : Nat) : (markL n k).length = n := by
  induction n with
  | zero => rfl
  | succ n ih => simp [markL, ih]
theorem markL_at (n k i : Nat) (h : i < n) : (markL n k)[i]'(by rw [markL_length]; exact h) = markOne (k + 4 * i) := by
  induction n with
  | zero => omega
  | succ n ih =>
    simp only [markL]
    by_cases e : i < n
    · rw [List.getElem_append_left (by rw [markL_length]; exact e)]
      exact ih e
    · obtain rfl : i = n := by omega
      rw [List.getElem_append_right (by rw [markL_length]; exact Nat.le_refl _)]
      simp [markL_length]
theorem mark_set {l : List DueV} {q k : Nat} (hq : q < l.length) : (markL q k ++ l.drop q).set q (markOne (k + 4 * q)) = markL (q + 1) k ++ l.drop (q + 1) := by
  rw [List.set_append_right _ _ (by rw [markL_length]; exact Nat.le_refl _), markL_length, Nat.sub_self, List.drop_eq_getElem_cons hq, List.set_cons_zero, markL, List.append_assoc]
  rfl
set_option maxHeartbeats 1000000 in
set_option maxRecDepth 100000 in
theorem markDues_some (lo b cap : Nat) (l : List DueV) (k : Nat) (w : World) (hl : l.length ≤ 1048576) (hk0 : 0 < k) (hk : k ≤ 100000000) (ho : OwnCells w lo (some ⟨b, 0, none⟩) (cellsOf DueV.cells l)) :
    Calls Try.prog 27 #[.slice (some ⟨b, 0, none⟩) l.length cap, .int .i64 k] w fun e w' => e = .returned (.int .i64 (k + 4 * l.length : Nat)) ∧ OwnCells w' lo (some ⟨b, 0, none⟩) (cellsOf DueV.cells (markL l.length k)) ∧ Keeps (fun q => q ≠ b) w w' := by
  go_enter Try.func27, Try.ntmps27
  go_wp2
  go_loopw [5, 1] (fun i t wr => ∃ q : Nat, q ≤ l.length ∧ i = .int .i64 q ∧ t = .int .i64 (k + 4 * q : Nat) ∧ OwnCells wr lo (some ⟨b, 0, none⟩) (cellsOf DueV.cells (markL q k ++ l.drop q)) ∧ Keeps (fun q => q ≠ b) w wr) (fun i _ _ => l.length - (intOf i).toNat)
  case atStart => exact ⟨0, Nat.zero_le _, rfl, rfl, by simpa [markL] using ho, Keeps.refl _ _⟩
  case round =>
    obtain ⟨q, hq, rfl, rfl, hO, hK⟩ := hrel
    clear ho
    by_cases hx : q < l.length
    · have hTl : (cellsOf DueV.cells (markL q k ++ l.drop q)).length = l.length * 4 := by
        rw [cellsOf_length DueV.cells_len, List.length_append, markL_length, List.length_drop]; omega
      have HC := cellsOf_set (l := markL q k ++ l.drop q) (i := q) (by rw [List.length_append, markL_length, List.length_drop]; omega) (markOne (k + 4 * q))
      rw [mark_set hx] at HC
      have HCH : Hid (_ = _) := HC
      clear HC
      obtain ⟨c0, f0⟩ := hO.at0 (n := q * 4) (by omega)
      obtain ⟨c1, f1⟩ := hO.at0 (n := q * 4 + 1) (by omega)
      obtain ⟨c2, f2⟩ := hO.at0 (n := q * 4 + 2) (by omega)
      obtain ⟨t0, ht0⟩ : ∃ t, (cellsOf DueV.cells (markL q k ++ l.drop q))[q * 4]'(by omega) = t := ⟨_, rfl⟩
      obtain ⟨t1, ht1⟩ : ∃ t, (cellsOf DueV.cells (markL q k ++ l.drop q))[q * 4 + 1]'(by omega) = t := ⟨_, rfl⟩
      obtain ⟨t2, ht2⟩ : ∃ t, (cellsOf DueV.cells (markL q k ++ l.drop q))[q * 4 + 2]'(by omega) = t := ⟨_, rfl⟩
      rw [ht0] at c0
      rw [ht1] at c1
      rw [ht2] at c2
      clear ht0 ht1 ht2
      obtain ⟨K, hKe⟩ : ∃ K : Nat, k + 4 * q = K := ⟨_, rfl⟩
      have hK1 : K ≤ 200000000 := by omega
      have hK0 : 0 < K := by omega
      have hw1 : IntKind.i64.wrap ((K : Int) + 1) = (K : Int) + 1 := by rw [IntKind.wrap_i64]; omega
      have hw2 : IntKind.i64.wrap ((K : Int) + 1 + 1) = (K : Int) + 1 + 1 := by rw [IntKind.wrap_i64]; omega
      have hw3 : IntKind.i64.wrap ((K : Int) + 1 + 1 + 1) = (K : Int) + 1 + 1 + 1 := by rw [IntKind.wrap_i64]; omega
      have hw4 : IntKind.i64.wrap ((K : Int) + 1 + 1 + 1 + 1) = (K : Int) + 1 + 1 + 1 + 1 := by rw [IntKind.wrap_i64]; omega
      rw [hKe]
      have HKE : Hid (k + 4 * q = K) := hKe
      clear hKe
      have h3 := ((hO.put0 (n := q * 4) (.int .i64 (K : Int)) (by omega)).put0 (n := q * 4 + 1) (.int .i64 ((K : Int) + 1)) (by simp only [List.length_set]; omega)).put0 (n := q * 4 + 2) (.int .i64 ((K : Int) + 1 + 1)) (by simp only [List.length_set]; omega)
      have K3 : Keeps (fun q => q ≠ b) w (((wr.setCell ⟨b, q * 4, none⟩ (.int .i64 (K : Int))).setCell ⟨b, q * 4 + 1, none⟩ (.int .i64 ((K : Int) + 1))).setCell ⟨b, q * 4 + 2, none⟩ (.int .i64 ((K : Int) + 1 + 1))) := ((hK.setCell (fun h => h rfl) _).setCell (fun h => h rfl) _).setCell (fun h => h rfl) _
      obtain ⟨W3, hW3⟩ : ∃ W3, (((wr.setCell ⟨b, q * 4, none⟩ (.int .i64 (K : Int))).setCell ⟨b, q * 4 + 1, none⟩ (.int .i64 ((K : Int) + 1))).setCell ⟨b, q * 4 + 2, none⟩ (.int .i64 ((K : Int) + 1 + 1))) = W3 := ⟨_, rfl⟩
      rw [hW3] at h3 K3
      have HW3 : Hid ((((wr.setCell ⟨b, q * 4, none⟩ (.int .i64 (K : Int))).setCell ⟨b, q * 4 + 1, none⟩ (.int .i64 ((K : Int) + 1))).setCell ⟨b, q * 4 + 2, none⟩ (.int .i64 ((K : Int) + 1 + 1))) = W3) := hW3
      have hxI : (q : Int) < (l.length : Int) := by omega
      clear hW3 hO hK
      go_wp2_with fail
      rw [HW3.out]
      refine (markText_i (K + 3) _ (by omega) _ (by omega) (by omega)).mono ?_
      rintro e z ⟨rfl, bz⟩
      have h4 := h3.keep bz
      have K4 := K3.below bz
      obtain ⟨c3, f3⟩ := h4.at0 (n := q * 4 + 3) (by simp only [List.length_set]; omega)
      obtain ⟨t3, ht3⟩ : ∃ t, ((((cellsOf DueV.cells (markL q k ++ l.drop q)).set (q * 4) (.int .i64 (K : Int))).set (q * 4 + 1) (.int .i64 ((K : Int) + 1))).set (q * 4 + 2) (.int .i64 ((K : Int) + 1 + 1)))[q * 4 + 3]'(by simp only [List.length_set]; omega) = t := ⟨_, rfl⟩
      rw [ht3] at c3
      clear ht3
      have h5 := h4.put0 (n := q * 4 + 3) (.string (mtext (K + 3))) (by simp only [List.length_set]; omega)
      have HO5 : Hid (OwnCells (z.setCell ⟨b, q * 4 + 3, none⟩ (.string (mtext (K + 3)))) lo (some ⟨b, 0, none⟩) (cellsOf DueV.cells (markL (q + 1) k ++ l.drop (q + 1)))) := by
        show OwnCells _ _ _ _
        have e := HCH.out
        rw [HKE.out] at e
        rw [e]
        exact h5
      have K5 := K4.setCell (p := ⟨b, q * 4 + 3, none⟩) (fun h => h rfl) (.string (mtext (K + 3)))
      have HK5 : Hid (Keeps (fun q => q ≠ b) w (z.setCell ⟨b, q * 4 + 3, none⟩ (.string (mtext (K + 3))))) := K5
      clear h3 h4 h5 K3 K4 K5 HW3 bz c0 c1 c2 f0 f1 f2 HCH
      go_wp2
      go_roundw
      case rel => exact ⟨q + 1, by omega, by go_num, congrArg (Value.int .i64) (by have := HKE.out; omega), HO5.out, HK5.out⟩
      case measure => simp [intOf]; omega
    · obtain rfl : q = l.length := by omega
      rw [List.drop_length, List.append_nil] at hO
      go_wp2
      go_ret
      exact ⟨rfl, hO, hK⟩
end Go.Proofs.Ytlnkcbojoaoehaa
