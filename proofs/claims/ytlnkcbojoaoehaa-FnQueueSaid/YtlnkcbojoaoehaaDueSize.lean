/- The contracts of the exact laws' measure of what is due. -/
import Derived.Test.YtlnkcbojoaoehaaDueSpec
namespace Go.Proofs.Ytlnkcbojoaoehaa
open Go Go.RowKit
set_option linter.unusedVariables false

/-- What is left of a measure, or -1. -/
def leftOf (left : Int) (n : Nat) : Int := if left < (n : Int) then -1 else left - n
/-- The bytes of all texts. -/
def textSum : List DueV → Nat
  | [] => 0
  | d :: r => d.text.size + textSum r
theorem textSum_take {l : List DueV} {k : Nat} (h : k < l.length) : textSum (l.take (k + 1)) = textSum (l.take k) + l[k].text.size := by
  induction l generalizing k with
  | nil => simp at h
  | cons d r ih =>
    cases k with
    | zero => simp [textSum]
    | succ k => simp only [List.take_succ_cons, textSum, List.getElem_cons_succ]; rw [ih (by simpa using h)]; omega
set_option maxRecDepth 100000 in
theorem szDue_any (d : DueV) (left : Int) (w : World) (h0 : 0 ≤ left) (h1 : left ≤ 1048576) (hs : d.text.size ≤ 9223372036854775807) :
    Calls Try.prog 24 #[d.val, .int .i64 left] w fun e w' => e = .returned (.int .i64 (leftOf left d.text.size)) ∧ Below w.heap.size w w' := by
  unfold DueV.val
  have b1 := (Below.refl w.heap.size w).alloc (Nat.le_refl _) (.cells #[.int .i64 d.at0, .int .i64 d.seq, .int .i64 d.node, .string d.text] 44)
  have hw : IntKind.i64.wrap (left - (d.text.size : Int)) = left - (d.text.size : Int) := by rw [IntKind.wrap_i64]; omega
  by_cases hx : left < (d.text.size : Int)
  · have HE : Hid (leftOf left d.text.size = -1) := if_pos hx
    have hx' : left - (d.text.size : Int) < 0 := by omega
    go_enter Try.func24, Try.ntmps24
    go_wp2
    go_ret
    exact ⟨by rw [HE.out]; rfl, b1⟩
  · have HE : Hid (leftOf left d.text.size = left - (d.text.size : Int)) := if_neg hx
    have hx' : ¬ left - (d.text.size : Int) < 0 := by omega
    go_enter Try.func24, Try.ntmps24
    go_wp2
    go_ret
    exact ⟨by rw [HE.out]; rfl, b1⟩
theorem leftOf_leftOf {left : Int} {m n : Nat} (h : (m : Int) ≤ left) : leftOf (left - m) n = leftOf left (m + n) := by
  unfold leftOf
  by_cases hx : left - (m : Int) < (n : Int)
  · rw [if_pos hx, if_pos (by omega)]
  · rw [if_neg hx, if_neg (by omega)]; omega
theorem textSum_le {l : List DueV} (k : Nat) : textSum (l.take k) ≤ textSum l := by
  induction l generalizing k with
  | nil => simp [textSum]
  | cons d r ih =>
    cases k with
    | zero => simp [textSum]
    | succ k => simp only [List.take_succ_cons, textSum]; have := ih k; omega
set_option maxHeartbeats 1000000 in
set_option maxRecDepth 100000 in
theorem szDues_any (a : Option Addr) (cap : Nat) (l : List DueV) (left : Int) (w : World) (h0 : 0 ≤ left) (h1 : left ≤ 1048576) (hl : l.length ≤ 9223372036854775807) (hs : ∀ d ∈ l, d.text.size ≤ 9223372036854775807) (hrow : CellRow w a (cellsOf DueV.cells l)) :
    Calls Try.prog 21 #[.slice a l.length cap, .int .i64 left] w fun e w' => e = .returned (.int .i64 (leftOf left (l.length + textSum l))) ∧ Below w.heap.size w w' := by
  have hw : IntKind.i64.wrap (left - (l.length : Int)) = left - (l.length : Int) := by rw [IntKind.wrap_i64]; omega
  by_cases hx : left < (l.length : Int)
  · have HE : Hid (leftOf left (l.length + textSum l) = -1) := if_pos (by omega)
    have hx' : left - (l.length : Int) < 0 := by omega
    go_enter Try.func21, Try.ntmps21
    go_wp2
    go_ret
    exact ⟨by rw [HE.out]; rfl, Below.refl _ _⟩
  have hx' : ¬ left - (l.length : Int) < 0 := by omega
  go_enter Try.func21, Try.ntmps21
  go_wp2
  go_loopw [5, 1] (fun i q wr => ∃ k : Nat, k ≤ l.length ∧ i = .int .i64 k ∧ q = .int .i64 (left - (l.length : Int) - (textSum (l.take k) : Nat)) ∧ (l.length : Int) + (textSum (l.take k) : Nat) ≤ left ∧ Below w.heap.size w wr) (fun i _ _ => l.length - (intOf i).toNat)
  case atStart => exact ⟨0, Nat.zero_le _, rfl, by simp [textSum], by simp [textSum]; omega, Below.refl _ _⟩
  case round =>
    obtain ⟨k, hk, rfl, rfl, hle, hb⟩ := hrel
    by_cases hk2 : k < l.length
    · obtain ⟨b, off, rfl⟩ := hrow.addr (by rw [cellsOf_length DueV.cells_len]; omega)
      have hrow2 := hrow.keep hb
      have hsk := hs l[k] (List.getElem_mem hk2)
      have HT := textSum_take hk2
      obtain ⟨x1, x2, x3, x4, hlx⟩ : ∃ x1 x2 x3 x4, l[k] = ⟨x1, x2, x3, x4⟩ := ⟨_, _, _, _, rfl⟩
      have q0 := hrow2.thing0 DueV.cells_len (i := k) (v := .int .i64 x1) hk2 (by omega) (by rw [hlx]; rfl)
      have q1 := hrow2.thingj DueV.cells_len (i := k) (j := 1) (v := .int .i64 x2) hk2 (by omega) (by rw [hlx]; rfl)
      have q2 := hrow2.thingj DueV.cells_len (i := k) (j := 2) (v := .int .i64 x3) hk2 (by omega) (by rw [hlx]; rfl)
      have q3 := hrow2.thingj DueV.cells_len (i := k) (j := 3) (v := .string x4) hk2 (by omega) (by rw [hlx]; rfl)
      rw [hlx] at hsk HT
      have HTS : Hid (textSum (l.take (k + 1)) = textSum (l.take k) + x4.size) := HT
      have hall := textSum_le (l := l) (k + 1)
      obtain ⟨t, ht⟩ : ∃ t, textSum (l.take k) = t := ⟨_, rfl⟩
      rw [ht] at HTS hle ⊢
      have HA : Hid (textSum (l.take (k + 1)) ≤ textSum l) := hall
      clear hlx HT hrow2 ht hall
      have hk' : (k : Int) < (l.length : Int) := by omega
      go_wp2_with fail
      refine (szDue_any ⟨x1, x2, x3, x4⟩ _ _ (by omega) (by omega) hsk).mono ?_
      rintro e y1 ⟨rfl, by1⟩
      have hb1 := hb.trans (by1.mono hb.size)
      by_cases hy : left - (l.length : Int) - (t : Int) < (x4.size : Int)
      · have e1 : leftOf (left - (l.length : Int) - (t : Int)) (DueV.mk x1 x2 x3 x4).text.size = -1 := if_pos hy
        rw [e1]
        have HE : Hid (leftOf left (l.length + textSum l) = -1) := if_pos (by have := HTS.out; have := HA.out; omega)
        clear e1
        go_wp2
        go_ret
        exact ⟨by rw [HE.out]; rfl, hb1⟩
      · have e1 : leftOf (left - (l.length : Int) - (t : Int)) (DueV.mk x1 x2 x3 x4).text.size = left - (l.length : Int) - (t : Int) - (x4.size : Int) := if_neg hy
        rw [e1]
        have hy' : ¬ left - (l.length : Int) - (t : Int) - (x4.size : Int) < 0 := by omega
        clear e1
        go_wp2
        go_roundw
        case rel => exact ⟨k + 1, by omega, by go_num, by rw [HTS.out]; go_num, by rw [HTS.out]; omega, hb1⟩
        case measure => simp [intOf]; omega
    · obtain rfl : k = l.length := by omega
      rw [List.take_length] at hle ⊢
      have HE : Hid (leftOf left (l.length + textSum l) = left - (l.length : Int) - (textSum l : Nat)) := by
        show _ = _
        unfold leftOf
        rw [if_neg (by omega)]
        omega
      go_wp2
      go_ret
      exact ⟨by rw [HE.out]; rfl, hb⟩
end Go.Proofs.Ytlnkcbojoaoehaa
