/- The contracts of PutNum. -/
import Derived.Test.YtgmdgjkmdnpmiaaChecked
import Derived.Test.YtgmdgjkmdnpmiaaPlain1
import Derived.WalkKit
import Derived.WalkLawsBesides
import Derived.WalkSpells
namespace Go.Proofs.Ytgmdgjkmdnpmiaa
set_option linter.unusedVariables false
open Go Go.RowKit

theorem implFold_any (n : Int) (w : World) (hn : (Lit.int .i64 n).wf = true) :
    Calls Try.prog 38 #[.int .i64 n] w fun e w' => e = .returned (.int .u64 (foldN n : Nat)) ∧ w = w' := by
  by_cases h : n < 0
  · go_enter Try.func38, Try.ntmps38
    go_wp2
    go_ret
    exact ⟨ret_int (fold_d hn (by omega)), rfl⟩
  · go_enter Try.func38, Try.ntmps38
    go_wp2
    go_ret
    exact ⟨ret_int (fold_c hn (by omega)), rfl⟩
theorem specFold_any (n : Int) (w : World) (hn : (Lit.int .i64 n).wf = true) :
    Calls Try.prog 37 #[.int .i64 n] w fun e w' => e = .returned (.int .u64 (foldN n : Nat)) ∧ w = w' := by
  by_cases h : n < 0
  all_goals
    go_enter Try.func37, Try.ntmps37
    go_wp2
    go_ret
    exact ⟨ret_int (by first | exact fold_a hn h | exact fold_b hn (by omega)), rfl⟩

theorem Try.infoU8 : (Try.prog.info? 5).map (fun i => (i.zero, i.size, i.bytes)) = some (some (.int .u8 0), 1, 1) := by kernel_rfl

set_option maxHeartbeats 1000000 in
set_option maxRecDepth 100000 in
theorem specPut_any (n : Int) (w : World) (hn : (Lit.int .i64 n).wf = true) :
    Calls Try.prog 31 #[.int .i64 n] w fun e w' => e = .returned (.string ⟨(putN n).toArray⟩) ∧ Below w.heap.size w w' := by
  have hlt := fold_lt hn
  obtain ⟨i0, hi, hz0, hz1, hz2⟩ := info_parts Try.infoU8
  go_enter Try.func31, Try.ntmps31
  go_wp2_with (go_at_call 37; refine (specFold_any _ _ hn).mono ?_; rintro e w' ⟨rfl, rfl⟩)
  go_loopw [3, 4] (fun u b wr => ∃ (x : Nat) (l : List UInt8), u = .int .u64 x ∧ l.length ≤ 9 ∧ x * 128 ^ l.length < 18446744073709551616 ∧ l ++ vb (9 - l.length) x = putN n ∧ wr.ownsRow w.heap.size 5 1 b l.length (bytesV l) ∧ Below w.heap.size w wr) (fun u _ _ => (intOf u).toNat)
  case atStart => exact ⟨foldN n, [], rfl, by simp, by simpa using hlt, rfl, World.ownsRow_lit _ #[] 0 (Nat.le_refl _) (by simp [maxLen]) rfl, (Below.refl _ _).alloc (Nat.le_refl _) _⟩
  case round =>
    obtain ⟨x, l, rfl, hl, hpow, hput, hown, hnx⟩ := hrel
    have HP : Hid (l ++ vb (9 - l.length) x = putN n) := hput
    clear hput
    by_cases hx : x < 128
    · have hx' : (x : Int) < 128 := by omega
      go_wp2_with (at_builtin; refine wpList_append_own _ rfl _ _ 44 rfl w.heap.size 5 i0 (.int .u8 0) 1 1 Try.underlying44 hi hz0 hz1 hz2 rfl (by decide) _ _ _ rfl (hown.alloc _) ⟨wr.heap.size, 0, none⟩ 1 1 [.int .u8 ((UInt8.ofNat x).toNat : Int)] rfl rfl ?c1 ?c2 ?c3 ?c4 ?c5 ?_)
      case c1 => rw [byteLast hx]; exact cell_one_new _ _ _
      case c2 => intro u hu; simp at hu; subst hu; rfl
      case c3 => unfold maxLen; omega
      case c4 => omega
      case c5 => have := hnx.size; simp; omega
      · intro v' w1 hown' hgrow _
        have hb : Below w.heap.size w w1 := (hnx.alloc hnx.size _).grown hgrow (by have := hnx.size; simp; omega) (fun k hk => (hown.lt k hk).1)
        have ho : w1.ownsRow w.heap.size 5 1 v' (l ++ [UInt8.ofNat x]).length (bytesV (l ++ [UInt8.ofNat x])) := by rw [bytesV_append, List.length_append]; exact hown'
        have he : l ++ [UInt8.ofNat x] = putN n := by rw [← HP.out, vb_last _ hx]
        rw [he] at ho
        have hcv := convert_own (P := Try.prog) (src := 44) (dst := 9) Try.underlying44 Try.underlying5 Try.underlying9 ho
        clear hown' hgrow hown hnx hl hpow HP ho he
        go_wp2
        go_ret
        exact ⟨rfl, hb⟩
    · have hx' : 128 ≤ (x : Int) := by omega
      have hx64 : (x : Int) < 18446744073709551616 := x_lt hpow
      go_wp2_with (at_builtin; refine wpList_append_own _ rfl _ _ 44 rfl w.heap.size 5 i0 (.int .u8 0) 1 1 Try.underlying44 hi hz0 hz1 hz2 rfl (by decide) _ _ _ rfl (hown.alloc _) ⟨wr.heap.size, 0, none⟩ 1 1 [.int .u8 ((UInt8.ofNat (x % 128 + 128)).toNat : Int)] rfl rfl ?c1 ?c2 ?c3 ?c4 ?c5 ?_)
      case c1 => rw [byteMore]; exact cell_one_new _ _ _
      case c2 => intro u hu; simp at hu; subst hu; rfl
      case c3 => unfold maxLen; omega
      case c4 => omega
      case c5 => have := hnx.size; simp; omega
      · intro v' w1 hown' hgrow _
        have R := vb_step hl hpow hx HP.out
        have hb : Below w.heap.size w w1 := (hnx.alloc hnx.size _).grown hgrow (by have := hnx.size; simp; omega) (fun k hk => (hown.lt k hk).1)
        have ho : w1.ownsRow w.heap.size 5 1 v' (l ++ [UInt8.ofNat (x % 128 + 128)]).length (bytesV (l ++ [UInt8.ofNat (x % 128 + 128)])) := by rw [bytesV_append, List.length_append]; exact hown'
        clear hown' hgrow hown hnx hl hpow HP
        go_wp2
        go_roundw
        case rel => exact ⟨x / 128, l ++ [UInt8.ofNat (x % 128 + 128)], by go_num, R.1, R.2.1, R.2.2, ho, hb⟩
        case measure => simp [intOf]; omega

set_option maxHeartbeats 1000000 in
set_option maxRecDepth 100000 in
theorem implPut_any (n : Int) (w : World) (hn : (Lit.int .i64 n).wf = true) :
    Calls Try.prog 32 #[.int .i64 n] w fun e w' => e = .returned (.string ⟨(putN n).toArray⟩) ∧ Below w.heap.size w w' := by
  have hlt := fold_lt hn
  obtain ⟨i0, hi, hz0, hz1, hz2⟩ := info_parts Try.infoU8
  go_enter Try.func32, Try.ntmps32
  go_wp2_with (go_at_call 38; refine (implFold_any _ _ hn).mono ?_; rintro e w' ⟨rfl, rfl⟩)
  go_loopw [3, 4] (fun u b wr => ∃ (x : Nat) (l : List UInt8), u = .int .u64 x ∧ l.length ≤ 9 ∧ x * 128 ^ l.length < 18446744073709551616 ∧ l ++ vb (9 - l.length) x = putN n ∧ wr.ownsRow w.heap.size 5 1 b l.length (bytesV l) ∧ Below w.heap.size w wr) (fun u _ _ => (intOf u).toNat)
  case atStart => exact ⟨foldN n, [], rfl, by simp, by simpa using hlt, rfl, World.ownsRow_nil _ _ _ _, Below.refl _ _⟩
  case round =>
    obtain ⟨x, l, rfl, hl, hpow, hput, hown, hnx⟩ := hrel
    have HP : Hid (l ++ vb (9 - l.length) x = putN n) := hput
    clear hput
    by_cases hx : x < 128
    · have hx' : (x : Int) ≤ 127 := by omega
      go_wp2_with (at_builtin; refine wpList_append_own _ rfl _ _ 44 rfl w.heap.size 5 i0 (.int .u8 0) 1 1 Try.underlying44 hi hz0 hz1 hz2 rfl (by decide) _ _ _ rfl (hown.alloc _) ⟨wr.heap.size, 0, none⟩ 1 1 [.int .u8 ((UInt8.ofNat x).toNat : Int)] rfl rfl ?c1 ?c2 ?c3 ?c4 ?c5 ?_)
      case c1 => rw [byteLast hx]; exact cell_one_new _ _ _
      case c2 => intro u hu; simp at hu; subst hu; rfl
      case c3 => unfold maxLen; omega
      case c4 => omega
      case c5 => have := hnx.size; simp; omega
      · intro v' w1 hown' hgrow _
        have hb : Below w.heap.size w w1 := (hnx.alloc hnx.size _).grown hgrow (by have := hnx.size; simp; omega) (fun k hk => (hown.lt k hk).1)
        have ho : w1.ownsRow w.heap.size 5 1 v' (l ++ [UInt8.ofNat x]).length (bytesV (l ++ [UInt8.ofNat x])) := by rw [bytesV_append, List.length_append]; exact hown'
        have he : l ++ [UInt8.ofNat x] = putN n := by rw [← HP.out, vb_last _ hx]
        rw [he] at ho
        have hcv := convert_own (P := Try.prog) (src := 44) (dst := 9) Try.underlying44 Try.underlying5 Try.underlying9 ho
        clear hown' hgrow hown hnx hl hpow HP ho he
        go_wp2
        go_ret
        exact ⟨rfl, hb⟩
    · have hx' : 127 < (x : Int) := by omega
      have hx64 : (x : Int) < 18446744073709551616 := x_lt hpow
      go_wp2_with (at_builtin; refine wpList_append_own _ rfl _ _ 44 rfl w.heap.size 5 i0 (.int .u8 0) 1 1 Try.underlying44 hi hz0 hz1 hz2 rfl (by decide) _ _ _ rfl (hown.alloc _) ⟨wr.heap.size, 0, none⟩ 1 1 [.int .u8 ((UInt8.ofNat (x % 128 + 128)).toNat : Int)] rfl rfl ?c1 ?c2 ?c3 ?c4 ?c5 ?_)
      case c1 => rw [byteMore, ← byteOr hx64]; exact cell_one_new _ _ _
      case c2 => intro u hu; simp at hu; subst hu; rfl
      case c3 => unfold maxLen; omega
      case c4 => omega
      case c5 => have := hnx.size; simp; omega
      · intro v' w1 hown' hgrow _
        have R := vb_step hl hpow hx HP.out
        have hb : Below w.heap.size w w1 := (hnx.alloc hnx.size _).grown hgrow (by have := hnx.size; simp; omega) (fun k hk => (hown.lt k hk).1)
        have ho : w1.ownsRow w.heap.size 5 1 v' (l ++ [UInt8.ofNat (x % 128 + 128)]).length (bytesV (l ++ [UInt8.ofNat (x % 128 + 128)])) := by rw [bytesV_append, List.length_append]; exact hown'
        clear hown' hgrow hown hnx hl hpow HP
        go_wp2
        go_roundw
        case rel => exact ⟨x / 128, l ++ [UInt8.ofNat (x % 128 + 128)], by go_num, R.1, R.2.1, R.2.2, ho, hb⟩
        case measure => simp [intOf]; omega
end Go.Proofs.Ytgmdgjkmdnpmiaa
