/- The contracts of the lists that promise 3 draws. -/
import Derived.Test.YtndflppphhofkaaDrawL
namespace Go.Proofs.Ytndflppphhofkaa
open Go Go.RowKit
set_option linter.unusedVariables false

theorem between_any (b : Nat) (a : Option Addr) (len cap : Nat) (zs : List Int) (low high : Int) (h0 : 0 ≤ low) (h1 : low ≤ high) (h2 : high ≤ 1000000) (w : World) (hs : Src w b a len cap zs) :
    Calls Try.prog 53 #[.pointer (some ⟨b, 0, none⟩), .int .i64 low, .int .i64 high] w fun e w' =>
      ∃ r : Int, e = .returned (.int .i64 r) ∧ low ≤ r ∧ r ≤ high ∧ Src w' b a len cap zs ∧ w.grownBy w' (some b) := by
  go_enter Try.func53, Try.ntmps53
  go_wp2_with fail
  refine (n_any b a len cap zs _ (by omega) _ hs).mono ?_
  rintro e w1 ⟨r, rfl, hr0, hr1, hs1, hg1⟩
  have hb : 0 ≤ r ∧ r ≤ high - low := by
    by_cases h : low = high
    · have := hr0 (by omega); omega
    · have := hr1 (by omega); omega
  obtain ⟨hb0, hb1⟩ := hb
  clear hr0 hr1
  go_wp2
  go_ret
  exact ⟨low + r, rfl, by omega, by omega, hs1, hg1⟩

set_option maxHeartbeats 1000000 in
set_option maxRecDepth 100000 in
theorem list_any (b : Nat) (a : Option Addr) (len cap : Nat) (zs : List Int) (n0 : Nat) (low high : Int) (h0 : 0 ≤ low) (h1 : low ≤ high) (h2 : high ≤ 1000000) (hn : n0 ≤ 1000) (w : World) (hs : Src w b a len cap zs) :
    Calls Try.prog 40 #[.pointer (some ⟨b, 0, none⟩), .int .i64 (n0 : Nat), .int .i64 low, .int .i64 high] w fun e w' =>
      ∃ v l, e = .returned v ∧ l.length = n0 ∧ RowSome w' w.heap.size v l ∧ Src w' b a len cap zs ∧ w.grownBy w' (some b) := by
  have hlt := hs.lt
  have hrl := hs.row_lt
  go_enter Try.func40, Try.ntmps40
  go_wp2
  go_loopw [1, 9] (fun i v wr => ∃ (l : List Int) (k : Nat), l.length + k = n0 ∧ i = .int .i64 k ∧ RowSome wr w.heap.size v l ∧ Src wr b a len cap zs ∧ w.grownBy wr (some b)) (fun i _ _ => (intOf i).toNat)
  case atStart => exact ⟨[], n0, by simp, rfl, rowSome_lit _, hs.alloc _, World.grownBy_alloc _ _ _⟩
  case round =>
    obtain ⟨l, k, hl, rfl, hrs, hsr, hgr⟩ := hrel
    have HR : Hid (RowSome wr w.heap.size u9 l) := hrs
    have hown := hrs.1
    clear hrs
    by_cases hx : 0 < k
    · have hx' : (0 : Int) < (k : Int) := by omega
      go_wp2_with fail
      refine (between_any b a len cap zs low high h0 h1 h2 _ hsr).mono ?_
      rintro e w1 ⟨r, rfl, _, _, hs1, hg1⟩
      have hown1 : w1.ownsRow w.heap.size 2 1 u9 l.length (numsV l) := hown.kept hg1 (.inr (fun e => by have := (hown.lt b e).1; omega))
      have hgw := grown_trans hgr hg1
      clear hown hsr hgr hg1 HR
      go_wp2_with (at_builtin; refine append_one rfl _ _ rfl w.heap.size _ l r rfl w1 rfl hown1 rfl (by omega) hgw.size ?_)
      intro v' w2 hown' hgrow
      have hbl : Below w.heap.size w1 w2 := ((Below.refl w.heap.size w1).alloc hgw.size _).grown hgrow (by have := hgw.size; simp; omega) (fun g hg => (hown1.lt g hg).1)
      have hs2 := hs1.keep hbl hlt hrl
      have hg2 : w.grownBy w2 (some b) := grown_own (grown_alloc hgw _) hgrow (fun g hg => (hown1.lt g hg).1)
      have HO : Hid (RowSome w2 w.heap.size v' (l ++ [r])) := rowSome_pos (by rw [List.length_append]; exact hown') (by simp)
      clear hown' hgrow hown1 hgw hs1 hbl
      go_wp2
      go_roundw
      case rel => exact ⟨l ++ [r], k - 1, by rw [List.length_append]; simp; omega, by go_num, HO.out, hs2, hg2⟩
      case measure => simp [intOf]; omega
    · obtain rfl : k = 0 := by omega
      clear hown
      go_wp2
      go_ret
      exact ⟨_, l, rfl, by omega, HR.out, hsr, hgr⟩

set_option maxHeartbeats 1000000 in
set_option maxRecDepth 100000 in
theorem rising_any (b : Nat) (a : Option Addr) (len cap : Nat) (zs : List Int) (n0 : Nat) (of : Int) (hof : of ≤ 1000000) (hn : n0 ≤ 1000) (w : World) (hs : Src w b a len cap zs) :
    Calls Try.prog 54 #[.pointer (some ⟨b, 0, none⟩), .int .i64 (n0 : Nat), .int .i64 of] w fun e w' =>
      ∃ v l, e = .returned v ∧ l.length ≤ n0 ∧ RowSome w' w.heap.size v l ∧ Src w' b a len cap zs ∧ w.grownBy w' (some b) := by
  have hlt := hs.lt
  have hrl := hs.row_lt
  go_enter Try.func54, Try.ntmps54
  go_wp2
  go_loopw [8, 7] (fun i v wr => ∃ (l : List Int) (k : Nat), l.length ≤ k ∧ k ≤ n0 ∧ i = .int .i64 k ∧ RowSome wr w.heap.size v l ∧ Src wr b a len cap zs ∧ w.grownBy wr (some b)) (fun i _ _ => n0 - (intOf i).toNat)
  case atStart => exact ⟨[], 0, by simp, by omega, rfl, rowSome_lit _, hs.alloc _, World.grownBy_alloc _ _ _⟩
  case round =>
    obtain ⟨l, k, hl, hk, rfl, hrs, hsr, hgr⟩ := hrel
    have HR : Hid (RowSome wr w.heap.size u7 l) := hrs
    have hown := hrs.1
    clear hrs
    by_cases hx : k < n0
    · go_wp2_with fail
      refine (one_any b a len cap zs of (by omega) _ hsr).mono ?_
      rintro e w1 ⟨r, rfl, hs1, hg1⟩
      have hown1 : w1.ownsRow w.heap.size 2 1 u7 l.length (numsV l) := hown.kept hg1 (.inr (fun e => by have := (hown.lt b e).1; omega))
      have hgw := grown_trans hgr hg1
      have HR1 : Hid (RowSome w1 w.heap.size u7 l) := ⟨hown1, HR.out.2⟩
      clear hown hsr hgr hg1 HR
      cases r with
      | false =>
        clear hown1
        go_wp2
        go_roundw
        case rel => exact ⟨l, k + 1, by omega, by omega, by go_num, HR1.out, hs1, hgw⟩
        case measure => simp [intOf]; omega
      | true =>
        go_wp2_with (at_builtin; refine append_one rfl _ _ rfl w.heap.size _ l (k : Int) rfl w1 rfl hown1 rfl (by omega) hgw.size ?_)
        intro v' w2 hown' hgrow
        have hbl : Below w.heap.size w1 w2 := ((Below.refl w.heap.size w1).alloc hgw.size _).grown hgrow (by have := hgw.size; simp; omega) (fun g hg => (hown1.lt g hg).1)
        have hs2 := hs1.keep hbl hlt hrl
        have hg2 : w.grownBy w2 (some b) := grown_own (grown_alloc hgw _) hgrow (fun g hg => (hown1.lt g hg).1)
        have HO : Hid (RowSome w2 w.heap.size v' (l ++ [(k : Int)])) := rowSome_pos (by rw [List.length_append]; exact hown') (by simp)
        clear hown' hgrow hown1 hgw hs1 hbl
        go_wp2
        go_roundw
        case rel => exact ⟨l ++ [(k : Int)], k + 1, by rw [List.length_append]; simp; omega, by omega, by go_num, HO.out, hs2, hg2⟩
        case measure => simp [intOf]; omega
    · obtain rfl : k = n0 := by omega
      clear hown
      go_wp2
      go_ret
      exact ⟨_, l, rfl, hl, HR.out, hsr, hgr⟩
end Go.Proofs.Ytndflppphhofkaa
