/- The contracts of promise 8's draws of nodes. -/
import Derived.Test.YtpjmhaegdnahmaaDrawN
import Derived.Test.YtpjmhaegdnahmaaTArgs
namespace Go.Proofs.Ytpjmhaegdnahmaa
open Go Go.RowKit
set_option linter.unusedVariables false

set_option maxHeartbeats 1000000 in
set_option maxRecDepth 100000 in
theorem l07Set_any (b : Nat) (a : Option Addr) (len cap : Nat) (zs : List Int) (w : World) (hs : Src w b a len cap zs) :
    Calls Try.prog 33 #[.pointer (some ⟨b, 0, none⟩)] w fun e w' =>
      ∃ v l, e = .returned v ∧ l.length ≤ 6 ∧ RowSome w' w.heap.size v l ∧ Src w' b a len cap zs ∧ w.grownBy w' (some b) := by
  have hlt := hs.lt
  have hrl := hs.row_lt
  go_enter Try.func33, Try.ntmps33
  go_wp2
  go_loopw [4, 3] (fun i v wr => ∃ (l : List Int) (k : Nat), 1 ≤ k ∧ k ≤ 6 ∧ l.length + 1 ≤ k ∧ i = .int .i64 k ∧ RowSome wr w.heap.size v l ∧ Src wr b a len cap zs ∧ w.grownBy wr (some b)) (fun i _ _ => 6 - (intOf i).toNat)
  case atStart => exact ⟨[], 1, by omega, by omega, by simp, rfl, rowSome_lit _, hs.alloc _, World.grownBy_alloc _ _ _⟩
  case round =>
    obtain ⟨l, k, hk1, hk6, hl, rfl, hrs, hsr, hgr⟩ := hrel
    have HR : Hid (RowSome wr w.heap.size u3 l) := hrs
    have hown := hrs.1
    clear hrs
    by_cases hx : (k : Int) ≤ 5
    · go_wp2_with fail
      refine (one_any b a len cap zs 2 (by omega) _ hsr).mono ?_
      rintro e w1 ⟨r, rfl, hs1, hg1⟩
      have hown1 : w1.ownsRow w.heap.size 2 1 u3 l.length (numsV l) := hown.kept hg1 (.inr (fun e => by have := (hown.lt b e).1; omega))
      have hgw := grown_trans hgr hg1
      have HR1 : Hid (RowSome w1 w.heap.size u3 l) := ⟨hown1, HR.out.2⟩
      clear hown hsr hgr hg1 HR
      cases r with
      | false =>
        clear hown1
        go_wp2
        go_roundw
        case rel => exact ⟨l, k + 1, by omega, by omega, by omega, by go_num, HR1.out, hs1, hgw⟩
        case measure => simp [intOf]; omega
      | true =>
        go_wp2_with (at_builtin; refine append_one rfl _ _ rfl w.heap.size _ l (k : Int) rfl w1 rfl hown1 rfl (by omega) hgw.size ?_)
        intro v' w2 hown' hgrow
        have hbl : Below w.heap.size w1 w2 := ((Below.refl w.heap.size w1).alloc hgw.size _).grown hgrow (by have := hgw.size; simp; omega) (fun g hg => (hown1.lt g hg).1)
        have hs2 := hs1.keep hbl hlt hrl
        have hg2 : w.grownBy w2 (some b) := grown_own (grown_alloc hgw _) hgrow (fun g hg => (hown1.lt g hg).1)
        have HO : Hid (RowSome w2 w.heap.size v' (l ++ [(k : Int)])) := rowSome_pos (by rw [List.length_append]; exact hown') (by simp)
        clear hown' hgrow hown1 hgw hs1 hbl HR1
        go_wp2
        go_roundw
        case rel => exact ⟨l ++ [(k : Int)], k + 1, by omega, by omega, by rw [List.length_append]; simp; omega, by go_num, HO.out, hs2, hg2⟩
        case measure => simp [intOf]; omega
    · have hl5 : l.length ≤ 5 := by omega
      clear hl
      go_wp2_with fail
      refine (one_any b a len cap zs 15 (by omega) _ hsr).mono ?_
      rintro e w1 ⟨r, rfl, hs1, hg1⟩
      have hown1 : w1.ownsRow w.heap.size 2 1 u3 l.length (numsV l) := hown.kept hg1 (.inr (fun e => by have := (hown.lt b e).1; omega))
      have hgw := grown_trans hgr hg1
      have HR1 : Hid (RowSome w1 w.heap.size u3 l) := ⟨hown1, HR.out.2⟩
      clear hown hsr hgr hg1 HR
      cases r with
      | false =>
        clear hown1
        go_wp2
        go_ret
        exact ⟨_, l, rfl, by omega, HR1.out, hs1, hgw⟩
      | true =>
        clear hown1
        go_wp2_with fail
        refine (n_any b a len cap zs 8 (by omega) _ hs1).mono ?_
        rintro e w3 ⟨r, rfl, _, _, hs3, hg3⟩
        have hown3 : w3.ownsRow w.heap.size 2 1 u3 l.length (numsV l) := HR1.out.1.kept hg3 (.inr (fun e => by have := (HR1.out.1.lt b e).1; omega))
        have hgw3 := grown_trans hgw hg3
        clear hs1 hgw hg3 HR1
        go_wp2_with (at_builtin; refine append_one rfl _ _ rfl w.heap.size _ l r rfl w3 rfl hown3 rfl (by omega) hgw3.size ?_)
        intro v' w4 hown' hgrow
        have hbl : Below w.heap.size w3 w4 := ((Below.refl w.heap.size w3).alloc hgw3.size _).grown hgrow (by have := hgw3.size; simp; omega) (fun g hg => (hown3.lt g hg).1)
        have hs4 := hs3.keep hbl hlt hrl
        have hg4 : w.grownBy w4 (some b) := grown_own (grown_alloc hgw3 _) hgrow (fun g hg => (hown3.lt g hg).1)
        have HO : Hid (RowSome w4 w.heap.size v' (l ++ [r])) := rowSome_pos (by rw [List.length_append]; exact hown') (by simp)
        have HL : Hid ((l ++ [r]).length ≤ 6) := by show _ ≤ _; rw [List.length_append]; simp; omega
        clear hown' hgrow hown3 hgw3 hs3 hbl
        go_wp2
        go_ret
        exact ⟨v', l ++ [r], rfl, HL.out, HO.out, hs4, hg4⟩
set_option maxHeartbeats 1000000 in
set_option maxRecDepth 100000 in
theorem drawSome_any (a : Option Addr) (len cap : Nat) (zs : List Int) (w : World) (hl : len ≤ 1048576) (hrow : ByteRow w a len cap zs) :
    Calls Try.prog 9 #[.slice a len cap] w fun e w' => ∃ (v : Value) (l : List Int) (n m : Int), e = .returned (.tuple #[v, .int .i64 n, .int .i64 m]) ∧ l.length ≤ 6 ∧ RowSome w' w.heap.size v l ∧ Below w.heap.size w w' := by
  go_enter Try.func9, Try.ntmps9
  go_wp2_with fail
  refine (source_any a len cap zs _ hl hrow).mono ?_
  rintro e w1 ⟨rfl, hs1, b1⟩
  go_wp2_with fail
  refine (l07Set_any _ a len cap zs _ hs1).mono ?_
  rintro e w2 ⟨v, l, rfl, hll, rs2, hs2, hg2⟩
  have b2 := grown_below b1 hg2 (Nat.le_refl _)
  have hlt := hs1.lt
  have hb1 := b1.size
  clear hg2 hs1
  go_wp2_with fail
  refine (n_any _ a len cap zs 9 (by omega) _ hs2).mono ?_
  rintro e w3 ⟨n, rfl, _, _, hs3, hg3⟩
  have rs3 := rs2.kept hlt hg3
  have b3 := grown_below b2 hg3 (Nat.le_refl _)
  clear rs2 b2 hs2 hg3
  go_wp2_with fail
  refine (n_any _ a len cap zs 256 (by omega) _ hs3).mono ?_
  rintro e w4 ⟨m, rfl, _, _, hs4, hg4⟩
  have HR : Hid (RowSome w4 w.heap.size v l) := ⟨own_mono (rs3.kept hlt hg4).1 hb1, rs3.2⟩
  have b4 := grown_below b3 hg4 (Nat.le_refl _)
  clear rs3 b3 hs3 hg4
  go_wp2
  go_ret3
  exact ⟨v, l, _, _, rfl, hll, HR.out, b4⟩
end Go.Proofs.Ytpjmhaegdnahmaa
