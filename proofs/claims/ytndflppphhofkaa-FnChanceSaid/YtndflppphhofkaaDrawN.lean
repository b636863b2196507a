/- The contracts of promise 3's draws of lists: what is to be shuffled, and a set with a number. -/
import Derived.Test.YtndflppphhofkaaDrawM
namespace Go.Proofs.Ytndflppphhofkaa
open Go Go.RowKit
set_option linter.unusedVariables false

theorem RowSome.kept {w w' : World} {base b : Nat} {v : Value} {l : List Int} (h : RowSome w base v l) (hb : b < base) (hg : w.grownBy w' (some b)) : RowSome w' base v l :=
  ⟨h.1.kept hg (.inr (fun e => by have := (h.1.lt b e).1; omega)), h.2⟩
set_option maxHeartbeats 1000000 in
set_option maxRecDepth 100000 in
theorem l02Set_any (b : Nat) (a : Option Addr) (len cap : Nat) (zs : List Int) (w : World) (hs : Src w b a len cap zs) :
    Calls Try.prog 44 #[.pointer (some ⟨b, 0, none⟩)] w fun e w' =>
      ∃ v l, e = .returned v ∧ l.length ≤ 401 ∧ RowSome w' w.heap.size v l ∧ Src w' b a len cap zs ∧ w.grownBy w' (some b) := by
  have hlt := hs.lt
  have hrl := hs.row_lt
  go_enter Try.func44, Try.ntmps44
  go_wp2_with fail
  refine (rising_any b a len cap zs 10 2 (by omega) (by omega) _ hs).mono ?_
  rintro e w1 ⟨v, l, rfl, hl, rs1, hs1, hg1⟩
  go_wp2_with fail
  refine (one_any b a len cap zs 12 (by omega) _ hs1).mono ?_
  rintro e w2 ⟨r, rfl, hs2, hg2⟩
  have rs2 := rs1.kept hlt hg2
  have hgw2 := grown_trans hg1 hg2
  clear hs1 hg1 hg2 rs1 hs
  cases r with
  | true =>
    have hown := rs2.1
    go_wp2_with (at_builtin; refine append_one rfl _ _ rfl w.heap.size _ l 3 rfl w2 rfl hown rfl (by omega) hgw2.size ?_)
    intro v' w3 hown' hgrow
    have hbl : Below w.heap.size w2 w3 := ((Below.refl w.heap.size w2).alloc hgw2.size _).grown hgrow (by have := hgw2.size; simp; omega) (fun g hg => (hown.lt g hg).1)
    have hs3 := hs2.keep hbl hlt hrl
    have hg3 : w.grownBy w3 (some b) := grown_own (grown_alloc hgw2 _) hgrow (fun g hg => (hown.lt g hg).1)
    have HO : Hid (RowSome w3 w.heap.size v' (l ++ [3])) := rowSome_pos (by rw [List.length_append]; exact hown') (by simp)
    clear hown' hgrow hown hgw2 hs2 hbl rs2
    go_wp2
    go_ret
    exact ⟨v', l ++ [3], rfl, by rw [List.length_append]; simp; omega, HO.out, hs3, hg3⟩
  | false =>
    go_wp2_with fail
    refine (one_any b a len cap zs 40 (by omega) _ hs2).mono ?_
    rintro e w3 ⟨r, rfl, hs3, hg3⟩
    have rs3 := rs2.kept hlt hg3
    have hgw3 := grown_trans hgw2 hg3
    clear hs2 hgw2 hg3 rs2
    cases r with
    | false =>
      have HR : Hid (RowSome w3 w.heap.size v l) := rs3
      clear rs3
      go_wp2
      go_ret
      exact ⟨v, l, rfl, by omega, HR.out, hs3, hgw3⟩
    | true =>
      clear rs3 hl
      go_wp2
      go_loopw [4, 3] (fun i q wr => ∃ (m : List Int), m.length ≤ 400 ∧ i = .int .i64 m.length ∧ wr.ownsRow w.heap.size 2 1 q m.length (numsV m) ∧ Src wr b a len cap zs ∧ w.grownBy wr (some b)) (fun i _ _ => 400 - (intOf i).toNat)
      case atStart => exact ⟨[], by simp, rfl, World.ownsRow_nil _ _ _ _, hs3, hgw3⟩
      case round =>
        obtain ⟨m, hm, rfl, hown, hsr, hgr⟩ := hrel
        go_wp2_with fail
        refine (n_any b a len cap zs 2 (by omega) _ hsr).mono ?_
        rintro e w4 ⟨r, rfl, _, hr, hs4, hg4⟩
        have hr2 := hr (by omega)
        obtain ⟨hr0, hr1⟩ := hr2
        have hown4 : w4.ownsRow w.heap.size 2 1 u3 m.length (numsV m) := hown.kept hg4 (.inr (fun e => by have := (hown.lt b e).1; omega))
        have hgw4 := grown_trans hgr hg4
        clear hr hown hsr hgr hg4
        by_cases hx : (m.length : Int) < 399 + r
        · have hm4 : m.length < 400 := by omega
          go_wp2_with (at_builtin; refine append_one rfl _ _ rfl w.heap.size _ m (m.length : Int) rfl w4 rfl hown4 rfl (by omega) hgw4.size ?_)
          intro v' w5 hown' hgrow
          have hbl : Below w.heap.size w4 w5 := ((Below.refl w.heap.size w4).alloc hgw4.size _).grown hgrow (by have := hgw4.size; simp; omega) (fun g hg => (hown4.lt g hg).1)
          have hs5 := hs4.keep hbl hlt hrl
          have hg5 : w.grownBy w5 (some b) := grown_own (grown_alloc hgw4 _) hgrow (fun g hg => (hown4.lt g hg).1)
          have HO : Hid (w5.ownsRow w.heap.size 2 1 v' (m ++ [(m.length : Int)]).length (numsV (m ++ [(m.length : Int)]))) := by rw [List.length_append]; exact hown'
          have HL : Hid ((m ++ [(m.length : Int)]).length = m.length + 1) := by show _ = _; simp
          clear hown' hgrow hown4 hgw4 hs4 hbl
          go_wp2
          go_roundw
          case rel => exact ⟨m ++ [(m.length : Int)], by have := HL.out; omega, by rw [HL.out]; go_num, HO.out, hs5, hg5⟩
          case measure => simp [intOf]; omega
        · have HO : Hid (RowSome w4 w.heap.size u3 m) := rowSome_pos hown4 (by omega)
          clear hown4
          go_wp2
          go_ret
          exact ⟨_, m, rfl, by omega, HO.out, hs4, hgw4⟩

theorem grown_below {w w1 w2 : World} {b : Nat} (h1 : Below w.heap.size w w1) (h2 : w1.grownBy w2 (some b)) (hb : w.heap.size ≤ b) : Below w.heap.size w w2 :=
  h1.grown h2 h1.size (fun k e => by obtain rfl := Option.some.inj e; exact hb)
set_option maxHeartbeats 1000000 in
set_option maxRecDepth 100000 in
theorem drawSetPut_any (a : Option Addr) (len cap : Nat) (zs : List Int) (w : World) (hl : len ≤ 1048576) (hrow : ByteRow w a len cap zs) :
    Calls Try.prog 15 #[.slice a len cap] w fun e w' => ∃ v l n, e = .returned (.tuple #[v, .int .i64 n]) ∧ l.length ≤ 401 ∧ RowSome w' w.heap.size v l ∧ Below w.heap.size w w' := by
  go_enter Try.func15, Try.ntmps15
  go_wp2_with fail
  refine (source_any a len cap zs _ hl hrow).mono ?_
  rintro e w1 ⟨rfl, hs1, b1⟩
  go_wp2_with fail
  refine (l02Set_any _ a len cap zs _ hs1).mono ?_
  rintro e w2 ⟨v, l, rfl, hll, rs2, hs2, hg2⟩
  have b2 := grown_below b1 hg2 (Nat.le_refl _)
  have hlt := hs1.lt
  go_wp2_with fail
  refine (one_any _ a len cap zs 8 (by omega) _ hs2).mono ?_
  rintro e w3 ⟨r, rfl, hs3, hg3⟩
  have rs3 := rs2.kept hlt hg3
  have b3 := grown_below b2 hg3 (Nat.le_refl _)
  clear rs2 b2 hs2 hg2 hg3
  have hb1 := b1.size
  cases r with
  | true =>
    go_wp2_with fail
    refine (edge_any _ a len cap zs _ hs3).mono ?_
    rintro e w4 ⟨n, rfl, _, hs4, hg4⟩
    have HR : Hid (RowSome w4 w.heap.size v l) := ⟨own_mono (rs3.kept hlt hg4).1 hb1, rs3.2⟩
    have b4 := grown_below b3 hg4 (Nat.le_refl _)
    clear rs3
    go_wp2
    go_ret2
    exact ⟨v, l, n, rfl, hll, HR.out, b4⟩
  | false =>
    go_wp2_with fail
    refine (n_any _ a len cap zs 11 (by omega) _ hs3).mono ?_
    rintro e w4 ⟨n, rfl, _, _, hs4, hg4⟩
    have HR : Hid (RowSome w4 w.heap.size v l) := ⟨own_mono (rs3.kept hlt hg4).1 hb1, rs3.2⟩
    have b4 := grown_below b3 hg4 (Nat.le_refl _)
    clear rs3
    go_wp2
    go_ret2
    exact ⟨v, l, n, rfl, hll, HR.out, b4⟩
set_option maxHeartbeats 1000000 in
set_option maxRecDepth 100000 in
theorem drawShuffle_any (a : Option Addr) (len cap : Nat) (zs : List Int) (w : World) (hl : len ≤ 1048576) (hrow : ByteRow w a len cap zs) :
    Calls Try.prog 12 #[.slice a len cap] w fun e w' => ∃ v l n, e = .returned (.tuple #[v, .int .i64 n]) ∧ l.length ≤ 400 ∧ RowSome w' w.heap.size v l ∧ Below w.heap.size w w' := by
  go_enter Try.func12, Try.ntmps12
  go_wp2_with fail
  refine (source_any a len cap zs _ hl hrow).mono ?_
  rintro e w1 ⟨rfl, hs1, b1⟩
  have hlt1 := hs1.lt
  go_wp2_with fail
  refine (n_any _ a len cap zs 9 (by omega) _ hs1).mono ?_
  rintro e w2 ⟨k, rfl, _, hk, hs2, hg2⟩
  obtain ⟨hk0, hk1⟩ := hk (by omega)
  obtain ⟨k, rfl⟩ := Int.eq_ofNat_of_zero_le hk0
  have b2 := grown_below b1 hg2 (Nat.le_refl _)
  clear hk hs1
  go_wp2_with fail
  refine (list_any _ a len cap zs k 0 9 (by omega) (by omega) (by omega) (by omega) _ hs2).mono ?_
  rintro e w3 ⟨v, l, rfl, hll, rs3, hs3, hg3⟩
  have b3 := grown_below b2 hg3 (Nat.le_refl _)
  have hlt := hs2.lt
  have hb2 := b2.size
  clear b2 hg2 hg3 hs2
  go_wp2_with fail
  refine (one_any _ a len cap zs 10 (by omega) _ hs3).mono ?_
  rintro e w4 ⟨r, rfl, hs4, hg4⟩
  have rs4 := rs3.kept hlt hg4
  have b4 := grown_below b3 hg4 (Nat.le_refl _)
  clear rs3 b3 hs3 hg4
  cases r with
  | true =>
    go_wp2_with fail
    refine (edge_any _ a len cap zs _ hs4).mono ?_
    rintro e w5 ⟨n, rfl, _, hs5, hg5⟩
    have HR : Hid (RowSome w5 w.heap.size v l) := ⟨own_mono (rs4.kept hlt hg5).1 hb2, rs4.2⟩
    have b5 := grown_below b4 hg5 (Nat.le_refl _)
    clear rs4
    go_wp2
    go_ret2
    exact ⟨v, l, n, rfl, by omega, HR.out, b5⟩
  | false =>
    go_wp2_with fail
    refine (n_any _ a len cap zs 256 (by omega) _ hs4).mono ?_
    rintro e w5 ⟨n, rfl, _, _, hs5, hg5⟩
    have rs5 := rs4.kept hlt hg5
    have b5 := grown_below b4 hg5 (Nat.le_refl _)
    clear rs4 b4 hg5 hs4
    go_wp2_with fail
    refine (n_any _ a len cap zs 256 (by omega) _ hs5).mono ?_
    rintro e w6 ⟨n2, rfl, _, _, hs6, hg6⟩
    have HR : Hid (RowSome w6 w.heap.size v l) := ⟨own_mono (rs5.kept hlt hg6).1 hb2, rs5.2⟩
    have b6 := grown_below b5 hg6 (Nat.le_refl _)
    clear rs5
    go_wp2
    go_ret2
    exact ⟨v, l, _, rfl, by omega, HR.out, b6⟩
end Go.Proofs.Ytndflppphhofkaa
