/- The contracts of the draws of chapter 2. -/
import Derived.Test.YtgngegammingoaaDoorDraw
import Derived.Test.YtgngegammingoaaDoorSeal
namespace Go.Proofs.YtgngegammingoaaDoor
open Go Go.RowKit
set_option linter.unusedVariables false

theorem wf_small {n : Int} (h1 : -2000000 ≤ n) (h2 : n < 2000000000000) : (Lit.int .i64 n).wf = true := by
  simp [Lit.wf, IntKind.min, IntKind.max, IntKind.bits, IntKind.signed]; omega
set_option maxHeartbeats 1000000 in
theorem any_any (b : Nat) (a : Option Addr) (len cap : Nat) (zs : List Int) (w : World) (hs : Src w b a len cap zs) :
    Calls Tryd.prog 31 #[.pointer (some ⟨b, 0, none⟩)] w fun e w' =>
      ∃ r : Int, e = .returned (.int .i64 r) ∧ (Lit.int .i64 r).wf = true ∧ Src w' b a len cap zs ∧ w.grownBy w' (some b) := by
  go_enter Tryd.func31, Tryd.ntmps31
  go_wp2_with fail
  refine (one_any b a len cap zs 4 (by omega) _ hs).mono ?_
  rintro e w1 ⟨r, rfl, hs1, hg1⟩
  cases r with
  | true =>
    go_wp2_with fail
    refine (edge_any b a len cap zs _ hs1).mono ?_
    rintro e w2 ⟨q, rfl, hw, hs2, hg2⟩
    go_wp2
    go_ret
    exact ⟨q, rfl, hw, hs2, grown_trans hg1 hg2⟩
  | false =>
    go_wp2_with fail
    refine (n_any b a len cap zs 1099511627776 (by omega) _ hs1).mono ?_
    rintro e w2 ⟨q, rfl, _, hq, hs2, hg2⟩
    have hq0 := (hq (by omega)).1
    have hq1 := (hq (by omega)).2
    clear hq
    go_wp2
    go_ret
    exact ⟨q - 1048576, rfl, wf_small (by omega) (by omega), hs2, grown_trans hg1 hg2⟩

/-- What grew by the source's own block alone is as it was below it. -/
theorem below_src {w w1 w2 : World} {b : Nat} (hb : Below w.heap.size w w1) (he : w.heap.size ≤ b) (hg : w1.grownBy w2 (some b)) : Below w.heap.size w w2 :=
  hb.grown hg hb.size (fun k hk => by obtain rfl := Option.some.inj hk; exact he)

set_option maxHeartbeats 1000000 in
theorem drawPutNum_any (a : Option Addr) (len cap : Nat) (zs : List Int) (w : World) (hl : len ≤ 1048576) (hrow : ByteRow w a len cap zs) :
    Calls Tryd.prog 8 #[.slice a len cap] w fun e w' => ∃ n : Int, e = .returned (.int .i64 n) ∧ (Lit.int .i64 n).wf = true ∧ Below w.heap.size w w' := by
  go_enter Tryd.func8, Tryd.ntmps8
  go_wp2_with fail
  refine (source_any a len cap zs _ hl hrow).mono ?_
  rintro e w1 ⟨rfl, hs1, hb1⟩
  go_wp2_with fail
  refine (any_any _ a len cap zs _ hs1).mono ?_
  rintro e w2 ⟨n, rfl, hw, hs2, hg2⟩
  go_wp2
  go_ret
  exact ⟨n, rfl, hw, below_src hb1 (Nat.le_refl _) hg2⟩

set_option maxHeartbeats 1000000 in
set_option maxRecDepth 100000 in
theorem drawPutText_any (a : Option Addr) (len cap : Nat) (zs : List Int) (w : World) (hl : len ≤ 1048576) (hrow : ByteRow w a len cap zs) :
    Calls Tryd.prog 12 #[.slice a len cap] w fun e w' => ∃ l : List UInt8, e = .returned (.string ⟨l.toArray⟩) ∧ (l.length ≤ 19 ∨ 19999 ≤ l.length ∧ l.length ≤ 20001) ∧ Below w.heap.size w w' := by
  obtain ⟨i0, hi, hz0, hz1, hz2⟩ := info_parts Tryd.infoU8
  go_enter Tryd.func12, Tryd.ntmps12
  go_wp2_with fail
  refine (source_any a len cap zs _ hl hrow).mono ?_
  rintro e w1 ⟨rfl, hs1, hb1⟩
  go_wp2_with fail
  refine (one_any _ a len cap zs 8 (by omega) _ hs1).mono ?_
  rintro e w2 ⟨r, rfl, hs2, hg2⟩
  have hb2 := below_src hb1 (Nat.le_refl _) hg2
  cases r with
  | true =>
    go_wp2_with fail
    refine (n_any _ a len cap zs 3 (by omega) _ hs2).mono ?_
    rintro e w3 ⟨q, rfl, _, hq, hs3, hg3⟩
    have hb3 := below_src hb2 (Nat.le_refl _) hg3
    obtain ⟨k, rfl⟩ := Int.eq_ofNat_of_zero_le (hq (by omega)).1
    have hk : k < 3 := by have := (hq (by omega)).2; omega
    have hcv := zeros_conv (P := Tryd.prog) (src := 22) (dst := 9) Tryd.underlying22 Tryd.underlying5 Tryd.underlying9 w3 (19999 + k)
    have hmk := run_make_row' (P := Tryd.prog) 22 5 (.int .u8 0) 1 Tryd.underlying22 Tryd.infoU8 rfl .i64 .i64 (19999 + k) (by omega) (by omega)
    have ec : ((19999 + k : Nat) : Int) = 19999 + (k : Int) := by omega
    rw [ec] at hmk
    clear hq hs1 hs2 hs3 hg2 hg3 ec
    go_wp2
    go_ret
    exact ⟨List.replicate (19999 + k) 0, rfl, .inr (by simp; omega), hb3.alloc hb3.size _⟩
  | false =>
    go_wp2_with fail
    refine (n_any _ a len cap zs 20 (by omega) _ hs2).mono ?_
    rintro e w3 ⟨q, rfl, _, hq, hs3, hg3⟩
    have hb3 := below_src hb2 (Nat.le_refl _) hg3
    obtain ⟨k, rfl⟩ := Int.eq_ofNat_of_zero_le (hq (by omega)).1
    have hk : k < 20 := by have := (hq (by omega)).2; omega
    clear hq
    go_wp2_with fail
    refine (bytes_any _ a len cap zs k (by omega) _ hs3).mono ?_
    rintro e w4 ⟨l, rfl, hll, hs4, hg4⟩
    have hb4 := below_src hb3 (Nat.le_refl _) hg4
    have HL : Hid (l.length = k) := hll
    clear hll
    go_wp2
    go_ret
    exact ⟨l, rfl, .inl (by have := HL.out; omega), hb4⟩
end Go.Proofs.YtgngegammingoaaDoor
