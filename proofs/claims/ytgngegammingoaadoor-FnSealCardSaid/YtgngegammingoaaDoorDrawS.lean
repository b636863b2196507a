/- The contracts of the draws of promise 2. -/
import Derived.Test.YtgngegammingoaaDoorDrawB
import Derived.Test.YtgngegammingoaaDoorCrc
import Derived.Deep.RegionWith
import Derived.Laws.IdiomStrings
namespace Go.Proofs.YtgngegammingoaaDoor
open Go Go.RowKit
set_option linter.unusedVariables false

set_option maxHeartbeats 1000000 in
set_option maxRecDepth 100000 in
/-- A number below most, of the code's byte at a place. -/
theorem lwAt_any (a : Option Addr) (len cap : Nat) (zs : List Int) (at0 : Int) (most : Int) (w : World) (hl : len ≤ 1048576) (hrow : ByteRow w a len cap zs) (h0 : 0 ≤ at0) (h1 : at0 < 1000) (hm : most ≤ 1000000000) :
    Calls Tryd.prog 19 #[.slice a len cap, .int .i64 at0, .int .i64 most] w fun e w' => ∃ r : Int, e = .returned (.int .i64 r) ∧ 0 ≤ r ∧ (1 ≤ most → r < most) ∧ w' = w := by
  by_cases h2 : most ≤ 1
  · go_enter Tryd.func19, Tryd.ntmps19
    go_wp2
    go_ret
    exact ⟨0, rfl, by omega, by omega, rfl⟩
  by_cases h3 : len = 0
  · subst h3
    go_enter Tryd.func19, Tryd.ntmps19
    go_wp2
    go_ret
    exact ⟨0, rfl, by omega, by omega, rfl⟩
  rcases hrow with e | ⟨⟨xb, xo, xs⟩, rfl, e, hlt, hlz, hc, hz⟩
  · omega
  subst e
  have hq0 : 0 ≤ at0.tmod len := Int.tmod_nonneg _ h0
  have hq1 : at0.tmod len < len := by rw [Int.tmod_eq_emod_of_nonneg h0]; exact Int.emod_lt_of_pos _ (by omega)
  obtain ⟨k, hk⟩ := Int.eq_ofNat_of_zero_le hq0
  have hk' : k < len := by omega
  have hck := hc k (by omega)
  have hzk : 0 ≤ zs.getD k 0 ∧ zs.getD k 0 < 256 := by
    have hm : zs.getD k 0 ∈ zs := by rw [List.getD_eq_getElem?_getD, List.getElem?_eq_getElem (by omega)]; simp
    exact hz _ hm
  obtain ⟨z, hz0⟩ : ∃ z, zs.getD k 0 = z := ⟨_, rfl⟩
  rw [hz0] at hck hzk
  simp only at hck hlt
  have hz1 := hzk.1
  have hz2 := hzk.2
  have hr0 : 0 ≤ z % most := Int.emod_nonneg _ (by omega)
  have hr1 : z % most < most := Int.emod_lt_of_pos _ (by omega)
  clear hc hz hz0 hlz hzk hq0 hq1
  go_enter Tryd.func19, Tryd.ntmps19
  go_wp2
  go_ret
  exact ⟨z % most, rfl, hr0, fun _ => hr1, rfl⟩

set_option maxHeartbeats 1000000 in
set_option maxRecDepth 100000 in
theorem drawSeal_any (a : Option Addr) (len cap : Nat) (zs : List Int) (w : World) (hl : len ≤ 1048576) (hrow : ByteRow w a len cap zs) :
    Calls Tryd.prog 16 #[.slice a len cap] w fun e w' => ∃ l : List UInt8, e = .returned (.string ⟨l.toArray⟩) ∧ (l.length ≤ 19 ∨ 19995 ≤ l.length ∧ l.length ≤ 19997) ∧ Below w.heap.size w w' := by
  obtain ⟨i0, hi, hz0, hz1, hz2⟩ := info_parts Tryd.infoU8
  go_enter Tryd.func16, Tryd.ntmps16
  go_wp2_with fail
  refine (source_any a len cap zs _ hl hrow).mono ?_
  rintro e w1 ⟨rfl, hs1, hb1⟩
  go_wp2_with fail
  refine (one_any _ a len cap zs 30 (by omega) _ hs1).mono ?_
  rintro e w2 ⟨r, rfl, hs2, hg2⟩
  have hb2 := below_src hb1 (Nat.le_refl _) hg2
  cases r with
  | true =>
    go_wp2_with fail
    refine (n_any _ a len cap zs 3 (by omega) _ hs2).mono ?_
    rintro e w3 ⟨q, rfl, _, hq, hs3, hg3⟩
    have hb3 := below_src hb2 (Nat.le_refl _) hg3
    obtain ⟨k, rfl⟩ := Int.eq_ofNat_of_zero_le (hq (by omega)).1
    have hk : k < 3 := by have := (hq (by omega)).2; omega
    have hcv := zeros_conv (P := Tryd.prog) (src := 22) (dst := 9) Tryd.underlying22 Tryd.underlying5 Tryd.underlying9 w3 (19995 + k)
    have hmk := run_make_row' (P := Tryd.prog) 22 5 (.int .u8 0) 1 Tryd.underlying22 Tryd.infoU8 rfl .i64 .i64 (19995 + k) (by omega) (by omega)
    have ec : ((19995 + k : Nat) : Int) = 19995 + (k : Int) := by omega
    rw [ec] at hmk
    clear hq hs1 hs2 hs3 hg2 hg3 ec
    go_wp2
    go_ret
    exact ⟨List.replicate (19995 + k) 0, rfl, .inr (by simp; omega), hb3.alloc hb3.size _⟩
  | false =>
    go_wp2_with fail
    refine (n_any _ a len cap zs 20 (by omega) _ hs2).mono ?_
    rintro e w3 ⟨q, rfl, _, hq, hs3, hg3⟩
    have hb3 := below_src hb2 (Nat.le_refl _) hg3
    obtain ⟨k, rfl⟩ := Int.eq_ofNat_of_zero_le (hq (by omega)).1
    have hk : k < 20 := by have := (hq (by omega)).2; omega
    clear hq
    go_wp2_with fail
    refine (bytes_any _ a len cap zs k (by omega) _ hs3).mono ?_
    rintro e w4 ⟨l, rfl, hll, hs4, hg4⟩
    have hb4 := below_src hb3 (Nat.le_refl _) hg4
    have HL : Hid (l.length = k) := hll
    clear hll
    go_wp2
    go_ret
    exact ⟨l, rfl, .inl (by have := HL.out; omega), hb4⟩

theorem small_size {l : List UInt8} (h : l.length ≤ 20000) : (⟨l.toArray⟩ : ByteArray).size ≤ maxLen := by
  have : (⟨l.toArray⟩ : ByteArray).size = l.length := by show l.toArray.size = _; simp
  rw [this]; unfold maxLen; omega
theorem crcMore_lt (c : Int) (l : List UInt8) : crcMore c l < 4294967296 := by
  unfold crcMore
  by_cases h : 8000 < (l.length : Int) ∨ c < 0 ∨ 4294967295 < c
  · rw [if_pos h]; omega
  · rw [if_neg h]; exact crcOf_lt _ _ (by omega)
set_option maxHeartbeats 1000000 in
set_option maxRecDepth 100000 in
theorem drawCrcMore_any (a : Option Addr) (len cap : Nat) (zs : List Int) (w : World) (hl : len ≤ 1048576) (hrow : ByteRow w a len cap zs) :
    Calls Tryd.prog 21 #[.slice a len cap] w fun e w' => ∃ (c : Int) (l : List UInt8), e = .returned (.tuple #[.int .i64 c, .string ⟨l.toArray⟩]) ∧ (Lit.int .i64 c).wf = true ∧ l.length ≤ 8 ∧ Below w.heap.size w w' := by
  go_enter Tryd.func21, Tryd.ntmps21
  go_wp2_with fail
  refine (source_any a len cap zs _ hl hrow).mono ?_
  rintro e w1 ⟨rfl, hs1, hb1⟩
  go_wp2_with fail
  refine (n_any _ a len cap zs 9 (by omega) _ hs1).mono ?_
  rintro e w2 ⟨q, rfl, _, hq, hs2, hg2⟩
  have hb2 := below_src hb1 (Nat.le_refl _) hg2
  obtain ⟨k, rfl⟩ := Int.eq_ofNat_of_zero_le (hq (by omega)).1
  have hk : k < 9 := by have := (hq (by omega)).2; omega
  clear hq hs1 hg2
  go_wp2_with fail
  refine (bytes_any _ a len cap zs k (by omega) _ hs2).mono ?_
  rintro e w3 ⟨l, rfl, hll, hs3, hg3⟩
  have hb3 := below_src hb2 (Nat.le_refl _) hg3
  have HL : Hid (l.length = k) := hll
  clear hll hs2 hg3
  go_wp2_with fail
  refine (one_any _ a len cap zs 5 (by omega) _ hs3).mono ?_
  rintro e w4 ⟨r, rfl, hs4, hg4⟩
  have hb4 := below_src hb3 (Nat.le_refl _) hg4
  clear hs3 hg4
  cases r with
  | true =>
    go_wp2_with fail
    refine (edge_any _ a len cap zs _ hs4).mono ?_
    rintro e w5 ⟨q, rfl, hw, hs5, hg5⟩
    have hb5 := below_src hb4 (Nat.le_refl _) hg5
    go_wp2
    go_ret2
    exact ⟨q, l, rfl, hw, by have := HL.out; omega, hb5⟩
  | false =>
    go_wp2_with fail
    refine (n_any _ a len cap zs 9 (by omega) _ hs4).mono ?_
    rintro e w5 ⟨q, rfl, _, hq, hs5, hg5⟩
    have hb5 := below_src hb4 (Nat.le_refl _) hg5
    obtain ⟨j, rfl⟩ := Int.eq_ofNat_of_zero_le (hq (by omega)).1
    have hj : j < 9 := by have := (hq (by omega)).2; omega
    clear hq hs4 hg5
    go_wp2_with fail
    refine (bytes_any _ a len cap zs j (by omega) _ hs5).mono ?_
    rintro e w6 ⟨m, rfl, hlm, hs6, hg6⟩
    have hb6 := below_src hb5 (Nat.le_refl _) hg6
    have hmx : (⟨m.toArray⟩ : ByteArray).size ≤ maxLen := small_size (by omega)
    clear hlm hs5 hg6
    go_wp2_with fail
    refine (specCrc_any _ _ hmx).mono ?_
    rintro e w7 ⟨rfl, rfl⟩
    go_wp2
    go_ret2
    exact ⟨_, l, rfl, wf_small (by omega) (by have := crcMore_lt 0 m; simp; omega), by have := HL.out; omega, hb6⟩
end Go.Proofs.YtgngegammingoaaDoor
