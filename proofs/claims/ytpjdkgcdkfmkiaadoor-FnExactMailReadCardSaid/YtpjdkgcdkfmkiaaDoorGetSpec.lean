/- The contract of the specification's GetNum. -/
import Derived.Test.YtpjdkgcdkfmkiaaDoorGet
namespace Go.Proofs.YtpjdkgcdkfmkiaaDoor
open Go Go.RowKit
set_option linter.unusedVariables false

set_option maxHeartbeats 2000000 in
set_option maxRecDepth 100000 in
theorem specGetNum_any (s : ByteArray) (a : Int) (w : World) :
    Calls Tryd.prog 58 #[.string s, .int .i64 a] w fun e w' => e = .returned (numOut (getN s a)) ∧ Below w.heap.size w w' := by
  have hb0 : ∀ x y z, Below w.heap.size w (w.alloc (.cells #[x, y, z] 93)) := fun _ _ _ => (Below.refl _ _).alloc (Nat.le_refl _) _
  by_cases h1 : 8000 < (s.size : Int)
  · rw [getN_size h1]
    go_enter Tryd.func58, Tryd.ntmps58
    go_wp2
    exact bodyPost_ret (v := .agg #[.int .i64 0, .int .i64 0, .int .i64 2]) (by simp [results, Tryd.results58, go_sem]) rfl ⟨rfl, hb0 _ _ _⟩
  by_cases h2 : a < 0
  · rw [getN_form h1 h2]
    go_enter Tryd.func58, Tryd.ntmps58
    go_wp2
    exact bodyPost_ret (v := .agg #[.int .i64 0, .int .i64 0, .int .i64 1]) (by simp [results, Tryd.results58, go_sem]) rfl ⟨rfl, hb0 _ _ _⟩
  have hwr := wrap_byte
  obtain ⟨p, rfl⟩ := Int.eq_ofNat_of_zero_le (show 0 ≤ a by omega)
  go_enter Tryd.func58, Tryd.ntmps58
  go_wp2
  go_loop [6, 5, 7, 8] (fun i u _ _ => ∃ k x : Nat, i = .int .i64 k ∧ u = .int .u64 x ∧ RdAt s p (p + k) k (7 * k) x) (fun i _ _ _ => 10 - (intOf i).toNat)
  case atStart => exact ⟨0, 0, rfl, rfl, RdAt_zero s p⟩
  case round =>
    obtain ⟨k, x, rfl, rfl, hrd⟩ := hrel
    have HR : Hid (RdAt s p (p + k) k (7 * k) x) := hrd
    obtain ⟨_, _, hk, hq2, hu, hx⟩ := hrd
    clear hx
    have HU : Hid (x < 2 ^ (7 * k)) := hu
    clear hu
    have hk' : (k : Int) ≤ 9 := by omega
    by_cases h3 : p + k < s.size
    · have h3' : (p : Int) + (k : Int) < (s.size : Int) := by omega
      by_cases h4 : k = 9
      · have E4 : Hid (k = 9) := h4
        clear h4
        have h4' : ((k : Int) == 9) = true := by have := E4.out; simp; omega
        by_cases h6 : 1 < s[p + k].toNat
        · have h6' : decide (1 < (s[p + k].toNat : Int)) = true := by simp; omega
          go_wp2
          exact bodyPost_ret (v := .agg #[.int .i64 0, .int .i64 0, .int .i64 3]) (by simp [results, Tryd.results58, go_sem]) rfl ⟨by rw [getN_bad (by omega) (show (rdOf s p).2.2 = 3 from by rw [HR.out.nine h3 E4.out h6]) (by omega)]; rfl, hb0 _ _ _⟩
        · have h6' : decide (1 < (s[p + k].toNat : Int)) = false := by simp; omega
          by_cases h8 : s[p + k].toNat = 0
          · have h8' : ((s[p + k].toNat : Int) == 0) = true := by simp; omega
            have E8 : Hid (s[p + k].toNat = 0) := h8
            clear h8
            have h9 : 0 < k := by have := E4.out; omega
            go_wp2
            exact bodyPost_ret (v := .agg #[.int .i64 0, .int .i64 0, .int .i64 3]) (by simp [results, Tryd.results58, go_sem]) rfl ⟨by rw [getN_bad (by omega) (show (rdOf s p).2.2 = 3 from by rw [HR.out.zero h3 E8.out h9]) (by omega)]; rfl, hb0 _ _ _⟩
          · have h8' : ((s[p + k].toNat : Int) == 0) = false := by simp; omega
            cases h7 : ((IntKind.u64.wrap ((x : Int) + IntKind.u64.wrap ((s[p + k].toNat : Int) % 128 * 2 ^ (7 * k)))).tmod 2 == 1) with
            | true =>
              go_wp2
              exact bodyPost_ret (v := .agg #[.int .i64 (wrap64 (wrap64 (-wrap64 (IntKind.u64.wrap ((IntKind.u64.wrap ((x : Int) + IntKind.u64.wrap ((s[p + k].toNat : Int) % 128 * 2 ^ (7 * k)))).tdiv 2))) - 1)), .int .i64 ((p : Int) + (k : Int) + 1), .int .i64 0]) (by simp [results, Tryd.results58, go_sem]) rfl ⟨by obtain ⟨v, HV, HVB, HS⟩ := sum_at HU.out hk (show s[p + k].toNat < 128 by omega) (.inr ⟨E4.out, by omega⟩); rw [getN_ok (by omega) (by rw [HR.out.okay h3 (by omega) (by omega), HV.out]), odd_worth HS.out HVB.out h7]; exact num_ok, hb0 _ _ _⟩
            | false =>
              go_wp2
              exact bodyPost_ret (v := .agg #[.int .i64 (wrap64 (IntKind.u64.wrap ((IntKind.u64.wrap ((x : Int) + IntKind.u64.wrap ((s[p + k].toNat : Int) % 128 * 2 ^ (7 * k)))).tdiv 2))), .int .i64 ((p : Int) + (k : Int) + 1), .int .i64 0]) (by simp [results, Tryd.results58, go_sem]) rfl ⟨by obtain ⟨v, HV, HVB, HS⟩ := sum_at HU.out hk (show s[p + k].toNat < 128 by omega) (.inr ⟨E4.out, by omega⟩); rw [getN_ok (by omega) (by rw [HR.out.okay h3 (by omega) (by omega), HV.out]), even_worth HS.out HVB.out h7]; exact num_ok, hb0 _ _ _⟩
      · have h4' : ((k : Int) == 9) = false := by simp; omega
        by_cases h5 : s[p + k].toNat < 128
        · have h5' : decide ((s[p + k].toNat : Int) < 128) = true := by simp; omega
          by_cases h6 : s[p + k].toNat = 0
          · have h6' : ((s[p + k].toNat : Int) == 0) = true := by simp; omega
            have E8 : Hid (s[p + k].toNat = 0) := h6
            clear h6
            by_cases h9 : 0 < k
            · go_wp2
              exact bodyPost_ret (v := .agg #[.int .i64 0, .int .i64 0, .int .i64 3]) (by simp [results, Tryd.results58, go_sem]) rfl ⟨by rw [getN_bad (by omega) (show (rdOf s p).2.2 = 3 from by rw [HR.out.zero h3 E8.out h9]) (by omega)]; rfl, hb0 _ _ _⟩
            · have _t := hk
              cases h7 : ((IntKind.u64.wrap ((x : Int) + IntKind.u64.wrap ((s[p + k].toNat : Int) % 128 * 2 ^ (7 * k)))).tmod 2 == 1) with
              | true =>
                go_wp2
                exact bodyPost_ret (v := .agg #[.int .i64 (wrap64 (wrap64 (-wrap64 (IntKind.u64.wrap ((IntKind.u64.wrap ((x : Int) + IntKind.u64.wrap ((s[p + k].toNat : Int) % 128 * 2 ^ (7 * k)))).tdiv 2))) - 1)), .int .i64 ((p : Int) + (k : Int) + 1), .int .i64 0]) (by simp [results, Tryd.results58, go_sem]) rfl ⟨by obtain ⟨v, HV, HVB, HS⟩ := sum_at HU.out hk h5 (.inl h4); rw [getN_ok (by omega) (by rw [HR.out.okay h3 h5 (by omega), HV.out]), odd_worth HS.out HVB.out h7]; exact num_ok, hb0 _ _ _⟩
              | false =>
                go_wp2
                exact bodyPost_ret (v := .agg #[.int .i64 (wrap64 (IntKind.u64.wrap ((IntKind.u64.wrap ((x : Int) + IntKind.u64.wrap ((s[p + k].toNat : Int) % 128 * 2 ^ (7 * k)))).tdiv 2))), .int .i64 ((p : Int) + (k : Int) + 1), .int .i64 0]) (by simp [results, Tryd.results58, go_sem]) rfl ⟨by obtain ⟨v, HV, HVB, HS⟩ := sum_at HU.out hk h5 (.inl h4); rw [getN_ok (by omega) (by rw [HR.out.okay h3 h5 (by omega), HV.out]), even_worth HS.out HVB.out h7]; exact num_ok, hb0 _ _ _⟩
          · have h6' : ((s[p + k].toNat : Int) == 0) = false := by simp; omega
            cases h7 : ((IntKind.u64.wrap ((x : Int) + IntKind.u64.wrap ((s[p + k].toNat : Int) % 128 * 2 ^ (7 * k)))).tmod 2 == 1) with
            | true =>
              go_wp2
              exact bodyPost_ret (v := .agg #[.int .i64 (wrap64 (wrap64 (-wrap64 (IntKind.u64.wrap ((IntKind.u64.wrap ((x : Int) + IntKind.u64.wrap ((s[p + k].toNat : Int) % 128 * 2 ^ (7 * k)))).tdiv 2))) - 1)), .int .i64 ((p : Int) + (k : Int) + 1), .int .i64 0]) (by simp [results, Tryd.results58, go_sem]) rfl ⟨by obtain ⟨v, HV, HVB, HS⟩ := sum_at HU.out hk h5 (.inl h4); rw [getN_ok (by omega) (by rw [HR.out.okay h3 h5 (by omega), HV.out]), odd_worth HS.out HVB.out h7]; exact num_ok, hb0 _ _ _⟩
            | false =>
              go_wp2
              exact bodyPost_ret (v := .agg #[.int .i64 (wrap64 (IntKind.u64.wrap ((IntKind.u64.wrap ((x : Int) + IntKind.u64.wrap ((s[p + k].toNat : Int) % 128 * 2 ^ (7 * k)))).tdiv 2))), .int .i64 ((p : Int) + (k : Int) + 1), .int .i64 0]) (by simp [results, Tryd.results58, go_sem]) rfl ⟨by obtain ⟨v, HV, HVB, HS⟩ := sum_at HU.out hk h5 (.inl h4); rw [getN_ok (by omega) (by rw [HR.out.okay h3 h5 (by omega), HV.out]), even_worth HS.out HVB.out h7]; exact num_ok, hb0 _ _ _⟩
        · have h5' : decide ((s[p + k].toNat : Int) < 128) = false := by simp; omega
          have hm := HR.out.more h3 h5 h4
          have HM : Hid (RdAt s p (p + k + 1) (k + 1) (7 * k + 7) (x + s[p + k].toNat % 128 * 2 ^ (7 * k))) := hm
          clear hm
          have hsum := sum_more (c := s[p + k]) HU.out (show k ≤ 8 by omega)
          go_wp2
          exact ⟨⟨k + 1, x + s[p + k].toNat % 128 * 2 ^ (7 * k), by go_num, rfl, HM.out⟩, by simp [intOf]; omega⟩
    · have h3' : (s.size : Int) - (k : Int) ≤ (p : Int) := by omega
      go_wp2
      exact bodyPost_ret (v := .agg #[.int .i64 0, .int .i64 0, .int .i64 4]) (by simp [results, Tryd.results58, go_sem]) rfl ⟨by rw [getN_bad (by omega) (show (rdOf s p).2.2 = 4 from by rw [HR.out.short h3]) (by omega)]; rfl, hb0 _ _ _⟩
end Go.Proofs.YtpjdkgcdkfmkiaaDoor
