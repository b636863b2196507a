/- The contracts of GetNum. -/
import Derived.Test.YtpjdkgcdkfmkiaaDoorG23
import Derived.Test.YtpjdkgcdkfmkiaaDoorErrAs
namespace Go.Proofs.YtpjdkgcdkfmkiaaDoor
open Go Go.RowKit
set_option linter.unusedVariables false

theorem unfold_any (u : Nat) (w : World) (hu : u < 18446744073709551616) :
    Calls Tryd.prog 80 #[.int .u64 (u : Nat)] w fun e w' => e = .returned (.int .i64 (unfoldN u)) ∧ w = w' := by
  by_cases h : u % 2 = 1
  · have e1 := and_one64_odd hu h
    have HU : Hid (u % 2 = 1) := h
    clear h
    go_enter Tryd.func80, Tryd.ntmps80
    go_wp2
    go_ret
    exact ⟨ret_int (unfold_odd hu HU.out), rfl⟩
  · have e1 := and_one64_even hu h
    have HU : Hid (¬ u % 2 = 1) := h
    clear h
    go_enter Tryd.func80, Tryd.ntmps80
    go_wp2
    go_ret
    exact ⟨ret_int (unfold_even hu HU.out), rfl⟩

/-- What readNum hands back. -/
def numV (ps : List ByteArray) (r : Int × Int × Int) : Value := if r.2.2 = 0 then .tuple #[.int .i64 r.1, .int .i64 r.2.1, .nilIface] else .tuple #[.int .i64 0, .int .i64 0, errV ps r.2.2]
theorem numV_bad {ps : List ByteArray} {r : Int × Int × Int} {c : Int} (h : r = (0, 0, c)) (hc : c ≠ 0) : Ending.returned (.tuple #[.int .i64 0, .int .i64 0, errV ps c]) = .returned (numV ps r) := by
  subst h; unfold numV; rw [if_neg hc]
theorem numV_ok {ps : List ByteArray} {r : Int × Int × Int} {n k : Int} (h : r = (n, k, 0)) : Ending.returned (.tuple #[.int .i64 n, .int .i64 k, .nilIface]) = .returned (numV ps r) := by
  subst h; unfold numV; rw [if_pos rfl]
theorem readV_ok' {p : Nat} {r : Nat × Nat × Int} {u k : Nat} (h : r = (u, k, 0)) : readV p r = .tuple #[.int .u64 (u : Nat), .int .i64 ((p + k : Nat) : Int), .nilIface] := by
  subst h; unfold readV; rw [if_pos rfl]
theorem readV_bad' {p : Nat} {r : Nat × Nat × Int} {c : Int} (h : r.2.2 = c) (hc : c ≠ 0) : readV p r = .tuple #[.int .u64 0, .int .i64 0, .iface 86 (.agg #[.int .i64 c])] := by
  subst h; unfold readV; rw [if_neg hc]
theorem rd_split (s : ByteArray) (p : Nat) : (∃ u k : Nat, rdOf s p = (u, k, 0) ∧ u < 18446744073709551616 ∧ k ≤ s.size - p ∧ k ≤ 10) ∨ ∃ c : Int, (rdOf s p).2.2 = c ∧ c ≠ 0 := by
  have hf := rdOf_fits s p
  by_cases h : (rdOf s p).2.2 = 0
  · left; exact ⟨(rdOf s p).1, (rdOf s p).2.1, by rw [← h], hf.1, hf.2.1.1, hf.2.1.2⟩
  · right; exact ⟨_, rfl, h⟩

set_option maxHeartbeats 1000000 in
set_option maxRecDepth 100000 in
theorem readNum_any (s : ByteArray) (a : Int) (w : World) :
    Calls Tryd.prog 68 #[.string s, .int .i64 a] w fun e w' => (∃ ps, e = .returned (numV ps (getN s a))) ∧ w' = w := by
  by_cases h1 : 8000 < (s.size : Int)
  · go_enter Tryd.func68, Tryd.ntmps68
    go_wp2
    go_ret3
    exact ⟨⟨[], numV_bad (ps := []) (getN_size h1) (by omega)⟩, rfl⟩
  by_cases h2 : a < 0
  · go_enter Tryd.func68, Tryd.ntmps68
    go_wp2
    go_ret3
    exact ⟨⟨[], numV_bad (ps := []) (getN_form (by omega) h2) (by omega)⟩, rfl⟩
  obtain ⟨p, rfl⟩ := Int.eq_ofNat_of_zero_le (show 0 ≤ a by omega)
  rcases rd_split s p with ⟨u, k, e, hu, hk, hk2⟩ | ⟨c, e, hc⟩
  · have HE : Hid (rdOf s p = (u, k, 0)) := e
    clear e
    go_enter Tryd.func68, Tryd.ntmps68
    go_wp2_with (first | (go_at_call 79; refine (readBits_any s p _ (by omega)).mono ?_; rintro e w' ⟨rfl, rfl⟩; rw [readV_ok' HE.out]) | (go_at_call 80; refine (unfold_any u _ hu).mono ?_; rintro e w' ⟨rfl, rfl⟩))
    go_ret3
    exact ⟨⟨[], numV_ok (getN_ok (by omega) HE.out)⟩, rfl⟩
  · have HE : Hid ((rdOf s p).2.2 = c) := e
    clear e
    go_enter Tryd.func68, Tryd.ntmps68
    go_wp2_with (go_at_call 79; refine (readBits_any s p _ (by omega)).mono ?_; rintro e w' ⟨rfl, rfl⟩; rw [readV_bad' HE.out hc])
    go_ret3
    exact ⟨⟨[⟨#[110, 117, 109, 98, 101, 114]⟩], numV_bad (ps := [⟨#[110, 117, 109, 98, 101, 114]⟩]) (getN_bad (by omega) HE.out hc) hc⟩, rfl⟩

theorem three_kept {w w2 : World} {x y z : Value} {t : Nat} (hb : Below (w.alloc (.cells #[x, y, z] t)).heap.size (w.alloc (.cells #[x, y, z] t)) w2) :
    w2.cell? ⟨w.heap.size, 0, none⟩ = some x ∧ w2.cell? ⟨w.heap.size, 1, none⟩ = some y ∧ w2.cell? ⟨w.heap.size, 2, none⟩ = some z ∧
      w2.frozen? ⟨w.heap.size, 0, none⟩ = false ∧ w2.frozen? ⟨w.heap.size, 1, none⟩ = false ∧ w2.frozen? ⟨w.heap.size, 2, none⟩ = false := by
  refine ⟨?_, ?_, ?_, ?_, ?_, ?_⟩
  · rw [hb.cell (by simp), World.cell?_alloc_at _ _ _ _ rfl]; rfl
  · rw [hb.cell (by simp), World.cell?_alloc_at _ _ _ _ rfl]; rfl
  · rw [hb.cell (by simp), World.cell?_alloc_at _ _ _ _ rfl]; rfl
  · rw [hb.frozen (by simp)]; simp
  · rw [hb.frozen (by simp)]; simp
  · rw [hb.frozen (by simp)]; simp
theorem three_below {w w2 : World} {x y z : Value} (hb : Below w.heap.size w w2) :
    Below w.heap.size w (((w2.setCell ⟨w.heap.size, 0, none⟩ x).setCell ⟨w.heap.size, 1, none⟩ y).setCell ⟨w.heap.size, 2, none⟩ z) :=
  ((hb.setCell (Nat.le_refl _) _).setCell (Nat.le_refl _) _).setCell (Nat.le_refl _) _

theorem errCell.put3 {w x1 : World} (h : errCell w) (hb : Below w.heap.size w x1) (t : Nat) (a b c : Int) : errCell (x1.alloc (.cells #[.int .i64 a, .int .i64 b, .int .i64 c] t)) :=
  h.keep (hb.alloc hb.size _)

/-- What GetNum answers. -/
def numOut (r : Int × Int × Int) : Value := .agg #[.int .i64 r.1, .int .i64 r.2.1, .int .i64 r.2.2]
theorem num_ok {n : Int} {p k : Nat} : Ending.returned (.agg #[.int .i64 n, .int .i64 ((p : Int) + (k : Int) + 1), .int .i64 0]) = .returned (numOut (n, ((p + (k + 1) : Nat) : Int), 0)) := by
  unfold numOut
  rw [show (((p + (k + 1) : Nat)) : Int) = (p : Int) + (k : Int) + 1 from by omega]
theorem getN_code (s : ByteArray) (a : Int) : (∃ n k : Int, getN s a = (n, k, 0)) ∨ ∃ c : Int, getN s a = (0, 0, c) ∧ c ≠ 0 := by
  unfold getN
  by_cases h1 : 8000 < (s.size : Int)
  · rw [if_pos h1]; exact .inr ⟨2, rfl, by omega⟩
  · rw [if_neg h1]
    by_cases h2 : a < 0
    · rw [if_pos h2]; exact .inr ⟨1, rfl, by omega⟩
    · rw [if_neg h2]
      by_cases h3 : (rdOf s a.toNat).2.2 = 0
      · rw [if_pos h3]; exact .inl ⟨_, _, rfl⟩
      · rw [if_neg h3]; exact .inr ⟨_, rfl, h3⟩
theorem numV_ok' {ps : List ByteArray} {r : Int × Int × Int} {n k : Int} (h : r = (n, k, 0)) : numV ps r = .tuple #[.int .i64 n, .int .i64 k, .nilIface] := by
  subst h; unfold numV; rw [if_pos rfl]
theorem numV_bad' {ps : List ByteArray} {r : Int × Int × Int} {c : Int} (h : r = (0, 0, c)) (hc : c ≠ 0) : numV ps r = .tuple #[.int .i64 0, .int .i64 0, errV ps c] := by
  subst h; unfold numV; rw [if_neg hc]

end Go.Proofs.YtpjdkgcdkfmkiaaDoor
/- The contract of the specification's GetNum. -/
namespace Go.Proofs.YtpjdkgcdkfmkiaaDoor
open Go Go.RowKit
set_option linter.unusedVariables false

set_option maxHeartbeats 2000000 in
set_option maxRecDepth 100000 in
theorem specGetNum_any (s : ByteArray) (a : Int) (w : World) :
    Calls Tryd.prog 58 #[.string s, .int .i64 a] w fun e w' => e = .returned (numOut (getN s a)) ∧ Below w.heap.size w w' := by
  have hb0 : ∀ x y z, Below w.heap.size w (w.alloc (.cells #[x, y, z] 93)) := fun _ _ _ => (Below.refl _ _).alloc (Nat.le_refl _) _
  by_cases h1 : 8000 < (s.size : Int)
  · rw [getN_size h1]
    go_enter Tryd.func58, Tryd.ntmps58
    go_wp2
    exact bodyPost_ret (v := .agg #[.int .i64 0, .int .i64 0, .int .i64 2]) (by simp [results, Tryd.results58, go_sem]) rfl ⟨rfl, hb0 _ _ _⟩
  by_cases h2 : a < 0
  · rw [getN_form h1 h2]
    go_enter Tryd.func58, Tryd.ntmps58
    go_wp2
    exact bodyPost_ret (v := .agg #[.int .i64 0, .int .i64 0, .int .i64 1]) (by simp [results, Tryd.results58, go_sem]) rfl ⟨rfl, hb0 _ _ _⟩
  have hwr := wrap_byte
  obtain ⟨p, rfl⟩ := Int.eq_ofNat_of_zero_le (show 0 ≤ a by omega)
  go_enter Tryd.func58, Tryd.ntmps58
  go_wp2
  go_loop [6, 5, 7, 8] (fun i u _ _ => ∃ k x : Nat, i = .int .i64 k ∧ u = .int .u64 x ∧ RdAt s p (p + k) k (7 * k) x) (fun i _ _ _ => 10 - (intOf i).toNat)
  case atStart => exact ⟨0, 0, rfl, rfl, RdAt_zero s p⟩
  case round =>
    obtain ⟨k, x, rfl, rfl, hrd⟩ := hrel
    have HR : Hid (RdAt s p (p + k) k (7 * k) x) := hrd
    obtain ⟨_, _, hk, hq2, hu, hx⟩ := hrd
    clear hx
    have HU : Hid (x < 2 ^ (7 * k)) := hu
    clear hu
    have hk' : (k : Int) ≤ 9 := by omega
    by_cases h3 : p + k < s.size
    · have h3' : (p : Int) + (k : Int) < (s.size : Int) := by omega
      by_cases h4 : k = 9
      · have E4 : Hid (k = 9) := h4
        clear h4
        have h4' : ((k : Int) == 9) = true := by have := E4.out; simp; omega
        by_cases h6 : 1 < s[p + k].toNat
        · have h6' : decide (1 < (s[p + k].toNat : Int)) = true := by simp; omega
          go_wp2
          exact bodyPost_ret (v := .agg #[.int .i64 0, .int .i64 0, .int .i64 3]) (by simp [results, Tryd.results58, go_sem]) rfl ⟨by rw [getN_bad (by omega) (show (rdOf s p).2.2 = 3 from by rw [HR.out.nine h3 E4.out h6]) (by omega)]; rfl, hb0 _ _ _⟩
        · have h6' : decide (1 < (s[p + k].toNat : Int)) = false := by simp; omega
          by_cases h8 : s[p + k].toNat = 0
          · have h8' : ((s[p + k].toNat : Int) == 0) = true := by simp; omega
            have E8 : Hid (s[p + k].toNat = 0) := h8
            clear h8
            have h9 : 0 < k := by have := E4.out; omega
            go_wp2
            exact bodyPost_ret (v := .agg #[.int .i64 0, .int .i64 0, .int .i64 3]) (by simp [results, Tryd.results58, go_sem]) rfl ⟨by rw [getN_bad (by omega) (show (rdOf s p).2.2 = 3 from by rw [HR.out.zero h3 E8.out h9]) (by omega)]; rfl, hb0 _ _ _⟩
          · have h8' : ((s[p + k].toNat : Int) == 0) = false := by simp; omega
            cases h7 : ((IntKind.u64.wrap ((x : Int) + IntKind.u64.wrap ((s[p + k].toNat : Int) % 128 * 2 ^ (7 * k)))).tmod 2 == 1) with
            | true =>
              go_wp2
              exact bodyPost_ret (v := .agg #[.int .i64 (wrap64 (wrap64 (-wrap64 (IntKind.u64.wrap ((IntKind.u64.wrap ((x : Int) + IntKind.u64.wrap ((s[p + k].toNat : Int) % 128 * 2 ^ (7 * k)))).tdiv 2))) - 1)), .int .i64 ((p : Int) + (k : Int) + 1), .int .i64 0]) (by simp [results, Tryd.results58, go_sem]) rfl ⟨by obtain ⟨v, HV, HVB, HS⟩ := sum_at HU.out hk (show s[p + k].toNat < 128 by omega) (.inr ⟨E4.out, by omega⟩); rw [getN_ok (by omega) (by rw [HR.out.okay h3 (by omega) (by omega), HV.out]), odd_worth HS.out HVB.out h7]; exact num_ok, hb0 _ _ _⟩
            | false =>
              go_wp2
              exact bodyPost_ret (v := .agg #[.int .i64 (wrap64 (IntKind.u64.wrap ((IntKind.u64.wrap ((x : Int) + IntKind.u64.wrap ((s[p + k].toNat : Int) % 128 * 2 ^ (7 * k)))).tdiv 2))), .int .i64 ((p : Int) + (k : Int) + 1), .int .i64 0]) (by simp [results, Tryd.results58, go_sem]) rfl ⟨by obtain ⟨v, HV, HVB, HS⟩ := sum_at HU.out hk (show s[p + k].toNat < 128 by omega) (.inr ⟨E4.out, by omega⟩); rw [getN_ok (by omega) (by rw [HR.out.okay h3 (by omega) (by omega), HV.out]), even_worth HS.out HVB.out h7]; exact num_ok, hb0 _ _ _⟩
      · have h4' : ((k : Int) == 9) = false := by simp; omega
        by_cases h5 : s[p + k].toNat < 128
        · have h5' : decide ((s[p + k].toNat : Int) < 128) = true := by simp; omega
          by_cases h6 : s[p + k].toNat = 0
          · have h6' : ((s[p + k].toNat : Int) == 0) = true := by simp; omega
            have E8 : Hid (s[p + k].toNat = 0) := h6
            clear h6
            by_cases h9 : 0 < k
            · go_wp2
              exact bodyPost_ret (v := .agg #[.int .i64 0, .int .i64 0, .int .i64 3]) (by simp [results, Tryd.results58, go_sem]) rfl ⟨by rw [getN_bad (by omega) (show (rdOf s p).2.2 = 3 from by rw [HR.out.zero h3 E8.out h9]) (by omega)]; rfl, hb0 _ _ _⟩
            · have _t := hk
              cases h7 : ((IntKind.u64.wrap ((x : Int) + IntKind.u64.wrap ((s[p + k].toNat : Int) % 128 * 2 ^ (7 * k)))).tmod 2 == 1) with
              | true =>
                go_wp2
                exact bodyPost_ret (v := .agg #[.int .i64 (wrap64 (wrap64 (-wrap64 (IntKind.u64.wrap ((IntKind.u64.wrap ((x : Int) + IntKind.u64.wrap ((s[p + k].toNat : Int) % 128 * 2 ^ (7 * k)))).tdiv 2))) - 1)), .int .i64 ((p : Int) + (k : Int) + 1), .int .i64 0]) (by simp [results, Tryd.results58, go_sem]) rfl ⟨by obtain ⟨v, HV, HVB, HS⟩ := sum_at HU.out hk h5 (.inl h4); rw [getN_ok (by omega) (by rw [HR.out.okay h3 h5 (by omega), HV.out]), odd_worth HS.out HVB.out h7]; exact num_ok, hb0 _ _ _⟩
              | false =>
                go_wp2
                exact bodyPost_ret (v := .agg #[.int .i64 (wrap64 (IntKind.u64.wrap ((IntKind.u64.wrap ((x : Int) + IntKind.u64.wrap ((s[p + k].toNat : Int) % 128 * 2 ^ (7 * k)))).tdiv 2))), .int .i64 ((p : Int) + (k : Int) + 1), .int .i64 0]) (by simp [results, Tryd.results58, go_sem]) rfl ⟨by obtain ⟨v, HV, HVB, HS⟩ := sum_at HU.out hk h5 (.inl h4); rw [getN_ok (by omega) (by rw [HR.out.okay h3 h5 (by omega), HV.out]), even_worth HS.out HVB.out h7]; exact num_ok, hb0 _ _ _⟩
          · have h6' : ((s[p + k].toNat : Int) == 0) = false := by simp; omega
            cases h7 : ((IntKind.u64.wrap ((x : Int) + IntKind.u64.wrap ((s[p + k].toNat : Int) % 128 * 2 ^ (7 * k)))).tmod 2 == 1) with
            | true =>
              go_wp2
              exact bodyPost_ret (v := .agg #[.int .i64 (wrap64 (wrap64 (-wrap64 (IntKind.u64.wrap ((IntKind.u64.wrap ((x : Int) + IntKind.u64.wrap ((s[p + k].toNat : Int) % 128 * 2 ^ (7 * k)))).tdiv 2))) - 1)), .int .i64 ((p : Int) + (k : Int) + 1), .int .i64 0]) (by simp [results, Tryd.results58, go_sem]) rfl ⟨by obtain ⟨v, HV, HVB, HS⟩ := sum_at HU.out hk h5 (.inl h4); rw [getN_ok (by omega) (by rw [HR.out.okay h3 h5 (by omega), HV.out]), odd_worth HS.out HVB.out h7]; exact num_ok, hb0 _ _ _⟩
            | false =>
              go_wp2
              exact bodyPost_ret (v := .agg #[.int .i64 (wrap64 (IntKind.u64.wrap ((IntKind.u64.wrap ((x : Int) + IntKind.u64.wrap ((s[p + k].toNat : Int) % 128 * 2 ^ (7 * k)))).tdiv 2))), .int .i64 ((p : Int) + (k : Int) + 1), .int .i64 0]) (by simp [results, Tryd.results58, go_sem]) rfl ⟨by obtain ⟨v, HV, HVB, HS⟩ := sum_at HU.out hk h5 (.inl h4); rw [getN_ok (by omega) (by rw [HR.out.okay h3 h5 (by omega), HV.out]), even_worth HS.out HVB.out h7]; exact num_ok, hb0 _ _ _⟩
        · have h5' : decide ((s[p + k].toNat : Int) < 128) = false := by simp; omega
          have hm := HR.out.more h3 h5 h4
          have HM : Hid (RdAt s p (p + k + 1) (k + 1) (7 * k + 7) (x + s[p + k].toNat % 128 * 2 ^ (7 * k))) := hm
          clear hm
          have hsum := sum_more (c := s[p + k]) HU.out (show k ≤ 8 by omega)
          go_wp2
          exact ⟨⟨k + 1, x + s[p + k].toNat % 128 * 2 ^ (7 * k), by go_num, rfl, HM.out⟩, by simp [intOf]; omega⟩
    · have h3' : (s.size : Int) - (k : Int) ≤ (p : Int) := by omega
      go_wp2
      exact bodyPost_ret (v := .agg #[.int .i64 0, .int .i64 0, .int .i64 4]) (by simp [results, Tryd.results58, go_sem]) rfl ⟨by rw [getN_bad (by omega) (show (rdOf s p).2.2 = 4 from by rw [HR.out.short h3]) (by omega)]; rfl, hb0 _ _ _⟩
end Go.Proofs.YtpjdkgcdkfmkiaaDoor
