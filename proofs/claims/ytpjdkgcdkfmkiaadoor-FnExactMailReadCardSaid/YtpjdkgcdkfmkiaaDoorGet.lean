/- The contracts of GetNum. -/
import Derived.Test.YtpjdkgcdkfmkiaaDoorRead
import Derived.Test.YtpjdkgcdkfmkiaaDoorErrAs
namespace Go.Proofs.YtpjdkgcdkfmkiaaDoor
open Go Go.RowKit
set_option linter.unusedVariables false

theorem unfold_any (u : Nat) (w : World) (hu : u < 18446744073709551616) :
    Calls Tryd.prog 80 #[.int .u64 (u : Nat)] w fun e w' => e = .returned (.int .i64 (unfoldN u)) ∧ w = w' := by
  by_cases h : u % 2 = 1
  · have e1 := and_one64_odd hu h
    have HU : Hid (u % 2 = 1) := h
    clear h
    go_enter Tryd.func80, Tryd.ntmps80
    go_wp2
    go_ret
    exact ⟨ret_int (unfold_odd hu HU.out), rfl⟩
  · have e1 := and_one64_even hu h
    have HU : Hid (¬ u % 2 = 1) := h
    clear h
    go_enter Tryd.func80, Tryd.ntmps80
    go_wp2
    go_ret
    exact ⟨ret_int (unfold_even hu HU.out), rfl⟩

/-- What readNum hands back. -/
def numV (ps : List ByteArray) (r : Int × Int × Int) : Value := if r.2.2 = 0 then .tuple #[.int .i64 r.1, .int .i64 r.2.1, .nilIface] else .tuple #[.int .i64 0, .int .i64 0, errV ps r.2.2]
theorem numV_bad {ps : List ByteArray} {r : Int × Int × Int} {c : Int} (h : r = (0, 0, c)) (hc : c ≠ 0) : Ending.returned (.tuple #[.int .i64 0, .int .i64 0, errV ps c]) = .returned (numV ps r) := by
  subst h; unfold numV; rw [if_neg hc]
theorem numV_ok {ps : List ByteArray} {r : Int × Int × Int} {n k : Int} (h : r = (n, k, 0)) : Ending.returned (.tuple #[.int .i64 n, .int .i64 k, .nilIface]) = .returned (numV ps r) := by
  subst h; unfold numV; rw [if_pos rfl]
theorem readV_ok' {p : Nat} {r : Nat × Nat × Int} {u k : Nat} (h : r = (u, k, 0)) : readV p r = .tuple #[.int .u64 (u : Nat), .int .i64 ((p + k : Nat) : Int), .nilIface] := by
  subst h; unfold readV; rw [if_pos rfl]
theorem readV_bad' {p : Nat} {r : Nat × Nat × Int} {c : Int} (h : r.2.2 = c) (hc : c ≠ 0) : readV p r = .tuple #[.int .u64 0, .int .i64 0, .iface 86 (.agg #[.int .i64 c])] := by
  subst h; unfold readV; rw [if_neg hc]
theorem rd_split (s : ByteArray) (p : Nat) : (∃ u k : Nat, rdOf s p = (u, k, 0) ∧ u < 18446744073709551616 ∧ k ≤ s.size - p ∧ k ≤ 10) ∨ ∃ c : Int, (rdOf s p).2.2 = c ∧ c ≠ 0 := by
  have hf := rdOf_fits s p
  by_cases h : (rdOf s p).2.2 = 0
  · left; exact ⟨(rdOf s p).1, (rdOf s p).2.1, by rw [← h], hf.1, hf.2.1.1, hf.2.1.2⟩
  · right; exact ⟨_, rfl, h⟩

set_option maxHeartbeats 1000000 in
set_option maxRecDepth 100000 in
theorem readNum_any (s : ByteArray) (a : Int) (w : World) :
    Calls Tryd.prog 68 #[.string s, .int .i64 a] w fun e w' => (∃ ps, e = .returned (numV ps (getN s a))) ∧ w' = w := by
  by_cases h1 : 8000 < (s.size : Int)
  · go_enter Tryd.func68, Tryd.ntmps68
    go_wp2
    go_ret3
    exact ⟨⟨[], numV_bad (ps := []) (getN_size h1) (by omega)⟩, rfl⟩
  by_cases h2 : a < 0
  · go_enter Tryd.func68, Tryd.ntmps68
    go_wp2
    go_ret3
    exact ⟨⟨[], numV_bad (ps := []) (getN_form (by omega) h2) (by omega)⟩, rfl⟩
  obtain ⟨p, rfl⟩ := Int.eq_ofNat_of_zero_le (show 0 ≤ a by omega)
  rcases rd_split s p with ⟨u, k, e, hu, hk, hk2⟩ | ⟨c, e, hc⟩
  · have HE : Hid (rdOf s p = (u, k, 0)) := e
    clear e
    go_enter Tryd.func68, Tryd.ntmps68
    go_wp2_with (first | (go_at_call 79; refine (readBits_any s p _ (by omega)).mono ?_; rintro e w' ⟨rfl, rfl⟩; rw [readV_ok' HE.out]) | (go_at_call 80; refine (unfold_any u _ hu).mono ?_; rintro e w' ⟨rfl, rfl⟩))
    go_ret3
    exact ⟨⟨[], numV_ok (getN_ok (by omega) HE.out)⟩, rfl⟩
  · have HE : Hid ((rdOf s p).2.2 = c) := e
    clear e
    go_enter Tryd.func68, Tryd.ntmps68
    go_wp2_with (go_at_call 79; refine (readBits_any s p _ (by omega)).mono ?_; rintro e w' ⟨rfl, rfl⟩; rw [readV_bad' HE.out hc])
    go_ret3
    exact ⟨⟨[⟨#[110, 117, 109, 98, 101, 114]⟩], numV_bad (ps := [⟨#[110, 117, 109, 98, 101, 114]⟩]) (getN_bad (by omega) HE.out hc) hc⟩, rfl⟩

theorem three_kept {w w2 : World} {x y z : Value} {t : Nat} (hb : Below (w.alloc (.cells #[x, y, z] t)).heap.size (w.alloc (.cells #[x, y, z] t)) w2) :
    w2.cell? ⟨w.heap.size, 0, none⟩ = some x ∧ w2.cell? ⟨w.heap.size, 1, none⟩ = some y ∧ w2.cell? ⟨w.heap.size, 2, none⟩ = some z ∧
      w2.frozen? ⟨w.heap.size, 0, none⟩ = false ∧ w2.frozen? ⟨w.heap.size, 1, none⟩ = false ∧ w2.frozen? ⟨w.heap.size, 2, none⟩ = false := by
  refine ⟨?_, ?_, ?_, ?_, ?_, ?_⟩
  · rw [hb.cell (by simp), World.cell?_alloc_at _ _ _ _ rfl]; rfl
  · rw [hb.cell (by simp), World.cell?_alloc_at _ _ _ _ rfl]; rfl
  · rw [hb.cell (by simp), World.cell?_alloc_at _ _ _ _ rfl]; rfl
  · rw [hb.frozen (by simp)]; simp
  · rw [hb.frozen (by simp)]; simp
  · rw [hb.frozen (by simp)]; simp
theorem three_below {w w2 : World} {x y z : Value} (hb : Below w.heap.size w w2) :
    Below w.heap.size w (((w2.setCell ⟨w.heap.size, 0, none⟩ x).setCell ⟨w.heap.size, 1, none⟩ y).setCell ⟨w.heap.size, 2, none⟩ z) :=
  ((hb.setCell (Nat.le_refl _) _).setCell (Nat.le_refl _) _).setCell (Nat.le_refl _) _

theorem errCell.put3 {w x1 : World} (h : errCell w) (hb : Below w.heap.size w x1) (t : Nat) (a b c : Int) : errCell (x1.alloc (.cells #[.int .i64 a, .int .i64 b, .int .i64 c] t)) :=
  h.keep (hb.alloc hb.size _)

/-- What GetNum answers. -/
def numOut (r : Int × Int × Int) : Value := .agg #[.int .i64 r.1, .int .i64 r.2.1, .int .i64 r.2.2]
theorem num_ok {n : Int} {p k : Nat} : Ending.returned (.agg #[.int .i64 n, .int .i64 ((p : Int) + (k : Int) + 1), .int .i64 0]) = .returned (numOut (n, ((p + (k + 1) : Nat) : Int), 0)) := by
  unfold numOut
  rw [show (((p + (k + 1) : Nat)) : Int) = (p : Int) + (k : Int) + 1 from by omega]
theorem getN_code (s : ByteArray) (a : Int) : (∃ n k : Int, getN s a = (n, k, 0)) ∨ ∃ c : Int, getN s a = (0, 0, c) ∧ c ≠ 0 := by
  unfold getN
  by_cases h1 : 8000 < (s.size : Int)
  · rw [if_pos h1]; exact .inr ⟨2, rfl, by omega⟩
  · rw [if_neg h1]
    by_cases h2 : a < 0
    · rw [if_pos h2]; exact .inr ⟨1, rfl, by omega⟩
    · rw [if_neg h2]
      by_cases h3 : (rdOf s a.toNat).2.2 = 0
      · rw [if_pos h3]; exact .inl ⟨_, _, rfl⟩
      · rw [if_neg h3]; exact .inr ⟨_, rfl, h3⟩
theorem numV_ok' {ps : List ByteArray} {r : Int × Int × Int} {n k : Int} (h : r = (n, k, 0)) : numV ps r = .tuple #[.int .i64 n, .int .i64 k, .nilIface] := by
  subst h; unfold numV; rw [if_pos rfl]
theorem numV_bad' {ps : List ByteArray} {r : Int × Int × Int} {c : Int} (h : r = (0, 0, c)) (hc : c ≠ 0) : numV ps r = .tuple #[.int .i64 0, .int .i64 0, errV ps c] := by
  subst h; unfold numV; rw [if_neg hc]

end Go.Proofs.YtpjdkgcdkfmkiaaDoor
