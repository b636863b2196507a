/- The draws of promise 4, and what its law compares. -/
import Derived.Test.YtlnkcbojoaoehaaQQueueOf
import Derived.Test.YtlnkcbojoaoehaaQEqI
import Derived.Test.YtlnkcbojoaoehaaDueArgs
namespace Go.Proofs.Ytlnkcbojoaoehaa
open Go Go.RowKit
set_option linter.unusedVariables false

theorem grown_belowQ {w w1 w2 : World} {b : Nat} (h1 : Below w.heap.size w w1) (h2 : w1.grownBy w2 (some b)) (hb : w.heap.size ≤ b) : Below w.heap.size w w2 :=
  h1.grown h2 h1.size (fun k e => by obtain rfl := Option.some.inj e; exact hb)
theorem DSome.mono {w : World} {base base' : Nat} {v : Value} {l : List DueV} (h : DSome w base v l) (hb : base' ≤ base) : DSome w base' v l := by
  obtain ⟨g, cap, e, o⟩ := h
  exact ⟨g, cap, e, rowLe o hb⟩
set_option maxHeartbeats 1000000 in
set_option maxRecDepth 100000 in
theorem drawTakeQ_any (a : Option Addr) (len cap : Nat) (zs : List Int) (w : World) (hl : len ≤ 1048576) (hrow : ByteRow w a len cap zs) :
    Calls Try.prog 10 #[.slice a len cap] w fun e w' => ∃ v l, e = .returned v ∧ l.length ≤ 201 ∧ DSome w' w.heap.size v l ∧ Below w.heap.size w w' := by
  go_enter Try.func10, Try.ntmps10
  go_wp2_with fail
  refine (source_any a len cap zs _ hl hrow).mono ?_
  rintro e w1 ⟨rfl, hs1, b1⟩
  go_wp2_with fail
  refine (queueOf_any _ a len cap zs _ hs1).mono ?_
  rintro e w2 ⟨v, l, rfl, hll, d2, hs2, hg2⟩
  have b2 := grown_belowQ b1 hg2 (Nat.le_refl _)
  have HD : Hid (DSome w2 w.heap.size v l) := d2.mono b1.size
  clear d2 hs1 hs2 hg2 b1
  go_wp2
  go_ret
  exact ⟨v, l, rfl, hll, HD.out, b2⟩
set_option maxHeartbeats 1000000 in
set_option maxRecDepth 100000 in
theorem drawDropQ_any (a : Option Addr) (len cap : Nat) (zs : List Int) (w : World) (hl : len ≤ 1048576) (hrow : ByteRow w a len cap zs) :
    Calls Try.prog 12 #[.slice a len cap] w fun e w' => ∃ v l n, e = .returned (.tuple #[v, .int .i64 n]) ∧ l.length ≤ 201 ∧ DSome w' w.heap.size v l ∧ Below w.heap.size w w' := by
  go_enter Try.func12, Try.ntmps12
  go_wp2_with fail
  refine (source_any a len cap zs _ hl hrow).mono ?_
  rintro e w1 ⟨rfl, hs1, b1⟩
  have hlt := hs1.lt
  go_wp2_with fail
  refine (queueOf_any _ a len cap zs _ hs1).mono ?_
  rintro e w2 ⟨v, l, rfl, hll, d2, hs2, hg2⟩
  have b2 := grown_belowQ b1 hg2 (Nat.le_refl _)
  have hb1 := b1.size
  clear hs1 hg2 b1
  go_wp2_with fail
  refine (n_any _ a len cap zs 4 (by omega) _ hs2).mono ?_
  rintro e w3 ⟨n, rfl, _, _, hs3, hg3⟩
  have b3 := grown_belowQ b2 hg3 (Nat.le_refl _)
  have HD : Hid (DSome w3 w.heap.size v l) := (d2.kept hlt hg3).mono hb1
  clear d2 hs2 hg3 b2
  go_wp2
  go_ret2
  exact ⟨v, l, n, rfl, hll, HD.out, b3⟩
set_option maxHeartbeats 1000000 in
set_option maxRecDepth 100000 in
theorem lwQueue_same (a1 : Option Addr) (c1 : Nat) (a2 : Option Addr) (c2 : Nat) (l : List DueV) (w : World) (hl : l.length ≤ 1048576) (h1 : CellRow w a1 (cellsOf DueV.cells l)) (h2 : CellRow w a2 (cellsOf DueV.cells l)) :
    Calls Try.prog 20 #[.slice a1 l.length c1, .slice a2 l.length c2] w fun e w' => e = .returned (.bool true) ∧ Below w.heap.size w w' := by
  go_enter Try.func20, Try.ntmps20
  go_wp2
  go_loopw [5] (fun i wr => ∃ k : Nat, k ≤ l.length ∧ i = .int .i64 k ∧ Below w.heap.size w wr) (fun i _ => l.length - (intOf i).toNat)
  case atStart => exact ⟨0, Nat.zero_le _, rfl, Below.refl _ _⟩
  case round =>
    obtain ⟨k, hk, rfl, hb⟩ := hrel
    by_cases hx : k < l.length
    · obtain ⟨b1, o1, rfl⟩ := h1.addr (by rw [cellsOf_length DueV.cells_len]; omega)
      obtain ⟨b2, o2, rfl⟩ := h2.addr (by rw [cellsOf_length DueV.cells_len]; omega)
      obtain ⟨x, hlx⟩ : ∃ x, l[k] = x := ⟨_, rfl⟩
      have m1 := (h1.keep hb).duef hx hlx
      have m2 := (h2.keep hb).duef hx hlx
      obtain ⟨x1, x2, x3, x4⟩ := x
      have hxI : (k : Int) < (l.length : Int) := by omega
      clear hlx
      go_upto_region 6 with fail
      refine wp_region_held_drew (S := (fun w' => Below wr.heap.size wr w')) (by kernel_rfl) ?hS0 (fun hHeld => ?_)
      case hS0 => exact (Below.refl _ _).drew
      refine takeG 0 (v := .slice (some ⟨b1, o1, none⟩) l.length c1) rfl (by kernel_rfl) (by kernel_rfl) (by kernel_rfl) (by kernel_rfl) (fun _ _ _ h => h) ?hy (by assumption) ?_
      case hy => (intro w' hSw; go_simp)
      try simp only [List.setIfInBounds_toArray, List.set_cons_zero, List.set_cons_succ]
      refine takeG 1 (v := .int .i64 (k : Int)) rfl (by kernel_rfl) (by kernel_rfl) (by kernel_rfl) (by kernel_rfl) (fun _ _ _ h => h) ?hy (by assumption) ?_
      case hy => (intro w' hSw; go_simp)
      try simp only [List.setIfInBounds_toArray, List.set_cons_zero, List.set_cons_succ]
      refine takeG 2 (v := .pointer (some ⟨b1, o1 + k * 4, none⟩)) rfl (by kernel_rfl) (by kernel_rfl) (by kernel_rfl) (by kernel_rfl) (fun _ _ _ h => h) ?hy (by assumption) ?_
      case hy => (intro w' hSw; go_simp)
      try simp only [List.setIfInBounds_toArray, List.set_cons_zero, List.set_cons_succ]
      refine takeG 3 (v := .agg #[.int .i64 x1, .int .i64 x2, .int .i64 x3, .string x4]) rfl (by kernel_rfl) (by kernel_rfl) (by kernel_rfl) (by kernel_rfl) (fun _ _ _ h => h) ?hy (by assumption) ?_
      case hy => (intro w' hSw; obtain ⟨_, s0, s1, s2, s3⟩ := (m1).keep hSw; dsimp only at s0 s1 s2 s3; go_simp)
      try simp only [List.setIfInBounds_toArray, List.set_cons_zero, List.set_cons_succ]
      refine takeG 4 (v := .slice (some ⟨b2, o2, none⟩) l.length c2) rfl (by kernel_rfl) (by kernel_rfl) (by kernel_rfl) (by kernel_rfl) (fun _ _ _ h => h) ?hy (by assumption) ?_
      case hy => (intro w' hSw; go_simp)
      try simp only [List.setIfInBounds_toArray, List.set_cons_zero, List.set_cons_succ]
      refine takeG 5 (v := .int .i64 (k : Int)) rfl (by kernel_rfl) (by kernel_rfl) (by kernel_rfl) (by kernel_rfl) (fun _ _ _ h => h) ?hy (by assumption) ?_
      case hy => (intro w' hSw; go_simp)
      try simp only [List.setIfInBounds_toArray, List.set_cons_zero, List.set_cons_succ]
      refine takeG 6 (v := .pointer (some ⟨b2, o2 + k * 4, none⟩)) rfl (by kernel_rfl) (by kernel_rfl) (by kernel_rfl) (by kernel_rfl) (fun _ _ _ h => h) ?hy (by assumption) ?_
      case hy => (intro w' hSw; go_simp)
      try simp only [List.setIfInBounds_toArray, List.set_cons_zero, List.set_cons_succ]
      refine takeG 7 (v := .agg #[.int .i64 x1, .int .i64 x2, .int .i64 x3, .string x4]) rfl (by kernel_rfl) (by kernel_rfl) (by kernel_rfl) (by kernel_rfl) (fun _ _ _ h => h) ?hy (by assumption) ?_
      case hy => (intro w' hSw; obtain ⟨_, s0, s1, s2, s3⟩ := (m2).keep hSw; dsimp only at s0 s1 s2 s3; go_simp)
      try simp only [List.setIfInBounds_toArray, List.set_cons_zero, List.set_cons_succ]
      refine takeG 8 (v := .bool false) rfl (by kernel_rfl) (by kernel_rfl) (by kernel_rfl) (by kernel_rfl) (fun _ _ _ h => h) ?hy (by assumption) ?_
      case hy => (intro w' hSw; go_simp)
      try simp only [List.setIfInBounds_toArray, List.set_cons_zero, List.set_cons_succ]
      refine wpAnyH_done (by kernel_rfl) ?_ _
      have hb1 := hb.trans (hHeld.mono hb.size)
      go_wp2
      go_roundw
      case rel => exact ⟨k + 1, by omega, by go_num, hb1⟩
      case measure => simp [intOf]; omega
    · go_wp2
      go_ret
      exact ⟨rfl, hb⟩
end Go.Proofs.Ytlnkcbojoaoehaa
