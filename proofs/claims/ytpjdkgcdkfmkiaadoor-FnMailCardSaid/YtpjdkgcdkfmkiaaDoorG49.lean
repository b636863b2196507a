/- The contracts of the draws of chapter 2. -/
import Derived.Test.YtpjdkgcdkfmkiaaDoorDraw
import Derived.Test.YtpjdkgcdkfmkiaaDoorG27
import Derived.Deep.RegionWith
import Derived.Laws.IdiomStrings
import Derived.Test.YtpjdkgcdkfmkiaaDoorSealP
import Derived.WalkKit
import Derived.ProofKit
import Derived.OpenShut
import Derived.ShutString
import Derived.ChangeOld
import Derived.Below
namespace Go.Proofs.YtpjdkgcdkfmkiaaDoor
open Go Go.RowKit
set_option linter.unusedVariables false

theorem wf_small {n : Int} (h1 : -2000000 ≤ n) (h2 : n < 2000000000000) : (Lit.int .i64 n).wf = true := by
  simp [Lit.wf, IntKind.min, IntKind.max, IntKind.bits, IntKind.signed]; omega
/-- What grew by the source's own block alone is as it was below it. -/
theorem below_src {w w1 w2 : World} {b : Nat} (hb : Below w.heap.size w w1) (he : w.heap.size ≤ b) (hg : w1.grownBy w2 (some b)) : Below w.heap.size w w2 :=
  hb.grown hg hb.size (fun k hk => by obtain rfl := Option.some.inj hk; exact he)

end Go.Proofs.YtpjdkgcdkfmkiaaDoor
/- The contracts of the draws of promise 2. -/
namespace Go.Proofs.YtpjdkgcdkfmkiaaDoor
open Go Go.RowKit
set_option linter.unusedVariables false

set_option maxHeartbeats 1000000 in
set_option maxRecDepth 100000 in
/-- A number below most, of the code's byte at a place. -/
theorem lwAt_any (a : Option Addr) (len cap : Nat) (zs : List Int) (at0 : Int) (most : Int) (w : World) (hl : len ≤ 1048576) (hrow : ByteRow w a len cap zs) (h0 : 0 ≤ at0) (h1 : at0 < 1000) (hm : most ≤ 1000000000) :
    Calls Tryd.prog 14 #[.slice a len cap, .int .i64 at0, .int .i64 most] w fun e w' => ∃ r : Int, e = .returned (.int .i64 r) ∧ 0 ≤ r ∧ (1 ≤ most → r < most) ∧ w' = w := by
  by_cases h2 : most ≤ 1
  · go_enter Tryd.func14, Tryd.ntmps14
    go_wp2
    go_ret
    exact ⟨0, rfl, by omega, by omega, rfl⟩
  by_cases h3 : len = 0
  · subst h3
    go_enter Tryd.func14, Tryd.ntmps14
    go_wp2
    go_ret
    exact ⟨0, rfl, by omega, by omega, rfl⟩
  rcases hrow with e | ⟨⟨xb, xo, xs⟩, rfl, e, hlt, hlz, hc, hz⟩
  · omega
  subst e
  have hq0 : 0 ≤ at0.tmod len := Int.tmod_nonneg _ h0
  have hq1 : at0.tmod len < len := by rw [Int.tmod_eq_emod_of_nonneg h0]; exact Int.emod_lt_of_pos _ (by omega)
  obtain ⟨k, hk⟩ := Int.eq_ofNat_of_zero_le hq0
  have hk' : k < len := by omega
  have hck := hc k (by omega)
  have hzk : 0 ≤ zs.getD k 0 ∧ zs.getD k 0 < 256 := by
    have hm : zs.getD k 0 ∈ zs := by rw [List.getD_eq_getElem?_getD, List.getElem?_eq_getElem (by omega)]; simp
    exact hz _ hm
  obtain ⟨z, hz0⟩ : ∃ z, zs.getD k 0 = z := ⟨_, rfl⟩
  rw [hz0] at hck hzk
  simp only at hck hlt
  have hz1 := hzk.1
  have hz2 := hzk.2
  have hr0 : 0 ≤ z % most := Int.emod_nonneg _ (by omega)
  have hr1 : z % most < most := Int.emod_lt_of_pos _ (by omega)
  clear hc hz hz0 hlz hzk hq0 hq1
  go_enter Tryd.func14, Tryd.ntmps14
  go_wp2
  go_ret
  exact ⟨z % most, rfl, hr0, fun _ => hr1, rfl⟩

theorem small_size {l : List UInt8} (h : l.length ≤ 20000) : (⟨l.toArray⟩ : ByteArray).size ≤ maxLen := by
  have : (⟨l.toArray⟩ : ByteArray).size = l.length := by show l.toArray.size = _; simp
  rw [this]; unfold maxLen; omega
theorem crcMore_lt (c : Int) (l : List UInt8) : crcMore c l < 4294967296 := by
  unfold crcMore
  by_cases h : 8000 < (l.length : Int) ∨ c < 0 ∨ 4294967295 < c
  · rw [if_pos h]; omega
  · rw [if_neg h]; exact crcOf_lt _ _ (by omega)
end Go.Proofs.YtpjdkgcdkfmkiaaDoor
/- '[]byte(s)', and one byte turned. -/
namespace Go.Proofs.YtpjdkgcdkfmkiaaDoor
open Go Go.ChangeShapes Go.WideShapes Go.ChangeAt Go.RowKit
open Go.ChangeMaps (open_string shut_string)
set_option linter.unusedVariables false

theorem below_thenS {w x y : World} (h : Below w.heap.size w x) (k : Below x.heap.size x y) : Below w.heap.size w y := h.trans (k.mono h.size)
theorem field_textS (x y z : Value) (w : World) : (Instr.field 48 (.agg #[x, y, z]) 2).run Tryd.prog w = .ok z w := by kernel_rfl
/-- '[]byte(s)'. -/
theorem conv_bytes (S : List UInt8) (w : World) : ∃ (cap : Nat) (w' : World), (convert 9 22 (.string ⟨S.toArray⟩)).run Tryd.prog w = .ok (.slice (some ⟨w.heap.size, 0, none⟩) S.length cap) w' ∧
    (∀ j (hj : j < S.length), w'.cell? ⟨w.heap.size, j, none⟩ = some (.int .u8 (S[j].toNat : Int))) ∧ (∀ j, j < S.length → w'.frozen? ⟨w.heap.size, j, none⟩ = false) ∧ Below w.heap.size w w' ∧ w'.heap.size = w.heap.size + 1 := by
  have h := run_bytes_of_string (P := Tryd.prog) w 9 22 5 ⟨S.toArray⟩ Tryd.underlying9 Tryd.underlying22 Tryd.underlying5
  have hs : (⟨S.toArray⟩ : ByteArray).size = S.length := size_data
  rw [hs] at h
  generalize hcap : grownCap w S.length 0 5 = cap at h
  refine ⟨_, _, h, fun j hj => ?_, fun j hj => ?_, ((Below.refl w.heap.size w).drew).alloc (Nat.le_refl _) _, by simp [World.alloc, World.drew, -World.alloc_eq, -World.drew_eq]⟩
  · have := World.cell?_alloc_mark w.drew (bytesRow ⟨S.toArray⟩ cap) 5 ((bytesRow ⟨S.toArray⟩ cap).size, (bytesRow ⟨S.toArray⟩ cap).size + 1) j
    refine this.trans ?_
    rw [bytesRow_at _ _ _ (by simpa using hj)]
    simp
  · have := World.frozen?_alloc_mark w.drew (bytesRow ⟨S.toArray⟩ cap) 5 (bytesRow ⟨S.toArray⟩ cap).size ((bytesRow ⟨S.toArray⟩ cap).size + 1) j
    refine this.trans ?_
    have hb : j < (bytesRow ⟨S.toArray⟩ cap).size := by
      unfold bytesRow
      simp
      omega
    simp
    omega
/-- A byte with some bits turned is another. -/
theorem turn_byte (c : UInt8) {r : Int} (h0 : 0 ≤ r) (h1 : r < 255) : ∃ d : UInt8, d ≠ c ∧ bits BinOp.xor IntKind.u8 (c.toNat : Int) (1 + r) = (d.toNat : Int) := by
  obtain ⟨k, rfl⟩ := Int.eq_ofNat_of_zero_le h0
  have hk : k < 255 := by omega
  have hx : bits BinOp.xor IntKind.u8 (c.toNat : Int) (1 + (k : Int)) = ((c.toNat ^^^ (1 + k) : Nat) : Int) := by
    have hc := byte_lt c
    have e1 : (1 + (k : Int)) = ((1 + k : Nat) : Int) := by omega
    rw [e1]
    exact u8_xor_nat c.toNat (1 + k) (by omega) (by omega)
  have hc := byte_lt c
  have hl : c.toNat ^^^ (1 + k) < 2 ^ 8 := Nat.xor_lt_two_pow (by omega) (by omega)
  refine ⟨UInt8.ofNat (c.toNat ^^^ (1 + k)), fun e => ?_, ?_⟩
  · have := congrArg UInt8.toNat e
    rw [UInt8.toNat_ofNat'] at this
    have h2 : c.toNat ^^^ (1 + k) = c.toNat ^^^ 0 := by rw [Nat.xor_zero]; omega
    rw [Nat.xor_comm c.toNat, Nat.xor_comm c.toNat] at h2
    have := xor_cancel h2
    omega
  · rw [hx, UInt8.toNat_ofNat']; omega
theorem set_cells {x : World} {b k : Nat} {S : List UInt8} {d : UInt8} (hk : k < S.length) (h : ∀ j (hj : j < S.length), x.cell? ⟨b, j, none⟩ = some (.int .u8 (S[j].toNat : Int))) :
    ∀ j (hj : j < (S.set k d).length), ((x.setCell ⟨b, k, none⟩ (.int .u8 (d.toNat : Int))).drew).cell? ⟨b, j, none⟩ = some (.int .u8 ((S.set k d)[j].toNat : Int)) := by
  intro j hj
  show (x.setCell ⟨b, k, none⟩ (.int .u8 (d.toNat : Int))).cell? ⟨b, j, none⟩ = _
  have hj : j < S.length := by rw [List.length_set] at hj; exact hj
  by_cases e : j = k
  · subst e
    rw [World.cell?_setCell_same' _ _ _ (by rw [h j hk]; rfl)]
    simp
  · rw [cell_set_other (h j hj) e, List.getElem_set_ne (fun q => e q.symm)]
theorem wrap_turn {r : Int} (h0 : 0 ≤ r) (h1 : r < 255) : IntKind.u8.wrap (IntKind.i64.wrap (1 + r)) = 1 + r := by
  rw [IntKind.wrap_i64, IntKind.wrap_u8']; omega

end Go.Proofs.YtpjdkgcdkfmkiaaDoor
