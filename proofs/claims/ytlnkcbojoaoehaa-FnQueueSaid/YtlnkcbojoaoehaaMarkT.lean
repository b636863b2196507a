/- The contract of the exact laws' marks of a text. -/
import Derived.Test.YtlnkcbojoaoehaaQRightI
import Derived.Test.YtlnkcbojoaoehaaJoined
namespace Go.Proofs.Ytlnkcbojoaoehaa
open Go Go.RowKit
set_option linter.unusedVariables false

/-- A number's digits ahead of a text. -/
def digT (k : Nat) (acc : ByteArray) : ByteArray := if h : k = 0 then acc else digT (k / 10) (⟨#[48 + UInt8.ofNat (k % 10)]⟩ ++ acc)
theorem digT_zero (acc : ByteArray) : digT 0 acc = acc := by unfold digT; simp
theorem digT_step {k : Nat} (h : k ≠ 0) (acc : ByteArray) : digT k acc = digT (k / 10) (⟨#[48 + UInt8.ofNat (k % 10)]⟩ ++ acc) := by rw [digT]; simp [h]
def mtext (k : Nat) : ByteArray := ⟨#[109]⟩ ++ digT k ⟨#[]⟩
theorem byte_conv (w : World) (n : Nat) (hn : n < 256) : (convert 22 9 (.slice (some ⟨w.heap.size, 0, none⟩) 1 1)).run Try.prog (w.alloc (.cells #[.int .u8 (n : Int)] 5)) = .ok (.string ⟨#[UInt8.ofNat n]⟩) (w.alloc (.cells #[.int .u8 (n : Int)] 5)) := by
  have := run_convert_bytes_back (P := Try.prog) (w.alloc (.cells #[.int .u8 (n : Int)] 5)) 22 9 5 ⟨w.heap.size, 0, none⟩ 1 [UInt8.ofNat n] Try.underlying22 Try.underlying5 Try.underlying9 (fun j hj => by
    have hj0 : j = 0 := by simpa using hj
    subst hj0
    have hb : (UInt8.ofNat n).toNat = n := by rw [UInt8.toNat_ofNat']; omega
    have e : (⟨w.heap.size, 0, none⟩ : Addr).add 0 = ⟨w.heap.size, 0, none⟩ := rfl
    rw [e]
    simp [hb])
  exact this
set_option maxHeartbeats 1000000 in
set_option maxRecDepth 100000 in
theorem markText_any (k : Nat) (w : World) (h0 : 0 < k) (hk : k ≤ 1000000000) : Calls Try.prog 48 #[.int .i64 k] w fun e w' => e = .returned (.string (mtext k)) ∧ Below w.heap.size w w' := by
  have h0' : ¬ (k : Int) ≤ 0 := by omega
  have hcv := byte_conv
  go_enter Try.func48, Try.ntmps48
  go_wp2
  go_loopw [0, 3] (fun i t wr => ∃ (q : Nat) (acc : ByteArray), acc.size + q ≤ k ∧ i = .int .i64 q ∧ t = .string acc ∧ digT q acc = digT k ⟨#[]⟩ ∧ Below w.heap.size w wr) (fun i _ _ => (intOf i).toNat)
  case atStart => exact ⟨k, ⟨#[]⟩, by simp [ByteArray.size], rfl, rfl, rfl, Below.refl _ _⟩
  case round =>
    obtain ⟨q, acc, hq, rfl, rfl, he, hb⟩ := hrel
    have HE : Hid (digT q acc = digT k ⟨#[]⟩) := he
    clear he
    have hsz : ¬ 9223372036854775807 < 1 + acc.size := by omega
    by_cases hq0 : q = 0
    · subst hq0
      have HM : Hid ((⟨#[109]⟩ : ByteArray) ++ acc = mtext k) := by show _ = _; unfold mtext; rw [← HE.out, digT_zero]
      go_wp2
      go_ret
      exact ⟨by rw [← HM.out]; rfl, hb⟩
    · have HS : Hid (digT (q / 10) (⟨#[48 + UInt8.ofNat (q % 10)]⟩ ++ acc) = digT k ⟨#[]⟩) := by show _ = _; rw [← HE.out, digT_step hq0]
      have hq1 : (0 : Int) < (q : Int) := by omega
      have hcw := hcv wr (48 + q % 10) (by omega)
      rw [show (((48 + q % 10 : Nat)) : Int) = 48 + (q : Int) % 10 by omega] at hcw
      clear hq0 HE
      go_wp2
      go_roundw
      case rel => exact ⟨q / 10, ⟨#[48 + UInt8.ofNat (q % 10)]⟩ ++ acc, by rw [ByteArray.size_append, show (⟨#[48 + UInt8.ofNat (q % 10)]⟩ : ByteArray).size = 1 from rfl]; omega, congrArg (Value.int .i64) (by omega), rfl, HS.out, hb.alloc hb.size _⟩
      case measure => simp [intOf]; omega
end Go.Proofs.Ytlnkcbojoaoehaa
