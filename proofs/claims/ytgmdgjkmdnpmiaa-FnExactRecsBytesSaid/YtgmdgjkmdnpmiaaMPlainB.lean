/- A mail's numbers and its bytes, plain. No program. -/
import Derived.Test.YtgmdgjkmdnpmiaaMPlain
import Derived.Test.YtgmdgjkmdnpmiaaPlain1
namespace Go.Proofs.Ytgmdgjkmdnpmiaa
open Go Go.RowKit
set_option linter.unusedVariables false

/-- The bytes of numbers, one behind the other. -/
def numsB (l : List Int) : List UInt8 := l.flatMap putN
theorem numsB_append (l m : List Int) : numsB (l ++ m) = numsB l ++ numsB m := by simp [numsB]
theorem numsB_len (l : List Int) : (numsB l).length ≤ 10 * l.length := by
  induction l with
  | nil => simp [numsB]
  | cons x r ih =>
    have := putN_len x
    simp only [numsB, List.flatMap_cons, List.length_append, List.length_cons] at *
    omega
theorem numsB_cat (l : List Int) : cat (l.map fun x => (⟨(putN x).toArray⟩ : ByteArray)) = numsB l := by
  simp [cat, numsB, List.flatMap_map]
def factN (f : FactV) : List Int := [f.node, f.inc, f.st]
def factsN (l : List FactV) : List Int := l.flatMap factN
theorem factsN_length (l : List FactV) : (factsN l).length = 3 * l.length := by
  induction l with
  | nil => rfl
  | cons x r ih => simp only [factsN, List.flatMap_cons, List.length_append, List.length_cons, factN, List.length_nil] at *; omega
theorem factsN_take (l : List FactV) (k : Nat) (h : k < l.length) : factsN (l.take (k + 1)) = factsN (l.take k) ++ factN l[k] := by
  unfold factsN; rw [List.take_succ_eq_append_getElem h, List.flatMap_append]; simp
def MailV.head (m : MailV) : List Int := [m.kind, m.frm, m.dst, m.num, m.about, m.fr, (m.facts.length : Int)]
def MailV.nums (m : MailV) : List Int := m.head ++ factsN m.facts
def MailV.bytes (m : MailV) : List UInt8 := sealB ⟨(numsB m.nums).toArray⟩
/-- What MailBytes tells. -/
def MailV.out (m : MailV) (q : Bool) : List UInt8 := if q then m.bytes else []
theorem wf_of {n : Int} (h0 : -9223372036854775808 ≤ n) (h1 : n ≤ 9223372036854775807) : (Lit.int .i64 n).wf = true := by
  simp [Lit.wf, IntKind.min, IntKind.max, IntKind.bits, IntKind.signed]; omega
theorem fact_wf {d : FactV} (h : d.ok) : ∀ x ∈ factN d, (Lit.int .i64 x).wf = true := by
  unfold FactV.ok nodeR timeR at h
  intro x hx
  simp only [factN, List.mem_cons, List.not_mem_nil, or_false] at hx
  rcases hx with rfl | rfl | rfl <;> exact wf_of (by omega) (by omega)
theorem mail_wf {m : MailV} (h : m.ok) : ∀ x ∈ m.nums, (Lit.int .i64 x).wf = true := by
  obtain ⟨h1, ⟨h2, h3, h4, h5⟩, h6, h7⟩ := h
  have hk := MailV.own_kind h1
  have hlen := rightV_len h6
  unfold MailV.own forR at h1
  unfold nodeR timeR at *
  intro x hx
  rcases List.mem_append.1 hx with hx | hx
  · simp only [MailV.head, List.mem_cons, List.not_mem_nil, or_false] at hx
    rcases hx with rfl | rfl | rfl | rfl | rfl | rfl | rfl <;> exact wf_of (by omega) (by omega)
  · obtain ⟨d, hd, hx⟩ := List.mem_flatMap.1 hx
    exact fact_wf (rightV_ok h6 d hd) x hx
theorem nums_len {m : MailV} (h : m.ok) : m.nums.length ≤ 25 := by
  have := rightV_len h.2.2.1
  simp only [MailV.nums, MailV.head, List.length_append, factsN_length, List.length_cons, List.length_nil]
  omega
end Go.Proofs.Ytgmdgjkmdnpmiaa
