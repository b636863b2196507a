/- Mails, plain: when one is right. No program. -/
import Derived.Test.YtgmdgjkmdnpmiaaFPlain
namespace Go.Proofs.Ytgmdgjkmdnpmiaa
open Go Go.RowKit
set_option linter.unusedVariables false

/-- A mail. -/
structure MailV where
  kind : Int
  frm : Int
  dst : Int
  num : Int
  about : Int
  fr : Int
  facts : List FactV
/-- For whom one asks. -/
def forR (n : Int) : Prop := n = 0 ∨ nodeR n
/-- What is asked of each kind by itself. -/
def MailV.own (m : MailV) : Prop :=
  (m.kind = 1 ∧ m.about = 0 ∧ forR m.fr) ∨ (m.kind = 2 ∧ nodeR m.about ∧ forR m.fr) ∨ (m.kind = 3 ∧ nodeR m.about ∧ m.about ≠ m.frm ∧ m.about ≠ m.dst ∧ m.fr = 0) ∨
    (m.kind = 4 ∧ m.about = 0 ∧ m.fr = 0) ∨ (m.kind = 5 ∧ m.about = 0 ∧ m.fr = 0)
/-- How many facts it has room for. -/
def mostF (k : Int) : Nat := if k ≤ 3 then 3 else 6
/-- What is asked of all kinds alike. -/
def MailV.alike (m : MailV) : Prop := nodeR m.frm ∧ nodeR m.dst ∧ m.frm ≠ m.dst ∧ timeR m.num
def MailV.ok (m : MailV) : Prop := m.own ∧ m.alike ∧ rightV m.facts ∧ m.facts.length ≤ mostF m.kind
theorem MailV.own_kind {m : MailV} (h : m.own) : 1 ≤ m.kind ∧ m.kind ≤ 5 := by
  unfold MailV.own at h
  omega
/-- As the specification asks it. -/
def MailV.ok2 (m : MailV) : Prop :=
  isIn m.kind 1 5 ∧ nodeR m.frm ∧ nodeR m.dst ∧ m.frm ≠ m.dst ∧ timeR m.num ∧ rightV m.facts ∧
    (m.kind = 2 → nodeR m.about) ∧ (m.kind = 3 → nodeR m.about ∧ m.about ≠ m.frm ∧ m.about ≠ m.dst) ∧ (m.kind ≠ 2 → m.kind ≠ 3 → m.about = 0) ∧
    (m.fr ≠ 0 → m.kind ≤ 2 ∧ nodeR m.fr) ∧ (3 < m.kind ∨ m.facts.length ≤ 3)
theorem MailV.ok_iff (m : MailV) : m.ok2 ↔ m.ok := by
  have hl := fun h => rightV_len (l := m.facts) h
  unfold MailV.ok2 MailV.ok MailV.own MailV.alike isIn mostF forR nodeR
  constructor
  · rintro ⟨h1, h2, h3, h4, h5, h6, h7, h8, h9, h10, h11⟩
    have := hl h6
    refine ⟨?_, ⟨h2, h3, h4, h5⟩, h6, ?_⟩
    · rcases (by omega : m.kind = 1 ∨ m.kind = 2 ∨ m.kind = 3 ∨ m.kind = 4 ∨ m.kind = 5) with k | k | k | k | k
      · exact .inl ⟨k, h9 (by omega) (by omega), by omega⟩
      · exact .inr (.inl ⟨k, h7 k, by omega⟩)
      · exact .inr (.inr (.inl ⟨k, (h8 k).1, (h8 k).2.1, (h8 k).2.2, by omega⟩))
      · exact .inr (.inr (.inr (.inl ⟨k, h9 (by omega) (by omega), by omega⟩)))
      · exact .inr (.inr (.inr (.inr ⟨k, h9 (by omega) (by omega), by omega⟩)))
    · split <;> omega
  · rintro ⟨h1, ⟨h2, h3, h4, h5⟩, h6, h7⟩
    refine ⟨by omega, h2, h3, h4, h5, h6, by omega, by omega, by omega, by omega, ?_⟩
    split at h7 <;> omega
end Go.Proofs.Ytgmdgjkmdnpmiaa
