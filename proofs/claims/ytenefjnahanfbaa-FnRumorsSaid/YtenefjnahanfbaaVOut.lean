/- What ViewPut and ViewJoin answer, plain; and an answer's block. -/
import Derived.Test.YtenefjnahanfbaaFCopy
namespace Go.Proofs.Ytenefjnahanfbaa
open Go Go.RowKit
set_option linter.unusedVariables false

/-- An answer. -/
def outV (v : Value) (r : Bool) (c : Int) : Value := .agg #[v, .bool r, .int .i64 c]
def PutIs (l : List FactV) (f : FactV) (c : Int) (m : List FactV) (r : Bool) : Prop :=
  (400 < l.length ∧ c = 2 ∧ m = [] ∧ r = false) ∨ (l.length ≤ 400 ∧ (¬ rightV l ∨ ¬ f.ok) ∧ c = 1 ∧ m = [] ∧ r = false) ∨ (rightV l ∧ f.ok ∧ c = 0 ∧ ∃ k, placeF l f.node k ∧ m = putL l f k ∧ (r = true ↔ newsAt l f k))
theorem put_ex (l : List FactV) (f : FactV) : ∃ c m r, PutIs l f c m r := by
  by_cases h1 : 400 < l.length
  · exact ⟨2, [], false, .inl ⟨h1, rfl, rfl, rfl⟩⟩
  by_cases h2 : rightV l
  · by_cases h3 : f.ok
    · obtain ⟨k, hk⟩ := place_ex (rightV_rise h2) f.node
      obtain ⟨r, hr⟩ := tells_bool (newsAt l f k)
      exact ⟨0, _, r, .inr (.inr ⟨h2, h3, rfl, k, hk, rfl, hr⟩)⟩
    · exact ⟨1, [], false, .inr (.inl ⟨by omega, .inr h3, rfl, rfl, rfl⟩)⟩
  · exact ⟨1, [], false, .inr (.inl ⟨by omega, .inl h2, rfl, rfl, rfl⟩)⟩
theorem put_len {l : List FactV} {f : FactV} {c : Int} {m : List FactV} {r : Bool} (h : PutIs l f c m r) : m.length ≤ 6 := by
  rcases h with ⟨_, _, rfl, _⟩ | ⟨_, _, _, rfl, _⟩ | ⟨h1, h2, _, k, hk, rfl, _⟩
  · simp
  · simp
  · exact rightV_len (put_right h1 h2 hk)
def JoinVIs (l b : List FactV) (c : Int) (m : List FactV) (r : Bool) : Prop :=
  ((400 < l.length ∨ 400 < b.length) ∧ c = 2 ∧ m = [] ∧ r = false) ∨ (l.length ≤ 400 ∧ b.length ≤ 400 ∧ (¬ rightV l ∨ ¬ rightV b) ∧ c = 1 ∧ m = [] ∧ r = false) ∨ (rightV l ∧ rightV b ∧ c = 0 ∧ ∃ p, JoinIs l b m p ∧ (r = true ↔ p))
theorem joinV_ex (l b : List FactV) : ∃ c m r, JoinVIs l b c m r := by
  by_cases h1 : 400 < l.length ∨ 400 < b.length
  · exact ⟨2, [], false, .inl ⟨h1, rfl, rfl, rfl⟩⟩
  by_cases h2 : rightV l
  · by_cases h3 : rightV b
    · obtain ⟨m, p, hk⟩ := join_ex (rightV_rise h2) b
      obtain ⟨r, hr⟩ := tells_bool p
      exact ⟨0, m, r, .inr (.inr ⟨h2, h3, rfl, p, hk, hr⟩)⟩
    · exact ⟨1, [], false, .inr (.inl ⟨by omega, by omega, .inr h3, rfl, rfl, rfl⟩)⟩
  · exact ⟨1, [], false, .inr (.inl ⟨by omega, by omega, .inl h2, rfl, rfl, rfl⟩)⟩
theorem joinV_len {l b : List FactV} {c : Int} {m : List FactV} {r : Bool} (h : JoinVIs l b c m r) : m.length ≤ 6 := by
  rcases h with ⟨_, _, rfl, _⟩ | ⟨_, _, _, _, rfl, _⟩ | ⟨h1, h2, _, p, hj, _⟩
  · simp
  · simp
  · exact join_len h1 h2 hj
/-- What an answer says, and what it owns. -/
def OutPost (c : Int) (m : List FactV) (r : Bool) (w : World) (e : Ending) (w' : World) : Prop :=
  ∃ v, e = .returned (outV v r c) ∧ w'.ownsRow w.heap.size 25 3 v m.length (cellsOf FactV.cells m) ∧ Below w.heap.size w w'
theorem blk_put3 {W : World} {b t : Nat} {u0 u1 u2 : Value} (h : BlkIs W b t #[u0, u1, u2]) (v0 v1 v2 : Value) : BlkIs (((W.setCell ⟨b, 0, none⟩ v0).setCell ⟨b, 1, none⟩ v1).setCell ⟨b, 2, none⟩ v2) b t #[v0, v1, v2] := by
  have := ((h.put 0 v0).put 1 v1).put 2 v2
  simpa using this
theorem keeps_three (w : World) (b : Nat) (v0 v1 v2 : Value) : Keeps (fun k => k ≠ b) w (((w.setCell ⟨b, 0, none⟩ v0).setCell ⟨b, 1, none⟩ v1).setCell ⟨b, 2, none⟩ v2) :=
  (((Keeps.refl _ _).setCell (fun h => h rfl) _).setCell (fun h => h rfl) _).setCell (fun h => h rfl) _
theorem rowLe {w : World} {base base' e size : Nat} {v : Value} {n : Nat} {xs : List Value} (h : w.ownsRow base e size v n xs) (hb : base' ≤ base) : w.ownsRow base' e size v n xs :=
  ⟨h.1, h.2.imp id fun ⟨g, cap, cur, a, b, c⟩ => ⟨g, cap, cur, a, Nat.le_trans hb b, c⟩⟩
theorem news_bool {r r' : Bool} {p q : Prop} (h : r = true ↔ p) (h' : r' = true ↔ q) (e : p ↔ q) : r = r' := by
  cases r <;> cases r' <;> simp_all
end Go.Proofs.Ytenefjnahanfbaa
