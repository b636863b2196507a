/- What ViewPut and ViewJoin answer, plain; and an answer's block. -/
import Derived.Test.YtmdcankfjmkkeaaG19
import Derived.Test.YtmdcankfjmkkeaaFInsert
namespace Go.Proofs.Ytmdcankfjmkkeaa
open Go Go.RowKit
set_option linter.unusedVariables false

/-- An answer. -/
def outV (v : Value) (r : Bool) (c : Int) : Value := .agg #[v, .bool r, .int .i64 c]
def PutIs (l : List FactV) (f : FactV) (c : Int) (m : List FactV) (r : Bool) : Prop :=
  (400 < l.length ∧ c = 2 ∧ m = [] ∧ r = false) ∨ (l.length ≤ 400 ∧ (¬ rightV l ∨ ¬ f.ok) ∧ c = 1 ∧ m = [] ∧ r = false) ∨ (rightV l ∧ f.ok ∧ c = 0 ∧ ∃ k, placeF l f.node k ∧ m = putL l f k ∧ (r = true ↔ newsAt l f k))
theorem put_ex (l : List FactV) (f : FactV) : ∃ c m r, PutIs l f c m r := by
  by_cases h1 : 400 < l.length
  · exact ⟨2, [], false, .inl ⟨h1, rfl, rfl, rfl⟩⟩
  by_cases h2 : rightV l
  · by_cases h3 : f.ok
    · obtain ⟨k, hk⟩ := place_ex (rightV_rise h2) f.node
      obtain ⟨r, hr⟩ := tells_bool (newsAt l f k)
      exact ⟨0, _, r, .inr (.inr ⟨h2, h3, rfl, k, hk, rfl, hr⟩)⟩
    · exact ⟨1, [], false, .inr (.inl ⟨by omega, .inr h3, rfl, rfl, rfl⟩)⟩
  · exact ⟨1, [], false, .inr (.inl ⟨by omega, .inl h2, rfl, rfl, rfl⟩)⟩
theorem put_len {l : List FactV} {f : FactV} {c : Int} {m : List FactV} {r : Bool} (h : PutIs l f c m r) : m.length ≤ 6 := by
  rcases h with ⟨_, _, rfl, _⟩ | ⟨_, _, _, rfl, _⟩ | ⟨h1, h2, _, k, hk, rfl, _⟩
  · simp
  · simp
  · exact rightV_len (put_right h1 h2 hk)
def JoinVIs (l b : List FactV) (c : Int) (m : List FactV) (r : Bool) : Prop :=
  ((400 < l.length ∨ 400 < b.length) ∧ c = 2 ∧ m = [] ∧ r = false) ∨ (l.length ≤ 400 ∧ b.length ≤ 400 ∧ (¬ rightV l ∨ ¬ rightV b) ∧ c = 1 ∧ m = [] ∧ r = false) ∨ (rightV l ∧ rightV b ∧ c = 0 ∧ ∃ p, JoinIs l b m p ∧ (r = true ↔ p))
theorem joinV_ex (l b : List FactV) : ∃ c m r, JoinVIs l b c m r := by
  by_cases h1 : 400 < l.length ∨ 400 < b.length
  · exact ⟨2, [], false, .inl ⟨h1, rfl, rfl, rfl⟩⟩
  by_cases h2 : rightV l
  · by_cases h3 : rightV b
    · obtain ⟨m, p, hk⟩ := join_ex (rightV_rise h2) b
      obtain ⟨r, hr⟩ := tells_bool p
      exact ⟨0, m, r, .inr (.inr ⟨h2, h3, rfl, p, hk, hr⟩)⟩
    · exact ⟨1, [], false, .inr (.inl ⟨by omega, by omega, .inr h3, rfl, rfl, rfl⟩)⟩
  · exact ⟨1, [], false, .inr (.inl ⟨by omega, by omega, .inl h2, rfl, rfl, rfl⟩)⟩
theorem joinV_len {l b : List FactV} {c : Int} {m : List FactV} {r : Bool} (h : JoinVIs l b c m r) : m.length ≤ 6 := by
  rcases h with ⟨_, _, rfl, _⟩ | ⟨_, _, _, _, rfl, _⟩ | ⟨h1, h2, _, p, hj, _⟩
  · simp
  · simp
  · exact join_len h1 h2 hj
/-- What an answer says, and what it owns. -/
def OutPost (c : Int) (m : List FactV) (r : Bool) (w : World) (e : Ending) (w' : World) : Prop :=
  ∃ v, e = .returned (outV v r c) ∧ w'.ownsRow w.heap.size 62 3 v m.length (cellsOf FactV.cells m) ∧ Below w.heap.size w w'
theorem blk_put3 {W : World} {b t : Nat} {u0 u1 u2 : Value} (h : BlkIs W b t #[u0, u1, u2]) (v0 v1 v2 : Value) : BlkIs (((W.setCell ⟨b, 0, none⟩ v0).setCell ⟨b, 1, none⟩ v1).setCell ⟨b, 2, none⟩ v2) b t #[v0, v1, v2] := by
  have := ((h.put 0 v0).put 1 v1).put 2 v2
  simpa using this
theorem keeps_three (w : World) (b : Nat) (v0 v1 v2 : Value) : Keeps (fun k => k ≠ b) w (((w.setCell ⟨b, 0, none⟩ v0).setCell ⟨b, 1, none⟩ v1).setCell ⟨b, 2, none⟩ v2) :=
  (((Keeps.refl _ _).setCell (fun h => h rfl) _).setCell (fun h => h rfl) _).setCell (fun h => h rfl) _
theorem rowLe {w : World} {base base' e size : Nat} {v : Value} {n : Nat} {xs : List Value} (h : w.ownsRow base e size v n xs) (hb : base' ≤ base) : w.ownsRow base' e size v n xs :=
  ⟨h.1, h.2.imp id fun ⟨g, cap, cur, a, b, c⟩ => ⟨g, cap, cur, a, Nat.le_trans hb b, c⟩⟩
theorem news_bool {r r' : Bool} {p q : Prop} (h : r = true ↔ p) (h' : r' = true ↔ q) (e : p ↔ q) : r = r' := by
  cases r <;> cases r' <;> simp_all
end Go.Proofs.Ytmdcankfjmkkeaa
/- Facts appended to a row of the call's own, as laws of the walk. -/
namespace Go.Proofs.Ytmdcankfjmkkeaa
open Go Go.RowKit
set_option linter.unusedVariables false

theorem CellRow.takeF {w : World} {b off : Nat} {l : List FactV} (h : CellRow w (some ⟨b, off, none⟩) (cellsOf FactV.cells l)) (k : Nat) (hk : k ≤ l.length) : CellRow w (some ⟨b, off, none⟩) (cellsOf FactV.cells (l.take k)) := by
  rw [← cellsOf_take FactV.cells_len l k hk]
  rcases h with h | ⟨b', off', e, hlt, hc⟩
  · exact .inl (by rw [h]; simp)
  · simp only [Option.some.injEq, Addr.mk.injEq, and_true] at e
    obtain ⟨rfl, rfl⟩ := e
    exact .inr ⟨_, _, rfl, hlt, fun i hi => by rw [hc i (by rw [List.length_take] at hi; omega)]; simp⟩
theorem CellRow.dropF {w : World} {b off : Nat} {l : List FactV} (h : CellRow w (some ⟨b, off, none⟩) (cellsOf FactV.cells l)) (k : Nat) (hk : k ≤ l.length) : CellRow w (some ⟨b, off + k * 3, none⟩) (cellsOf FactV.cells (l.drop k)) := by
  rw [← cellsOf_drop FactV.cells_len l k hk]
  rcases h with h | ⟨b', off', e, hlt, hc⟩
  · exact .inl (by rw [h]; simp)
  · simp only [Option.some.injEq, Addr.mk.injEq, and_true] at e
    obtain ⟨rfl, rfl⟩ := e
    exact .inr ⟨_, _, rfl, hlt, fun i hi => by rw [Nat.add_assoc, hc (k * 3 + i) (by rw [List.length_drop] at hi; omega)]; simp⟩
theorem run_append_facts {w : World} (base : Nat) (v : Value) (n : Nat) (xs : List Value) (hown : w.ownsRow base 62 3 v n xs) (ad : Addr) (m cap : Nat) (l : List FactV) (hm : l.length = m) (hrow : CellRow w (some ad) (cellsOf FactV.cells l)) (h63 : n + m ≤ 2000000) (hbase : base ≤ w.heap.size) :
    ∃ v' w', (Builtin.append_ #[34, 34] 34 #[v, .slice (some ad) m cap]).run Try.prog w = .ok v' w' ∧ w'.ownsRow base 62 3 v' (n + m) (xs ++ cellsOf FactV.cells l) ∧ w.grownBy w' v.ownBlock ∧ (v'.ownBlock = v.ownBlock ∨ v'.ownBlock = some w.heap.size) := by
  subst hm
  obtain ⟨i0, hi0, hz0, hzs, hzb⟩ := info_partsF
  obtain ⟨v', w', hr, h2, h3, _, h5⟩ := run_append_own_at (P := Try.prog) w base 34 34 62 i0 _ 3 24 Try.underlying34 hi0 hz0 hzs hzb rfl (by omega) v n xs hown ad l.length cap (cellsOf FactV.cells l) (cellsOf_length FactV.cells_len l) hrow.reads (cellsOf_one l) (by unfold maxLen; omega) (by omega) hbase
  exact ⟨v', w', hr, h2, h3, h5⟩
theorem append_factsL {w : World} {ops : Array Oper} {rest : List Oper} {o : Oper} {act : Act} {Q : Exit → Act → World → Prop} (hgd : o.guard = none) (hty : o.type = 34) (s x : Operand)
    (ho : o.op = .call { callee := .builtin .append, args := #[s, x], argTypes := #[34, 34] }) (base : Nat) (v : Value) (n : Nat) (xs : List Value) (hs : act.eval s = v) (hown : w.ownsRow base 62 3 v n xs)
    (ad : Addr) (m cap : Nat) (l : List FactV) (hm : l.length = m) (hx : act.eval x = .slice (some ad) m cap) (hrow : CellRow w (some ad) (cellsOf FactV.cells l)) (h63 : n + m ≤ 2000000) (hbase : base ≤ w.heap.size)
    (h : ∀ v' w', w'.ownsRow base 62 3 v' (n + m) (xs ++ cellsOf FactV.cells l) → w.grownBy w' v.ownBlock → (v'.ownBlock = v.ownBlock ∨ v'.ownBlock = some w.heap.size) → wpList Try.prog ops Q rest (act.put o.dst v') w') : wpList Try.prog ops Q (o :: rest) act w :=
  wpList_plain hgd fun _ hK => by
    obtain ⟨v', w', hr, h2, h3, h5⟩ := run_append_facts base v n xs hown ad m cap l hm hrow h63 hbase
    unfold Oper.wp
    rw [exec_append s x _ _ ho v _ hs hx (by rw [hty]; exact hr)]
    exact hK _ _ (h v' w' h2 h3 h5)
theorem oneRowF (w : World) (d : FactV) : CellRow (w.alloc (.cells #[.int .i64 d.node, .int .i64 d.inc, .int .i64 d.st] 62)) (some ⟨w.heap.size, 0, none⟩) (cellsOf FactV.cells [d]) := by
  have h := BlkIs.new w 62 #[.int .i64 d.node, .int .i64 d.inc, .int .i64 d.st]
  refine .inr ⟨w.heap.size, 0, rfl, h.lt, fun i hi => ?_⟩
  have e : cellsOf FactV.cells [d] = d.cells := by simp [cellsOf]
  rw [Nat.zero_add, h.cell]
  have hi3 : i < 3 := by rw [e] at hi; exact hi
  match i, hi3 with
  | 0, _ => rfl
  | 1, _ => rfl
  | 2, _ => rfl
theorem own_eqF {w : World} {base e : Nat} {v : Value} {n n' : Nat} {xs xs' : List Value} (h : w.ownsRow base e 3 v n xs) (hn : n = n') (hx : xs = xs') : w.ownsRow base e 3 v n' xs' := by
  subst hn hx; exact h
theorem FAt.row {w : World} {b off : Nat} {x : FactV} (h : FAt w b off x) : CellRow w (some ⟨b, off, none⟩) (cellsOf FactV.cells [x]) := by
  refine .inr ⟨b, off, rfl, h.lt, fun i hi => ?_⟩
  have e : cellsOf FactV.cells [x] = x.cells := by simp [cellsOf]
  have hi3 : i < 3 := by rw [e] at hi; exact hi
  match i, hi3 with
  | 0, _ => exact h.c0
  | 1, _ => exact h.c1
  | 2, _ => exact h.c2
end Go.Proofs.Ytmdcankfjmkkeaa
