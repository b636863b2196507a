/- What ViewPut and ViewJoin answer, plain; and an answer's block. -/
import Derived.Test.YtmdcankfjmkkeaaGreatG16
import Derived.Test.YtmdcankfjmkkeaaGreatFInsert
import Derived.Test.YtmdcankfjmkkeaaGreatRRight
import Derived.Test.YtmdcankfjmkkeaaGreatFPlain
namespace Go.Proofs.YtmdcankfjmkkeaaGreat
open Go Go.RowKit
set_option linter.unusedVariables false

/-- An answer. -/
def outV (v : Value) (r : Bool) (c : Int) : Value := .agg #[v, .bool r, .int .i64 c]
def PutIs (l : List FactV) (f : FactV) (c : Int) (m : List FactV) (r : Bool) : Prop :=
  (400 < l.length ∧ c = 2 ∧ m = [] ∧ r = false) ∨ (l.length ≤ 400 ∧ (¬ rightV l ∨ ¬ f.ok) ∧ c = 1 ∧ m = [] ∧ r = false) ∨ (rightV l ∧ f.ok ∧ c = 0 ∧ ∃ k, placeF l f.node k ∧ m = putL l f k ∧ (r = true ↔ newsAt l f k))
theorem put_ex (l : List FactV) (f : FactV) : ∃ c m r, PutIs l f c m r := by
  by_cases h1 : 400 < l.length
  · exact ⟨2, [], false, .inl ⟨h1, rfl, rfl, rfl⟩⟩
  by_cases h2 : rightV l
  · by_cases h3 : f.ok
    · obtain ⟨k, hk⟩ := place_ex (rightV_rise h2) f.node
      obtain ⟨r, hr⟩ := tells_bool (newsAt l f k)
      exact ⟨0, _, r, .inr (.inr ⟨h2, h3, rfl, k, hk, rfl, hr⟩)⟩
    · exact ⟨1, [], false, .inr (.inl ⟨by omega, .inr h3, rfl, rfl, rfl⟩)⟩
  · exact ⟨1, [], false, .inr (.inl ⟨by omega, .inl h2, rfl, rfl, rfl⟩)⟩
theorem put_len {l : List FactV} {f : FactV} {c : Int} {m : List FactV} {r : Bool} (h : PutIs l f c m r) : m.length ≤ 6 := by
  rcases h with ⟨_, _, rfl, _⟩ | ⟨_, _, _, rfl, _⟩ | ⟨h1, h2, _, k, hk, rfl, _⟩
  · simp
  · simp
  · exact rightV_len (put_right h1 h2 hk)
def JoinVIs (l b : List FactV) (c : Int) (m : List FactV) (r : Bool) : Prop :=
  ((400 < l.length ∨ 400 < b.length) ∧ c = 2 ∧ m = [] ∧ r = false) ∨ (l.length ≤ 400 ∧ b.length ≤ 400 ∧ (¬ rightV l ∨ ¬ rightV b) ∧ c = 1 ∧ m = [] ∧ r = false) ∨ (rightV l ∧ rightV b ∧ c = 0 ∧ ∃ p, JoinIs l b m p ∧ (r = true ↔ p))
theorem joinV_ex (l b : List FactV) : ∃ c m r, JoinVIs l b c m r := by
  by_cases h1 : 400 < l.length ∨ 400 < b.length
  · exact ⟨2, [], false, .inl ⟨h1, rfl, rfl, rfl⟩⟩
  by_cases h2 : rightV l
  · by_cases h3 : rightV b
    · obtain ⟨m, p, hk⟩ := join_ex (rightV_rise h2) b
      obtain ⟨r, hr⟩ := tells_bool p
      exact ⟨0, m, r, .inr (.inr ⟨h2, h3, rfl, p, hk, hr⟩)⟩
    · exact ⟨1, [], false, .inr (.inl ⟨by omega, by omega, .inr h3, rfl, rfl, rfl⟩)⟩
  · exact ⟨1, [], false, .inr (.inl ⟨by omega, by omega, .inl h2, rfl, rfl, rfl⟩)⟩
theorem joinV_len {l b : List FactV} {c : Int} {m : List FactV} {r : Bool} (h : JoinVIs l b c m r) : m.length ≤ 6 := by
  rcases h with ⟨_, _, rfl, _⟩ | ⟨_, _, _, _, rfl, _⟩ | ⟨h1, h2, _, p, hj, _⟩
  · simp
  · simp
  · exact join_len h1 h2 hj
/-- What an answer says, and what it owns. -/
def OutPost (c : Int) (m : List FactV) (r : Bool) (w : World) (e : Ending) (w' : World) : Prop :=
  ∃ v, e = .returned (outV v r c) ∧ w'.ownsRow w.heap.size 54 3 v m.length (cellsOf FactV.cells m) ∧ Below w.heap.size w w'
theorem blk_put3 {W : World} {b t : Nat} {u0 u1 u2 : Value} (h : BlkIs W b t #[u0, u1, u2]) (v0 v1 v2 : Value) : BlkIs (((W.setCell ⟨b, 0, none⟩ v0).setCell ⟨b, 1, none⟩ v1).setCell ⟨b, 2, none⟩ v2) b t #[v0, v1, v2] := by
  have := ((h.put 0 v0).put 1 v1).put 2 v2
  simpa using this
theorem keeps_three (w : World) (b : Nat) (v0 v1 v2 : Value) : Keeps (fun k => k ≠ b) w (((w.setCell ⟨b, 0, none⟩ v0).setCell ⟨b, 1, none⟩ v1).setCell ⟨b, 2, none⟩ v2) :=
  (((Keeps.refl _ _).setCell (fun h => h rfl) _).setCell (fun h => h rfl) _).setCell (fun h => h rfl) _
theorem rowLe {w : World} {base base' e size : Nat} {v : Value} {n : Nat} {xs : List Value} (h : w.ownsRow base e size v n xs) (hb : base' ≤ base) : w.ownsRow base' e size v n xs :=
  ⟨h.1, h.2.imp id fun ⟨g, cap, cur, a, b, c⟩ => ⟨g, cap, cur, a, Nat.le_trans hb b, c⟩⟩
theorem news_bool {r r' : Bool} {p q : Prop} (h : r = true ↔ p) (h' : r' = true ↔ q) (e : p ↔ q) : r = r' := by
  cases r <;> cases r' <;> simp_all
end Go.Proofs.YtmdcankfjmkkeaaGreat
/- Facts appended to a row of the call's own, as laws of the walk. -/
namespace Go.Proofs.YtmdcankfjmkkeaaGreat
open Go Go.RowKit
set_option linter.unusedVariables false

theorem CellRow.takeF {w : World} {b off : Nat} {l : List FactV} (h : CellRow w (some ⟨b, off, none⟩) (cellsOf FactV.cells l)) (k : Nat) (hk : k ≤ l.length) : CellRow w (some ⟨b, off, none⟩) (cellsOf FactV.cells (l.take k)) := by
  rw [← cellsOf_take FactV.cells_len l k hk]
  rcases h with h | ⟨b', off', e, hlt, hc⟩
  · exact .inl (by rw [h]; simp)
  · simp only [Option.some.injEq, Addr.mk.injEq, and_true] at e
    obtain ⟨rfl, rfl⟩ := e
    exact .inr ⟨_, _, rfl, hlt, fun i hi => by rw [hc i (by rw [List.length_take] at hi; omega)]; simp⟩
theorem CellRow.dropF {w : World} {b off : Nat} {l : List FactV} (h : CellRow w (some ⟨b, off, none⟩) (cellsOf FactV.cells l)) (k : Nat) (hk : k ≤ l.length) : CellRow w (some ⟨b, off + k * 3, none⟩) (cellsOf FactV.cells (l.drop k)) := by
  rw [← cellsOf_drop FactV.cells_len l k hk]
  rcases h with h | ⟨b', off', e, hlt, hc⟩
  · exact .inl (by rw [h]; simp)
  · simp only [Option.some.injEq, Addr.mk.injEq, and_true] at e
    obtain ⟨rfl, rfl⟩ := e
    exact .inr ⟨_, _, rfl, hlt, fun i hi => by rw [Nat.add_assoc, hc (k * 3 + i) (by rw [List.length_drop] at hi; omega)]; simp⟩
theorem run_append_facts {w : World} (base : Nat) (v : Value) (n : Nat) (xs : List Value) (hown : w.ownsRow base 54 3 v n xs) (ad : Addr) (m cap : Nat) (l : List FactV) (hm : l.length = m) (hrow : CellRow w (some ad) (cellsOf FactV.cells l)) (h63 : n + m ≤ 2000000) (hbase : base ≤ w.heap.size) :
    ∃ v' w', (Builtin.append_ #[23, 23] 23 #[v, .slice (some ad) m cap]).run Tryz.prog w = .ok v' w' ∧ w'.ownsRow base 54 3 v' (n + m) (xs ++ cellsOf FactV.cells l) ∧ w.grownBy w' v.ownBlock ∧ (v'.ownBlock = v.ownBlock ∨ v'.ownBlock = some w.heap.size) := by
  subst hm
  obtain ⟨i0, hi0, hz0, hzs, hzb⟩ := info_partsF
  obtain ⟨v', w', hr, h2, h3, _, h5⟩ := run_append_own_at (P := Tryz.prog) w base 23 23 54 i0 _ 3 24 Tryz.underlying23 hi0 hz0 hzs hzb rfl (by omega) v n xs hown ad l.length cap (cellsOf FactV.cells l) (cellsOf_length FactV.cells_len l) hrow.reads (cellsOf_one l) (by unfold maxLen; omega) (by omega) hbase
  exact ⟨v', w', hr, h2, h3, h5⟩
theorem append_factsL {w : World} {ops : Array Oper} {rest : List Oper} {o : Oper} {act : Act} {Q : Exit → Act → World → Prop} (hgd : o.guard = none) (hty : o.type = 23) (s x : Operand)
    (ho : o.op = .call { callee := .builtin .append, args := #[s, x], argTypes := #[23, 23] }) (base : Nat) (v : Value) (n : Nat) (xs : List Value) (hs : act.eval s = v) (hown : w.ownsRow base 54 3 v n xs)
    (ad : Addr) (m cap : Nat) (l : List FactV) (hm : l.length = m) (hx : act.eval x = .slice (some ad) m cap) (hrow : CellRow w (some ad) (cellsOf FactV.cells l)) (h63 : n + m ≤ 2000000) (hbase : base ≤ w.heap.size)
    (h : ∀ v' w', w'.ownsRow base 54 3 v' (n + m) (xs ++ cellsOf FactV.cells l) → w.grownBy w' v.ownBlock → (v'.ownBlock = v.ownBlock ∨ v'.ownBlock = some w.heap.size) → wpList Tryz.prog ops Q rest (act.put o.dst v') w') : wpList Tryz.prog ops Q (o :: rest) act w :=
  wpList_plain hgd fun _ hK => by
    obtain ⟨v', w', hr, h2, h3, h5⟩ := run_append_facts base v n xs hown ad m cap l hm hrow h63 hbase
    unfold Oper.wp
    rw [exec_append s x _ _ ho v _ hs hx (by rw [hty]; exact hr)]
    exact hK _ _ (h v' w' h2 h3 h5)
theorem oneRowF (w : World) (d : FactV) : CellRow (w.alloc (.cells #[.int .i64 d.node, .int .i64 d.inc, .int .i64 d.st] 54)) (some ⟨w.heap.size, 0, none⟩) (cellsOf FactV.cells [d]) := by
  have h := BlkIs.new w 54 #[.int .i64 d.node, .int .i64 d.inc, .int .i64 d.st]
  refine .inr ⟨w.heap.size, 0, rfl, h.lt, fun i hi => ?_⟩
  have e : cellsOf FactV.cells [d] = d.cells := by simp [cellsOf]
  rw [Nat.zero_add, h.cell]
  have hi3 : i < 3 := by rw [e] at hi; exact hi
  match i, hi3 with
  | 0, _ => rfl
  | 1, _ => rfl
  | 2, _ => rfl
theorem own_eqF {w : World} {base e : Nat} {v : Value} {n n' : Nat} {xs xs' : List Value} (h : w.ownsRow base e 3 v n xs) (hn : n = n') (hx : xs = xs') : w.ownsRow base e 3 v n' xs' := by
  subst hn hx; exact h
theorem FAt.row {w : World} {b off : Nat} {x : FactV} (h : FAt w b off x) : CellRow w (some ⟨b, off, none⟩) (cellsOf FactV.cells [x]) := by
  refine .inr ⟨b, off, rfl, h.lt, fun i hi => ?_⟩
  have e : cellsOf FactV.cells [x] = x.cells := by simp [cellsOf]
  have hi3 : i < 3 := by rw [e] at hi; exact hi
  match i, hi3 with
  | 0, _ => exact h.c0
  | 1, _ => exact h.c1
  | 2, _ => exact h.c2
end Go.Proofs.YtmdcankfjmkkeaaGreat
/- Rumors appended to a row of the call's own; what RumorPut and RumorPick answer, plain. -/
namespace Go.Proofs.YtmdcankfjmkkeaaGreat
open Go Go.RowKit
set_option linter.unusedVariables false

theorem info_partsR : ∃ i, Tryz.prog.info? 59 = some i ∧ i.zero = some (.agg #[.int .i64 0, .int .i64 0, .int .i64 0, .int .i64 0]) ∧ i.size = 4 ∧ i.bytes = 32 := by
  obtain ⟨i, hi, hz⟩ := Option.map_eq_some_iff.1 Tryz.infoRum
  simp only [Prod.mk.injEq] at hz
  exact ⟨i, hi, hz.1, hz.2.1, hz.2.2⟩
theorem cellsOf_oneR (l : List RumV) : ∀ v ∈ cellsOf RumV.cells l, v.oneCell' = true := by
  intro v hv
  obtain ⟨d, _, hd⟩ := List.mem_flatMap.1 hv
  unfold RumV.cells at hd
  simp only [List.mem_cons, List.not_mem_nil, or_false] at hd
  rcases hd with rfl | rfl | rfl | rfl <;> rfl
theorem run_append_rums {w : World} (base : Nat) (v : Value) (n : Nat) (xs : List Value) (hown : w.ownsRow base 59 4 v n xs) (ad : Addr) (m cap : Nat) (l : List RumV) (hm : l.length = m) (hrow : CellRow w (some ad) (cellsOf RumV.cells l)) (h63 : n + m ≤ 2000000) (hbase : base ≤ w.heap.size) :
    ∃ v' w', (Builtin.append_ #[24, 24] 24 #[v, .slice (some ad) m cap]).run Tryz.prog w = .ok v' w' ∧ w'.ownsRow base 59 4 v' (n + m) (xs ++ cellsOf RumV.cells l) ∧ w.grownBy w' v.ownBlock ∧ (v'.ownBlock = v.ownBlock ∨ v'.ownBlock = some w.heap.size) := by
  subst hm
  obtain ⟨i0, hi0, hz0, hzs, hzb⟩ := info_partsR
  obtain ⟨v', w', hr, h2, h3, _, h5⟩ := run_append_own_at (P := Tryz.prog) w base 24 24 59 i0 _ 4 32 Tryz.underlying24 hi0 hz0 hzs hzb rfl (by omega) v n xs hown ad l.length cap (cellsOf RumV.cells l) (cellsOf_length RumV.cells_len l) hrow.reads (cellsOf_oneR l) (by unfold maxLen; omega) (by omega) hbase
  exact ⟨v', w', hr, h2, h3, h5⟩
theorem append_rumsL {w : World} {ops : Array Oper} {rest : List Oper} {o : Oper} {act : Act} {Q : Exit → Act → World → Prop} (hgd : o.guard = none) (hty : o.type = 24) (s x : Operand)
    (ho : o.op = .call { callee := .builtin .append, args := #[s, x], argTypes := #[24, 24] }) (base : Nat) (v : Value) (n : Nat) (xs : List Value) (hs : act.eval s = v) (hown : w.ownsRow base 59 4 v n xs)
    (ad : Addr) (m cap : Nat) (l : List RumV) (hm : l.length = m) (hx : act.eval x = .slice (some ad) m cap) (hrow : CellRow w (some ad) (cellsOf RumV.cells l)) (h63 : n + m ≤ 2000000) (hbase : base ≤ w.heap.size)
    (h : ∀ v' w', w'.ownsRow base 59 4 v' (n + m) (xs ++ cellsOf RumV.cells l) → w.grownBy w' v.ownBlock → (v'.ownBlock = v.ownBlock ∨ v'.ownBlock = some w.heap.size) → wpList Tryz.prog ops Q rest (act.put o.dst v') w') : wpList Tryz.prog ops Q (o :: rest) act w :=
  wpList_plain hgd fun _ hK => by
    obtain ⟨v', w', hr, h2, h3, h5⟩ := run_append_rums base v n xs hown ad m cap l hm hrow h63 hbase
    unfold Oper.wp
    rw [exec_append s x _ _ ho v _ hs hx (by rw [hty]; exact hr)]
    exact hK _ _ (h v' w' h2 h3 h5)
theorem oneRowR (w : World) (d : RumV) : CellRow (w.alloc (.cells #[.int .i64 d.node, .int .i64 d.inc, .int .i64 d.st, .int .i64 d.sent] 59)) (some ⟨w.heap.size, 0, none⟩) (cellsOf RumV.cells [d]) := by
  have h := BlkIs.new w 59 #[.int .i64 d.node, .int .i64 d.inc, .int .i64 d.st, .int .i64 d.sent]
  refine .inr ⟨w.heap.size, 0, rfl, h.lt, fun i hi => ?_⟩
  have e : cellsOf RumV.cells [d] = d.cells := by simp [cellsOf]
  rw [Nat.zero_add, h.cell]
  have hi3 : i < 4 := by rw [e] at hi; exact hi
  match i, hi3 with
  | 0, _ => rfl
  | 1, _ => rfl
  | 2, _ => rfl
  | 3, _ => rfl
theorem own_eqR {w : World} {base e : Nat} {v : Value} {n n' : Nat} {xs xs' : List Value} (h : w.ownsRow base e 4 v n xs) (hn : n = n') (hx : xs = xs') : w.ownsRow base e 4 v n' xs' := by
  subst hn hx; exact h
theorem OwnsRow.cellRowR {w : World} {base : Nat} {v : Value} {l : List RumV} (h : w.ownsRow base 59 4 v l.length (cellsOf RumV.cells l)) : ∃ a cap, v = .slice a l.length cap ∧ CellRow w a (cellsOf RumV.cells l) := by
  rcases own_cellsR h with ⟨rfl, rfl⟩ | ⟨g, cap, rfl, ho⟩
  · exact ⟨none, 0, rfl, .inl rfl⟩
  · exact ⟨_, cap, rfl, ho.row⟩
/-- An answer. -/
def outR (v u : Value) (c : Int) : Value := .agg #[v, u, .int .i64 c]
/-- What is wrong with rumors. -/
def FaultR (l : List RumV) (c : Int) : Prop := (400 < l.length ∧ c = 2) ∨ (l.length ≤ 400 ∧ ¬ rightR l ∧ c = 1) ∨ (rightR l ∧ c = 0)
theorem faultR_ex (l : List RumV) : ∃ c, FaultR l c := by
  by_cases h1 : 400 < l.length
  · exact ⟨2, .inl ⟨h1, rfl⟩⟩
  by_cases h2 : rightR l
  · exact ⟨0, .inr (.inr ⟨h2, rfl⟩)⟩
  · exact ⟨1, .inr (.inl ⟨by omega, h2, rfl⟩)⟩
def PutRIs (l : List RumV) (f : FactV) (c : Int) (m : List RumV) : Prop :=
  (400 < l.length ∧ c = 2 ∧ m = []) ∨ (l.length ≤ 400 ∧ (¬ rightR l ∨ ¬ f.ok) ∧ c = 1 ∧ m = []) ∨ (rightR l ∧ f.ok ∧ c = 0 ∧ m = putR l f)
theorem putR_ex (l : List RumV) (f : FactV) : ∃ c m, PutRIs l f c m := by
  by_cases h1 : 400 < l.length
  · exact ⟨2, [], .inl ⟨h1, rfl, rfl⟩⟩
  by_cases h2 : rightR l
  · by_cases h3 : f.ok
    · exact ⟨0, _, .inr (.inr ⟨h2, h3, rfl, rfl⟩)⟩
    · exact ⟨1, [], .inr (.inl ⟨by omega, .inr h3, rfl, rfl⟩)⟩
  · exact ⟨1, [], .inr (.inl ⟨by omega, .inl h2, rfl, rfl⟩)⟩
theorem putR_len {l : List RumV} {f : FactV} {c : Int} {m : List RumV} (h : PutRIs l f c m) : m.length ≤ 6 := by
  rcases h with ⟨_, _, rfl⟩ | ⟨_, _, _, rfl⟩ | ⟨h1, h2, _, rfl⟩
  · simp
  · simp
  · exact rightR_len (putR_right h1 h2)
/-- Those that are picked. -/
def pickedR (l : List RumV) (but : Int) : List RumV := picksR 3 (butR l but)
def PickRIs (l : List RumV) (but : Int) (c : Int) (m : List RumV) (fs : List FactV) : Prop :=
  (400 < l.length ∧ c = 2 ∧ m = [] ∧ fs = []) ∨ (l.length ≤ 400 ∧ ¬ rightR l ∧ c = 1 ∧ m = [] ∧ fs = []) ∨ (rightR l ∧ c = 0 ∧ m = toldR l (pickedR l but) ∧ fs = factsR (pickedR l but))
theorem pickR_ex (l : List RumV) (but : Int) : ∃ c m fs, PickRIs l but c m fs := by
  by_cases h1 : 400 < l.length
  · exact ⟨2, [], [], .inl ⟨h1, rfl, rfl, rfl⟩⟩
  by_cases h2 : rightR l
  · exact ⟨0, _, _, .inr (.inr ⟨h2, rfl, rfl, rfl⟩)⟩
  · exact ⟨1, [], [], .inr (.inl ⟨by omega, h2, rfl, rfl, rfl⟩)⟩
theorem picked_right {l : List RumV} (h : rightR l) (but : Int) : rightR (pickedR l but) := picksR_right (butR_right h but)
theorem pickR_len {l : List RumV} {but : Int} {c : Int} {m : List RumV} {fs : List FactV} (h : PickRIs l but c m fs) : m.length ≤ 6 ∧ fs.length ≤ 6 := by
  rcases h with ⟨_, _, rfl, rfl⟩ | ⟨_, _, _, rfl, rfl⟩ | ⟨h1, _, rfl, rfl⟩
  · simp
  · simp
  · exact ⟨rightR_len (toldR_right h1), rightV_len (factsR_right (fun d hd => ((picked_right h1 but).1 d hd).1))⟩
/-- What an answer says, and what it owns. -/
def ROutPost (c : Int) (m : List RumV) (fs : List FactV) (w : World) (e : Ending) (w' : World) : Prop :=
  ∃ v u, e = .returned (outR v u c) ∧ w'.ownsRow w.heap.size 59 4 v m.length (cellsOf RumV.cells m) ∧ w'.ownsRow w.heap.size 54 3 u fs.length (cellsOf FactV.cells fs) ∧ Below w.heap.size w w'
theorem ownsNilR (w : World) (base : Nat) : w.ownsRow base 59 4 (.slice none 0 0) ([] : List RumV).length (cellsOf RumV.cells []) := ⟨rfl, .inl ⟨rfl, rfl⟩⟩
theorem ownsNilF (w : World) (base : Nat) : w.ownsRow base 54 3 (.slice none 0 0) ([] : List FactV).length (cellsOf FactV.cells []) := ⟨rfl, .inl ⟨rfl, rfl⟩⟩
set_option maxRecDepth 100000 in
theorem rumorFault_any (a : Option Addr) (cap : Nat) (l : List RumV) (c : Int) (w : World) (hc : FaultR l c) (hl : l.length ≤ 1048576) (hrow : CellRow w a (cellsOf RumV.cells l)) :
    Calls Tryz.prog 202 #[.slice a l.length cap] w fun e w' => e = .returned (.int .i64 c) ∧ Below w.heap.size w w' := by
  rcases hc with ⟨h1, rfl⟩ | ⟨h1, h2, rfl⟩ | ⟨h2, rfl⟩
  · have h1' : (400 : Int) < (l.length : Int) := by omega
    go_enter Tryz.func202, Tryz.ntmps202
    go_wp2
    go_ret
    exact ⟨rfl, Below.refl _ _⟩
  · have h1' : ¬ (400 : Int) < (l.length : Int) := by omega
    have HN : Hid (¬ rightR l) := h2
    clear h2
    go_enter Tryz.func202, Tryz.ntmps202
    go_wp2_with fail
    refine (implRRight_is a cap l _ false ⟨fun h => (by cases h), fun h => absurd h HN.out⟩ hl hrow).mono ?_
    rintro e z ⟨rfl, bz⟩
    go_wp2
    go_ret
    exact ⟨rfl, bz⟩
  · have h6 := rightR_len h2
    have h1' : ¬ (400 : Int) < (l.length : Int) := by omega
    have HN : Hid (rightR l) := h2
    clear h2
    go_enter Tryz.func202, Tryz.ntmps202
    go_wp2_with fail
    refine (implRRight_is a cap l _ true ⟨fun _ => HN.out, fun _ => rfl⟩ hl hrow).mono ?_
    rintro e z ⟨rfl, bz⟩
    go_wp2
    go_ret
    exact ⟨rfl, bz⟩
set_option maxHeartbeats 1000000 in
set_option maxRecDepth 100000 in
theorem rumorsBut_any (a : Option Addr) (cap : Nat) (l : List RumV) (n : Int) (w : World) (hl : l.length ≤ 1048576) (hrow : CellRow w a (cellsOf RumV.cells l)) :
    Calls Tryz.prog 203 #[.slice a l.length cap, .int .i64 n] w fun e w' => ∃ v, e = .returned v ∧ w'.ownsRow w.heap.size 59 4 v (butR l n).length (cellsOf RumV.cells (butR l n)) ∧ Below w.heap.size w w' := by
  go_enter Tryz.func203, Tryz.ntmps203
  go_wp2
  go_loopw [10, 5] (fun i v wr => ∃ k : Nat, k ≤ l.length ∧ i = .int .i64 k ∧ wr.ownsRow w.heap.size 59 4 v (butR (l.take k) n).length (cellsOf RumV.cells (butR (l.take k) n)) ∧ Below w.heap.size w wr) (fun i _ _ => l.length - (intOf i).toNat)
  case atStart => exact ⟨0, Nat.zero_le _, rfl, by rw [List.take_zero]; exact ownsNilR _ _, Below.refl _ _⟩
  case round =>
    obtain ⟨k, hk, rfl, hown, hb⟩ := hrel
    by_cases hx : k < l.length
    · obtain ⟨b, off, rfl⟩ := hrow.addr (by rw [cellsOf_length RumV.cells_len]; omega)
      obtain ⟨x, hlx⟩ : ∃ x, l[k] = x := ⟨_, rfl⟩
      obtain ⟨x1, x2, x3, x4⟩ := x
      have dm := (hrow.keep hb).rum hx hlx
      have HT : Hid (l.take (k + 1) = l.take k ++ [⟨x1, x2, x3, x4⟩]) := by
        show _ = _
        rw [List.take_succ_eq_append_getElem hx, hlx]
      have hdl : (butR (l.take k) n).length ≤ k := by
        have := (butR_sub (l.take k) n).length_le
        rw [List.length_take] at this
        omega
      obtain ⟨hbl, c0, c1, c2, c3⟩ := dm
      dsimp only at c0 c1 c2 c3
      have hkI : (k : Int) < (l.length : Int) := by omega
      have b1 : Below wr.heap.size wr (wr.alloc (.cells #[.int .i64 x1, .int .i64 x2, .int .i64 x3, .int .i64 x4] 59)) := (Below.refl _ _).alloc (Nat.le_refl _) _
      have B1 := hb.trans (b1.mono hb.size)
      have O1 := rowBelow hown b1
      clear hlx
      by_cases e : x1 = n
      · have eb : (x1 != n) = false := by simp [e]
        have ho : (wr.alloc (.cells #[.int .i64 x1, .int .i64 x2, .int .i64 x3, .int .i64 x4] 59)).ownsRow w.heap.size 59 4 u5 (butR (l.take (k + 1)) n).length (cellsOf RumV.cells (butR (l.take (k + 1)) n)) := by rw [HT.out, butR_snoc_no e]; exact O1
        clear hown e O1 b1 hb
        go_wp2
        go_roundw
        case rel => exact ⟨k + 1, by omega, by go_num, ho, B1⟩
        case measure => simp [intOf]; omega
      · have eb : (x1 != n) = true := by simp [e]
        have HE : Hid (butR (l.take (k + 1)) n = butR (l.take k) n ++ [⟨x1, x2, x3, x4⟩]) := by show _ = _; rw [HT.out, butR_snoc_yes e]
        clear e
        obtain ⟨Y, hY⟩ : ∃ Y, wr.alloc (.cells #[.int .i64 x1, .int .i64 x2, .int .i64 x3, .int .i64 x4] 59) = Y := ⟨_, rfl⟩
        have P1 := BlkIs.new wr 59 #[.int .i64 x1, .int .i64 x2, .int .i64 x3, .int .i64 x4]
        rw [hY] at O1 B1 P1
        have hn1 := oneRowR Y ⟨x1, x2, x3, x4⟩
        have O2 := rowBelow O1 ((Below.refl Y.heap.size Y).alloc (Nat.le_refl _) (.cells #[.int .i64 x1, .int .i64 x2, .int .i64 x3, .int .i64 x4] 59))
        have hbz : w.heap.size ≤ (Y.alloc (.cells #[.int .i64 x1, .int .i64 x2, .int .i64 x3, .int .i64 x4] 59)).heap.size := by have := B1.size; simp; omega
        have p0 : Y.cell? ⟨wr.heap.size, 0, none⟩ = some (.int .i64 x1) := P1.cell 0
        have p1 : Y.cell? ⟨wr.heap.size, 1, none⟩ = some (.int .i64 x2) := P1.cell 1
        have p2 : Y.cell? ⟨wr.heap.size, 2, none⟩ = some (.int .i64 x3) := P1.cell 2
        have p3 : Y.cell? ⟨wr.heap.size, 3, none⟩ = some (.int .i64 x4) := P1.cell 3
        have HY : Hid (_ = Y) := hY
        have B2 := B1.alloc B1.size (.cells #[.int .i64 x1, .int .i64 x2, .int .i64 x3, .int .i64 x4] 59)
        clear hY hown b1 hb P1 HT
        go_upto_region 5 with fail
        rw [HY.out]
        clear HY c0 c1 c2 c3
        go_wp2_with (at_builtin; refine append_rumsL rfl rfl _ _ rfl w.heap.size _ _ _ rfl O2 ⟨Y.heap.size, 0, none⟩ 1 1 [⟨x1, x2, x3, x4⟩] rfl rfl hn1 (by omega) hbz ?_)
        intro v' w2 own2 gr2 _
        have B3 : Below w.heap.size w w2 := B2.grown gr2 hbz (fun g hg => (O2.lt g hg).1)
        have ho : w2.ownsRow w.heap.size 59 4 v' (butR (l.take (k + 1)) n).length (cellsOf RumV.cells (butR (l.take (k + 1)) n)) := by
          rw [HE.out, cellsOf_append, List.length_append]; exact own2
        clear own2 gr2 O2 O1 B1 B2 hbz hn1 p0 p1 p2 p3 HE
        go_wp2
        go_roundw
        case rel => exact ⟨k + 1, by omega, by go_num, ho, B3⟩
        case measure => simp [intOf]; omega
    · have e : k = l.length := by omega
      subst e
      rw [List.take_length] at hown
      go_wp2
      go_ret
      exact ⟨_, rfl, hown, hb⟩
end Go.Proofs.YtmdcankfjmkkeaaGreat
/- Mails, plain: when one is right. No program. -/
namespace Go.Proofs.YtmdcankfjmkkeaaGreat
open Go Go.RowKit
set_option linter.unusedVariables false

/-- A mail. -/
structure MailV where
  kind : Int
  frm : Int
  dst : Int
  num : Int
  about : Int
  fr : Int
  facts : List FactV
/-- For whom one asks. -/
def forR (n : Int) : Prop := n = 0 ∨ nodeR n
/-- What is asked of each kind by itself. -/
def MailV.own (m : MailV) : Prop :=
  (m.kind = 1 ∧ m.about = 0 ∧ forR m.fr) ∨ (m.kind = 2 ∧ nodeR m.about ∧ forR m.fr) ∨ (m.kind = 3 ∧ nodeR m.about ∧ m.about ≠ m.frm ∧ m.about ≠ m.dst ∧ m.fr = 0) ∨
    (m.kind = 4 ∧ m.about = 0 ∧ m.fr = 0) ∨ (m.kind = 5 ∧ m.about = 0 ∧ m.fr = 0)
/-- How many facts it has room for. -/
def mostF (k : Int) : Nat := if k ≤ 3 then 3 else 6
/-- What is asked of all kinds alike. -/
def MailV.alike (m : MailV) : Prop := nodeR m.frm ∧ nodeR m.dst ∧ m.frm ≠ m.dst ∧ timeR m.num
def MailV.ok (m : MailV) : Prop := m.own ∧ m.alike ∧ rightV m.facts ∧ m.facts.length ≤ mostF m.kind
theorem MailV.own_kind {m : MailV} (h : m.own) : 1 ≤ m.kind ∧ m.kind ≤ 5 := by
  unfold MailV.own at h
  omega
/-- As the specification asks it. -/
def MailV.ok2 (m : MailV) : Prop :=
  isIn m.kind 1 5 ∧ nodeR m.frm ∧ nodeR m.dst ∧ m.frm ≠ m.dst ∧ timeR m.num ∧ rightV m.facts ∧
    (m.kind = 2 → nodeR m.about) ∧ (m.kind = 3 → nodeR m.about ∧ m.about ≠ m.frm ∧ m.about ≠ m.dst) ∧ (m.kind ≠ 2 → m.kind ≠ 3 → m.about = 0) ∧
    (m.fr ≠ 0 → m.kind ≤ 2 ∧ nodeR m.fr) ∧ (3 < m.kind ∨ m.facts.length ≤ 3)
theorem MailV.ok_iff (m : MailV) : m.ok2 ↔ m.ok := by
  have hl := fun h => rightV_len (l := m.facts) h
  unfold MailV.ok2 MailV.ok MailV.own MailV.alike isIn mostF forR nodeR
  constructor
  · rintro ⟨h1, h2, h3, h4, h5, h6, h7, h8, h9, h10, h11⟩
    have := hl h6
    refine ⟨?_, ⟨h2, h3, h4, h5⟩, h6, ?_⟩
    · rcases (by omega : m.kind = 1 ∨ m.kind = 2 ∨ m.kind = 3 ∨ m.kind = 4 ∨ m.kind = 5) with k | k | k | k | k
      · exact .inl ⟨k, h9 (by omega) (by omega), by omega⟩
      · exact .inr (.inl ⟨k, h7 k, by omega⟩)
      · exact .inr (.inr (.inl ⟨k, (h8 k).1, (h8 k).2.1, (h8 k).2.2, by omega⟩))
      · exact .inr (.inr (.inr (.inl ⟨k, h9 (by omega) (by omega), by omega⟩)))
      · exact .inr (.inr (.inr (.inr ⟨k, h9 (by omega) (by omega), by omega⟩)))
    · split <;> omega
  · rintro ⟨h1, ⟨h2, h3, h4, h5⟩, h6, h7⟩
    refine ⟨by omega, h2, h3, h4, h5, h6, by omega, by omega, by omega, by omega, ?_⟩
    split at h7 <;> omega
end Go.Proofs.YtmdcankfjmkkeaaGreat
