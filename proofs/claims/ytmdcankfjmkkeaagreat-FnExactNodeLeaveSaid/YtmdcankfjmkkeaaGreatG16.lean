/- Copies into a block that is known whole, of elements of whatever size; what is spliced. No program. -/
import Derived.Test.YtmdcankfjmkkeaaGreatG4
import Derived.Maps.AppendAt
import Derived.Laws.CopyOwn
import Derived.Lib.AppendZerosOnto
import Derived.Lib.Overlaps
import Derived.Test.YtmdcankfjmkkeaaGreatVRightI
import Derived.Test.YtmdcankfjmkkeaaGreatMarkF
namespace Go.Proofs.YtmdcankfjmkkeaaGreat
open Go Go.RowKit
set_option linter.unusedVariables false

theorem splice_two {X Y Z A B : List Value} (hY : Y.length = A.length + B.length) : splice (splice (X ++ (Y ++ Z)) X.length A) (X.length + A.length) B = X ++ (A ++ (B ++ Z)) := by
  unfold splice
  rw [List.take_left, List.drop_length_add_append]
  have e1 : (X ++ (A ++ (Y ++ Z).drop A.length)).take (X.length + A.length) = X ++ A := by
    rw [List.take_length_add_append, List.take_left]
  have e2 : (X ++ (A ++ (Y ++ Z).drop A.length)).drop (X.length + A.length + B.length) = Z := by
    rw [Nat.add_assoc, List.drop_length_add_append, List.drop_length_add_append, List.drop_drop, ← hY, List.drop_left]
  rw [e1, e2, List.append_assoc]
theorem splice_back {X D Z A : List Value} (hA : A.length ≤ Z.length) : splice (splice (X ++ (D ++ Z)) (X.length + A.length) D) X.length A = X ++ (A ++ (D ++ Z.drop A.length)) := by
  unfold splice
  have e1 : (X ++ (D ++ Z)).take (X.length + A.length) = X ++ (D ++ Z).take A.length := by rw [List.take_length_add_append]
  have e2 : (X ++ (D ++ Z)).drop (X.length + A.length + D.length) = Z.drop A.length := by
    rw [Nat.add_assoc, List.drop_length_add_append, Nat.add_comm, List.drop_length_add_append]
  have hl : ((D ++ Z).take A.length).length = A.length := by rw [List.length_take, List.length_append]; omega
  rw [e1, e2, List.append_assoc, List.take_left, List.drop_length_add_append]
  have e3 : ((D ++ Z).take A.length ++ (D ++ Z.drop A.length)).drop A.length = D ++ Z.drop A.length := by
    have := List.drop_left (l₁ := (D ++ Z).take A.length) (l₂ := D ++ Z.drop A.length)
    rwa [hl] at this
  rw [e3]
theorem run_copy_blk {P : Program} (w : World) (dT sT ty elem : TypeId) (size g off n dLen dCap : Nat) (a : Addr) (sLen sCap : Nat) (L cs : List Value) (t : TypeId)
    (hu : P.underlying dT = some (.slice elem)) (hs : (P.info? elem).map (·.size) = some size) (hg : w.heap[g]? = some (.cells L.toArray t (0, 0))) (hn : cs.length = n * size) (hmin : Nat.min sLen dLen = n)
    (hsrc : ∀ j v, cs[j]? = some v → w.cell? (a.add j) = some v) (hfit : off + cs.length ≤ L.length) (h1 : ∀ v ∈ cs, v.oneCell' = true) :
    ∃ w', (Builtin.copy_ #[dT, sT] ty #[.slice (some ⟨g, off, none⟩) dLen dCap, .slice (some a) sLen sCap]).run P w = .ok (goInt n) w' ∧ w'.heap[g]? = some (.cells (splice L off cs).toArray t (0, 0)) ∧ w.grownBy w' (some g) := by
  have hl := run_loadCells_list (P := P) w a cs hsrc
  have hst := run_storeCells_at P g off t cs 0 L.toArray w hg (by simpa using hfit) h1
  have e : (L.toArray.toList.take (off + 0) ++ cs ++ L.toArray.toList.drop (off + 0 + cs.length)) = splice L off cs := by
    unfold splice
    simp
  rw [e] at hst
  refine ⟨w.setRow g (splice L off cs).toArray, ?_, setRow_heap _ _ _ _ _ _ hg, ⟨rfl, rfl, rfl, by simp [World.setRow], fun i _ hi => ?_⟩⟩
  · cases hq : P.info? elem with
    | none => simp [hq] at hs
    | some i =>
      have hi : i.size = size := by simpa [hq] using hs
      simp [Builtin.copy_, run_underlying hu, Builtin.lenOf, Builtin.firstCells, sizeOf, typeInfo, hq, hi, hmin, ← hn, hl, hst]
  · simp only [World.setRow, Array.getElem?_modify]
    rw [if_neg (fun e => hi (by rw [e]))]
theorem exec_copy {P : Program} {w w' : World} {o : Oper} {a : Act} (d s : Operand) (t t' : TypeId) (ho : o.op = .call { callee := .builtin .copy, args := #[d, s], argTypes := #[t, t'] }) (v u : Value) (hd : a.eval d = v) (hs : a.eval s = u) {v' : Value}
    (hr : (Builtin.copy_ #[t, t'] o.type #[v, u]).run P w = .ok v' w') : (execOp a.eval o).run P w = .ok (.value v') w' := by
  unfold execOp
  simp only [ho, resolve, invoke, builtin, Sem.run_bind, Sem.run_pure, Result.andThen_ok, List.map_toArray, List.map_cons, List.map_nil, hd, hs, hr]
theorem wpList_copy_run {P : Program} {w : World} {ops : Array Oper} {rest : List Oper} {o : Oper} {a : Act} {Q : Exit → Act → World → Prop} (hgd : o.guard = none) (d s : Operand) (t t' : TypeId)
    (ho : o.op = .call { callee := .builtin .copy, args := #[d, s], argTypes := #[t, t'] }) (v u : Value) (hd : a.eval d = v) (hs : a.eval s = u) {v' : Value} {w' : World}
    (hr : (Builtin.copy_ #[t, t'] o.type #[v, u]).run P w = .ok v' w') (h : wpList P ops Q rest (a.put o.dst v') w') : wpList P ops Q (o :: rest) a w :=
  wpList_plain hgd fun _ hK => by
    unfold Oper.wp
    rw [exec_copy d s t t' ho v u hd hs hr]
    exact hK _ _ h
theorem exec_append {P : Program} {w w' : World} {o : Oper} {a : Act} (d s : Operand) (t t' : TypeId) (ho : o.op = .call { callee := .builtin .append, args := #[d, s], argTypes := #[t, t'] }) (v u : Value) (hd : a.eval d = v) (hs : a.eval s = u) {v' : Value}
    (hr : (Builtin.append_ #[t, t'] o.type #[v, u]).run P w = .ok v' w') : (execOp a.eval o).run P w = .ok (.value v') w' := by
  unfold execOp
  simp only [ho, resolve, invoke, builtin, Sem.run_bind, Sem.run_pure, Result.andThen_ok, List.map_toArray, List.map_cons, List.map_nil, hd, hs, hr]
end Go.Proofs.YtmdcankfjmkkeaaGreat
/- The contracts of a copy of facts, and of the faults of views. -/
namespace Go.Proofs.YtmdcankfjmkkeaaGreat
open Go Go.RowKit
set_option linter.unusedVariables false

/-- A whole row copied into one of one's own: elements of whatever size. -/
theorem run_copy_whole {P : Program} (w : World) (dT sT ty elem : TypeId) (size g n dCap : Nat) (a : Addr) (sCap : Nat) (cur : Array Value) (t : TypeId) (cs : List Value)
    (hu : P.underlying dT = some (.slice elem)) (hs : (P.info? elem).map (·.size) = some size)
    (hg : w.heap[g]? = some (.cells cur t (0, 0))) (hn : cs.length = n * size)
    (hsrc : ∀ j v, cs[j]? = some v → w.cell? (a.add j) = some v) (hfit : cs.length = cur.size) (h1 : ∀ v ∈ cs, v.oneCell' = true) :
    (Builtin.copy_ #[dT, sT] ty #[.slice (some ⟨g, 0, none⟩) n dCap, .slice (some a) n sCap]).run P w = .ok (goInt n) (w.setRow g cs.toArray) := by
  have hl := run_loadCells_list (P := P) w a cs hsrc
  have hst := run_storeCells_at P g 0 t cs 0 cur w hg (by simpa using Nat.le_of_eq hfit) h1
  have e : (cur.toList.take (0 + 0) ++ cs ++ cur.toList.drop (0 + 0 + cs.length)) = cs := by
    rw [Nat.zero_add, List.take_zero, List.nil_append, List.drop_eq_nil_of_le (by simp; omega), List.append_nil]
  rw [e] at hst
  cases hq : P.info? elem with
  | none => simp [hq] at hs
  | some i =>
    have hi : i.size = size := by simpa [hq] using hs
    simp [Builtin.copy_, run_underlying hu, Builtin.lenOf, Builtin.firstCells, sizeOf, typeInfo, hq, hi, ← hn, hl, hst]
theorem oneCells (x : FactV) : ∀ v ∈ x.cells, v.oneCell' = true := by
  intro v hv
  unfold FactV.cells at hv
  simp at hv
  rcases hv with rfl | rfl | rfl <;> rfl
theorem cellsOf_one (l : List FactV) : ∀ v ∈ cellsOf FactV.cells l, v.oneCell' = true := by
  intro v hv
  obtain ⟨x, _, hx⟩ := List.mem_flatMap.1 hv
  exact oneCells x v hx
theorem below_setRow {B : Nat} {a w : World} (h : Below B a w) {g : Nat} (hg : B ≤ g) (c : Array Value) : Below B a (w.setRow g c) := by
  refine h.trans ⟨rfl, rfl, rfl, ?_, fun k hk => ?_⟩
  · simp [World.setRow]
  · simp only [World.setRow, Array.getElem?_modify]
    rw [if_neg (by omega)]
theorem CellRow.reads {w : World} {ad : Addr} {cs : List Value} (h : CellRow w (some ad) cs) : ∀ j u, cs[j]? = some u → w.cell? (ad.add j) = some u := by
  intro j u hj
  obtain ⟨hlt, hv⟩ := List.getElem?_eq_some_iff.1 hj
  rcases h with h | ⟨b, off, e, _, hc⟩
  · rw [h] at hlt; simp at hlt
  · obtain rfl := Option.some.inj e
    have e2 : (⟨b, off, none⟩ : Addr).add j = ⟨b, off + j, none⟩ := by by_cases e0 : j = 0 <;> simp [Addr.add, e0]
    rw [e2, hc j hlt, hv]
set_option maxHeartbeats 1000000 in
set_option maxRecDepth 100000 in
theorem copiedF_any (a : Option Addr) (cap : Nat) (l : List FactV) (w : World) (hl : l.length ≤ 1048576) (hrow : CellRow w a (cellsOf FactV.cells l)) :
    Calls Tryz.prog 124 #[.slice a l.length cap] w fun e w' => ∃ v, e = .returned v ∧ w'.ownsRow w.heap.size 54 3 v l.length (cellsOf FactV.cells l) ∧ Below w.heap.size w w' := by
  by_cases h0 : l.length = 0
  · obtain rfl : l = [] := List.eq_nil_of_length_eq_zero h0
    go_enter Tryz.func124, Tryz.ntmps124
    go_wp2
    go_ret
    exact ⟨_, rfl, World.ownsRow_nil _ _ _ _, Below.refl _ _⟩
  · have hlen4 := cellsOf_length FactV.cells_len l
    obtain ⟨b, off, rfl⟩ := hrow.addr (by omega)
    obtain ⟨i0, hi0, hz⟩ := Option.map_eq_some_iff.1 Tryz.infoFact
    simp only [Prod.mk.injEq] at hz
    obtain ⟨wm, hmk, hown, hgr⟩ := run_make_full (P := Tryz.prog) w w.heap.size 23 54 i0 _ 3 Tryz.underlying23 hi0 hz.1 hz.2.1 .i64 .i64 l.length (by rw [hz.2.2]; omega) (by unfold maxLen; omega) (Nat.le_refl _)
    have hb0 : Below w.heap.size w wm := (Below.refl _ _).grown hgr (Nat.le_refl _) (fun k e => by cases e)
    obtain ⟨cur, hg0, hcs⟩ : ∃ cur, wm.heap[w.heap.size]? = some (.cells cur 54 (0, 0)) ∧ cur.size = l.length * 3 := by
      rcases hown.2 with ⟨e, _⟩ | ⟨g, c, cur, e, _, h1, _, _, h2, _⟩
      · cases e
      · simp only [Value.slice.injEq, Option.some.injEq, Addr.mk.injEq, and_true, true_and] at e
        obtain ⟨rfl, rfl⟩ := e
        exact ⟨cur, h1, h2⟩
    have hsrc := (hrow.keep hb0).reads
    have hcp := run_copy_whole (P := Tryz.prog) wm 23 23 3 54 3 w.heap.size l.length l.length ⟨b, off, none⟩ cap cur 54 (cellsOf FactV.cells l) Tryz.underlying23 (by rw [hi0]; simp [hz.2.1]) hg0 hlen4 hsrc (by omega) (cellsOf_one l)
    have HO : Hid ((wm.setRow w.heap.size (cellsOf FactV.cells l).toArray).ownsRow w.heap.size 54 3 (.slice (some ⟨w.heap.size, 0, none⟩) l.length l.length) l.length (cellsOf FactV.cells l)) :=
      ⟨hlen4, .inr ⟨w.heap.size, l.length, (cellsOf FactV.cells l).toArray, rfl, Nat.le_refl _, setRow_heap _ _ _ _ _ _ hg0, Nat.le_refl _, by unfold maxLen; omega, by simpa using hlen4, by show (cellsOf FactV.cells l).take (l.length * 3) = _; exact List.take_of_length_le (by omega)⟩⟩
    have HB : Hid (Below w.heap.size w (wm.setRow w.heap.size (cellsOf FactV.cells l).toArray)) := below_setRow hb0 (Nat.le_refl _) _
    have hz0 : ((l.length : Int) == 0) = false := beq_eq_false_iff_ne.2 (by omega)
    clear hown hgr hsrc hlen4 hg0 hcs hb0 h0
    go_enter Tryz.func124, Tryz.ntmps124
    go_wp2
    go_ret
    exact ⟨_, rfl, HO.out, HB.out⟩
/-- What is wrong with a view. -/
def FaultIs (l : List FactV) (c : Int) : Prop := (400 < l.length ∧ c = 2) ∨ (l.length ≤ 400 ∧ ¬ rightV l ∧ c = 1) ∨ (rightV l ∧ c = 0)
theorem fault_ex (l : List FactV) : ∃ c, FaultIs l c := by
  by_cases h1 : 400 < l.length
  · exact ⟨2, .inl ⟨h1, rfl⟩⟩
  · by_cases h2 : rightV l
    · exact ⟨0, .inr (.inr ⟨h2, rfl⟩)⟩
    · exact ⟨1, .inr (.inl ⟨by omega, h2, rfl⟩)⟩
def Fault2Is (l m : List FactV) (c : Int) : Prop := ((400 < l.length ∨ 400 < m.length) ∧ c = 2) ∨ (l.length ≤ 400 ∧ m.length ≤ 400 ∧ (¬ rightV l ∨ ¬ rightV m) ∧ c = 1) ∨ (rightV l ∧ rightV m ∧ c = 0)
set_option maxHeartbeats 1000000 in
set_option maxRecDepth 100000 in
theorem fault1_any (B : Nat) (a : Option Addr) (cap : Nat) (l : List FactV) (c : Int) (hc : FaultIs l c) (w : World) (hl : l.length ≤ 1048576) (hrow : CellRow w a (cellsOf FactV.cells l)) (hB : BlkIs w B 23 #[.slice a l.length cap]) :
    Calls Tryz.prog 212 #[.slice (some ⟨B, 0, none⟩) 1 1] w fun e w' => e = .returned (.int .i64 c) ∧ Below w.heap.size w w' := by
  have HC : Hid (FaultIs l c) := hc
  obtain ⟨r, hr⟩ := tells_bool (rightV l)
  have HR : Hid (r = true ↔ rightV l) := hr
  have g0 : w.cell? ⟨B, 0, none⟩ = some (.slice a l.length cap) := hB.cell 0
  clear hc hr
  go_enter Tryz.func212, Tryz.ntmps212
  go_wp2
  by_cases h4 : 400 < (l.length : Int)
  · have HE : Hid (c = 2) := by
      show _ = _
      rcases HC.out with ⟨_, h⟩ | ⟨h, _⟩ | ⟨h, _⟩
      · exact h
      · omega
      · have := rightV_len h; omega
    clear HC HR
    refine wp_loop_rounds 1 ?_
    rw [rounds_succ]
    go_wp2
    go_ret
    exact ⟨by rw [HE.out]; rfl, Below.refl _ _⟩
  · refine wp_loop_rounds 2 ?_
    rw [rounds_succ]
    go_wp2
    rw [rounds_succ]
    go_wp2
    refine wp_loop_rounds 2 ?_
    rw [rounds_succ]
    go_wp2_with fail
    refine (implVRight_is a cap l _ r HR.out hl hrow).mono ?_
    rintro e z1 ⟨rfl, b1⟩
    cases r with
    | false =>
      have HE : Hid (c = 1) := by
        show _ = _
        rcases HC.out with ⟨h, _⟩ | ⟨_, _, h⟩ | ⟨h, _⟩
        · omega
        · exact h
        · have := HR.out.2 h; cases this
      clear HC HR
      go_wp2
      go_ret
      exact ⟨by rw [HE.out]; rfl, b1⟩
    | true =>
      have HE : Hid (c = 0) := by
        show _ = _
        rcases HC.out with ⟨h, _⟩ | ⟨_, h, _⟩ | ⟨_, h⟩
        · omega
        · exact absurd (HR.out.1 rfl) h
        · exact h
      clear HC HR
      go_wp2
      rw [rounds_succ]
      go_wp2
      go_ret
      exact ⟨by rw [HE.out]; rfl, b1⟩
set_option maxHeartbeats 2000000 in
set_option maxRecDepth 100000 in
theorem fault2_any (B : Nat) (a a' : Option Addr) (cap cap' : Nat) (l m : List FactV) (c : Int) (hc : Fault2Is l m c) (w : World) (hl : l.length ≤ 1048576) (hm : m.length ≤ 1048576) (hrow : CellRow w a (cellsOf FactV.cells l)) (hrow' : CellRow w a' (cellsOf FactV.cells m)) (hB : BlkIs w B 23 #[.slice a l.length cap, .slice a' m.length cap']) :
    Calls Tryz.prog 212 #[.slice (some ⟨B, 0, none⟩) 2 2] w fun e w' => e = .returned (.int .i64 c) ∧ Below w.heap.size w w' := by
  have HC : Hid (Fault2Is l m c) := hc
  obtain ⟨r, hr⟩ := tells_bool (rightV l)
  have HR : Hid (r = true ↔ rightV l) := hr
  obtain ⟨r', hr'⟩ := tells_bool (rightV m)
  have HR' : Hid (r' = true ↔ rightV m) := hr'
  have g0 : w.cell? ⟨B, 0, none⟩ = some (.slice a l.length cap) := hB.cell 0
  have g1 : w.cell? ⟨B, 1, none⟩ = some (.slice a' m.length cap') := hB.cell 1
  clear hc hr hr'
  go_enter Tryz.func212, Tryz.ntmps212
  go_wp2
  by_cases h4 : 400 < (l.length : Int)
  · have HE : Hid (c = 2) := by
      show _ = _
      rcases HC.out with ⟨_, h⟩ | ⟨h, _⟩ | ⟨h, _⟩
      · exact h
      · omega
      · have := rightV_len h; omega
    clear HC HR HR'
    refine wp_loop_rounds 1 ?_
    rw [rounds_succ]
    go_wp2
    go_ret
    exact ⟨by rw [HE.out]; rfl, Below.refl _ _⟩
  by_cases h5 : 400 < (m.length : Int)
  · have HE : Hid (c = 2) := by
      show _ = _
      rcases HC.out with ⟨_, h⟩ | ⟨_, h, _⟩ | ⟨_, h, _⟩
      · exact h
      · omega
      · have := rightV_len h; omega
    clear HC HR HR'
    refine wp_loop_rounds 2 ?_
    rw [rounds_succ]
    go_wp2
    rw [rounds_succ]
    go_wp2
    go_ret
    exact ⟨by rw [HE.out]; rfl, Below.refl _ _⟩
  · refine wp_loop_rounds 3 ?_
    rw [rounds_succ]
    go_wp2
    rw [rounds_succ]
    go_wp2
    rw [rounds_succ]
    go_wp2
    refine wp_loop_rounds 3 ?_
    rw [rounds_succ]
    go_wp2_with fail
    refine (implVRight_is a cap l _ r HR.out hl hrow).mono ?_
    rintro e z1 ⟨rfl, b1⟩
    have hB1 := hB.keep b1
    have k1 : z1.cell? ⟨B, 1, none⟩ = some (.slice a' m.length cap') := hB1.cell 1
    have hrow1 := hrow'.keep b1
    cases r with
    | false =>
      have HE : Hid (c = 1) := by
        show _ = _
        rcases HC.out with ⟨h, _⟩ | ⟨_, _, _, h⟩ | ⟨h, _⟩
        · omega
        · exact h
        · have := HR.out.2 h; cases this
      clear HC HR HR'
      go_wp2
      go_ret
      exact ⟨by rw [HE.out]; rfl, b1⟩
    | true =>
      have HL : Hid (rightV l) := HR.out.1 rfl
      clear HR
      go_wp2
      rw [rounds_succ]
      go_wp2_with fail
      refine (implVRight_is a' cap' m _ r' HR'.out hm hrow1).mono ?_
      rintro e z2 ⟨rfl, b2⟩
      have B2 := b1.trans (b2.mono b1.size)
      cases r' with
      | false =>
        have HE : Hid (c = 1) := by
          show _ = _
          rcases HC.out with ⟨h, _⟩ | ⟨_, _, _, h⟩ | ⟨_, h, _⟩
          · omega
          · exact h
          · have := HR'.out.2 h; cases this
        clear HC HR'
        go_wp2
        go_ret
        exact ⟨by rw [HE.out]; rfl, B2⟩
      | true =>
        have HE : Hid (c = 0) := by
          show _ = _
          rcases HC.out with ⟨h, _⟩ | ⟨_, _, h, _⟩ | ⟨_, _, h⟩
          · omega
          · exact absurd h (fun q => q.elim (fun q => q HL.out) (fun q => q (HR'.out.1 rfl)))
          · exact h
        clear HC HR'
        go_wp2
        rw [rounds_succ]
        go_wp2
        go_ret
        exact ⟨by rw [HE.out]; rfl, B2⟩
end Go.Proofs.YtmdcankfjmkkeaaGreat
