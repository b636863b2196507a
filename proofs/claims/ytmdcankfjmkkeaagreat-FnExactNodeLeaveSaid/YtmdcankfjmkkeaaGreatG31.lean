/- The contract of the specification's l08Ill; what a node's calls answer. -/
import Derived.Test.YtmdcankfjmkkeaaGreatNOut
import Derived.Test.YtmdcankfjmkkeaaGreatNSpecA
import Derived.Test.YtmdcankfjmkkeaaGreatG4
import Derived.Laws.Tables
import Derived.Laws.Rows
import Derived.Deep.MidRow
import Derived.Lib.ReflectliteSwap
namespace Go.Proofs.YtmdcankfjmkkeaaGreat
open Go Go.RowKit
set_option linter.unusedVariables false
set_option linter.unusedSimpArgs false

/-- A mail in memory is such a one. -/
def MailA.v (m : MailA) : MailV := ⟨m.k, m.f, m.t, m.n, m.a, m.r, m.l⟩
/-- What a call answers: a node and its mails, of one's own. -/
def NPost (c : Nat) (x : NOutV) (w : World) (e : Ending) (w' : World) : Prop := ∃ a v ms, e = .returned (outVal a x.node v x.missed x.code) ∧ OwnOut w' c a x.node v ms ∧ ms.map MailA.v = x.mails ∧ NodeRoom a x.node ∧ Below c w w'
theorem ownNil (w : World) (c : Nat) : OwnMails w c (.slice none 0 0) [] := ⟨⟨none, 0, rfl, .inl rfl, .inl rfl⟩, fun i h => absurd h (by simp), fun i h => absurd h (by simp), fun i j h => absurd h (by simp)⟩
theorem offNil (g : Nat) : offM (.slice none 0 0) [] g := ⟨.inl rfl, fun i h => absurd h (by simp)⟩
theorem blk_put17 {W : World} {b t : Nat} {u0 u1 u2 u3 u4 u5 u6 u7 u8 u9 u10 u11 u12 u13 u14 u15 u16 : Value} (h : BlkIs W b t #[u0, u1, u2, u3, u4, u5, u6, u7, u8, u9, u10, u11, u12, u13, u14, u15, u16]) (v0 v1 v2 v3 v4 v5 v6 v7 v8 v9 v10 v11 v12 v13 v14 v15 v16 : Value) : BlkIs (((((((((((((((((W.setCell ⟨b, 0, none⟩ (v0)).setCell ⟨b, 1, none⟩ (v1)).setCell ⟨b, 2, none⟩ (v2)).setCell ⟨b, 3, none⟩ (v3)).setCell ⟨b, 4, none⟩ (v4)).setCell ⟨b, 5, none⟩ (v5)).setCell ⟨b, 6, none⟩ (v6)).setCell ⟨b, 7, none⟩ (v7)).setCell ⟨b, 8, none⟩ (v8)).setCell ⟨b, 9, none⟩ (v9)).setCell ⟨b, 10, none⟩ (v10)).setCell ⟨b, 11, none⟩ (v11)).setCell ⟨b, 12, none⟩ (v12)).setCell ⟨b, 13, none⟩ (v13)).setCell ⟨b, 14, none⟩ (v14)).setCell ⟨b, 15, none⟩ (v15)).setCell ⟨b, 16, none⟩ (v16)) b t #[v0, v1, v2, v3, v4, v5, v6, v7, v8, v9, v10, v11, v12, v13, v14, v15, v16] := by
  have := (((((((((((((((((h.put 0 v0).put 1 v1).put 2 v2).put 3 v3).put 4 v4).put 5 v5).put 6 v6).put 7 v7).put 8 v8).put 9 v9).put 10 v10).put 11 v11).put 12 v12).put 13 v13).put 14 v14).put 15 v15).put 16 v16)
  simpa only [List.setIfInBounds_toArray, List.set_cons_zero, List.set_cons_succ] using this
theorem below_put17 {c : Nat} {w W : World} {b : Nat} (h : Below c w W) (hb : c ≤ b) (v0 v1 v2 v3 v4 v5 v6 v7 v8 v9 v10 v11 v12 v13 v14 v15 v16 : Value) : Below c w (((((((((((((((((W.setCell ⟨b, 0, none⟩ (v0)).setCell ⟨b, 1, none⟩ (v1)).setCell ⟨b, 2, none⟩ (v2)).setCell ⟨b, 3, none⟩ (v3)).setCell ⟨b, 4, none⟩ (v4)).setCell ⟨b, 5, none⟩ (v5)).setCell ⟨b, 6, none⟩ (v6)).setCell ⟨b, 7, none⟩ (v7)).setCell ⟨b, 8, none⟩ (v8)).setCell ⟨b, 9, none⟩ (v9)).setCell ⟨b, 10, none⟩ (v10)).setCell ⟨b, 11, none⟩ (v11)).setCell ⟨b, 12, none⟩ (v12)).setCell ⟨b, 13, none⟩ (v13)).setCell ⟨b, 14, none⟩ (v14)).setCell ⟨b, 15, none⟩ (v15)).setCell ⟨b, 16, none⟩ (v16)) := (((((((((((((((((h.setCell (p := ⟨b, 0, none⟩) hb _).setCell (p := ⟨b, 1, none⟩) hb _).setCell (p := ⟨b, 2, none⟩) hb _).setCell (p := ⟨b, 3, none⟩) hb _).setCell (p := ⟨b, 4, none⟩) hb _).setCell (p := ⟨b, 5, none⟩) hb _).setCell (p := ⟨b, 6, none⟩) hb _).setCell (p := ⟨b, 7, none⟩) hb _).setCell (p := ⟨b, 8, none⟩) hb _).setCell (p := ⟨b, 9, none⟩) hb _).setCell (p := ⟨b, 10, none⟩) hb _).setCell (p := ⟨b, 11, none⟩) hb _).setCell (p := ⟨b, 12, none⟩) hb _).setCell (p := ⟨b, 13, none⟩) hb _).setCell (p := ⟨b, 14, none⟩) hb _).setCell (p := ⟨b, 15, none⟩) hb _).setCell (p := ⟨b, 16, none⟩) hb _)
theorem keeps_put17 (W : World) (b : Nat) (v0 v1 v2 v3 v4 v5 v6 v7 v8 v9 v10 v11 v12 v13 v14 v15 v16 : Value) : Keeps (fun k => k ≠ b) W (((((((((((((((((W.setCell ⟨b, 0, none⟩ (v0)).setCell ⟨b, 1, none⟩ (v1)).setCell ⟨b, 2, none⟩ (v2)).setCell ⟨b, 3, none⟩ (v3)).setCell ⟨b, 4, none⟩ (v4)).setCell ⟨b, 5, none⟩ (v5)).setCell ⟨b, 6, none⟩ (v6)).setCell ⟨b, 7, none⟩ (v7)).setCell ⟨b, 8, none⟩ (v8)).setCell ⟨b, 9, none⟩ (v9)).setCell ⟨b, 10, none⟩ (v10)).setCell ⟨b, 11, none⟩ (v11)).setCell ⟨b, 12, none⟩ (v12)).setCell ⟨b, 13, none⟩ (v13)).setCell ⟨b, 14, none⟩ (v14)).setCell ⟨b, 15, none⟩ (v15)).setCell ⟨b, 16, none⟩ (v16)) := ((((((((((((((((((Keeps.refl _ _).setCell (fun h => h rfl) _).setCell (fun h => h rfl) _).setCell (fun h => h rfl) _).setCell (fun h => h rfl) _).setCell (fun h => h rfl) _).setCell (fun h => h rfl) _).setCell (fun h => h rfl) _).setCell (fun h => h rfl) _).setCell (fun h => h rfl) _).setCell (fun h => h rfl) _).setCell (fun h => h rfl) _).setCell (fun h => h rfl) _).setCell (fun h => h rfl) _).setCell (fun h => h rfl) _).setCell (fun h => h rfl) _).setCell (fun h => h rfl) _).setCell (fun h => h rfl) _)
def noneM : NodeM := ⟨none, 0, none, 0, none, 0, none, 0⟩
theorem ownZ (w : World) (c : Nat) : OwnNode w c noneM .z where
  v := ⟨none, 0, rfl, .inl rfl, .inl rfl⟩
  r := ⟨none, 0, rfl, .inl rfl, .inl rfl⟩
  t := .inl rfl
  d := ⟨none, 0, rfl, .inl rfl, .inl rfl⟩
  vr := fun g _ _ => .inl rfl
  vd := fun g _ _ => .inl rfl
  rd := fun g _ _ => .inl rfl
  tv := fun g off h => by cases h
  tr := fun g off h => by cases h
  td := fun g off h => by cases h
  tb := fun g off h => by cases h
theorem ill_post (code : Int) (c : Nat) (w w' : World) (hb : Below c w w') : NPost c (illN code) w (.returned (.agg #[.int .i64 0, .int .i64 0, .int .i64 0, .int .i64 0, .int .i64 0, .slice none 0 0, .slice none 0 0, .slice none 0 0, .int .i64 0, .int .i64 0, .int .i64 0, .int .i64 0, .bool false, .slice none 0 0, .slice none 0 0, .int .i64 0, .int .i64 code])) w' :=
  ⟨noneM, .slice none 0 0, [], rfl, ⟨ownZ _ _, ownNil _ _, fun g => .inr (offNil g)⟩, rfl, ⟨Nat.le_refl _, Nat.le_refl _, Nat.le_refl _, Nat.le_refl _⟩, hb⟩
set_option maxHeartbeats 2000000 in
set_option maxRecDepth 100000 in
theorem specIll_any (code : Int) (w : World) : Calls Tryz.prog 68 #[.int .i64 code] w fun e w' => e = .returned (.agg #[.int .i64 0, .int .i64 0, .int .i64 0, .int .i64 0, .int .i64 0, .slice none 0 0, .slice none 0 0, .slice none 0 0, .int .i64 0, .int .i64 0, .int .i64 0, .int .i64 0, .bool false, .slice none 0 0, .slice none 0 0, .int .i64 0, .int .i64 code]) ∧ Below w.heap.size w w' := by
  have B := (Below.refl w.heap.size w).alloc (Nat.le_refl _) (.cells #[.int .i64 0, .int .i64 0, .int .i64 0, .int .i64 0, .int .i64 0, .slice none 0 0, .slice none 0 0, .slice none 0 0, .int .i64 0, .int .i64 0, .int .i64 0, .int .i64 0, .bool false, .slice none 0 0, .slice none 0 0, .int .i64 0, .int .i64 code] 37)
  have O := BlkIs.new w 37 #[.int .i64 0, .int .i64 0, .int .i64 0, .int .i64 0, .int .i64 0, .slice none 0 0, .slice none 0 0, .slice none 0 0, .int .i64 0, .int .i64 0, .int .i64 0, .int .i64 0, .bool false, .slice none 0 0, .slice none 0 0, .int .i64 0, .int .i64 code]
  go_enter Tryz.func68, Tryz.ntmps68
  go_wp2
  obtain ⟨Z, hZ⟩ : ∃ Z, w.alloc (.cells #[.int .i64 0, .int .i64 0, .int .i64 0, .int .i64 0, .int .i64 0, .slice none 0 0, .slice none 0 0, .slice none 0 0, .int .i64 0, .int .i64 0, .int .i64 0, .int .i64 0, .bool false, .slice none 0 0, .slice none 0 0, .int .i64 0, .int .i64 code] 37) = Z := ⟨_, rfl⟩
  rw [hZ] at O B ⊢
  clear hZ
  have h0 : Z.cell? ⟨w.heap.size, 0, none⟩ = some (.int .i64 0) := O.cell 0
  have h1 : Z.cell? ⟨w.heap.size, 1, none⟩ = some (.int .i64 0) := O.cell 1
  have h2 : Z.cell? ⟨w.heap.size, 2, none⟩ = some (.int .i64 0) := O.cell 2
  have h3 : Z.cell? ⟨w.heap.size, 3, none⟩ = some (.int .i64 0) := O.cell 3
  have h4 : Z.cell? ⟨w.heap.size, 4, none⟩ = some (.int .i64 0) := O.cell 4
  have h5 : Z.cell? ⟨w.heap.size, 5, none⟩ = some (.slice none 0 0) := O.cell 5
  have h6 : Z.cell? ⟨w.heap.size, 6, none⟩ = some (.slice none 0 0) := O.cell 6
  have h7 : Z.cell? ⟨w.heap.size, 7, none⟩ = some (.slice none 0 0) := O.cell 7
  have h8 : Z.cell? ⟨w.heap.size, 8, none⟩ = some (.int .i64 0) := O.cell 8
  have h9 : Z.cell? ⟨w.heap.size, 9, none⟩ = some (.int .i64 0) := O.cell 9
  have h10 : Z.cell? ⟨w.heap.size, 10, none⟩ = some (.int .i64 0) := O.cell 10
  have h11 : Z.cell? ⟨w.heap.size, 11, none⟩ = some (.int .i64 0) := O.cell 11
  have h12 : Z.cell? ⟨w.heap.size, 12, none⟩ = some (.bool false) := O.cell 12
  have h13 : Z.cell? ⟨w.heap.size, 13, none⟩ = some (.slice none 0 0) := O.cell 13
  have h14 : Z.cell? ⟨w.heap.size, 14, none⟩ = some (.slice none 0 0) := O.cell 14
  have h15 : Z.cell? ⟨w.heap.size, 15, none⟩ = some (.int .i64 0) := O.cell 15
  have h16 : Z.cell? ⟨w.heap.size, 16, none⟩ = some (.int .i64 code) := O.cell 16
  refine bodyPost_ret (v := .agg #[.int .i64 0, .int .i64 0, .int .i64 0, .int .i64 0, .int .i64 0, .slice none 0 0, .slice none 0 0, .slice none 0 0, .int .i64 0, .int .i64 0, .int .i64 0, .int .i64 0, .bool false, .slice none 0 0, .slice none 0 0, .int .i64 0, .int .i64 code]) (by simp [results, Tryz.results68, go_sem, h0, h1, h2, h3, h4, h5, h6, h7, h8, h9, h10, h11, h12, h13, h14, h15, h16]) rfl ?_
  exact ⟨rfl, B⟩
/-- What NodeNew answers. -/
def NewIs (id inc seed now : Int) (x : NOutV) : Prop := ((nodeR id ∧ timeR inc ∧ seedR seed ∧ timeR now) ∧ x = ⟨newN id inc seed now, [], 0, 0⟩) ∨ (¬ (nodeR id ∧ timeR inc ∧ seedR seed ∧ timeR now) ∧ x = illN 1)
theorem newIs_ex (id inc seed now : Int) : ∃ x, NewIs id inc seed now x := by
  by_cases h : nodeR id ∧ timeR inc ∧ seedR seed ∧ timeR now
  · exact ⟨_, .inl ⟨h, rfl⟩⟩
  · exact ⟨_, .inr ⟨h, rfl⟩⟩
theorem new_post (id inc seed now : Int) (c ka kb : Nat) (w w' : World) (ha : c ≤ ka) (hb : c ≤ kb) (pa : BlkIs w' ka 54 #[.int .i64 id, .int .i64 inc, .int .i64 1]) (pb : BlkIs w' kb 59 #[.int .i64 id, .int .i64 inc, .int .i64 1, .int .i64 0]) (hne : ka ≠ kb) (B : Below c w w') : NPost c ⟨newN id inc seed now, [], 0, 0⟩ w (.returned (.agg #[.int .i64 id, .int .i64 inc, .int .i64 0, .int .i64 seed, .int .i64 now, .slice (some ⟨ka, 0, none⟩) 1 1, .slice (some ⟨kb, 0, none⟩) 1 1, .slice none 0 0, .int .i64 0, .int .i64 0, .int .i64 0, .int .i64 0, .bool false, .slice none 0 0, .slice none 0 0, .int .i64 0, .int .i64 0])) w' := by
  have e1 : OwnSl w' c (.slice (some ⟨ka, 0, none⟩) 1 1) [⟨id, inc, 1⟩] := ⟨_, 1, rfl, .inr ⟨ka, 0, rfl, ha, pa.lt, fun i hi => (by
    simp only [Nat.zero_add]
    exact (pa.cell i).trans (by
      match i with
      | 0 => rfl
      | 1 => rfl
      | 2 => rfl
      | n + 3 => (simp [cellsOf, FactV.cells] at hi; omega))), fun i hi => by simpa using pa.fz i⟩, .inr ⟨ka, rfl⟩⟩
  have e2 : OwnSlR w' c (.slice (some ⟨kb, 0, none⟩) 1 1) [⟨id, inc, 1, 0⟩] := ⟨_, 1, rfl, .inr ⟨kb, 0, rfl, hb, pb.lt, fun i hi => (by
    simp only [Nat.zero_add]
    exact (pb.cell i).trans (by
      match i with
      | 0 => rfl
      | 1 => rfl
      | 2 => rfl
      | 3 => rfl
      | n + 4 => (simp [cellsOf, RumV.cells] at hi; omega))), fun i hi => by simpa using pb.fz i⟩, .inr ⟨kb, rfl⟩⟩
  have hap : Ap (.slice (some ⟨ka, 0, none⟩) 1 1) 1 (.slice (some ⟨kb, 0, none⟩) 1 1) 1 := fun g h1 h2 => by
    simp [Value.ownBlock] at h1 h2
    omega
  have on : OwnNode w' c ⟨some ⟨ka, 0, none⟩, 1, some ⟨kb, 0, none⟩, 1, none, 0, none, 0⟩ (newN id inc seed now) := ⟨e1, e2, .inl rfl, ⟨none, 0, rfl, .inl rfl, .inl rfl⟩, hap, fun g _ _ => .inr rfl, fun g _ _ => .inr rfl, fun g off h => (by cases h), fun g off h => (by cases h), fun g off h => (by cases h), fun g off h => (by cases h)⟩
  exact ⟨_, .slice none 0 0, [], rfl, ⟨on, ownNil _ _, fun g => .inr (offNil g)⟩, rfl, ⟨Nat.le_refl _, Nat.le_refl _, Nat.le_refl _, Nat.le_refl _⟩, B⟩
end Go.Proofs.YtmdcankfjmkkeaaGreat
/- A block known whole: loads of the whole of it, stores of the whole of it or of one cell, the result in it: each with a world that is a letter. No program of its own. -/
namespace Go.Proofs.YtmdcankfjmkkeaaGreat
open Go Go.RowKit
set_option linter.unusedVariables false

theorem keeps_setRow (w : World) (g : Nat) (cells : Array Value) : Keeps (fun k => k ≠ g) w (w.setRow g cells) := ⟨rfl, rfl, rfl, by simp [World.setRow], fun k _ hk => setRow_other w g k cells hk⟩
theorem keeps_setCell (w : World) (g i : Nat) (v : Value) : Keeps (fun k => k ≠ g) w (w.setCell ⟨g, i, none⟩ v) := (Keeps.refl _ _).setCell (fun h => h rfl) _
/-- A struct is stored into a block. -/
theorem store_blk {P : Program} {ops : Array Oper} {rest : List Oper} {o : Oper} {a : Act} {w : World} {Q : Exit → Act → World → Prop} {g t : Nat} {old cells : Array Value} (hb : BlkIs w g t old) (hgd : o.guard = none) (ty : TypeId) (x y : Operand) (ho : o.op = .store ty x y)
    (hx : a.eval x = .pointer (some ⟨g, 0, none⟩)) (hy : a.eval y = .agg cells) (hi : (P.info? ty).map (·.size) = some cells.size) (hold : old.size = cells.size) (h1 : cells.all (·.oneCell') = true)
    (h : ∀ w', BlkIs w' g t cells → Keeps (fun k => k ≠ g) w w' → wpList P ops Q rest (a.put o.dst undef) w') : wpList P ops Q (o :: rest) a w :=
  wpList_store_row hgd ty x y ho g cells hx hy t old hb hi hold h1 (h _ (setRow_heap w g old cells t (0, 0) hb) (keeps_setRow w g cells))
/-- One cell of it is stored. -/
theorem run_cell {P : Program} {w : World} {ty : TypeId} {g t i : Nat} {cs : Array Value} {v : Value} (hb : BlkIs w g t cs) (hi : i < cs.size) (hs : (P.info? ty).map (·.size) = some 1) (hv : v.oneCell' = true) : (storeVar ty ⟨g, i, none⟩ v).run P w = .ok () (w.setCell ⟨g, i, none⟩ v) := by
  obtain ⟨ie, hie, hz⟩ := Option.map_eq_some_iff.1 hs
  exact Go.Lib.rl_storeVar_one ty ie hie hz ⟨g, i, none⟩ v cs[i] hv w ((hb.cell i).trans (Array.getElem?_eq_getElem hi)) (hb.fz i)
theorem store_cell {P : Program} {ops : Array Oper} {rest : List Oper} {o : Oper} {a : Act} {w : World} {Q : Exit → Act → World → Prop} {g t : Nat} {cs : Array Value} (hb : BlkIs w g t cs) (hgd : o.guard = none) (ty : TypeId) (x y : Operand) (ho : o.op = .store ty x y) (i : Nat) (v : Value)
    (hx : a.eval x = .pointer (some ⟨g, i, none⟩)) (hy : a.eval y = v) (hi : i < cs.size) (hs : (P.info? ty).map (·.size) = some 1) (hv : v.oneCell' = true)
    (h : ∀ w', BlkIs w' g t (cs.setIfInBounds i v) → Keeps (fun k => k ≠ g) w w' → wpList P ops Q rest (a.put o.dst undef) w') : wpList P ops Q (o :: rest) a w :=
  wpList_plain hgd fun _ hK => by
    unfold Oper.wp execOp
    simp only [ho, hx, hy, Instr.storeAt, Instr.sureAddr, Sem.run_bind, Sem.run_pure, Result.andThen_ok, run_cell hb hi hs hv]
    exact hK _ _ (h _ (hb.put i v) (keeps_setCell w g i v))
/-- The whole of it is read. -/
theorem load_blk {P : Program} {ops : Array Oper} {rest : List Oper} {o : Oper} {a : Act} {w : World} {Q : Exit → Act → World → Prop} {g t : Nat} {cs : Array Value} (hb : BlkIs w g t cs) (hgd : o.guard = none) (ty : TypeId) (x : Operand) (ho : o.op = .load ty x)
    (hx : a.eval x = .pointer (some ⟨g, 0, none⟩)) (fs : Array Field) (hu : P.underlying ty = some (.struct fs)) (hi : (P.info? ty).map (·.size) = some cs.size)
    (h : wpList P ops Q rest (a.put o.dst (.agg cs)) w) : wpList P ops Q (o :: rest) a w :=
  wpList_load_row hgd ty x ho g hx t cs (0, 0) (.struct fs) hb hu rfl hi h
/-- A part of it is read. -/
theorem load_part {P : Program} {ops : Array Oper} {rest : List Oper} {o : Oper} {a : Act} {w : World} {Q : Exit → Act → World → Prop} {g t : Nat} {cs : Array Value} (hb : BlkIs w g t cs) (hgd : o.guard = none) (ty : TypeId) (x : Operand) (ho : o.op = .load ty x) (i n : Nat)
    (hx : a.eval x = .pointer (some ⟨g, i, none⟩)) (fs : Array Field) (hu : P.underlying ty = some (.struct fs)) (hi : (P.info? ty).map (·.size) = some n) (part : List Value) (hp : (cs.toList.drop i).take n = part) (hn : part.length = n)
    (h : wpList P ops Q rest (a.put o.dst (.agg part.toArray)) w) : wpList P ops Q (o :: rest) a w := by
  subst hp
  refine Go.wpList_load_mid hgd ty x ho g i hx _ (.struct fs) ?_ hu rfl (by rw [hi, hn]) h
  intro j v hj
  rw [hb.cell]
  have : j < n := by
    have := (List.getElem?_eq_some_iff.1 hj).1
    simp at this; omega
  rw [List.getElem?_take_of_lt this, List.getElem?_drop] at hj
  simpa using hj
/-- The result lies in it. -/
theorem ret_blk {P : Program} {fn : Func} {R : Ending → World → Prop} {a : Act} {w : World} {g t : Nat} {cs : Array Value} (hb : BlkIs w g t cs) {p : Tmp} {ty : TypeId} (h : fn.results = #[.cell p ty]) (hp : a.tmps.getD p undef = .pointer (some ⟨g, 0, none⟩))
    (fs : Array Field) (hu : P.underlying ty = some (.struct fs)) (hi : (P.info? ty).map (·.size) = some cs.size) (hd : a.defers = []) (hR : R (.returned (.agg cs)) w) : bodyPost P fn R .ret a w :=
  bodyPost_ret (results_cell_row h a.tmps w g t cs (0, 0) (.struct fs) hp hb hu rfl hi) hd hR
theorem Keeps.belowNe {w w' : World} {c g : Nat} (h : Keeps (fun k => k ≠ g) w w') (hg : c ≤ g) (hc : c ≤ w.heap.size) : Below c w w' := h.toBelow hc (fun k hk => by omega)
/-- The same, as an operation that is run. -/
theorem exec_store_blk {P : Program} {op : Op} {ty' : TypeId} {pos : String} {after : Array Edge} {gd : Option (Nat × Bool)} {ev : Operand → Value} {w : World} {g t : Nat} {old cells : Array Value} (hb : BlkIs w g t old) (ty : TypeId) (x y : Operand) (ho : op = .store ty x y)
    (hx : ev x = .pointer (some ⟨g, 0, none⟩)) (hy : ev y = .agg cells) (hi : (P.info? ty).map (·.size) = some cells.size) (hold : old.size = cells.size) (h1 : cells.all (·.oneCell') = true) : (execOp ev ⟨none, op, ty', pos, after, gd⟩).run P w = .ok .skip (w.setRow g cells) := by
  subst ho
  unfold execOp
  simp only [hx, hy, Instr.storeAt, Instr.sureAddr, Sem.run_bind, Sem.run_pure, Result.andThen_ok, run_storeVar_row w g t ty old cells hb hi hold h1]
theorem exec_store_cell {P : Program} {op : Op} {ty' : TypeId} {pos : String} {after : Array Edge} {gd : Option (Nat × Bool)} {ev : Operand → Value} {w : World} {g t i : Nat} {cs : Array Value} {v : Value} (hb : BlkIs w g t cs) (ty : TypeId) (x y : Operand) (ho : op = .store ty x y)
    (hx : ev x = .pointer (some ⟨g, i, none⟩)) (hy : ev y = v) (hi : i < cs.size) (hs : (P.info? ty).map (·.size) = some 1) (hv : v.oneCell' = true) : (execOp ev ⟨none, op, ty', pos, after, gd⟩).run P w = .ok .skip (w.setCell ⟨g, i, none⟩ v) := by
  subst ho
  unfold execOp
  simp only [hx, hy, Instr.storeAt, Instr.sureAddr, Sem.run_bind, Sem.run_pure, Result.andThen_ok, run_cell hb hi hs hv]
end Go.Proofs.YtmdcankfjmkkeaaGreat
/- The contracts of two facts joined: by what is less, as a function that is handed on; FactJoin. -/
namespace Go.Proofs.YtmdcankfjmkkeaaGreat
open Go Go.RowKit
set_option linter.unusedVariables false

set_option maxHeartbeats 1000000 in
set_option maxRecDepth 100000 in
theorem joinBy_any (x y : FactV) (w : World) (h1 : oneNode x y) : Calls Tryz.prog 217 #[x.val, y.val, .func (.func 33) #[] #[]] w fun e w' => e = .returned (joinF x y).val ∧ Below w.heap.size w w' := by
  obtain ⟨W, hW, p1, p2, p3, B0⟩ := three_blks w x y
  obtain ⟨r, hr⟩ := tells_bool (lessF x y)
  have HE : Hid (joinF x y = if r = true then y else x) := by
    show _ = _
    cases r with
    | true => rw [if_pos rfl]; exact joinF_yes (hr.1 rfl).2
    | false => rw [if_neg (by decide)]; exact joinF_no (fun h => by have := hr.2 ⟨h1, h⟩; cases this)
  obtain ⟨x1, x2, x3⟩ := x
  obtain ⟨y1, y2, y3⟩ := y
  have HR : Hid (r = true ↔ lessF ⟨x1, x2, x3⟩ ⟨y1, y2, y3⟩) := hr
  have HW : Hid (_ = W) := hW
  clear hW hr h1
  unfold FactV.val
  go_enter Tryz.func217, Tryz.ntmps217
  go_wp2_with fail
  rw [HW.out]
  refine (factLess_is ⟨x1, x2, x3⟩ ⟨y1, y2, y3⟩ _ r HR.out).mono ?_
  rintro e z1 ⟨rfl, bz1⟩
  obtain ⟨_, c0, c1, c2⟩ := p1.keep bz1
  obtain ⟨_, d0, d1, d2⟩ := p2.keep bz1
  have q3 := p3.keep bz1
  have g0 : z1.cell? ⟨w.heap.size + 2, 0, none⟩ = some (.int .i64 0) := q3.cell 0
  have f0 := q3.fz 0
  have g1 : z1.cell? ⟨w.heap.size + 2, 1, none⟩ = some (.int .i64 0) := q3.cell 1
  have f1 := q3.fz 1
  have g2 : z1.cell? ⟨w.heap.size + 2, 2, none⟩ = some (.int .i64 0) := q3.cell 2
  have f2 := q3.fz 2
  have B1 := B0.trans (bz1.mono B0.size)
  clear p1 p2 p3 B0 bz1 HW HR
  dsimp only at c0 c1 c2 d0 d1 d2
  cases r with
  | true =>
    have HV : Hid (joinF ⟨x1, x2, x3⟩ ⟨y1, y2, y3⟩ = ⟨y1, y2, y3⟩) := HE.out
    clear HE
    go_wp2
    have Q := fact_put q3 y1 y2 y3
    have BB := ((B1.setCell (p := ⟨w.heap.size + 2, 0, none⟩) (by show _ ≤ w.heap.size + 2; omega) (.int .i64 y1)).setCell (p := ⟨w.heap.size + 2, 1, none⟩) (by show _ ≤ w.heap.size + 2; omega) (.int .i64 y2)).setCell (p := ⟨w.heap.size + 2, 2, none⟩) (by show _ ≤ w.heap.size + 2; omega) (.int .i64 y3)
    obtain ⟨z6, hz6⟩ : ∃ z6, (((z1.setCell ⟨w.heap.size + 2, 0, none⟩ (.int .i64 y1)).setCell ⟨w.heap.size + 2, 1, none⟩ (.int .i64 y2)).setCell ⟨w.heap.size + 2, 2, none⟩ (.int .i64 y3)) = z6 := ⟨_, rfl⟩
    rw [hz6] at Q BB ⊢
    have e0 : z6.cell? ⟨w.heap.size + 2, 0, none⟩ = some (.int .i64 y1) := Q.cell 0
    have e1 : z6.cell? ⟨w.heap.size + 2, 1, none⟩ = some (.int .i64 y2) := Q.cell 1
    have e2 : z6.cell? ⟨w.heap.size + 2, 2, none⟩ = some (.int .i64 y3) := Q.cell 2
    exact bodyPost_ret (v := .agg #[.int .i64 y1, .int .i64 y2, .int .i64 y3]) (by simp [results, Tryz.results217, go_sem, e0, e1, e2]) rfl ⟨by rw [HV.out], BB⟩
  | false =>
    have HV : Hid (joinF ⟨x1, x2, x3⟩ ⟨y1, y2, y3⟩ = ⟨x1, x2, x3⟩) := HE.out
    clear HE
    go_wp2
    have Q := fact_put q3 x1 x2 x3
    have BB := ((B1.setCell (p := ⟨w.heap.size + 2, 0, none⟩) (by show _ ≤ w.heap.size + 2; omega) (.int .i64 x1)).setCell (p := ⟨w.heap.size + 2, 1, none⟩) (by show _ ≤ w.heap.size + 2; omega) (.int .i64 x2)).setCell (p := ⟨w.heap.size + 2, 2, none⟩) (by show _ ≤ w.heap.size + 2; omega) (.int .i64 x3)
    obtain ⟨z6, hz6⟩ : ∃ z6, (((z1.setCell ⟨w.heap.size + 2, 0, none⟩ (.int .i64 x1)).setCell ⟨w.heap.size + 2, 1, none⟩ (.int .i64 x2)).setCell ⟨w.heap.size + 2, 2, none⟩ (.int .i64 x3)) = z6 := ⟨_, rfl⟩
    rw [hz6] at Q BB ⊢
    have e0 : z6.cell? ⟨w.heap.size + 2, 0, none⟩ = some (.int .i64 x1) := Q.cell 0
    have e1 : z6.cell? ⟨w.heap.size + 2, 1, none⟩ = some (.int .i64 x2) := Q.cell 1
    have e2 : z6.cell? ⟨w.heap.size + 2, 2, none⟩ = some (.int .i64 x3) := Q.cell 2
    exact bodyPost_ret (v := .agg #[.int .i64 x1, .int .i64 x2, .int .i64 x3]) (by simp [results, Tryz.results217, go_sem, e0, e1, e2]) rfl ⟨by rw [HV.out], BB⟩
/-- What FactJoin answers. -/
def JoinFIs (x y m : FactV) : Prop := (oneNode x y ∧ m = joinF x y) ∨ (¬ oneNode x y ∧ m = factZ)
theorem joinFIs_ex (x y : FactV) : ∃ m, JoinFIs x y m := by
  by_cases h : oneNode x y
  · exact ⟨_, .inl ⟨h, rfl⟩⟩
  · exact ⟨_, .inr ⟨h, rfl⟩⟩
set_option maxHeartbeats 1000000 in
set_option maxRecDepth 100000 in
theorem factJoin_any (x y m : FactV) (hm : JoinFIs x y m) (w : World) : Calls Tryz.prog 193 #[x.val, y.val] w fun e w' => e = .returned m.val ∧ Below w.heap.size w w' := by
  obtain ⟨W, hW, p1, p2, p3, B0⟩ := three_blks w x y
  obtain ⟨r, hr⟩ := tells_bool (oneNode x y)
  obtain ⟨x1, x2, x3⟩ := x
  obtain ⟨y1, y2, y3⟩ := y
  have HR : Hid (r = true ↔ oneNode ⟨x1, x2, x3⟩ ⟨y1, y2, y3⟩) := hr
  have HW : Hid (_ = W) := hW
  have HM : Hid (JoinFIs ⟨x1, x2, x3⟩ ⟨y1, y2, y3⟩ m) := hm
  clear hW hr hm
  unfold FactV.val
  go_enter Tryz.func193, Tryz.ntmps193
  go_wp2_with fail
  rw [HW.out]
  refine (ofOne_is ⟨x1, x2, x3⟩ ⟨y1, y2, y3⟩ _ r HR.out).mono ?_
  rintro e z1 ⟨rfl, bz1⟩
  have q1 := p1.keep bz1
  have q2 := p2.keep bz1
  obtain ⟨_, c0, c1, c2⟩ := p1.keep bz1
  obtain ⟨_, d0, d1, d2⟩ := p2.keep bz1
  have q3 := p3.keep bz1
  have g0 : z1.cell? ⟨w.heap.size + 2, 0, none⟩ = some (.int .i64 0) := q3.cell 0
  have f0 := q3.fz 0
  have g1 : z1.cell? ⟨w.heap.size + 2, 1, none⟩ = some (.int .i64 0) := q3.cell 1
  have f1 := q3.fz 1
  have g2 : z1.cell? ⟨w.heap.size + 2, 2, none⟩ = some (.int .i64 0) := q3.cell 2
  have f2 := q3.fz 2
  have B1 := B0.trans (bz1.mono B0.size)
  clear p1 p2 p3 B0 bz1 HW
  dsimp only at c0 c1 c2 d0 d1 d2
  cases r with
  | false =>
    have HV : Hid (m = factZ) := HM.out.elim (fun h => by have := HR.out.2 h.1; cases this) (fun h => h.2)
    clear HM HR
    go_wp2
    have Q := fact_put q3 0 0 0
    have BB := ((B1.setCell (p := ⟨w.heap.size + 2, 0, none⟩) (by show _ ≤ w.heap.size + 2; omega) (.int .i64 0)).setCell (p := ⟨w.heap.size + 2, 1, none⟩) (by show _ ≤ w.heap.size + 2; omega) (.int .i64 0)).setCell (p := ⟨w.heap.size + 2, 2, none⟩) (by show _ ≤ w.heap.size + 2; omega) (.int .i64 0)
    obtain ⟨z6, hz6⟩ : ∃ z6, (((z1.setCell ⟨w.heap.size + 2, 0, none⟩ (.int .i64 0)).setCell ⟨w.heap.size + 2, 1, none⟩ (.int .i64 0)).setCell ⟨w.heap.size + 2, 2, none⟩ (.int .i64 0)) = z6 := ⟨_, rfl⟩
    rw [hz6] at Q BB ⊢
    have e0 : z6.cell? ⟨w.heap.size + 2, 0, none⟩ = some (.int .i64 0) := Q.cell 0
    have e1 : z6.cell? ⟨w.heap.size + 2, 1, none⟩ = some (.int .i64 0) := Q.cell 1
    have e2 : z6.cell? ⟨w.heap.size + 2, 2, none⟩ = some (.int .i64 0) := Q.cell 2
    exact bodyPost_ret (v := .agg #[.int .i64 0, .int .i64 0, .int .i64 0]) (by simp [results, Tryz.results193, go_sem, e0, e1, e2]) rfl ⟨by rw [HV.out]; rfl, BB⟩
  | true =>
    have K : Hid (oneNode ⟨x1, x2, x3⟩ ⟨y1, y2, y3⟩) := HR.out.1 rfl
    have HV : Hid (m = joinF ⟨x1, x2, x3⟩ ⟨y1, y2, y3⟩) := HM.out.elim (fun h => h.2) (fun h => absurd (HR.out.1 rfl) h.1)
    clear HM HR
    go_wp2_with fail
    refine (joinBy_any ⟨x1, x2, x3⟩ ⟨y1, y2, y3⟩ _ K.out).mono ?_
    rintro e z2 ⟨rfl, bz2⟩
    rw [← HV.out]
    obtain ⟨m1, m2, m3⟩ := m
    unfold FactV.val
    have q4 := q3.keep bz2
    clear g0 g1 g2 f0 f1 f2
    have g0 : z2.cell? ⟨w.heap.size + 2, 0, none⟩ = some (.int .i64 0) := q4.cell 0
    have f0 := q4.fz 0
    have g1 : z2.cell? ⟨w.heap.size + 2, 1, none⟩ = some (.int .i64 0) := q4.cell 1
    have f1 := q4.fz 1
    have g2 : z2.cell? ⟨w.heap.size + 2, 2, none⟩ = some (.int .i64 0) := q4.cell 2
    have f2 := q4.fz 2
    have B2 := B1.trans (bz2.mono B1.size)
    clear q1 q2 q3 c0 c1 c2 d0 d1 d2 bz2 HV K B1
    dsimp only
    go_wp2
    have Q := fact_put q4 m1 m2 m3
    have BB := ((B2.setCell (p := ⟨w.heap.size + 2, 0, none⟩) (by show _ ≤ w.heap.size + 2; omega) (.int .i64 m1)).setCell (p := ⟨w.heap.size + 2, 1, none⟩) (by show _ ≤ w.heap.size + 2; omega) (.int .i64 m2)).setCell (p := ⟨w.heap.size + 2, 2, none⟩) (by show _ ≤ w.heap.size + 2; omega) (.int .i64 m3)
    obtain ⟨z6, hz6⟩ : ∃ z6, (((z2.setCell ⟨w.heap.size + 2, 0, none⟩ (.int .i64 m1)).setCell ⟨w.heap.size + 2, 1, none⟩ (.int .i64 m2)).setCell ⟨w.heap.size + 2, 2, none⟩ (.int .i64 m3)) = z6 := ⟨_, rfl⟩
    rw [hz6] at Q BB ⊢
    have e0 : z6.cell? ⟨w.heap.size + 2, 0, none⟩ = some (.int .i64 m1) := Q.cell 0
    have e1 : z6.cell? ⟨w.heap.size + 2, 1, none⟩ = some (.int .i64 m2) := Q.cell 1
    have e2 : z6.cell? ⟨w.heap.size + 2, 2, none⟩ = some (.int .i64 m3) := Q.cell 2
    exact bodyPost_ret (v := .agg #[.int .i64 m1, .int .i64 m2, .int .i64 m3]) (by simp [results, Tryz.results193, go_sem, e0, e1, e2]) rfl ⟨rfl, BB⟩
end Go.Proofs.YtmdcankfjmkkeaaGreat
