/- The contract of the specification's l08Ill; what a node's calls answer. -/
import Derived.Test.YtmdcankfjmkkeaaNOut
import Derived.Test.YtmdcankfjmkkeaaNSpecA
namespace Go.Proofs.Ytmdcankfjmkkeaa
open Go Go.RowKit
set_option linter.unusedVariables false
set_option linter.unusedSimpArgs false

/-- A mail in memory is such a one. -/
def MailA.v (m : MailA) : MailV := ⟨m.k, m.f, m.t, m.n, m.a, m.r, m.l⟩
/-- What a call answers: a node and its mails, of one's own. -/
def NPost (c : Nat) (x : NOutV) (w : World) (e : Ending) (w' : World) : Prop := ∃ a v ms, e = .returned (outVal a x.node v x.missed x.code) ∧ OwnOut w' c a x.node v ms ∧ ms.map MailA.v = x.mails ∧ NodeRoom a x.node ∧ Below c w w'
theorem ownNil (w : World) (c : Nat) : OwnMails w c (.slice none 0 0) [] := ⟨⟨none, 0, rfl, .inl rfl, .inl rfl⟩, fun i h => absurd h (by simp), fun i h => absurd h (by simp), fun i j h => absurd h (by simp)⟩
theorem offNil (g : Nat) : offM (.slice none 0 0) [] g := ⟨.inl rfl, fun i h => absurd h (by simp)⟩
theorem blk_put17 {W : World} {b t : Nat} {u0 u1 u2 u3 u4 u5 u6 u7 u8 u9 u10 u11 u12 u13 u14 u15 u16 : Value} (h : BlkIs W b t #[u0, u1, u2, u3, u4, u5, u6, u7, u8, u9, u10, u11, u12, u13, u14, u15, u16]) (v0 v1 v2 v3 v4 v5 v6 v7 v8 v9 v10 v11 v12 v13 v14 v15 v16 : Value) : BlkIs (((((((((((((((((W.setCell ⟨b, 0, none⟩ (v0)).setCell ⟨b, 1, none⟩ (v1)).setCell ⟨b, 2, none⟩ (v2)).setCell ⟨b, 3, none⟩ (v3)).setCell ⟨b, 4, none⟩ (v4)).setCell ⟨b, 5, none⟩ (v5)).setCell ⟨b, 6, none⟩ (v6)).setCell ⟨b, 7, none⟩ (v7)).setCell ⟨b, 8, none⟩ (v8)).setCell ⟨b, 9, none⟩ (v9)).setCell ⟨b, 10, none⟩ (v10)).setCell ⟨b, 11, none⟩ (v11)).setCell ⟨b, 12, none⟩ (v12)).setCell ⟨b, 13, none⟩ (v13)).setCell ⟨b, 14, none⟩ (v14)).setCell ⟨b, 15, none⟩ (v15)).setCell ⟨b, 16, none⟩ (v16)) b t #[v0, v1, v2, v3, v4, v5, v6, v7, v8, v9, v10, v11, v12, v13, v14, v15, v16] := by
  have := (((((((((((((((((h.put 0 v0).put 1 v1).put 2 v2).put 3 v3).put 4 v4).put 5 v5).put 6 v6).put 7 v7).put 8 v8).put 9 v9).put 10 v10).put 11 v11).put 12 v12).put 13 v13).put 14 v14).put 15 v15).put 16 v16)
  simpa only [List.setIfInBounds_toArray, List.set_cons_zero, List.set_cons_succ] using this
theorem below_put17 {c : Nat} {w W : World} {b : Nat} (h : Below c w W) (hb : c ≤ b) (v0 v1 v2 v3 v4 v5 v6 v7 v8 v9 v10 v11 v12 v13 v14 v15 v16 : Value) : Below c w (((((((((((((((((W.setCell ⟨b, 0, none⟩ (v0)).setCell ⟨b, 1, none⟩ (v1)).setCell ⟨b, 2, none⟩ (v2)).setCell ⟨b, 3, none⟩ (v3)).setCell ⟨b, 4, none⟩ (v4)).setCell ⟨b, 5, none⟩ (v5)).setCell ⟨b, 6, none⟩ (v6)).setCell ⟨b, 7, none⟩ (v7)).setCell ⟨b, 8, none⟩ (v8)).setCell ⟨b, 9, none⟩ (v9)).setCell ⟨b, 10, none⟩ (v10)).setCell ⟨b, 11, none⟩ (v11)).setCell ⟨b, 12, none⟩ (v12)).setCell ⟨b, 13, none⟩ (v13)).setCell ⟨b, 14, none⟩ (v14)).setCell ⟨b, 15, none⟩ (v15)).setCell ⟨b, 16, none⟩ (v16)) := (((((((((((((((((h.setCell (p := ⟨b, 0, none⟩) hb _).setCell (p := ⟨b, 1, none⟩) hb _).setCell (p := ⟨b, 2, none⟩) hb _).setCell (p := ⟨b, 3, none⟩) hb _).setCell (p := ⟨b, 4, none⟩) hb _).setCell (p := ⟨b, 5, none⟩) hb _).setCell (p := ⟨b, 6, none⟩) hb _).setCell (p := ⟨b, 7, none⟩) hb _).setCell (p := ⟨b, 8, none⟩) hb _).setCell (p := ⟨b, 9, none⟩) hb _).setCell (p := ⟨b, 10, none⟩) hb _).setCell (p := ⟨b, 11, none⟩) hb _).setCell (p := ⟨b, 12, none⟩) hb _).setCell (p := ⟨b, 13, none⟩) hb _).setCell (p := ⟨b, 14, none⟩) hb _).setCell (p := ⟨b, 15, none⟩) hb _).setCell (p := ⟨b, 16, none⟩) hb _)
theorem keeps_put17 (W : World) (b : Nat) (v0 v1 v2 v3 v4 v5 v6 v7 v8 v9 v10 v11 v12 v13 v14 v15 v16 : Value) : Keeps (fun k => k ≠ b) W (((((((((((((((((W.setCell ⟨b, 0, none⟩ (v0)).setCell ⟨b, 1, none⟩ (v1)).setCell ⟨b, 2, none⟩ (v2)).setCell ⟨b, 3, none⟩ (v3)).setCell ⟨b, 4, none⟩ (v4)).setCell ⟨b, 5, none⟩ (v5)).setCell ⟨b, 6, none⟩ (v6)).setCell ⟨b, 7, none⟩ (v7)).setCell ⟨b, 8, none⟩ (v8)).setCell ⟨b, 9, none⟩ (v9)).setCell ⟨b, 10, none⟩ (v10)).setCell ⟨b, 11, none⟩ (v11)).setCell ⟨b, 12, none⟩ (v12)).setCell ⟨b, 13, none⟩ (v13)).setCell ⟨b, 14, none⟩ (v14)).setCell ⟨b, 15, none⟩ (v15)).setCell ⟨b, 16, none⟩ (v16)) := ((((((((((((((((((Keeps.refl _ _).setCell (fun h => h rfl) _).setCell (fun h => h rfl) _).setCell (fun h => h rfl) _).setCell (fun h => h rfl) _).setCell (fun h => h rfl) _).setCell (fun h => h rfl) _).setCell (fun h => h rfl) _).setCell (fun h => h rfl) _).setCell (fun h => h rfl) _).setCell (fun h => h rfl) _).setCell (fun h => h rfl) _).setCell (fun h => h rfl) _).setCell (fun h => h rfl) _).setCell (fun h => h rfl) _).setCell (fun h => h rfl) _).setCell (fun h => h rfl) _).setCell (fun h => h rfl) _)
def noneM : NodeM := ⟨none, 0, none, 0, none, 0, none, 0⟩
theorem ownZ (w : World) (c : Nat) : OwnNode w c noneM .z where
  v := ⟨none, 0, rfl, .inl rfl, .inl rfl⟩
  r := ⟨none, 0, rfl, .inl rfl, .inl rfl⟩
  t := .inl rfl
  d := ⟨none, 0, rfl, .inl rfl, .inl rfl⟩
  vr := fun g _ _ => .inl rfl
  vd := fun g _ _ => .inl rfl
  rd := fun g _ _ => .inl rfl
  tv := fun g off h => by cases h
  tr := fun g off h => by cases h
  td := fun g off h => by cases h
  tb := fun g off h => by cases h
theorem ill_post (code : Int) (c : Nat) (w w' : World) (hb : Below c w w') : NPost c (illN code) w (.returned (.agg #[.int .i64 0, .int .i64 0, .int .i64 0, .int .i64 0, .int .i64 0, .slice none 0 0, .slice none 0 0, .slice none 0 0, .int .i64 0, .int .i64 0, .int .i64 0, .int .i64 0, .bool false, .slice none 0 0, .slice none 0 0, .int .i64 0, .int .i64 code])) w' :=
  ⟨noneM, .slice none 0 0, [], rfl, ⟨ownZ _ _, ownNil _ _, fun g => .inr (offNil g)⟩, rfl, ⟨Nat.le_refl _, Nat.le_refl _, Nat.le_refl _, Nat.le_refl _⟩, hb⟩
set_option maxHeartbeats 2000000 in
set_option maxRecDepth 100000 in
theorem specIll_any (code : Int) (w : World) : Calls Try.prog 47 #[.int .i64 code] w fun e w' => e = .returned (.agg #[.int .i64 0, .int .i64 0, .int .i64 0, .int .i64 0, .int .i64 0, .slice none 0 0, .slice none 0 0, .slice none 0 0, .int .i64 0, .int .i64 0, .int .i64 0, .int .i64 0, .bool false, .slice none 0 0, .slice none 0 0, .int .i64 0, .int .i64 code]) ∧ Below w.heap.size w w' := by
  have B := (Below.refl w.heap.size w).alloc (Nat.le_refl _) (.cells #[.int .i64 0, .int .i64 0, .int .i64 0, .int .i64 0, .int .i64 0, .slice none 0 0, .slice none 0 0, .slice none 0 0, .int .i64 0, .int .i64 0, .int .i64 0, .int .i64 0, .bool false, .slice none 0 0, .slice none 0 0, .int .i64 0, .int .i64 code] 46)
  have O := BlkIs.new w 46 #[.int .i64 0, .int .i64 0, .int .i64 0, .int .i64 0, .int .i64 0, .slice none 0 0, .slice none 0 0, .slice none 0 0, .int .i64 0, .int .i64 0, .int .i64 0, .int .i64 0, .bool false, .slice none 0 0, .slice none 0 0, .int .i64 0, .int .i64 code]
  go_enter Try.func47, Try.ntmps47
  go_wp2
  obtain ⟨Z, hZ⟩ : ∃ Z, w.alloc (.cells #[.int .i64 0, .int .i64 0, .int .i64 0, .int .i64 0, .int .i64 0, .slice none 0 0, .slice none 0 0, .slice none 0 0, .int .i64 0, .int .i64 0, .int .i64 0, .int .i64 0, .bool false, .slice none 0 0, .slice none 0 0, .int .i64 0, .int .i64 code] 46) = Z := ⟨_, rfl⟩
  rw [hZ] at O B ⊢
  clear hZ
  have h0 : Z.cell? ⟨w.heap.size, 0, none⟩ = some (.int .i64 0) := O.cell 0
  have h1 : Z.cell? ⟨w.heap.size, 1, none⟩ = some (.int .i64 0) := O.cell 1
  have h2 : Z.cell? ⟨w.heap.size, 2, none⟩ = some (.int .i64 0) := O.cell 2
  have h3 : Z.cell? ⟨w.heap.size, 3, none⟩ = some (.int .i64 0) := O.cell 3
  have h4 : Z.cell? ⟨w.heap.size, 4, none⟩ = some (.int .i64 0) := O.cell 4
  have h5 : Z.cell? ⟨w.heap.size, 5, none⟩ = some (.slice none 0 0) := O.cell 5
  have h6 : Z.cell? ⟨w.heap.size, 6, none⟩ = some (.slice none 0 0) := O.cell 6
  have h7 : Z.cell? ⟨w.heap.size, 7, none⟩ = some (.slice none 0 0) := O.cell 7
  have h8 : Z.cell? ⟨w.heap.size, 8, none⟩ = some (.int .i64 0) := O.cell 8
  have h9 : Z.cell? ⟨w.heap.size, 9, none⟩ = some (.int .i64 0) := O.cell 9
  have h10 : Z.cell? ⟨w.heap.size, 10, none⟩ = some (.int .i64 0) := O.cell 10
  have h11 : Z.cell? ⟨w.heap.size, 11, none⟩ = some (.int .i64 0) := O.cell 11
  have h12 : Z.cell? ⟨w.heap.size, 12, none⟩ = some (.bool false) := O.cell 12
  have h13 : Z.cell? ⟨w.heap.size, 13, none⟩ = some (.slice none 0 0) := O.cell 13
  have h14 : Z.cell? ⟨w.heap.size, 14, none⟩ = some (.slice none 0 0) := O.cell 14
  have h15 : Z.cell? ⟨w.heap.size, 15, none⟩ = some (.int .i64 0) := O.cell 15
  have h16 : Z.cell? ⟨w.heap.size, 16, none⟩ = some (.int .i64 code) := O.cell 16
  refine bodyPost_ret (v := .agg #[.int .i64 0, .int .i64 0, .int .i64 0, .int .i64 0, .int .i64 0, .slice none 0 0, .slice none 0 0, .slice none 0 0, .int .i64 0, .int .i64 0, .int .i64 0, .int .i64 0, .bool false, .slice none 0 0, .slice none 0 0, .int .i64 0, .int .i64 code]) (by simp [results, Try.results47, go_sem, h0, h1, h2, h3, h4, h5, h6, h7, h8, h9, h10, h11, h12, h13, h14, h15, h16]) rfl ?_
  exact ⟨rfl, B⟩
/-- What NodeNew answers. -/
def NewIs (id inc seed now : Int) (x : NOutV) : Prop := ((nodeR id ∧ timeR inc ∧ seedR seed ∧ timeR now) ∧ x = ⟨newN id inc seed now, [], 0, 0⟩) ∨ (¬ (nodeR id ∧ timeR inc ∧ seedR seed ∧ timeR now) ∧ x = illN 1)
theorem newIs_ex (id inc seed now : Int) : ∃ x, NewIs id inc seed now x := by
  by_cases h : nodeR id ∧ timeR inc ∧ seedR seed ∧ timeR now
  · exact ⟨_, .inl ⟨h, rfl⟩⟩
  · exact ⟨_, .inr ⟨h, rfl⟩⟩
theorem new_post (id inc seed now : Int) (c ka kb : Nat) (w w' : World) (ha : c ≤ ka) (hb : c ≤ kb) (pa : BlkIs w' ka 62 #[.int .i64 id, .int .i64 inc, .int .i64 1]) (pb : BlkIs w' kb 77 #[.int .i64 id, .int .i64 inc, .int .i64 1, .int .i64 0]) (hne : ka ≠ kb) (B : Below c w w') : NPost c ⟨newN id inc seed now, [], 0, 0⟩ w (.returned (.agg #[.int .i64 id, .int .i64 inc, .int .i64 0, .int .i64 seed, .int .i64 now, .slice (some ⟨ka, 0, none⟩) 1 1, .slice (some ⟨kb, 0, none⟩) 1 1, .slice none 0 0, .int .i64 0, .int .i64 0, .int .i64 0, .int .i64 0, .bool false, .slice none 0 0, .slice none 0 0, .int .i64 0, .int .i64 0])) w' := by
  have e1 : OwnSl w' c (.slice (some ⟨ka, 0, none⟩) 1 1) [⟨id, inc, 1⟩] := ⟨_, 1, rfl, .inr ⟨ka, 0, rfl, ha, pa.lt, fun i hi => (by
    simp only [Nat.zero_add]
    exact (pa.cell i).trans (by
      match i with
      | 0 => rfl
      | 1 => rfl
      | 2 => rfl
      | n + 3 => (simp [cellsOf, FactV.cells] at hi; omega))), fun i hi => by simpa using pa.fz i⟩, .inr ⟨ka, rfl⟩⟩
  have e2 : OwnSlR w' c (.slice (some ⟨kb, 0, none⟩) 1 1) [⟨id, inc, 1, 0⟩] := ⟨_, 1, rfl, .inr ⟨kb, 0, rfl, hb, pb.lt, fun i hi => (by
    simp only [Nat.zero_add]
    exact (pb.cell i).trans (by
      match i with
      | 0 => rfl
      | 1 => rfl
      | 2 => rfl
      | 3 => rfl
      | n + 4 => (simp [cellsOf, RumV.cells] at hi; omega))), fun i hi => by simpa using pb.fz i⟩, .inr ⟨kb, rfl⟩⟩
  have hap : Ap (.slice (some ⟨ka, 0, none⟩) 1 1) 1 (.slice (some ⟨kb, 0, none⟩) 1 1) 1 := fun g h1 h2 => by
    simp [Value.ownBlock] at h1 h2
    omega
  have on : OwnNode w' c ⟨some ⟨ka, 0, none⟩, 1, some ⟨kb, 0, none⟩, 1, none, 0, none, 0⟩ (newN id inc seed now) := ⟨e1, e2, .inl rfl, ⟨none, 0, rfl, .inl rfl, .inl rfl⟩, hap, fun g _ _ => .inr rfl, fun g _ _ => .inr rfl, fun g off h => (by cases h), fun g off h => (by cases h), fun g off h => (by cases h), fun g off h => (by cases h)⟩
  exact ⟨_, .slice none 0 0, [], rfl, ⟨on, ownNil _ _, fun g => .inr (offNil g)⟩, rfl, ⟨Nat.le_refl _, Nat.le_refl _, Nat.le_refl _, Nat.le_refl _⟩, B⟩
end Go.Proofs.Ytmdcankfjmkkeaa
