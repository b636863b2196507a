/- A map of nodes to numbers, that a call makes: what stands at each node. -/
import Derived.Test.YtenefjnahanfbaaRApp
import Derived.Maps.OwnSet
namespace Go.Proofs.Ytenefjnahanfbaa
open Go Go.RowKit Go.Maps
set_option linter.unusedVariables false

theorem nodeKeyed : Keyed Try.prog 2 := int_keyed Try.underlying2
theorem zeroNI (w : World) : (zeroValue 2).run Try.prog w = .ok (.int .i64 0) w := by kernel_rfl
theorem wfN {a : Int} (h0 : -1000000000 ≤ a) (h1 : a ≤ 1000000000) : (Lit.int .i64 a).wf = true := WalkArith.wf_i64 (by omega)
theorem node_key {k : Int} (h : nodeR k) : keyOf Try.prog 2 (.int .i64 k) = some (.int .i64 k) := keyOf_int_mk Try.underlying2 (wfN (by have := h.1; omega) (by have := h.2; omega))
/-- What stands at each node. -/
def SentIs (w : World) (b n : Nat) (S : Int → Option Int) : Prop := ∃ D : DataW Unit, w.ownsMap Try.prog 2 (plainElem Try.prog 2) b n D ∧ IsMap D ∧
  ∀ k, nodeR k → Maps.has D (.int .i64 k) = (S k).isSome ∧ D.atKey (.int .i64 k) (.lit (.int .i64 0)) = .lit (.int .i64 ((S k).getD 0))
def updS (S : Int → Option Int) (k : Int) (o : Option Int) : Int → Option Int := fun j => if j = k then o else S j
theorem sentIs_made (w : World) : SentIs (w.alloc (.map #[] 0)) w.heap.size 0 (fun _ => none) :=
  ⟨.map [], World.ownsMap_made _ _ _ _, ⟨_, rfl⟩, fun k _ => ⟨rfl, rfl⟩⟩
theorem SentIs.lt {w : World} {b n : Nat} {S : Int → Option Int} (h : SentIs w b n S) : b < w.heap.size := by obtain ⟨D, h, _⟩ := h; exact h.lt
theorem SentIs.same {w : World} {b n : Nat} {S S' : Int → Option Int} (h : SentIs w b n S) (e : ∀ k, nodeR k → S k = S' k) : SentIs w b n S' := by
  obtain ⟨D, h1, h2, h3⟩ := h
  exact ⟨D, h1, h2, fun k hk => by rw [← e k hk]; exact h3 k hk⟩
theorem SentIs.block {w w' : World} {b n : Nat} {S : Int → Option Int} (h : SentIs w b n S) (hb : w'.heap[b]? = w.heap[b]?) : SentIs w' b n S := by
  obtain ⟨D, ⟨es, clock, h0, r⟩, r2⟩ := h
  exact ⟨D, ⟨es, clock, hb.trans h0, r⟩, r2⟩
theorem SentIs.keep {w w' : World} {b n : Nat} {S : Int → Option Int} (h : SentIs w b n S) (k : Below w.heap.size w w') : SentIs w' b n S := h.block (k.block b h.lt)
theorem SentIs.keepK {w w' : World} {b n : Nat} {S : Int → Option Int} (h : SentIs w b n S) {G : Nat → Prop} (k : Keeps G w w') (hg : G b) : SentIs w' b n S := h.block (k.block b h.lt hg)
theorem SentIs.not_row {w : World} {b n : Nat} {S : Int → Option Int} (h : SentIs w b n S) {base e size k : Nat} {v : Value} {xs : List Value} (hr : w.ownsRow base e size v k xs) : v.ownBlock ≠ some b := by
  obtain ⟨D, ⟨es, clock, h0, _⟩, _⟩ := h
  rcases hr.2 with ⟨rfl, _⟩ | ⟨g, cap, cur, rfl, _, hgb, _⟩
  · simp [Value.ownBlock]
  · intro e'
    obtain rfl : g = b := by simpa [Value.ownBlock] using e'
    rw [hgb] at h0
    cases h0
theorem SentIs.look {w : World} {b n : Nat} {S : Int → Option Int} (h : SentIs w b n S) {k : Int} (hk : nodeR k) : (Instr.lookup 91 (.map (some b)) (.int .i64 k) false).run Try.prog w = .ok (.int .i64 ((S k).getD 0)) w := by
  obtain ⟨D, hD, hm, hc⟩ := h
  obtain ⟨c, hrun, hat, _⟩ := hD.lookup_int nodeKeyed Try.underlying91 Try.underlying2 (zeroNI w) (node_key hk)
  rw [(hc k hk).2] at hat
  have : (S k).getD 0 = c := by simpa using hat
  rw [this]; exact hrun
theorem SentIs.lookOk {w : World} {b n : Nat} {S : Int → Option Int} (h : SentIs w b n S) {k : Int} (hk : nodeR k) : (Instr.lookup 91 (.map (some b)) (.int .i64 k) true).run Try.prog w = .ok (.tuple #[.int .i64 ((S k).getD 0), .bool (S k).isSome]) w := by
  obtain ⟨D, hD, hm, hc⟩ := h
  obtain ⟨v, ps, hrun, hv⟩ := hD.look_ok nodeKeyed Try.underlying91 (zeroNI w) (plainElem_int Try.underlying2 (wfN (a := 0) (by omega) (by omega))) (node_key hk)
  obtain ⟨c, rfl, e, _⟩ := plainElem_int_inv Try.underlying2 hv
  simp only [Prod.mk.injEq] at e
  rw [(hc k hk).2] at e
  have : (S k).getD 0 = c := by simpa using e.1
  rw [(hc k hk).1] at hrun
  rw [this]; exact hrun
theorem nodeKey_ne {j k : Int} (h : j ≠ k) : Lit.int .i64 j ≠ Lit.int .i64 k := fun e => h (by simpa using e)
theorem SentIs.put {w : World} {b n : Nat} {S : Int → Option Int} (h : SentIs w b n S) {k s : Int} (hk : nodeR k) (hn : n < 1000000) (h0 : -1000 ≤ s) (h1 : s ≤ 1000) :
    ∃ w', (Instr.mapUpdate 91 (.map (some b)) (.int .i64 k) (.int .i64 s)).run Try.prog w = .ok () w' ∧ SentIs w' b (n + 1) (updS S k (some s)) ∧ w.grownBy w' (some b) := by
  obtain ⟨D, hD, hm, hc⟩ := h
  obtain ⟨w', hrun, hown, hg⟩ := hD.update nodeKeyed Try.underlying91 (by unfold maxLen; omega) (node_key hk) (plainElem_int Try.underlying2 (wfN (a := s) (by omega) (by omega)))
  refine ⟨w', hrun, ⟨_, hown, hown.isMap, fun j hj => ?_⟩, hg⟩
  have hkl := nodeKeyed.key (node_key hk)
  unfold updS
  by_cases e : j = k
  · subst e
    rw [if_pos rfl]
    exact ⟨has_put_same hm hkl _, atKey_put_same hm hkl _ _⟩
  · rw [if_neg e, has_put_other (nodeKey_ne e), atKey_put_other (nodeKey_ne e)]
    exact hc j hj
theorem SentIs.del {w : World} {b n : Nat} {S : Int → Option Int} (h : SentIs w b n S) {k : Int} (hk : nodeR k) (ty : TypeId) :
    ∃ w', (Builtin.delete_ #[91, 2] ty #[.map (some b), .int .i64 k]).run Try.prog w = .ok (.tuple #[]) w' ∧ SentIs w' b n (updS S k none) ∧ w.grownBy w' (some b) := by
  obtain ⟨D, hD, hm, hc⟩ := h
  obtain ⟨w', hrun, hown, hg⟩ := hD.drop nodeKeyed Try.underlying91 (node_key hk) ty
  refine ⟨w', hrun, ⟨_, hown, hown.isMap, fun j hj => ?_⟩, hg.grown⟩
  unfold updS
  by_cases e : j = k
  · subst e
    rw [if_pos rfl]
    exact ⟨has_del_same, atKey_del_same _⟩
  · rw [if_neg e, has_del_other (nodeKey_ne e), atKey_del_other (nodeKey_ne e)]
    exact hc j hj
/-- Every number that stands in rumors. -/
def sentOf (l : List RumV) (n : Int) : Option Int := (l.find? fun x => x.node == n).map RumV.sent
theorem sentOf_snoc {l : List RumV} {x : RumV} (h : ∀ y ∈ l, y.node ≠ x.node) (n : Int) : updS (sentOf l) x.node (some x.sent) n = sentOf (l ++ [x]) n := by
  unfold updS sentOf
  rw [List.find?_append]
  by_cases e : n = x.node
  · subst e
    have h1 : l.find? (fun y => y.node == x.node) = none := List.find?_eq_none.2 fun y hy => by simpa using h y hy
    rw [if_pos rfl, h1]
    simp
  · rw [if_neg e]
    have h1 : [x].find? (fun y => y.node == n) = none := by rw [List.find?_cons_of_neg (by simp; omega)]; rfl
    rw [h1, Option.or_none]
theorem sentOf_mem {l : List RumV} (hd : l.Pairwise fun a b => a.node ≠ b.node) {x : RumV} (hx : x ∈ l) : sentOf l x.node = some x.sent := by
  induction l with
  | nil => simp at hx
  | cons y r ih =>
    obtain ⟨hy, hr⟩ := List.pairwise_cons.1 hd
    unfold sentOf at ih ⊢
    rcases List.mem_cons.1 hx with rfl | h
    · rw [List.find?_cons_of_pos (by simp)]; rfl
    · rw [List.find?_cons_of_neg (by simpa using hy x h)]
      exact ih hr h
/-- .. and behind telling some once more. -/
def moreOf (l : List RumV) (fs : List FactV) (n : Int) : Option Int :=
  match sentOf l n with
  | none => none
  | some s => if n ∈ fs.map FactV.node then (if s = 3 then none else some (s + 1)) else some s
theorem moreOf_nil (l : List RumV) (n : Int) : moreOf l [] n = sentOf l n := by
  unfold moreOf
  cases sentOf l n <;> simp
theorem moreOf_snoc {l : List RumV} {fs : List FactV} {f : FactV} {s : Int} (hs : sentOf l f.node = some s) (n : Int) : updS (moreOf l fs) f.node (if s = 3 then none else some (s + 1)) n = moreOf l (fs ++ [f]) n := by
  unfold updS moreOf
  by_cases e : n = f.node
  · subst e
    rw [if_pos rfl, hs]
    simp
  · rw [if_neg e]
    cases sentOf l n with
    | none => rfl
    | some q =>
      have : (n ∈ (fs ++ [f]).map FactV.node) ↔ n ∈ fs.map FactV.node := by simp [e]
      simp only [this]
theorem moreOf_not {l : List RumV} {fs : List FactV} {n : Int} (h : n ∉ fs.map FactV.node) : moreOf l fs n = sentOf l n := by
  unfold moreOf
  cases sentOf l n with
  | none => rfl
  | some q => simp only; rw [if_neg h]
theorem facts_nodes {P : List RumV} (h : ∀ d ∈ P, d.fact.ok) (hp : P.Pairwise fun a b => a.node ≠ b.node) (n : Int) : n ∈ (factsR P).map FactV.node ↔ n ∈ P.map RumV.node := by
  have hl := factsR_look h hp n
  constructor
  · intro hn
    obtain ⟨f, hf, rfl⟩ := List.mem_map.1 hn
    rw [look_of (rightV_rise (factsR_right h)) hf] at hl
    cases hq : P.find? (fun x => x.node == f.node) with
    | none => rw [hq] at hl; cases hl
    | some y => exact List.mem_map.2 ⟨y, List.mem_of_find?_eq_some hq, by simpa using List.find?_some hq⟩
  · intro hn
    obtain ⟨y, hy, rfl⟩ := List.mem_map.1 hn
    cases hq : P.find? (fun x => x.node == y.node) with
    | none => exact absurd (List.find?_eq_none.1 hq y hy) (by simp)
    | some z =>
      rw [hq] at hl
      obtain ⟨h1, h2⟩ := look_mem hl
      exact List.mem_map.2 ⟨_, h1, h2⟩
theorem told_more {l P : List RumV} (h : ∀ d ∈ P, d.fact.ok) (hp : P.Pairwise fun a b => a.node ≠ b.node) (hd : l.Pairwise fun a b => a.node ≠ b.node) {x : RumV} (hx : x ∈ l) :
    toldS P x = (moreOf l (factsR P) x.node).map fun s => ⟨x.node, x.inc, x.st, s⟩ := by
  unfold moreOf toldS
  rw [sentOf_mem hd hx]
  simp only [facts_nodes h hp]
  by_cases e : x.node ∈ P.map RumV.node
  · rw [if_pos e, if_pos e]
    by_cases e3 : x.sent = 3
    · rw [if_pos e3, if_pos e3]; rfl
    · rw [if_neg e3, if_neg e3]; rfl
  · rw [if_neg e, if_neg e]; rfl
theorem facts_rum {P : List RumV} (h : ∀ d ∈ P, d.fact.ok) (hp : P.Pairwise fun a b => a.node ≠ b.node) {f : FactV} (hf : f ∈ factsR P) : ∃ y ∈ P, y.fact = f := by
  have hl := factsR_look h hp f.node
  rw [look_of (rightV_rise (factsR_right h)) hf] at hl
  cases hq : P.find? (fun x => x.node == f.node) with
  | none => rw [hq] at hl; cases hl
  | some y =>
    rw [hq] at hl
    exact ⟨y, List.mem_of_find?_eq_some hq, (Option.some.inj hl).symm⟩
end Go.Proofs.Ytenefjnahanfbaa
