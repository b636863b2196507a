/- What promise 7 says of rumors, plain: who is told, and how often. No program. -/
import Derived.Test.YtenefjnahanfbaaRMap
import Derived.Test.YtenefjnahanfbaaVAt
namespace Go.Proofs.Ytenefjnahanfbaa
open Go Go.RowKit
set_option linter.unusedVariables false

theorem picks_least {n : Nat} {c : List RumV} : ∀ x ∈ picksR n c, ∀ y ∈ c, y.node ∉ (picksR n c).map RumV.node → x.sent ≤ y.sent := by
  induction n generalizing c with
  | zero => intro x hx; simp [picksR] at hx
  | succ n ih =>
    intro x hx y hy hn
    unfold picksR at hx hn
    cases hl : leastR c with
    | none => rw [hl] at hx; simp at hx
    | some z =>
      rw [hl] at hx hn
      simp only [List.map_cons, List.mem_cons, not_or] at hn
      rcases List.mem_cons.1 hx with rfl | h
      · exact (leastR_mem hl).2 y hy
      · exact ih x h y (butR_mem.2 ⟨hy, hn.1⟩) hn.2
theorem picks_some {n : Nat} {c : List RumV} (hc : c ≠ []) : ∃ x, x ∈ picksR (n + 1) c := by
  unfold picksR
  cases hl : leastR c with
  | none => exact absurd (leastR_none.1 hl) hc
  | some z => exact ⟨z, by simp⟩
/-- Whose fact stands among those that are picked. -/
theorem at_picked {l : List RumV} (hr : rightR l) (but : Int) {x : RumV} (hx : x ∈ l) :
    (x.node ∈ (pickedR l but).map RumV.node ∧ atF (factsR (pickedR l but)) x.node = x.fact) ∨ (x.node ∉ (pickedR l but).map RumV.node ∧ atF (factsR (pickedR l but)) x.node = factZ) := by
  have hP := picked_right hr but
  have hPf : ∀ d ∈ pickedR l but, d.fact.ok := fun d hd => (hP.1 d hd).1
  have hl := factsR_look hPf hP.2 x.node
  unfold atF
  by_cases h : x.node ∈ (pickedR l but).map RumV.node
  · left
    refine ⟨h, ?_⟩
    obtain ⟨y, hy, e⟩ := List.mem_map.1 h
    have hyl : y ∈ l := (butR_sub l but).subset (picksR_mem y hy)
    cases hq : (pickedR l but).find? (fun z => z.node == x.node) with
    | none => exact absurd (List.find?_eq_none.1 hq y hy) (by simp [e])
    | some z =>
      rw [hl, hq]
      have hz := List.mem_of_find?_eq_some hq
      have hzn : z.node = x.node := by simpa using List.find?_some hq
      have hzl : z ∈ l := (butR_sub l but).subset (picksR_mem z hz)
      have : z = x := by
        obtain ⟨i, hi, rfl⟩ := List.getElem_of_mem hzl
        obtain ⟨j, hj, rfl⟩ := List.getElem_of_mem hx
        rcases Nat.lt_trichotomy i j with c | c | c
        · exact absurd hzn (List.pairwise_iff_getElem.1 hr.2 i j hi hj c)
        · subst c; rfl
        · exact absurd hzn.symm (List.pairwise_iff_getElem.1 hr.2 j i hj hi c)
      rw [this]; rfl
  · right
    refine ⟨h, ?_⟩
    have hq : (pickedR l but).find? (fun z => z.node == x.node) = none := List.find?_eq_none.2 fun z hz => by
      have : z.node ≠ x.node := fun e => h (List.mem_map.2 ⟨z, hz, e⟩)
      simpa using this
    rw [hl, hq]; rfl
theorem at_other {l : List RumV} (hr : rightR l) (but n : Int) (hn : ∀ x ∈ l, x.node ≠ n) : atF (factsR (pickedR l but)) n = factZ := by
  have hP := picked_right hr but
  have hPf : ∀ d ∈ pickedR l but, d.fact.ok := fun d hd => (hP.1 d hd).1
  have hl := factsR_look hPf hP.2 n
  have hq : (pickedR l but).find? (fun z => z.node == n) = none := List.find?_eq_none.2 fun z hz => by
    have : z.node ≠ n := hn z ((butR_sub l but).subset (picksR_mem z hz))
    simpa using this
  unfold atF
  rw [hl, hq]; rfl
theorem fact_not_but {l : List RumV} (hr : rightR l) (but : Int) {f : FactV} (hf : f ∈ factsR (pickedR l but)) : f.node ≠ but := by
  have hP := picked_right hr but
  obtain ⟨y, hy, rfl⟩ := facts_rum (fun d hd => (hP.1 d hd).1) hP.2 hf
  exact (butR_mem.1 (picksR_mem y hy)).2
theorem told_least {l : List RumV} (hr : rightR l) {but : Int} {x y : RumV} (hx : x ∈ l) (hy : y ∈ l) (h1 : x.node ∈ (pickedR l but).map RumV.node) (h2 : y.node ∉ (pickedR l but).map RumV.node) (h3 : y.node ≠ but) : ¬ y.sent < x.sent := by
  obtain ⟨z, hz, e⟩ := List.mem_map.1 h1
  have hzl : z ∈ l := (butR_sub l but).subset (picksR_mem z hz)
  have : z = x := by
    obtain ⟨i, hi, rfl⟩ := List.getElem_of_mem hzl
    obtain ⟨j, hj, rfl⟩ := List.getElem_of_mem hx
    rcases Nat.lt_trichotomy i j with c | c | c
    · exact absurd e (List.pairwise_iff_getElem.1 hr.2 i j hi hj c)
    · subst c; rfl
    · exact absurd e.symm (List.pairwise_iff_getElem.1 hr.2 j i hj hi c)
  subst this
  have := picks_least z hz y (butR_mem.2 ⟨hy, h3⟩) h2
  omega
/-- How much is still to tell. -/
def workR : List RumV → Nat
  | [] => 0
  | x :: r => (4 - x.sent).toNat + workR r
theorem workR_len {l : List RumV} (h : ∀ d ∈ l, d.ok) : workR l ≤ 4 * l.length ∧ l.length ≤ workR l := by
  induction l with
  | nil => simp [workR]
  | cons x r ih =>
    have hx := (h x (by simp)).2
    have := ih (fun d hd => h d (by simp [hd]))
    simp only [workR, List.length_cons]
    omega
theorem workR_told {l P : List RumV} (h : ∀ d ∈ l, d.ok) : workR (toldR l P) ≤ workR l ∧ ((∃ x ∈ l, x.node ∈ P.map RumV.node) → workR (toldR l P) < workR l) := by
  induction l with
  | nil => simp [workR, toldR]
  | cons x r ih =>
    have hx := (h x (by simp)).2
    obtain ⟨i1, i2⟩ := ih (fun d hd => h d (by simp [hd]))
    by_cases hn : x.node ∈ P.map RumV.node
    · have hlt : workR (toldR (x :: r) P) < workR (x :: r) := by
        by_cases h3 : x.sent = 3
        · have : toldS P x = none := by unfold toldS; rw [if_pos hn, if_pos h3]
          have e : toldR (x :: r) P = toldR r P := by unfold toldR; rw [List.filterMap_cons, this]
          rw [e]
          simp only [workR]
          omega
        · have : toldS P x = some ⟨x.node, x.inc, x.st, x.sent + 1⟩ := by unfold toldS; rw [if_pos hn, if_neg h3]
          have e : toldR (x :: r) P = ⟨x.node, x.inc, x.st, x.sent + 1⟩ :: toldR r P := by unfold toldR; rw [List.filterMap_cons, this]
          rw [e]
          simp only [workR]
          omega
      exact ⟨Nat.le_of_lt hlt, fun _ => hlt⟩
    · have : toldS P x = some x := by unfold toldS; rw [if_neg hn]
      have e : toldR (x :: r) P = x :: toldR r P := by unfold toldR; rw [List.filterMap_cons, this]
      rw [e]
      simp only [workR]
      refine ⟨by omega, fun ⟨y, hy, hyn⟩ => ?_⟩
      rcases List.mem_cons.1 hy with rfl | hy
      · exact absurd hyn hn
      · have := i2 ⟨y, hy, hyn⟩
        omega
/-- One telling. -/
def tellR (r : List RumV) : List RumV := toldR r (pickedR r 0)
theorem tell_right {r : List RumV} (h : rightR r) : rightR (tellR r) := toldR_right h
theorem tell_work {r : List RumV} (h : rightR r) (hne : r ≠ []) : workR (tellR r) < workR r := by
  refine (workR_told h.1).2 ?_
  have e : butR r 0 = r := List.filter_eq_self.2 fun x hx => decide_eq_true (by have := (h.1 x hx).1.1.1; intro e; unfold RumV.fact at this; dsimp only at this; omega)
  obtain ⟨x, hx⟩ := picks_some (n := 2) (c := r) hne
  refine ⟨x, picksR_mem x hx, List.mem_map.2 ⟨x, ?_, rfl⟩⟩
  unfold pickedR
  rw [e]; exact hx
/-- A fact that was told so often. -/
def InR (r : List RumV) (f : FactV) (t : Int) : Prop := (∃ x ∈ r, x.fact = f ∧ x.sent = t ∧ t ≤ 3) ∨ (t = 4 ∧ ∀ x ∈ r, x.node ≠ f.node)
/-- So many tellings. -/
def TellTo (f : FactV) (n : Nat) (r : List RumV) (t : Int) : Prop := rightR r ∧ InR r f t ∧ (workR r + n ≤ 24 ∨ r = []) ∧ 0 ≤ t
theorem tell_0 {l : List RumV} {f : FactV} (h : rightR l) (hf : f.ok) : TellTo f 0 (putR l f) 0 := by
  have hr := putR_right h hf
  refine ⟨hr, .inl ⟨f.rum, by unfold putR; simp, rfl, rfl, by omega⟩, .inl ?_, by omega⟩
  have h1 := (workR_len hr.1).1
  have h2 := rightR_len hr
  omega
theorem tell_next {f : FactV} {n : Nat} {r : List RumV} {t : Int} (hf : f.ok) (h : TellTo f n r t) :
    (atF (factsR (pickedR r 0)) f.node = f ∧ TellTo f (n + 1) (tellR r) (t + 1)) ∨ (atF (factsR (pickedR r 0)) f.node ≠ f ∧ TellTo f (n + 1) (tellR r) t) := by
  obtain ⟨hr, hi, hw, ht⟩ := h
  have hw' : workR (tellR r) + (n + 1) ≤ 24 ∨ tellR r = [] := by
    by_cases e : r = []
    · right; rw [e]; rfl
    · have := tell_work hr e
      rcases hw with h | h
      · left; omega
      · exact absurd h e
  have hz : factZ ≠ f := fun e => by have := hf.1.1; rw [← e] at this; unfold factZ at this; dsimp only at this; omega
  rcases hi with ⟨x, hx, hxf, hxs, ht3⟩ | ⟨h4, hno⟩
  · have hxn : x.node = f.node := congrArg FactV.node hxf
    rcases at_picked hr 0 hx with ⟨hp, he⟩ | ⟨hp, he⟩
    · left
      rw [hxn, hxf] at he
      refine ⟨he, tell_right hr, ?_, hw', by omega⟩
      by_cases h3 : x.sent = 3
      · right
        refine ⟨by omega, fun y hy e => ?_⟩
        obtain ⟨z, hz1, hz2⟩ := List.mem_filterMap.1 hy
        have hzn : y.node = z.node := congrArg FactV.node (toldS_node hz2).1
        have : z = x := by
          obtain ⟨i, hi, rfl⟩ := List.getElem_of_mem hz1
          obtain ⟨j, hj, rfl⟩ := List.getElem_of_mem hx
          have e2 : r[i].node = r[j].node := by omega
          rcases Nat.lt_trichotomy i j with c | c | c
          · exact absurd e2 (List.pairwise_iff_getElem.1 hr.2 i j hi hj c)
          · subst c; rfl
          · exact absurd e2.symm (List.pairwise_iff_getElem.1 hr.2 j i hj hi c)
        subst this
        unfold toldS at hz2
        rw [if_pos hp, if_pos h3] at hz2
        cases hz2
      · left
        refine ⟨⟨x.node, x.inc, x.st, x.sent + 1⟩, List.mem_filterMap.2 ⟨x, hx, ?_⟩, hxf, by show x.sent + 1 = t + 1; omega, by omega⟩
        unfold toldS
        rw [if_pos hp, if_neg h3]
    · right
      rw [hxn] at he
      refine ⟨by rw [he]; exact hz, tell_right hr, .inl ⟨x, List.mem_filterMap.2 ⟨x, hx, ?_⟩, hxf, hxs, ht3⟩, hw', ht⟩
      unfold toldS
      rw [if_neg hp]
  · right
    refine ⟨by rw [at_other hr 0 f.node hno]; exact hz, tell_right hr, .inr ⟨h4, fun y hy e => ?_⟩, hw', ht⟩
    obtain ⟨z, hz1, hz2⟩ := List.mem_filterMap.1 hy
    have hzn : y.node = z.node := congrArg FactV.node (toldS_node hz2).1
    exact hno z hz1 (by omega)
theorem tell_end {f : FactV} {n : Nat} {r : List RumV} {t : Int} (h : TellTo f n r t) (hn : 24 < n) : t = 4 ∧ r.length = 0 := by
  obtain ⟨_, hi, hw, _⟩ := h
  have e : r = [] := by
    rcases hw with h | h
    · omega
    · exact h
  subst e
  rcases hi with ⟨x, hx, _⟩ | ⟨h, _⟩
  · simp at hx
  · exact ⟨h, rfl⟩
end Go.Proofs.Ytenefjnahanfbaa
