/- Facts and views, plain: what is less, what is joined, what is put. No program. -/
import Derived.Test.YtgmdgjkmdnpmiaaTimeR
namespace Go.Proofs.Ytgmdgjkmdnpmiaa
open Go Go.RowKit
set_option linter.unusedVariables false

/-- A fact. -/
structure FactV where
  node : Int
  inc : Int
  st : Int
def FactV.cells (f : FactV) : List Value := [.int .i64 f.node, .int .i64 f.inc, .int .i64 f.st]
theorem FactV.cells_len (f : FactV) : f.cells.length = 3 := rfl
def FactV.val (f : FactV) : Value := .agg #[.int .i64 f.node, .int .i64 f.inc, .int .i64 f.st]
def factZ : FactV := ⟨0, 0, 0⟩
def nodeR (n : Int) : Prop := 1 ≤ n ∧ n ≤ 6
def FactV.ok (f : FactV) : Prop := nodeR f.node ∧ timeR f.inc ∧ (1 ≤ f.st ∧ f.st ≤ 3)
def FactV.lt (a b : FactV) : Prop := a.inc < b.inc ∨ (a.inc = b.inc ∧ a.st < b.st)
/-- Two facts that stand in an order. -/
def oneNode (a b : FactV) : Prop := a.ok ∧ b.ok ∧ a.node = b.node
def joinF (a b : FactV) : FactV := if a.inc < b.inc ∨ (a.inc = b.inc ∧ a.st < b.st) then b else a
theorem joinF_yes {a b : FactV} (h : a.lt b) : joinF a b = b := if_pos h
theorem joinF_no {a b : FactV} (h : ¬ a.lt b) : joinF a b = a := if_neg h
theorem joinF_or (a b : FactV) : (a.lt b ∧ joinF a b = b) ∨ (¬ a.lt b ∧ joinF a b = a) := by
  by_cases h : a.lt b
  · exact .inl ⟨h, joinF_yes h⟩
  · exact .inr ⟨h, joinF_no h⟩
theorem FactV.ext' {a b : FactV} (h1 : a.node = b.node) (h2 : a.inc = b.inc) (h3 : a.st = b.st) : a = b := by
  cases a; cases b; simp_all
theorem joinF_node {a b : FactV} (h : a.node = b.node) : (joinF a b).node = a.node := by
  rcases joinF_or a b with ⟨_, e⟩ | ⟨_, e⟩ <;> rw [e]
  exact h.symm
theorem joinF_comm {a b : FactV} (h : a.node = b.node) : joinF a b = joinF b a := by
  rcases joinF_or a b with ⟨h1, e1⟩ | ⟨h1, e1⟩ <;> rcases joinF_or b a with ⟨h2, e2⟩ | ⟨h2, e2⟩ <;> rw [e1, e2]
  · unfold FactV.lt at h1 h2; omega
  · unfold FactV.lt at h1 h2; exact FactV.ext' h (by omega) (by omega)
theorem joinF_assoc (a b c : FactV) : joinF (joinF a b) c = joinF a (joinF b c) := by
  rcases joinF_or a b with ⟨h1, e1⟩ | ⟨h1, e1⟩ <;> rcases joinF_or b c with ⟨h2, e2⟩ | ⟨h2, e2⟩ <;> rw [e1, e2]
  · exact (joinF_yes (by unfold FactV.lt at *; omega)).symm
  · exact e1.symm
  · rw [e1, joinF_no]; unfold FactV.lt at *; omega
theorem joinF_idem (a : FactV) : joinF a a = a := joinF_no (by unfold FactV.lt; omega)
theorem joinF_again {a b : FactV} (h : a.node = b.node) : joinF (joinF a b) b = joinF a b := by rw [joinF_assoc, joinF_idem]
theorem joinF_ge (a b : FactV) : ¬ (joinF a b).lt a ∧ ¬ (joinF a b).lt b := by
  rcases joinF_or a b with ⟨h1, e1⟩ | ⟨h1, e1⟩ <;> rw [e1] <;> unfold FactV.lt at * <;> omega
theorem joinF_ok {a b : FactV} (ha : a.ok) (hb : b.ok) : (joinF a b).ok := by
  rcases joinF_or a b with ⟨_, e⟩ | ⟨_, e⟩ <;> rw [e]
  · exact hb
  · exact ha
theorem FactV.nlt_trans {x y z : FactV} (h : ¬ x.lt y) (k : ¬ y.lt z) : ¬ x.lt z := by unfold FactV.lt at *; omega
/-- What could stand at a place of a view. -/
def okF (l : List FactV) (i : Nat) : Prop := ∃ h : i < l.length, l[i].ok ∧ ∀ k : 0 < i, (l[i - 1]'(by omega)).node < l[i].node
/-- A right view. -/
def rightV (l : List FactV) : Prop := ∀ i, i < l.length → okF l i
def riseV (l : List FactV) : Prop := l.Pairwise fun a b => a.node < b.node
theorem rightV_ok {l : List FactV} (h : rightV l) : ∀ d ∈ l, d.ok := by
  intro d hd
  obtain ⟨i, hi, rfl⟩ := List.getElem_of_mem hd
  exact (h i hi).2.1
theorem rightV_rise {l : List FactV} (h : rightV l) : riseV l := by
  refine List.pairwise_iff_getElem.2 fun i j hi hj hij => ?_
  obtain ⟨k, rfl⟩ : ∃ k, j = i + 1 + k := ⟨j - i - 1, by omega⟩
  clear hij
  induction k with
  | zero => exact (h (i + 1) hj).2.2 (by omega)
  | succ k ih =>
    have h1 := ih (by omega)
    have h2 := (h (i + 1 + (k + 1)) hj).2.2 (by omega)
    exact Int.lt_trans h1 h2
theorem rise_at {l : List FactV} (h : riseV l) {i j : Nat} (hij : i < j) (hj : j < l.length) : (l[i]'(by omega)).node < l[j].node := List.pairwise_iff_getElem.1 h i j (by omega) hj hij
theorem rightV_of {l : List FactV} (h2 : ∀ d ∈ l, d.ok) (h3 : riseV l) : rightV l :=
  fun i hi => ⟨hi, h2 _ (List.getElem_mem hi), fun k => rise_at h3 (by omega) hi⟩
theorem rightV_nil : rightV [] := fun i h => absurd h (by simp)
/-- What rises from one on has no more than its greatest. -/
theorem rise_num {l : List FactV} (h : rightV l) (i : Nat) (hi : i < l.length) : (i : Int) + 1 ≤ l[i].node := by
  induction i with
  | zero => have := (h 0 hi).2.1.1.1; omega
  | succ i ih =>
    have h1 := ih (by omega)
    have h2 := (h (i + 1) hi).2.2 (by omega)
    simp only [Nat.add_sub_cancel] at h2
    omega
theorem rightV_len {l : List FactV} (h : rightV l) : l.length ≤ 6 := by
  by_cases h6 : 6 < l.length
  · have h1 := rise_num h 6 h6
    have h2 := (h 6 h6).2.1.1.2
    omega
  · omega
/-- Where a node comes. -/
def placeF (l : List FactV) (n : Int) (k : Nat) : Prop := k ≤ l.length ∧ (∀ j (h : j < l.length), j < k → l[j].node < n) ∧ ∀ j (h : j < l.length), k ≤ j → n ≤ l[j].node
theorem place_ex {l : List FactV} (hr : riseV l) (n : Int) : ∃ k, placeF l n k := by
  induction l with
  | nil => exact ⟨0, Nat.le_refl _, fun j h => absurd h (by simp), fun j h => absurd h (by simp)⟩
  | cons x r ih =>
    obtain ⟨hx, hr'⟩ := List.pairwise_cons.1 hr
    by_cases hn : x.node < n
    · obtain ⟨k, h1, h2, h3⟩ := ih hr'
      refine ⟨k + 1, by simp; omega, fun j hj hjk => ?_, fun j hj hjk => ?_⟩
      · cases j with
        | zero => exact hn
        | succ j => simpa using h2 j (by simpa using hj) (by omega)
      · cases j with
        | zero => omega
        | succ j => simpa using h3 j (by simpa using hj) (by omega)
    · refine ⟨0, Nat.zero_le _, fun j _ h => by omega, fun j hj _ => ?_⟩
      cases j with
      | zero => simp; omega
      | succ j =>
        have := hx (r[j]'(by simpa using hj)) (List.getElem_mem _)
        simp only [List.getElem_cons_succ]
        omega
theorem place_one {l : List FactV} {n : Int} {k k' : Nat} (h : placeF l n k) (h' : placeF l n k') : k = k' := by
  rcases Nat.lt_trichotomy k k' with c | c | c
  · have h1 := h'.2.1 k (by have := h'.1; omega) c
    have h2 := h.2.2 k (by have := h'.1; omega) (Nat.le_refl _)
    omega
  · exact c
  · have h1 := h.2.1 k' (by have := h.1; omega) c
    have h2 := h'.2.2 k' (by have := h.1; omega) (Nat.le_refl _)
    omega
/-- A fact of that node stands at k. -/
def thereF (l : List FactV) (n : Int) (k : Nat) : Prop := ∃ h : k < l.length, l[k].node = n
/-- A fact put at its place, behind those ahead of it. -/
def putL (l : List FactV) (f : FactV) (k : Nat) : List FactV :=
  match l.drop k with
  | [] => l.take k ++ [f]
  | x :: r => if x.node = f.node then l.take k ++ joinF x f :: r else l.take k ++ f :: x :: r
theorem putL_there {l : List FactV} {f : FactV} {k : Nat} (h : k < l.length) (e : l[k].node = f.node) : putL l f k = l.take k ++ joinF l[k] f :: l.drop (k + 1) := by
  unfold putL
  rw [List.drop_eq_getElem_cons h]
  simp only
  rw [if_pos e]
theorem putL_set {l : List FactV} {f : FactV} {k : Nat} (h : k < l.length) (e : l[k].node = f.node) : putL l f k = l.set k (joinF l[k] f) := by
  rw [putL_there h e, List.set_eq_take_append_cons_drop, if_pos h]
theorem putL_new {l : List FactV} {f : FactV} {k : Nat} (h : ¬ thereF l f.node k) : putL l f k = l.take k ++ f :: l.drop k := by
  unfold putL
  by_cases hk : k < l.length
  · rw [List.drop_eq_getElem_cons hk]
    simp only
    rw [if_neg (fun e => h ⟨hk, e⟩)]
  · rw [List.drop_eq_nil_of_le (by omega)]
/-- The fact of a node. -/
def look (l : List FactV) (n : Int) : Option FactV := l.find? fun x => x.node == n
theorem look_nil (n : Int) : look [] n = none := rfl
theorem look_cons (x : FactV) (r : List FactV) (n : Int) : look (x :: r) n = if x.node = n then some x else look r n := by
  unfold look
  by_cases h : x.node = n
  · rw [List.find?_cons_of_pos (by simpa using h), if_pos h]
  · rw [List.find?_cons_of_neg (by simpa using h), if_neg h]
theorem look_mem {l : List FactV} {n : Int} {x : FactV} (h : look l n = some x) : x ∈ l ∧ x.node = n := ⟨List.mem_of_find?_eq_some h, by simpa using List.find?_some h⟩
theorem look_none {l : List FactV} {n : Int} : look l n = none ↔ ∀ x ∈ l, x.node ≠ n := by
  unfold look
  rw [List.find?_eq_none]
  simp
theorem look_of {l : List FactV} (hr : riseV l) {x : FactV} (hx : x ∈ l) : look l x.node = some x := by
  induction l with
  | nil => simp at hx
  | cons y r ih =>
    obtain ⟨hy, hr'⟩ := List.pairwise_cons.1 hr
    rw [look_cons]
    rcases List.mem_cons.1 hx with rfl | h
    · rw [if_pos rfl]
    · have := hy x h
      rw [if_neg (by omega), ih hr' h]
theorem look_lt {l : List FactV} {n : Int} (h : ∀ x ∈ l, n < x.node) : look l n = none := look_none.2 fun x hx => by have := h x hx; omega
theorem look_inj {l m : List FactV} (hl : riseV l) (hm : riseV m) (h : ∀ n, look l n = look m n) : l = m := by
  induction l generalizing m with
  | nil =>
    cases m with
    | nil => rfl
    | cons y s =>
      have := h y.node
      rw [look_nil, look_cons, if_pos rfl] at this
      cases this
  | cons x r ih =>
    obtain ⟨hx, hr⟩ := List.pairwise_cons.1 hl
    cases m with
    | nil =>
      have := h x.node
      rw [look_nil, look_cons, if_pos rfl] at this
      cases this
    | cons y s =>
      obtain ⟨hy, hs⟩ := List.pairwise_cons.1 hm
      have e1 := h x.node
      have e2 := h y.node
      rw [look_cons, if_pos rfl, look_cons] at e1
      rw [look_cons, look_cons, if_pos rfl] at e2
      have hxy : x.node = y.node := by
        by_cases c : y.node = x.node
        · exact c.symm
        · rw [if_neg c] at e1
          rw [if_neg (fun q => c q.symm)] at e2
          have h1 := hy x (look_mem e1.symm).1
          have h2 := hx y (look_mem e2).1
          omega
      rw [if_pos hxy.symm] at e1
      have exy := Option.some.inj e1
      subst exy
      congr 1
      refine ih hr hs fun n => ?_
      by_cases c : x.node = n
      · subst c
        rw [look_lt hx, look_lt hy]
      · have := h n
        rwa [look_cons, if_neg c, look_cons, if_neg c] at this
theorem look_append {l m : List FactV} (n : Int) : look (l ++ m) n = (look l n).or (look m n) := by
  unfold look
  rw [List.find?_append]
theorem place_split {l : List FactV} {n : Int} {k : Nat} (h : placeF l n k) : (∀ x ∈ l.take k, x.node < n) ∧ ∀ x ∈ l.drop k, n ≤ x.node := by
  constructor
  · intro x hx
    obtain ⟨i, hi, rfl⟩ := List.getElem_of_mem hx
    rw [List.length_take] at hi
    rw [List.getElem_take]
    exact h.2.1 i (by omega) (by omega)
  · intro x hx
    obtain ⟨i, hi, rfl⟩ := List.getElem_of_mem hx
    rw [List.length_drop] at hi
    rw [List.getElem_drop]
    exact h.2.2 (k + i) (by omega) (by omega)
/-- Joined with what may not be there. -/
def joinO (o : Option FactV) (f : FactV) : FactV := match o with | none => f | some x => joinF x f
theorem put_parts {l : List FactV} {f : FactV} {k : Nat} (hr : riseV l) (h : placeF l f.node k) :
    ∃ a r, (∀ x ∈ a, x.node < f.node) ∧ (∀ x ∈ r, f.node < x.node) ∧ riseV a ∧ riseV r ∧ ((l = a ++ r ∧ ¬ thereF l f.node k ∧ putL l f k = a ++ f :: r) ∨ ∃ x, x.node = f.node ∧ l = a ++ x :: r ∧ thereF l f.node k ∧ putL l f k = a ++ joinF x f :: r) := by
  obtain ⟨h1, h2⟩ := place_split h
  have e := List.take_append_drop k l
  have hr' := hr
  rw [← e] at hr'
  obtain ⟨r1, r2, r3⟩ := List.pairwise_append.1 hr'
  by_cases ht : thereF l f.node k
  · obtain ⟨hk, hn⟩ := ht
    have hd := List.drop_eq_getElem_cons hk
    rw [hd] at r2
    obtain ⟨r4, r5⟩ := List.pairwise_cons.1 r2
    refine ⟨l.take k, l.drop (k + 1), h1, fun x hx => by have := r4 x hx; omega, r1, r5, .inr ⟨l[k], hn, ?_, ⟨hk, hn⟩, putL_there hk hn⟩⟩
    rw [← hd, e]
  · refine ⟨l.take k, l.drop k, h1, fun x hx => ?_, r1, r2, .inl ⟨e.symm, ht, putL_new ht⟩⟩
    have h3 := h2 x hx
    by_cases c : x.node = f.node
    · exfalso
      obtain ⟨i, hi, rfl⟩ := List.getElem_of_mem hx
      rw [List.length_drop] at hi
      rw [List.getElem_drop] at c
      have hkl : k < l.length := by omega
      have h4 := h.2.2 k hkl (Nat.le_refl _)
      by_cases i0 : i = 0
      · subst i0; exact ht ⟨hkl, c⟩
      · have := rise_at hr (show k < k + i by omega) (by omega)
        omega
    · omega
theorem riseV_mid {a r : List FactV} {x : FactV} {n : Int} (hx : x.node = n) (ha : ∀ y ∈ a, y.node < n) (hb : ∀ y ∈ r, n < y.node) (h1 : riseV a) (h2 : riseV r) : riseV (a ++ x :: r) := by
  subst hx
  refine List.pairwise_append.2 ⟨h1, List.pairwise_cons.2 ⟨hb, h2⟩, fun p hp q hq => ?_⟩
  rcases List.mem_cons.1 hq with rfl | hq
  · exact ha p hp
  · have := ha p hp; have := hb q hq; omega
theorem put_rise {l : List FactV} {f : FactV} {k : Nat} (hr : riseV l) (h : placeF l f.node k) : riseV (putL l f k) := by
  obtain ⟨a, r, ha, hb, h1, h2, ⟨_, _, e⟩ | ⟨x, hx, _, _, e⟩⟩ := put_parts hr h
  · rw [e]; exact riseV_mid rfl ha hb h1 h2
  · rw [e]; exact riseV_mid ((joinF_node hx).trans hx) ha hb h1 h2
theorem look_mid {a r : List FactV} {x : FactV} {n : Int} (hx : x.node = n) (ha : ∀ y ∈ a, y.node < n) (hb : ∀ y ∈ r, n < y.node) (m : Int) : look (a ++ x :: r) m = if m = n then some x else (look a m).or (look r m) := by
  rw [look_append, look_cons, hx]
  by_cases c : m = n
  · rw [if_pos c, if_pos c.symm, look_none.2 (fun y hy => by have := ha y hy; omega)]; rfl
  · rw [if_neg c, if_neg (fun q => c q.symm)]
theorem put_look {l : List FactV} {f : FactV} {k : Nat} (hr : riseV l) (h : placeF l f.node k) (n : Int) : look (putL l f k) n = if n = f.node then some (joinO (look l n) f) else look l n := by
  obtain ⟨a, r, ha, hb, h1, h2, ⟨el, _, e⟩ | ⟨x, hx, el, _, e⟩⟩ := put_parts hr h
  · rw [e, look_mid rfl ha hb, el, look_append]
    by_cases c : n = f.node
    · subst c
      rw [if_pos rfl, if_pos rfl, look_none.2 (fun y hy => by have := ha y hy; omega), look_lt hb]; rfl
    · rw [if_neg c, if_neg c]
  · rw [e, look_mid ((joinF_node hx).trans hx) ha hb, el, look_mid hx ha hb]
    by_cases c : n = f.node
    · subst c
      rw [if_pos rfl, if_pos rfl, if_pos rfl]; rfl
    · rw [if_neg c, if_neg c, if_neg c]
theorem put_ok {l : List FactV} {f : FactV} {k : Nat} (hl : ∀ d ∈ l, d.ok) (hf : f.ok) : ∀ d ∈ putL l f k, d.ok := by
  unfold putL
  have e := List.take_append_drop k l
  intro d hd
  cases hq : l.drop k with
  | nil =>
    rw [hq] at hd
    simp only at hd
    rcases List.mem_append.1 hd with h | h
    · exact hl d (List.mem_of_mem_take h)
    · rw [List.mem_singleton.1 h]; exact hf
  | cons x r =>
    rw [hq] at hd
    simp only at hd
    have hx : ∀ y ∈ x :: r, y.ok := fun y hy => hl y (List.mem_of_mem_drop (hq ▸ hy))
    split at hd
    · rcases List.mem_append.1 hd with h | h
      · exact hl d (List.mem_of_mem_take h)
      · rcases List.mem_cons.1 h with rfl | h
        · exact joinF_ok (hx x (by simp)) hf
        · exact hx d (by simp [h])
    · rcases List.mem_append.1 hd with h | h
      · exact hl d (List.mem_of_mem_take h)
      · rcases List.mem_cons.1 h with rfl | h
        · exact hf
        · exact hx d h
theorem put_right {l : List FactV} {f : FactV} {k : Nat} (hl : rightV l) (hf : f.ok) (h : placeF l f.node k) : rightV (putL l f k) := rightV_of (put_ok (rightV_ok hl) hf) (put_rise (rightV_rise hl) h)
/-- Is there another than there was? -/
def newsV (was is : List FactV) : Prop := ∃ f ∈ is, f ∉ was
/-- What the specification asks of one that is put. -/
def newsAt (l : List FactV) (f : FactV) (k : Nat) : Prop := ∀ h : k < l.length, l[k].node = f.node → joinF l[k] f ≠ l[k]
theorem news_put {l : List FactV} {f : FactV} {k : Nat} (hr : riseV l) (h : placeF l f.node k) : newsV l (putL l f k) ↔ newsAt l f k := by
  by_cases ht : thereF l f.node k
  · obtain ⟨hk, hn⟩ := ht
    have hN : newsAt l f k ↔ joinF l[k] f ≠ l[k] := ⟨fun q => q hk hn, fun q _ _ => q⟩
    rw [hN, putL_set hk hn]
    constructor
    · rintro ⟨x, hx, hxl⟩ e
      rw [e, List.set_getElem_self] at hx
      exact hxl hx
    · intro q
      refine ⟨joinF l[k] f, List.mem_set hk _, fun hm => q ?_⟩
      have e1 := look_of hr hm
      have e2 := look_of hr (List.getElem_mem hk)
      rw [joinF_node hn, e2] at e1
      exact (Option.some.inj e1).symm
  · have hN : newsAt l f k := fun hk hn => absurd ⟨hk, hn⟩ ht
    refine ⟨fun _ => hN, fun _ => ?_⟩
    obtain ⟨a, r, ha, hb, h1, h2, ⟨el, _, e⟩ | ⟨x, hx, _, t, _⟩⟩ := put_parts hr h
    · refine ⟨f, by rw [e]; simp, fun hm => ?_⟩
      have := look_of hr hm
      rw [el, look_append, look_none.2 (fun y hy => by have := ha y hy; omega), look_lt hb] at this
      cases this
    · exact absurd t ht
theorem put_same {l : List FactV} {f : FactV} {k : Nat} (hr : riseV l) (h : placeF l f.node k) (hn : ¬ newsAt l f k) : putL l f k = l := by
  by_cases ht : thereF l f.node k
  · obtain ⟨hk, he⟩ := ht
    have : joinF l[k] f = l[k] := by
      by_cases c : joinF l[k] f = l[k]
      · exact c
      · exact absurd (fun _ _ => c) hn
    rw [putL_set hk he, this, List.set_getElem_self]
  · exact absurd (fun hk he => absurd ⟨hk, he⟩ ht) hn
/-- A right view's facts that are no less, node by node. -/
def leV (l m : List FactV) : Prop := ∀ n x, look l n = some x → ∃ y, look m n = some y ∧ ¬ y.lt x
theorem leV_refl (l : List FactV) : leV l l := fun n x h => ⟨x, h, by unfold FactV.lt; omega⟩
theorem leV_trans {l m r : List FactV} (h : leV l m) (k : leV m r) : leV l r := fun n x hx => by
  obtain ⟨y, hy, h1⟩ := h n x hx
  obtain ⟨z, hz, h2⟩ := k n y hy
  exact ⟨z, hz, FactV.nlt_trans h2 h1⟩
theorem leV_put {l : List FactV} {f : FactV} {k : Nat} (hr : riseV l) (h : placeF l f.node k) : leV l (putL l f k) := fun n x hx => by
  rw [put_look hr h]
  by_cases c : n = f.node
  · rw [if_pos c, hx]
    exact ⟨joinF x f, rfl, (joinF_ge x f).1⟩
  · rw [if_neg c]
    exact ⟨x, hx, by unfold FactV.lt; omega⟩
theorem news_mono {l m r : List FactV} (hl : riseV l) (hm : riseV m) (hr : riseV r) (h1 : leV l m) (h2 : leV m r) (hn : newsV l m) : newsV l r := by
  obtain ⟨f, hf, hfl⟩ := hn
  obtain ⟨z, hz, hzf⟩ := h2 f.node f (look_of hm hf)
  refine ⟨z, (look_mem hz).1, fun hzl => ?_⟩
  have e := look_of hl hzl
  rw [(look_mem hz).2] at e
  obtain ⟨y, hy, hyz⟩ := h1 _ _ e
  rw [look_of hm hf] at hy
  obtain rfl := Option.some.inj hy
  have : z = f := FactV.ext' (look_mem hz).2 (by unfold FactV.lt at hzf hyz; omega) (by unfold FactV.lt at hzf hyz; omega)
  exact hfl (this ▸ hzl)
theorem news_step {l m r : List FactV} (hl : riseV l) (hm : riseV m) (hr : riseV r) (h1 : leV l m) (h2 : leV m r) (hn : newsV m r) : newsV l r := by
  obtain ⟨f, hf, hfm⟩ := hn
  refine ⟨f, hf, fun hfl => ?_⟩
  obtain ⟨y, hy, hyf⟩ := h1 _ _ (look_of hl hfl)
  obtain ⟨z, hz, hzy⟩ := h2 _ _ hy
  rw [look_of hr hf] at hz
  obtain rfl := Option.some.inj hz
  have : y = f := FactV.ext' (look_mem hy).2 (by unfold FactV.lt at hzy hyf; omega) (by unfold FactV.lt at hzy hyf; omega)
  exact hfm (this ▸ (look_mem hy).1)
theorem not_news_self (l : List FactV) : ¬ newsV l l := fun ⟨f, h, k⟩ => k h
/-- What is put one behind the other: the view, whether there was news. -/
def JoinIs : List FactV → List FactV → List FactV → Prop → Prop
  | l, [], m, p => m = l ∧ ¬ p
  | l, f :: r, m, p => ∃ k q, placeF l f.node k ∧ JoinIs (putL l f k) r m q ∧ (p ↔ newsAt l f k ∨ q)
theorem join_ex {l : List FactV} (hl : riseV l) (r : List FactV) : ∃ m p, JoinIs l r m p := by
  induction r generalizing l with
  | nil => exact ⟨l, False, rfl, fun h => h⟩
  | cons f r ih =>
    obtain ⟨k, hk⟩ := place_ex hl f.node
    obtain ⟨m, q, h⟩ := ih (put_rise hl hk)
    exact ⟨m, newsAt l f k ∨ q, k, q, hk, h, Iff.rfl⟩
theorem join_facts {l r m : List FactV} {p : Prop} (hl : riseV l) (h : JoinIs l r m p) : riseV m ∧ leV l m ∧ (p ↔ newsV l m) := by
  induction r generalizing l p with
  | nil =>
    obtain ⟨rfl, hp⟩ := h
    exact ⟨hl, leV_refl _, ⟨fun q => absurd q hp, fun q => absurd q (not_news_self _)⟩⟩
  | cons f r ih =>
    obtain ⟨k, q, hk, hj, hp⟩ := h
    have hr := put_rise hl hk
    obtain ⟨h1, h2, h3⟩ := ih hr hj
    have h0 := leV_put hl hk
    refine ⟨h1, leV_trans h0 h2, ?_⟩
    rw [hp, h3]
    constructor
    · rintro (c | c)
      · exact news_mono hl hr h1 h0 h2 ((news_put hl hk).2 c)
      · exact news_step hl hr h1 h0 h2 c
    · intro c
      by_cases e : newsAt l f k
      · exact .inl e
      · rw [put_same hl hk e] at h3 ⊢
        exact .inr c
theorem join_ok {l r m : List FactV} {p : Prop} (hl : ∀ d ∈ l, d.ok) (hr : ∀ d ∈ r, d.ok) (h : JoinIs l r m p) : ∀ d ∈ m, d.ok := by
  induction r generalizing l p with
  | nil => obtain ⟨rfl, _⟩ := h; exact hl
  | cons f r ih =>
    obtain ⟨k, q, hk, hj, _⟩ := h
    exact ih (put_ok hl (hr f (by simp))) (fun d hd => hr d (by simp [hd])) hj
theorem join_right {l r m : List FactV} {p : Prop} (hl : rightV l) (hr : rightV r) (h : JoinIs l r m p) : rightV m := rightV_of (join_ok (rightV_ok hl) (rightV_ok hr) h) (join_facts (rightV_rise hl) h).1
/-- Two that may not be there, joined. -/
def joinOO (o q : Option FactV) : Option FactV := match q with | none => o | some f => some (joinO o f)
theorem join_look {l r m : List FactV} {p : Prop} (hl : riseV l) (hr : riseV r) (h : JoinIs l r m p) (n : Int) : look m n = joinOO (look l n) (look r n) := by
  induction r generalizing l p with
  | nil => obtain ⟨rfl, _⟩ := h; rfl
  | cons f r ih =>
    obtain ⟨hf, hr'⟩ := List.pairwise_cons.1 hr
    obtain ⟨k, q, hk, hj, _⟩ := h
    rw [ih (put_rise hl hk) hr' hj, put_look hl hk, look_cons]
    by_cases c : n = f.node
    · subst c
      rw [if_pos rfl, if_pos rfl, look_lt hf]; rfl
    · rw [if_neg c, if_neg (fun q => c q.symm)]
theorem join_len {l r m : List FactV} {p : Prop} (hl : rightV l) (hr : rightV r) (h : JoinIs l r m p) : m.length ≤ 6 := rightV_len (join_right hl hr h)
end Go.Proofs.Ytgmdgjkmdnpmiaa
