/- A region that draws its order, walked once: each operation hands on what is said of its slot, whatever came up ahead of it. No program. -/
import Derived.Test.YtmdcankfjmkkeaaGreatChecked
import Derived.WalkKit
import Derived.Orders
import Derived.Below
namespace Go.Proofs.YtmdcankfjmkkeaaGreat
open Go
set_option linter.unusedVariables false

/-- The frame but for the slots that the region writes. -/
def FrameIs (a0 : Act) (n : Nat) (D : Nat → Nat) (a : Act) : Prop := a.defers = a0.defers ∧ a.tmps.size = a0.tmps.size ∧ ∀ s, (∀ i, i < n → D i ≠ s) → a.tmps.getD s undef = a0.tmps.getD s undef
/-- Each operation writes its own slot, is not guarded, and waits for earlier ones alone. -/
def relOk (md : Region.Mode) (ops : Array Oper) (D : Nat → Nat) (m : Nat) : Bool :=
  (List.range ops.size).all fun i => decide (D i < m) && ((ops[i]?).map fun o => (match o.dst with | some d => d == D i | none => false) && o.guard.isNone && o.after.all fun e => !Region.binds md e || decide (e.on < i)).getD false
theorem relOk_at {md : Region.Mode} {ops : Array Oper} {D : Nat → Nat} {m i : Nat} {o : Oper} (h : relOk md ops D m = true) (ho : ops[i]? = some o) : D i < m ∧ o.dst = some (D i) ∧ o.guard = none ∧ ∀ e ∈ o.after, Region.binds md e = true → e.on < i := by
  have hlt : i < ops.size := (Array.getElem?_eq_some_iff.1 ho).1
  have h1 := List.all_eq_true.1 h i (List.mem_range.2 hlt)
  rw [ho] at h1
  simp only [Option.map_some, Option.getD_some, Bool.and_eq_true, decide_eq_true_eq, Option.isNone_iff_eq_none, Array.all_eq_true_iff_forall_mem, Bool.or_eq_true, Bool.not_eq_true'] at h1
  obtain ⟨hd, ⟨h2, h3⟩, h4⟩ := h1
  refine ⟨hd, ?_, h3, fun e he hb => ?_⟩
  · cases hx : o.dst with
    | none => rw [hx] at h2; cases h2
    | some d => rw [hx] at h2; simp at h2; rw [h2]
  · rcases h4 e he with k | k
    · rw [hb] at k; cases k
    · exact k
theorem ready_listed {md : Region.Mode} {ops : Array Oper} {D : Nat → Nat} {m : Nat} {listed : Array Bool} (h : relOk md ops D m = true) (hz : listed.size = ops.size) (hr : Region.ready md ops listed = []) : ∀ i, i < ops.size → listed.getD i false = true := by
  intro i
  induction i using Nat.strongRecOn with
  | ind i ih =>
    intro hi
    cases hx : listed.getD i false with
    | true => rfl
    | false =>
      have ho : ops[i]? = some ops[i] := Array.getElem?_eq_getElem hi
      have hm : i ∈ Region.ready md ops listed := by
        rw [mem_ready]
        refine ⟨?_, _, ho, fun e he hb => ih e.on ((relOk_at h ho).2.2.2 e he hb) (by have := (relOk_at h ho).2.2.2 e he hb; omega)⟩
        have hl : i < listed.size := by omega
        simp [Array.getElem?_eq_getElem hl] at hx ⊢
        exact hx
      rw [hr] at hm
      cases hm
theorem wpAny_rel {P : Program} {md : Region.Mode} {ops : Array Oper} {Q : Exit → Act → World → Prop} (D : Nat → Nat) (φ : Nat → Value → World → Prop) (J : World → Prop) (a0 : Act)
    (hok : relOk md ops D a0.tmps.size = true) (hinj : ∀ i, i < ops.size → ∀ j, j < ops.size → D i = D j → i = j)
    (hstep : ∀ i o, ops[i]? = some o → ∀ a w, FrameIs a0 ops.size D a → J w → (∀ e ∈ o.after, Region.binds md e = true → φ e.on (a.tmps.getD (D e.on) undef) w) →
      Oper.wp P o a w (fun a' w' => ∃ v, a' = a.put (some (D i)) v ∧ φ i v w' ∧ J w' ∧ ∀ k u, φ k u w → φ k u w') Q)
    (hend : ∀ a w, FrameIs a0 ops.size D a → J w → (∀ i, i < ops.size → φ i (a.tmps.getD (D i) undef) w) → Q .normal a w) :
    ∀ (fuel : Nat) (listed : Array Bool) (a : Act) (w : World) (s : List Nat), listed.size = ops.size → s.length ≤ fuel → (∀ i, i < ops.size → listed.getD i false = false → i ∈ s) → FrameIs a0 ops.size D a → J w →
      (∀ i, listed.getD i false = true → φ i (a.tmps.getD (D i) undef) w) → wpAny P md ops Q fuel listed a w := by
  intro fuel
  induction fuel with
  | zero =>
    intro listed a w s hz hs hun hF hJ hφ
    have hall : ∀ i, i < ops.size → listed.getD i false = true := fun i hi => by
      cases h : listed.getD i false with
      | true => rfl
      | false =>
        have := hun i hi h
        rw [List.eq_nil_of_length_eq_zero (by omega : s.length = 0)] at this
        cases this
    refine ⟨?_, hend a w hF hJ (fun i hi => hφ i (hall i hi))⟩
    cases hr : Region.ready md ops listed with
    | nil => rfl
    | cons x xs =>
      have hm : x ∈ Region.ready md ops listed := by rw [hr]; exact List.mem_cons_self
      obtain ⟨h0, o, ho, _⟩ := mem_ready.1 hm
      have hlt : x < ops.size := (Array.getElem?_eq_some_iff.1 ho).1
      have h1 := hall x hlt
      have hl : x < listed.size := by omega
      simp [Array.getElem?_eq_getElem hl] at h0 h1
      rw [h0] at h1
      cases h1
  | succ fuel ih =>
    intro listed a w s hz hs hun hF hJ hφ
    refine ⟨fun hr => hend a w hF hJ (fun i hi => hφ i (ready_listed hok hz hr i hi)), fun i hi => ?_⟩
    obtain ⟨h0, o, ho, hpre⟩ := mem_ready.1 hi
    have hlt : i < ops.size := (Array.getElem?_eq_some_iff.1 ho).1
    have hl : i < listed.size := by omega
    obtain ⟨hD, hdst, hgd, _⟩ := relOk_at hok ho
    have hst := hstep i o ho a w hF hJ (fun e he hb => hφ e.on (hpre e he hb))
    have hi0 : listed.getD i false = false := by
      simp [Array.getElem?_eq_getElem hl] at h0 ⊢
      exact h0
    have his : i ∈ s := hun i hlt hi0
    have hw : Region.wanted o (yielded ops a.tmps) = true := by simp [Region.wanted, hgd]
    unfold wpOp
    simp only [ho]
    rw [if_pos hw]
    refine .inl (Oper.wp_mono ?_ hst)
    rintro a' w' ⟨v, rfl, hv, hJ', hk⟩
    have hsz : D i < a.tmps.size := by rw [hF.2.1]; exact hD
    refine ih (listed.setIfInBounds i true) _ w' (s.erase i) (by simp [hz]) ?_ ?_ ?_ hJ' ?_
    · rw [List.length_erase_of_mem his]; omega
    · intro j hj hu
      have hne : j ≠ i := by
        rintro rfl
        simp [hl] at hu
      rw [getD_set_ne false (Ne.symm hne)] at hu
      exact (List.mem_erase_of_ne hne).2 (hun j hj hu)
    · refine ⟨hF.1, by simp [Act.put, hF.2.1], fun q hq => ?_⟩
      have := hF.2.2 q hq
      rw [← this]
      simp [Act.put, Array.getElem?_setIfInBounds_ne (hq i hlt)]
    · intro j hj
      by_cases hne : j = i
      · subst hne
        simp [Act.put, hsz]
        exact hv
      · rw [getD_set_ne false (Ne.symm hne)] at hj
        have hjl : j < ops.size := by
          rcases Nat.lt_or_ge j listed.size with k | k
          · omega
          · simp [Array.getElem?_eq_none k] at hj
        have hd : D i ≠ D j := fun e => hne (hinj j hjl i hlt e.symm)
        have e : (a.put (some (D i)) v).tmps.getD (D j) undef = a.tmps.getD (D j) undef := by
          simp [Act.put, Array.getElem?_setIfInBounds_ne hd]
        rw [e]
        exact hk j _ (hφ j hj)
/-- Each operation writes its own slot, and waits for earlier ones alone. -/
def relOkG (md : Region.Mode) (ops : Array Oper) (D : Nat → Nat) (m : Nat) : Bool :=
  (List.range ops.size).all fun i => decide (D i < m) && ((ops[i]?).map fun o => (match o.dst with | some d => d == D i | none => false) && o.after.all fun e => !Region.binds md e || decide (e.on < i)).getD false
theorem relOkG_at {md : Region.Mode} {ops : Array Oper} {D : Nat → Nat} {m i : Nat} {o : Oper} (h : relOkG md ops D m = true) (ho : ops[i]? = some o) : D i < m ∧ o.dst = some (D i) ∧ ∀ e ∈ o.after, Region.binds md e = true → e.on < i := by
  have hlt : i < ops.size := (Array.getElem?_eq_some_iff.1 ho).1
  have h1 := List.all_eq_true.1 h i (List.mem_range.2 hlt)
  rw [ho] at h1
  simp only [Option.map_some, Option.getD_some, Bool.and_eq_true, decide_eq_true_eq, Array.all_eq_true_iff_forall_mem, Bool.or_eq_true, Bool.not_eq_true'] at h1
  obtain ⟨hd, h2, h4⟩ := h1
  refine ⟨hd, ?_, fun e he hb => ?_⟩
  · cases hx : o.dst with
    | none => rw [hx] at h2; cases h2
    | some d => rw [hx] at h2; simp at h2; rw [h2]
  · rcases h4 e he with k | k
    · rw [hb] at k; cases k
    · exact k
theorem ready_listedG {md : Region.Mode} {ops : Array Oper} {D : Nat → Nat} {m : Nat} {listed : Array Bool} (h : relOkG md ops D m = true) (hz : listed.size = ops.size) (hr : Region.ready md ops listed = []) : ∀ i, i < ops.size → listed.getD i false = true := by
  intro i
  induction i using Nat.strongRecOn with
  | ind i ih =>
    intro hi
    cases hx : listed.getD i false with
    | true => rfl
    | false =>
      have ho : ops[i]? = some ops[i] := Array.getElem?_eq_getElem hi
      have hm : i ∈ Region.ready md ops listed := by
        rw [mem_ready]
        refine ⟨?_, _, ho, fun e he hb => ih e.on ((relOkG_at h ho).2.2 e he hb) (by have := (relOkG_at h ho).2.2 e he hb; omega)⟩
        have hl : i < listed.size := by omega
        simp [Array.getElem?_eq_getElem hl] at hx ⊢
        exact hx
      rw [hr] at hm
      cases hm
theorem wpAny_relG {P : Program} {md : Region.Mode} {ops : Array Oper} {Q : Exit → Act → World → Prop} (D : Nat → Nat) (φ : Nat → Value → World → Prop) (J : World → Prop) (a0 : Act)
    (hok : relOkG md ops D a0.tmps.size = true) (hinj : ∀ i, i < ops.size → ∀ j, j < ops.size → D i = D j → i = j)
    (hstep : ∀ i o, ops[i]? = some o → ∀ a w, FrameIs a0 ops.size D a → J w → (∀ e ∈ o.after, Region.binds md e = true → φ e.on (a.tmps.getD (D e.on) undef) w) →
      Region.wanted o (yielded ops a.tmps) = true ∧ Oper.wp P o a w (fun a' w' => ∃ v, a' = a.put (some (D i)) v ∧ φ i v w' ∧ J w' ∧ ∀ k u, φ k u w → φ k u w') Q)
    (hend : ∀ a w, FrameIs a0 ops.size D a → J w → (∀ i, i < ops.size → φ i (a.tmps.getD (D i) undef) w) → Q .normal a w) :
    ∀ (fuel : Nat) (listed : Array Bool) (a : Act) (w : World) (s : List Nat), listed.size = ops.size → s.length ≤ fuel → (∀ i, i < ops.size → listed.getD i false = false → i ∈ s) → FrameIs a0 ops.size D a → J w →
      (∀ i, listed.getD i false = true → φ i (a.tmps.getD (D i) undef) w) → wpAny P md ops Q fuel listed a w := by
  intro fuel
  induction fuel with
  | zero =>
    intro listed a w s hz hs hun hF hJ hφ
    have hall : ∀ i, i < ops.size → listed.getD i false = true := fun i hi => by
      cases h : listed.getD i false with
      | true => rfl
      | false =>
        have := hun i hi h
        rw [List.eq_nil_of_length_eq_zero (by omega : s.length = 0)] at this
        cases this
    refine ⟨?_, hend a w hF hJ (fun i hi => hφ i (hall i hi))⟩
    cases hr : Region.ready md ops listed with
    | nil => rfl
    | cons x xs =>
      have hm : x ∈ Region.ready md ops listed := by rw [hr]; exact List.mem_cons_self
      obtain ⟨h0, o, ho, _⟩ := mem_ready.1 hm
      have hlt : x < ops.size := (Array.getElem?_eq_some_iff.1 ho).1
      have h1 := hall x hlt
      have hl : x < listed.size := by omega
      simp [Array.getElem?_eq_getElem hl] at h0 h1
      rw [h0] at h1
      cases h1
  | succ fuel ih =>
    intro listed a w s hz hs hun hF hJ hφ
    refine ⟨fun hr => hend a w hF hJ (fun i hi => hφ i (ready_listedG hok hz hr i hi)), fun i hi => ?_⟩
    obtain ⟨h0, o, ho, hpre⟩ := mem_ready.1 hi
    have hlt : i < ops.size := (Array.getElem?_eq_some_iff.1 ho).1
    have hl : i < listed.size := by omega
    obtain ⟨hD, hdst, _⟩ := relOkG_at hok ho
    obtain ⟨hw, hst⟩ := hstep i o ho a w hF hJ (fun e he hb => hφ e.on (hpre e he hb))
    have hi0 : listed.getD i false = false := by
      simp [Array.getElem?_eq_getElem hl] at h0 ⊢
      exact h0
    have his : i ∈ s := hun i hlt hi0
    unfold wpOp
    simp only [ho]
    rw [if_pos hw]
    refine .inl (Oper.wp_mono ?_ hst)
    rintro a' w' ⟨v, rfl, hv, hJ', hk⟩
    have hsz : D i < a.tmps.size := by rw [hF.2.1]; exact hD
    refine ih (listed.setIfInBounds i true) _ w' (s.erase i) (by simp [hz]) ?_ ?_ ?_ hJ' ?_
    · rw [List.length_erase_of_mem his]; omega
    · intro j hj hu
      have hne : j ≠ i := by
        rintro rfl
        simp [hl] at hu
      rw [getD_set_ne false (Ne.symm hne)] at hu
      exact (List.mem_erase_of_ne hne).2 (hun j hj hu)
    · refine ⟨hF.1, by simp [Act.put, hF.2.1], fun q hq => ?_⟩
      have := hF.2.2 q hq
      rw [← this]
      simp [Act.put, Array.getElem?_setIfInBounds_ne (hq i hlt)]
    · intro j hj
      by_cases hne : j = i
      · subst hne
        simp [Act.put, hsz]
        exact hv
      · rw [getD_set_ne false (Ne.symm hne)] at hj
        have hjl : j < ops.size := by
          rcases Nat.lt_or_ge j listed.size with k | k
          · omega
          · simp [Array.getElem?_eq_none k] at hj
        have hd : D i ≠ D j := fun e => hne (hinj j hjl i hlt e.symm)
        have e : (a.put (some (D i)) v).tmps.getD (D j) undef = a.tmps.getD (D j) undef := by
          simp [Act.put, Array.getElem?_setIfInBounds_ne hd]
        rw [e]
        exact hk j _ (hφ j hj)
/-- A frame is its slots. -/
theorem tmps_slots (t : Array Value) (n : Nat) (h : t.size = n) : t = ((List.range n).map fun i => t.getD i undef).toArray := by
  apply Array.ext
  · simp [h]
  · intro i h1 h2
    simp [h1]
/-- Where the region's slots stand in a row. -/
theorem frame_seg {a0 a : Act} {n s0 : Nat} (hF : FrameIs a0 n (fun i => s0 + i) a) (h : s0 + n ≤ a0.tmps.size) :
    a.tmps.toList = a0.tmps.toList.take s0 ++ ((List.range n).map (fun i => a.tmps.getD (s0 + i) undef) ++ a0.tmps.toList.drop (s0 + n)) := by
  obtain ⟨_, hz, hs⟩ := hF
  have key : ∀ j, j < a0.tmps.size → (j < s0 ∨ s0 + n ≤ j) → a.tmps[j]? = a0.tmps[j]? := fun j hj hc => by
    have h1 := hs j (fun i hi => by show s0 + i ≠ j; omega)
    have hj' : j < a.tmps.size := by omega
    simp only [Array.getD_eq_getD_getElem?, Array.getElem?_eq_getElem hj, Array.getElem?_eq_getElem hj', Option.getD_some] at h1
    rw [Array.getElem?_eq_getElem hj, Array.getElem?_eq_getElem hj', h1]
  apply List.ext_getElem?
  intro j
  have ht : (a0.tmps.toList.take s0).length = s0 := by rw [List.length_take, Array.length_toList]; omega
  have hr : ((List.range n).map (fun i => a.tmps.getD (s0 + i) undef)).length = n := by simp
  rw [Array.getElem?_toList]
  rcases Nat.lt_or_ge j s0 with c1 | c1
  · rw [List.getElem?_append_left (by omega), List.getElem?_take, if_pos c1, Array.getElem?_toList]
    exact key j (by omega) (.inl c1)
  · rw [List.getElem?_append_right (by omega), ht]
    rcases Nat.lt_or_ge j (s0 + n) with c2 | c2
    · have hj' : j < a.tmps.size := by omega
      rw [List.getElem?_append_left (by omega), List.getElem?_map, List.getElem?_range (by omega), Array.getElem?_eq_getElem hj']
      simp [show s0 + (j - s0) = j by omega, Array.getElem?_eq_getElem hj']
    · rw [List.getElem?_append_right (by omega), hr, List.getElem?_drop, Array.getElem?_toList, show s0 + n + (j - s0 - n) = j by omega]
      rcases Nat.lt_or_ge j a0.tmps.size with c3 | c3
      · exact key j c3 (.inr c2)
      · rw [Array.getElem?_eq_none (by omega), Array.getElem?_eq_none c3]
theorem getD_q {t : Array Value} {k : Nat} {v : Value} (h : t.getD k undef = v) : t[k]?.getD undef = v := by simpa using h
theorem at_of_getD {t : Array Value} {k : Nat} {v : Value} (hk : k < t.size) (h : t.getD k undef = v) : t[k]? = some v := by
  rw [Array.getElem?_eq_getElem hk]
  simp only [Array.getD_eq_getD_getElem?, Array.getElem?_eq_getElem hk, Option.getD_some] at h
  rw [h]
end Go.Proofs.YtmdcankfjmkkeaaGreat
/- A region that draws its order and ends in one operation that waits for all others (a store into a new box): walked once; what is said of each slot lasts while memory only grows. No program. -/
namespace Go.Proofs.YtmdcankfjmkkeaaGreat
open Go Go.RowKit
set_option linter.unusedVariables false

theorem step_val {P : Program} {o : Oper} {a : Act} {w w' : World} {v : Value} {K : Act → World → Prop} {Q : Exit → Act → World → Prop} (hrun : (execOp a.eval o).run P w = .ok (.value v) w') (h : K (a.put o.dst v) w') : Oper.wp P o a w K Q := by
  unfold Oper.wp
  rw [hrun]
  exact h
theorem step_skip {P : Program} {op : Op} {ty : TypeId} {pos : String} {after : Array Edge} {g : Option (Nat × Bool)} {a : Act} {w w' : World} {K : Act → World → Prop} {Q : Exit → Act → World → Prop} (hrun : (execOp a.eval ⟨none, op, ty, pos, after, g⟩).run P w = .ok .skip w') (h : K a w') : Oper.wp P ⟨none, op, ty, pos, after, g⟩ a w K Q := by
  unfold Oper.wp
  rw [hrun]
  exact h
/-- The operations for which one waits. -/
def depsOf (md : Region.Mode) (ops : Array Oper) (j : Nat) : List Nat := ((ops[j]?).map fun o => (o.after.toList.filter fun e => Region.binds md e).map fun e => e.on).getD []
/-- All for which some wait, in so many steps. -/
def reachOf (md : Region.Mode) (ops : Array Oper) : Nat → List Nat → List Nat
  | 0, s => s
  | k + 1, s => s ++ reachOf md ops k (s.flatMap (depsOf md ops))
/-- Who is listed is listed behind those for which it waits. -/
def DownTo (md : Region.Mode) (ops : Array Oper) (listed : Array Bool) : Prop := ∀ j, listed.getD j false = true → ∀ q ∈ depsOf md ops j, listed.getD q false = true
theorem reach_listed {md : Region.Mode} {ops : Array Oper} {listed : Array Bool} (hd : DownTo md ops listed) : ∀ (k : Nat) (s : List Nat), (∀ j ∈ s, listed.getD j false = true) → ∀ j ∈ reachOf md ops k s, listed.getD j false = true := by
  intro k
  induction k with
  | zero => intro s hs j hj; exact hs j hj
  | succ k ih =>
    intro s hs j hj
    rcases List.mem_append.1 hj with h | h
    · exact hs j h
    · refine ih _ (fun q hq => ?_) j h
      obtain ⟨p, hp, hpq⟩ := List.mem_flatMap.1 hq
      exact hd p (hs p hp) q hpq
/-- Each but the last writes its own slot, is not guarded, and waits for earlier ones alone; the last is not guarded and waits for all. -/
def boxOk (md : Region.Mode) (ops : Array Oper) (D : Nat → Nat) (n m : Nat) : Bool :=
  (ops.size == n + 1) && ((List.range n).all fun i => decide (D i < m) && ((ops[i]?).map fun o => (match o.dst with | some d => d == D i | none => false) && o.guard.isNone && o.after.all fun e => !Region.binds md e || decide (e.on < i)).getD false) &&
    ((ops[n]?).map fun o => o.guard.isNone && o.after.all fun e => !Region.binds md e || decide (e.on < n)).getD false && (List.range n).all fun i => (reachOf md ops n (depsOf md ops n)).contains i
theorem boxOk_at {md : Region.Mode} {ops : Array Oper} {D : Nat → Nat} {n m i : Nat} {o : Oper} (h : boxOk md ops D n m = true) (hi : i < n) (ho : ops[i]? = some o) : D i < m ∧ o.dst = some (D i) ∧ o.guard = none ∧ ∀ e ∈ o.after, Region.binds md e = true → e.on < i := by
  unfold boxOk at h
  simp only [Bool.and_eq_true] at h
  have h1 := List.all_eq_true.1 h.1.1.2 i (List.mem_range.2 hi)
  rw [ho] at h1
  simp only [Option.map_some, Option.getD_some, Bool.and_eq_true, decide_eq_true_eq, Option.isNone_iff_eq_none, Array.all_eq_true_iff_forall_mem, Bool.or_eq_true, Bool.not_eq_true'] at h1
  obtain ⟨hd, ⟨h2, h3⟩, h4⟩ := h1
  refine ⟨hd, ?_, h3, fun e he hb => ?_⟩
  · cases hx : o.dst with
    | none => rw [hx] at h2; cases h2
    | some d => rw [hx] at h2; simp at h2; rw [h2]
  · rcases h4 e he with k | k
    · rw [hb] at k; cases k
    · exact k
theorem boxOk_size {md : Region.Mode} {ops : Array Oper} {D : Nat → Nat} {n m : Nat} (h : boxOk md ops D n m = true) : ops.size = n + 1 := by
  unfold boxOk at h
  simp only [Bool.and_eq_true, beq_iff_eq] at h
  exact h.1.1.1
theorem boxOk_last {md : Region.Mode} {ops : Array Oper} {D : Nat → Nat} {n m : Nat} {o : Oper} (h : boxOk md ops D n m = true) (ho : ops[n]? = some o) : o.guard = none ∧ ∀ e ∈ o.after, Region.binds md e = true → e.on < n := by
  unfold boxOk at h
  simp only [Bool.and_eq_true] at h
  have h1 := h.1.2
  rw [ho] at h1
  simp only [Option.map_some, Option.getD_some, Bool.and_eq_true, Option.isNone_iff_eq_none, Array.all_eq_true_iff_forall_mem, Bool.or_eq_true, Bool.not_eq_true', decide_eq_true_eq] at h1
  refine ⟨h1.1, fun e he hb => ?_⟩
  rcases h1.2 e he with k | k
  · rw [hb] at k; cases k
  · exact k
theorem boxOk_all {md : Region.Mode} {ops : Array Oper} {D : Nat → Nat} {n m : Nat} {listed : Array Bool} (h : boxOk md ops D n m = true) (hd : DownTo md ops listed) (hl : ∀ q ∈ depsOf md ops n, listed.getD q false = true) : ∀ i, i < n → listed.getD i false = true := by
  unfold boxOk at h
  simp only [Bool.and_eq_true] at h
  intro i hi
  have h1 := List.all_eq_true.1 h.2 i (List.mem_range.2 hi)
  exact reach_listed hd n _ hl i (by simpa using h1)
theorem deps_mem {md : Region.Mode} {ops : Array Oper} {j : Nat} {o : Oper} (ho : ops[j]? = some o) {q : Nat} (h : q ∈ depsOf md ops j) : ∃ e ∈ o.after, Region.binds md e = true ∧ e.on = q := by
  unfold depsOf at h
  rw [ho] at h
  simp only [Option.map_some, Option.getD_some] at h
  obtain ⟨e, he, rfl⟩ := List.mem_map.1 h
  obtain ⟨h1, h2⟩ := List.mem_filter.1 he
  exact ⟨e, by simpa using h1, h2, rfl⟩
theorem wpAny_box {P : Program} {md : Region.Mode} {ops : Array Oper} {Q : Exit → Act → World → Prop} (n : Nat) (D : Nat → Nat) (φ : Nat → Value → World → Prop) (a0 : Act) (x : World)
    (hok : boxOk md ops D n a0.tmps.size = true) (hinj : ∀ i, i < n → ∀ j, j < n → D i = D j → i = j) (hstab : ∀ k u w w', φ k u w → Below w.heap.size w w' → φ k u w')
    (hstep : ∀ i o, i < n → ops[i]? = some o → ∀ a w, FrameIs a0 n D a → Below x.heap.size x w → (∀ e ∈ o.after, Region.binds md e = true → φ e.on (a.tmps.getD (D e.on) undef) w) →
      Oper.wp P o a w (fun a' w' => ∃ v, a' = a.put (some (D i)) v ∧ φ i v w' ∧ Below w.heap.size w w') Q)
    (hlast : ∀ o, ops[n]? = some o → ∀ a w, FrameIs a0 n D a → Below x.heap.size x w → (∀ i, i < n → φ i (a.tmps.getD (D i) undef) w) → Oper.wp P o a w (fun a' w' => Q .normal a' w') Q) :
    ∀ (fuel : Nat) (listed : Array Bool) (a : Act) (w : World) (s : List Nat), listed.size = n + 1 → s.length ≤ fuel → (∀ i, i < n + 1 → listed.getD i false = false → i ∈ s) → listed.getD n false = false → DownTo md ops listed → FrameIs a0 n D a → Below x.heap.size x w →
      (∀ i, i < n → listed.getD i false = true → φ i (a.tmps.getD (D i) undef) w) → wpAny P md ops Q fuel listed a w := by
  have hsz := boxOk_size hok
  have hnodup : ∀ (listed : Array Bool) i, i ∈ Region.ready md ops listed → i < n + 1 := fun listed i hi => by
    obtain ⟨_, o, ho, _⟩ := mem_ready.1 hi
    have := (Array.getElem?_eq_some_iff.1 ho).1
    omega
  intro fuel
  induction fuel with
  | zero =>
    intro listed a w s hz hs hun hnl hD hF hJ hφ
    exfalso
    have := hun n (by omega) hnl
    rw [List.eq_nil_of_length_eq_zero (by omega : s.length = 0)] at this
    cases this
  | succ fuel ih =>
    intro listed a w s hz hs hun hnl hD hF hJ hφ
    refine ⟨fun hr => ?_, fun i hi => ?_⟩
    · exfalso
      -- all but the last are listed, so that the last is ready
      have hall : ∀ i, i < n → listed.getD i false = true := by
        intro i
        induction i using Nat.strongRecOn with
        | ind i ihi =>
          intro hin
          cases hx : listed.getD i false with
          | true => rfl
          | false =>
            have hio : i < ops.size := by omega
            have ho : ops[i]? = some ops[i] := Array.getElem?_eq_getElem hio
            have hm : i ∈ Region.ready md ops listed := by
              rw [mem_ready]
              refine ⟨?_, _, ho, fun e he hb => ihi e.on ((boxOk_at hok hin ho).2.2.2 e he hb) (by have := (boxOk_at hok hin ho).2.2.2 e he hb; omega)⟩
              have hl : i < listed.size := by omega
              simp [Array.getElem?_eq_getElem hl] at hx ⊢
              exact hx
            rw [hr] at hm
            cases hm
      have hno : n < ops.size := by omega
      have ho : ops[n]? = some ops[n] := Array.getElem?_eq_getElem hno
      have hlt : ∀ e ∈ ops[n].after, Region.binds md e = true → listed.getD e.on false = true := fun e he hb => hall e.on ((boxOk_last hok ho).2 e he hb)
      have hm : n ∈ Region.ready md ops listed := by
        rw [mem_ready]
        refine ⟨?_, _, ho, hlt⟩
        have hl : n < listed.size := by omega
        simp [Array.getElem?_eq_getElem hl] at hnl ⊢
        exact hnl
      rw [hr] at hm
      cases hm
    · obtain ⟨h0, o, ho, hpre⟩ := mem_ready.1 hi
      have hlt : i < n + 1 := by
        have := (Array.getElem?_eq_some_iff.1 ho).1
        omega
      have hl : i < listed.size := by omega
      have hi0 : listed.getD i false = false := by
        simp [Array.getElem?_eq_getElem hl] at h0 ⊢
        exact h0
      have his : i ∈ s := hun i hlt hi0
      by_cases hin : i < n
      · obtain ⟨hDi, hdst, hgd, hed⟩ := boxOk_at hok hin ho
        have hst := hstep i o hin ho a w hF hJ (fun e he hb => hφ e.on (by have := hed e he hb; omega) (hpre e he hb))
        have hw : Region.wanted o (yielded ops a.tmps) = true := by simp [Region.wanted, hgd]
        unfold wpOp
        simp only [ho]
        rw [if_pos hw]
        refine .inl (Oper.wp_mono ?_ hst)
        rintro a' w' ⟨v, rfl, hv, hB⟩
        have hszD : D i < a.tmps.size := by rw [hF.2.1]; exact hDi
        refine ih (listed.setIfInBounds i true) _ w' (s.erase i) (by simp [hz]) ?_ ?_ ?_ ?_ ?_ (hJ.trans (hB.mono hJ.size)) ?_
        · rw [List.length_erase_of_mem his]; omega
        · intro j hj hu
          have hne : j ≠ i := by
            rintro rfl
            simp [hl] at hu
          rw [getD_set_ne false (Ne.symm hne)] at hu
          exact (List.mem_erase_of_ne hne).2 (hun j hj hu)
        · rw [getD_set_ne false (by omega)]; exact hnl
        · intro j hj q hq
          have keep : ∀ p, listed.getD p false = true → (listed.setIfInBounds i true).getD p false = true := fun p hp => by
            by_cases e : p = i
            · subst e; simp [hl]
            · rw [getD_set_ne false (Ne.symm e)]; exact hp
          by_cases hne : j = i
          · subst hne
            obtain ⟨e, he, hb, rfl⟩ := deps_mem ho hq
            exact keep _ (hpre e he hb)
          · rw [getD_set_ne false (Ne.symm hne)] at hj
            exact keep _ (hD j hj q hq)
        · refine ⟨hF.1, by simp [Act.put, hF.2.1], fun q hq => ?_⟩
          have := hF.2.2 q hq
          rw [← this]
          simp [Act.put, Array.getElem?_setIfInBounds_ne (hq i hin)]
        · intro j hjn hj
          by_cases hne : j = i
          · subst hne
            simp [Act.put, hszD]
            exact hv
          · rw [getD_set_ne false (Ne.symm hne)] at hj
            have hd : D i ≠ D j := fun e => hne (hinj j hjn i hin e.symm)
            have e : (a.put (some (D i)) v).tmps.getD (D j) undef = a.tmps.getD (D j) undef := by
              simp [Act.put, Array.getElem?_setIfInBounds_ne hd]
            rw [e]
            exact hstab j _ _ _ (hφ j hjn hj) hB
      · obtain rfl : i = n := by omega
        obtain ⟨hgd, _⟩ := boxOk_last hok ho
        have hall := boxOk_all hok hD (fun q hq => by obtain ⟨e, he, hb, rfl⟩ := deps_mem ho hq; exact hpre e he hb)
        have hst := hlast o ho a w hF hJ (fun j hj => hφ j hj (hall j hj))
        have hw : Region.wanted o (yielded ops a.tmps) = true := by simp [Region.wanted, hgd]
        unfold wpOp
        simp only [ho]
        rw [if_pos hw]
        refine .inl (Oper.wp_mono ?_ hst)
        intro a' w' hQ
        have hnone : Region.ready md ops (listed.setIfInBounds i true) = [] := by
          cases hr : Region.ready md ops (listed.setIfInBounds i true) with
          | nil => rfl
          | cons q qs =>
            exfalso
            have hm : q ∈ Region.ready md ops (listed.setIfInBounds i true) := by rw [hr]; exact List.mem_cons_self
            obtain ⟨g0, o', ho', _⟩ := mem_ready.1 hm
            have hq : q < i + 1 := by
              have := (Array.getElem?_eq_some_iff.1 ho').1
              omega
            have g1 : (listed.setIfInBounds i true).getD q false = true := by
              by_cases e : q = i
              · subst e; simp [hl]
              · rw [getD_set_ne false (Ne.symm e)]; exact hall q (by omega)
            have hql : q < (listed.setIfInBounds i true).size := by simp; omega
            simp only [Array.getD_eq_getD_getElem?, Array.getElem?_eq_getElem hql, Option.getD_some] at g0 g1
            rw [g1] at g0
            cases g0
        cases fuel with
        | zero => exact ⟨hnone, hQ⟩
        | succ f => exact ⟨fun _ => hQ, fun q hq => by rw [hnone] at hq; cases hq⟩
end Go.Proofs.YtmdcankfjmkkeaaGreat
