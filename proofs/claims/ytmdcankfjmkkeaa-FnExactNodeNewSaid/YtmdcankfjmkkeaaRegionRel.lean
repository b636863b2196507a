/- A region that draws its order, walked once: each operation hands on what is said of its slot, whatever came up ahead of it. No program. -/
import Derived.Test.YtmdcankfjmkkeaaChecked
import Derived.WalkKit
import Derived.Orders
namespace Go.Proofs.Ytmdcankfjmkkeaa
open Go
set_option linter.unusedVariables false

/-- The frame but for the slots that the region writes. -/
def FrameIs (a0 : Act) (n : Nat) (D : Nat → Nat) (a : Act) : Prop := a.defers = a0.defers ∧ a.tmps.size = a0.tmps.size ∧ ∀ s, (∀ i, i < n → D i ≠ s) → a.tmps.getD s undef = a0.tmps.getD s undef
/-- Each operation writes its own slot, is not guarded, and waits for earlier ones alone. -/
def relOk (md : Region.Mode) (ops : Array Oper) (D : Nat → Nat) (m : Nat) : Bool :=
  (List.range ops.size).all fun i => decide (D i < m) && ((ops[i]?).map fun o => (match o.dst with | some d => d == D i | none => false) && o.guard.isNone && o.after.all fun e => !Region.binds md e || decide (e.on < i)).getD false
theorem relOk_at {md : Region.Mode} {ops : Array Oper} {D : Nat → Nat} {m i : Nat} {o : Oper} (h : relOk md ops D m = true) (ho : ops[i]? = some o) : D i < m ∧ o.dst = some (D i) ∧ o.guard = none ∧ ∀ e ∈ o.after, Region.binds md e = true → e.on < i := by
  have hlt : i < ops.size := (Array.getElem?_eq_some_iff.1 ho).1
  have h1 := List.all_eq_true.1 h i (List.mem_range.2 hlt)
  rw [ho] at h1
  simp only [Option.map_some, Option.getD_some, Bool.and_eq_true, decide_eq_true_eq, Option.isNone_iff_eq_none, Array.all_eq_true_iff_forall_mem, Bool.or_eq_true, Bool.not_eq_true'] at h1
  obtain ⟨hd, ⟨h2, h3⟩, h4⟩ := h1
  refine ⟨hd, ?_, h3, fun e he hb => ?_⟩
  · cases hx : o.dst with
    | none => rw [hx] at h2; cases h2
    | some d => rw [hx] at h2; simp at h2; rw [h2]
  · rcases h4 e he with k | k
    · rw [hb] at k; cases k
    · exact k
theorem ready_listed {md : Region.Mode} {ops : Array Oper} {D : Nat → Nat} {m : Nat} {listed : Array Bool} (h : relOk md ops D m = true) (hz : listed.size = ops.size) (hr : Region.ready md ops listed = []) : ∀ i, i < ops.size → listed.getD i false = true := by
  intro i
  induction i using Nat.strongRecOn with
  | ind i ih =>
    intro hi
    cases hx : listed.getD i false with
    | true => rfl
    | false =>
      have ho : ops[i]? = some ops[i] := Array.getElem?_eq_getElem hi
      have hm : i ∈ Region.ready md ops listed := by
        rw [mem_ready]
        refine ⟨?_, _, ho, fun e he hb => ih e.on ((relOk_at h ho).2.2.2 e he hb) (by have := (relOk_at h ho).2.2.2 e he hb; omega)⟩
        have hl : i < listed.size := by omega
        simp [Array.getElem?_eq_getElem hl] at hx ⊢
        exact hx
      rw [hr] at hm
      cases hm
theorem wpAny_rel {P : Program} {md : Region.Mode} {ops : Array Oper} {Q : Exit → Act → World → Prop} (D : Nat → Nat) (φ : Nat → Value → World → Prop) (J : World → Prop) (a0 : Act)
    (hok : relOk md ops D a0.tmps.size = true) (hinj : ∀ i, i < ops.size → ∀ j, j < ops.size → D i = D j → i = j)
    (hstep : ∀ i o, ops[i]? = some o → ∀ a w, FrameIs a0 ops.size D a → J w → (∀ e ∈ o.after, Region.binds md e = true → φ e.on (a.tmps.getD (D e.on) undef) w) →
      Oper.wp P o a w (fun a' w' => ∃ v, a' = a.put (some (D i)) v ∧ φ i v w' ∧ J w' ∧ ∀ k u, φ k u w → φ k u w') Q)
    (hend : ∀ a w, FrameIs a0 ops.size D a → J w → (∀ i, i < ops.size → φ i (a.tmps.getD (D i) undef) w) → Q .normal a w) :
    ∀ (fuel : Nat) (listed : Array Bool) (a : Act) (w : World) (s : List Nat), listed.size = ops.size → s.length ≤ fuel → (∀ i, i < ops.size → listed.getD i false = false → i ∈ s) → FrameIs a0 ops.size D a → J w →
      (∀ i, listed.getD i false = true → φ i (a.tmps.getD (D i) undef) w) → wpAny P md ops Q fuel listed a w := by
  intro fuel
  induction fuel with
  | zero =>
    intro listed a w s hz hs hun hF hJ hφ
    have hall : ∀ i, i < ops.size → listed.getD i false = true := fun i hi => by
      cases h : listed.getD i false with
      | true => rfl
      | false =>
        have := hun i hi h
        rw [List.eq_nil_of_length_eq_zero (by omega : s.length = 0)] at this
        cases this
    refine ⟨?_, hend a w hF hJ (fun i hi => hφ i (hall i hi))⟩
    cases hr : Region.ready md ops listed with
    | nil => rfl
    | cons x xs =>
      have hm : x ∈ Region.ready md ops listed := by rw [hr]; exact List.mem_cons_self
      obtain ⟨h0, o, ho, _⟩ := mem_ready.1 hm
      have hlt : x < ops.size := (Array.getElem?_eq_some_iff.1 ho).1
      have h1 := hall x hlt
      have hl : x < listed.size := by omega
      simp [Array.getElem?_eq_getElem hl] at h0 h1
      rw [h0] at h1
      cases h1
  | succ fuel ih =>
    intro listed a w s hz hs hun hF hJ hφ
    refine ⟨fun hr => hend a w hF hJ (fun i hi => hφ i (ready_listed hok hz hr i hi)), fun i hi => ?_⟩
    obtain ⟨h0, o, ho, hpre⟩ := mem_ready.1 hi
    have hlt : i < ops.size := (Array.getElem?_eq_some_iff.1 ho).1
    have hl : i < listed.size := by omega
    obtain ⟨hD, hdst, hgd, _⟩ := relOk_at hok ho
    have hst := hstep i o ho a w hF hJ (fun e he hb => hφ e.on (hpre e he hb))
    have hi0 : listed.getD i false = false := by
      simp [Array.getElem?_eq_getElem hl] at h0 ⊢
      exact h0
    have his : i ∈ s := hun i hlt hi0
    have hw : Region.wanted o (yielded ops a.tmps) = true := by simp [Region.wanted, hgd]
    unfold wpOp
    simp only [ho]
    rw [if_pos hw]
    refine .inl (Oper.wp_mono ?_ hst)
    rintro a' w' ⟨v, rfl, hv, hJ', hk⟩
    have hsz : D i < a.tmps.size := by rw [hF.2.1]; exact hD
    refine ih (listed.setIfInBounds i true) _ w' (s.erase i) (by simp [hz]) ?_ ?_ ?_ hJ' ?_
    · rw [List.length_erase_of_mem his]; omega
    · intro j hj hu
      have hne : j ≠ i := by
        rintro rfl
        simp [hl] at hu
      rw [getD_set_ne false (Ne.symm hne)] at hu
      exact (List.mem_erase_of_ne hne).2 (hun j hj hu)
    · refine ⟨hF.1, by simp [Act.put, hF.2.1], fun q hq => ?_⟩
      have := hF.2.2 q hq
      rw [← this]
      simp [Act.put, Array.getElem?_setIfInBounds_ne (hq i hlt)]
    · intro j hj
      by_cases hne : j = i
      · subst hne
        simp [Act.put, hsz]
        exact hv
      · rw [getD_set_ne false (Ne.symm hne)] at hj
        have hjl : j < ops.size := by
          rcases Nat.lt_or_ge j listed.size with k | k
          · omega
          · simp [Array.getElem?_eq_none k] at hj
        have hd : D i ≠ D j := fun e => hne (hinj j hjl i hlt e.symm)
        have e : (a.put (some (D i)) v).tmps.getD (D j) undef = a.tmps.getD (D j) undef := by
          simp [Act.put, Array.getElem?_setIfInBounds_ne hd]
        rw [e]
        exact hk j _ (hφ j hj)
/-- Each operation writes its own slot, and waits for earlier ones alone. -/
def relOkG (md : Region.Mode) (ops : Array Oper) (D : Nat → Nat) (m : Nat) : Bool :=
  (List.range ops.size).all fun i => decide (D i < m) && ((ops[i]?).map fun o => (match o.dst with | some d => d == D i | none => false) && o.after.all fun e => !Region.binds md e || decide (e.on < i)).getD false
theorem relOkG_at {md : Region.Mode} {ops : Array Oper} {D : Nat → Nat} {m i : Nat} {o : Oper} (h : relOkG md ops D m = true) (ho : ops[i]? = some o) : D i < m ∧ o.dst = some (D i) ∧ ∀ e ∈ o.after, Region.binds md e = true → e.on < i := by
  have hlt : i < ops.size := (Array.getElem?_eq_some_iff.1 ho).1
  have h1 := List.all_eq_true.1 h i (List.mem_range.2 hlt)
  rw [ho] at h1
  simp only [Option.map_some, Option.getD_some, Bool.and_eq_true, decide_eq_true_eq, Array.all_eq_true_iff_forall_mem, Bool.or_eq_true, Bool.not_eq_true'] at h1
  obtain ⟨hd, h2, h4⟩ := h1
  refine ⟨hd, ?_, fun e he hb => ?_⟩
  · cases hx : o.dst with
    | none => rw [hx] at h2; cases h2
    | some d => rw [hx] at h2; simp at h2; rw [h2]
  · rcases h4 e he with k | k
    · rw [hb] at k; cases k
    · exact k
theorem ready_listedG {md : Region.Mode} {ops : Array Oper} {D : Nat → Nat} {m : Nat} {listed : Array Bool} (h : relOkG md ops D m = true) (hz : listed.size = ops.size) (hr : Region.ready md ops listed = []) : ∀ i, i < ops.size → listed.getD i false = true := by
  intro i
  induction i using Nat.strongRecOn with
  | ind i ih =>
    intro hi
    cases hx : listed.getD i false with
    | true => rfl
    | false =>
      have ho : ops[i]? = some ops[i] := Array.getElem?_eq_getElem hi
      have hm : i ∈ Region.ready md ops listed := by
        rw [mem_ready]
        refine ⟨?_, _, ho, fun e he hb => ih e.on ((relOkG_at h ho).2.2 e he hb) (by have := (relOkG_at h ho).2.2 e he hb; omega)⟩
        have hl : i < listed.size := by omega
        simp [Array.getElem?_eq_getElem hl] at hx ⊢
        exact hx
      rw [hr] at hm
      cases hm
theorem wpAny_relG {P : Program} {md : Region.Mode} {ops : Array Oper} {Q : Exit → Act → World → Prop} (D : Nat → Nat) (φ : Nat → Value → World → Prop) (J : World → Prop) (a0 : Act)
    (hok : relOkG md ops D a0.tmps.size = true) (hinj : ∀ i, i < ops.size → ∀ j, j < ops.size → D i = D j → i = j)
    (hstep : ∀ i o, ops[i]? = some o → ∀ a w, FrameIs a0 ops.size D a → J w → (∀ e ∈ o.after, Region.binds md e = true → φ e.on (a.tmps.getD (D e.on) undef) w) →
      Region.wanted o (yielded ops a.tmps) = true ∧ Oper.wp P o a w (fun a' w' => ∃ v, a' = a.put (some (D i)) v ∧ φ i v w' ∧ J w' ∧ ∀ k u, φ k u w → φ k u w') Q)
    (hend : ∀ a w, FrameIs a0 ops.size D a → J w → (∀ i, i < ops.size → φ i (a.tmps.getD (D i) undef) w) → Q .normal a w) :
    ∀ (fuel : Nat) (listed : Array Bool) (a : Act) (w : World) (s : List Nat), listed.size = ops.size → s.length ≤ fuel → (∀ i, i < ops.size → listed.getD i false = false → i ∈ s) → FrameIs a0 ops.size D a → J w →
      (∀ i, listed.getD i false = true → φ i (a.tmps.getD (D i) undef) w) → wpAny P md ops Q fuel listed a w := by
  intro fuel
  induction fuel with
  | zero =>
    intro listed a w s hz hs hun hF hJ hφ
    have hall : ∀ i, i < ops.size → listed.getD i false = true := fun i hi => by
      cases h : listed.getD i false with
      | true => rfl
      | false =>
        have := hun i hi h
        rw [List.eq_nil_of_length_eq_zero (by omega : s.length = 0)] at this
        cases this
    refine ⟨?_, hend a w hF hJ (fun i hi => hφ i (hall i hi))⟩
    cases hr : Region.ready md ops listed with
    | nil => rfl
    | cons x xs =>
      have hm : x ∈ Region.ready md ops listed := by rw [hr]; exact List.mem_cons_self
      obtain ⟨h0, o, ho, _⟩ := mem_ready.1 hm
      have hlt : x < ops.size := (Array.getElem?_eq_some_iff.1 ho).1
      have h1 := hall x hlt
      have hl : x < listed.size := by omega
      simp [Array.getElem?_eq_getElem hl] at h0 h1
      rw [h0] at h1
      cases h1
  | succ fuel ih =>
    intro listed a w s hz hs hun hF hJ hφ
    refine ⟨fun hr => hend a w hF hJ (fun i hi => hφ i (ready_listedG hok hz hr i hi)), fun i hi => ?_⟩
    obtain ⟨h0, o, ho, hpre⟩ := mem_ready.1 hi
    have hlt : i < ops.size := (Array.getElem?_eq_some_iff.1 ho).1
    have hl : i < listed.size := by omega
    obtain ⟨hD, hdst, _⟩ := relOkG_at hok ho
    obtain ⟨hw, hst⟩ := hstep i o ho a w hF hJ (fun e he hb => hφ e.on (hpre e he hb))
    have hi0 : listed.getD i false = false := by
      simp [Array.getElem?_eq_getElem hl] at h0 ⊢
      exact h0
    have his : i ∈ s := hun i hlt hi0
    unfold wpOp
    simp only [ho]
    rw [if_pos hw]
    refine .inl (Oper.wp_mono ?_ hst)
    rintro a' w' ⟨v, rfl, hv, hJ', hk⟩
    have hsz : D i < a.tmps.size := by rw [hF.2.1]; exact hD
    refine ih (listed.setIfInBounds i true) _ w' (s.erase i) (by simp [hz]) ?_ ?_ ?_ hJ' ?_
    · rw [List.length_erase_of_mem his]; omega
    · intro j hj hu
      have hne : j ≠ i := by
        rintro rfl
        simp [hl] at hu
      rw [getD_set_ne false (Ne.symm hne)] at hu
      exact (List.mem_erase_of_ne hne).2 (hun j hj hu)
    · refine ⟨hF.1, by simp [Act.put, hF.2.1], fun q hq => ?_⟩
      have := hF.2.2 q hq
      rw [← this]
      simp [Act.put, Array.getElem?_setIfInBounds_ne (hq i hlt)]
    · intro j hj
      by_cases hne : j = i
      · subst hne
        simp [Act.put, hsz]
        exact hv
      · rw [getD_set_ne false (Ne.symm hne)] at hj
        have hjl : j < ops.size := by
          rcases Nat.lt_or_ge j listed.size with k | k
          · omega
          · simp [Array.getElem?_eq_none k] at hj
        have hd : D i ≠ D j := fun e => hne (hinj j hjl i hlt e.symm)
        have e : (a.put (some (D i)) v).tmps.getD (D j) undef = a.tmps.getD (D j) undef := by
          simp [Act.put, Array.getElem?_setIfInBounds_ne hd]
        rw [e]
        exact hk j _ (hφ j hj)
/-- A frame is its slots. -/
theorem tmps_slots (t : Array Value) (n : Nat) (h : t.size = n) : t = ((List.range n).map fun i => t.getD i undef).toArray := by
  apply Array.ext
  · simp [h]
  · intro i h1 h2
    simp [h1]
/-- Where the region's slots stand in a row. -/
theorem frame_seg {a0 a : Act} {n s0 : Nat} (hF : FrameIs a0 n (fun i => s0 + i) a) (h : s0 + n ≤ a0.tmps.size) :
    a.tmps.toList = a0.tmps.toList.take s0 ++ ((List.range n).map (fun i => a.tmps.getD (s0 + i) undef) ++ a0.tmps.toList.drop (s0 + n)) := by
  obtain ⟨_, hz, hs⟩ := hF
  have key : ∀ j, j < a0.tmps.size → (j < s0 ∨ s0 + n ≤ j) → a.tmps[j]? = a0.tmps[j]? := fun j hj hc => by
    have h1 := hs j (fun i hi => by show s0 + i ≠ j; omega)
    have hj' : j < a.tmps.size := by omega
    simp only [Array.getD_eq_getD_getElem?, Array.getElem?_eq_getElem hj, Array.getElem?_eq_getElem hj', Option.getD_some] at h1
    rw [Array.getElem?_eq_getElem hj, Array.getElem?_eq_getElem hj', h1]
  apply List.ext_getElem?
  intro j
  have ht : (a0.tmps.toList.take s0).length = s0 := by rw [List.length_take, Array.length_toList]; omega
  have hr : ((List.range n).map (fun i => a.tmps.getD (s0 + i) undef)).length = n := by simp
  rw [Array.getElem?_toList]
  rcases Nat.lt_or_ge j s0 with c1 | c1
  · rw [List.getElem?_append_left (by omega), List.getElem?_take, if_pos c1, Array.getElem?_toList]
    exact key j (by omega) (.inl c1)
  · rw [List.getElem?_append_right (by omega), ht]
    rcases Nat.lt_or_ge j (s0 + n) with c2 | c2
    · have hj' : j < a.tmps.size := by omega
      rw [List.getElem?_append_left (by omega), List.getElem?_map, List.getElem?_range (by omega), Array.getElem?_eq_getElem hj']
      simp [show s0 + (j - s0) = j by omega, Array.getElem?_eq_getElem hj']
    · rw [List.getElem?_append_right (by omega), hr, List.getElem?_drop, Array.getElem?_toList, show s0 + n + (j - s0 - n) = j by omega]
      rcases Nat.lt_or_ge j a0.tmps.size with c3 | c3
      · exact key j c3 (.inr c2)
      · rw [Array.getElem?_eq_none (by omega), Array.getElem?_eq_none c3]
theorem getD_q {t : Array Value} {k : Nat} {v : Value} (h : t.getD k undef = v) : t[k]?.getD undef = v := by simpa using h
theorem at_of_getD {t : Array Value} {k : Nat} {v : Value} (hk : k < t.size) (h : t.getD k undef = v) : t[k]? = some v := by
  rw [Array.getElem?_eq_getElem hk]
  simp only [Array.getD_eq_getD_getElem?, Array.getElem?_eq_getElem hk, Option.getD_some] at h
  rw [h]
end Go.Proofs.Ytmdcankfjmkkeaa
