/- A region that draws its order: its first operations only read and make memory, and the rest waits for all of these: walked once; what is said of each slot lasts while memory only grows. No program. -/
import Derived.Test.YtenefjnahanfbaaRegL
namespace Go.Proofs.Ytenefjnahanfbaa
open Go Go.RowKit
set_option linter.unusedVariables false

/-- The first n each write their own slot, are not guarded, and wait for earlier ones alone; each of the m others waits for all of them. -/
def preOk (md : Region.Mode) (ops : Array Oper) (D : Nat → Nat) (n m sz : Nat) : Bool :=
  (ops.size == n + m) && ((List.range n).all fun i => decide (D i < sz) && ((ops[i]?).map fun o => (match o.dst with | some d => d == D i | none => false) && o.guard.isNone && o.after.all fun e => !Region.binds md e || decide (e.on < i)).getD false) &&
    (List.range m).all fun j => (List.range n).all fun i => (reachOf md ops n (depsOf md ops (n + j))).contains i
theorem preOk_at {md : Region.Mode} {ops : Array Oper} {D : Nat → Nat} {n m sz i : Nat} {o : Oper} (h : preOk md ops D n m sz = true) (hi : i < n) (ho : ops[i]? = some o) : D i < sz ∧ o.dst = some (D i) ∧ o.guard = none ∧ ∀ e ∈ o.after, Region.binds md e = true → e.on < i := by
  unfold preOk at h
  simp only [Bool.and_eq_true] at h
  have h1 := List.all_eq_true.1 h.1.2 i (List.mem_range.2 hi)
  rw [ho] at h1
  simp only [Option.map_some, Option.getD_some, Bool.and_eq_true, decide_eq_true_eq, Option.isNone_iff_eq_none, Array.all_eq_true_iff_forall_mem, Bool.or_eq_true, Bool.not_eq_true'] at h1
  obtain ⟨hd, ⟨h2, h3⟩, h4⟩ := h1
  refine ⟨hd, ?_, h3, fun e he hb => ?_⟩
  · cases hx : o.dst with
    | none => rw [hx] at h2; cases h2
    | some d => rw [hx] at h2; simp at h2; rw [h2]
  · rcases h4 e he with k | k
    · rw [hb] at k; cases k
    · exact k
theorem preOk_size {md : Region.Mode} {ops : Array Oper} {D : Nat → Nat} {n m sz : Nat} (h : preOk md ops D n m sz = true) : ops.size = n + m := by
  unfold preOk at h
  simp only [Bool.and_eq_true, beq_iff_eq] at h
  exact h.1.1
theorem preOk_all {md : Region.Mode} {ops : Array Oper} {D : Nat → Nat} {n m sz j : Nat} {listed : Array Bool} (h : preOk md ops D n m sz = true) (hj : j < m) (hd : DownTo md ops listed) (hl : ∀ q ∈ depsOf md ops (n + j), listed.getD q false = true) : ∀ i, i < n → listed.getD i false = true := by
  unfold preOk at h
  simp only [Bool.and_eq_true] at h
  intro i hi
  have h1 := List.all_eq_true.1 (List.all_eq_true.1 h.2 j (List.mem_range.2 hj)) i (List.mem_range.2 hi)
  exact reach_listed hd n _ hl i (by simpa using h1)
/-- Those that are done. -/
def doneTo (n m : Nat) : Array Bool := ((List.range (n + m)).map fun i => decide (i < n)).toArray
theorem doneTo_is {n m : Nat} {listed : Array Bool} (hz : listed.size = n + m) (h1 : ∀ i, i < n → listed.getD i false = true) (h2 : ∀ j, n ≤ j → listed.getD j false = false) : listed = doneTo n m := by
  apply Array.ext
  · simp [doneTo, hz]
  · intro i hi _
    have e : listed[i] = listed.getD i false := by simp [hi]
    rw [e]
    simp only [doneTo, List.getElem_toArray, List.getElem_map, List.getElem_range]
    by_cases c : i < n
    · rw [h1 i c]; simp [c]
    · rw [h2 i (by omega)]; simp [c]
theorem wpAny_pre {P : Program} {md : Region.Mode} {ops : Array Oper} {Q : Exit → Act → World → Prop} (n m : Nat) (D : Nat → Nat) (φ : Nat → Value → World → Prop) (ψ : Nat → Nat → Value → Value → Prop) (a0 : Act) (x : World)
    (hok : preOk md ops D n m a0.tmps.size = true) (hinj : ∀ i, i < n → ∀ j, j < n → D i = D j → i = j) (hstab : ∀ k u w w', φ k u w → Below w.heap.size w w' → φ k u w')
    (hstep : ∀ i o, i < n → ops[i]? = some o → ∀ a w, FrameIs a0 n D a → Below x.heap.size x w → (∀ e ∈ o.after, Region.binds md e = true → φ e.on (a.tmps.getD (D e.on) undef) w) →
      Oper.wp P o a w (fun a' w' => ∃ v, a' = a.put (some (D i)) v ∧ φ i v w' ∧ Below w.heap.size w w' ∧ ∀ j u, j < n → j ≠ i → φ j u w → ψ i j v u ∧ ψ j i u v) Q)
    (hrest : ∀ a w, FrameIs a0 n D a → Below x.heap.size x w → (∀ i, i < n → φ i (a.tmps.getD (D i) undef) w) → (∀ i j, i < n → j < n → i ≠ j → ψ i j (a.tmps.getD (D i) undef) (a.tmps.getD (D j) undef)) → wpAny P md ops Q m (doneTo n m) a w) :
    ∀ (k : Nat) (s : List Nat) (listed : Array Bool) (a : Act) (w : World), s.length = k → s.Nodup → (∀ i ∈ s, i < n) → (∀ i, i < n → (listed.getD i false = false ↔ i ∈ s)) → listed.size = n + m → (∀ j, n ≤ j → listed.getD j false = false) → DownTo md ops listed → FrameIs a0 n D a → Below x.heap.size x w →
      (∀ i, i < n → listed.getD i false = true → φ i (a.tmps.getD (D i) undef) w) → (∀ i j, i < n → j < n → i ≠ j → listed.getD i false = true → listed.getD j false = true → ψ i j (a.tmps.getD (D i) undef) (a.tmps.getD (D j) undef)) → wpAny P md ops Q (m + k) listed a w := by
  have hsz := preOk_size hok
  intro k
  induction k with
  | zero =>
    intro s listed a w hs hnd hsn hun hz hrs hD hF hJ hφ hψ
    have e : s = [] := List.eq_nil_of_length_eq_zero hs
    have hall : ∀ i, i < n → listed.getD i false = true := fun i hi => by
      cases hx : listed.getD i false with
      | true => rfl
      | false => have := (hun i hi).1 hx; rw [e] at this; cases this
    rw [doneTo_is hz hall hrs]
    exact hrest a w hF hJ (fun i hi => hφ i hi (hall i hi)) (fun i j hi hj hij => hψ i j hi hj hij (hall i hi) (hall j hj))
  | succ k ih =>
    intro s listed a w hs hnd hsn hun hz hrs hD hF hJ hφ hψ
    have hnot : ¬ ∀ i, i < n → listed.getD i false = true := fun h => by
      cases s with
      | nil => simp at hs
      | cons p r =>
        have hp := hsn p (by simp)
        have := (hun p hp).2 (by simp)
        rw [h p hp] at this; cases this
    refine ⟨fun hr => ?_, fun i hi => ?_⟩
    · exfalso
      refine hnot fun i => ?_
      induction i using Nat.strongRecOn with
      | ind i ihi =>
        intro hin
        cases hx : listed.getD i false with
        | true => rfl
        | false =>
          have hio : i < ops.size := by omega
          have ho : ops[i]? = some ops[i] := Array.getElem?_eq_getElem hio
          have hm : i ∈ Region.ready md ops listed := by
            rw [mem_ready]
            refine ⟨?_, _, ho, fun e he hb => ihi e.on ((preOk_at hok hin ho).2.2.2 e he hb) (by have := (preOk_at hok hin ho).2.2.2 e he hb; omega)⟩
            have hl : i < listed.size := by omega
            simp [Array.getElem?_eq_getElem hl] at hx ⊢
            exact hx
          rw [hr] at hm
          cases hm
    · obtain ⟨h0, o, ho, hpre⟩ := mem_ready.1 hi
      have hlt : i < n + m := by
        have := (Array.getElem?_eq_some_iff.1 ho).1
        omega
      have hl : i < listed.size := by omega
      have hi0 : listed.getD i false = false := by
        simp [Array.getElem?_eq_getElem hl] at h0 ⊢
        exact h0
      by_cases hin : i < n
      · have his : i ∈ s := (hun i hin).1 hi0
        obtain ⟨hDi, hdst, hgd, hed⟩ := preOk_at hok hin ho
        have hst := hstep i o hin ho a w hF hJ (fun e he hb => hφ e.on (by have := hed e he hb; omega) (hpre e he hb))
        have hw : Region.wanted o (yielded ops a.tmps) = true := by simp [Region.wanted, hgd]
        unfold wpOp
        simp only [ho]
        rw [if_pos hw]
        refine .inl (Oper.wp_mono ?_ hst)
        rintro a' w' ⟨v, rfl, hv, hB, hpair⟩
        have hszD : D i < a.tmps.size := by rw [hF.2.1]; exact hDi
        refine ih (s.erase i) (listed.setIfInBounds i true) _ w' ?_ (hnd.erase i) (fun j hj => hsn j (List.mem_of_mem_erase hj)) ?_ (by simp [hz]) ?_ ?_ ?_ (hJ.trans (hB.mono hJ.size)) ?_ ?_
        · rw [List.length_erase_of_mem his]; omega
        · intro j hj
          by_cases hne : j = i
          · subst hne
            constructor
            · intro hu; simp [hl] at hu
            · intro hu; exact absurd hu (List.Nodup.not_mem_erase hnd)
          · rw [getD_set_ne false (Ne.symm hne), List.mem_erase_of_ne hne]
            exact hun j hj
        · intro j hj
          rw [getD_set_ne false (by omega)]; exact hrs j hj
        · intro j hj q hq
          have keep : ∀ p, listed.getD p false = true → (listed.setIfInBounds i true).getD p false = true := fun p hp => by
            by_cases e : p = i
            · subst e; simp [hl]
            · rw [getD_set_ne false (Ne.symm e)]; exact hp
          by_cases hne : j = i
          · subst hne
            obtain ⟨e, he, hb, rfl⟩ := deps_mem ho hq
            exact keep _ (hpre e he hb)
          · rw [getD_set_ne false (Ne.symm hne)] at hj
            exact keep _ (hD j hj q hq)
        · refine ⟨hF.1, by simp [Act.put, hF.2.1], fun q hq => ?_⟩
          have := hF.2.2 q hq
          rw [← this]
          simp [Act.put, Array.getElem?_setIfInBounds_ne (hq i hin)]
        · intro j hjn hj
          by_cases hne : j = i
          · subst hne
            simp [Act.put, hszD]
            exact hv
          · rw [getD_set_ne false (Ne.symm hne)] at hj
            have hd : D i ≠ D j := fun e => hne (hinj j hjn i hin e.symm)
            have e : (a.put (some (D i)) v).tmps.getD (D j) undef = a.tmps.getD (D j) undef := by
              simp [Act.put, Array.getElem?_setIfInBounds_ne hd]
            rw [e]
            exact hstab j _ _ _ (hφ j hjn hj) hB
        · have own : (a.put (some (D i)) v).tmps.getD (D i) undef = v := by simp [Act.put, hszD]
          have oth : ∀ j, j < n → j ≠ i → (a.put (some (D i)) v).tmps.getD (D j) undef = a.tmps.getD (D j) undef := fun j hjn hne => by
            have hd : D i ≠ D j := fun e => hne (hinj j hjn i hin e.symm)
            simp [Act.put, Array.getElem?_setIfInBounds_ne hd]
          intro p q hp hq hpq hlp hlq
          by_cases ep : p = i
          · subst ep
            rw [getD_set_ne false hpq] at hlq
            rw [own, oth q hq (Ne.symm hpq)]
            exact (hpair q _ hq (Ne.symm hpq) (hφ q hq hlq)).1
          · rw [getD_set_ne false (Ne.symm ep)] at hlp
            by_cases eq : q = i
            · subst eq
              rw [own, oth p hp ep]
              exact (hpair p _ hp ep (hφ p hp hlp)).2
            · rw [getD_set_ne false (Ne.symm eq)] at hlq
              rw [oth p hp ep, oth q hq eq]
              exact hψ p q hp hq hpq hlp hlq
      · exfalso
        obtain ⟨j, rfl⟩ : ∃ j, i = n + j := ⟨i - n, by omega⟩
        exact hnot (preOk_all (j := j) hok (by omega) hD (fun q hq => by obtain ⟨e, he, hb, rfl⟩ := deps_mem ho hq; exact hpre e he hb))
theorem rep_no (n i : Nat) : (Array.replicate n false).getD i false = false := by by_cases h : i < n <;> simp [h]
/-- One alone that may come up. -/
theorem anyOne {P : Program} {md : Region.Mode} {ops : Array Oper} {Q : Exit → Act → World → Prop} (i : Nat) {d : Option Nat} {op : Op} {ty : TypeId} {pos : String} {after : Array Edge} {fuel : Nat} {listed : Array Bool} {a : Act} {w : World} (hr : Region.ready md ops listed = [i]) (hi : ops[i]? = some ⟨d, op, ty, pos, after, none⟩)
    (h : Oper.wp P ⟨d, op, ty, pos, after, none⟩ a w (wpAny P md ops Q fuel (listed.setIfInBounds i true)) Q) : wpAny P md ops Q (fuel + 1) listed a w := by
  refine ⟨fun e => ?_, fun j hj => ?_⟩
  · rw [hr] at e; cases e
  · rw [hr] at hj
    obtain rfl := List.mem_singleton.1 hj
    unfold wpOp
    simp only [hi]
    rw [if_pos (show Region.wanted _ _ = true from rfl)]
    exact .inl h
theorem anyEnd {P : Program} {md : Region.Mode} {ops : Array Oper} {Q : Exit → Act → World → Prop} {listed : Array Bool} {a : Act} {w : World} (hr : Region.ready md ops listed = []) (h : Q .normal a w) : wpAny P md ops Q 0 listed a w := ⟨hr, h⟩
end Go.Proofs.Ytenefjnahanfbaa
