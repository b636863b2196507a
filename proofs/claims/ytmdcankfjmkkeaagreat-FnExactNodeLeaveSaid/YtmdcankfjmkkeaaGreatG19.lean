/- Turns, plain: right ones, whose turn it is next, and that each of the same ones has its turn at least twice within three times as many turns as there are. No program. -/
import Derived.Test.YtmdcankfjmkkeaaGreatG9
namespace Go.Proofs.YtmdcankfjmkkeaaGreat
open Go Go.RowKit
set_option linter.unusedVariables false

/-- Nodes, no two alike. -/
def nodesT (l : List Int) : Prop := (∀ n ∈ l, 1 ≤ n ∧ n ≤ 6) ∧ l.Pairwise (· ≠ ·)
theorem nodesT_nil : nodesT [] := ⟨fun n h => absurd h (by simp), List.Pairwise.nil⟩
theorem nodesT_sub {l m : List Int} (h : nodesT l) (s : List.Sublist m l) : nodesT m := ⟨fun n hn => h.1 n (s.subset hn), h.2.sublist s⟩
theorem nodesT_perm {l m : List Int} (h : nodesT l) (p : m.Perm l) : nodesT m := ⟨fun n hn => h.1 n (p.mem_iff.1 hn), (p.pairwise_iff (fun {a b} (q : a ≠ b) => q.symm)).2 h.2⟩
theorem pairT_snoc {l : List Int} {x : Int} : (l ++ [x]).Pairwise (· ≠ ·) ↔ l.Pairwise (· ≠ ·) ∧ x ∉ l := by
  rw [List.pairwise_append]
  constructor
  · rintro ⟨h1, _, h3⟩
    exact ⟨h1, fun hx => h3 x hx x (by simp) rfl⟩
  · rintro ⟨h1, h2⟩
    exact ⟨h1, List.pairwise_singleton _ _, fun y hy z hz => by rw [List.mem_singleton.1 hz]; exact fun e => h2 (e ▸ hy)⟩
theorem nodesT_step {l : List Int} {k : Nat} (hk : k < l.length) : nodesT (l.take (k + 1)) ↔ nodesT (l.take k) ∧ (1 ≤ l[k] ∧ l[k] ≤ 6) ∧ l[k] ∉ l.take k := by
  rw [List.take_succ_eq_append_getElem hk]
  unfold nodesT
  rw [pairT_snoc]
  constructor
  · rintro ⟨h1, h2, h3⟩
    exact ⟨⟨fun n hn => h1 n (List.mem_append.2 (.inl hn)), h2⟩, h1 _ (List.mem_append.2 (.inr (List.mem_singleton.2 rfl))), h3⟩
  · rintro ⟨⟨h1, h2⟩, h3, h4⟩
    refine ⟨fun n hn => ?_, h2, h4⟩
    rcases List.mem_append.1 hn with h | h
    · exact h1 n h
    · rw [List.mem_singleton.1 h]; exact h3
theorem fewT (n : Nat) (l : List Int) (h1 : l.Pairwise (· ≠ ·)) (h2 : ∀ x ∈ l, 1 ≤ x ∧ x ≤ n) : l.length ≤ n := by
  induction n generalizing l with
  | zero =>
    cases l with
    | nil => simp
    | cons x r => have := h2 x (by simp); omega
  | succ n ih =>
    have hf : ∀ (a : Int) (l : List Int), l.Pairwise (· ≠ ·) → l.length ≤ (l.filter (fun x => decide (x ≠ a))).length + 1 := by
      intro a l
      induction l with
      | nil => intro _; simp
      | cons x r ihr =>
        intro hp
        obtain ⟨hx, hr⟩ := List.pairwise_cons.1 hp
        by_cases e : x = a
        · have : r.filter (fun x => decide (x ≠ a)) = r := List.filter_eq_self.2 fun y hy => decide_eq_true (fun q => hx y hy (e.trans q.symm))
          rw [List.filter_cons_of_neg (by simp [e]), this]
          simp
        · rw [List.filter_cons_of_pos (by simpa using e)]
          have := ihr hr
          simp only [List.length_cons]
          omega
    have h3 := hf ((n + 1 : Nat) : Int) l h1
    have h4 := ih (l.filter (fun x => decide (x ≠ ((n + 1 : Nat) : Int)))) (h1.sublist List.filter_sublist) (fun x hx => by
      obtain ⟨q1, q2⟩ := List.mem_filter.1 hx
      have q3 := of_decide_eq_true q2
      have := h2 x q1
      omega)
    omega
theorem nodesT_len {l : List Int} (h : nodesT l) : l.length ≤ 6 := fewT 6 l h.2 h.1
/-- A turn. -/
structure TurnV where
  list : List Int
  at0 : Int
def TurnV.ok (t : TurnV) : Prop := nodesT t.list ∧ 0 ≤ t.at0 ∧ t.at0 ≤ t.list.length
/-- What is asked of nodes and of a seed. -/
def askT (nodes : List Int) (seed : Int) : Prop := nodesT nodes ∧ rises nodes ∧ 0 ≤ seed ∧ seed ≤ 2147483647
/-- The place of the first one from there on that is one of nodes. -/
def FirstT (t : TurnV) (nodes : List Int) (i : Nat) : Prop := t.at0 ≤ i ∧ ∃ h : i < t.list.length, t.list[i] ∈ nodes ∧ ∀ j (hj : j < t.list.length), t.at0 ≤ j → j < i → t.list[j] ∉ nodes
def NoneT (t : TurnV) (nodes : List Int) : Prop := ∀ j (hj : j < t.list.length), t.at0 ≤ j → t.list[j] ∉ nodes
/-- An answer of TurnNext, plain. -/
structure TOutV where
  list : List Int
  at0 : Int
  node : Int
  seed : Int
  code : Int
def TNextIs (t : TurnV) (nodes : List Int) (seed : Int) (o : TOutV) : Prop :=
  (400 < nodes.length ∧ o = ⟨[], 0, 0, 0, 2⟩) ∨ (nodes.length ≤ 400 ∧ ¬ (t.ok ∧ askT nodes seed) ∧ o = ⟨[], 0, 0, 0, 1⟩) ∨ (t.ok ∧ askT nodes seed ∧ nodes = [] ∧ o = ⟨[], 0, 0, 0, 6⟩) ∨
  (t.ok ∧ askT nodes seed ∧ nodes ≠ [] ∧ ∃ i, FirstT t nodes i ∧ o = ⟨t.list, (i : Int) + 1, t.list.getD i 0, seed, 0⟩) ∨
  (t.ok ∧ askT nodes seed ∧ nodes ≠ [] ∧ NoneT t nodes ∧ o = ⟨(mixL (nodes.length - 1) nodes seed).1, 1, (mixL (nodes.length - 1) nodes seed).1.getD 0 0, (mixL (nodes.length - 1) nodes seed).2, 0⟩)
theorem firstT_or (t : TurnV) (nodes : List Int) (h0 : 0 ≤ t.at0) : NoneT t nodes ∨ ∃ i, FirstT t nodes i := by
  by_cases h : NoneT t nodes
  · exact .inl h
  · right
    have hex : ∃ i, ∃ h : i < t.list.length, t.at0 ≤ i ∧ t.list[i] ∈ nodes := by
      by_cases c : ∃ i, ∃ h : i < t.list.length, t.at0 ≤ i ∧ t.list[i] ∈ nodes
      · exact c
      · exact absurd (fun j hj hle hm => c ⟨j, hj, hle, hm⟩) h
    have hmin : ∀ n, (∃ i, i ≤ n ∧ ∃ h : i < t.list.length, t.at0 ≤ i ∧ t.list[i] ∈ nodes) → ∃ i, FirstT t nodes i := by
      intro n
      induction n with
      | zero =>
        rintro ⟨i, hi, h, h1, h2⟩
        obtain rfl : i = 0 := by omega
        exact ⟨0, h1, h, h2, fun j _ _ hj => by omega⟩
      | succ n ih =>
        rintro ⟨i, hi, h, h1, h2⟩
        by_cases c : ∃ i, i ≤ n ∧ ∃ h : i < t.list.length, t.at0 ≤ i ∧ t.list[i] ∈ nodes
        · exact ih c
        · exact ⟨i, h1, h, h2, fun j hj hle hji hm => c ⟨j, by omega, hj, hle, hm⟩⟩
    obtain ⟨i, h, h1, h2⟩ := hex
    exact hmin i ⟨i, Nat.le_refl _, h, h1, h2⟩
theorem tnext_ex (t : TurnV) (nodes : List Int) (seed : Int) : ∃ o, TNextIs t nodes seed o := by
  by_cases h1 : 400 < nodes.length
  · exact ⟨_, .inl ⟨h1, rfl⟩⟩
  by_cases h2 : t.ok ∧ askT nodes seed
  · by_cases h3 : nodes = []
    · exact ⟨_, .inr (.inr (.inl ⟨h2.1, h2.2, h3, rfl⟩))⟩
    · rcases firstT_or t nodes h2.1.2.1 with h | ⟨i, h⟩
      · exact ⟨_, .inr (.inr (.inr (.inr ⟨h2.1, h2.2, h3, h, rfl⟩)))⟩
      · exact ⟨_, .inr (.inr (.inr (.inl ⟨h2.1, h2.2, h3, i, h, rfl⟩)))⟩
  · exact ⟨_, .inr (.inl ⟨by omega, h2, rfl⟩)⟩
/-- Those that are still to have their turn. -/
def restT (t : TurnV) (nodes : List Int) : List Int := (t.list.drop t.at0.toNat).filter fun n => decide (n ∈ nodes)
theorem rest_none {t : TurnV} {nodes : List Int} (h0 : 0 ≤ t.at0) (h : NoneT t nodes) : restT t nodes = [] := by
  unfold restT
  rw [List.filter_eq_nil_iff]
  intro n hn
  obtain ⟨j, hj, rfl⟩ := List.getElem_of_mem hn
  rw [List.length_drop] at hj
  rw [List.getElem_drop]
  have := h (t.at0.toNat + j) (by omega) (by omega)
  simpa using this
theorem rest_first {t : TurnV} {nodes : List Int} {i : Nat} (h0 : 0 ≤ t.at0) (h : FirstT t nodes i) : restT t nodes = t.list.getD i 0 :: restT ⟨t.list, (i : Int) + 1⟩ nodes := by
  obtain ⟨h1, hi, h2, h3⟩ := h
  unfold restT
  have e1 : t.list.drop t.at0.toNat = (t.list.drop t.at0.toNat).take (i - t.at0.toNat) ++ (t.list[i] :: t.list.drop (i + 1)) := by
    conv => lhs; rw [← List.take_append_drop (i - t.at0.toNat) (t.list.drop t.at0.toNat)]
    rw [List.drop_drop, show t.at0.toNat + (i - t.at0.toNat) = i by omega, List.drop_eq_getElem_cons hi]
  have e2 : ((t.list.drop t.at0.toNat).take (i - t.at0.toNat)).filter (fun n => decide (n ∈ nodes)) = [] := by
    rw [List.filter_eq_nil_iff]
    intro n hn
    obtain ⟨j, hj, rfl⟩ := List.getElem_of_mem hn
    rw [List.length_take, List.length_drop] at hj
    rw [List.getElem_take, List.getElem_drop]
    have := h3 (t.at0.toNat + j) (by omega) (by omega) (by omega)
    simpa using this
  rw [e1, List.filter_append, e2, List.nil_append, List.filter_cons_of_pos (by simpa using h2)]
  have e3 : t.list.getD i 0 = t.list[i] := by rw [List.getD_eq_getElem?_getD, List.getElem?_eq_getElem hi]; rfl
  have e4 : ((i : Int) + 1).toNat = i + 1 := by omega
  rw [e3, e4]
/-- An answer that may go on: its turn, its node, its seed. -/
def GoesT (nodes : List Int) (o : TOutV) : Prop := TurnV.ok ⟨o.list, o.at0⟩ ∧ (0 ≤ o.seed ∧ o.seed ≤ 2147483647) ∧ o.code = 0 ∧ o.node ∈ nodes
theorem tnext_goes {t : TurnV} {nodes : List Int} {seed : Int} {o : TOutV} (ht : t.ok) (ha : askT nodes seed) (hn : nodes ≠ []) (h : TNextIs t nodes seed o) :
    GoesT nodes o ∧ ((restT t nodes ≠ [] ∧ o.node :: restT ⟨o.list, o.at0⟩ nodes = restT t nodes) ∨ (restT t nodes = [] ∧ (o.node :: restT ⟨o.list, o.at0⟩ nodes).Perm nodes)) := by
  have hl := nodesT_len ha.1
  rcases h with ⟨h1, _⟩ | ⟨_, h2, _⟩ | ⟨_, _, h3, _⟩ | ⟨_, _, _, i, hi, rfl⟩ | ⟨_, _, _, hno, rfl⟩
  · omega
  · exact absurd ⟨ht, ha⟩ h2
  · exact absurd h3 hn
  · have hr := rest_first ht.2.1 hi
    obtain ⟨h1, hil, h2, h3⟩ := hi
    have e3 : t.list.getD i 0 = t.list[i] := by rw [List.getD_eq_getElem?_getD, List.getElem?_eq_getElem hil]; rfl
    refine ⟨⟨⟨ht.1, by show (0 : Int) ≤ (i : Int) + 1; omega, by show (i : Int) + 1 ≤ t.list.length; omega⟩, ⟨ha.2.2.1, ha.2.2.2⟩, rfl, by show t.list.getD i 0 ∈ nodes; rw [e3]; exact h2⟩, .inl ⟨by rw [hr]; simp, hr.symm⟩⟩
  · have hp : (mixL (nodes.length - 1) nodes seed).1.Perm nodes := mixL_perm _ nodes seed (by cases nodes with | nil => exact absurd rfl hn | cons _ _ => simp)
    have hln := hp.length_eq
    obtain ⟨x, r, hxr⟩ : ∃ x r, (mixL (nodes.length - 1) nodes seed).1 = x :: r := by
      cases hq : (mixL (nodes.length - 1) nodes seed).1 with
      | nil => rw [hq] at hln; exact absurd (List.eq_nil_of_length_eq_zero hln.symm) hn
      | cons x r => exact ⟨x, r, rfl⟩
    have hs := mixL_seed (nodes.length - 1) nodes seed ⟨ha.2.2.1, ha.2.2.2⟩
    refine ⟨⟨⟨nodesT_perm ha.1 hp, by show (0 : Int) ≤ 1; omega, ?_⟩, hs, rfl, ?_⟩, .inr ⟨rest_none ht.2.1 hno, ?_⟩⟩
    · show (1 : Int) ≤ ((mixL (nodes.length - 1) nodes seed).1.length : Nat)
      rw [hxr, List.length_cons]; omega
    · show (mixL (nodes.length - 1) nodes seed).1.getD 0 0 ∈ nodes
      rw [hxr]
      exact hp.mem_iff.1 (by rw [hxr]; simp)
    · have hf : restT ⟨(mixL (nodes.length - 1) nodes seed).1, 1⟩ nodes = r := by
        unfold restT
        dsimp only
        rw [hxr]
        show (List.drop 1 (x :: r)).filter _ = r
        rw [List.drop_one, List.tail_cons]
        exact List.filter_eq_self.2 fun y hy => decide_eq_true (hp.mem_iff.1 (by rw [hxr]; simp [hy]))
      show ((mixL (nodes.length - 1) nodes seed).1.getD 0 0 :: restT ⟨(mixL (nodes.length - 1) nodes seed).1, 1⟩ nodes).Perm nodes
      rw [hf]
      have e : (mixL (nodes.length - 1) nodes seed).1.getD 0 0 = x := by rw [hxr]; rfl
      rw [e, ← hxr]
      exact hp
/-- So many turns: what was told, and what is told next. -/
def ToldT (nodes told R : List Int) (b : Nat) : Prop := (∀ v ∈ nodes, b ≤ manyL (told ++ R) v) ∧ told.length + R.length ≤ nodes.length * (b + 1) ∧ R.Pairwise (· ≠ ·)
theorem rest_pair {t : TurnV} (h : t.ok) (nodes : List Int) : (restT t nodes).Pairwise (· ≠ ·) := (h.1.2.sublist (List.drop_sublist _ _)).sublist List.filter_sublist
theorem sub_lenT {l m : List Int} (h : l.Pairwise (· ≠ ·)) (hs : ∀ v ∈ l, v ∈ m) : l.length ≤ m.length := by
  induction l generalizing m with
  | nil => simp
  | cons x r ih =>
    obtain ⟨hx, hr⟩ := List.pairwise_cons.1 h
    have hm := hs x (by simp)
    have h1 := ih (m := m.erase x) hr (fun v hv => (List.mem_erase_of_ne (Ne.symm (hx v hv))).2 (hs v (by simp [hv])))
    rw [List.length_erase_of_mem hm] at h1
    have : 0 < m.length := List.length_pos_of_mem hm
    simp only [List.length_cons]
    omega
theorem rest_len {t : TurnV} (h : t.ok) {nodes : List Int} (hn : nodesT nodes) : (restT t nodes).length ≤ nodes.length := by
  have hp := rest_pair h nodes
  have hs : ∀ v ∈ restT t nodes, v ∈ nodes := fun v hv => by simpa using (List.mem_filter.1 hv).2
  exact sub_lenT hp hs
theorem many_append (l m : List Int) (v : Int) : manyL (l ++ m) v = manyL l v + manyL m v := by unfold manyL; exact List.count_append
theorem many_pair {l : List Int} (h : l.Pairwise (· ≠ ·)) (v : Int) : manyL l v ≤ 1 := by
  unfold manyL
  induction l with
  | nil => simp
  | cons x r ih =>
    obtain ⟨hx, hr⟩ := List.pairwise_cons.1 h
    rw [List.count_cons]
    by_cases e : x = v
    · subst e
      have : r.count x = 0 := List.count_eq_zero.2 (fun hm => hx x hm rfl)
      simp [this]
    · have := ih hr
      simp [e]; omega
theorem many_in {l : List Int} (h : l.Pairwise (· ≠ ·)) {v : Int} (hv : v ∈ l) : manyL l v = 1 := by
  have h1 := many_pair h v
  have h2 : 0 < manyL l v := List.count_pos_iff.2 hv
  omega
theorem told_0 {t : TurnV} {nodes : List Int} {seed : Int} {o : TOutV} (ht : t.ok) (ha : askT nodes seed) (hn : nodes ≠ []) (h : TNextIs t nodes seed o) : ∃ b, ToldT nodes [] (o.node :: restT ⟨o.list, o.at0⟩ nodes) b := by
  obtain ⟨hg, hr⟩ := tnext_goes ht ha hn h
  rcases hr with ⟨_, e⟩ | ⟨_, p⟩
  · refine ⟨0, fun v _ => Nat.zero_le _, ?_, ?_⟩
    · rw [e]
      have := rest_len ht ha.1
      simpa using this
    · rw [e]; exact rest_pair ht nodes
  · refine ⟨0, fun v _ => Nat.zero_le _, ?_, (p.pairwise_iff (fun {a b} (q : a ≠ b) => q.symm)).2 ha.1.2⟩
    rw [p.length_eq]
    simp
theorem told_next {nodes told : List Int} {b : Nat} {o o' : TOutV} (hn : nodes ≠ []) (hk : nodesT nodes) (hri : rises nodes) (hg : GoesT nodes o) (h : ToldT nodes told (o.node :: restT ⟨o.list, o.at0⟩ nodes) b) (h' : TNextIs ⟨o.list, o.at0⟩ nodes o.seed o') :
    GoesT nodes o' ∧ ∃ b', ToldT nodes (told ++ [o.node]) (o'.node :: restT ⟨o'.list, o'.at0⟩ nodes) b' := by
  obtain ⟨hg', hr⟩ := tnext_goes hg.1 ⟨hk, hri, hg.2.1.1, hg.2.1.2⟩ hn h'
  obtain ⟨h1, h2, h3⟩ := h
  refine ⟨hg', ?_⟩
  rcases hr with ⟨_, e⟩ | ⟨e0, p⟩
  · rw [e]
    refine ⟨b, fun v hv => ?_, ?_, (List.pairwise_cons.1 h3).2⟩
    · have := h1 v hv
      rw [List.append_assoc]; exact this
    · simp only [List.length_cons, List.length_append, List.length_nil] at h2 ⊢
      omega
  · rw [e0] at h1 h2
    refine ⟨b + 1, fun v hv => ?_, ?_, (p.pairwise_iff (fun {a b} (q : a ≠ b) => q.symm)).2 hk.2⟩
    · have q1 := h1 v hv
      have q2 : manyL (o'.node :: restT ⟨o'.list, o'.at0⟩ nodes) v = manyL nodes v := p.count_eq v
      rw [many_append, q2, many_in hk.2 hv]
      omega
    · rw [p.length_eq]
      simp only [List.length_cons, List.length_append, List.length_nil] at h2 ⊢
      rw [Nat.mul_add nodes.length (b + 1) 1]
      omega
theorem told_end {nodes told R : List Int} {b : Nat} (hn : nodes ≠ []) (h : ToldT nodes told R b) (hl : told.length = 3 * nodes.length) : ∀ v ∈ nodes, 2 ≤ manyL told v := by
  intro v hv
  obtain ⟨h1, h2, h3⟩ := h
  have q := h1 v hv
  rw [many_append] at q
  have hr := many_pair h3 v
  have hp : 0 < nodes.length := List.length_pos_of_mem hv
  rw [hl] at h2
  by_cases hb : 3 ≤ b
  · omega
  · have hb2 : b = 2 := by
      have : b < 2 ∨ b = 2 := by omega
      rcases this with c | c
      · exfalso
        have : nodes.length * (b + 1) ≤ nodes.length * 2 := Nat.mul_le_mul_left _ (by omega)
        omega
      · exact c
    subst hb2
    have hR : R.length = 0 := by omega
    have : R = [] := List.eq_nil_of_length_eq_zero hR
    subst this
    have e : manyL [] v = 0 := rfl
    omega
end Go.Proofs.YtmdcankfjmkkeaaGreat
/- The contracts of chapter 3's specification: what chance tells. -/
namespace Go.Proofs.YtmdcankfjmkkeaaGreat
open Go Go.RowKit
set_option linter.unusedVariables false

theorem l02Is_any (n low high : Int) (w : World) :
    Calls Tryz.prog 145 #[.int .i64 n, .int .i64 low, .int .i64 high] w fun e w' => e = .returned (.bool (decide (low ≤ n) && decide (n ≤ high))) ∧ w' = w := by
  by_cases h1 : low ≤ n
  · by_cases h2 : n ≤ high
    · have HD : Hid ((decide (low ≤ n) && decide (n ≤ high)) = true) := by show _ = _; simp [h1, h2]
      go_enter Tryz.func145, Tryz.ntmps145
      go_wp2
      go_ret
      exact ⟨ret_boolE HD.out.symm, rfl⟩
    · have HD : Hid ((decide (low ≤ n) && decide (n ≤ high)) = false) := by show _ = _; simp [h2]
      have hd2 : decide (n ≤ high) = false := decide_eq_false h2
      go_enter Tryz.func145, Tryz.ntmps145
      go_wp2
      go_ret
      first
        | exact ⟨ret_boolE HD.out.symm, rfl⟩
        | exact ⟨ret_boolE hd2.symm, rfl⟩
        | exact ⟨rfl, rfl⟩
  · have HD : Hid ((decide (low ≤ n) && decide (n ≤ high)) = false) := by show _ = _; simp [h1]
    go_enter Tryz.func145, Tryz.ntmps145
    go_wp2
    go_ret
    exact ⟨ret_boolE HD.out.symm, rfl⟩
theorem l02Seed_any (n : Int) (w : World) :
    Calls Tryz.prog 84 #[.int .i64 n] w fun e w' => e = .returned (.bool (decide (0 ≤ n) && decide (n ≤ 2147483647))) ∧ w' = w := by
  go_enter Tryz.func84, Tryz.ntmps84
  go_wp2_with fail
  refine (l02Is_any n 0 2147483647 _).mono ?_
  rintro e x1 ⟨rfl, rfl⟩
  go_wp2
  go_ret
  exact ⟨rfl, rfl⟩
theorem two_kept {w w2 : World} {x y : Value} {t : Nat} (hb : Below (w.alloc (.cells #[x, y] t)).heap.size (w.alloc (.cells #[x, y] t)) w2) :
    w2.cell? ⟨w.heap.size, 0, none⟩ = some x ∧ w2.cell? ⟨w.heap.size, 1, none⟩ = some y ∧ w2.frozen? ⟨w.heap.size, 0, none⟩ = false ∧ w2.frozen? ⟨w.heap.size, 1, none⟩ = false := by
  refine ⟨?_, ?_, ?_, ?_⟩
  · rw [hb.cell (by simp), World.cell?_alloc_at _ _ _ _ rfl]; rfl
  · rw [hb.cell (by simp), World.cell?_alloc_at _ _ _ _ rfl]; rfl
  · rw [hb.frozen (by simp)]; simp
  · rw [hb.frozen (by simp)]; simp
theorem two_below {w w2 : World} {x y : Value} (hb : Below w.heap.size w w2) : Below w.heap.size w ((w2.setCell ⟨w.heap.size, 0, none⟩ x).setCell ⟨w.heap.size, 1, none⟩ y) :=
  (hb.setCell (Nat.le_refl _) _).setCell (Nat.le_refl _) _
/-- What chance tells. -/
def chanceV (seed most : Int) : Int × Int := if (0 ≤ seed ∧ seed ≤ 2147483647) ∧ 1 ≤ most ∧ most ≤ 1000000 then (nextS seed, drawN seed most) else (0, 0)
def chanceOut (r : Int × Int) : Value := .agg #[.int .i64 r.1, .int .i64 r.2]
set_option maxHeartbeats 1000000 in
set_option maxRecDepth 100000 in
theorem l02Draw_any (seed most : Int) (w : World) (h0 : 0 ≤ seed) (h1 : seed ≤ 2147483647) (h2 : 1 ≤ most) (h3 : most ≤ 1000000) :
    Calls Tryz.prog 221 #[.int .i64 seed, .int .i64 most] w fun e w' => e = .returned (chanceOut (nextS seed, drawN seed most)) ∧ Below w.heap.size w w' := by
  have hnb := nextS_bd seed
  have hdb := drawN_bd seed h2
  have hns : nextS seed = (seed * 91813 + 30011) % 2147483648 := rfl
  have hw1 : IntKind.i64.wrap (seed * 91813) = seed * 91813 := by rw [IntKind.wrap_i64]; omega
  have hw2 : IntKind.i64.wrap (seed * 91813 + 30011) = seed * 91813 + 30011 := by rw [IntKind.wrap_i64]; omega
  go_enter Tryz.func221, Tryz.ntmps221
  go_wp2
  exact bodyPost_ret (v := .agg #[.int .i64 (nextS seed), .int .i64 (drawN seed most)]) (by simp [results, Tryz.results221, go_sem, nextS, drawN]) rfl ⟨rfl, (Below.refl _ _).alloc (Nat.le_refl _) _⟩

theorem chance_yes {seed most : Int} (h1 : (decide (0 ≤ seed) && decide (seed ≤ 2147483647)) = true) (h2 : (decide (1 ≤ most) && decide (most ≤ 1000000)) = true) : chanceV seed most = (nextS seed, drawN seed most) := by
  simp at h1 h2
  exact if_pos ⟨h1, h2⟩
theorem chance_no1 {seed most : Int} (h1 : (decide (0 ≤ seed) && decide (seed ≤ 2147483647)) = false) : chanceV seed most = (0, 0) := by
  simp at h1
  exact if_neg (fun h => by have := h1 h.1.1; omega)
theorem chance_no2 {seed most : Int} (h2 : (decide (1 ≤ most) && decide (most ≤ 1000000)) = false) : chanceV seed most = (0, 0) := by
  simp at h2
  exact if_neg (fun h => by have := h2 h.2.1; omega)
end Go.Proofs.YtmdcankfjmkkeaaGreat
