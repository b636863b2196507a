/- The contracts of the program's tests of nodes and of a turn, and of its rows. -/
import Derived.Test.YtmdcankfjmkkeaaTSpecA
import Derived.Test.YtmdcankfjmkkeaaG28
import Derived.Test.YtmdcankfjmkkeaaG25
import Derived.WalkMore
import Derived.Test.YtmdcankfjmkkeaaG6
import Derived.Test.YtmdcankfjmkkeaaG13
namespace Go.Proofs.Ytmdcankfjmkkeaa
open Go Go.RowKit
set_option linter.unusedVariables false
set_option linter.unusedSimpArgs false

theorem implNode_any (n : Int) (w : World) : Calls Try.prog 48 #[.int .i64 n] w fun e w' => e = .returned (.bool (decide (1 ≤ n) && decide (n ≤ 6))) ∧ w' = w := by
  by_cases h1 : 1 ≤ n
  · have HD : Hid ((decide (1 ≤ n) && decide (n ≤ 6)) = decide (n ≤ 6)) := by show _ = _; simp [h1]
    go_enter Try.func48, Try.ntmps48
    go_wp2
    go_ret
    exact ⟨ret_boolE HD.out.symm, rfl⟩
  · have HD : Hid ((decide (1 ≤ n) && decide (n ≤ 6)) = false) := by show _ = _; simp [h1]
    go_enter Try.func48, Try.ntmps48
    go_wp2
    go_ret
    exact ⟨ret_boolE HD.out.symm, rfl⟩
/-- All of them are nodes. -/
def allT (l : List Int) : Prop := ∀ n ∈ l, 1 ≤ n ∧ n ≤ 6
theorem allT_step {l : List Int} {k : Nat} (hk : k < l.length) : allT (l.take (k + 1)) ↔ allT (l.take k) ∧ (1 ≤ l[k] ∧ l[k] ≤ 6) := by
  rw [List.take_succ_eq_append_getElem hk]
  unfold allT
  constructor
  · intro h
    exact ⟨fun n hn => h n (List.mem_append.2 (.inl hn)), h _ (List.mem_append.2 (.inr (List.mem_singleton.2 rfl)))⟩
  · rintro ⟨h1, h2⟩ n hn
    rcases List.mem_append.1 hn with h | h
    · exact h1 n h
    · rw [List.mem_singleton.1 h]; exact h2
set_option maxHeartbeats 1000000 in
set_option maxRecDepth 100000 in
theorem allNodes_is (a : Option Addr) (cap : Nat) (l : List Int) (w : World) (r : Bool) (hr : r = true ↔ allT l) (hl : l.length ≤ 1048576) (hrow : NumRow w a l) :
    Calls Try.prog 69 #[.slice a l.length cap] w fun e w' => e = .returned (.bool r) ∧ w' = w := by
  have HR : Hid (r = true ↔ allT l) := hr
  clear hr
  have HNO : Hid (¬ allT l → r = false) := fun h => by
    cases r with
    | false => rfl
    | true => exact absurd (HR.out.1 rfl) h
  go_enter Try.func69, Try.ntmps69
  go_wp2
  go_loop [7] (fun i => ∃ k : Nat, k ≤ l.length ∧ i = .int .i64 k ∧ allT (l.take k)) (fun i => l.length - (intOf i).toNat)
  case atStart => exact ⟨0, Nat.zero_le _, rfl, fun n h => by simp at h⟩
  case round =>
    obtain ⟨k, hk, rfl, hn⟩ := hrel
    have HN : Hid (allT (l.take k)) := hn
    clear hn
    by_cases hx : k < l.length
    · obtain ⟨b, off, rfl, hlt, hc⟩ := hrow.addrN (by omega)
      have hck := hc k hx
      have HST : Hid (allT (l.take (k + 1)) ↔ allT (l.take k) ∧ (1 ≤ l[k] ∧ l[k] ≤ 6)) := allT_step hx
      obtain ⟨x, hxx⟩ : ∃ x, l[k] = x := ⟨_, rfl⟩
      rw [hxx] at hck HST
      have HX : Hid (l[k] = x) := hxx
      clear hc hxx
      obtain ⟨q, hq⟩ : ∃ q, (decide (1 ≤ x) && decide (x ≤ 6)) = q := ⟨_, rfl⟩
      have HQ : Hid ((decide (1 ≤ x) && decide (x ≤ 6)) = q) := hq
      clear hq
      go_wp2_with fail
      refine (implNode_any x _).mono ?_
      rintro e z ⟨rfl, rfl⟩
      rw [HQ.out]
      cases q with
      | false =>
        have hf : r = false := HNO.out (fun h => by
          have h1 := h x (HX.out ▸ List.getElem_mem hx)
          have := HQ.out
          simp [h1.1, h1.2] at this)
        subst hf
        clear HST HN HQ HR HNO
        go_wp2
        go_ret
        exact ⟨rfl, rfl⟩
      | true =>
        have HN2 : Hid (allT (l.take (k + 1))) := HST.out.2 ⟨HN.out, by have := HQ.out; simpa using this⟩
        clear HST HN HQ
        go_wp2
        go_round
        case rel => exact ⟨k + 1, by omega, by go_num, HN2.out⟩
        case measure => simp [intOf]; omega
    · obtain rfl : k = l.length := by omega
      have ht : r = true := HR.out.2 (by have := HN.out; rwa [List.take_length] at this)
      subst ht
      clear HN HR HNO
      go_wp2
      go_ret
      exact ⟨rfl, rfl⟩
/-- Where a number stands, if it does. -/
def IdxT (l : List Int) (n : Int) (e : Ending) : Prop := ∃ i : Int, e = .returned (.int .i64 i) ∧ (0 ≤ i ↔ n ∈ l)
set_option maxHeartbeats 1000000 in
set_option maxRecDepth 100000 in
theorem index_any (a : Option Addr) (cap : Nat) (l : List Int) (n : Int) (w : World) (hl : l.length ≤ 1048576) (hrow : NumRow w a l) :
    Calls Try.prog 96 #[.slice a l.length cap, .int .i64 n] w fun e w' => IdxT l n e ∧ w' = w := by
  go_enter Try.func96, Try.ntmps96
  go_wp2
  go_loop [8] (fun i => ∃ k : Nat, k ≤ l.length ∧ i = .int .i64 k ∧ ¬ n ∈ l.take k) (fun i => l.length - (intOf i).toNat)
  case atStart => exact ⟨0, Nat.zero_le _, rfl, by simp⟩
  case round =>
    obtain ⟨k, hk, rfl, hn⟩ := hrel
    have HN : Hid (¬ n ∈ l.take k) := hn
    clear hn
    by_cases hx : k < l.length
    · obtain ⟨b, off, rfl, hlt, hc⟩ := hrow.addrN (by omega)
      have hck := hc k hx
      obtain ⟨x, hxx⟩ : ∃ x, l[k] = x := ⟨_, rfl⟩
      rw [hxx] at hck
      have HX : Hid (l[k] = x) := hxx
      clear hc hxx
      by_cases e : n = x
      · subst e
        have HM : Hid (n ∈ l) := by have := List.getElem_mem hx; rw [HX.out] at this; exact this
        go_wp2
        go_ret
        exact ⟨⟨_, rfl, fun _ => HM.out, fun _ => by omega⟩, rfl⟩
      · have eb : (n == x) = false := by simp [e]
        go_wp2
        go_round
        case rel => exact ⟨k + 1, by omega, by go_num, by
          rw [List.take_succ_eq_append_getElem hx, List.mem_append, HX.out]
          rintro (q | q)
          · exact HN.out q
          · simp at q; exact e q⟩
        case measure => simp [intOf]; omega
    · have HM : Hid (¬ n ∈ l) := fun q => HN.out (by rw [List.take_of_length_le (by omega)]; exact q)
      go_wp2
      go_ret
      exact ⟨⟨_, rfl, fun h => absurd h (by omega), fun h => absurd h HM.out⟩, rfl⟩
set_option maxRecDepth 100000 in
theorem contains_any (a : Option Addr) (cap : Nat) (l : List Int) (n : Int) (w : World) (hl : l.length ≤ 1048576) (hrow : NumRow w a l) :
    Calls Try.prog 70 #[.slice a l.length cap, .int .i64 n] w fun e w' => e = .returned (.bool (decide (n ∈ l))) ∧ w' = w := by
  go_enter Try.func70, Try.ntmps70
  go_wp2_with fail
  refine (index_any a cap l n _ hl hrow).mono ?_
  rintro e z ⟨⟨i, rfl, hi⟩, rfl⟩
  have HI : Hid (0 ≤ i ↔ n ∈ l) := hi
  clear hi
  go_wp2
  go_ret
  exact ⟨ret_boolE (decide_eq_decide.2 HI.out), rfl⟩
/-- A row of a slice. -/
def rowA (a : Option Addr) (i j : Nat) : Option Addr := if j = i then a else a.map (·.add i)
theorem rowA_row {w : World} {a : Option Addr} {l : List Int} (h : NumRow w a l) {i j : Nat} (hij : i ≤ j) (hj : j ≤ l.length) : NumRow w (rowA a i j) ((l.drop i).take (j - i)) := by
  by_cases e : j = i
  · exact .inl (by rw [e]; simp)
  · obtain ⟨b, off, rfl, hlt, hc⟩ := h.addrN (by omega)
    refine .inr ⟨b, off + i, ?_, hlt, fun q hq => ?_⟩
    · unfold rowA
      rw [if_neg e]
      by_cases e0 : i = 0 <;> simp [Addr.add, e0]
    · rw [List.length_take, List.length_drop] at hq
      rw [Nat.add_assoc, hc (i + q) (by omega), List.getElem_take, List.getElem_drop]
set_option maxHeartbeats 1000000 in
set_option maxRecDepth 100000 in
theorem rowOf_any (a : Option Addr) (len cap i j : Nat) (w : World) (hij : i ≤ j) (hj : j ≤ cap) :
    Calls Try.prog 71 #[.slice a len cap, .int .i64 i, .int .i64 j] w fun e w' => e = .returned (.slice (rowA a i j) (j - i) (j - i)) ∧ w' = w := by
  have h1 : (0 : Int) ≤ (i : Int) := by omega
  have h2 : (i : Int) ≤ (j : Int) := by omega
  have h3 : (j : Int) ≤ (cap : Int) := by omega
  have h4 : (0 : Int) ≤ (j : Int) := by omega
  have h5 : ((i : Int)).toNat = i := by omega
  have h6 : ((j : Int)).toNat = j := by omega
  unfold rowA
  by_cases e : j = i
  · subst e
    rw [if_pos rfl, Nat.sub_self]
    go_enter Try.func71, Try.ntmps71
    go_wp2
    go_ret
    exact ⟨rfl, rfl⟩
  · rw [if_neg e]
    go_enter Try.func71, Try.ntmps71
    go_wp2
    go_ret
    exact ⟨rfl, rfl⟩
end Go.Proofs.Ytmdcankfjmkkeaa
/- The contracts of the program's TurnRight, of what is asked ahead of a turn, and of the place of the next one. -/
namespace Go.Proofs.Ytmdcankfjmkkeaa
open Go Go.RowKit
set_option linter.unusedVariables false
set_option linter.unusedSimpArgs false

set_option maxHeartbeats 2000000 in
set_option maxRecDepth 100000 in
theorem implTRight_is (a : Option Addr) (cap : Nat) (t : TurnV) (w : World) (r : Bool) (hr : r = true ↔ t.ok) (hl : t.list.length ≤ 1048576) (hcap : t.list.length ≤ cap) (hrow : NumRow w a t.list) :
    Calls Try.prog 39 #[turnV (.slice a t.list.length cap) t.at0] w fun e w' => e = .returned (.bool r) ∧ Below w.heap.size w w' := by
  obtain ⟨l, at0⟩ := t
  dsimp only at hl hcap hrow ⊢
  have HR : Hid (r = true ↔ nodesT l ∧ 0 ≤ at0 ∧ at0 ≤ l.length) := hr
  clear hr
  have HNO : Hid (¬ (nodesT l ∧ 0 ≤ at0 ∧ at0 ≤ l.length) → r = false) := fun h => by
    cases r with
    | false => rfl
    | true => exact absurd (HR.out.1 rfl) h
  unfold turnV
  have P0 := BlkIs.new w 36 #[.slice a l.length cap, .int .i64 at0]
  have B0 := (Below.refl w.heap.size w).alloc (Nat.le_refl _) (.cells #[.slice a l.length cap, .int .i64 at0] 36)
  have r0 := hrow.keep B0
  obtain ⟨W, hW⟩ : ∃ W, w.alloc (.cells #[.slice a l.length cap, .int .i64 at0] 36) = W := ⟨_, rfl⟩
  rw [hW] at P0 B0 r0
  have HW : Hid (_ = W) := hW
  clear hW
  have c0 : W.cell? ⟨w.heap.size, 0, none⟩ = some (.slice a l.length cap) := P0.cell 0
  have c1 : W.cell? ⟨w.heap.size, 1, none⟩ = some (.int .i64 at0) := P0.cell 1
  by_cases hx : 6 < (l.length : Int)
  · have hf : r = false := HNO.out (fun h => by have := nodesT_len h.1; omega)
    subst hf
    go_enter Try.func39, Try.ntmps39
    go_upto_region 1 with fail
    rw [HW.out]
    clear HW
    go_wp2
    go_ret
    exact ⟨rfl, B0⟩
  obtain ⟨q, hq⟩ := tells_bool (allT l)
  have HQ : Hid (q = true ↔ allT l) := hq
  clear hq
  go_enter Try.func39, Try.ntmps39
  go_upto_region 1 with fail
  rw [HW.out]
  clear HW
  go_wp2_with fail
  refine (allNodes_is a cap l _ q HQ.out hl r0).mono ?_
  rintro e z ⟨rfl, hz⟩
  replace hz : W = z := hz.symm
  subst hz
  cases q with
  | false =>
    have hf : r = false := HNO.out (fun h => by have := HQ.out.2 h.1.1; cases this)
    subst hf
    go_wp2
    go_ret
    exact ⟨rfl, B0⟩
  | true =>
    have HA : Hid (allT l) := HQ.out.1 rfl
    clear HQ
    by_cases h0 : at0 < 0
    · have hf : r = false := HNO.out (fun h => by have := h.2.1; omega)
      subst hf
      go_wp2
      go_ret
      exact ⟨rfl, B0⟩
    by_cases h1 : (l.length : Int) < at0
    · have hf : r = false := HNO.out (fun h => by have := h.2.2; omega)
      subst hf
      go_wp2
      go_ret
      exact ⟨rfl, B0⟩
    go_wp2
    go_loop [31] (fun i => ∃ k : Nat, k ≤ l.length ∧ i = .int .i64 k ∧ nodesT (l.take k)) (fun i => l.length - (intOf i).toNat)
    case atStart => exact ⟨0, Nat.zero_le _, rfl, by rw [List.take_zero]; exact nodesT_nil⟩
    case round =>
      obtain ⟨k, hk, rfl, hok⟩ := hrel
      have HK : Hid (nodesT (l.take k)) := hok
      clear hok
      by_cases hk2 : k < l.length
      · have rk0 := rowA_row r0 (Nat.zero_le k) hk
        rw [List.drop_zero, Nat.sub_zero] at rk0
        obtain ⟨b, off, ha, hbl, hcell⟩ := r0.addrN (by omega)
        subst ha
        have ck := hcell k hk2
        have HST : Hid (nodesT (l.take (k + 1)) ↔ nodesT (l.take k) ∧ (1 ≤ l[k] ∧ l[k] ≤ 6) ∧ l[k] ∉ l.take k) := nodesT_step hk2
        have hlk : (l.take k).length = k := by rw [List.length_take]; omega
        obtain ⟨x, hlx⟩ : ∃ x, l[k] = x := ⟨_, rfl⟩
        have HXA : Hid (1 ≤ x ∧ x ≤ 6) := by rw [← hlx]; exact HA.out _ (List.getElem_mem hk2)
        rw [hlx] at ck HST
        have hkI : (k : Int) < (l.length : Int) := by omega
        have HLK : Hid ((l.take k).length = k) := hlk
        clear hlx hlk hcell
        go_wp2_with fail
        refine (rowOf_any (some ⟨b, off, none⟩) l.length cap 0 k _ (Nat.zero_le _) (by omega)).mono ?_
        rintro e z ⟨rfl, hz⟩
        replace hz : W = z := hz.symm
        subst hz
        rw [Nat.sub_zero]
        obtain ⟨ra, hra⟩ : ∃ ra, rowA (some ⟨b, off, none⟩) 0 k = ra := ⟨_, rfl⟩
        rw [hra] at rk0 ⊢
        clear hra
        have hcn := contains_any ra k (l.take k) x W (by rw [HLK.out]; omega) rk0
        rw [HLK.out] at hcn
        obtain ⟨q2, hq2⟩ : ∃ q, decide (x ∈ l.take k) = q := ⟨_, rfl⟩
        rw [hq2] at hcn
        have HQ2 : Hid (decide (x ∈ l.take k) = q2) := hq2
        clear hq2 rk0
        go_wp2_with fail
        refine hcn.mono ?_
        rintro e z ⟨rfl, hz⟩
        replace hz : W = z := hz.symm
        subst hz
        clear hcn
        cases q2 with
        | true =>
          have hf : r = false := HNO.out (fun h => by
            have h1 := (HST.out.1 (nodesT_sub h.1 (List.take_sublist _ _))).2.2
            exact h1 (of_decide_eq_true HQ2.out))
          subst hf
          go_wp2
          go_ret
          exact ⟨rfl, B0⟩
        | false =>
          have HN : Hid (nodesT (l.take (k + 1))) := HST.out.2 ⟨HK.out, HXA.out, of_decide_eq_false HQ2.out⟩
          clear HST HK HQ2 HXA
          go_wp2
          go_round
          case rel => exact ⟨k + 1, by omega, by go_num, HN.out⟩
          case measure => simp [intOf]; omega
      · obtain rfl : k = l.length := by omega
        have ht : r = true := HR.out.2 ⟨by have := HK.out; rwa [List.take_length] at this, by omega, by omega⟩
        subst ht
        clear HK
        go_wp2
        go_ret
        exact ⟨rfl, B0⟩
/-- A right set of nodes. -/
def setT (l : List Int) : Prop := nodesT l ∧ rises l
theorem setT_iff {l : List Int} : setT l ↔ rightL l ∧ allT l := by
  constructor
  · rintro ⟨h1, h2⟩
    exact ⟨⟨by have := nodesT_len h1; omega, h2⟩, h1.1⟩
  · rintro ⟨h1, h2⟩
    exact ⟨⟨h2, h1.2.imp (fun h => Int.ne_of_lt h)⟩, h1.2⟩
end Go.Proofs.Ytmdcankfjmkkeaa
/- The contracts of what is asked ahead of a turn, and of the place of the next one. -/
namespace Go.Proofs.Ytmdcankfjmkkeaa
open Go Go.RowKit
set_option linter.unusedVariables false
set_option linter.unusedSimpArgs false

/-- The code ahead of a turn. -/
def FaultT (t : TurnV) (nodes : List Int) (seed c : Int) : Prop :=
  (400 < nodes.length ∧ c = 2) ∨ (nodes.length ≤ 400 ∧ ¬ (t.ok ∧ askT nodes seed) ∧ c = 1) ∨ (t.ok ∧ askT nodes seed ∧ nodes = [] ∧ c = 6) ∨ (t.ok ∧ askT nodes seed ∧ nodes ≠ [] ∧ c = 0)
theorem askT_iff {nodes : List Int} {seed : Int} : askT nodes seed ↔ setT nodes ∧ (0 ≤ seed ∧ seed ≤ 2147483647) := by
  unfold askT setT
  constructor
  · rintro ⟨a, b, c, d⟩; exact ⟨⟨a, b⟩, c, d⟩
  · rintro ⟨⟨a, b⟩, c, d⟩; exact ⟨a, b, c, d⟩
/-- The place of the first one that is one of nodes; behind the last one, if none is. -/
def PlaceT (row nodes : List Int) (p : Nat) : Prop := p ≤ row.length ∧ (∀ j (hj : j < row.length), j < p → row[j] ∉ nodes) ∧ ∀ h : p < row.length, row[p] ∈ nodes
end Go.Proofs.Ytmdcankfjmkkeaa
/- The contract of the program's Shuffle: it answers as the specification's. -/
namespace Go.Proofs.Ytmdcankfjmkkeaa
open Go Go.RowKit
set_option linter.unusedVariables false
set_option linter.unusedSimpArgs false

theorem NumBlk.set {w : World} {g : Nat} {m : List Int} (h : NumBlk w g m) (i : Nat) (x : Int) : NumBlk (w.setCell ⟨g, i, none⟩ (.int .i64 x)) g (m.set i x) := by
  have := heap_setCell_same w g i _ 2 (.int .i64 x) h
  have e : ((numsV m).toArray.setIfInBounds i (.int .i64 x)) = (numsV (m.set i x)).toArray := by rw [numsV_set]; simp
  rw [e] at this
  exact this
theorem NumBlk.cellD {w : World} {g : Nat} {m : List Int} (h : NumBlk w g m) {i : Nat} (hi : i < m.length) : w.cell? ⟨g, i, none⟩ = some (.int .i64 (m.getD i 0)) := by
  have h' : w.heap[g]? = some (.cells (numsV m).toArray 2 (0, 0)) := h
  rw [getD_at hi]
  simp [World.cell?, h', numsV, List.getElem?_eq_getElem hi]
theorem NumBlk.frz {w : World} {g : Nat} {m : List Int} (h : NumBlk w g m) (i : Nat) : w.frozen? ⟨g, i, none⟩ = false := frozen_of_row w g i _ _ h
/-- A block of two cells: a seed and a list. -/
def PairIs (w : World) (o : Nat) (s : Int) (v : Value) : Prop := w.cell? ⟨o, 0, none⟩ = some (.int .i64 s) ∧ w.cell? ⟨o, 1, none⟩ = some v ∧ w.frozen? ⟨o, 0, none⟩ = false ∧ w.frozen? ⟨o, 1, none⟩ = false
theorem PairIs.lt {w : World} {o : Nat} {s : Int} {v : Value} (h : PairIs w o s v) : o < w.heap.size := by
  rcases Nat.lt_or_ge o w.heap.size with k | k
  · exact k
  · have := h.1
    simp [World.cell?, Array.getElem?_eq_none k] at this
theorem PairIs.keep {w w' : World} {o : Nat} {s : Int} {v : Value} (h : PairIs w o s v) (hb : Below w.heap.size w w') : PairIs w' o s v := by
  have hl := h.lt
  obtain ⟨a, b, c, d⟩ := h
  exact ⟨(hb.cell (p := ⟨o, 0, none⟩) hl).trans a, (hb.cell (p := ⟨o, 1, none⟩) hl).trans b, (hb.frozen (p := ⟨o, 0, none⟩) hl).trans c, (hb.frozen (p := ⟨o, 1, none⟩) hl).trans d⟩
theorem PairIs.other {w : World} {o g : Nat} {s : Int} {v : Value} (h : PairIs w o s v) (hne : g ≠ o) (i : Nat) (u : Value) : PairIs (w.setCell ⟨g, i, none⟩ u) o s v := by
  obtain ⟨a, b, c, d⟩ := h
  refine ⟨?_, ?_, by rw [World.frozen?_setCell]; exact c, by rw [World.frozen?_setCell]; exact d⟩
  · rw [World.cell?_setCell_other _ _ _ _ (fun e => hne (by have := congrArg Addr.block e; simpa using this))]; exact a
  · rw [World.cell?_setCell_other _ _ _ _ (fun e => hne (by have := congrArg Addr.block e; simpa using this))]; exact b
theorem PairIs.seed {w : World} {o : Nat} {s t : Int} {v : Value} (h : PairIs w o s v) : PairIs (w.setCell ⟨o, 0, none⟩ (.int .i64 t)) o t v := by
  obtain ⟨a, b, c, d⟩ := h
  refine ⟨World.cell?_setCell_same' _ _ _ (by rw [a]; rfl), ?_, by rw [World.frozen?_setCell]; exact c, by rw [World.frozen?_setCell]; exact d⟩
  rw [World.cell?_setCell_other _ _ _ _ (fun e => by have := congrArg Addr.off e; simp at this)]; exact b
theorem NumBlk.other {w : World} {g o : Nat} {m : List Int} (h : NumBlk w g m) (hne : g ≠ o) (i : Nat) (u : Value) : NumBlk (w.setCell ⟨o, i, none⟩ u) g m := (Below.heap_setCell _ _ _ _ hne).trans h
theorem pair_new (w : World) (s : Int) (v : Value) (t : Nat) : PairIs (w.alloc (.cells #[.int .i64 s, v] t)) w.heap.size s v := by
  refine ⟨?_, ?_, ?_, ?_⟩
  · rw [World.cell?_alloc_at _ _ _ _ rfl]; rfl
  · rw [World.cell?_alloc_at _ _ _ _ rfl]; rfl
  · simp
  · simp
end Go.Proofs.Ytmdcankfjmkkeaa
/- The contracts of the program's newRound and TurnNext. -/
namespace Go.Proofs.Ytmdcankfjmkkeaa
open Go Go.RowKit
set_option linter.unusedVariables false
set_option linter.unusedSimpArgs false

end Go.Proofs.Ytmdcankfjmkkeaa
/- The contract of the program's Some. -/
namespace Go.Proofs.Ytmdcankfjmkkeaa
open Go Go.RowKit
set_option linter.unusedVariables false
set_option linter.unusedSimpArgs false

/-- What an answer of Some says, and what it owns. -/
def SomePostI (l : List Int) (s : Int) (w : World) (e : Ending) (w' : World) : Prop :=
  ∃ a cap, e = .returned (shufOut s (.slice a l.length cap)) ∧ OwnNums w' w.heap.size a l ∧ (∀ b off, a = some ⟨b, off, none⟩ → w.heap.size ≤ b ∧ b < w'.heap.size) ∧ Below w.heap.size w w'
theorem somePost_own {l : List Int} {s : Int} {w : World} {e : Ending} {w' : World} (h : SomePost l s w e w') : SomePostI l s w e w' := by
  obtain ⟨v, rfl, own, b⟩ := h
  obtain ⟨a, cap, rfl, o⟩ := own_nums own
  exact ⟨a, cap, rfl, o, fun b off e => own.lt b (by rw [e]; rfl), b⟩
theorem OwnNums.keepK {w w' : World} {lo : Nat} {a : Option Addr} {l : List Int} (h : OwnNums w lo a l) {G : Nat → Prop} (k : Keeps G w w') (hg : ∀ b, lo ≤ b → b < w.heap.size → G b) : OwnNums w' lo a l := by
  rcases h with h | ⟨b, off, rfl, hlo, hlt, hc, hf⟩
  · exact .inl h
  · exact .inr ⟨b, off, rfl, hlo, Nat.lt_of_lt_of_le hlt k.size, fun i hi => (k.cell (p := ⟨b, off + i, none⟩) hlt (hg b hlo hlt)).trans (hc i hi), fun i hi => (k.frozen (p := ⟨b, off + i, none⟩) hlt (hg b hlo hlt)).trans (hf i hi)⟩
theorem OwnNums.takeN {w : World} {lo : Nat} {a : Option Addr} {l : List Int} (h : OwnNums w lo a l) (k : Nat) (hk : k ≤ l.length) : OwnNums w lo (rowA a 0 k) (l.take k) := by
  by_cases e : k = 0
  · subst e
    exact .inl (by simp)
  · rcases h with h | ⟨b, off, rfl, hlo, hlt, hc, hf⟩
    · rw [h] at hk
      simp at hk
      exact absurd hk e
    · refine .inr ⟨b, off, by unfold rowA; rw [if_neg e]; simp [Addr.add], hlo, hlt, fun i hi => ?_, fun i hi => ?_⟩
      · rw [List.length_take] at hi
        rw [hc i (by omega)]; simp
      · rw [List.length_take] at hi
        exact hf i (by omega)
theorem OwnNums.le {w : World} {lo lo' : Nat} {a : Option Addr} {l : List Int} (h : OwnNums w lo a l) (hb : lo' ≤ lo) : OwnNums w lo' a l := by
  rcases h with h | ⟨b, off, e, hlo, r⟩
  · exact .inl h
  · exact .inr ⟨b, off, e, Nat.le_trans hb hlo, r⟩

end Go.Proofs.Ytmdcankfjmkkeaa
/- The contracts of the exact laws' helpers over what a shuffle answers. -/
namespace Go.Proofs.Ytmdcankfjmkkeaa
open Go Go.RowKit
set_option linter.unusedVariables false

theorem PairIs.beside {w w' : World} {o : Nat} {s : Int} {v : Value} (h : PairIs w o s v) (hk : w'.heap[o]? = w.heap[o]?) : PairIs w' o s v := by
  obtain ⟨a, b, c, d⟩ := h
  exact ⟨(World.cell?_of_block (a := ⟨o, 0, none⟩) hk).trans a, (World.cell?_of_block (a := ⟨o, 1, none⟩) hk).trans b, (World.frozen?_of_block (a := ⟨o, 0, none⟩) hk).trans c, (World.frozen?_of_block (a := ⟨o, 1, none⟩) hk).trans d⟩
theorem shufL_length (l : List Int) (s : Int) : (shufL l s).1.length ≤ 400 := by
  unfold shufL
  split
  · simp
  · rename_i h
    rw [mixL_length]
    omega
end Go.Proofs.Ytmdcankfjmkkeaa
