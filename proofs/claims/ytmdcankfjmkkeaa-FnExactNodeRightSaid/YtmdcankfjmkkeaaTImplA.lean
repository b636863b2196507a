/- The contracts of the program's tests of nodes and of a turn, and of its rows. -/
import Derived.Test.YtmdcankfjmkkeaaTSpecA
import Derived.Test.YtmdcankfjmkkeaaG38
namespace Go.Proofs.Ytmdcankfjmkkeaa
open Go Go.RowKit
set_option linter.unusedVariables false
set_option linter.unusedSimpArgs false

theorem implNode_any (n : Int) (w : World) : Calls Try.prog 48 #[.int .i64 n] w fun e w' => e = .returned (.bool (decide (1 ≤ n) && decide (n ≤ 6))) ∧ w' = w := by
  by_cases h1 : 1 ≤ n
  · have HD : Hid ((decide (1 ≤ n) && decide (n ≤ 6)) = decide (n ≤ 6)) := by show _ = _; simp [h1]
    go_enter Try.func48, Try.ntmps48
    go_wp2
    go_ret
    exact ⟨ret_boolE HD.out.symm, rfl⟩
  · have HD : Hid ((decide (1 ≤ n) && decide (n ≤ 6)) = false) := by show _ = _; simp [h1]
    go_enter Try.func48, Try.ntmps48
    go_wp2
    go_ret
    exact ⟨ret_boolE HD.out.symm, rfl⟩
/-- All of them are nodes. -/
def allT (l : List Int) : Prop := ∀ n ∈ l, 1 ≤ n ∧ n ≤ 6
theorem allT_step {l : List Int} {k : Nat} (hk : k < l.length) : allT (l.take (k + 1)) ↔ allT (l.take k) ∧ (1 ≤ l[k] ∧ l[k] ≤ 6) := by
  rw [List.take_succ_eq_append_getElem hk]
  unfold allT
  constructor
  · intro h
    exact ⟨fun n hn => h n (List.mem_append.2 (.inl hn)), h _ (List.mem_append.2 (.inr (List.mem_singleton.2 rfl)))⟩
  · rintro ⟨h1, h2⟩ n hn
    rcases List.mem_append.1 hn with h | h
    · exact h1 n h
    · rw [List.mem_singleton.1 h]; exact h2
set_option maxHeartbeats 1000000 in
set_option maxRecDepth 100000 in
theorem allNodes_is (a : Option Addr) (cap : Nat) (l : List Int) (w : World) (r : Bool) (hr : r = true ↔ allT l) (hl : l.length ≤ 1048576) (hrow : NumRow w a l) :
    Calls Try.prog 69 #[.slice a l.length cap] w fun e w' => e = .returned (.bool r) ∧ w' = w := by
  have HR : Hid (r = true ↔ allT l) := hr
  clear hr
  have HNO : Hid (¬ allT l → r = false) := fun h => by
    cases r with
    | false => rfl
    | true => exact absurd (HR.out.1 rfl) h
  go_enter Try.func69, Try.ntmps69
  go_wp2
  go_loop [7] (fun i => ∃ k : Nat, k ≤ l.length ∧ i = .int .i64 k ∧ allT (l.take k)) (fun i => l.length - (intOf i).toNat)
  case atStart => exact ⟨0, Nat.zero_le _, rfl, fun n h => by simp at h⟩
  case round =>
    obtain ⟨k, hk, rfl, hn⟩ := hrel
    have HN : Hid (allT (l.take k)) := hn
    clear hn
    by_cases hx : k < l.length
    · obtain ⟨b, off, rfl, hlt, hc⟩ := hrow.addrN (by omega)
      have hck := hc k hx
      have HST : Hid (allT (l.take (k + 1)) ↔ allT (l.take k) ∧ (1 ≤ l[k] ∧ l[k] ≤ 6)) := allT_step hx
      obtain ⟨x, hxx⟩ : ∃ x, l[k] = x := ⟨_, rfl⟩
      rw [hxx] at hck HST
      have HX : Hid (l[k] = x) := hxx
      clear hc hxx
      obtain ⟨q, hq⟩ : ∃ q, (decide (1 ≤ x) && decide (x ≤ 6)) = q := ⟨_, rfl⟩
      have HQ : Hid ((decide (1 ≤ x) && decide (x ≤ 6)) = q) := hq
      clear hq
      go_wp2_with fail
      refine (implNode_any x _).mono ?_
      rintro e z ⟨rfl, rfl⟩
      rw [HQ.out]
      cases q with
      | false =>
        have hf : r = false := HNO.out (fun h => by
          have h1 := h x (HX.out ▸ List.getElem_mem hx)
          have := HQ.out
          simp [h1.1, h1.2] at this)
        subst hf
        clear HST HN HQ HR HNO
        go_wp2
        go_ret
        exact ⟨rfl, rfl⟩
      | true =>
        have HN2 : Hid (allT (l.take (k + 1))) := HST.out.2 ⟨HN.out, by have := HQ.out; simpa using this⟩
        clear HST HN HQ
        go_wp2
        go_round
        case rel => exact ⟨k + 1, by omega, by go_num, HN2.out⟩
        case measure => simp [intOf]; omega
    · obtain rfl : k = l.length := by omega
      have ht : r = true := HR.out.2 (by have := HN.out; rwa [List.take_length] at this)
      subst ht
      clear HN HR HNO
      go_wp2
      go_ret
      exact ⟨rfl, rfl⟩
/-- Where a number stands, if it does. -/
def IdxT (l : List Int) (n : Int) (e : Ending) : Prop := ∃ i : Int, e = .returned (.int .i64 i) ∧ (0 ≤ i ↔ n ∈ l)
set_option maxHeartbeats 1000000 in
set_option maxRecDepth 100000 in
theorem index_any (a : Option Addr) (cap : Nat) (l : List Int) (n : Int) (w : World) (hl : l.length ≤ 1048576) (hrow : NumRow w a l) :
    Calls Try.prog 96 #[.slice a l.length cap, .int .i64 n] w fun e w' => IdxT l n e ∧ w' = w := by
  go_enter Try.func96, Try.ntmps96
  go_wp2
  go_loop [8] (fun i => ∃ k : Nat, k ≤ l.length ∧ i = .int .i64 k ∧ ¬ n ∈ l.take k) (fun i => l.length - (intOf i).toNat)
  case atStart => exact ⟨0, Nat.zero_le _, rfl, by simp⟩
  case round =>
    obtain ⟨k, hk, rfl, hn⟩ := hrel
    have HN : Hid (¬ n ∈ l.take k) := hn
    clear hn
    by_cases hx : k < l.length
    · obtain ⟨b, off, rfl, hlt, hc⟩ := hrow.addrN (by omega)
      have hck := hc k hx
      obtain ⟨x, hxx⟩ : ∃ x, l[k] = x := ⟨_, rfl⟩
      rw [hxx] at hck
      have HX : Hid (l[k] = x) := hxx
      clear hc hxx
      by_cases e : n = x
      · subst e
        have HM : Hid (n ∈ l) := by have := List.getElem_mem hx; rw [HX.out] at this; exact this
        go_wp2
        go_ret
        exact ⟨⟨_, rfl, fun _ => HM.out, fun _ => by omega⟩, rfl⟩
      · have eb : (n == x) = false := by simp [e]
        go_wp2
        go_round
        case rel => exact ⟨k + 1, by omega, by go_num, by
          rw [List.take_succ_eq_append_getElem hx, List.mem_append, HX.out]
          rintro (q | q)
          · exact HN.out q
          · simp at q; exact e q⟩
        case measure => simp [intOf]; omega
    · have HM : Hid (¬ n ∈ l) := fun q => HN.out (by rw [List.take_of_length_le (by omega)]; exact q)
      go_wp2
      go_ret
      exact ⟨⟨_, rfl, fun h => absurd h (by omega), fun h => absurd h HM.out⟩, rfl⟩
set_option maxRecDepth 100000 in
theorem contains_any (a : Option Addr) (cap : Nat) (l : List Int) (n : Int) (w : World) (hl : l.length ≤ 1048576) (hrow : NumRow w a l) :
    Calls Try.prog 70 #[.slice a l.length cap, .int .i64 n] w fun e w' => e = .returned (.bool (decide (n ∈ l))) ∧ w' = w := by
  go_enter Try.func70, Try.ntmps70
  go_wp2_with fail
  refine (index_any a cap l n _ hl hrow).mono ?_
  rintro e z ⟨⟨i, rfl, hi⟩, rfl⟩
  have HI : Hid (0 ≤ i ↔ n ∈ l) := hi
  clear hi
  go_wp2
  go_ret
  exact ⟨ret_boolE (decide_eq_decide.2 HI.out), rfl⟩
/-- A row of a slice. -/
def rowA (a : Option Addr) (i j : Nat) : Option Addr := if j = i then a else a.map (·.add i)
theorem rowA_row {w : World} {a : Option Addr} {l : List Int} (h : NumRow w a l) {i j : Nat} (hij : i ≤ j) (hj : j ≤ l.length) : NumRow w (rowA a i j) ((l.drop i).take (j - i)) := by
  by_cases e : j = i
  · exact .inl (by rw [e]; simp)
  · obtain ⟨b, off, rfl, hlt, hc⟩ := h.addrN (by omega)
    refine .inr ⟨b, off + i, ?_, hlt, fun q hq => ?_⟩
    · unfold rowA
      rw [if_neg e]
      by_cases e0 : i = 0 <;> simp [Addr.add, e0]
    · rw [List.length_take, List.length_drop] at hq
      rw [Nat.add_assoc, hc (i + q) (by omega), List.getElem_take, List.getElem_drop]
set_option maxHeartbeats 1000000 in
set_option maxRecDepth 100000 in
theorem rowOf_any (a : Option Addr) (len cap i j : Nat) (w : World) (hij : i ≤ j) (hj : j ≤ cap) :
    Calls Try.prog 71 #[.slice a len cap, .int .i64 i, .int .i64 j] w fun e w' => e = .returned (.slice (rowA a i j) (j - i) (j - i)) ∧ w' = w := by
  have h1 : (0 : Int) ≤ (i : Int) := by omega
  have h2 : (i : Int) ≤ (j : Int) := by omega
  have h3 : (j : Int) ≤ (cap : Int) := by omega
  have h4 : (0 : Int) ≤ (j : Int) := by omega
  have h5 : ((i : Int)).toNat = i := by omega
  have h6 : ((j : Int)).toNat = j := by omega
  unfold rowA
  by_cases e : j = i
  · subst e
    rw [if_pos rfl, Nat.sub_self]
    go_enter Try.func71, Try.ntmps71
    go_wp2
    go_ret
    exact ⟨rfl, rfl⟩
  · rw [if_neg e]
    go_enter Try.func71, Try.ntmps71
    go_wp2
    go_ret
    exact ⟨rfl, rfl⟩
end Go.Proofs.Ytmdcankfjmkkeaa
