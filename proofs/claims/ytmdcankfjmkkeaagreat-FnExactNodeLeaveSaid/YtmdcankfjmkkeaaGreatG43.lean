/- The contracts of the program's Chance: it answers as the specification's. -/
import Derived.Test.YtmdcankfjmkkeaaGreatG19
import Derived.Test.YtmdcankfjmkkeaaGreatG20
import Derived.Test.YtmdcankfjmkkeaaGreatSetImpl
import Derived.Test.YtmdcankfjmkkeaaGreatTSpecB
namespace Go.Proofs.YtmdcankfjmkkeaaGreat
open Go Go.RowKit
set_option linter.unusedVariables false

set_option maxRecDepth 100000 in
theorem seedRight_any (n : Int) (w : World) :
    Calls Tryz.prog 81 #[.int .i64 n] w fun e w' => e = .returned (.bool (decide (0 ≤ n) && decide (n ≤ 2147483647))) ∧ w' = w := by
  by_cases h1 : 0 ≤ n
  · have HD : Hid ((decide (0 ≤ n) && decide (n ≤ 2147483647)) = decide (n ≤ 2147483647)) := by show _ = _; simp [h1]
    go_enter Tryz.func81, Tryz.ntmps81
    go_wp2
    go_ret
    exact ⟨ret_boolE HD.out.symm, rfl⟩
  · have HD : Hid ((decide (0 ≤ n) && decide (n ≤ 2147483647)) = false) := by show _ = _; simp [h1]
    go_enter Tryz.func81, Tryz.ntmps81
    go_wp2
    go_ret
    exact ⟨ret_boolE HD.out.symm, rfl⟩
theorem and_seed {x : Nat} (h : (x : Int) < 18446744073709551616) : bits BinOp.and IntKind.u64 (x : Int) 2147483647 = (x : Int) % 2147483648 := by
  have e : bits BinOp.and IntKind.u64 (x : Int) 2147483647 = ((x &&& 2147483647 : Nat) : Int) := by
    have := u64_and_nat x 2147483647 (by omega) (by omega)
    exact this
  rw [e, Nat.and_two_pow_sub_one_eq_mod x 31]
  omega
set_option maxHeartbeats 1000000 in
set_option maxRecDepth 100000 in
theorem implChance_any (seed most : Int) (w : World) :
    Calls Tryz.prog 222 #[.int .i64 seed, .int .i64 most] w fun e w' => e = .returned (chanceOut (chanceV seed most)) ∧ Below w.heap.size w w' := by
  have b0 : Below w.heap.size w (w.alloc (.cells #[.int .i64 0, .int .i64 0] 232)) := (Below.refl _ _).alloc (Nat.le_refl _) _
  cases h1 : (decide (0 ≤ seed) && decide (seed ≤ 2147483647)) with
  | false =>
    have HE : Hid (chanceV seed most = (0, 0)) := chance_no1 h1
    have HD : Hid ((decide (0 ≤ seed) && decide (seed ≤ 2147483647)) = false) := h1
    clear h1
    go_enter Tryz.func222, Tryz.ntmps222
    go_wp2_with fail
    refine (seedRight_any seed _).mono ?_
    rintro e x1 ⟨rfl, rfl⟩
    rw [HD.out]
    go_wp2
    exact bodyPost_ret (v := .agg #[.int .i64 0, .int .i64 0]) (by simp [results, Tryz.results222, go_sem]) rfl ⟨by rw [HE.out]; rfl, b0⟩
  | true =>
    by_cases h2 : most < 1
    · have HE : Hid (chanceV seed most = (0, 0)) := chance_no2 (by simp; omega)
      have HD : Hid ((decide (0 ≤ seed) && decide (seed ≤ 2147483647)) = true) := h1
      clear h1
      go_enter Tryz.func222, Tryz.ntmps222
      go_wp2_with fail
      refine (seedRight_any seed _).mono ?_
      rintro e x1 ⟨rfl, rfl⟩
      rw [HD.out]
      go_wp2
      exact bodyPost_ret (v := .agg #[.int .i64 0, .int .i64 0]) (by simp [results, Tryz.results222, go_sem]) rfl ⟨by rw [HE.out]; rfl, b0⟩
    by_cases h3 : 1000000 < most
    · have HE : Hid (chanceV seed most = (0, 0)) := chance_no2 (by simp; omega)
      have HD : Hid ((decide (0 ≤ seed) && decide (seed ≤ 2147483647)) = true) := h1
      clear h1
      go_enter Tryz.func222, Tryz.ntmps222
      go_wp2_with fail
      refine (seedRight_any seed _).mono ?_
      rintro e x1 ⟨rfl, rfl⟩
      rw [HD.out]
      go_wp2
      exact bodyPost_ret (v := .agg #[.int .i64 0, .int .i64 0]) (by simp [results, Tryz.results222, go_sem]) rfl ⟨by rw [HE.out]; rfl, b0⟩
    have HE : Hid (chanceV seed most = (nextS seed, drawN seed most)) := chance_yes h1 (by simp; omega)
    have HD : Hid ((decide (0 ≤ seed) && decide (seed ≤ 2147483647)) = true) := h1
    simp at h1
    obtain ⟨s0, s1⟩ := h1
    obtain ⟨s, rfl⟩ := Int.eq_ofNat_of_zero_le s0
    have hw0 : IntKind.u64.wrap (s : Int) = (s : Int) := by rw [IntKind.wrap_u64]; omega
    have hw1 : IntKind.u64.wrap ((s : Int) * 91813) = (s : Int) * 91813 := by rw [IntKind.wrap_u64]; omega
    have hw2 : IntKind.u64.wrap ((s : Int) * 91813 + 30011) = (s : Int) * 91813 + 30011 := by rw [IntKind.wrap_u64]; omega
    have ha : bits BinOp.and IntKind.u64 ((s : Int) * 91813 + 30011) 2147483647 = nextS (s : Int) := by
      have := and_seed (x := s * 91813 + 30011) (by omega)
      have e : ((s * 91813 + 30011 : Nat) : Int) = (s : Int) * 91813 + 30011 := by omega
      rw [e] at this
      exact this
    have hnb := nextS_bd (s : Int)
    obtain ⟨q, hq⟩ : ∃ q : Nat, nextS (s : Int) = (q : Int) := Int.eq_ofNat_of_zero_le hnb.1
    have HQ : Hid (nextS (s : Int) = (q : Int)) := hq
    have HR : Hid (drawN (s : Int) most = (q : Int) / 256 % most) := by show _ = _; unfold drawN; rw [hq]
    rw [hq] at ha hnb
    clear hq
    have hd0 : 0 ≤ (q : Int) / 256 % most := Int.emod_nonneg _ (by omega)
    have hd1 : (q : Int) / 256 % most < most := Int.emod_lt_of_pos _ (by omega)
    have hwm : IntKind.u64.wrap most = most := by rw [IntKind.wrap_u64]; omega
    have hwq : IntKind.i64.wrap (q : Int) = (q : Int) := by rw [IntKind.wrap_i64]; omega
    have hwr : IntKind.i64.wrap ((q : Int) / 256 % most) = (q : Int) / 256 % most := by rw [IntKind.wrap_i64]; omega
    have hm0 : ¬ most = 0 := by omega
    go_enter Tryz.func222, Tryz.ntmps222
    go_wp2_with fail
    refine (seedRight_any _ _).mono ?_
    rintro e x1 ⟨rfl, rfl⟩
    rw [HD.out]
    go_wp2
    exact bodyPost_ret (v := .agg #[.int .i64 (q : Int), .int .i64 ((q : Int) / 256 % most)]) (by simp [results, Tryz.results222, go_sem]) rfl ⟨by rw [HE.out, HQ.out, HR.out]; rfl, (Below.refl _ _).alloc (Nat.le_refl _) _⟩
end Go.Proofs.YtmdcankfjmkkeaaGreat
/- The contracts of the program's tests of nodes and of a turn, and of its rows. -/
namespace Go.Proofs.YtmdcankfjmkkeaaGreat
open Go Go.RowKit
set_option linter.unusedVariables false
set_option linter.unusedSimpArgs false

theorem implNode_any (n : Int) (w : World) : Calls Tryz.prog 79 #[.int .i64 n] w fun e w' => e = .returned (.bool (decide (1 ≤ n) && decide (n ≤ 6))) ∧ w' = w := by
  by_cases h1 : 1 ≤ n
  · have HD : Hid ((decide (1 ≤ n) && decide (n ≤ 6)) = decide (n ≤ 6)) := by show _ = _; simp [h1]
    go_enter Tryz.func79, Tryz.ntmps79
    go_wp2
    go_ret
    exact ⟨ret_boolE HD.out.symm, rfl⟩
  · have HD : Hid ((decide (1 ≤ n) && decide (n ≤ 6)) = false) := by show _ = _; simp [h1]
    go_enter Tryz.func79, Tryz.ntmps79
    go_wp2
    go_ret
    exact ⟨ret_boolE HD.out.symm, rfl⟩
/-- All of them are nodes. -/
def allT (l : List Int) : Prop := ∀ n ∈ l, 1 ≤ n ∧ n ≤ 6
theorem allT_step {l : List Int} {k : Nat} (hk : k < l.length) : allT (l.take (k + 1)) ↔ allT (l.take k) ∧ (1 ≤ l[k] ∧ l[k] ≤ 6) := by
  rw [List.take_succ_eq_append_getElem hk]
  unfold allT
  constructor
  · intro h
    exact ⟨fun n hn => h n (List.mem_append.2 (.inl hn)), h _ (List.mem_append.2 (.inr (List.mem_singleton.2 rfl)))⟩
  · rintro ⟨h1, h2⟩ n hn
    rcases List.mem_append.1 hn with h | h
    · exact h1 n h
    · rw [List.mem_singleton.1 h]; exact h2
set_option maxHeartbeats 1000000 in
set_option maxRecDepth 100000 in
theorem allNodes_is (a : Option Addr) (cap : Nat) (l : List Int) (w : World) (r : Bool) (hr : r = true ↔ allT l) (hl : l.length ≤ 1048576) (hrow : NumRow w a l) :
    Calls Tryz.prog 155 #[.slice a l.length cap] w fun e w' => e = .returned (.bool r) ∧ w' = w := by
  have HR : Hid (r = true ↔ allT l) := hr
  clear hr
  have HNO : Hid (¬ allT l → r = false) := fun h => by
    cases r with
    | false => rfl
    | true => exact absurd (HR.out.1 rfl) h
  go_enter Tryz.func155, Tryz.ntmps155
  go_wp2
  go_loop [7] (fun i => ∃ k : Nat, k ≤ l.length ∧ i = .int .i64 k ∧ allT (l.take k)) (fun i => l.length - (intOf i).toNat)
  case atStart => exact ⟨0, Nat.zero_le _, rfl, fun n h => by simp at h⟩
  case round =>
    obtain ⟨k, hk, rfl, hn⟩ := hrel
    have HN : Hid (allT (l.take k)) := hn
    clear hn
    by_cases hx : k < l.length
    · obtain ⟨b, off, rfl, hlt, hc⟩ := hrow.addrN (by omega)
      have hck := hc k hx
      have HST : Hid (allT (l.take (k + 1)) ↔ allT (l.take k) ∧ (1 ≤ l[k] ∧ l[k] ≤ 6)) := allT_step hx
      obtain ⟨x, hxx⟩ : ∃ x, l[k] = x := ⟨_, rfl⟩
      rw [hxx] at hck HST
      have HX : Hid (l[k] = x) := hxx
      clear hc hxx
      obtain ⟨q, hq⟩ : ∃ q, (decide (1 ≤ x) && decide (x ≤ 6)) = q := ⟨_, rfl⟩
      have HQ : Hid ((decide (1 ≤ x) && decide (x ≤ 6)) = q) := hq
      clear hq
      go_wp2_with fail
      refine (implNode_any x _).mono ?_
      rintro e z ⟨rfl, rfl⟩
      rw [HQ.out]
      cases q with
      | false =>
        have hf : r = false := HNO.out (fun h => by
          have h1 := h x (HX.out ▸ List.getElem_mem hx)
          have := HQ.out
          simp [h1.1, h1.2] at this)
        subst hf
        clear HST HN HQ HR HNO
        go_wp2
        go_ret
        exact ⟨rfl, rfl⟩
      | true =>
        have HN2 : Hid (allT (l.take (k + 1))) := HST.out.2 ⟨HN.out, by have := HQ.out; simpa using this⟩
        clear HST HN HQ
        go_wp2
        go_round
        case rel => exact ⟨k + 1, by omega, by go_num, HN2.out⟩
        case measure => simp [intOf]; omega
    · obtain rfl : k = l.length := by omega
      have ht : r = true := HR.out.2 (by have := HN.out; rwa [List.take_length] at this)
      subst ht
      clear HN HR HNO
      go_wp2
      go_ret
      exact ⟨rfl, rfl⟩
/-- Where a number stands, if it does. -/
def IdxT (l : List Int) (n : Int) (e : Ending) : Prop := ∃ i : Int, e = .returned (.int .i64 i) ∧ (0 ≤ i ↔ n ∈ l)
set_option maxHeartbeats 1000000 in
set_option maxRecDepth 100000 in
theorem index_any (a : Option Addr) (cap : Nat) (l : List Int) (n : Int) (w : World) (hl : l.length ≤ 1048576) (hrow : NumRow w a l) :
    Calls Tryz.prog 204 #[.slice a l.length cap, .int .i64 n] w fun e w' => IdxT l n e ∧ w' = w := by
  go_enter Tryz.func204, Tryz.ntmps204
  go_wp2
  go_loop [8] (fun i => ∃ k : Nat, k ≤ l.length ∧ i = .int .i64 k ∧ ¬ n ∈ l.take k) (fun i => l.length - (intOf i).toNat)
  case atStart => exact ⟨0, Nat.zero_le _, rfl, by simp⟩
  case round =>
    obtain ⟨k, hk, rfl, hn⟩ := hrel
    have HN : Hid (¬ n ∈ l.take k) := hn
    clear hn
    by_cases hx : k < l.length
    · obtain ⟨b, off, rfl, hlt, hc⟩ := hrow.addrN (by omega)
      have hck := hc k hx
      obtain ⟨x, hxx⟩ : ∃ x, l[k] = x := ⟨_, rfl⟩
      rw [hxx] at hck
      have HX : Hid (l[k] = x) := hxx
      clear hc hxx
      by_cases e : n = x
      · subst e
        have HM : Hid (n ∈ l) := by have := List.getElem_mem hx; rw [HX.out] at this; exact this
        go_wp2
        go_ret
        exact ⟨⟨_, rfl, fun _ => HM.out, fun _ => by omega⟩, rfl⟩
      · have eb : (n == x) = false := by simp [e]
        go_wp2
        go_round
        case rel => exact ⟨k + 1, by omega, by go_num, by
          rw [List.take_succ_eq_append_getElem hx, List.mem_append, HX.out]
          rintro (q | q)
          · exact HN.out q
          · simp at q; exact e q⟩
        case measure => simp [intOf]; omega
    · have HM : Hid (¬ n ∈ l) := fun q => HN.out (by rw [List.take_of_length_le (by omega)]; exact q)
      go_wp2
      go_ret
      exact ⟨⟨_, rfl, fun h => absurd h (by omega), fun h => absurd h HM.out⟩, rfl⟩
set_option maxRecDepth 100000 in
theorem contains_any (a : Option Addr) (cap : Nat) (l : List Int) (n : Int) (w : World) (hl : l.length ≤ 1048576) (hrow : NumRow w a l) :
    Calls Tryz.prog 156 #[.slice a l.length cap, .int .i64 n] w fun e w' => e = .returned (.bool (decide (n ∈ l))) ∧ w' = w := by
  go_enter Tryz.func156, Tryz.ntmps156
  go_wp2_with fail
  refine (index_any a cap l n _ hl hrow).mono ?_
  rintro e z ⟨⟨i, rfl, hi⟩, rfl⟩
  have HI : Hid (0 ≤ i ↔ n ∈ l) := hi
  clear hi
  go_wp2
  go_ret
  exact ⟨ret_boolE (decide_eq_decide.2 HI.out), rfl⟩
/-- A row of a slice. -/
def rowA (a : Option Addr) (i j : Nat) : Option Addr := if j = i then a else a.map (·.add i)
theorem rowA_row {w : World} {a : Option Addr} {l : List Int} (h : NumRow w a l) {i j : Nat} (hij : i ≤ j) (hj : j ≤ l.length) : NumRow w (rowA a i j) ((l.drop i).take (j - i)) := by
  by_cases e : j = i
  · exact .inl (by rw [e]; simp)
  · obtain ⟨b, off, rfl, hlt, hc⟩ := h.addrN (by omega)
    refine .inr ⟨b, off + i, ?_, hlt, fun q hq => ?_⟩
    · unfold rowA
      rw [if_neg e]
      by_cases e0 : i = 0 <;> simp [Addr.add, e0]
    · rw [List.length_take, List.length_drop] at hq
      rw [Nat.add_assoc, hc (i + q) (by omega), List.getElem_take, List.getElem_drop]
set_option maxHeartbeats 1000000 in
set_option maxRecDepth 100000 in
theorem rowOf_any (a : Option Addr) (len cap i j : Nat) (w : World) (hij : i ≤ j) (hj : j ≤ cap) :
    Calls Tryz.prog 157 #[.slice a len cap, .int .i64 i, .int .i64 j] w fun e w' => e = .returned (.slice (rowA a i j) (j - i) (j - i)) ∧ w' = w := by
  have h1 : (0 : Int) ≤ (i : Int) := by omega
  have h2 : (i : Int) ≤ (j : Int) := by omega
  have h3 : (j : Int) ≤ (cap : Int) := by omega
  have h4 : (0 : Int) ≤ (j : Int) := by omega
  have h5 : ((i : Int)).toNat = i := by omega
  have h6 : ((j : Int)).toNat = j := by omega
  unfold rowA
  by_cases e : j = i
  · subst e
    rw [if_pos rfl, Nat.sub_self]
    go_enter Tryz.func157, Tryz.ntmps157
    go_wp2
    go_ret
    exact ⟨rfl, rfl⟩
  · rw [if_neg e]
    go_enter Tryz.func157, Tryz.ntmps157
    go_wp2
    go_ret
    exact ⟨rfl, rfl⟩
end Go.Proofs.YtmdcankfjmkkeaaGreat
/- The contracts of the program's TurnRight, of what is asked ahead of a turn, and of the place of the next one. -/
namespace Go.Proofs.YtmdcankfjmkkeaaGreat
open Go Go.RowKit
set_option linter.unusedVariables false
set_option linter.unusedSimpArgs false

set_option maxHeartbeats 2000000 in
set_option maxRecDepth 100000 in
theorem implTRight_is (a : Option Addr) (cap : Nat) (t : TurnV) (w : World) (r : Bool) (hr : r = true ↔ t.ok) (hl : t.list.length ≤ 1048576) (hcap : t.list.length ≤ cap) (hrow : NumRow w a t.list) :
    Calls Tryz.prog 87 #[turnV (.slice a t.list.length cap) t.at0] w fun e w' => e = .returned (.bool r) ∧ Below w.heap.size w w' := by
  obtain ⟨l, at0⟩ := t
  dsimp only at hl hcap hrow ⊢
  have HR : Hid (r = true ↔ nodesT l ∧ 0 ≤ at0 ∧ at0 ≤ l.length) := hr
  clear hr
  have HNO : Hid (¬ (nodesT l ∧ 0 ≤ at0 ∧ at0 ≤ l.length) → r = false) := fun h => by
    cases r with
    | false => rfl
    | true => exact absurd (HR.out.1 rfl) h
  unfold turnV
  have P0 := BlkIs.new w 27 #[.slice a l.length cap, .int .i64 at0]
  have B0 := (Below.refl w.heap.size w).alloc (Nat.le_refl _) (.cells #[.slice a l.length cap, .int .i64 at0] 27)
  have r0 := hrow.keep B0
  obtain ⟨W, hW⟩ : ∃ W, w.alloc (.cells #[.slice a l.length cap, .int .i64 at0] 27) = W := ⟨_, rfl⟩
  rw [hW] at P0 B0 r0
  have HW : Hid (_ = W) := hW
  clear hW
  have c0 : W.cell? ⟨w.heap.size, 0, none⟩ = some (.slice a l.length cap) := P0.cell 0
  have c1 : W.cell? ⟨w.heap.size, 1, none⟩ = some (.int .i64 at0) := P0.cell 1
  by_cases hx : 6 < (l.length : Int)
  · have hf : r = false := HNO.out (fun h => by have := nodesT_len h.1; omega)
    subst hf
    go_enter Tryz.func87, Tryz.ntmps87
    go_upto_region 1 with fail
    rw [HW.out]
    clear HW
    go_wp2
    go_ret
    exact ⟨rfl, B0⟩
  obtain ⟨q, hq⟩ := tells_bool (allT l)
  have HQ : Hid (q = true ↔ allT l) := hq
  clear hq
  go_enter Tryz.func87, Tryz.ntmps87
  go_upto_region 1 with fail
  rw [HW.out]
  clear HW
  go_wp2_with fail
  refine (allNodes_is a cap l _ q HQ.out hl r0).mono ?_
  rintro e z ⟨rfl, hz⟩
  replace hz : W = z := hz.symm
  subst hz
  cases q with
  | false =>
    have hf : r = false := HNO.out (fun h => by have := HQ.out.2 h.1.1; cases this)
    subst hf
    go_wp2
    go_ret
    exact ⟨rfl, B0⟩
  | true =>
    have HA : Hid (allT l) := HQ.out.1 rfl
    clear HQ
    by_cases h0 : at0 < 0
    · have hf : r = false := HNO.out (fun h => by have := h.2.1; omega)
      subst hf
      go_wp2
      go_ret
      exact ⟨rfl, B0⟩
    by_cases h1 : (l.length : Int) < at0
    · have hf : r = false := HNO.out (fun h => by have := h.2.2; omega)
      subst hf
      go_wp2
      go_ret
      exact ⟨rfl, B0⟩
    go_wp2
    go_loop [31] (fun i => ∃ k : Nat, k ≤ l.length ∧ i = .int .i64 k ∧ nodesT (l.take k)) (fun i => l.length - (intOf i).toNat)
    case atStart => exact ⟨0, Nat.zero_le _, rfl, by rw [List.take_zero]; exact nodesT_nil⟩
    case round =>
      obtain ⟨k, hk, rfl, hok⟩ := hrel
      have HK : Hid (nodesT (l.take k)) := hok
      clear hok
      by_cases hk2 : k < l.length
      · have rk0 := rowA_row r0 (Nat.zero_le k) hk
        rw [List.drop_zero, Nat.sub_zero] at rk0
        obtain ⟨b, off, ha, hbl, hcell⟩ := r0.addrN (by omega)
        subst ha
        have ck := hcell k hk2
        have HST : Hid (nodesT (l.take (k + 1)) ↔ nodesT (l.take k) ∧ (1 ≤ l[k] ∧ l[k] ≤ 6) ∧ l[k] ∉ l.take k) := nodesT_step hk2
        have hlk : (l.take k).length = k := by rw [List.length_take]; omega
        obtain ⟨x, hlx⟩ : ∃ x, l[k] = x := ⟨_, rfl⟩
        have HXA : Hid (1 ≤ x ∧ x ≤ 6) := by rw [← hlx]; exact HA.out _ (List.getElem_mem hk2)
        rw [hlx] at ck HST
        have hkI : (k : Int) < (l.length : Int) := by omega
        have HLK : Hid ((l.take k).length = k) := hlk
        clear hlx hlk hcell
        go_wp2_with fail
        refine (rowOf_any (some ⟨b, off, none⟩) l.length cap 0 k _ (Nat.zero_le _) (by omega)).mono ?_
        rintro e z ⟨rfl, hz⟩
        replace hz : W = z := hz.symm
        subst hz
        rw [Nat.sub_zero]
        obtain ⟨ra, hra⟩ : ∃ ra, rowA (some ⟨b, off, none⟩) 0 k = ra := ⟨_, rfl⟩
        rw [hra] at rk0 ⊢
        clear hra
        have hcn := contains_any ra k (l.take k) x W (by rw [HLK.out]; omega) rk0
        rw [HLK.out] at hcn
        obtain ⟨q2, hq2⟩ : ∃ q, decide (x ∈ l.take k) = q := ⟨_, rfl⟩
        rw [hq2] at hcn
        have HQ2 : Hid (decide (x ∈ l.take k) = q2) := hq2
        clear hq2 rk0
        go_wp2_with fail
        refine hcn.mono ?_
        rintro e z ⟨rfl, hz⟩
        replace hz : W = z := hz.symm
        subst hz
        clear hcn
        cases q2 with
        | true =>
          have hf : r = false := HNO.out (fun h => by
            have h1 := (HST.out.1 (nodesT_sub h.1 (List.take_sublist _ _))).2.2
            exact h1 (of_decide_eq_true HQ2.out))
          subst hf
          go_wp2
          go_ret
          exact ⟨rfl, B0⟩
        | false =>
          have HN : Hid (nodesT (l.take (k + 1))) := HST.out.2 ⟨HK.out, HXA.out, of_decide_eq_false HQ2.out⟩
          clear HST HK HQ2 HXA
          go_wp2
          go_round
          case rel => exact ⟨k + 1, by omega, by go_num, HN.out⟩
          case measure => simp [intOf]; omega
      · obtain rfl : k = l.length := by omega
        have ht : r = true := HR.out.2 ⟨by have := HK.out; rwa [List.take_length] at this, by omega, by omega⟩
        subst ht
        clear HK
        go_wp2
        go_ret
        exact ⟨rfl, B0⟩
/-- A right set of nodes. -/
def setT (l : List Int) : Prop := nodesT l ∧ rises l
theorem setT_iff {l : List Int} : setT l ↔ rightL l ∧ allT l := by
  constructor
  · rintro ⟨h1, h2⟩
    exact ⟨⟨by have := nodesT_len h1; omega, h2⟩, h1.1⟩
  · rintro ⟨h1, h2⟩
    exact ⟨⟨h2, h1.2.imp (fun h => Int.ne_of_lt h)⟩, h1.2⟩
set_option maxHeartbeats 1000000 in
set_option maxRecDepth 100000 in
theorem nodesRight_is (a : Option Addr) (cap : Nat) (l : List Int) (w : World) (r : Bool) (hr : r = true ↔ setT l) (hl : l.length ≤ 1048576) (hrow : NumRow w a l) :
    Calls Tryz.prog 210 #[.slice a l.length cap] w fun e w' => e = .returned (.bool r) ∧ Below w.heap.size w w' := by
  have HR : Hid (r = true ↔ rightL l ∧ allT l) := hr.trans setT_iff
  clear hr
  obtain ⟨q1, hq1⟩ : ∃ q, decide (rightL l) = q := ⟨_, rfl⟩
  have HQ1 : Hid (decide (rightL l) = q1) := hq1
  obtain ⟨q2, hq2⟩ := tells_bool (allT l)
  have HQ2 : Hid (q2 = true ↔ allT l) := hq2
  clear hq1 hq2
  go_enter Tryz.func210, Tryz.ntmps210
  go_wp2_with fail
  refine (implRight_any a cap l _ hl hrow).mono ?_
  rintro e z ⟨rfl, bz⟩
  rw [HQ1.out]
  cases q1 with
  | false =>
    have hf : r = false := by
      cases r with
      | false => rfl
      | true => exact absurd (HR.out.1 rfl).1 (of_decide_eq_false HQ1.out)
    subst hf
    go_wp2
    go_ret
    exact ⟨rfl, bz⟩
  | true =>
    have hrow2 := hrow.keep bz
    go_wp2_with fail
    refine (allNodes_is a cap l _ q2 HQ2.out hl hrow2).mono ?_
    rintro e z2 ⟨rfl, hz⟩
    replace hz : z = z2 := hz.symm
    subst hz
    have hf : q2 = r := by
      cases r with
      | false => cases q2 with
        | false => rfl
        | true => exact absurd (HR.out.2 ⟨of_decide_eq_true HQ1.out, HQ2.out.1 rfl⟩) (by simp)
      | true => exact HQ2.out.2 (HR.out.1 rfl).2
    subst hf
    clear HQ1 HQ2 HR
    go_wp2
    go_ret
    exact ⟨rfl, bz⟩
end Go.Proofs.YtmdcankfjmkkeaaGreat
