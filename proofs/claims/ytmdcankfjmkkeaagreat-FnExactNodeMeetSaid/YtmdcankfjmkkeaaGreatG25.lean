/- The contracts of the program's TurnRight, of what is asked ahead of a turn, and of the place of the next one. -/
import Derived.Test.YtmdcankfjmkkeaaGreatG24
import Derived.Test.YtmdcankfjmkkeaaGreatTSpecB
import Derived.WalkMore
namespace Go.Proofs.YtmdcankfjmkkeaaGreat
open Go Go.RowKit
set_option linter.unusedVariables false
set_option linter.unusedSimpArgs false

set_option maxHeartbeats 2000000 in
set_option maxRecDepth 100000 in
theorem implTRight_is (a : Option Addr) (cap : Nat) (t : TurnV) (w : World) (r : Bool) (hr : r = true ↔ t.ok) (hl : t.list.length ≤ 1048576) (hcap : t.list.length ≤ cap) (hrow : NumRow w a t.list) :
    Calls Tryz.prog 87 #[turnV (.slice a t.list.length cap) t.at0] w fun e w' => e = .returned (.bool r) ∧ Below w.heap.size w w' := by
  obtain ⟨l, at0⟩ := t
  dsimp only at hl hcap hrow ⊢
  have HR : Hid (r = true ↔ nodesT l ∧ 0 ≤ at0 ∧ at0 ≤ l.length) := hr
  clear hr
  have HNO : Hid (¬ (nodesT l ∧ 0 ≤ at0 ∧ at0 ≤ l.length) → r = false) := fun h => by
    cases r with
    | false => rfl
    | true => exact absurd (HR.out.1 rfl) h
  unfold turnV
  have P0 := BlkIs.new w 27 #[.slice a l.length cap, .int .i64 at0]
  have B0 := (Below.refl w.heap.size w).alloc (Nat.le_refl _) (.cells #[.slice a l.length cap, .int .i64 at0] 27)
  have r0 := hrow.keep B0
  obtain ⟨W, hW⟩ : ∃ W, w.alloc (.cells #[.slice a l.length cap, .int .i64 at0] 27) = W := ⟨_, rfl⟩
  rw [hW] at P0 B0 r0
  have HW : Hid (_ = W) := hW
  clear hW
  have c0 : W.cell? ⟨w.heap.size, 0, none⟩ = some (.slice a l.length cap) := P0.cell 0
  have c1 : W.cell? ⟨w.heap.size, 1, none⟩ = some (.int .i64 at0) := P0.cell 1
  by_cases hx : 6 < (l.length : Int)
  · have hf : r = false := HNO.out (fun h => by have := nodesT_len h.1; omega)
    subst hf
    go_enter Tryz.func87, Tryz.ntmps87
    go_upto_region 1 with fail
    rw [HW.out]
    clear HW
    go_wp2
    go_ret
    exact ⟨rfl, B0⟩
  obtain ⟨q, hq⟩ := tells_bool (allT l)
  have HQ : Hid (q = true ↔ allT l) := hq
  clear hq
  go_enter Tryz.func87, Tryz.ntmps87
  go_upto_region 1 with fail
  rw [HW.out]
  clear HW
  go_wp2_with fail
  refine (allNodes_is a cap l _ q HQ.out hl r0).mono ?_
  rintro e z ⟨rfl, hz⟩
  replace hz : W = z := hz.symm
  subst hz
  cases q with
  | false =>
    have hf : r = false := HNO.out (fun h => by have := HQ.out.2 h.1.1; cases this)
    subst hf
    go_wp2
    go_ret
    exact ⟨rfl, B0⟩
  | true =>
    have HA : Hid (allT l) := HQ.out.1 rfl
    clear HQ
    by_cases h0 : at0 < 0
    · have hf : r = false := HNO.out (fun h => by have := h.2.1; omega)
      subst hf
      go_wp2
      go_ret
      exact ⟨rfl, B0⟩
    by_cases h1 : (l.length : Int) < at0
    · have hf : r = false := HNO.out (fun h => by have := h.2.2; omega)
      subst hf
      go_wp2
      go_ret
      exact ⟨rfl, B0⟩
    go_wp2
    go_loop [31] (fun i => ∃ k : Nat, k ≤ l.length ∧ i = .int .i64 k ∧ nodesT (l.take k)) (fun i => l.length - (intOf i).toNat)
    case atStart => exact ⟨0, Nat.zero_le _, rfl, by rw [List.take_zero]; exact nodesT_nil⟩
    case round =>
      obtain ⟨k, hk, rfl, hok⟩ := hrel
      have HK : Hid (nodesT (l.take k)) := hok
      clear hok
      by_cases hk2 : k < l.length
      · have rk0 := rowA_row r0 (Nat.zero_le k) hk
        rw [List.drop_zero, Nat.sub_zero] at rk0
        obtain ⟨b, off, ha, hbl, hcell⟩ := r0.addrN (by omega)
        subst ha
        have ck := hcell k hk2
        have HST : Hid (nodesT (l.take (k + 1)) ↔ nodesT (l.take k) ∧ (1 ≤ l[k] ∧ l[k] ≤ 6) ∧ l[k] ∉ l.take k) := nodesT_step hk2
        have hlk : (l.take k).length = k := by rw [List.length_take]; omega
        obtain ⟨x, hlx⟩ : ∃ x, l[k] = x := ⟨_, rfl⟩
        have HXA : Hid (1 ≤ x ∧ x ≤ 6) := by rw [← hlx]; exact HA.out _ (List.getElem_mem hk2)
        rw [hlx] at ck HST
        have hkI : (k : Int) < (l.length : Int) := by omega
        have HLK : Hid ((l.take k).length = k) := hlk
        clear hlx hlk hcell
        go_wp2_with fail
        refine (rowOf_any (some ⟨b, off, none⟩) l.length cap 0 k _ (Nat.zero_le _) (by omega)).mono ?_
        rintro e z ⟨rfl, hz⟩
        replace hz : W = z := hz.symm
        subst hz
        rw [Nat.sub_zero]
        obtain ⟨ra, hra⟩ : ∃ ra, rowA (some ⟨b, off, none⟩) 0 k = ra := ⟨_, rfl⟩
        rw [hra] at rk0 ⊢
        clear hra
        have hcn := contains_any ra k (l.take k) x W (by rw [HLK.out]; omega) rk0
        rw [HLK.out] at hcn
        obtain ⟨q2, hq2⟩ : ∃ q, decide (x ∈ l.take k) = q := ⟨_, rfl⟩
        rw [hq2] at hcn
        have HQ2 : Hid (decide (x ∈ l.take k) = q2) := hq2
        clear hq2 rk0
        go_wp2_with fail
        refine hcn.mono ?_
        rintro e z ⟨rfl, hz⟩
        replace hz : W = z := hz.symm
        subst hz
        clear hcn
        cases q2 with
        | true =>
          have hf : r = false := HNO.out (fun h => by
            have h1 := (HST.out.1 (nodesT_sub h.1 (List.take_sublist _ _))).2.2
            exact h1 (of_decide_eq_true HQ2.out))
          subst hf
          go_wp2
          go_ret
          exact ⟨rfl, B0⟩
        | false =>
          have HN : Hid (nodesT (l.take (k + 1))) := HST.out.2 ⟨HK.out, HXA.out, of_decide_eq_false HQ2.out⟩
          clear HST HK HQ2 HXA
          go_wp2
          go_round
          case rel => exact ⟨k + 1, by omega, by go_num, HN.out⟩
          case measure => simp [intOf]; omega
      · obtain rfl : k = l.length := by omega
        have ht : r = true := HR.out.2 ⟨by have := HK.out; rwa [List.take_length] at this, by omega, by omega⟩
        subst ht
        clear HK
        go_wp2
        go_ret
        exact ⟨rfl, B0⟩
/-- A right set of nodes. -/
def setT (l : List Int) : Prop := nodesT l ∧ rises l
theorem setT_iff {l : List Int} : setT l ↔ rightL l ∧ allT l := by
  constructor
  · rintro ⟨h1, h2⟩
    exact ⟨⟨by have := nodesT_len h1; omega, h2⟩, h1.1⟩
  · rintro ⟨h1, h2⟩
    exact ⟨⟨h2, h1.2.imp (fun h => Int.ne_of_lt h)⟩, h1.2⟩
set_option maxHeartbeats 1000000 in
set_option maxRecDepth 100000 in
theorem nodesRight_is (a : Option Addr) (cap : Nat) (l : List Int) (w : World) (r : Bool) (hr : r = true ↔ setT l) (hl : l.length ≤ 1048576) (hrow : NumRow w a l) :
    Calls Tryz.prog 210 #[.slice a l.length cap] w fun e w' => e = .returned (.bool r) ∧ Below w.heap.size w w' := by
  have HR : Hid (r = true ↔ rightL l ∧ allT l) := hr.trans setT_iff
  clear hr
  obtain ⟨q1, hq1⟩ : ∃ q, decide (rightL l) = q := ⟨_, rfl⟩
  have HQ1 : Hid (decide (rightL l) = q1) := hq1
  obtain ⟨q2, hq2⟩ := tells_bool (allT l)
  have HQ2 : Hid (q2 = true ↔ allT l) := hq2
  clear hq1 hq2
  go_enter Tryz.func210, Tryz.ntmps210
  go_wp2_with fail
  refine (implRight_any a cap l _ hl hrow).mono ?_
  rintro e z ⟨rfl, bz⟩
  rw [HQ1.out]
  cases q1 with
  | false =>
    have hf : r = false := by
      cases r with
      | false => rfl
      | true => exact absurd (HR.out.1 rfl).1 (of_decide_eq_false HQ1.out)
    subst hf
    go_wp2
    go_ret
    exact ⟨rfl, bz⟩
  | true =>
    have hrow2 := hrow.keep bz
    go_wp2_with fail
    refine (allNodes_is a cap l _ q2 HQ2.out hl hrow2).mono ?_
    rintro e z2 ⟨rfl, hz⟩
    replace hz : z = z2 := hz.symm
    subst hz
    have hf : q2 = r := by
      cases r with
      | false => cases q2 with
        | false => rfl
        | true => exact absurd (HR.out.2 ⟨of_decide_eq_true HQ1.out, HQ2.out.1 rfl⟩) (by simp)
      | true => exact HQ2.out.2 (HR.out.1 rfl).2
    subst hf
    clear HQ1 HQ2 HR
    go_wp2
    go_ret
    exact ⟨rfl, bz⟩
end Go.Proofs.YtmdcankfjmkkeaaGreat
/- The contracts of what is asked ahead of a turn, and of the place of the next one. -/
namespace Go.Proofs.YtmdcankfjmkkeaaGreat
open Go Go.RowKit
set_option linter.unusedVariables false
set_option linter.unusedSimpArgs false

/-- The code ahead of a turn. -/
def FaultT (t : TurnV) (nodes : List Int) (seed c : Int) : Prop :=
  (400 < nodes.length ∧ c = 2) ∨ (nodes.length ≤ 400 ∧ ¬ (t.ok ∧ askT nodes seed) ∧ c = 1) ∨ (t.ok ∧ askT nodes seed ∧ nodes = [] ∧ c = 6) ∨ (t.ok ∧ askT nodes seed ∧ nodes ≠ [] ∧ c = 0)
theorem askT_iff {nodes : List Int} {seed : Int} : askT nodes seed ↔ setT nodes ∧ (0 ≤ seed ∧ seed ≤ 2147483647) := by
  unfold askT setT
  constructor
  · rintro ⟨a, b, c, d⟩; exact ⟨⟨a, b⟩, c, d⟩
  · rintro ⟨⟨a, b⟩, c, d⟩; exact ⟨a, b, c, d⟩
set_option maxHeartbeats 2000000 in
set_option maxRecDepth 100000 in
theorem turnFault_any (a : Option Addr) (cap : Nat) (t : TurnV) (a1 : Option Addr) (cap1 : Nat) (nodes : List Int) (seed c : Int) (w : World) (h : FaultT t nodes seed c) (hl : t.list.length ≤ 1048576) (hl1 : nodes.length ≤ 1048576) (hcap : t.list.length ≤ cap) (hrow : NumRow w a t.list) (hrow1 : NumRow w a1 nodes) :
    Calls Tryz.prog 187 #[turnV (.slice a t.list.length cap) t.at0, .slice a1 nodes.length cap1, .int .i64 seed] w fun e w' => e = .returned (.int .i64 c) ∧ Below w.heap.size w w' := by
  have HF : Hid (FaultT t nodes seed c) := h
  clear h
  obtain ⟨q1, hq1⟩ := tells_bool t.ok
  have HQ1 : Hid (q1 = true ↔ t.ok) := hq1
  obtain ⟨q2, hq2⟩ := tells_bool (setT nodes)
  have HQ2 : Hid (q2 = true ↔ setT nodes) := hq2
  clear hq1 hq2
  have P0 := BlkIs.new w 27 #[.slice a t.list.length cap, .int .i64 t.at0]
  have B0 := (Below.refl w.heap.size w).alloc (Nat.le_refl _) (.cells #[.slice a t.list.length cap, .int .i64 t.at0] 27)
  have r0 := hrow.keep B0
  have s0 := hrow1.keep B0
  obtain ⟨W, hW⟩ : ∃ W, w.alloc (.cells #[.slice a t.list.length cap, .int .i64 t.at0] 27) = W := ⟨_, rfl⟩
  rw [hW] at P0 B0 r0 s0
  have HW : Hid (_ = W) := hW
  clear hW
  have c0 : W.cell? ⟨w.heap.size, 0, none⟩ = some (.slice a t.list.length cap) := P0.cell 0
  have c1 : W.cell? ⟨w.heap.size, 1, none⟩ = some (.int .i64 t.at0) := P0.cell 1
  have hR := implTRight_is a cap t W q1 HQ1.out hl hcap r0
  unfold turnV at hR ⊢
  obtain ⟨ln, hln⟩ : ∃ n, t.list.length = n := ⟨_, rfl⟩
  obtain ⟨at0, hat⟩ : ∃ n, t.at0 = n := ⟨_, rfl⟩
  rw [hln] at c0
  rw [hat] at c1
  rw [hln, hat] at hR HW P0 ⊢
  clear hln hat
  by_cases hx : 400 < (nodes.length : Int)
  · have hc : c = 2 := by
      rcases HF.out with ⟨_, h⟩ | ⟨h, _⟩ | ⟨_, h, _⟩ | ⟨_, h, _⟩
      · exact h
      · omega
      · have := nodesT_len h.1; omega
      · have := nodesT_len h.1; omega
    subst hc
    go_enter Tryz.func187, Tryz.ntmps187
    go_upto_region 1 with fail
    rw [HW.out]
    clear HW hR
    go_wp2
    go_ret
    exact ⟨rfl, B0⟩
  have HNO : Hid (¬ (t.ok ∧ askT nodes seed) → c = 1) := fun hn => by
    rcases HF.out with ⟨h, _⟩ | ⟨_, _, h⟩ | ⟨h1, h2, _⟩ | ⟨h1, h2, _⟩
    · omega
    · exact h
    · exact absurd ⟨h1, h2⟩ hn
    · exact absurd ⟨h1, h2⟩ hn
  go_enter Tryz.func187, Tryz.ntmps187
  go_upto_region 1 with fail
  rw [HW.out]
  clear HW
  go_wp2_with fail
  refine hR.mono ?_
  rintro e z ⟨rfl, bz⟩
  clear hR c0 c1
  have B1 := B0.trans (bz.mono B0.size)
  have s1 := s0.keep bz
  clear P0 r0 s0 B0 bz
  cases q1 with
  | false =>
    have hf : c = 1 := HNO.out (fun h => by have := HQ1.out.2 h.1; cases this)
    subst hf
    go_wp2
    go_ret
    exact ⟨rfl, B1⟩
  | true =>
    have HT : Hid t.ok := HQ1.out.1 rfl
    clear HQ1
    go_wp2_with fail
    refine (nodesRight_is a1 cap1 nodes _ q2 HQ2.out hl1 s1).mono ?_
    rintro e z2 ⟨rfl, bz⟩
    have B2 := B1.trans (bz.mono B1.size)
    clear s1 B1 bz
    cases q2 with
    | false =>
      have hf : c = 1 := HNO.out (fun h => by have := HQ2.out.2 (askT_iff.1 h.2).1; cases this)
      subst hf
      go_wp2
      go_ret
      exact ⟨rfl, B2⟩
    | true =>
      have HS : Hid (setT nodes) := HQ2.out.1 rfl
      clear HQ2
      obtain ⟨q3, hq3⟩ : ∃ q, (decide (0 ≤ seed) && decide (seed ≤ 2147483647)) = q := ⟨_, rfl⟩
      have HQ3 : Hid ((decide (0 ≤ seed) && decide (seed ≤ 2147483647)) = q3) := hq3
      clear hq3
      go_wp2_with fail
      refine (seedRight_any seed _).mono ?_
      rintro e z3 ⟨rfl, hz⟩
      replace hz : z2 = z3 := hz.symm
      subst hz
      rw [HQ3.out]
      cases q3 with
      | false =>
        have hf : c = 1 := HNO.out (fun h => by
          have h1 := (askT_iff.1 h.2).2
          have := HQ3.out
          simp [h1.1, h1.2] at this)
        subst hf
        go_wp2
        go_ret
        exact ⟨rfl, B2⟩
      | true =>
        have ha : askT nodes seed := askT_iff.2 ⟨HS.out, by have := HQ3.out; simpa using this⟩
        have HA : Hid (askT nodes seed) := ha
        clear ha HQ3
        by_cases hn0 : nodes = []
        · have hf : c = 6 := by
            rcases HF.out with ⟨h, _⟩ | ⟨_, h, _⟩ | ⟨_, _, _, h⟩ | ⟨_, _, h, _⟩
            · omega
            · exact absurd ⟨HT.out, HA.out⟩ h
            · exact h
            · exact absurd hn0 h
          subst hf
          subst hn0
          clear HF HNO HT HS HA
          go_wp2
          go_ret
          exact ⟨rfl, B2⟩
        · have hf : c = 0 := by
            rcases HF.out with ⟨h, _⟩ | ⟨_, h, _⟩ | ⟨_, _, h, _⟩ | ⟨_, _, _, h⟩
            · omega
            · exact absurd ⟨HT.out, HA.out⟩ h
            · exact absurd h hn0
            · exact h
          subst hf
          have hnb : (((nodes.length : Nat) : Int) == 0) = false := beq_eq_false_iff_ne.2 (fun e => hn0 (List.eq_nil_of_length_eq_zero (by omega)))
          clear HF HNO HT HS HA hn0
          go_wp2
          go_ret
          exact ⟨rfl, B2⟩
/-- The place of the first one that is one of nodes; behind the last one, if none is. -/
def PlaceT (row nodes : List Int) (p : Nat) : Prop := p ≤ row.length ∧ (∀ j (hj : j < row.length), j < p → row[j] ∉ nodes) ∧ ∀ h : p < row.length, row[p] ∈ nodes
set_option maxHeartbeats 2000000 in
set_option maxRecDepth 100000 in
theorem placeOf_any (a : Option Addr) (cap : Nat) (row : List Int) (a1 : Option Addr) (cap1 : Nat) (nodes : List Int) (p : Nat) (w : World) (h : PlaceT row nodes p) (hl : row.length ≤ 1048576) (hl1 : nodes.length ≤ 1048576) (hrow : NumRow w a row) (hrow1 : NumRow w a1 nodes) :
    Calls Tryz.prog 188 #[.slice a row.length cap, .slice a1 nodes.length cap1] w fun e w' => e = .returned (.int .i64 p) ∧ w' = w := by
  have HP : Hid (PlaceT row nodes p) := h
  clear h
  go_enter Tryz.func188, Tryz.ntmps188
  go_wp2
  go_step3
  go_wp2
  go_step3
  go_wp2
  go_loop [14, 5] (fun i q => ∃ k : Nat, k ≤ row.length ∧ i = .int .i64 k ∧ q = .int .i64 row.length ∧ (∀ j (hj : j < row.length), j < k → row[j] ∉ nodes)) (fun i _ => row.length - (intOf i).toNat)
  case atStart => exact ⟨0, Nat.zero_le _, rfl, rfl, fun j _ h => by omega⟩
  case round =>
    obtain ⟨k, hk, rfl, rfl, hno⟩ := hrel
    have HNO : Hid (∀ j (hj : j < row.length), j < k → row[j] ∉ nodes) := hno
    clear hno
    by_cases hx : k < row.length
    · obtain ⟨b, off, rfl, hlt, hc⟩ := hrow.addrN (by omega)
      have hck := hc k hx
      obtain ⟨x, hxx⟩ : ∃ x, row[k] = x := ⟨_, rfl⟩
      rw [hxx] at hck
      have HX : Hid (row[k] = x) := hxx
      clear hc hxx
      go_wp2
      go_loop [21, 5] (fun i q => ∃ m : Nat, m ≤ nodes.length ∧ i = .int .i64 m ∧ q = .int .i64 row.length ∧ ¬ x ∈ nodes.take m) (fun i _ => nodes.length - (intOf i).toNat)
      case atStart => exact ⟨0, Nat.zero_le _, rfl, rfl, by simp⟩
      case round =>
        obtain ⟨m, hm, rfl, rfl, hn⟩ := hrel
        have HN : Hid (¬ x ∈ nodes.take m) := hn
        clear hn
        by_cases hy : m < nodes.length
        · obtain ⟨b1, off1, rfl, hlt1, hc1⟩ := hrow1.addrN (by omega)
          have hcm := hc1 m hy
          obtain ⟨y, hyy⟩ : ∃ y, nodes[m] = y := ⟨_, rfl⟩
          rw [hyy] at hcm
          have HY : Hid (nodes[m] = y) := hyy
          clear hc1 hyy
          by_cases e : x = y
          · subst e
            have hp : p = k := by
              obtain ⟨h1, h2, h3⟩ := HP.out
              have hin : row[k] ∈ nodes := by rw [HX.out, ← HY.out]; exact List.getElem_mem hy
              rcases Nat.lt_trichotomy p k with c | c | c
              · exact absurd (h3 (by omega)) (HNO.out p (by omega) c)
              · exact c
              · exact absurd hin (h2 k hx c)
            subst hp
            go_wp2
            go_ret
            exact ⟨rfl, rfl⟩
          · have eb : (x == y) = false := by simp [e]
            go_wp2
            go_round
            case rel => exact ⟨m + 1, by omega, by go_num, rfl, by
              rw [List.take_succ_eq_append_getElem hy, List.mem_append, HY.out]
              rintro (q | q)
              · exact HN.out q
              · simp at q; exact e q⟩
            case measure => simp [intOf]; omega
        · have HM : Hid (¬ row[k] ∈ nodes) := fun q => HN.out (by rw [List.take_of_length_le (by omega), ← HX.out]; exact q)
          go_wp2
          go_round
          case rel => exact ⟨k + 1, by omega, by go_num, rfl, fun j hj h => by
            by_cases e : j = k
            · subst e; exact HM.out
            · exact HNO.out j hj (by omega)⟩
          case measure => simp [intOf]; omega
    · have hp : p = row.length := by
        obtain ⟨h1, h2, h3⟩ := HP.out
        rcases Nat.lt_or_ge p row.length with c | c
        · exact absurd (h3 c) (HNO.out p c (by omega))
        · omega
      subst hp
      go_wp2
      go_ret
      exact ⟨rfl, rfl⟩
end Go.Proofs.YtmdcankfjmkkeaaGreat
