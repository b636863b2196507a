/- What cmp.Compare tells of two numbers. -/
import Derived.Test.YtmdcankfjmkkeaaTimeR
import Derived.Test.YtmdcankfjmkkeaaFactOne
namespace Go.Proofs.Ytmdcankfjmkkeaa
open Go Go.RowKit
set_option linter.unusedVariables false

def ordI (a b : Int) : Int := if a < b then -1 else if b < a then 1 else 0
theorem ordI_cases (a b : Int) : (ordI a b = -1 ∧ a < b) ∨ (ordI a b = 1 ∧ b < a) ∨ (ordI a b = 0 ∧ a = b) := by
  unfold ordI
  by_cases h : a < b
  · exact .inl ⟨if_pos h, h⟩
  · by_cases k : b < a
    · exact .inr (.inl ⟨by rw [if_neg h, if_pos k], k⟩)
    · exact .inr (.inr ⟨by rw [if_neg h, if_neg k], by omega⟩)
theorem ordI_neg {a b : Int} : ordI a b < 0 ↔ a < b := by rcases ordI_cases a b with ⟨h, k⟩ | ⟨h, k⟩ | ⟨h, k⟩ <;> rw [h] <;> omega
theorem ordI_zero {a b : Int} : ordI a b = 0 ↔ a = b := by rcases ordI_cases a b with ⟨h, k⟩ | ⟨h, k⟩ | ⟨h, k⟩ <;> rw [h] <;> omega
theorem isNaN_any (a : Int) (w : World) : Calls Try.prog 109 #[.int .i64 a] w fun e w' => e = .returned (.bool false) ∧ w = w' := by
  go_enter Try.func109, Try.ntmps109
  go_wp2
  go_ret
  exact ⟨by simp, rfl⟩
theorem compare_any (a b : Int) (w : World) : Calls Try.prog 103 #[.int .i64 a, .int .i64 b] w fun e w' => e = .returned (.int .i64 (ordI a b)) ∧ w = w' := by
  rcases ordI_cases a b with ⟨h, k⟩ | ⟨h, k⟩ | ⟨h, k⟩
  · have HH : Hid (ordI a b = -1) := h
    clear h
    go_enter Try.func103, Try.ntmps103
    go_wp2_with (go_at_call 109; refine (isNaN_any _ _).mono ?_; rintro e w' ⟨rfl, rfl⟩)
    go_ret
    exact ⟨by rw [HH.out]; rfl, rfl⟩
  · have HH : Hid (ordI a b = 1) := h
    have k2 : ¬ a < b := by omega
    clear h
    go_enter Try.func103, Try.ntmps103
    go_wp2_with (go_at_call 109; refine (isNaN_any _ _).mono ?_; rintro e w' ⟨rfl, rfl⟩)
    go_ret
    exact ⟨by rw [HH.out]; rfl, rfl⟩
  · subst k
    have HH : Hid (ordI a a = 0) := h
    clear h
    go_enter Try.func103, Try.ntmps103
    go_wp2_with (go_at_call 109; refine (isNaN_any _ _).mono ?_; rintro e w' ⟨rfl, rfl⟩)
    go_ret
    exact ⟨by rw [HH.out]; rfl, rfl⟩
end Go.Proofs.Ytmdcankfjmkkeaa
/- The contract of slices.BinarySearchFunc over facts, by node. -/
namespace Go.Proofs.Ytmdcankfjmkkeaa
open Go Go.RowKit
set_option linter.unusedVariables false

theorem nodeOrder_any (x : FactV) (n : Int) (w : World) : Calls Try.prog 95 #[x.val, .int .i64 n] w fun e w' => e = .returned (.int .i64 (ordI x.node n)) ∧ Below w.heap.size w w' := by
  obtain ⟨x1, x2, x3⟩ := x
  have b1 := (Below.refl w.heap.size w).alloc (Nat.le_refl _) (.cells #[.int .i64 x1, .int .i64 x2, .int .i64 x3] 62)
  unfold FactV.val
  go_enter Try.func95, Try.ntmps95
  go_wp2_with fail
  refine (compare_any x1 n _).mono ?_
  rintro e w' ⟨rfl, rfl⟩
  go_wp2
  go_ret
  exact ⟨rfl, b1⟩
def SearchPost (l : List FactV) (n : Int) (w : World) (e : Ending) (w' : World) : Prop := ∃ (k : Nat) (r : Bool), e = .returned (.tuple #[.int .i64 (k : Int), .bool r]) ∧ placeF l n k ∧ (r = true ↔ thereF l n k) ∧ Below w.heap.size w w'
set_option maxHeartbeats 2000000 in
set_option maxRecDepth 100000 in
theorem fsearch_any (a : Option Addr) (cap : Nat) (l : List FactV) (n : Int) (w : World) (hl : l.length ≤ 1048576) (hrow : CellRow w a (cellsOf FactV.cells l)) (hr : riseV l) :
    Calls Try.prog 94 #[.slice a l.length cap, .int .i64 n, .func (.func 95) #[] #[]] w (SearchPost l n w) := by
  have HRi : Hid (riseV l) := hr
  clear hr
  go_enter Try.func94, Try.ntmps94
  go_wp2
  go_loopw [9, 10] (fun s7 s8 wr => ∃ p q : Nat, s7 = .int .i64 p ∧ s8 = .int .i64 q ∧ p ≤ q ∧ q ≤ l.length ∧ (∀ j (h : j < l.length), j < p → l[j].node < n) ∧ (∀ j (h : j < l.length), q ≤ j → n ≤ l[j].node) ∧ Below w.heap.size w wr) (fun s7 s8 _ => (intOf s8).toNat - (intOf s7).toNat)
  case atStart => exact ⟨0, l.length, rfl, rfl, Nat.zero_le _, Nat.le_refl _, fun j _ h => by omega, fun j h h2 => by omega, Below.refl _ _⟩
  case round =>
    obtain ⟨p, q, rfl, rfl, hpq, hql, h1, h2, hb⟩ := hrel
    have H1 : Hid (∀ j (h : j < l.length), j < p → l[j].node < n) := h1
    have H2 : Hid (∀ j (h : j < l.length), q ≤ j → n ≤ l[j].node) := h2
    clear h1 h2
    by_cases hlt : p < q
    · obtain ⟨b, off, rfl⟩ := hrow.addr (by rw [cellsOf_length FactV.cells_len]; omega)
      have hml : (p + q) / 2 < l.length := by omega
      obtain ⟨x, hlx⟩ : ∃ x, l[(p + q) / 2] = x := ⟨_, rfl⟩
      obtain ⟨x1, x2, x3⟩ := x
      obtain ⟨_, q0, q1, q2⟩ := (hrow.keep hb).fact hml hlx
      have hmI : ((p : Int) + (q : Int)) / 2 < (l.length : Int) := by omega
      have hm0 : (0 : Int) ≤ ((p : Int) + (q : Int)) / 2 := by omega
      have hmN : (((p : Int) + (q : Int)) / 2).toNat = (p + q) / 2 := by omega
      have HX : Hid (l[(p + q) / 2].node = x1) := by show _ = _; rw [hlx]
      clear hlx
      dsimp only at q0 q1 q2
      go_wp2_with fail
      refine (nodeOrder_any ⟨x1, x2, x3⟩ n _).mono ?_
      rintro e z1 ⟨rfl, bz1⟩
      dsimp only
      have hb1 := hb.trans (bz1.mono hb.size)
      by_cases hc : x1 < n
      · have hd2 : decide (ordI x1 n < 0) = true := decide_eq_true (ordI_neg.2 hc)
        have hd3 : ordI x1 n < 0 := ordI_neg.2 hc
        have HC : Hid (x1 < n) := hc
        clear hc
        go_wp2
        go_roundw
        case rel =>
          exact ⟨(p + q) / 2 + 1, q, by go_num, rfl, by omega, hql, fun j hj hjl => by
            by_cases e : j = (p + q) / 2
            · subst e; rw [HX.out]; exact HC.out
            · have := rise_at HRi.out (show j < (p + q) / 2 by omega) hml
              have h3 := HX.out
              have h4 := HC.out
              omega, H2.out, hb1⟩
        case measure => simp [intOf]; omega
      · have hd2 : decide (ordI x1 n < 0) = false := decide_eq_false (fun h => hc (ordI_neg.1 h))
        have hd3 : ¬ ordI x1 n < 0 := fun h => hc (ordI_neg.1 h)
        have HC : Hid (¬ x1 < n) := hc
        clear hc
        go_wp2
        go_roundw
        case rel =>
          exact ⟨p, (p + q) / 2, rfl, by go_num, by omega, by omega, H1.out, fun j hj hjl => by
            by_cases e : j = (p + q) / 2
            · subst e; rw [HX.out]; have := HC.out; omega
            · have := rise_at HRi.out (show (p + q) / 2 < j by omega) hj
              have h3 := HX.out
              have h4 := HC.out
              omega, hb1⟩
        case measure => simp [intOf]; omega
    · obtain rfl : p = q := by omega
      obtain ⟨q, rfl⟩ : ∃ q, q = p := ⟨p, rfl⟩
      clear hlt hpq
      have HP : Hid (placeF l n q) := ⟨hql, H1.out, H2.out⟩
      clear H1 H2
      by_cases hn : q < l.length
      · obtain ⟨b, off, rfl⟩ := hrow.addr (by rw [cellsOf_length FactV.cells_len]; omega)
        obtain ⟨x, hlx⟩ : ∃ x, l[q] = x := ⟨_, rfl⟩
        obtain ⟨x1, x2, x3⟩ := x
        obtain ⟨_, q0, q1, q2⟩ := (hrow.keep hb).fact hn hlx
        have hmI : (q : Int) < (l.length : Int) := by omega
        have HT : Hid (thereF l n q ↔ x1 = n) := ⟨fun ⟨h, e⟩ => by rw [hlx] at e; exact e, fun e => ⟨hn, by rw [hlx]; exact e⟩⟩
        clear hlx
        dsimp only at q0 q1 q2
        go_wp2_with fail
        refine (nodeOrder_any ⟨x1, x2, x3⟩ n _).mono ?_
        rintro e z1 ⟨rfl, bz1⟩
        dsimp only
        have hb1 := hb.trans (bz1.mono hb.size)
        by_cases hc : x1 = n
        · have hd2 : (ordI x1 n == 0) = true := beq_iff_eq.2 (ordI_zero.2 hc)
          have HT2 : Hid (thereF l n q) := HT.out.2 hc
          clear hc HT
          go_wp2
          go_ret2
          exact ⟨q, true, rfl, HP.out, by simp [HT2.out], hb1⟩
        · have hd2 : (ordI x1 n == 0) = false := beq_eq_false_iff_ne.2 (fun h => hc (ordI_zero.1 h))
          have HT2 : Hid (¬ thereF l n q) := fun h => hc (HT.out.1 h)
          clear hc HT
          go_wp2
          go_ret2
          exact ⟨q, false, rfl, HP.out, by simp [HT2.out], hb1⟩
      · obtain rfl : q = l.length := by omega
        have HT2 : Hid (¬ thereF l n l.length) := fun h => by obtain ⟨h, _⟩ := h; omega
        clear hn
        go_wp2
        go_ret2
        exact ⟨l.length, false, rfl, HP.out, by simp [HT2.out], hb⟩
end Go.Proofs.Ytmdcankfjmkkeaa
