/- The contracts of promise 3's helpers: are two lists alike, how often is a number in one; and the lists that are drawn. -/
import Derived.Test.YtpjmhaegdnahmaaDraw
import Derived.Test.YtpjmhaegdnahmaaSetSpecC
namespace Go.Proofs.Ytpjmhaegdnahmaa
open Go Go.RowKit
set_option linter.unusedVariables false

set_option maxHeartbeats 1000000 in
set_option maxRecDepth 100000 in
theorem lwNums_any (a b : Option Addr) (ca cb : Nat) (l m : List Int) (w : World) (hl : l.length ≤ 1048576) (ha : NumRow w a l) (hb : NumRow w b m) :
    Calls Try.prog 14 #[.slice a l.length ca, .slice b m.length cb] w fun e w' => e = .returned (.bool (decide (l = m))) ∧ Below w.heap.size w w' := by
  by_cases hlm : l.length = m.length
  · have hq : ((l.length : Int) == (m.length : Int)) = true := by simp [hlm]
    go_enter Try.func14, Try.ntmps14
    go_wp2
    go_loopw [5] (fun i wr => ∃ k : Nat, k ≤ l.length ∧ i = .int .i64 k ∧ l.take k = m.take k ∧ Below w.heap.size w wr) (fun i _ => l.length - (intOf i).toNat)
    case atStart => exact ⟨0, Nat.zero_le _, rfl, by simp, Below.refl _ _⟩
    case round =>
      obtain ⟨k, hk, rfl, ht, hbw⟩ := hrel
      have HT : Hid (l.take k = m.take k) := ht
      clear ht
      by_cases hx : k < l.length
      · rcases ha.keep hbw with h | ⟨b1, o1, rfl, hlt1, hc1⟩
        · rw [h] at hx; simp at hx
        rcases hb.keep hbw with h | ⟨b2, o2, rfl, hlt2, hc2⟩
        · have : m.length = 0 := by rw [h]; rfl
          omega
        have hxm : k < m.length := by omega
        have h1 := hc1 k hx
        have h2 := hc2 k hxm
        obtain ⟨x, hxx⟩ : ∃ x, l[k] = x := ⟨_, rfl⟩
        obtain ⟨y, hyy⟩ : ∃ y, m[k] = y := ⟨_, rfl⟩
        rw [hxx] at h1
        rw [hyy] at h2
        have HX : Hid (l[k] = x) := hxx
        have HY : Hid (m[k] = y) := hyy
        clear hc1 hc2 hxx hyy
        by_cases e : x = y
        · have eb : (x == y) = true := by simp [e]
          go_wp2
          go_region
          go_wp2
          go_roundw
          case rel => exact ⟨k + 1, by omega, by go_num, by rw [List.take_succ_eq_append_getElem hx, List.take_succ_eq_append_getElem hxm, HT.out, HX.out, HY.out, e], hbw.drew⟩
          case measure => simp [intOf]; omega
        · have eb : (x == y) = false := by simp [e]
          have hne : decide (l = m) = false := by
            rw [decide_eq_false_iff_not]
            intro q
            subst q
            exact e (HX.out.symm.trans HY.out)
          have HN : Hid (decide (l = m) = false) := hne
          clear hne
          go_wp2
          go_region
          go_wp2
          go_ret
          exact ⟨ret_boolE HN.out.symm, hbw.drew⟩
      · have hd : decide (l = m) = true := by
          rw [decide_eq_true_eq]
          have := HT.out
          rwa [List.take_of_length_le (by omega), List.take_of_length_le (by omega)] at this
        have HD : Hid (decide (l = m) = true) := hd
        clear hd
        go_wp2
        go_ret
        exact ⟨ret_boolE HD.out.symm, hbw⟩
  · have hq : ((l.length : Int) == (m.length : Int)) = false := by simp; omega
    have hne : decide (l = m) = false := by
      rw [decide_eq_false_iff_not]
      intro q
      exact hlm (by rw [q])
    rw [hne]
    go_enter Try.func14, Try.ntmps14
    go_wp2
    go_ret
    exact ⟨rfl, Below.refl _ _⟩

set_option maxHeartbeats 1000000 in
set_option maxRecDepth 100000 in
theorem lwMany_any (a : Option Addr) (cap : Nat) (l : List Int) (n : Int) (w : World) (hl : l.length ≤ 1048576) (hrow : NumRow w a l) :
    Calls Try.prog 17 #[.slice a l.length cap, .int .i64 n] w fun e w' => e = .returned (.int .i64 (manyL l n : Nat)) ∧ w' = w := by
  go_enter Try.func17, Try.ntmps17
  go_wp2
  go_loop [6, 5] (fun i q => ∃ k : Nat, k ≤ l.length ∧ i = .int .i64 k ∧ q = .int .i64 (manyL (l.take k) n : Nat)) (fun i _ => l.length - (intOf i).toNat)
  case atStart => exact ⟨0, Nat.zero_le _, rfl, by simp [manyL]⟩
  case round =>
    obtain ⟨k, hk, rfl, rfl⟩ := hrel
    by_cases hx : k < l.length
    · rcases hrow with h | ⟨b, off, rfl, hlt, hc⟩
      · have : l.length = 0 := by rw [h]; rfl
        omega
      have hck := hc k hx
      obtain ⟨x, hxx⟩ : ∃ x, l[k] = x := ⟨_, rfl⟩
      rw [hxx] at hck
      have HT : Hid (manyL (l.take (k + 1)) n = manyL (l.take k) n + if x == n then 1 else 0) := by
        show _ = _
        unfold manyL
        rw [List.take_succ_eq_append_getElem hx, hxx, List.count_append, List.count_singleton]
      have hle : manyL (l.take k) n ≤ k := by
        unfold manyL
        have := List.count_le_length (a := n) (l := l.take k)
        rw [List.length_take] at this
        omega
      obtain ⟨c, hc0⟩ : ∃ c, manyL (l.take k) n = c := ⟨_, rfl⟩
      rw [hc0] at HT hle ⊢
      clear hc hxx hc0
      by_cases e : x = n
      · have eb : (x == n) = true := by simp [e]
        rw [eb] at HT
        go_wp2
        go_round
        case rel => exact ⟨k + 1, by omega, by go_num, by rw [HT.out]; go_num⟩
        case measure => simp [intOf]; omega
      · have eb : (x == n) = false := by simp [e]
        rw [eb] at HT
        go_wp2
        go_round
        case rel => exact ⟨k + 1, by omega, by go_num, by rw [HT.out]; go_num⟩
        case measure => simp [intOf]; omega
    · obtain rfl : k = l.length := by omega
      rw [List.take_length]
      go_wp2
      go_ret
      exact ⟨rfl, rfl⟩

/-- A row of one's own that is not nil. -/
def RowSome (w : World) (base : Nat) (v : Value) (l : List Int) : Prop := w.ownsRow base 2 1 v l.length (numsV l) ∧ ∃ g cap, v = .slice (some ⟨g, 0, none⟩) l.length cap
theorem rowSome_lit (w : World) : RowSome (w.alloc (.cells #[] 2)) w.heap.size (.slice (some ⟨w.heap.size, 0, none⟩) 0 0) [] :=
  ⟨World.ownsRow_lit _ #[] 0 (Nat.le_refl _) (by simp [maxLen]) rfl, _, _, rfl⟩
theorem rowSome_pos {w : World} {base : Nat} {v : Value} {l : List Int} (h : w.ownsRow base 2 1 v l.length (numsV l)) (hp : 0 < l.length) : RowSome w base v l := by
  refine ⟨h, ?_⟩
  rcases h.2 with ⟨_, hn⟩ | ⟨g, cap, cur, hv, _⟩
  · omega
  · exact ⟨g, cap, hv⟩
theorem append_one {w : World} {ops : Array Oper} {rest : List Oper} {o : Oper} {act : Act} {Q : Exit → Act → World → Prop} (hgd : o.guard = none) (s x : Operand)
    (ho : o.op = .call { callee := .builtin .append, args := #[s, x], argTypes := #[23, 23] }) (base : Nat) (v : Value) (l : List Int) (n : Int) (hs : act.eval s = v) (w0 : World) (hw : w = w0.alloc (.cells #[.int .i64 n] 2)) (hown : w0.ownsRow base 2 1 v l.length (numsV l))
    (hx : act.eval x = .slice (some ⟨w0.heap.size, 0, none⟩) 1 1) (h63 : l.length ≤ 1000000) (hbase : base ≤ w0.heap.size)
    (h : ∀ v' w', w'.ownsRow base 2 1 v' (l ++ [n]).length (numsV (l ++ [n])) → w.grownBy w' v.ownBlock → wpList Try.prog ops Q rest (act.put o.dst v') w') : wpList Try.prog ops Q (o :: rest) act w := by
  subst hw
  refine append_numsM hgd s x ho base v l.length (numsV l) hs (hown.alloc _) ⟨w0.heap.size, 0, none⟩ 1 1 [n] rfl hx (one_row n w0) (by omega) (by simp; omega) ?_
  intro v' w' h1 h2
  exact h v' w' (by rw [numsV_append, List.length_append]; exact h1) h2
end Go.Proofs.Ytpjmhaegdnahmaa
