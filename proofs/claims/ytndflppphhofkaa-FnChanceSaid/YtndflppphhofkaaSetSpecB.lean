/- The contracts of chapter 3's specification: a set without a number. -/
import Derived.Test.YtndflppphhofkaaSetSpec
import Derived.Deep.OwnRows
import Derived.Laws.OwnMore
import Derived.Laws.AppendOwnNone
namespace Go.Proofs.Ytndflppphhofkaa
open Go Go.RowKit
set_option linter.unusedVariables false

def numsV (l : List Int) : List Value := l.map (Value.int .i64)
theorem numsV_length (l : List Int) : (numsV l).length = l.length := by simp [numsV]
theorem numsV_append (l m : List Int) : numsV (l ++ m) = numsV l ++ numsV m := by simp [numsV]
theorem own_nums {w : World} {base : Nat} {v : Value} {l : List Int} (h : w.ownsRow base 2 1 v l.length (numsV l)) : ∃ a cap, v = .slice a l.length cap ∧ OwnNums w base a l := by
  have h' := h
  rcases h.2 with ⟨hv, hn⟩ | ⟨g, cap, cur, hv, hb, hg, hnc, hcm, hcs, ht⟩
  · exact ⟨none, 0, by rw [hv, hn], .inl (List.eq_nil_of_length_eq_zero hn)⟩
  · subst hv
    refine ⟨some ⟨g, 0, none⟩, cap, rfl, .inr ⟨g, 0, rfl, hb, (h'.lt g rfl).2, fun i hi => ?_, fun i hi => h'.frozenAt _⟩⟩
    rw [Nat.zero_add, h'.cellAt i (by omega), numsV, List.getElem?_map, List.getElem?_eq_getElem hi]
    rfl
theorem own_mono {w : World} {base base' e size : Nat} {v : Value} {n : Nat} {xs : List Value} (h : w.ownsRow base e size v n xs) (hb : base' ≤ base) : w.ownsRow base' e size v n xs :=
  ⟨h.1, h.2.imp id fun ⟨g, cap, cur, a, b, c⟩ => ⟨g, cap, cur, a, Nat.le_trans hb b, c⟩⟩
theorem dropL_nil (n : Int) : dropL [] n = [] := rfl
theorem dropL_keep {l : List Int} {n x : Int} (h : x ≠ n) : dropL (l ++ [x]) n = dropL l n ++ [x] := by simp [dropL, h]
theorem dropL_skip {l : List Int} {n : Int} : dropL (l ++ [n]) n = dropL l n := by simp [dropL]
theorem info_partsI : ∃ i, Try.prog.info? 2 = some i ∧ i.zero = some (.int .i64 0) ∧ i.size = 1 ∧ i.bytes = 8 := by
  obtain ⟨i, hi, hz⟩ := Option.map_eq_some_iff.1 Try.infoI64
  simp only [Prod.mk.injEq] at hz
  exact ⟨i, hi, hz.1, hz.2.1, hz.2.2⟩

set_option maxHeartbeats 1000000 in
set_option maxRecDepth 100000 in
theorem l02Drop_any (a : Option Addr) (cap : Nat) (l : List Int) (n : Int) (w : World) (hl : l.length ≤ 1048576) (hrow : NumRow w a l) :
    Calls Try.prog 51 #[.slice a l.length cap, .int .i64 n] w fun e w' => ∃ v, e = .returned v ∧ w'.ownsRow w.heap.size 2 1 v (dropL l n).length (numsV (dropL l n)) ∧ Below w.heap.size w w' := by
  obtain ⟨i0, hi, hz0, hz1, hz2⟩ := info_partsI
  go_enter Try.func51, Try.ntmps51
  go_wp2
  go_loopw [6, 5] (fun i v wr => ∃ k : Nat, k ≤ l.length ∧ i = .int .i64 k ∧ wr.ownsRow w.heap.size 2 1 v (dropL (l.take k) n).length (numsV (dropL (l.take k) n)) ∧ Below w.heap.size w wr) (fun i _ _ => l.length - (intOf i).toNat)
  case atStart => exact ⟨0, Nat.zero_le _, rfl, World.ownsRow_lit _ #[] 0 (Nat.le_refl _) (by simp [maxLen]) rfl, (Below.refl _ _).alloc (Nat.le_refl _) _⟩
  case round =>
    obtain ⟨k, hk, rfl, hown, hb⟩ := hrel
    by_cases hx : k < l.length
    · rcases hrow.keep hb with h | ⟨b, off, rfl, hlt, hc⟩
      · have : l.length = 0 := by rw [h]; rfl
        omega
      have hck := hc k hx
      obtain ⟨x, hxx⟩ : ∃ x, l[k] = x := ⟨_, rfl⟩
      rw [hxx] at hck
      have HX : Hid (l[k] = x) := hxx
      have HT : Hid (l.take (k + 1) = l.take k ++ [x]) := by
        show _ = _
        rw [List.take_succ_eq_append_getElem hx, hxx]
      have hdl : (dropL (l.take k) n).length ≤ k := by have := dropL_length (l.take k) n; rw [List.length_take] at this; omega
      clear hc hxx
      by_cases e : x = n
      · have eb : (x == n) = true := by simp [e]
        have ho : wr.ownsRow w.heap.size 2 1 u5 (dropL (l.take (k + 1)) n).length (numsV (dropL (l.take (k + 1)) n)) := by rw [HT.out, e, dropL_skip]; exact hown
        clear hown
        go_wp2
        go_roundw
        case rel => exact ⟨k + 1, by omega, by go_num, ho, hb⟩
        case measure => simp [intOf]; omega
      · have eb : (x == n) = false := by simp [e]
        have HE : Hid (x ≠ n) := e
        clear e
        go_wp2_with (at_builtin; refine wpList_append_own _ rfl _ _ 28 rfl w.heap.size 2 i0 (.int .i64 0) 1 8 Try.underlying28 hi hz0 hz1 hz2 rfl (by decide) _ _ _ rfl (hown.alloc _) ⟨wr.heap.size, 0, none⟩ 1 1 [.int .i64 x] rfl rfl ?c1 ?c2 ?c3 ?c4 ?c5 ?_)
        case c1 => exact cell_one_new _ _ _
        case c2 => intro u hu; simp at hu; subst hu; rfl
        case c3 => unfold maxLen; omega
        case c4 => omega
        case c5 => have := hb.size; simp; omega
        · intro v' w2 hown' hgrow _
          have hb2 : Below w.heap.size w w2 := (hb.alloc hb.size _).grown hgrow (by have := hb.size; simp; omega) (fun g hg => (hown.lt g hg).1)
          have ho : w2.ownsRow w.heap.size 2 1 v' (dropL (l.take (k + 1)) n).length (numsV (dropL (l.take (k + 1)) n)) := by
            rw [HT.out, dropL_keep HE.out, numsV_append, List.length_append]; exact hown'
          clear hown' hgrow hown
          go_wp2
          go_roundw
          case rel => exact ⟨k + 1, by omega, by go_num, ho, hb2⟩
          case measure => simp [intOf]; omega
    · have e : k = l.length := by omega
      subst e
      rw [List.take_length] at hown
      go_wp2
      go_ret
      exact ⟨_, rfl, hown, hb⟩

theorem addr_off (b off j : Nat) : (⟨b, off, none⟩ : Addr).add j = ⟨b, off + j, none⟩ := by by_cases e0 : j = 0 <;> simp [Addr.add, e0]
/-- append(own, numbers...). -/
theorem append_nums {w : World} {ops : Array Oper} {rest : List Oper} {o : Oper} {act : Act} {Q : Exit → Act → World → Prop} (hgd : o.guard = none) (s x : Operand)
    (ho : o.op = .call { callee := .builtin .append, args := #[s, x], argTypes := #[28, 28] }) (base : Nat) (v : Value) (n : Nat) (xs : List Value) (hs : act.eval s = v) (hown : w.ownsRow base 2 1 v n xs)
    (a : Option Addr) (cap : Nat) (l : List Int) (hx : act.eval x = .slice a l.length cap) (hcap : a = none → cap = 0) (hrow : NumRow w a l) (h63 : n + l.length ≤ 2000000) (hbase : base ≤ w.heap.size)
    (h : ∀ v' w', w'.ownsRow base 2 1 v' (n + l.length) (xs ++ numsV l) → w.grownBy w' v.ownBlock → wpList Try.prog ops Q rest (act.put o.dst v') w') : wpList Try.prog ops Q (o :: rest) act w := by
  obtain ⟨i0, hi, hz0, hz1, hz2⟩ := info_partsI
  cases a with
  | none =>
    have hl : l = [] := by
      rcases hrow with h | ⟨_, _, e, _⟩
      · exact h
      · cases e
    subst hl
    have hc := hcap rfl
    subst hc
    refine wpList_append_own_none hgd s x _ ho base _ i0 1 Try.underlying28 hi v n xs hs hown hx ?_
    refine h v w ?_ (World.grownBy.refl _ _)
    simpa [numsV] using hown
  | some ad =>
    refine wpList_append_own w hgd s x 28 ho base 2 i0 (.int .i64 0) 1 8 Try.underlying28 hi hz0 hz1 hz2 rfl (by decide) v n xs hs hown ad l.length cap (numsV l) hx (by simp [numsV]) ?_ ?_ (by unfold maxLen; omega) (by omega) hbase (fun v' w' h1 h2 _ => h v' w' h1 h2)
    · intro j u hj
      rcases hrow with e | ⟨b, off, e, hlt, hc⟩
      · subst e; simp [numsV] at hj
      · obtain rfl := Option.some.inj e
        rw [addr_off]
        have hjl : j < l.length := by
          have := (List.getElem?_eq_some_iff.1 hj).1
          rwa [numsV_length] at this
        rw [hc j hjl]
        rw [numsV, List.getElem?_map, List.getElem?_eq_getElem hjl] at hj
        exact hj
    · intro u hu
      obtain ⟨q, _, rfl⟩ := List.mem_map.1 hu
      rfl
/-- SetDrop. -/
def setDropL (l : List Int) (n : Int) : List Int := if 400 < (l.length : Int) then [] else if rightL l then dropL l n else l
set_option maxHeartbeats 1000000 in
set_option maxRecDepth 100000 in
theorem specDrop_any (a : Option Addr) (cap : Nat) (l : List Int) (n : Int) (w : World) (hl : l.length ≤ 1048576) (hcap : a = none → cap = 0) (hrow : NumRow w a l) :
    Calls Try.prog 21 #[.slice a l.length cap, .int .i64 n] w fun e w' => ∃ v, e = .returned v ∧ w'.ownsRow w.heap.size 2 1 v (setDropL l n).length (numsV (setDropL l n)) ∧ Below w.heap.size w w' := by
  by_cases h1 : 400 < (l.length : Int)
  · have HE : Hid (setDropL l n = []) := if_pos h1
    go_enter Try.func21, Try.ntmps21
    go_wp2
    go_ret
    exact ⟨_, rfl, by rw [HE.out]; exact World.ownsRow_lit _ #[] 0 (Nat.le_refl _) (by simp [maxLen]) rfl, (Below.refl _ _).alloc (Nat.le_refl _) _⟩
  by_cases h2 : rightL l
  · have HE : Hid (setDropL l n = dropL l n) := by show _ = _; unfold setDropL; rw [if_neg h1, if_pos h2]
    have HD : Hid (decide (rightL l) = true) := decide_eq_true h2
    clear h2
    go_enter Try.func21, Try.ntmps21
    go_wp2_with fail
    refine (specRight_any a cap l _ hl hrow).mono ?_
    rintro e x1 ⟨rfl, b1⟩
    rw [HD.out]
    have hrow1 := hrow.keep b1
    go_wp2_with fail
    refine (l02Drop_any a cap l n _ hl hrow1).mono ?_
    rintro e x2 ⟨v, rfl, hown, b2⟩
    have hown' := own_mono hown b1.size
    have HO : Hid (x2.ownsRow w.heap.size 2 1 v (dropL l n).length (numsV (dropL l n))) := hown'
    clear hown hown'
    go_wp2
    go_ret
    exact ⟨v, rfl, by rw [HE.out]; exact HO.out, b1.trans (b2.mono b1.size)⟩
  · have HE : Hid (setDropL l n = l) := by show _ = _; unfold setDropL; rw [if_neg h1, if_neg h2]
    have HD : Hid (decide (rightL l) = false) := decide_eq_false h2
    clear h2
    go_enter Try.func21, Try.ntmps21
    go_wp2_with fail
    refine (specRight_any a cap l _ hl hrow).mono ?_
    rintro e x1 ⟨rfl, b1⟩
    rw [HD.out]
    have b1a := b1.alloc b1.size (.cells #[] 2)
    have hrow1 := hrow.keep b1a
    have hsz1 := b1.size
    go_wp2_with (at_builtin; refine append_nums rfl _ _ rfl w.heap.size _ 0 [] rfl (World.ownsRow_lit _ #[] 0 hsz1 (by simp [maxLen]) rfl) a cap l rfl hcap hrow1 (by omega) b1a.size ?_)
    intro v' w2 hown' hgrow
    have hb2 : Below w.heap.size w w2 := b1a.grown hgrow b1a.size (fun g hg => by obtain rfl := Option.some.inj hg; exact hsz1)
    have HO : Hid (w2.ownsRow w.heap.size 2 1 v' l.length (numsV l)) := by
      exact hown'
    clear hown' hgrow
    go_wp2
    go_ret
    exact ⟨v', rfl, by rw [HE.out]; exact HO.out, hb2⟩
end Go.Proofs.Ytndflppphhofkaa
