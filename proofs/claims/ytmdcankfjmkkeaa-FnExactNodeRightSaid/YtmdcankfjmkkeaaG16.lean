/- The contracts of chapter 3's specification: what may be a set, and what is in a list. -/
import Derived.Test.YtmdcankfjmkkeaaNums
import Derived.Test.YtmdcankfjmkkeaaPlainC
import Derived.Deep.OwnRows
import Derived.Laws.OwnMore
import Derived.Laws.AppendOwnNone
namespace Go.Proofs.Ytmdcankfjmkkeaa
open Go Go.RowKit
set_option linter.unusedVariables false

/-- A right set: no longer than may be, and rising. -/
abbrev rightL (l : List Int) : Prop := l.length ≤ 400 ∧ rises l

set_option maxHeartbeats 1000000 in
set_option maxRecDepth 100000 in
theorem l02Has_any (a : Option Addr) (cap : Nat) (l : List Int) (n : Int) (w : World) (hl : l.length ≤ 1048576) (hrow : NumRow w a l) :
    Calls Try.prog 92 #[.slice a l.length cap, .int .i64 n] w fun e w' => e = .returned (.bool (decide (n ∈ l))) ∧ w' = w := by
  go_enter Try.func92, Try.ntmps92
  go_wp2
  go_loop [5] (fun i => ∃ k : Nat, k ≤ l.length ∧ i = .int .i64 k ∧ ¬ n ∈ l.take k) (fun i => l.length - (intOf i).toNat)
  case atStart => exact ⟨0, Nat.zero_le _, rfl, by simp⟩
  case round =>
    obtain ⟨k, hk, rfl, hn⟩ := hrel
    have HN : Hid (¬ n ∈ l.take k) := hn
    clear hn
    by_cases hx : k < l.length
    · rcases hrow with h | ⟨b, off, rfl, hlt, hc⟩
      · have : l.length = 0 := by rw [h]; rfl
        omega
      have hck := hc k hx
      obtain ⟨x, hxx⟩ : ∃ x, l[k] = x := ⟨_, rfl⟩
      rw [hxx] at hck
      have HX : Hid (l[k] = x) := hxx
      clear hc hxx
      by_cases e : x = n
      · subst e
        have HM : Hid (decide (x ∈ l) = true) := decide_eq_true (by have := List.getElem_mem hx; rw [HX.out] at this; exact this)
        go_wp2
        go_ret
        exact ⟨ret_boolE HM.out.symm, rfl⟩
      · have eb : (x == n) = false := by simp [e]
        go_wp2
        go_round
        case rel => exact ⟨k + 1, by omega, by go_num, by
          rw [List.take_succ_eq_append_getElem hx, List.mem_append, HX.out]
          rintro (q | q)
          · exact HN.out q
          · simp at q; exact e q.symm⟩
        case measure => simp [intOf]; omega
    · have HM : Hid (decide (n ∈ l) = false) := decide_eq_false (fun q => HN.out (by rw [List.take_of_length_le (by omega)]; exact q))
      go_wp2
      go_ret
      exact ⟨ret_boolE HM.out.symm, rfl⟩
end Go.Proofs.Ytmdcankfjmkkeaa
/- The contracts of chapter 3's specification: a set without a number. -/
namespace Go.Proofs.Ytmdcankfjmkkeaa
open Go Go.RowKit
set_option linter.unusedVariables false

def numsV (l : List Int) : List Value := l.map (Value.int .i64)
theorem numsV_length (l : List Int) : (numsV l).length = l.length := by simp [numsV]
theorem numsV_append (l m : List Int) : numsV (l ++ m) = numsV l ++ numsV m := by simp [numsV]
theorem own_nums {w : World} {base : Nat} {v : Value} {l : List Int} (h : w.ownsRow base 2 1 v l.length (numsV l)) : ∃ a cap, v = .slice a l.length cap ∧ OwnNums w base a l := by
  have h' := h
  rcases h.2 with ⟨hv, hn⟩ | ⟨g, cap, cur, hv, hb, hg, hnc, hcm, hcs, ht⟩
  · exact ⟨none, 0, by rw [hv, hn], .inl (List.eq_nil_of_length_eq_zero hn)⟩
  · subst hv
    refine ⟨some ⟨g, 0, none⟩, cap, rfl, .inr ⟨g, 0, rfl, hb, (h'.lt g rfl).2, fun i hi => ?_, fun i hi => h'.frozenAt _⟩⟩
    rw [Nat.zero_add, h'.cellAt i (by omega), numsV, List.getElem?_map, List.getElem?_eq_getElem hi]
    rfl
theorem own_mono {w : World} {base base' e size : Nat} {v : Value} {n : Nat} {xs : List Value} (h : w.ownsRow base e size v n xs) (hb : base' ≤ base) : w.ownsRow base' e size v n xs :=
  ⟨h.1, h.2.imp id fun ⟨g, cap, cur, a, b, c⟩ => ⟨g, cap, cur, a, Nat.le_trans hb b, c⟩⟩
theorem dropL_nil (n : Int) : dropL [] n = [] := rfl
theorem dropL_keep {l : List Int} {n x : Int} (h : x ≠ n) : dropL (l ++ [x]) n = dropL l n ++ [x] := by simp [dropL, h]
theorem dropL_skip {l : List Int} {n : Int} : dropL (l ++ [n]) n = dropL l n := by simp [dropL]
theorem info_partsI : ∃ i, Try.prog.info? 2 = some i ∧ i.zero = some (.int .i64 0) ∧ i.size = 1 ∧ i.bytes = 8 := by
  obtain ⟨i, hi, hz⟩ := Option.map_eq_some_iff.1 Try.infoI64
  simp only [Prod.mk.injEq] at hz
  exact ⟨i, hi, hz.1, hz.2.1, hz.2.2⟩


theorem addr_off (b off j : Nat) : (⟨b, off, none⟩ : Addr).add j = ⟨b, off + j, none⟩ := by by_cases e0 : j = 0 <;> simp [Addr.add, e0]
/-- append(own, numbers...). -/
theorem append_nums {w : World} {ops : Array Oper} {rest : List Oper} {o : Oper} {act : Act} {Q : Exit → Act → World → Prop} (hgd : o.guard = none) (s x : Operand)
    (ho : o.op = .call { callee := .builtin .append, args := #[s, x], argTypes := #[24, 24] }) (base : Nat) (v : Value) (n : Nat) (xs : List Value) (hs : act.eval s = v) (hown : w.ownsRow base 2 1 v n xs)
    (a : Option Addr) (cap : Nat) (l : List Int) (hx : act.eval x = .slice a l.length cap) (hcap : a = none → cap = 0) (hrow : NumRow w a l) (h63 : n + l.length ≤ 2000000) (hbase : base ≤ w.heap.size)
    (h : ∀ v' w', w'.ownsRow base 2 1 v' (n + l.length) (xs ++ numsV l) → w.grownBy w' v.ownBlock → wpList Try.prog ops Q rest (act.put o.dst v') w') : wpList Try.prog ops Q (o :: rest) act w := by
  obtain ⟨i0, hi, hz0, hz1, hz2⟩ := info_partsI
  cases a with
  | none =>
    have hl : l = [] := by
      rcases hrow with h | ⟨_, _, e, _⟩
      · exact h
      · cases e
    subst hl
    have hc := hcap rfl
    subst hc
    refine wpList_append_own_none hgd s x _ ho base _ i0 1 Try.underlying24 hi v n xs hs hown hx ?_
    refine h v w ?_ (World.grownBy.refl _ _)
    simpa [numsV] using hown
  | some ad =>
    refine wpList_append_own w hgd s x 24 ho base 2 i0 (.int .i64 0) 1 8 Try.underlying24 hi hz0 hz1 hz2 rfl (by decide) v n xs hs hown ad l.length cap (numsV l) hx (by simp [numsV]) ?_ ?_ (by unfold maxLen; omega) (by omega) hbase (fun v' w' h1 h2 _ => h v' w' h1 h2)
    · intro j u hj
      rcases hrow with e | ⟨b, off, e, hlt, hc⟩
      · subst e; simp [numsV] at hj
      · obtain rfl := Option.some.inj e
        rw [addr_off]
        have hjl : j < l.length := by
          have := (List.getElem?_eq_some_iff.1 hj).1
          rwa [numsV_length] at this
        rw [hc j hjl]
        rw [numsV, List.getElem?_map, List.getElem?_eq_getElem hjl] at hj
        exact hj
    · intro u hu
      obtain ⟨q, _, rfl⟩ := List.mem_map.1 hu
      rfl
/-- SetDrop. -/
def setDropL (l : List Int) (n : Int) : List Int := if 400 < (l.length : Int) then [] else if rightL l then dropL l n else l
end Go.Proofs.Ytmdcankfjmkkeaa
