/- The contracts of chapter 3's specification: what may be a set, and what is in a list. -/
import Derived.Test.YtmdcankfjmkkeaaGreatG9
import Derived.Deep.OwnRows
import Derived.Laws.OwnMore
import Derived.Laws.AppendOwnNone
import Derived.OpenShut
namespace Go.Proofs.YtmdcankfjmkkeaaGreat
open Go Go.RowKit
set_option linter.unusedVariables false

/-- A right set: no longer than may be, and rising. -/
abbrev rightL (l : List Int) : Prop := l.length ≤ 400 ∧ rises l

set_option maxHeartbeats 1000000 in
set_option maxRecDepth 100000 in
theorem l02Has_any (a : Option Addr) (cap : Nat) (l : List Int) (n : Int) (w : World) (hl : l.length ≤ 1048576) (hrow : NumRow w a l) :
    Calls Tryz.prog 198 #[.slice a l.length cap, .int .i64 n] w fun e w' => e = .returned (.bool (decide (n ∈ l))) ∧ w' = w := by
  go_enter Tryz.func198, Tryz.ntmps198
  go_wp2
  go_loop [5] (fun i => ∃ k : Nat, k ≤ l.length ∧ i = .int .i64 k ∧ ¬ n ∈ l.take k) (fun i => l.length - (intOf i).toNat)
  case atStart => exact ⟨0, Nat.zero_le _, rfl, by simp⟩
  case round =>
    obtain ⟨k, hk, rfl, hn⟩ := hrel
    have HN : Hid (¬ n ∈ l.take k) := hn
    clear hn
    by_cases hx : k < l.length
    · rcases hrow with h | ⟨b, off, rfl, hlt, hc⟩
      · have : l.length = 0 := by rw [h]; rfl
        omega
      have hck := hc k hx
      obtain ⟨x, hxx⟩ : ∃ x, l[k] = x := ⟨_, rfl⟩
      rw [hxx] at hck
      have HX : Hid (l[k] = x) := hxx
      clear hc hxx
      by_cases e : x = n
      · subst e
        have HM : Hid (decide (x ∈ l) = true) := decide_eq_true (by have := List.getElem_mem hx; rw [HX.out] at this; exact this)
        go_wp2
        go_ret
        exact ⟨ret_boolE HM.out.symm, rfl⟩
      · have eb : (x == n) = false := by simp [e]
        go_wp2
        go_round
        case rel => exact ⟨k + 1, by omega, by go_num, by
          rw [List.take_succ_eq_append_getElem hx, List.mem_append, HX.out]
          rintro (q | q)
          · exact HN.out q
          · simp at q; exact e q.symm⟩
        case measure => simp [intOf]; omega
    · have HM : Hid (decide (n ∈ l) = false) := decide_eq_false (fun q => HN.out (by rw [List.take_of_length_le (by omega)]; exact q))
      go_wp2
      go_ret
      exact ⟨ret_boolE HM.out.symm, rfl⟩
end Go.Proofs.YtmdcankfjmkkeaaGreat
/- The contracts of chapter 3's specification: a set without a number. -/
namespace Go.Proofs.YtmdcankfjmkkeaaGreat
open Go Go.RowKit
set_option linter.unusedVariables false

def numsV (l : List Int) : List Value := l.map (Value.int .i64)
theorem numsV_length (l : List Int) : (numsV l).length = l.length := by simp [numsV]
theorem numsV_append (l m : List Int) : numsV (l ++ m) = numsV l ++ numsV m := by simp [numsV]
theorem own_nums {w : World} {base : Nat} {v : Value} {l : List Int} (h : w.ownsRow base 2 1 v l.length (numsV l)) : ∃ a cap, v = .slice a l.length cap ∧ OwnNums w base a l := by
  have h' := h
  rcases h.2 with ⟨hv, hn⟩ | ⟨g, cap, cur, hv, hb, hg, hnc, hcm, hcs, ht⟩
  · exact ⟨none, 0, by rw [hv, hn], .inl (List.eq_nil_of_length_eq_zero hn)⟩
  · subst hv
    refine ⟨some ⟨g, 0, none⟩, cap, rfl, .inr ⟨g, 0, rfl, hb, (h'.lt g rfl).2, fun i hi => ?_, fun i hi => h'.frozenAt _⟩⟩
    rw [Nat.zero_add, h'.cellAt i (by omega), numsV, List.getElem?_map, List.getElem?_eq_getElem hi]
    rfl
theorem own_mono {w : World} {base base' e size : Nat} {v : Value} {n : Nat} {xs : List Value} (h : w.ownsRow base e size v n xs) (hb : base' ≤ base) : w.ownsRow base' e size v n xs :=
  ⟨h.1, h.2.imp id fun ⟨g, cap, cur, a, b, c⟩ => ⟨g, cap, cur, a, Nat.le_trans hb b, c⟩⟩
theorem dropL_nil (n : Int) : dropL [] n = [] := rfl
theorem dropL_keep {l : List Int} {n x : Int} (h : x ≠ n) : dropL (l ++ [x]) n = dropL l n ++ [x] := by simp [dropL, h]
theorem dropL_skip {l : List Int} {n : Int} : dropL (l ++ [n]) n = dropL l n := by simp [dropL]
theorem info_partsI : ∃ i, Tryz.prog.info? 2 = some i ∧ i.zero = some (.int .i64 0) ∧ i.size = 1 ∧ i.bytes = 8 := by
  obtain ⟨i, hi, hz⟩ := Option.map_eq_some_iff.1 Tryz.infoI64
  simp only [Prod.mk.injEq] at hz
  exact ⟨i, hi, hz.1, hz.2.1, hz.2.2⟩

set_option maxHeartbeats 1000000 in
set_option maxRecDepth 100000 in
theorem l02Drop_any (a : Option Addr) (cap : Nat) (l : List Int) (n : Int) (w : World) (hl : l.length ≤ 1048576) (hrow : NumRow w a l) :
    Calls Tryz.prog 77 #[.slice a l.length cap, .int .i64 n] w fun e w' => ∃ v, e = .returned v ∧ w'.ownsRow w.heap.size 2 1 v (dropL l n).length (numsV (dropL l n)) ∧ Below w.heap.size w w' := by
  obtain ⟨i0, hi, hz0, hz1, hz2⟩ := info_partsI
  go_enter Tryz.func77, Tryz.ntmps77
  go_wp2
  go_loopw [6, 5] (fun i v wr => ∃ k : Nat, k ≤ l.length ∧ i = .int .i64 k ∧ wr.ownsRow w.heap.size 2 1 v (dropL (l.take k) n).length (numsV (dropL (l.take k) n)) ∧ Below w.heap.size w wr) (fun i _ _ => l.length - (intOf i).toNat)
  case atStart => exact ⟨0, Nat.zero_le _, rfl, World.ownsRow_lit _ #[] 0 (Nat.le_refl _) (by simp [maxLen]) rfl, (Below.refl _ _).alloc (Nat.le_refl _) _⟩
  case round =>
    obtain ⟨k, hk, rfl, hown, hb⟩ := hrel
    by_cases hx : k < l.length
    · rcases hrow.keep hb with h | ⟨b, off, rfl, hlt, hc⟩
      · have : l.length = 0 := by rw [h]; rfl
        omega
      have hck := hc k hx
      obtain ⟨x, hxx⟩ : ∃ x, l[k] = x := ⟨_, rfl⟩
      rw [hxx] at hck
      have HX : Hid (l[k] = x) := hxx
      have HT : Hid (l.take (k + 1) = l.take k ++ [x]) := by
        show _ = _
        rw [List.take_succ_eq_append_getElem hx, hxx]
      have hdl : (dropL (l.take k) n).length ≤ k := by have := dropL_length (l.take k) n; rw [List.length_take] at this; omega
      clear hc hxx
      by_cases e : x = n
      · have eb : (x == n) = true := by simp [e]
        have ho : wr.ownsRow w.heap.size 2 1 u5 (dropL (l.take (k + 1)) n).length (numsV (dropL (l.take (k + 1)) n)) := by rw [HT.out, e, dropL_skip]; exact hown
        clear hown
        go_wp2
        go_roundw
        case rel => exact ⟨k + 1, by omega, by go_num, ho, hb⟩
        case measure => simp [intOf]; omega
      · have eb : (x == n) = false := by simp [e]
        have HE : Hid (x ≠ n) := e
        clear e
        go_wp2_with (at_builtin; refine wpList_append_own _ rfl _ _ 25 rfl w.heap.size 2 i0 (.int .i64 0) 1 8 Tryz.underlying25 hi hz0 hz1 hz2 rfl (by decide) _ _ _ rfl (hown.alloc _) ⟨wr.heap.size, 0, none⟩ 1 1 [.int .i64 x] rfl rfl ?c1 ?c2 ?c3 ?c4 ?c5 ?_)
        case c1 => exact cell_one_new _ _ _
        case c2 => intro u hu; simp at hu; subst hu; rfl
        case c3 => unfold maxLen; omega
        case c4 => omega
        case c5 => have := hb.size; simp; omega
        · intro v' w2 hown' hgrow _
          have hb2 : Below w.heap.size w w2 := (hb.alloc hb.size _).grown hgrow (by have := hb.size; simp; omega) (fun g hg => (hown.lt g hg).1)
          have ho : w2.ownsRow w.heap.size 2 1 v' (dropL (l.take (k + 1)) n).length (numsV (dropL (l.take (k + 1)) n)) := by
            rw [HT.out, dropL_keep HE.out, numsV_append, List.length_append]; exact hown'
          clear hown' hgrow hown
          go_wp2
          go_roundw
          case rel => exact ⟨k + 1, by omega, by go_num, ho, hb2⟩
          case measure => simp [intOf]; omega
    · have e : k = l.length := by omega
      subst e
      rw [List.take_length] at hown
      go_wp2
      go_ret
      exact ⟨_, rfl, hown, hb⟩

theorem addr_off (b off j : Nat) : (⟨b, off, none⟩ : Addr).add j = ⟨b, off + j, none⟩ := by by_cases e0 : j = 0 <;> simp [Addr.add, e0]
/-- append(own, numbers...). -/
theorem append_nums {w : World} {ops : Array Oper} {rest : List Oper} {o : Oper} {act : Act} {Q : Exit → Act → World → Prop} (hgd : o.guard = none) (s x : Operand)
    (ho : o.op = .call { callee := .builtin .append, args := #[s, x], argTypes := #[25, 25] }) (base : Nat) (v : Value) (n : Nat) (xs : List Value) (hs : act.eval s = v) (hown : w.ownsRow base 2 1 v n xs)
    (a : Option Addr) (cap : Nat) (l : List Int) (hx : act.eval x = .slice a l.length cap) (hcap : a = none → cap = 0) (hrow : NumRow w a l) (h63 : n + l.length ≤ 2000000) (hbase : base ≤ w.heap.size)
    (h : ∀ v' w', w'.ownsRow base 2 1 v' (n + l.length) (xs ++ numsV l) → w.grownBy w' v.ownBlock → wpList Tryz.prog ops Q rest (act.put o.dst v') w') : wpList Tryz.prog ops Q (o :: rest) act w := by
  obtain ⟨i0, hi, hz0, hz1, hz2⟩ := info_partsI
  cases a with
  | none =>
    have hl : l = [] := by
      rcases hrow with h | ⟨_, _, e, _⟩
      · exact h
      · cases e
    subst hl
    have hc := hcap rfl
    subst hc
    refine wpList_append_own_none hgd s x _ ho base _ i0 1 Tryz.underlying25 hi v n xs hs hown hx ?_
    refine h v w ?_ (World.grownBy.refl _ _)
    simpa [numsV] using hown
  | some ad =>
    refine wpList_append_own w hgd s x 25 ho base 2 i0 (.int .i64 0) 1 8 Tryz.underlying25 hi hz0 hz1 hz2 rfl (by decide) v n xs hs hown ad l.length cap (numsV l) hx (by simp [numsV]) ?_ ?_ (by unfold maxLen; omega) (by omega) hbase (fun v' w' h1 h2 _ => h v' w' h1 h2)
    · intro j u hj
      rcases hrow with e | ⟨b, off, e, hlt, hc⟩
      · subst e; simp [numsV] at hj
      · obtain rfl := Option.some.inj e
        rw [addr_off]
        have hjl : j < l.length := by
          have := (List.getElem?_eq_some_iff.1 hj).1
          rwa [numsV_length] at this
        rw [hc j hjl]
        rw [numsV, List.getElem?_map, List.getElem?_eq_getElem hjl] at hj
        exact hj
    · intro u hu
      obtain ⟨q, _, rfl⟩ := List.mem_map.1 hu
      rfl
/-- SetDrop. -/
def setDropL (l : List Int) (n : Int) : List Int := if 400 < (l.length : Int) then [] else if rightL l then dropL l n else l
end Go.Proofs.YtmdcankfjmkkeaaGreat
/- The contracts of chapter 3's specification: a set with a number. -/
namespace Go.Proofs.YtmdcankfjmkkeaaGreat
open Go Go.RowKit
set_option linter.unusedVariables false

theorem NumRow.take {w : World} {b off : Nat} {l : List Int} (h : NumRow w (some ⟨b, off, none⟩) l) (k : Nat) : NumRow w (some ⟨b, off, none⟩) (l.take k) := by
  rcases h with h | ⟨b', off', e, hlt, hc⟩
  · exact .inl (by rw [h]; simp)
  · simp only [Option.some.injEq, Addr.mk.injEq, and_true] at e
    obtain ⟨rfl, rfl⟩ := e
    exact .inr ⟨_, _, rfl, hlt, fun i hi => by rw [hc i (by rw [List.length_take] at hi; omega)]; simp⟩
theorem NumRow.drop {w : World} {b off : Nat} {l : List Int} (h : NumRow w (some ⟨b, off, none⟩) l) (k : Nat) : NumRow w (some ⟨b, off + k, none⟩) (l.drop k) := by
  rcases h with h | ⟨b', off', e, hlt, hc⟩
  · exact .inl (by rw [h]; simp)
  · simp only [Option.some.injEq, Addr.mk.injEq, and_true] at e
    obtain ⟨rfl, rfl⟩ := e
    exact .inr ⟨_, _, rfl, hlt, fun i hi => by rw [Nat.add_assoc, hc (k + i) (by rw [List.length_drop] at hi; omega)]; simp⟩
theorem append_numsM {w : World} {ops : Array Oper} {rest : List Oper} {o : Oper} {act : Act} {Q : Exit → Act → World → Prop} (hgd : o.guard = none) (s x : Operand)
    (ho : o.op = .call { callee := .builtin .append, args := #[s, x], argTypes := #[25, 25] }) (base : Nat) (v : Value) (n : Nat) (xs : List Value) (hs : act.eval s = v) (hown : w.ownsRow base 2 1 v n xs)
    (a : Addr) (m cap : Nat) (l : List Int) (hm : l.length = m) (hx : act.eval x = .slice (some a) m cap) (hrow : NumRow w (some a) l) (h63 : n + m ≤ 2000000) (hbase : base ≤ w.heap.size)
    (h : ∀ v' w', w'.ownsRow base 2 1 v' (n + m) (xs ++ numsV l) → w.grownBy w' v.ownBlock → wpList Tryz.prog ops Q rest (act.put o.dst v') w') : wpList Tryz.prog ops Q (o :: rest) act w := by
  subst hm
  exact append_nums hgd s x ho base v n xs hs hown (some a) cap l hx (fun e => by cases e) hrow h63 hbase h

theorem own_eq {w : World} {base e : Nat} {v : Value} {n n' : Nat} {xs xs' : List Value} (h : w.ownsRow base e 1 v n xs) (hn : n = n') (hx : xs = xs') : w.ownsRow base e 1 v n' xs' := by
  subst hn hx; exact h
theorem one_row (n : Int) (w : World) : NumRow (w.alloc (.cells #[.int .i64 n] 2)) (some ⟨w.heap.size, 0, none⟩) [n] := by
  refine .inr ⟨w.heap.size, 0, rfl, by simp, fun i hi => ?_⟩
  simp only [List.length_singleton] at hi
  obtain rfl : i = 0 := by omega
  rw [World.cell?_alloc_at _ _ _ _ rfl]
  rfl

/-- SetPut. -/
def setPutL (l : List Int) (n : Int) : List Int := if 400 < (l.length : Int) then [] else if rightL l ∧ (l.length : Int) < 400 then insL l n else l
end Go.Proofs.YtmdcankfjmkkeaaGreat
/- What is beside a block that is marked stays; how long a set is. -/
namespace Go.Proofs.YtmdcankfjmkkeaaGreat
open Go Go.RowKit
set_option linter.unusedVariables false

theorem OwnNums.beside {w w' : World} {lo b : Nat} {a : Option Addr} {l : List Int} (h : OwnNums w lo a l) (hb : b < lo) (hk : ∀ c, c ≠ b → w'.heap[c]? = w.heap[c]?) (hs : w.heap.size ≤ w'.heap.size) : OwnNums w' lo a l := by
  rcases h with h | ⟨q, off, rfl, hlo, hlt, hc, hf⟩
  · exact .inl h
  · have hq : w'.heap[q]? = w.heap[q]? := hk q (by omega)
    exact .inr ⟨q, off, rfl, hlo, by omega, fun i hi => (World.cell?_of_block (a := ⟨q, off + i, none⟩) hq).trans (hc i hi), fun i hi => (World.frozen?_of_block (a := ⟨q, off + i, none⟩) hq).trans (hf i hi)⟩
theorem setDropL_length (l : List Int) (n : Int) : (setDropL l n).length ≤ l.length := by
  unfold setDropL
  split
  · simp
  · split
    · exact dropL_length l n
    · exact Nat.le_refl _
theorem setPutL_length (l : List Int) (n : Int) : (setPutL l n).length ≤ 401 := by
  unfold setPutL
  split
  · simp
  · split
    · have := insL_length l n; omega
    · omega
end Go.Proofs.YtmdcankfjmkkeaaGreat
/- A slice of numbers that comes in as an argument of a law, as the walks take it. -/
namespace Go.Proofs.YtmdcankfjmkkeaaGreat
open Go Go.RowKit
set_option linter.unusedVariables false

def NumArg (w : World) (a : Option Addr) (cap : Nat) (l : List Int) : Prop := NumRow w a l ∧ l.length ≤ cap ∧ (a = none → cap = 0) ∧ ∀ x ∈ l, (Lit.int .i64 x).wf = true
theorem numArg_nil (w : World) : NumArg w none 0 [] := ⟨.inl rfl, Nat.zero_le _, fun _ => rfl, fun x h => absurd h (by simp)⟩
theorem numArg_of {w : World} {x : Addr} {l c : Nat} {zs : List Int} (hl : l ≤ c) (hz : zs.length = c) (hcell : ∀ i, i < zs.length → w.cell? (x.add i) = some (.int .i64 (zs.getD i 0))) (hwz : ∀ n ∈ zs, (Lit.int .i64 n).wf = true) : ∃ L : List Int, l = L.length ∧ NumArg w (some x) c L := by
  have hlen : (zs.take l).length = l := by rw [List.length_take]; omega
  refine ⟨zs.take l, hlen.symm, ?_, by omega, (fun e => by cases e), fun n hn => hwz n (List.mem_of_mem_take hn)⟩
  by_cases h0 : l = 0
  · exact .inl (by subst h0; simp)
  obtain ⟨b, off, spot⟩ := x
  have hc := hcell 0 (by omega)
  have hspot : spot = none := by simpa [Addr.add] using World.cell?_spot hc
  subst hspot
  have hb : b < w.heap.size := by
    rcases Nat.lt_or_ge b w.heap.size with k | k
    · exact k
    · simp [World.cell?, Addr.add, Array.getElem?_eq_none k] at hc
  refine .inr ⟨b, off, rfl, hb, fun i hi => ?_⟩
  have := hcell i (by omega)
  have e : (⟨b, off, none⟩ : Addr).add i = ⟨b, off + i, none⟩ := by by_cases e0 : i = 0 <;> simp [Addr.add, e0]
  rw [e, List.getD_eq_getElem?_getD, List.getElem?_eq_getElem (by omega)] at this
  rw [this]
  simp
theorem eqNums_same (a b : Option Addr) (ca cb : Nat) (l : List Int) (w : World) (hl : l.length ≤ 1048576) (ha : NumRow w a l) (hb : NumRow w b l) :
    Calls Tryz.prog 171 #[.slice a l.length ca, .slice b l.length cb] w fun e w' => e = .returned (.bool true) ∧ Below w.heap.size w w' := by
  refine (eqNums_any a b ca cb l l w hl ha hb).mono ?_
  rintro e w' ⟨rfl, h⟩
  exact ⟨ret_boolE (decide_eq_true rfl), h⟩
end Go.Proofs.YtmdcankfjmkkeaaGreat
/- Numbers as cells; rows of numbers of the call's own. -/
namespace Go.Proofs.YtmdcankfjmkkeaaGreat
open Go Go.RowKit
set_option linter.unusedVariables false
end Go.Proofs.YtmdcankfjmkkeaaGreat
