/- The contracts of chapter 3's specification: a set with a number. -/
import Derived.Test.YtndflppphhofkaaSetSpecB
namespace Go.Proofs.Ytndflppphhofkaa
open Go Go.RowKit
set_option linter.unusedVariables false

theorem NumRow.take {w : World} {b off : Nat} {l : List Int} (h : NumRow w (some ⟨b, off, none⟩) l) (k : Nat) : NumRow w (some ⟨b, off, none⟩) (l.take k) := by
  rcases h with h | ⟨b', off', e, hlt, hc⟩
  · exact .inl (by rw [h]; simp)
  · simp only [Option.some.injEq, Addr.mk.injEq, and_true] at e
    obtain ⟨rfl, rfl⟩ := e
    exact .inr ⟨_, _, rfl, hlt, fun i hi => by rw [hc i (by rw [List.length_take] at hi; omega)]; simp⟩
theorem NumRow.drop {w : World} {b off : Nat} {l : List Int} (h : NumRow w (some ⟨b, off, none⟩) l) (k : Nat) : NumRow w (some ⟨b, off + k, none⟩) (l.drop k) := by
  rcases h with h | ⟨b', off', e, hlt, hc⟩
  · exact .inl (by rw [h]; simp)
  · simp only [Option.some.injEq, Addr.mk.injEq, and_true] at e
    obtain ⟨rfl, rfl⟩ := e
    exact .inr ⟨_, _, rfl, hlt, fun i hi => by rw [Nat.add_assoc, hc (k + i) (by rw [List.length_drop] at hi; omega)]; simp⟩
theorem append_numsM {w : World} {ops : Array Oper} {rest : List Oper} {o : Oper} {act : Act} {Q : Exit → Act → World → Prop} (hgd : o.guard = none) (s x : Operand)
    (ho : o.op = .call { callee := .builtin .append, args := #[s, x], argTypes := #[28, 28] }) (base : Nat) (v : Value) (n : Nat) (xs : List Value) (hs : act.eval s = v) (hown : w.ownsRow base 2 1 v n xs)
    (a : Addr) (m cap : Nat) (l : List Int) (hm : l.length = m) (hx : act.eval x = .slice (some a) m cap) (hrow : NumRow w (some a) l) (h63 : n + m ≤ 2000000) (hbase : base ≤ w.heap.size)
    (h : ∀ v' w', w'.ownsRow base 2 1 v' (n + m) (xs ++ numsV l) → w.grownBy w' v.ownBlock → wpList Try.prog ops Q rest (act.put o.dst v') w') : wpList Try.prog ops Q (o :: rest) act w := by
  subst hm
  exact append_nums hgd s x ho base v n xs hs hown (some a) cap l hx (fun e => by cases e) hrow h63 hbase h

theorem own_eq {w : World} {base e : Nat} {v : Value} {n n' : Nat} {xs xs' : List Value} (h : w.ownsRow base e 1 v n xs) (hn : n = n') (hx : xs = xs') : w.ownsRow base e 1 v n' xs' := by
  subst hn hx; exact h
theorem one_row (n : Int) (w : World) : NumRow (w.alloc (.cells #[.int .i64 n] 2)) (some ⟨w.heap.size, 0, none⟩) [n] := by
  refine .inr ⟨w.heap.size, 0, rfl, by simp, fun i hi => ?_⟩
  simp only [List.length_singleton] at hi
  obtain rfl : i = 0 := by omega
  rw [World.cell?_alloc_at _ _ _ _ rfl]
  rfl
set_option maxHeartbeats 2000000 in
set_option maxRecDepth 100000 in
theorem l02Put_any (b off cap : Nat) (l : List Int) (n : Int) (w : World) (hl : l.length ≤ 400) (hle : l.length ≤ cap) (hrow : NumRow w (some ⟨b, off, none⟩) l) (hup : rises l) :
    Calls Try.prog 50 #[.slice (some ⟨b, off, none⟩) l.length cap, .int .i64 n] w fun e w' => ∃ v, e = .returned v ∧ w'.ownsRow w.heap.size 2 1 v (insL l n).length (numsV (insL l n)) ∧ Below w.heap.size w w' := by
  by_cases hm : n ∈ l
  · have HD : Hid (decide (n ∈ l) = true) := decide_eq_true hm
    have HE : Hid (insL l n = l) := ins_has hup hm
    clear hm hup
    have ba := (Below.refl w.heap.size w).alloc (Nat.le_refl _) (.cells #[] 2)
    have hrow1 := hrow.keep ba
    go_enter Try.func50, Try.ntmps50
    go_wp2_with fail
    refine (l02Has_any _ cap l n _ (by omega) hrow).mono ?_
    rintro e x1 ⟨rfl, rfl⟩
    rw [HD.out]
    go_wp2_with (at_builtin; refine append_nums rfl _ _ rfl x1.heap.size _ 0 [] rfl (World.ownsRow_lit _ #[] 0 (Nat.le_refl _) (by simp [maxLen]) rfl) _ cap l rfl (fun e => by cases e) hrow1 (by omega) ba.size ?_)
    intro v' w2 hown' hgrow
    have hb2 : Below x1.heap.size x1 w2 := ba.grown hgrow ba.size (fun g hg => by obtain rfl := Option.some.inj hg; exact Nat.le_refl _)
    have HO : Hid (w2.ownsRow x1.heap.size 2 1 v' l.length (numsV l)) := hown'
    clear hown' hgrow
    go_wp2
    go_ret
    exact ⟨v', rfl, by rw [HE.out]; exact HO.out, hb2⟩
  · have HD : Hid (decide (n ∈ l) = false) := decide_eq_false hm
    have HM : Hid (¬ n ∈ l) := hm
    clear hm hup
    go_enter Try.func50, Try.ntmps50
    go_wp2_with fail
    refine (l02Has_any _ cap l n _ (by omega) hrow).mono ?_
    rintro e x1 ⟨rfl, rfl⟩
    rw [HD.out]
    go_wp2
    go_loop [5] (fun i => ∃ k : Nat, k ≤ l.length ∧ i = .int .i64 k ∧ ∀ j (h : j < l.length), j < k → l[j] < n) (fun i => l.length - (intOf i).toNat)
    case atStart => exact ⟨0, Nat.zero_le _, rfl, fun j _ h => by omega⟩
    case round =>
      obtain ⟨k, hk, rfl, hlow⟩ := hrel
      have HL : Hid (∀ j (h : j < l.length), j < k → l[j] < n) := hlow
      clear hlow
      by_cases hx : k < l.length
      · have hck : x1.cell? ⟨b, off + k, none⟩ = some (.int .i64 l[k]) := by
          rcases hrow with h | ⟨b', off', e, hlt, hc⟩
          · have : l.length = 0 := by rw [h]; rfl
            omega
          · simp only [Option.some.injEq, Addr.mk.injEq, and_true] at e
            obtain ⟨rfl, rfl⟩ := e
            exact hc k hx
        obtain ⟨x, hxx⟩ : ∃ x, l[k] = x := ⟨_, rfl⟩
        rw [hxx] at hck
        have HX : Hid (l[k] = x) := hxx
        clear hxx
        by_cases e : x < n
        · go_wp2
          go_round
          case rel => exact ⟨k + 1, by omega, by go_num, fun j hj hjk => by
            by_cases ej : j = k
            · subst ej; rw [HX.out]; exact e
            · exact HL.out j hj (by omega)⟩
          case measure => simp [intOf]; omega
        · have HI : Hid (insL l n = l.take k ++ n :: l.drop k) := ins_at HM.out hk HL.out (fun h => by rw [HX.out]; exact e)
          have ba := (Below.refl x1.heap.size x1).alloc (Nat.le_refl _) (.cells #[] 2)
          have hrowa := hrow.keep ba
          have hkc : (k : Int) ≤ (cap : Int) := by omega
          go_wp2_with (at_builtin; refine append_numsM rfl _ _ rfl x1.heap.size _ 0 [] rfl (World.ownsRow_lit _ #[] 0 (Nat.le_refl _) (by simp [maxLen]) rfl) ⟨b, off, none⟩ k _ (l.take k) (by rw [List.length_take]; omega) rfl (hrowa.take k) (by omega) ba.size ?_)
          intro v1 w1 own1 g1
          have b1 : Below x1.heap.size x1 w1 := ba.grown g1 ba.size (fun g hg => by obtain rfl := Option.some.inj hg; exact Nat.le_refl _)
          have b1a := b1.alloc b1.size (.cells #[.int .i64 n] 2)
          have own1a := own1.alloc (.cells #[.int .i64 n] 2)
          have hown1 := own1.lt
          have hn1 : NumRow (w1.alloc (.cells #[.int .i64 n] 2)) (some ⟨w1.heap.size, 0, none⟩) [n] := one_row n w1
          clear own1 g1
          go_wp2_with (at_builtin; refine append_numsM rfl _ _ rfl x1.heap.size v1 _ _ rfl own1a ⟨w1.heap.size, 0, none⟩ 1 1 [n] rfl rfl hn1 (by omega) b1a.size ?_)
          intro v2 w2 own2 g2
          have b2 : Below x1.heap.size x1 w2 := b1a.grown g2 b1a.size (fun g hg => (hown1 g hg).1)
          have hrow2 := (hrow.keep b2).drop k
          have hown2 := own2.lt
          clear own1a g2 hn1 hown1
          go_wp2_with (at_builtin; refine append_numsM rfl _ _ rfl x1.heap.size v2 _ _ rfl own2 ⟨b, off + k, none⟩ (l.length - k) _ (l.drop k) (by rw [List.length_drop]) rfl hrow2 (by omega) b2.size ?_)
          intro v3 w3 own3 g3
          have b3 : Below x1.heap.size x1 w3 := b2.grown g3 b2.size (fun g hg => (hown2 g hg).1)
          have HO : Hid (w3.ownsRow x1.heap.size 2 1 v3 (insL l n).length (numsV (insL l n))) := own_eq own3 (by rw [HI.out]; simp; omega) (by rw [HI.out]; simp [numsV])
          clear own3 g3 own2
          go_wp2
          go_ret
          exact ⟨v3, rfl, HO.out, b3⟩
      · have HI : Hid (insL l n = l.take k ++ n :: l.drop k) := ins_at HM.out hk HL.out (fun h => absurd h hx)
        by_cases hcc : cap = k
        · have hcc' : k = cap := hcc.symm
          clear hcc
          subst hcc'
          have ba := (Below.refl x1.heap.size x1).alloc (Nat.le_refl _) (.cells #[] 2)
          have hrowa := hrow.keep ba
          have hkc : (k : Int) ≤ (k : Int) := Int.le_refl _
          go_wp2_with (at_builtin; refine append_numsM rfl _ _ rfl x1.heap.size _ 0 [] rfl (World.ownsRow_lit _ #[] 0 (Nat.le_refl _) (by simp [maxLen]) rfl) ⟨b, off, none⟩ k _ (l.take k) (by rw [List.length_take]; omega) rfl (hrowa.take k) (by omega) ba.size ?_)
          intro v1 w1 own1 g1
          have b1 : Below x1.heap.size x1 w1 := ba.grown g1 ba.size (fun g hg => by obtain rfl := Option.some.inj hg; exact Nat.le_refl _)
          have b1a := b1.alloc b1.size (.cells #[.int .i64 n] 2)
          have own1a := own1.alloc (.cells #[.int .i64 n] 2)
          have hown1 := own1.lt
          have hn1 : NumRow (w1.alloc (.cells #[.int .i64 n] 2)) (some ⟨w1.heap.size, 0, none⟩) [n] := one_row n w1
          clear own1 g1
          go_wp2_with (at_builtin; refine append_numsM rfl _ _ rfl x1.heap.size v1 _ _ rfl own1a ⟨w1.heap.size, 0, none⟩ 1 1 [n] rfl rfl hn1 (by omega) b1a.size ?_)
          intro v2 w2 own2 g2
          have b2 : Below x1.heap.size x1 w2 := b1a.grown g2 b1a.size (fun g hg => (hown1 g hg).1)
          have hrow2 := (hrow.keep b2).drop k
          have hown2 := own2.lt
          clear own1a g2 hn1 hown1
          go_wp2_with (at_builtin; refine append_numsM rfl _ _ rfl x1.heap.size v2 _ _ rfl own2 _ _ _ (l.drop k) (by rw [List.length_drop] <;> omega) rfl (Or.inl (List.drop_eq_nil_of_le (by omega))) (by omega) b2.size ?_)
          intro v3 w3 own3 g3
          have b3 : Below x1.heap.size x1 w3 := b2.grown g3 b2.size (fun g hg => (hown2 g hg).1)
          have HO : Hid (w3.ownsRow x1.heap.size 2 1 v3 (insL l n).length (numsV (insL l n))) := own_eq own3 (by rw [HI.out]; simp; omega) (by rw [HI.out]; simp [numsV])
          clear own3 g3 own2
          go_wp2
          go_ret
          exact ⟨v3, rfl, HO.out, b3⟩
        · have hcc' : k < cap := by omega
          have ba := (Below.refl x1.heap.size x1).alloc (Nat.le_refl _) (.cells #[] 2)
          have hrowa := hrow.keep ba
          have hkc : (k : Int) ≤ (cap : Int) := by omega
          go_wp2_with (at_builtin; refine append_numsM rfl _ _ rfl x1.heap.size _ 0 [] rfl (World.ownsRow_lit _ #[] 0 (Nat.le_refl _) (by simp [maxLen]) rfl) ⟨b, off, none⟩ k _ (l.take k) (by rw [List.length_take]; omega) rfl (hrowa.take k) (by omega) ba.size ?_)
          intro v1 w1 own1 g1
          have b1 : Below x1.heap.size x1 w1 := ba.grown g1 ba.size (fun g hg => by obtain rfl := Option.some.inj hg; exact Nat.le_refl _)
          have b1a := b1.alloc b1.size (.cells #[.int .i64 n] 2)
          have own1a := own1.alloc (.cells #[.int .i64 n] 2)
          have hown1 := own1.lt
          have hn1 : NumRow (w1.alloc (.cells #[.int .i64 n] 2)) (some ⟨w1.heap.size, 0, none⟩) [n] := one_row n w1
          clear own1 g1
          go_wp2_with (at_builtin; refine append_numsM rfl _ _ rfl x1.heap.size v1 _ _ rfl own1a ⟨w1.heap.size, 0, none⟩ 1 1 [n] rfl rfl hn1 (by omega) b1a.size ?_)
          intro v2 w2 own2 g2
          have b2 : Below x1.heap.size x1 w2 := b1a.grown g2 b1a.size (fun g hg => (hown1 g hg).1)
          have hrow2 := (hrow.keep b2).drop k
          have hown2 := own2.lt
          clear own1a g2 hn1 hown1
          go_wp2_with (at_builtin; refine append_numsM rfl _ _ rfl x1.heap.size v2 _ _ rfl own2 _ _ _ (l.drop k) (by rw [List.length_drop] <;> omega) rfl (Or.inl (List.drop_eq_nil_of_le (by omega))) (by omega) b2.size ?_)
          intro v3 w3 own3 g3
          have b3 : Below x1.heap.size x1 w3 := b2.grown g3 b2.size (fun g hg => (hown2 g hg).1)
          have HO : Hid (w3.ownsRow x1.heap.size 2 1 v3 (insL l n).length (numsV (insL l n))) := own_eq own3 (by rw [HI.out]; simp; omega) (by rw [HI.out]; simp [numsV])
          clear own3 g3 own2
          go_wp2
          go_ret
          exact ⟨v3, rfl, HO.out, b3⟩

/-- SetPut. -/
def setPutL (l : List Int) (n : Int) : List Int := if 400 < (l.length : Int) then [] else if rightL l ∧ (l.length : Int) < 400 then insL l n else l
set_option maxHeartbeats 1000000 in
set_option maxRecDepth 100000 in
theorem specPut_set_any (b off cap : Nat) (l : List Int) (n : Int) (w : World) (hl : l.length ≤ 1048576) (hle : l.length ≤ cap) (hrow : NumRow w (some ⟨b, off, none⟩) l) :
    Calls Try.prog 20 #[.slice (some ⟨b, off, none⟩) l.length cap, .int .i64 n] w fun e w' => ∃ v, e = .returned v ∧ w'.ownsRow w.heap.size 2 1 v (setPutL l n).length (numsV (setPutL l n)) ∧ Below w.heap.size w w' := by
  by_cases h1 : 400 < (l.length : Int)
  · have HE : Hid (setPutL l n = []) := if_pos h1
    go_enter Try.func20, Try.ntmps20
    go_wp2
    go_ret
    exact ⟨_, rfl, by rw [HE.out]; exact World.ownsRow_lit _ #[] 0 (Nat.le_refl _) (by simp [maxLen]) rfl, (Below.refl _ _).alloc (Nat.le_refl _) _⟩
  by_cases h2 : rightL l
  · have HD : Hid (decide (rightL l) = true) := decide_eq_true h2
    have HR : Hid (rises l) := h2.2
    by_cases h3 : (l.length : Int) < 400
    · have HE : Hid (setPutL l n = insL l n) := by show _ = _; unfold setPutL; rw [if_neg h1, if_pos ⟨h2, h3⟩]
      clear h2
      go_enter Try.func20, Try.ntmps20
      go_wp2_with fail
      refine (specRight_any _ cap l _ hl hrow).mono ?_
      rintro e x1 ⟨rfl, b1⟩
      rw [HD.out]
      have hrow1 := hrow.keep b1
      go_wp2_with fail
      refine (l02Put_any b off cap l n _ (by omega) hle hrow1 HR.out).mono ?_
      rintro e x2 ⟨v, rfl, hown, b2⟩
      have HO : Hid (x2.ownsRow w.heap.size 2 1 v (insL l n).length (numsV (insL l n))) := own_mono hown b1.size
      clear hown
      go_wp2
      go_ret
      exact ⟨v, rfl, by rw [HE.out]; exact HO.out, b1.trans (b2.mono b1.size)⟩
    · have HE : Hid (setPutL l n = l) := by show _ = _; unfold setPutL; rw [if_neg h1, if_neg (fun h => h3 h.2)]
      clear h2
      go_enter Try.func20, Try.ntmps20
      go_wp2_with fail
      refine (specRight_any _ cap l _ hl hrow).mono ?_
      rintro e x1 ⟨rfl, b1⟩
      rw [HD.out]
      have b1a := b1.alloc b1.size (.cells #[] 2)
      have hrow1 := hrow.keep b1a
      have hsz1 := b1.size
      go_wp2_with (at_builtin; refine append_nums rfl _ _ rfl w.heap.size _ 0 [] rfl (World.ownsRow_lit _ #[] 0 hsz1 (by simp [maxLen]) rfl) _ cap l rfl (fun e => by cases e) hrow1 (by omega) b1a.size ?_)
      intro v' w2 hown' hgrow
      have hb2 : Below w.heap.size w w2 := b1a.grown hgrow b1a.size (fun g hg => by obtain rfl := Option.some.inj hg; exact hsz1)
      have HO : Hid (w2.ownsRow w.heap.size 2 1 v' l.length (numsV l)) := hown'
      clear hown' hgrow
      go_wp2
      go_ret
      exact ⟨v', rfl, by rw [HE.out]; exact HO.out, hb2⟩
  · have HE : Hid (setPutL l n = l) := by show _ = _; unfold setPutL; rw [if_neg h1, if_neg (fun h => h2 h.1)]
    have HD : Hid (decide (rightL l) = false) := decide_eq_false h2
    clear h2
    go_enter Try.func20, Try.ntmps20
    go_wp2_with fail
    refine (specRight_any _ cap l _ hl hrow).mono ?_
    rintro e x1 ⟨rfl, b1⟩
    rw [HD.out]
    have b1a := b1.alloc b1.size (.cells #[] 2)
    have hrow1 := hrow.keep b1a
    have hsz1 := b1.size
    go_wp2_with (at_builtin; refine append_nums rfl _ _ rfl w.heap.size _ 0 [] rfl (World.ownsRow_lit _ #[] 0 hsz1 (by simp [maxLen]) rfl) _ cap l rfl (fun e => by cases e) hrow1 (by omega) b1a.size ?_)
    intro v' w2 hown' hgrow
    have hb2 : Below w.heap.size w w2 := b1a.grown hgrow b1a.size (fun g hg => by obtain rfl := Option.some.inj hg; exact hsz1)
    have HO : Hid (w2.ownsRow w.heap.size 2 1 v' l.length (numsV l)) := hown'
    clear hown' hgrow
    go_wp2
    go_ret
    exact ⟨v', rfl, by rw [HE.out]; exact HO.out, hb2⟩
end Go.Proofs.Ytndflppphhofkaa
