/- What cmp.Compare tells of two numbers. -/
import Derived.Test.YtmdcankfjmkkeaaG1
import Derived.Test.YtmdcankfjmkkeaaFactOne
import Derived.Deep.OwnRows
namespace Go.Proofs.Ytmdcankfjmkkeaa
open Go Go.RowKit
set_option linter.unusedVariables false

def ordI (a b : Int) : Int := if a < b then -1 else if b < a then 1 else 0
theorem ordI_cases (a b : Int) : (ordI a b = -1 ∧ a < b) ∨ (ordI a b = 1 ∧ b < a) ∨ (ordI a b = 0 ∧ a = b) := by
  unfold ordI
  by_cases h : a < b
  · exact .inl ⟨if_pos h, h⟩
  · by_cases k : b < a
    · exact .inr (.inl ⟨by rw [if_neg h, if_pos k], k⟩)
    · exact .inr (.inr ⟨by rw [if_neg h, if_neg k], by omega⟩)
theorem ordI_neg {a b : Int} : ordI a b < 0 ↔ a < b := by rcases ordI_cases a b with ⟨h, k⟩ | ⟨h, k⟩ | ⟨h, k⟩ <;> rw [h] <;> omega
theorem ordI_zero {a b : Int} : ordI a b = 0 ↔ a = b := by rcases ordI_cases a b with ⟨h, k⟩ | ⟨h, k⟩ | ⟨h, k⟩ <;> rw [h] <;> omega
theorem isNaN_any (a : Int) (w : World) : Calls Try.prog 109 #[.int .i64 a] w fun e w' => e = .returned (.bool false) ∧ w = w' := by
  go_enter Try.func109, Try.ntmps109
  go_wp2
  go_ret
  exact ⟨by simp, rfl⟩
theorem compare_any (a b : Int) (w : World) : Calls Try.prog 103 #[.int .i64 a, .int .i64 b] w fun e w' => e = .returned (.int .i64 (ordI a b)) ∧ w = w' := by
  rcases ordI_cases a b with ⟨h, k⟩ | ⟨h, k⟩ | ⟨h, k⟩
  · have HH : Hid (ordI a b = -1) := h
    clear h
    go_enter Try.func103, Try.ntmps103
    go_wp2_with (go_at_call 109; refine (isNaN_any _ _).mono ?_; rintro e w' ⟨rfl, rfl⟩)
    go_ret
    exact ⟨by rw [HH.out]; rfl, rfl⟩
  · have HH : Hid (ordI a b = 1) := h
    have k2 : ¬ a < b := by omega
    clear h
    go_enter Try.func103, Try.ntmps103
    go_wp2_with (go_at_call 109; refine (isNaN_any _ _).mono ?_; rintro e w' ⟨rfl, rfl⟩)
    go_ret
    exact ⟨by rw [HH.out]; rfl, rfl⟩
  · subst k
    have HH : Hid (ordI a a = 0) := h
    clear h
    go_enter Try.func103, Try.ntmps103
    go_wp2_with (go_at_call 109; refine (isNaN_any _ _).mono ?_; rintro e w' ⟨rfl, rfl⟩)
    go_ret
    exact ⟨by rw [HH.out]; rfl, rfl⟩
end Go.Proofs.Ytmdcankfjmkkeaa
/- The contract of slices.BinarySearchFunc over facts, by node. -/
namespace Go.Proofs.Ytmdcankfjmkkeaa
open Go Go.RowKit
set_option linter.unusedVariables false

theorem nodeOrder_any (x : FactV) (n : Int) (w : World) : Calls Try.prog 95 #[x.val, .int .i64 n] w fun e w' => e = .returned (.int .i64 (ordI x.node n)) ∧ Below w.heap.size w w' := by
  obtain ⟨x1, x2, x3⟩ := x
  have b1 := (Below.refl w.heap.size w).alloc (Nat.le_refl _) (.cells #[.int .i64 x1, .int .i64 x2, .int .i64 x3] 62)
  unfold FactV.val
  go_enter Try.func95, Try.ntmps95
  go_wp2_with fail
  refine (compare_any x1 n _).mono ?_
  rintro e w' ⟨rfl, rfl⟩
  go_wp2
  go_ret
  exact ⟨rfl, b1⟩
def SearchPost (l : List FactV) (n : Int) (w : World) (e : Ending) (w' : World) : Prop := ∃ (k : Nat) (r : Bool), e = .returned (.tuple #[.int .i64 (k : Int), .bool r]) ∧ placeF l n k ∧ (r = true ↔ thereF l n k) ∧ Below w.heap.size w w'
set_option maxHeartbeats 2000000 in
set_option maxRecDepth 100000 in
theorem fsearch_any (a : Option Addr) (cap : Nat) (l : List FactV) (n : Int) (w : World) (hl : l.length ≤ 1048576) (hrow : CellRow w a (cellsOf FactV.cells l)) (hr : riseV l) :
    Calls Try.prog 94 #[.slice a l.length cap, .int .i64 n, .func (.func 95) #[] #[]] w (SearchPost l n w) := by
  have HRi : Hid (riseV l) := hr
  clear hr
  go_enter Try.func94, Try.ntmps94
  go_wp2
  go_loopw [9, 10] (fun s7 s8 wr => ∃ p q : Nat, s7 = .int .i64 p ∧ s8 = .int .i64 q ∧ p ≤ q ∧ q ≤ l.length ∧ (∀ j (h : j < l.length), j < p → l[j].node < n) ∧ (∀ j (h : j < l.length), q ≤ j → n ≤ l[j].node) ∧ Below w.heap.size w wr) (fun s7 s8 _ => (intOf s8).toNat - (intOf s7).toNat)
  case atStart => exact ⟨0, l.length, rfl, rfl, Nat.zero_le _, Nat.le_refl _, fun j _ h => by omega, fun j h h2 => by omega, Below.refl _ _⟩
  case round =>
    obtain ⟨p, q, rfl, rfl, hpq, hql, h1, h2, hb⟩ := hrel
    have H1 : Hid (∀ j (h : j < l.length), j < p → l[j].node < n) := h1
    have H2 : Hid (∀ j (h : j < l.length), q ≤ j → n ≤ l[j].node) := h2
    clear h1 h2
    by_cases hlt : p < q
    · obtain ⟨b, off, rfl⟩ := hrow.addr (by rw [cellsOf_length FactV.cells_len]; omega)
      have hml : (p + q) / 2 < l.length := by omega
      obtain ⟨x, hlx⟩ : ∃ x, l[(p + q) / 2] = x := ⟨_, rfl⟩
      obtain ⟨x1, x2, x3⟩ := x
      obtain ⟨_, q0, q1, q2⟩ := (hrow.keep hb).fact hml hlx
      have hmI : ((p : Int) + (q : Int)) / 2 < (l.length : Int) := by omega
      have hm0 : (0 : Int) ≤ ((p : Int) + (q : Int)) / 2 := by omega
      have hmN : (((p : Int) + (q : Int)) / 2).toNat = (p + q) / 2 := by omega
      have HX : Hid (l[(p + q) / 2].node = x1) := by show _ = _; rw [hlx]
      clear hlx
      dsimp only at q0 q1 q2
      go_wp2_with fail
      refine (nodeOrder_any ⟨x1, x2, x3⟩ n _).mono ?_
      rintro e z1 ⟨rfl, bz1⟩
      dsimp only
      have hb1 := hb.trans (bz1.mono hb.size)
      by_cases hc : x1 < n
      · have hd2 : decide (ordI x1 n < 0) = true := decide_eq_true (ordI_neg.2 hc)
        have hd3 : ordI x1 n < 0 := ordI_neg.2 hc
        have HC : Hid (x1 < n) := hc
        clear hc
        go_wp2
        go_roundw
        case rel =>
          exact ⟨(p + q) / 2 + 1, q, by go_num, rfl, by omega, hql, fun j hj hjl => by
            by_cases e : j = (p + q) / 2
            · subst e; rw [HX.out]; exact HC.out
            · have := rise_at HRi.out (show j < (p + q) / 2 by omega) hml
              have h3 := HX.out
              have h4 := HC.out
              omega, H2.out, hb1⟩
        case measure => simp [intOf]; omega
      · have hd2 : decide (ordI x1 n < 0) = false := decide_eq_false (fun h => hc (ordI_neg.1 h))
        have hd3 : ¬ ordI x1 n < 0 := fun h => hc (ordI_neg.1 h)
        have HC : Hid (¬ x1 < n) := hc
        clear hc
        go_wp2
        go_roundw
        case rel =>
          exact ⟨p, (p + q) / 2, rfl, by go_num, by omega, by omega, H1.out, fun j hj hjl => by
            by_cases e : j = (p + q) / 2
            · subst e; rw [HX.out]; have := HC.out; omega
            · have := rise_at HRi.out (show (p + q) / 2 < j by omega) hj
              have h3 := HX.out
              have h4 := HC.out
              omega, hb1⟩
        case measure => simp [intOf]; omega
    · obtain rfl : p = q := by omega
      obtain ⟨q, rfl⟩ : ∃ q, q = p := ⟨p, rfl⟩
      clear hlt hpq
      have HP : Hid (placeF l n q) := ⟨hql, H1.out, H2.out⟩
      clear H1 H2
      by_cases hn : q < l.length
      · obtain ⟨b, off, rfl⟩ := hrow.addr (by rw [cellsOf_length FactV.cells_len]; omega)
        obtain ⟨x, hlx⟩ : ∃ x, l[q] = x := ⟨_, rfl⟩
        obtain ⟨x1, x2, x3⟩ := x
        obtain ⟨_, q0, q1, q2⟩ := (hrow.keep hb).fact hn hlx
        have hmI : (q : Int) < (l.length : Int) := by omega
        have HT : Hid (thereF l n q ↔ x1 = n) := ⟨fun ⟨h, e⟩ => by rw [hlx] at e; exact e, fun e => ⟨hn, by rw [hlx]; exact e⟩⟩
        clear hlx
        dsimp only at q0 q1 q2
        go_wp2_with fail
        refine (nodeOrder_any ⟨x1, x2, x3⟩ n _).mono ?_
        rintro e z1 ⟨rfl, bz1⟩
        dsimp only
        have hb1 := hb.trans (bz1.mono hb.size)
        by_cases hc : x1 = n
        · have hd2 : (ordI x1 n == 0) = true := beq_iff_eq.2 (ordI_zero.2 hc)
          have HT2 : Hid (thereF l n q) := HT.out.2 hc
          clear hc HT
          go_wp2
          go_ret2
          exact ⟨q, true, rfl, HP.out, by simp [HT2.out], hb1⟩
        · have hd2 : (ordI x1 n == 0) = false := beq_eq_false_iff_ne.2 (fun h => hc (ordI_zero.1 h))
          have HT2 : Hid (¬ thereF l n q) := fun h => hc (HT.out.1 h)
          clear hc HT
          go_wp2
          go_ret2
          exact ⟨q, false, rfl, HP.out, by simp [HT2.out], hb1⟩
      · obtain rfl : q = l.length := by omega
        have HT2 : Hid (¬ thereF l n l.length) := fun h => by obtain ⟨h, _⟩ := h; omega
        clear hn
        go_wp2
        go_ret2
        exact ⟨l.length, false, rfl, HP.out, by simp [HT2.out], hb⟩
end Go.Proofs.Ytmdcankfjmkkeaa
/- What of memory stays as it lay, by blocks; and a block that is known whole. No program. -/
namespace Go.Proofs.Ytmdcankfjmkkeaa
open Go Go.RowKit
set_option linter.unusedVariables false

/-- What lay and is G lies as it lay. -/
structure Keeps (G : Nat → Prop) (w w' : World) : Prop where
  os : w'.os = w.os
  tape : w'.tape = w.tape
  output : w'.output = w.output
  size : w.heap.size ≤ w'.heap.size
  block : ∀ k, k < w.heap.size → G k → w'.heap[k]? = w.heap[k]?
theorem Keeps.refl (G : Nat → Prop) (w : World) : Keeps G w w := ⟨rfl, rfl, rfl, Nat.le_refl _, fun _ _ _ => rfl⟩
theorem Keeps.trans {G : Nat → Prop} {a b c : World} (h : Keeps G a b) (k : Keeps G b c) : Keeps G a c :=
  ⟨k.os.trans h.os, k.tape.trans h.tape, k.output.trans h.output, Nat.le_trans h.size k.size, fun i hi hg => (k.block i (Nat.lt_of_lt_of_le hi h.size) hg).trans (h.block i hi hg)⟩
theorem Keeps.mono {G G' : Nat → Prop} {a b : World} (h : Keeps G a b) (hg : ∀ k, k < a.heap.size → G' k → G k) : Keeps G' a b := ⟨h.os, h.tape, h.output, h.size, fun i hi hk => h.block i hi (hg i hi hk)⟩
theorem Keeps.alloc {G : Nat → Prop} {a w : World} (h : Keeps G a w) (o : Obj) : Keeps G a (w.alloc o) :=
  h.trans ⟨rfl, rfl, rfl, by simp, fun k hk _ => Below.heap_alloc _ _ _ hk⟩
theorem Keeps.drew {G : Nat → Prop} {a w : World} (h : Keeps G a w) : Keeps G a w.drew := ⟨h.os, h.tape, h.output, h.size, h.block⟩
theorem Keeps.setCell {G : Nat → Prop} {a w : World} (h : Keeps G a w) {p : Addr} (hp : ¬ G p.block) (u : Value) : Keeps G a (w.setCell p u) :=
  h.trans ⟨rfl, rfl, rfl, by simp [World.setCell], fun k hk hg => Below.heap_setCell _ _ _ _ (fun e => hp (e ▸ hg))⟩
theorem Keeps.below {G : Nat → Prop} {a w w' : World} (h : Keeps G a w) (k : Below w.heap.size w w') : Keeps G a w' :=
  h.trans ⟨k.os, k.tape, k.output, k.size, fun i hi _ => k.block i hi⟩
theorem Keeps.toBelow {G : Nat → Prop} {n : Nat} {a b : World} (h : Keeps G a b) (hn : n ≤ a.heap.size) (hg : ∀ k, k < n → G k) : Below n a b := ⟨h.os, h.tape, h.output, h.size, fun k hk => h.block k (by omega) (hg k hk)⟩
theorem Keeps.ofBelow {G : Nat → Prop} {n : Nat} {a b : World} (h : Below n a b) (hg : ∀ k, k < a.heap.size → G k → k < n) : Keeps G a b := ⟨h.os, h.tape, h.output, h.size, fun k hk hk2 => h.block k (hg k hk hk2)⟩
theorem Keeps.grown {G : Nat → Prop} {a w w' : World} {row : Option Nat} (h : Keeps G a w) (hg : w.grownBy w' row) (hr : ∀ k, row = some k → ¬ G k) : Keeps G a w' :=
  h.trans ⟨hg.os, hg.tape, hg.output, hg.size, fun k hk hgk => hg.block k hk (fun e => hr k e.symm hgk)⟩
theorem Keeps.cell {G : Nat → Prop} {w w' : World} (h : Keeps G w w') {p : Addr} (hp : p.block < w.heap.size) (hg : G p.block) : w'.cell? p = w.cell? p := World.cell?_of_block (h.block _ hp hg)
theorem Keeps.frozen {G : Nat → Prop} {w w' : World} (h : Keeps G w w') {p : Addr} (hp : p.block < w.heap.size) (hg : G p.block) : w'.frozen? p = w.frozen? p := World.frozen?_of_block (h.block _ hp hg)

/-- A block, known whole. -/
def BlkIs (w : World) (b : Nat) (t : TypeId) (cs : Array Value) : Prop := w.heap[b]? = some (.cells cs t (0, 0))
theorem BlkIs.lt {w : World} {b t : Nat} {cs : Array Value} (h : BlkIs w b t cs) : b < w.heap.size := (Array.getElem?_eq_some_iff.1 h).1
theorem BlkIs.keep {w w' : World} {b t : Nat} {cs : Array Value} (h : BlkIs w b t cs) (k : Below w.heap.size w w') : BlkIs w' b t cs := (k.block b h.lt).trans h
theorem BlkIs.keepK {w w' : World} {b t : Nat} {cs : Array Value} (h : BlkIs w b t cs) {G : Nat → Prop} (k : Keeps G w w') (hg : G b) : BlkIs w' b t cs := (k.block b h.lt hg).trans h
theorem BlkIs.cell {w : World} {b t : Nat} {cs : Array Value} (h : BlkIs w b t cs) (i : Nat) : w.cell? ⟨b, i, none⟩ = cs[i]? := by
  simp [World.cell?, show w.heap[b]? = _ from h]
theorem BlkIs.fz {w : World} {b t : Nat} {cs : Array Value} (h : BlkIs w b t cs) (i : Nat) : w.frozen? ⟨b, i, none⟩ = false := by
  simp [World.frozen?, show w.heap[b]? = _ from h]
theorem BlkIs.new (w : World) (t : TypeId) (cs : Array Value) : BlkIs (w.alloc (.cells cs t)) w.heap.size t cs := heap_alloc_new w _
theorem BlkIs.put {w : World} {b t : Nat} {cs : Array Value} (h : BlkIs w b t cs) (i : Nat) (v : Value) : BlkIs (w.setCell ⟨b, i, none⟩ v) b t (cs.setIfInBounds i v) := heap_setCell_same w b i _ _ v h
theorem BlkIs.not_row {w : World} {b t : Nat} {cs : Array Value} (h : BlkIs w b t cs) {base size k : Nat} {e : TypeId} {v : Value} {xs : List Value} (hne : t ≠ e) (hr : w.ownsRow base e size v k xs) : v.ownBlock ≠ some b := by
  rcases hr.2 with ⟨rfl, _⟩ | ⟨g, cap, cur, rfl, _, hgb, _⟩
  · simp [Value.ownBlock]
  · intro e'
    obtain rfl : g = b := by simpa [Value.ownBlock] using e'
    have := (show w.heap[g]? = _ from h).symm.trans hgb
    simp only [Option.some.injEq, Obj.cells.injEq] at this
    exact hne this.2.1
theorem rowKeep {w w' : World} {lo n : Nat} {v : Value} {xs : List Value} {e : TypeId} {size : Nat} (h : w.ownsRow lo e size v n xs) {G : Nat → Prop} (k : Keeps G w w') (hg : ∀ g, v.ownBlock = some g → G g) : w'.ownsRow lo e size v n xs := by
  refine ⟨h.1, ?_⟩
  rcases h.2 with q | ⟨g, cap, cur, rfl, r1, r2, r3⟩
  · exact .inl q
  · exact .inr ⟨g, cap, cur, rfl, r1, (k.block g (Array.getElem?_eq_some_iff.1 r2).1 (hg g rfl)).trans r2, r3⟩
theorem rowBelow {w w' : World} {lo n : Nat} {v : Value} {xs : List Value} {e : TypeId} {size : Nat} (h : w.ownsRow lo e size v n xs) (k : Below w.heap.size w w') : w'.ownsRow lo e size v n xs :=
  rowKeep h (G := fun _ => True) (Keeps.ofBelow k (fun _ hk _ => hk)) (fun _ _ => trivial)
theorem rowShape {w : World} {lo n : Nat} {v : Value} {xs : List Value} {e : TypeId} {size : Nat} (h : w.ownsRow lo e size v n xs) : ∃ a n c, v = .slice a n c := by
  rcases h.2 with ⟨rfl, _⟩ | ⟨g, cap, cur, rfl, _⟩
  · exact ⟨_, _, _, rfl⟩
  · exact ⟨_, _, _, rfl⟩
end Go.Proofs.Ytmdcankfjmkkeaa
