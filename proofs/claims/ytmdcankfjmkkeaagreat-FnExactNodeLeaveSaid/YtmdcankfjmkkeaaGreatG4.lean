/- What cmp.Compare tells of two numbers. -/
import Derived.Test.YtmdcankfjmkkeaaGreatG1
import Derived.Test.YtmdcankfjmkkeaaGreatG3
import Derived.Deep.OwnRows
import Derived.Test.YtmdcankfjmkkeaaGreatChecked
import Derived.Deep.RegionHeld3
import Derived.WalkKit
import Derived.Below
namespace Go.Proofs.YtmdcankfjmkkeaaGreat
open Go Go.RowKit
set_option linter.unusedVariables false

def ordI (a b : Int) : Int := if a < b then -1 else if b < a then 1 else 0
theorem ordI_cases (a b : Int) : (ordI a b = -1 ∧ a < b) ∨ (ordI a b = 1 ∧ b < a) ∨ (ordI a b = 0 ∧ a = b) := by
  unfold ordI
  by_cases h : a < b
  · exact .inl ⟨if_pos h, h⟩
  · by_cases k : b < a
    · exact .inr (.inl ⟨by rw [if_neg h, if_pos k], k⟩)
    · exact .inr (.inr ⟨by rw [if_neg h, if_neg k], by omega⟩)
theorem ordI_neg {a b : Int} : ordI a b < 0 ↔ a < b := by rcases ordI_cases a b with ⟨h, k⟩ | ⟨h, k⟩ | ⟨h, k⟩ <;> rw [h] <;> omega
theorem ordI_zero {a b : Int} : ordI a b = 0 ↔ a = b := by rcases ordI_cases a b with ⟨h, k⟩ | ⟨h, k⟩ | ⟨h, k⟩ <;> rw [h] <;> omega
theorem isNaN_any (a : Int) (w : World) : Calls Tryz.prog 205 #[.int .i64 a] w fun e w' => e = .returned (.bool false) ∧ w = w' := by
  go_enter Tryz.func205, Tryz.ntmps205
  go_wp2
  go_ret
  exact ⟨by simp, rfl⟩
theorem compare_any (a b : Int) (w : World) : Calls Tryz.prog 163 #[.int .i64 a, .int .i64 b] w fun e w' => e = .returned (.int .i64 (ordI a b)) ∧ w = w' := by
  rcases ordI_cases a b with ⟨h, k⟩ | ⟨h, k⟩ | ⟨h, k⟩
  · have HH : Hid (ordI a b = -1) := h
    clear h
    go_enter Tryz.func163, Tryz.ntmps163
    go_wp2_with (go_at_call 205; refine (isNaN_any _ _).mono ?_; rintro e w' ⟨rfl, rfl⟩)
    go_ret
    exact ⟨by rw [HH.out]; rfl, rfl⟩
  · have HH : Hid (ordI a b = 1) := h
    have k2 : ¬ a < b := by omega
    clear h
    go_enter Tryz.func163, Tryz.ntmps163
    go_wp2_with (go_at_call 205; refine (isNaN_any _ _).mono ?_; rintro e w' ⟨rfl, rfl⟩)
    go_ret
    exact ⟨by rw [HH.out]; rfl, rfl⟩
  · subst k
    have HH : Hid (ordI a a = 0) := h
    clear h
    go_enter Tryz.func163, Tryz.ntmps163
    go_wp2_with (go_at_call 205; refine (isNaN_any _ _).mono ?_; rintro e w' ⟨rfl, rfl⟩)
    go_ret
    exact ⟨by rw [HH.out]; rfl, rfl⟩
end Go.Proofs.YtmdcankfjmkkeaaGreat
/- The contract of slices.BinarySearchFunc over facts, by node. -/
namespace Go.Proofs.YtmdcankfjmkkeaaGreat
open Go Go.RowKit
set_option linter.unusedVariables false

theorem nodeOrder_any (x : FactV) (n : Int) (w : World) : Calls Tryz.prog 98 #[x.val, .int .i64 n] w fun e w' => e = .returned (.int .i64 (ordI x.node n)) ∧ Below w.heap.size w w' := by
  obtain ⟨x1, x2, x3⟩ := x
  have b1 := (Below.refl w.heap.size w).alloc (Nat.le_refl _) (.cells #[.int .i64 x1, .int .i64 x2, .int .i64 x3] 54)
  unfold FactV.val
  go_enter Tryz.func98, Tryz.ntmps98
  go_wp2_with fail
  refine (compare_any x1 n _).mono ?_
  rintro e w' ⟨rfl, rfl⟩
  go_wp2
  go_ret
  exact ⟨rfl, b1⟩
def SearchPost (l : List FactV) (n : Int) (w : World) (e : Ending) (w' : World) : Prop := ∃ (k : Nat) (r : Bool), e = .returned (.tuple #[.int .i64 (k : Int), .bool r]) ∧ placeF l n k ∧ (r = true ↔ thereF l n k) ∧ Below w.heap.size w w'
set_option maxHeartbeats 2000000 in
set_option maxRecDepth 100000 in
theorem fsearch_any (a : Option Addr) (cap : Nat) (l : List FactV) (n : Int) (w : World) (hl : l.length ≤ 1048576) (hrow : CellRow w a (cellsOf FactV.cells l)) (hr : riseV l) :
    Calls Tryz.prog 97 #[.slice a l.length cap, .int .i64 n, .func (.func 98) #[] #[]] w (SearchPost l n w) := by
  have HRi : Hid (riseV l) := hr
  clear hr
  go_enter Tryz.func97, Tryz.ntmps97
  go_wp2
  go_loopw [9, 10] (fun s7 s8 wr => ∃ p q : Nat, s7 = .int .i64 p ∧ s8 = .int .i64 q ∧ p ≤ q ∧ q ≤ l.length ∧ (∀ j (h : j < l.length), j < p → l[j].node < n) ∧ (∀ j (h : j < l.length), q ≤ j → n ≤ l[j].node) ∧ Below w.heap.size w wr) (fun s7 s8 _ => (intOf s8).toNat - (intOf s7).toNat)
  case atStart => exact ⟨0, l.length, rfl, rfl, Nat.zero_le _, Nat.le_refl _, fun j _ h => by omega, fun j h h2 => by omega, Below.refl _ _⟩
  case round =>
    obtain ⟨p, q, rfl, rfl, hpq, hql, h1, h2, hb⟩ := hrel
    have H1 : Hid (∀ j (h : j < l.length), j < p → l[j].node < n) := h1
    have H2 : Hid (∀ j (h : j < l.length), q ≤ j → n ≤ l[j].node) := h2
    clear h1 h2
    by_cases hlt : p < q
    · obtain ⟨b, off, rfl⟩ := hrow.addr (by rw [cellsOf_length FactV.cells_len]; omega)
      have hml : (p + q) / 2 < l.length := by omega
      obtain ⟨x, hlx⟩ : ∃ x, l[(p + q) / 2] = x := ⟨_, rfl⟩
      obtain ⟨x1, x2, x3⟩ := x
      obtain ⟨_, q0, q1, q2⟩ := (hrow.keep hb).fact hml hlx
      have hmI : ((p : Int) + (q : Int)) / 2 < (l.length : Int) := by omega
      have hm0 : (0 : Int) ≤ ((p : Int) + (q : Int)) / 2 := by omega
      have hmN : (((p : Int) + (q : Int)) / 2).toNat = (p + q) / 2 := by omega
      have HX : Hid (l[(p + q) / 2].node = x1) := by show _ = _; rw [hlx]
      clear hlx
      dsimp only at q0 q1 q2
      go_wp2_with fail
      refine (nodeOrder_any ⟨x1, x2, x3⟩ n _).mono ?_
      rintro e z1 ⟨rfl, bz1⟩
      dsimp only
      have hb1 := hb.trans (bz1.mono hb.size)
      by_cases hc : x1 < n
      · have hd2 : decide (ordI x1 n < 0) = true := decide_eq_true (ordI_neg.2 hc)
        have hd3 : ordI x1 n < 0 := ordI_neg.2 hc
        have HC : Hid (x1 < n) := hc
        clear hc
        go_wp2
        go_roundw
        case rel =>
          exact ⟨(p + q) / 2 + 1, q, by go_num, rfl, by omega, hql, fun j hj hjl => by
            by_cases e : j = (p + q) / 2
            · subst e; rw [HX.out]; exact HC.out
            · have := rise_at HRi.out (show j < (p + q) / 2 by omega) hml
              have h3 := HX.out
              have h4 := HC.out
              omega, H2.out, hb1⟩
        case measure => simp [intOf]; omega
      · have hd2 : decide (ordI x1 n < 0) = false := decide_eq_false (fun h => hc (ordI_neg.1 h))
        have hd3 : ¬ ordI x1 n < 0 := fun h => hc (ordI_neg.1 h)
        have HC : Hid (¬ x1 < n) := hc
        clear hc
        go_wp2
        go_roundw
        case rel =>
          exact ⟨p, (p + q) / 2, rfl, by go_num, by omega, by omega, H1.out, fun j hj hjl => by
            by_cases e : j = (p + q) / 2
            · subst e; rw [HX.out]; have := HC.out; omega
            · have := rise_at HRi.out (show (p + q) / 2 < j by omega) hj
              have h3 := HX.out
              have h4 := HC.out
              omega, hb1⟩
        case measure => simp [intOf]; omega
    · obtain rfl : p = q := by omega
      obtain ⟨q, rfl⟩ : ∃ q, q = p := ⟨p, rfl⟩
      clear hlt hpq
      have HP : Hid (placeF l n q) := ⟨hql, H1.out, H2.out⟩
      clear H1 H2
      by_cases hn : q < l.length
      · obtain ⟨b, off, rfl⟩ := hrow.addr (by rw [cellsOf_length FactV.cells_len]; omega)
        obtain ⟨x, hlx⟩ : ∃ x, l[q] = x := ⟨_, rfl⟩
        obtain ⟨x1, x2, x3⟩ := x
        obtain ⟨_, q0, q1, q2⟩ := (hrow.keep hb).fact hn hlx
        have hmI : (q : Int) < (l.length : Int) := by omega
        have HT : Hid (thereF l n q ↔ x1 = n) := ⟨fun ⟨h, e⟩ => by rw [hlx] at e; exact e, fun e => ⟨hn, by rw [hlx]; exact e⟩⟩
        clear hlx
        dsimp only at q0 q1 q2
        go_wp2_with fail
        refine (nodeOrder_any ⟨x1, x2, x3⟩ n _).mono ?_
        rintro e z1 ⟨rfl, bz1⟩
        dsimp only
        have hb1 := hb.trans (bz1.mono hb.size)
        by_cases hc : x1 = n
        · have hd2 : (ordI x1 n == 0) = true := beq_iff_eq.2 (ordI_zero.2 hc)
          have HT2 : Hid (thereF l n q) := HT.out.2 hc
          clear hc HT
          go_wp2
          go_ret2
          exact ⟨q, true, rfl, HP.out, by simp [HT2.out], hb1⟩
        · have hd2 : (ordI x1 n == 0) = false := beq_eq_false_iff_ne.2 (fun h => hc (ordI_zero.1 h))
          have HT2 : Hid (¬ thereF l n q) := fun h => hc (HT.out.1 h)
          clear hc HT
          go_wp2
          go_ret2
          exact ⟨q, false, rfl, HP.out, by simp [HT2.out], hb1⟩
      · obtain rfl : q = l.length := by omega
        have HT2 : Hid (¬ thereF l n l.length) := fun h => by obtain ⟨h, _⟩ := h; omega
        clear hn
        go_wp2
        go_ret2
        exact ⟨l.length, false, rfl, HP.out, by simp [HT2.out], hb⟩
end Go.Proofs.YtmdcankfjmkkeaaGreat
/- What of memory stays as it lay, by blocks; and a block that is known whole. No program. -/
namespace Go.Proofs.YtmdcankfjmkkeaaGreat
open Go Go.RowKit
set_option linter.unusedVariables false

/-- What lay and is G lies as it lay. -/
structure Keeps (G : Nat → Prop) (w w' : World) : Prop where
  os : w'.os = w.os
  tape : w'.tape = w.tape
  output : w'.output = w.output
  size : w.heap.size ≤ w'.heap.size
  block : ∀ k, k < w.heap.size → G k → w'.heap[k]? = w.heap[k]?
theorem Keeps.refl (G : Nat → Prop) (w : World) : Keeps G w w := ⟨rfl, rfl, rfl, Nat.le_refl _, fun _ _ _ => rfl⟩
theorem Keeps.trans {G : Nat → Prop} {a b c : World} (h : Keeps G a b) (k : Keeps G b c) : Keeps G a c :=
  ⟨k.os.trans h.os, k.tape.trans h.tape, k.output.trans h.output, Nat.le_trans h.size k.size, fun i hi hg => (k.block i (Nat.lt_of_lt_of_le hi h.size) hg).trans (h.block i hi hg)⟩
theorem Keeps.mono {G G' : Nat → Prop} {a b : World} (h : Keeps G a b) (hg : ∀ k, k < a.heap.size → G' k → G k) : Keeps G' a b := ⟨h.os, h.tape, h.output, h.size, fun i hi hk => h.block i hi (hg i hi hk)⟩
theorem Keeps.alloc {G : Nat → Prop} {a w : World} (h : Keeps G a w) (o : Obj) : Keeps G a (w.alloc o) :=
  h.trans ⟨rfl, rfl, rfl, by simp, fun k hk _ => Below.heap_alloc _ _ _ hk⟩
theorem Keeps.drew {G : Nat → Prop} {a w : World} (h : Keeps G a w) : Keeps G a w.drew := ⟨h.os, h.tape, h.output, h.size, h.block⟩
theorem Keeps.setCell {G : Nat → Prop} {a w : World} (h : Keeps G a w) {p : Addr} (hp : ¬ G p.block) (u : Value) : Keeps G a (w.setCell p u) :=
  h.trans ⟨rfl, rfl, rfl, by simp [World.setCell], fun k hk hg => Below.heap_setCell _ _ _ _ (fun e => hp (e ▸ hg))⟩
theorem Keeps.below {G : Nat → Prop} {a w w' : World} (h : Keeps G a w) (k : Below w.heap.size w w') : Keeps G a w' :=
  h.trans ⟨k.os, k.tape, k.output, k.size, fun i hi _ => k.block i hi⟩
theorem Keeps.toBelow {G : Nat → Prop} {n : Nat} {a b : World} (h : Keeps G a b) (hn : n ≤ a.heap.size) (hg : ∀ k, k < n → G k) : Below n a b := ⟨h.os, h.tape, h.output, h.size, fun k hk => h.block k (by omega) (hg k hk)⟩
theorem Keeps.ofBelow {G : Nat → Prop} {n : Nat} {a b : World} (h : Below n a b) (hg : ∀ k, k < a.heap.size → G k → k < n) : Keeps G a b := ⟨h.os, h.tape, h.output, h.size, fun k hk hk2 => h.block k (hg k hk hk2)⟩
theorem Keeps.grown {G : Nat → Prop} {a w w' : World} {row : Option Nat} (h : Keeps G a w) (hg : w.grownBy w' row) (hr : ∀ k, row = some k → ¬ G k) : Keeps G a w' :=
  h.trans ⟨hg.os, hg.tape, hg.output, hg.size, fun k hk hgk => hg.block k hk (fun e => hr k e.symm hgk)⟩
theorem Keeps.cell {G : Nat → Prop} {w w' : World} (h : Keeps G w w') {p : Addr} (hp : p.block < w.heap.size) (hg : G p.block) : w'.cell? p = w.cell? p := World.cell?_of_block (h.block _ hp hg)
theorem Keeps.frozen {G : Nat → Prop} {w w' : World} (h : Keeps G w w') {p : Addr} (hp : p.block < w.heap.size) (hg : G p.block) : w'.frozen? p = w.frozen? p := World.frozen?_of_block (h.block _ hp hg)

/-- A block, known whole. -/
def BlkIs (w : World) (b : Nat) (t : TypeId) (cs : Array Value) : Prop := w.heap[b]? = some (.cells cs t (0, 0))
theorem BlkIs.lt {w : World} {b t : Nat} {cs : Array Value} (h : BlkIs w b t cs) : b < w.heap.size := (Array.getElem?_eq_some_iff.1 h).1
theorem BlkIs.keep {w w' : World} {b t : Nat} {cs : Array Value} (h : BlkIs w b t cs) (k : Below w.heap.size w w') : BlkIs w' b t cs := (k.block b h.lt).trans h
theorem BlkIs.keepK {w w' : World} {b t : Nat} {cs : Array Value} (h : BlkIs w b t cs) {G : Nat → Prop} (k : Keeps G w w') (hg : G b) : BlkIs w' b t cs := (k.block b h.lt hg).trans h
theorem BlkIs.cell {w : World} {b t : Nat} {cs : Array Value} (h : BlkIs w b t cs) (i : Nat) : w.cell? ⟨b, i, none⟩ = cs[i]? := by
  simp [World.cell?, show w.heap[b]? = _ from h]
theorem BlkIs.fz {w : World} {b t : Nat} {cs : Array Value} (h : BlkIs w b t cs) (i : Nat) : w.frozen? ⟨b, i, none⟩ = false := by
  simp [World.frozen?, show w.heap[b]? = _ from h]
theorem BlkIs.new (w : World) (t : TypeId) (cs : Array Value) : BlkIs (w.alloc (.cells cs t)) w.heap.size t cs := heap_alloc_new w _
theorem BlkIs.put {w : World} {b t : Nat} {cs : Array Value} (h : BlkIs w b t cs) (i : Nat) (v : Value) : BlkIs (w.setCell ⟨b, i, none⟩ v) b t (cs.setIfInBounds i v) := heap_setCell_same w b i _ _ v h
theorem BlkIs.not_row {w : World} {b t : Nat} {cs : Array Value} (h : BlkIs w b t cs) {base size k : Nat} {e : TypeId} {v : Value} {xs : List Value} (hne : t ≠ e) (hr : w.ownsRow base e size v k xs) : v.ownBlock ≠ some b := by
  rcases hr.2 with ⟨rfl, _⟩ | ⟨g, cap, cur, rfl, _, hgb, _⟩
  · simp [Value.ownBlock]
  · intro e'
    obtain rfl : g = b := by simpa [Value.ownBlock] using e'
    have := (show w.heap[g]? = _ from h).symm.trans hgb
    simp only [Option.some.injEq, Obj.cells.injEq] at this
    exact hne this.2.1
theorem rowKeep {w w' : World} {lo n : Nat} {v : Value} {xs : List Value} {e : TypeId} {size : Nat} (h : w.ownsRow lo e size v n xs) {G : Nat → Prop} (k : Keeps G w w') (hg : ∀ g, v.ownBlock = some g → G g) : w'.ownsRow lo e size v n xs := by
  refine ⟨h.1, ?_⟩
  rcases h.2 with q | ⟨g, cap, cur, rfl, r1, r2, r3⟩
  · exact .inl q
  · exact .inr ⟨g, cap, cur, rfl, r1, (k.block g (Array.getElem?_eq_some_iff.1 r2).1 (hg g rfl)).trans r2, r3⟩
theorem rowBelow {w w' : World} {lo n : Nat} {v : Value} {xs : List Value} {e : TypeId} {size : Nat} (h : w.ownsRow lo e size v n xs) (k : Below w.heap.size w w') : w'.ownsRow lo e size v n xs :=
  rowKeep h (G := fun _ => True) (Keeps.ofBelow k (fun _ hk _ => hk)) (fun _ _ => trivial)
theorem rowShape {w : World} {lo n : Nat} {v : Value} {xs : List Value} {e : TypeId} {size : Nat} (h : w.ownsRow lo e size v n xs) : ∃ a n c, v = .slice a n c := by
  rcases h.2 with ⟨rfl, _⟩ | ⟨g, cap, cur, rfl, _⟩
  · exact ⟨_, _, _, rfl⟩
  · exact ⟨_, _, _, rfl⟩
end Go.Proofs.YtmdcankfjmkkeaaGreat
/- The contracts of two facts: what is less by the specification, what is joined. -/
namespace Go.Proofs.YtmdcankfjmkkeaaGreat
open Go Go.RowKit
set_option linter.unusedVariables false

theorem FactV.lt_dec (x y : FactV) : ∃ r : Bool, (r = true ↔ x.lt y) := tells_bool _
/-- Two facts and a third, of zeros, in blocks of their own. -/
theorem three_blks (w : World) (x y : FactV) : ∃ W, ((w.alloc (.cells #[.int .i64 x.node, .int .i64 x.inc, .int .i64 x.st] 54)).alloc (.cells #[.int .i64 y.node, .int .i64 y.inc, .int .i64 y.st] 54)).alloc (.cells #[.int .i64 0, .int .i64 0, .int .i64 0] 54) = W ∧ FBlk W w.heap.size x ∧ FBlk W (w.heap.size + 1) y ∧ BlkIs W (w.heap.size + 2) 54 #[.int .i64 0, .int .i64 0, .int .i64 0] ∧ Below w.heap.size w W := by
  obtain ⟨W, hW, p1, p2, B0⟩ := two_blks w x y
  have k : Below W.heap.size W (W.alloc (.cells #[.int .i64 0, .int .i64 0, .int .i64 0] 54)) := (Below.refl _ _).alloc (Nat.le_refl _) _
  refine ⟨_, rfl, by rw [hW]; exact p1.keep k, by rw [hW]; exact p2.keep k, ?_, by rw [hW]; exact B0.alloc B0.size _⟩
  have hs : W.heap.size = w.heap.size + 2 := by rw [← hW]; simp
  rw [hW, ← hs]
  exact BlkIs.new _ _ _
/-- A fact put into a block. -/
theorem fact_put {W : World} {b : Nat} {u0 u1 u2 : Value} (h : BlkIs W b 54 #[u0, u1, u2]) (x1 x2 x3 : Int) :
    BlkIs (((W.setCell ⟨b, 0, none⟩ (.int .i64 x1)).setCell ⟨b, 1, none⟩ (.int .i64 x2)).setCell ⟨b, 2, none⟩ (.int .i64 x3)) b 54 #[.int .i64 x1, .int .i64 x2, .int .i64 x3] := by
  have := ((h.put 0 (.int .i64 x1)).put 1 (.int .i64 x2)).put 2 (.int .i64 x3)
  simpa using this
set_option maxHeartbeats 1000000 in
set_option maxRecDepth 100000 in
theorem specJoin_any (x y : FactV) (w : World) : Calls Tryz.prog 152 #[x.val, y.val] w fun e w' => e = .returned (joinF x y).val ∧ Below w.heap.size w w' := by
  obtain ⟨W, hW, p1, p2, p3, B0⟩ := three_blks w x y
  obtain ⟨r, hr⟩ := tells_bool (x.lt y)
  have HE : Hid (joinF x y = if r = true then y else x) := by
    show _ = _
    cases r with
    | true => rw [if_pos rfl]; exact joinF_yes (hr.1 rfl)
    | false => rw [if_neg (by decide)]; exact joinF_no (fun h => by have := hr.2 h; cases this)
  obtain ⟨x1, x2, x3⟩ := x
  obtain ⟨y1, y2, y3⟩ := y
  have HR : Hid (r = true ↔ FactV.lt ⟨x1, x2, x3⟩ ⟨y1, y2, y3⟩) := hr
  have HW : Hid (_ = W) := hW
  clear hW hr
  unfold FactV.val
  go_enter Tryz.func152, Tryz.ntmps152
  go_wp2_with fail
  rw [HW.out]
  refine (specLess_is ⟨x1, x2, x3⟩ ⟨y1, y2, y3⟩ _ r HR.out).mono ?_
  rintro e z1 ⟨rfl, bz1⟩
  obtain ⟨_, c0, c1, c2⟩ := p1.keep bz1
  obtain ⟨_, d0, d1, d2⟩ := p2.keep bz1
  have q3 := p3.keep bz1
  have g0 : z1.cell? ⟨w.heap.size + 2, 0, none⟩ = some (.int .i64 0) := q3.cell 0
  have g1 : z1.cell? ⟨w.heap.size + 2, 1, none⟩ = some (.int .i64 0) := q3.cell 1
  have g2 : z1.cell? ⟨w.heap.size + 2, 2, none⟩ = some (.int .i64 0) := q3.cell 2
  have f0 := q3.fz 0
  have f1 := q3.fz 1
  have f2 := q3.fz 2
  have B1 := B0.trans (bz1.mono B0.size)
  clear p1 p2 p3 B0 bz1 HW HR
  dsimp only at c0 c1 c2 d0 d1 d2
  cases r with
  | true =>
    have HV : Hid (joinF ⟨x1, x2, x3⟩ ⟨y1, y2, y3⟩ = ⟨y1, y2, y3⟩) := HE.out
    clear HE
    go_wp2
    have Q := fact_put q3 y1 y2 y3
    have BB := ((B1.setCell (p := ⟨w.heap.size + 2, 0, none⟩) (by show _ ≤ w.heap.size + 2; omega) (.int .i64 y1)).setCell (p := ⟨w.heap.size + 2, 1, none⟩) (by show _ ≤ w.heap.size + 2; omega) (.int .i64 y2)).setCell (p := ⟨w.heap.size + 2, 2, none⟩) (by show _ ≤ w.heap.size + 2; omega) (.int .i64 y3)
    obtain ⟨z6, hz6⟩ : ∃ z6, (((z1.setCell ⟨w.heap.size + 2, 0, none⟩ (.int .i64 y1)).setCell ⟨w.heap.size + 2, 1, none⟩ (.int .i64 y2)).setCell ⟨w.heap.size + 2, 2, none⟩ (.int .i64 y3)) = z6 := ⟨_, rfl⟩
    rw [hz6] at Q BB ⊢
    have e0 : z6.cell? ⟨w.heap.size + 2, 0, none⟩ = some (.int .i64 y1) := Q.cell 0
    have e1 : z6.cell? ⟨w.heap.size + 2, 1, none⟩ = some (.int .i64 y2) := Q.cell 1
    have e2 : z6.cell? ⟨w.heap.size + 2, 2, none⟩ = some (.int .i64 y3) := Q.cell 2
    exact bodyPost_ret (v := .agg #[.int .i64 y1, .int .i64 y2, .int .i64 y3]) (by simp [results, Tryz.results152, go_sem, e0, e1, e2]) rfl ⟨by rw [HV.out], BB⟩
  | false =>
    have HV : Hid (joinF ⟨x1, x2, x3⟩ ⟨y1, y2, y3⟩ = ⟨x1, x2, x3⟩) := HE.out
    clear HE
    go_wp2
    have Q := fact_put q3 x1 x2 x3
    have BB := ((B1.setCell (p := ⟨w.heap.size + 2, 0, none⟩) (by show _ ≤ w.heap.size + 2; omega) (.int .i64 x1)).setCell (p := ⟨w.heap.size + 2, 1, none⟩) (by show _ ≤ w.heap.size + 2; omega) (.int .i64 x2)).setCell (p := ⟨w.heap.size + 2, 2, none⟩) (by show _ ≤ w.heap.size + 2; omega) (.int .i64 x3)
    obtain ⟨z6, hz6⟩ : ∃ z6, (((z1.setCell ⟨w.heap.size + 2, 0, none⟩ (.int .i64 x1)).setCell ⟨w.heap.size + 2, 1, none⟩ (.int .i64 x2)).setCell ⟨w.heap.size + 2, 2, none⟩ (.int .i64 x3)) = z6 := ⟨_, rfl⟩
    rw [hz6] at Q BB ⊢
    have e0 : z6.cell? ⟨w.heap.size + 2, 0, none⟩ = some (.int .i64 x1) := Q.cell 0
    have e1 : z6.cell? ⟨w.heap.size + 2, 1, none⟩ = some (.int .i64 x2) := Q.cell 1
    have e2 : z6.cell? ⟨w.heap.size + 2, 2, none⟩ = some (.int .i64 x3) := Q.cell 2
    exact bodyPost_ret (v := .agg #[.int .i64 x1, .int .i64 x2, .int .i64 x3]) (by simp [results, Tryz.results152, go_sem, e0, e1, e2]) rfl ⟨by rw [HV.out], BB⟩
end Go.Proofs.YtmdcankfjmkkeaaGreat
/- A region that draws its order: what it reads of cells that nobody in it writes is taken first, one operation a line; the rest is run as it comes up. No program. -/
namespace Go.Proofs.YtmdcankfjmkkeaaGreat
open Go
set_option linter.unusedVariables false

/-- An operation of a region that yields in every world that meets S is taken first; its slot by number. -/
theorem takeH {P : Program} {md : Region.Mode} {ops : Array Oper} {Q : Exit → Act → World → Prop} {S : World → Prop} (i : Nat) {D : Nat} {op : Op} {ty : TypeId} {pos : String} {after : Array Edge} {v : Value} {fuel : Nat} {listed : Array Bool} {a : Act} {w : World} (hi : ops[i]? = some ⟨some D, op, ty, pos, after, none⟩)
    (hs : Region.noSelect ops = true) (hf : Region.free md ops listed i = true) (hr : (Region.ready md ops listed).contains i = true)
    (hQ : ∀ c a w, Q (.panic c) (a.put (some D) v) w → Q (.panic c) a w) (hy : ∀ w, S w → (execOp a.eval ⟨some D, op, ty, pos, after, none⟩).run P w = .ok (.value v) w) (hS : S w)
    (h : wpAnyH P md ops Q S fuel (listed.setIfInBounds i true) { tmps := a.tmps.setIfInBounds D v, defers := a.defers } w) : wpAnyH P md ops Q S (fuel + 1) listed a w :=
  wpAnyH_take hi hs hf hr hQ (Or.inl ⟨rfl, hy⟩) hS h
/-- An operation that is run where it comes up. -/
theorem doH {P : Program} {md : Region.Mode} {ops : Array Oper} {Q : Exit → Act → World → Prop} {S : World → Prop} {i : Nat} {D : Nat} {op : Op} {ty : TypeId} {pos : String} {after : Array Edge} {v : Value} {fuel : Nat} {listed : Array Bool} {a : Act} {w w' : World} (hi : ops[i]? = some ⟨some D, op, ty, pos, after, none⟩)
    (hrun : (execOp a.eval ⟨some D, op, ty, pos, after, none⟩).run P w = .ok (.value v) w') (hS : S w')
    (h : wpAnyH P md ops Q S fuel (listed.setIfInBounds i true) { tmps := a.tmps.setIfInBounds D v, defers := a.defers } w') :
    wpOp P ops Q i (fun a' w' => S w' ∧ wpAnyH P md ops Q S fuel (listed.setIfInBounds i true) a' w') a w := by
  unfold wpOp
  simp only [hi]
  rw [if_pos (show Region.wanted _ _ = true from rfl)]
  refine .inl ?_
  unfold Oper.wp
  rw [hrun]
  exact ⟨hS, h⟩
theorem storeH {P : Program} {md : Region.Mode} {ops : Array Oper} {Q : Exit → Act → World → Prop} {S : World → Prop} {i : Nat} {op : Op} {ty : TypeId} {pos : String} {after : Array Edge} {nx : Next} {fuel : Nat} {listed : Array Bool} {a : Act} {w w' : World} (hi : ops[i]? = some ⟨none, op, ty, pos, after, none⟩)
    (hrun : (execOp a.eval ⟨none, op, ty, pos, after, none⟩).run P w = .ok nx w') (hnx : nx = .skip ∨ ∃ v, nx = .value v) (hS : S w')
    (h : wpAnyH P md ops Q S fuel (listed.setIfInBounds i true) a w') :
    wpOp P ops Q i (fun a' w' => S w' ∧ wpAnyH P md ops Q S fuel (listed.setIfInBounds i true) a' w') a w := by
  unfold wpOp
  simp only [hi]
  rw [if_pos (show Region.wanted _ _ = true from rfl)]
  refine .inl ?_
  unfold Oper.wp
  rw [hrun]
  rcases hnx with rfl | ⟨v, rfl⟩
  · exact ⟨hS, h⟩
  · exact ⟨hS, h⟩
theorem oneH {P : Program} {md : Region.Mode} {ops : Array Oper} {Q : Exit → Act → World → Prop} {S : World → Prop} (i : Nat) {fuel : Nat} {listed : Array Bool} {a : Act} {w : World} (hr : Region.ready md ops listed = [i])
    (h : wpOp P ops Q i (fun a' w' => S w' ∧ wpAnyH P md ops Q S fuel (listed.setIfInBounds i true) a' w') a w) : wpAnyH P md ops Q S (fuel + 1) listed a w :=
  wpAnyH_all hr (by simp) (fun j hj => by obtain rfl := List.mem_singleton.1 hj; exact h)
theorem twoH {P : Program} {md : Region.Mode} {ops : Array Oper} {Q : Exit → Act → World → Prop} {S : World → Prop} (i j : Nat) {fuel : Nat} {listed : Array Bool} {a : Act} {w : World} (hr : Region.ready md ops listed = [i, j])
    (h1 : wpOp P ops Q i (fun a' w' => S w' ∧ wpAnyH P md ops Q S fuel (listed.setIfInBounds i true) a' w') a w)
    (h2 : wpOp P ops Q j (fun a' w' => S w' ∧ wpAnyH P md ops Q S fuel (listed.setIfInBounds j true) a' w') a w) : wpAnyH P md ops Q S (fuel + 1) listed a w :=
  wpAnyH_all hr (by simp) (fun q hq => by
    rcases List.mem_cons.1 hq with rfl | hq
    · exact h1
    · obtain rfl := List.mem_singleton.1 hq; exact h2)
end Go.Proofs.YtmdcankfjmkkeaaGreat
/- A region that draws its order, with guards: op by op; what lay at its start lies on (S: Below). No program. -/
namespace Go.Proofs.YtmdcankfjmkkeaaGreat
open Go Go.RowKit
set_option linter.unusedVariables false

/-- An operation that is asked for and yields in every world that meets S is taken first. -/
theorem takeG {P : Program} {md : Region.Mode} {ops : Array Oper} {Q : Exit → Act → World → Prop} {S : World → Prop} (i : Nat) {D : Nat} {op : Op} {ty : TypeId} {pos : String} {after : Array Edge} {g : Option (Nat × Bool)} {v : Value} {fuel : Nat} {listed : Array Bool} {a : Act} {w : World} (hi : ops[i]? = some ⟨some D, op, ty, pos, after, g⟩)
    (hs : Region.noSelect ops = true) (hf : Region.free md ops listed i = true) (hr : (Region.ready md ops listed).contains i = true) (hw : Region.wanted ⟨some D, op, ty, pos, after, g⟩ (yielded ops a.tmps) = true)
    (hQ : ∀ c a w, Q (.panic c) (a.put (some D) v) w → Q (.panic c) a w) (hy : ∀ w, S w → (execOp a.eval ⟨some D, op, ty, pos, after, g⟩).run P w = .ok (.value v) w) (hS : S w)
    (h : wpAnyH P md ops Q S fuel (listed.setIfInBounds i true) { tmps := a.tmps.setIfInBounds D v, defers := a.defers } w) : wpAnyH P md ops Q S (fuel + 1) listed a w :=
  wpAnyH_take hi hs hf hr hQ (Or.inl ⟨hw, hy⟩) hS h
/-- One that is not asked for leaves its slot empty. -/
theorem skipG {P : Program} {md : Region.Mode} {ops : Array Oper} {Q : Exit → Act → World → Prop} {S : World → Prop} (i : Nat) {D : Nat} {op : Op} {ty : TypeId} {pos : String} {after : Array Edge} {g : Option (Nat × Bool)} {fuel : Nat} {listed : Array Bool} {a : Act} {w : World} (hi : ops[i]? = some ⟨some D, op, ty, pos, after, g⟩)
    (hs : Region.noSelect ops = true) (hf : Region.free md ops listed i = true) (hr : (Region.ready md ops listed).contains i = true) (hw : Region.wanted ⟨some D, op, ty, pos, after, g⟩ (yielded ops a.tmps) = false)
    (hQ : ∀ c a w, Q (.panic c) (a.put (some D) undef) w → Q (.panic c) a w) (hS : S w)
    (h : wpAnyH P md ops Q S fuel (listed.setIfInBounds i true) { tmps := a.tmps.setIfInBounds D undef, defers := a.defers } w) : wpAnyH P md ops Q S (fuel + 1) listed a w :=
  wpAnyH_take hi hs hf hr hQ (Or.inr ⟨hw, rfl⟩) hS h
/-- One alone that may come up, and is asked for: it is run. -/
theorem runG {P : Program} {md : Region.Mode} {ops : Array Oper} {Q : Exit → Act → World → Prop} {S : World → Prop} (i : Nat) {d : Option Nat} {op : Op} {ty : TypeId} {pos : String} {after : Array Edge} {g : Option (Nat × Bool)} {fuel : Nat} {listed : Array Bool} {a : Act} {w : World} (hr : Region.ready md ops listed = [i]) (hi : ops[i]? = some ⟨d, op, ty, pos, after, g⟩)
    (hw : Region.wanted ⟨d, op, ty, pos, after, g⟩ (yielded ops a.tmps) = true)
    (h : Oper.wp P ⟨d, op, ty, pos, after, g⟩ a w (fun a' w' => S w' ∧ wpAnyH P md ops Q S fuel (listed.setIfInBounds i true) a' w') Q) : wpAnyH P md ops Q S (fuel + 1) listed a w := by
  refine oneH i hr ?_
  unfold wpOp
  simp only [hi]
  rw [if_pos hw]
  exact .inl h
/-- A call that is run: its contract, whatever comes behind. -/
theorem skipAloneG {P : Program} {md : Region.Mode} {ops : Array Oper} {Q : Exit → Act → World → Prop} {S : World → Prop} (i : Nat) {D : Nat} {op : Op} {ty : TypeId} {pos : String} {after : Array Edge} {g : Option (Nat × Bool)} {fuel : Nat} {listed : Array Bool} {a : Act} {w : World} (hr : Region.ready md ops listed = [i]) (hi : ops[i]? = some ⟨some D, op, ty, pos, after, g⟩)
    (hw : Region.wanted ⟨some D, op, ty, pos, after, g⟩ (yielded ops a.tmps) = false) (hS : S w)
    (h : wpAnyH P md ops Q S fuel (listed.setIfInBounds i true) { tmps := a.tmps.setIfInBounds D undef, defers := a.defers } w) : wpAnyH P md ops Q S (fuel + 1) listed a w := by
  refine oneH i hr ?_
  unfold wpOp
  simp only [hi]
  rw [if_neg (by rw [hw]; exact Bool.false_ne_true)]
  exact ⟨hS, h⟩
/-- One that is run where it comes up, guarded or not. -/
theorem callH {P : Program} {ops : Array Oper} {Q : Exit → Act → World → Prop} {K : Act → World → Prop} {i : Nat} {d : Option Nat} {op : Op} {ty : TypeId} {pos : String} {after : Array Edge} {g : Option (Nat × Bool)} {a : Act} {w : World} (hi : ops[i]? = some ⟨d, op, ty, pos, after, g⟩)
    (hw : Region.wanted ⟨d, op, ty, pos, after, g⟩ (yielded ops a.tmps) = true) (h : Oper.wp P ⟨d, op, ty, pos, after, g⟩ a w K Q) : wpOp P ops Q i K a w := by
  unfold wpOp
  simp only [hi]
  rw [if_pos hw]
  exact .inl h
end Go.Proofs.YtmdcankfjmkkeaaGreat
