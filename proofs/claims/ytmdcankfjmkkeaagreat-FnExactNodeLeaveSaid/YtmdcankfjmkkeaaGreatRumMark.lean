/- One of a row's rumors; the contracts of the exact laws' measure, marks and holds of rumors. -/
import Derived.Test.YtmdcankfjmkkeaaGreatRumSpec
import Derived.Test.YtmdcankfjmkkeaaGreatMarkF
namespace Go.Proofs.YtmdcankfjmkkeaaGreat
open Go Go.RowKit
set_option linter.unusedVariables false

/-- One of a row's rumors. -/
structure RAt (w : World) (b off : Nat) (x : RumV) : Prop where
  lt : b < w.heap.size
  c0 : w.cell? ⟨b, off, none⟩ = some (.int .i64 x.node)
  c1 : w.cell? ⟨b, off + 1, none⟩ = some (.int .i64 x.inc)
  c2 : w.cell? ⟨b, off + 2, none⟩ = some (.int .i64 x.st)
  c3 : w.cell? ⟨b, off + 3, none⟩ = some (.int .i64 x.sent)
theorem RAt.keep {w w' : World} {b off : Nat} {x : RumV} (h : RAt w b off x) (k : Below w.heap.size w w') : RAt w' b off x :=
  ⟨Nat.lt_of_lt_of_le h.lt k.size, (k.cell (p := ⟨b, off, none⟩) h.lt).trans h.c0, (k.cell (p := ⟨b, off + 1, none⟩) h.lt).trans h.c1, (k.cell (p := ⟨b, off + 2, none⟩) h.lt).trans h.c2, (k.cell (p := ⟨b, off + 3, none⟩) h.lt).trans h.c3⟩
theorem RAt.keepK {w w' : World} {b off : Nat} {x : RumV} (h : RAt w b off x) {G : Nat → Prop} (k : Keeps G w w') (hg : G b) : RAt w' b off x :=
  ⟨Nat.lt_of_lt_of_le h.lt k.size, (k.cell (p := ⟨b, off, none⟩) h.lt hg).trans h.c0, (k.cell (p := ⟨b, off + 1, none⟩) h.lt hg).trans h.c1, (k.cell (p := ⟨b, off + 2, none⟩) h.lt hg).trans h.c2, (k.cell (p := ⟨b, off + 3, none⟩) h.lt hg).trans h.c3⟩
theorem CellRow.rum {w : World} {b off : Nat} {l : List RumV} (h : CellRow w (some ⟨b, off, none⟩) (cellsOf RumV.cells l)) {i : Nat} (hi : i < l.length) {x : RumV} (hx : l[i] = x) : RAt w b (off + i * 4) x := by
  subst hx
  refine ⟨?_, h.thing0 RumV.cells_len hi (by omega) rfl, h.thingj RumV.cells_len (j := 1) hi (by omega) rfl, h.thingj RumV.cells_len (j := 2) hi (by omega) rfl, h.thingj RumV.cells_len (j := 3) hi (by omega) rfl⟩
  have hlen := cellsOf_length RumV.cells_len l
  rcases h with h | ⟨b', off', e, hlt, _⟩
  · rw [h] at hlen; simp only [List.length_nil] at hlen; omega
  · simp only [Option.some.injEq, Addr.mk.injEq, and_true] at e
    rw [e.1]; exact hlt
set_option maxRecDepth 100000 in
theorem szRums_any (a : Option Addr) (cap : Nat) (n : Nat) (left : Int) (w : World) (h0 : 0 ≤ left) (h1 : left ≤ 1048576) (hl : n ≤ 9223372036854775807) :
    Calls Tryz.prog 101 #[.slice a n cap, .int .i64 left] w fun e w' => e = .returned (.int .i64 (leftOf left n)) ∧ w = w' := by
  have hw : IntKind.i64.wrap (left - (n : Int)) = left - (n : Int) := by rw [IntKind.wrap_i64]; omega
  by_cases hx : left < (n : Int)
  · have HE : Hid (leftOf left n = -1) := if_pos hx
    have hx' : left - (n : Int) < 0 := by omega
    go_enter Tryz.func101, Tryz.ntmps101
    go_wp2
    go_ret
    exact ⟨by rw [HE.out]; rfl, rfl⟩
  · have HE : Hid (leftOf left n = left - (n : Int)) := if_neg hx
    have hx' : ¬ left - (n : Int) < 0 := by omega
    go_enter Tryz.func101, Tryz.ntmps101
    go_wp2
    go_ret
    exact ⟨by rw [HE.out]; rfl, rfl⟩
def markROne (k : Nat) : RumV := ⟨k, (k + 1 : Nat), (k + 2 : Nat), (k + 3 : Nat)⟩
def markRL : Nat → Nat → List RumV
  | 0, _ => []
  | n + 1, k => markRL n k ++ [markROne (k + 4 * n)]
theorem markRL_length (n k : Nat) : (markRL n k).length = n := by
  induction n with
  | zero => rfl
  | succ n ih => simp [markRL, ih]
theorem markRL_at (n k i : Nat) (h : i < n) : (markRL n k)[i]'(by rw [markRL_length]; exact h) = markROne (k + 4 * i) := by
  induction n with
  | zero => omega
  | succ n ih =>
    simp only [markRL]
    by_cases e : i < n
    · rw [List.getElem_append_left (by rw [markRL_length]; exact e)]
      exact ih e
    · obtain rfl : i = n := by omega
      rw [List.getElem_append_right (by rw [markRL_length]; exact Nat.le_refl _)]
      simp [markRL_length]
theorem markR_set {l : List RumV} {q k : Nat} (hq : q < l.length) : (markRL q k ++ l.drop q).set q (markROne (k + 4 * q)) = markRL (q + 1) k ++ l.drop (q + 1) := by
  rw [List.set_append_right _ _ (by rw [markRL_length]; exact Nat.le_refl _), markRL_length, Nat.sub_self, List.drop_eq_getElem_cons hq, List.set_cons_zero, markRL, List.append_assoc]
  rfl
theorem cellsOf_setR {l : List RumV} {i : Nat} (hi : i < l.length) (x : RumV) : cellsOf RumV.cells (l.set i x) = ((((cellsOf RumV.cells l).set (i * 4) (.int .i64 x.node)).set (i * 4 + 1) (.int .i64 x.inc)).set (i * 4 + 2) (.int .i64 x.st)).set (i * 4 + 3) (.int .i64 x.sent) := by
  obtain ⟨a, y, b, rfl, ha⟩ : ∃ a y b, l = a ++ y :: b ∧ a.length = i := ⟨l.take i, l[i], l.drop (i + 1), by rw [← List.drop_eq_getElem_cons hi, List.take_append_drop], by rw [List.length_take]; omega⟩
  subst ha
  have hl : (cellsOf RumV.cells a).length = a.length * 4 := cellsOf_length RumV.cells_len a
  have e1 : cellsOf RumV.cells (a ++ y :: b) = cellsOf RumV.cells a ++ .int .i64 y.node :: .int .i64 y.inc :: .int .i64 y.st :: .int .i64 y.sent :: cellsOf RumV.cells b := by
    rw [cellsOf_append]; rfl
  rw [e1, set_four hl, List.set_append_right _ _ (Nat.le_refl _)]
  simp only [Nat.sub_self, List.set_cons_zero]
  rw [cellsOf_append]; rfl
set_option maxHeartbeats 1000000 in
set_option maxRecDepth 100000 in
theorem markR_some (lo b cap : Nat) (l : List RumV) (k : Nat) (w : World) (hl : l.length ≤ 1048576) (hk0 : 0 < k) (hk : k ≤ 100000000) (ho : OwnCells w lo (some ⟨b, 0, none⟩) (cellsOf RumV.cells l)) :
    Calls Tryz.prog 116 #[.slice (some ⟨b, 0, none⟩) l.length cap, .int .i64 k] w fun e w' => e = .returned (.int .i64 (k + 4 * l.length : Nat)) ∧ OwnCells w' lo (some ⟨b, 0, none⟩) (cellsOf RumV.cells (markRL l.length k)) ∧ Keeps (fun q => q ≠ b) w w' := by
  go_enter Tryz.func116, Tryz.ntmps116
  go_wp2
  go_loopw [5, 1] (fun i t wr => ∃ q : Nat, q ≤ l.length ∧ i = .int .i64 q ∧ t = .int .i64 (k + 4 * q : Nat) ∧ OwnCells wr lo (some ⟨b, 0, none⟩) (cellsOf RumV.cells (markRL q k ++ l.drop q)) ∧ Keeps (fun q => q ≠ b) w wr) (fun i _ _ => l.length - (intOf i).toNat)
  case atStart => exact ⟨0, Nat.zero_le _, rfl, rfl, by simpa [markRL] using ho, Keeps.refl _ _⟩
  case round =>
    obtain ⟨q, hq, rfl, rfl, hO, hK⟩ := hrel
    clear ho
    by_cases hx : q < l.length
    · have hTl : (cellsOf RumV.cells (markRL q k ++ l.drop q)).length = l.length * 4 := by
        rw [cellsOf_length RumV.cells_len, List.length_append, markRL_length, List.length_drop]; omega
      have HC := cellsOf_setR (l := markRL q k ++ l.drop q) (i := q) (by rw [List.length_append, markRL_length, List.length_drop]; omega) (markROne (k + 4 * q))
      rw [markR_set hx] at HC
      have HCH : Hid (_ = _) := HC
      clear HC
      obtain ⟨c0, f0⟩ := hO.at0 (n := q * 4) (by omega)
      obtain ⟨c1, f1⟩ := hO.at0 (n := q * 4 + 1) (by omega)
      obtain ⟨c2, f2⟩ := hO.at0 (n := q * 4 + 2) (by omega)
      obtain ⟨c3, f3⟩ := hO.at0 (n := q * 4 + 3) (by omega)
      obtain ⟨t0, ht0⟩ : ∃ t, (cellsOf RumV.cells (markRL q k ++ l.drop q))[q * 4]'(by omega) = t := ⟨_, rfl⟩
      obtain ⟨t1, ht1⟩ : ∃ t, (cellsOf RumV.cells (markRL q k ++ l.drop q))[q * 4 + 1]'(by omega) = t := ⟨_, rfl⟩
      obtain ⟨t2, ht2⟩ : ∃ t, (cellsOf RumV.cells (markRL q k ++ l.drop q))[q * 4 + 2]'(by omega) = t := ⟨_, rfl⟩
      obtain ⟨t3, ht3⟩ : ∃ t, (cellsOf RumV.cells (markRL q k ++ l.drop q))[q * 4 + 3]'(by omega) = t := ⟨_, rfl⟩
      rw [ht0] at c0
      rw [ht1] at c1
      rw [ht2] at c2
      rw [ht3] at c3
      clear ht0 ht1 ht2 ht3
      obtain ⟨K, hKe⟩ : ∃ K : Nat, k + 4 * q = K := ⟨_, rfl⟩
      have hK1 : K ≤ 200000000 := by omega
      have hK0 : 0 < K := by omega
      have hw1 : IntKind.i64.wrap ((K : Int) + 1) = (K : Int) + 1 := by rw [IntKind.wrap_i64]; omega
      have hw2 : IntKind.i64.wrap ((K : Int) + 1 + 1) = (K : Int) + 1 + 1 := by rw [IntKind.wrap_i64]; omega
      have hw3 : IntKind.i64.wrap ((K : Int) + 1 + 1 + 1) = (K : Int) + 1 + 1 + 1 := by rw [IntKind.wrap_i64]; omega
      have hw4 : IntKind.i64.wrap ((K : Int) + 1 + 1 + 1 + 1) = (K : Int) + 1 + 1 + 1 + 1 := by rw [IntKind.wrap_i64]; omega
      rw [hKe]
      have HKE : Hid (k + 4 * q = K) := hKe
      clear hKe
      have h3 := (((hO.put0 (n := q * 4) (.int .i64 (K : Int)) (by omega)).put0 (n := q * 4 + 1) (.int .i64 ((K : Int) + 1)) (by simp only [List.length_set]; omega)).put0 (n := q * 4 + 2) (.int .i64 ((K : Int) + 1 + 1)) (by simp only [List.length_set]; omega)).put0 (n := q * 4 + 3) (.int .i64 ((K : Int) + 1 + 1 + 1)) (by simp only [List.length_set]; omega)
      have K3 : Keeps (fun q => q ≠ b) w ((((wr.setCell ⟨b, q * 4, none⟩ (.int .i64 (K : Int))).setCell ⟨b, q * 4 + 1, none⟩ (.int .i64 ((K : Int) + 1))).setCell ⟨b, q * 4 + 2, none⟩ (.int .i64 ((K : Int) + 1 + 1))).setCell ⟨b, q * 4 + 3, none⟩ (.int .i64 ((K : Int) + 1 + 1 + 1))) := (((hK.setCell (fun h => h rfl) _).setCell (fun h => h rfl) _).setCell (fun h => h rfl) _).setCell (fun h => h rfl) _
      have HO5 : Hid (OwnCells ((((wr.setCell ⟨b, q * 4, none⟩ (.int .i64 (K : Int))).setCell ⟨b, q * 4 + 1, none⟩ (.int .i64 ((K : Int) + 1))).setCell ⟨b, q * 4 + 2, none⟩ (.int .i64 ((K : Int) + 1 + 1))).setCell ⟨b, q * 4 + 3, none⟩ (.int .i64 ((K : Int) + 1 + 1 + 1))) lo (some ⟨b, 0, none⟩) (cellsOf RumV.cells (markRL (q + 1) k ++ l.drop (q + 1)))) := by
        show OwnCells _ _ _ _
        have e := HCH.out
        rw [HKE.out] at e
        rw [e]
        exact h3
      have HK5 : Hid (Keeps (fun q => q ≠ b) w ((((wr.setCell ⟨b, q * 4, none⟩ (.int .i64 (K : Int))).setCell ⟨b, q * 4 + 1, none⟩ (.int .i64 ((K : Int) + 1))).setCell ⟨b, q * 4 + 2, none⟩ (.int .i64 ((K : Int) + 1 + 1))).setCell ⟨b, q * 4 + 3, none⟩ (.int .i64 ((K : Int) + 1 + 1 + 1)))) := K3
      have hxI : (q : Int) < (l.length : Int) := by omega
      clear hO hK h3 K3 HCH
      go_wp2
      go_roundw
      case rel => exact ⟨q + 1, by omega, by go_num, congrArg (Value.int .i64) (by have := HKE.out; omega), HO5.out, HK5.out⟩
      case measure => simp [intOf]; omega
    · obtain rfl : q = l.length := by omega
      rw [List.drop_length, List.append_nil] at hO
      go_wp2
      go_ret
      exact ⟨rfl, hO, hK⟩
set_option maxHeartbeats 1000000 in
set_option maxRecDepth 100000 in
theorem heldR_any (a : Option Addr) (n cap k : Nat) (w : World) (hl : n ≤ 1048576) (hk0 : 0 < k) (hk : k ≤ 100000000) (hrow : CellRow w a (cellsOf RumV.cells (markRL n k))) :
    Calls Tryz.prog 175 #[.slice a n cap, .int .i64 k] w fun e w' => e = .returned (.int .i64 (k + 4 * n : Nat)) ∧ Below w.heap.size w w' := by
  go_enter Tryz.func175, Tryz.ntmps175
  go_wp2
  go_loopw [5, 1] (fun i t wr => ∃ q : Nat, q ≤ n ∧ i = .int .i64 q ∧ t = .int .i64 (k + 4 * q : Nat) ∧ Below w.heap.size w wr) (fun i _ _ => n - (intOf i).toNat)
  case atStart => exact ⟨0, Nat.zero_le _, rfl, rfl, Below.refl _ _⟩
  case round =>
    obtain ⟨q, hq, rfl, rfl, hb⟩ := hrel
    by_cases hx : q < n
    · obtain ⟨b, off, rfl⟩ := hrow.addr (by rw [cellsOf_length RumV.cells_len, markRL_length]; omega)
      have dm := (hrow.keep hb).rum (i := q) (by rw [markRL_length]; exact hx) (markRL_at n k q hx)
      obtain ⟨K, hKe⟩ : ∃ K : Nat, k + 4 * q = K := ⟨_, rfl⟩
      have hK1 : K ≤ 200000000 := by omega
      have hK0 : 0 < K := by omega
      rw [hKe] at dm ⊢
      have HKE : Hid (k + 4 * q = K) := hKe
      clear hKe
      unfold markROne at dm
      obtain ⟨_, c0, c1, c2, c3⟩ := dm
      dsimp only at c0 c1 c2 c3
      rw [show ((K + 1 : Nat) : Int) = (K : Int) + 1 by omega] at c1
      rw [show ((K + 2 : Nat) : Int) = (K : Int) + 1 + 1 by omega] at c2
      rw [show ((K + 3 : Nat) : Int) = (K : Int) + 1 + 1 + 1 by omega] at c3
      have hw1 : IntKind.i64.wrap ((K : Int) + 1) = (K : Int) + 1 := by rw [IntKind.wrap_i64]; omega
      have hw2 : IntKind.i64.wrap ((K : Int) + 1 + 1) = (K : Int) + 1 + 1 := by rw [IntKind.wrap_i64]; omega
      have hw3 : IntKind.i64.wrap ((K : Int) + 1 + 1 + 1) = (K : Int) + 1 + 1 + 1 := by rw [IntKind.wrap_i64]; omega
      have hw4 : IntKind.i64.wrap ((K : Int) + 1 + 1 + 1 + 1) = (K : Int) + 1 + 1 + 1 + 1 := by rw [IntKind.wrap_i64]; omega
      have hxI : (q : Int) < (n : Int) := by omega
      go_wp2
      go_roundw
      case rel => exact ⟨q + 1, by omega, by go_num, congrArg (Value.int .i64) (by have := HKE.out; omega), hb⟩
      case measure => simp [intOf]; omega
    · obtain rfl : q = n := by omega
      go_wp2
      go_ret
      exact ⟨rfl, hb⟩
/-- A slice of rumors of one's own. -/
def OwnSlR (w : World) (base : Nat) (v : Value) (l : List RumV) : Prop := ∃ a cap, v = .slice a l.length cap ∧ OwnCells w base a (cellsOf RumV.cells l) ∧ (a = none ∨ ∃ g, a = some ⟨g, 0, none⟩)
theorem own_cellsR {w : World} {base : Nat} {v : Value} {l : List RumV} (h : w.ownsRow base 59 4 v l.length (cellsOf RumV.cells l)) : (v = .slice none 0 0 ∧ l = []) ∨ ∃ g cap, v = .slice (some ⟨g, 0, none⟩) l.length cap ∧ OwnCells w base (some ⟨g, 0, none⟩) (cellsOf RumV.cells l) := by
  have h' := h
  rcases h.2 with ⟨hv, hn⟩ | ⟨g, cap, cur, hv, hb, hg, hnc, hcm, hcs, ht⟩
  · exact .inl ⟨hv, List.eq_nil_of_length_eq_zero hn⟩
  · subst hv
    have hlen := cellsOf_length RumV.cells_len l
    refine .inr ⟨g, cap, rfl, .inr ⟨g, 0, rfl, hb, (h'.lt g rfl).2, fun i hi => ?_, fun i hi => h'.frozenAt _⟩⟩
    rw [Nat.zero_add, h'.cellAt i (by omega), List.getElem?_eq_getElem hi]
theorem own_slR {w : World} {base : Nat} {v : Value} {l : List RumV} (h : w.ownsRow base 59 4 v l.length (cellsOf RumV.cells l)) : OwnSlR w base v l := by
  rcases own_cellsR h with ⟨rfl, rfl⟩ | ⟨g, cap, rfl, ho⟩
  · exact ⟨none, 0, rfl, .inl rfl, .inl rfl⟩
  · exact ⟨_, cap, rfl, ho, .inr ⟨g, rfl⟩⟩
theorem OwnSlR.keep {w w' : World} {base : Nat} {v : Value} {l : List RumV} (h : OwnSlR w base v l) (hb : Below w.heap.size w w') : OwnSlR w' base v l := by
  obtain ⟨a, cap, e, ho, hz⟩ := h
  exact ⟨a, cap, e, ho.keep hb, hz⟩
set_option maxRecDepth 100000 in
theorem markR_cap (a : Option Addr) (k cap : Nat) (w : World) : Calls Tryz.prog 116 #[.slice a 0 cap, .int .i64 k] w fun e w' => e = .returned (.int .i64 k) ∧ w = w' := by
  go_enter Tryz.func116, Tryz.ntmps116
  go_wp2
  refine wp_loop_rounds 1 ?_
  rw [rounds_succ]
  go_wp2
  go_ret
  exact ⟨rfl, rfl⟩
theorem markR_any (lo : Nat) (v : Value) (l : List RumV) (k : Nat) (w : World) (hl : l.length ≤ 1048576) (hk0 : 0 < k) (hk : k ≤ 100000000) (ho : OwnSlR w lo v l) :
    Calls Tryz.prog 116 #[v, .int .i64 k] w fun e w' => e = .returned (.int .i64 (k + 4 * l.length : Nat)) ∧ OwnSlR w' lo v (markRL l.length k) ∧ Keeps (blkOf v l.length) w w' := by
  obtain ⟨a, cap, rfl, o, hz⟩ := ho
  by_cases hl0 : l = []
  · subst hl0
    refine (markR_cap a k cap w).mono ?_
    rintro e w' ⟨rfl, rfl⟩
    exact ⟨rfl, ⟨a, cap, rfl, .inl rfl, hz⟩, Keeps.refl _ _⟩
  · have hn : l.length ≠ 0 := fun h => hl0 (List.eq_nil_of_length_eq_zero h)
    rcases hz with rfl | ⟨g, rfl⟩
    · exfalso
      rcases o with h | ⟨_, _, e, _⟩
      · have := cellsOf_length RumV.cells_len l; rw [h] at this; simp at this; omega
      · cases e
    · refine (markR_some lo g cap l k w hl hk0 hk o).mono ?_
      rintro e w' ⟨rfl, h1, h2⟩
      exact ⟨rfl, ⟨_, cap, by rw [markRL_length], h1, .inr ⟨g, rfl⟩⟩, h2.mono (fun q _ hq => fun e => hq.elim hn (fun h => h (by subst e; rfl)))⟩
theorem markR_i (lo : Nat) (v : Value) (l : List RumV) (k : Nat) (w : World) (hl : l.length ≤ 1048576) (hk0 : 0 < k) (hk : k ≤ 100000000) (ho : OwnSlR w lo v l) :
    Calls Tryz.prog 116 #[v, .int .i64 1] w fun e w' => e = .returned (.int .i64 (1 + 4 * l.length : Nat)) ∧ OwnSlR w' lo v (markRL l.length 1) ∧ Keeps (blkOf v l.length) w w' := markR_any lo v l 1 w hl (by omega) (by omega) ho
theorem OwnSlR.keepB {w w' : World} {base : Nat} {v : Value} {l : List RumV} (h : OwnSlR w base v l) {u : Value} {n : Nat} (k : Keeps (blkOf u n) w w') (hne : ∀ g, v.ownBlock = some g → blkOf u n g) : OwnSlR w' base v l := by
  obtain ⟨a, cap, rfl, ho, hz⟩ := h
  refine ⟨a, cap, rfl, ?_, hz⟩
  rcases ho with h0 | ⟨q, off, rfl, hlo, hlt, hc, hf⟩
  · exact .inl h0
  · have hq := hne q rfl
    exact .inr ⟨q, off, rfl, hlo, Nat.lt_of_lt_of_le hlt k.size, fun i hi => (k.cell (p := ⟨q, off + i, none⟩) hlt hq).trans (hc i hi), fun i hi => (k.frozen (p := ⟨q, off + i, none⟩) hlt hq).trans (hf i hi)⟩
/-- A slice that a copy has just made. -/
theorem own_ltR {w : World} {b : Nat} {l : List RumV} (h : OwnCells w b (some ⟨b, 0, none⟩) (cellsOf RumV.cells l)) : b < w.heap.size ∨ l.length = 0 := by
  rcases h with h | ⟨q, off, e, hlo, hlt, _⟩
  · right
    have := cellsOf_length RumV.cells_len l; rw [h] at this; simp at this
    omega
  · left; have : b = q := by simpa using congrArg (Option.map Addr.block) e
    omega
end Go.Proofs.YtmdcankfjmkkeaaGreat
