/- The contracts of the exact laws' marks and holds of facts. -/
import Derived.Test.YtmdcankfjmkkeaaGreatG3
import Derived.Test.YtmdcankfjmkkeaaGreatG4
namespace Go.Proofs.YtmdcankfjmkkeaaGreat
open Go Go.RowKit
set_option linter.unusedVariables false

def markOne (k : Nat) : FactV := ⟨k, (k + 1 : Nat), (k + 2 : Nat)⟩
def markL : Nat → Nat → List FactV
  | 0, _ => []
  | n + 1, k => markL n k ++ [markOne (k + 3 * n)]
theorem markL_length (n k : Nat) : (markL n k).length = n := by
  induction n with
  | zero => rfl
  | succ n ih => simp [markL, ih]
theorem markL_at (n k i : Nat) (h : i < n) : (markL n k)[i]'(by rw [markL_length]; exact h) = markOne (k + 3 * i) := by
  induction n with
  | zero => omega
  | succ n ih =>
    simp only [markL]
    by_cases e : i < n
    · rw [List.getElem_append_left (by rw [markL_length]; exact e)]
      exact ih e
    · obtain rfl : i = n := by omega
      rw [List.getElem_append_right (by rw [markL_length]; exact Nat.le_refl _)]
      simp [markL_length]
theorem mark_set {l : List FactV} {q k : Nat} (hq : q < l.length) : (markL q k ++ l.drop q).set q (markOne (k + 3 * q)) = markL (q + 1) k ++ l.drop (q + 1) := by
  rw [List.set_append_right _ _ (by rw [markL_length]; exact Nat.le_refl _), markL_length, Nat.sub_self, List.drop_eq_getElem_cons hq, List.set_cons_zero, markL, List.append_assoc]
  rfl
theorem cellsOf_set {l : List FactV} {i : Nat} (hi : i < l.length) (x : FactV) : cellsOf FactV.cells (l.set i x) = (((cellsOf FactV.cells l).set (i * 3) (.int .i64 x.node)).set (i * 3 + 1) (.int .i64 x.inc)).set (i * 3 + 2) (.int .i64 x.st) := by
  obtain ⟨a, y, b, rfl, ha⟩ : ∃ a y b, l = a ++ y :: b ∧ a.length = i := ⟨l.take i, l[i], l.drop (i + 1), by rw [← List.drop_eq_getElem_cons hi, List.take_append_drop], by rw [List.length_take]; omega⟩
  subst ha
  have hl : (cellsOf FactV.cells a).length = a.length * 3 := cellsOf_length FactV.cells_len a
  have e1 : cellsOf FactV.cells (a ++ y :: b) = cellsOf FactV.cells a ++ .int .i64 y.node :: .int .i64 y.inc :: .int .i64 y.st :: cellsOf FactV.cells b := by
    rw [cellsOf_append]; rfl
  rw [e1, set_three hl, List.set_append_right _ _ (Nat.le_refl _)]
  simp only [Nat.sub_self, List.set_cons_zero]
  rw [cellsOf_append]; rfl
set_option maxHeartbeats 1000000 in
set_option maxRecDepth 100000 in
theorem markF_some (lo b cap : Nat) (l : List FactV) (k : Nat) (w : World) (hl : l.length ≤ 1048576) (hk0 : 0 < k) (hk : k ≤ 100000000) (ho : OwnCells w lo (some ⟨b, 0, none⟩) (cellsOf FactV.cells l)) :
    Calls Tryz.prog 115 #[.slice (some ⟨b, 0, none⟩) l.length cap, .int .i64 k] w fun e w' => e = .returned (.int .i64 (k + 3 * l.length : Nat)) ∧ OwnCells w' lo (some ⟨b, 0, none⟩) (cellsOf FactV.cells (markL l.length k)) ∧ Keeps (fun q => q ≠ b) w w' := by
  go_enter Tryz.func115, Tryz.ntmps115
  go_wp2
  go_loopw [5, 1] (fun i t wr => ∃ q : Nat, q ≤ l.length ∧ i = .int .i64 q ∧ t = .int .i64 (k + 3 * q : Nat) ∧ OwnCells wr lo (some ⟨b, 0, none⟩) (cellsOf FactV.cells (markL q k ++ l.drop q)) ∧ Keeps (fun q => q ≠ b) w wr) (fun i _ _ => l.length - (intOf i).toNat)
  case atStart => exact ⟨0, Nat.zero_le _, rfl, rfl, by simpa [markL] using ho, Keeps.refl _ _⟩
  case round =>
    obtain ⟨q, hq, rfl, rfl, hO, hK⟩ := hrel
    clear ho
    by_cases hx : q < l.length
    · have hTl : (cellsOf FactV.cells (markL q k ++ l.drop q)).length = l.length * 3 := by
        rw [cellsOf_length FactV.cells_len, List.length_append, markL_length, List.length_drop]; omega
      have HC := cellsOf_set (l := markL q k ++ l.drop q) (i := q) (by rw [List.length_append, markL_length, List.length_drop]; omega) (markOne (k + 3 * q))
      rw [mark_set hx] at HC
      have HCH : Hid (_ = _) := HC
      clear HC
      obtain ⟨c0, f0⟩ := hO.at0 (n := q * 3) (by omega)
      obtain ⟨c1, f1⟩ := hO.at0 (n := q * 3 + 1) (by omega)
      obtain ⟨c2, f2⟩ := hO.at0 (n := q * 3 + 2) (by omega)
      obtain ⟨t0, ht0⟩ : ∃ t, (cellsOf FactV.cells (markL q k ++ l.drop q))[q * 3]'(by omega) = t := ⟨_, rfl⟩
      obtain ⟨t1, ht1⟩ : ∃ t, (cellsOf FactV.cells (markL q k ++ l.drop q))[q * 3 + 1]'(by omega) = t := ⟨_, rfl⟩
      obtain ⟨t2, ht2⟩ : ∃ t, (cellsOf FactV.cells (markL q k ++ l.drop q))[q * 3 + 2]'(by omega) = t := ⟨_, rfl⟩
      rw [ht0] at c0
      rw [ht1] at c1
      rw [ht2] at c2
      clear ht0 ht1 ht2
      obtain ⟨K, hKe⟩ : ∃ K : Nat, k + 3 * q = K := ⟨_, rfl⟩
      have hK1 : K ≤ 200000000 := by omega
      have hK0 : 0 < K := by omega
      have hw1 : IntKind.i64.wrap ((K : Int) + 1) = (K : Int) + 1 := by rw [IntKind.wrap_i64]; omega
      have hw2 : IntKind.i64.wrap ((K : Int) + 1 + 1) = (K : Int) + 1 + 1 := by rw [IntKind.wrap_i64]; omega
      have hw3 : IntKind.i64.wrap ((K : Int) + 1 + 1 + 1) = (K : Int) + 1 + 1 + 1 := by rw [IntKind.wrap_i64]; omega
      rw [hKe]
      have HKE : Hid (k + 3 * q = K) := hKe
      clear hKe
      have h3 := ((hO.put0 (n := q * 3) (.int .i64 (K : Int)) (by omega)).put0 (n := q * 3 + 1) (.int .i64 ((K : Int) + 1)) (by simp only [List.length_set]; omega)).put0 (n := q * 3 + 2) (.int .i64 ((K : Int) + 1 + 1)) (by simp only [List.length_set]; omega)
      have K3 : Keeps (fun q => q ≠ b) w (((wr.setCell ⟨b, q * 3, none⟩ (.int .i64 (K : Int))).setCell ⟨b, q * 3 + 1, none⟩ (.int .i64 ((K : Int) + 1))).setCell ⟨b, q * 3 + 2, none⟩ (.int .i64 ((K : Int) + 1 + 1))) := ((hK.setCell (fun h => h rfl) _).setCell (fun h => h rfl) _).setCell (fun h => h rfl) _
      have HO5 : Hid (OwnCells (((wr.setCell ⟨b, q * 3, none⟩ (.int .i64 (K : Int))).setCell ⟨b, q * 3 + 1, none⟩ (.int .i64 ((K : Int) + 1))).setCell ⟨b, q * 3 + 2, none⟩ (.int .i64 ((K : Int) + 1 + 1))) lo (some ⟨b, 0, none⟩) (cellsOf FactV.cells (markL (q + 1) k ++ l.drop (q + 1)))) := by
        show OwnCells _ _ _ _
        have e := HCH.out
        rw [HKE.out] at e
        rw [e]
        exact h3
      have HK5 : Hid (Keeps (fun q => q ≠ b) w (((wr.setCell ⟨b, q * 3, none⟩ (.int .i64 (K : Int))).setCell ⟨b, q * 3 + 1, none⟩ (.int .i64 ((K : Int) + 1))).setCell ⟨b, q * 3 + 2, none⟩ (.int .i64 ((K : Int) + 1 + 1)))) := K3
      have hxI : (q : Int) < (l.length : Int) := by omega
      clear hO hK h3 K3 HCH
      go_wp2
      go_roundw
      case rel => exact ⟨q + 1, by omega, by go_num, congrArg (Value.int .i64) (by have := HKE.out; omega), HO5.out, HK5.out⟩
      case measure => simp [intOf]; omega
    · obtain rfl : q = l.length := by omega
      rw [List.drop_length, List.append_nil] at hO
      go_wp2
      go_ret
      exact ⟨rfl, hO, hK⟩
set_option maxHeartbeats 1000000 in
set_option maxRecDepth 100000 in
theorem heldF_any (a : Option Addr) (n cap k : Nat) (w : World) (hl : n ≤ 1048576) (hk0 : 0 < k) (hk : k ≤ 100000000) (hrow : CellRow w a (cellsOf FactV.cells (markL n k))) :
    Calls Tryz.prog 174 #[.slice a n cap, .int .i64 k] w fun e w' => e = .returned (.int .i64 (k + 3 * n : Nat)) ∧ Below w.heap.size w w' := by
  go_enter Tryz.func174, Tryz.ntmps174
  go_wp2
  go_loopw [5, 1] (fun i t wr => ∃ q : Nat, q ≤ n ∧ i = .int .i64 q ∧ t = .int .i64 (k + 3 * q : Nat) ∧ Below w.heap.size w wr) (fun i _ _ => n - (intOf i).toNat)
  case atStart => exact ⟨0, Nat.zero_le _, rfl, rfl, Below.refl _ _⟩
  case round =>
    obtain ⟨q, hq, rfl, rfl, hb⟩ := hrel
    by_cases hx : q < n
    · obtain ⟨b, off, rfl⟩ := hrow.addr (by rw [cellsOf_length FactV.cells_len, markL_length]; omega)
      have dm := (hrow.keep hb).fact (i := q) (by rw [markL_length]; exact hx) (markL_at n k q hx)
      obtain ⟨K, hKe⟩ : ∃ K : Nat, k + 3 * q = K := ⟨_, rfl⟩
      have hK1 : K ≤ 200000000 := by omega
      have hK0 : 0 < K := by omega
      rw [hKe] at dm ⊢
      have HKE : Hid (k + 3 * q = K) := hKe
      clear hKe
      unfold markOne at dm
      obtain ⟨_, c0, c1, c2⟩ := dm
      dsimp only at c0 c1 c2
      rw [show ((K + 1 : Nat) : Int) = (K : Int) + 1 by omega] at c1
      rw [show ((K + 2 : Nat) : Int) = (K : Int) + 1 + 1 by omega] at c2
      have hw1 : IntKind.i64.wrap ((K : Int) + 1) = (K : Int) + 1 := by rw [IntKind.wrap_i64]; omega
      have hw2 : IntKind.i64.wrap ((K : Int) + 1 + 1) = (K : Int) + 1 + 1 := by rw [IntKind.wrap_i64]; omega
      have hw3 : IntKind.i64.wrap ((K : Int) + 1 + 1 + 1) = (K : Int) + 1 + 1 + 1 := by rw [IntKind.wrap_i64]; omega
      have hxI : (q : Int) < (n : Int) := by omega
      go_wp2
      go_roundw
      case rel => exact ⟨q + 1, by omega, by go_num, congrArg (Value.int .i64) (by have := HKE.out; omega), hb⟩
      case measure => simp [intOf]; omega
    · obtain rfl : q = n := by omega
      go_wp2
      go_ret
      exact ⟨rfl, hb⟩
/-- A slice of facts of one's own. -/
def OwnSl (w : World) (base : Nat) (v : Value) (l : List FactV) : Prop := ∃ a cap, v = .slice a l.length cap ∧ OwnCells w base a (cellsOf FactV.cells l) ∧ (a = none ∨ ∃ g, a = some ⟨g, 0, none⟩)
theorem own_cells {w : World} {base : Nat} {v : Value} {l : List FactV} (h : w.ownsRow base 54 3 v l.length (cellsOf FactV.cells l)) : (v = .slice none 0 0 ∧ l = []) ∨ ∃ g cap, v = .slice (some ⟨g, 0, none⟩) l.length cap ∧ OwnCells w base (some ⟨g, 0, none⟩) (cellsOf FactV.cells l) := by
  have h' := h
  rcases h.2 with ⟨hv, hn⟩ | ⟨g, cap, cur, hv, hb, hg, hnc, hcm, hcs, ht⟩
  · exact .inl ⟨hv, List.eq_nil_of_length_eq_zero hn⟩
  · subst hv
    have hlen := cellsOf_length FactV.cells_len l
    refine .inr ⟨g, cap, rfl, .inr ⟨g, 0, rfl, hb, (h'.lt g rfl).2, fun i hi => ?_, fun i hi => h'.frozenAt _⟩⟩
    rw [Nat.zero_add, h'.cellAt i (by omega), List.getElem?_eq_getElem hi]
theorem own_sl {w : World} {base : Nat} {v : Value} {l : List FactV} (h : w.ownsRow base 54 3 v l.length (cellsOf FactV.cells l)) : OwnSl w base v l := by
  rcases own_cells h with ⟨rfl, rfl⟩ | ⟨g, cap, rfl, ho⟩
  · exact ⟨none, 0, rfl, .inl rfl, .inl rfl⟩
  · exact ⟨_, cap, rfl, ho, .inr ⟨g, rfl⟩⟩
theorem OwnSl.keep {w w' : World} {base : Nat} {v : Value} {l : List FactV} (h : OwnSl w base v l) (hb : Below w.heap.size w w') : OwnSl w' base v l := by
  obtain ⟨a, cap, e, ho, hz⟩ := h
  exact ⟨a, cap, e, ho.keep hb, hz⟩
set_option maxRecDepth 100000 in
theorem markF_cap (a : Option Addr) (k cap : Nat) (w : World) : Calls Tryz.prog 115 #[.slice a 0 cap, .int .i64 k] w fun e w' => e = .returned (.int .i64 k) ∧ w = w' := by
  go_enter Tryz.func115, Tryz.ntmps115
  go_wp2
  refine wp_loop_rounds 1 ?_
  rw [rounds_succ]
  go_wp2
  go_ret
  exact ⟨rfl, rfl⟩
/-- What is turned by marks. -/
def blkOf (v : Value) (n q : Nat) : Prop := n = 0 ∨ v.ownBlock ≠ some q
theorem markF_any (lo : Nat) (v : Value) (l : List FactV) (k : Nat) (w : World) (hl : l.length ≤ 1048576) (hk0 : 0 < k) (hk : k ≤ 100000000) (ho : OwnSl w lo v l) :
    Calls Tryz.prog 115 #[v, .int .i64 k] w fun e w' => e = .returned (.int .i64 (k + 3 * l.length : Nat)) ∧ OwnSl w' lo v (markL l.length k) ∧ Keeps (blkOf v l.length) w w' := by
  obtain ⟨a, cap, rfl, o, hz⟩ := ho
  by_cases hl0 : l = []
  · subst hl0
    refine (markF_cap a k cap w).mono ?_
    rintro e w' ⟨rfl, rfl⟩
    exact ⟨rfl, ⟨a, cap, rfl, .inl rfl, hz⟩, Keeps.refl _ _⟩
  · have hn : l.length ≠ 0 := fun h => hl0 (List.eq_nil_of_length_eq_zero h)
    rcases hz with rfl | ⟨g, rfl⟩
    · exfalso
      rcases o with h | ⟨_, _, e, _⟩
      · have := cellsOf_length FactV.cells_len l; rw [h] at this; simp at this; omega
      · cases e
    · refine (markF_some lo g cap l k w hl hk0 hk o).mono ?_
      rintro e w' ⟨rfl, h1, h2⟩
      exact ⟨rfl, ⟨_, cap, by rw [markL_length], h1, .inr ⟨g, rfl⟩⟩, h2.mono (fun q _ hq => fun e => hq.elim hn (fun h => h (by subst e; rfl)))⟩
theorem markF_i (lo : Nat) (v : Value) (l : List FactV) (k : Nat) (w : World) (hl : l.length ≤ 1048576) (hk0 : 0 < k) (hk : k ≤ 100000000) (ho : OwnSl w lo v l) :
    Calls Tryz.prog 115 #[v, .int .i64 1] w fun e w' => e = .returned (.int .i64 (1 + 3 * l.length : Nat)) ∧ OwnSl w' lo v (markL l.length 1) ∧ Keeps (blkOf v l.length) w w' := markF_any lo v l 1 w hl (by omega) (by omega) ho
theorem OwnSl.keepB {w w' : World} {base : Nat} {v : Value} {l : List FactV} (h : OwnSl w base v l) {u : Value} {n : Nat} (k : Keeps (blkOf u n) w w') (hne : ∀ g, v.ownBlock = some g → blkOf u n g) : OwnSl w' base v l := by
  obtain ⟨a, cap, rfl, ho, hz⟩ := h
  refine ⟨a, cap, rfl, ?_, hz⟩
  rcases ho with h0 | ⟨q, off, rfl, hlo, hlt, hc, hf⟩
  · exact .inl h0
  · have hq := hne q rfl
    exact .inr ⟨q, off, rfl, hlo, Nat.lt_of_lt_of_le hlt k.size, fun i hi => (k.cell (p := ⟨q, off + i, none⟩) hlt hq).trans (hc i hi), fun i hi => (k.frozen (p := ⟨q, off + i, none⟩) hlt hq).trans (hf i hi)⟩
/-- A slice that a copy has just made. -/
theorem own_lt {w : World} {b : Nat} {l : List FactV} (h : OwnCells w b (some ⟨b, 0, none⟩) (cellsOf FactV.cells l)) : b < w.heap.size ∨ l.length = 0 := by
  rcases h with h | ⟨q, off, e, hlo, hlt, _⟩
  · right
    have := cellsOf_length FactV.cells_len l; rw [h] at this; simp at this
    omega
  · left; have : b = q := by simpa using congrArg (Option.map Addr.block) e
    omega
theorem blk_new (b n c : Nat) : ∀ g, g ≠ b ∨ n = 0 → blkOf (.slice (some ⟨b, 0, none⟩) n c) n g := fun g hg => by
  rcases hg with hg | hg
  · right
    intro e
    have e2 : b = g := by simpa [Value.ownBlock] using e
    omega
  · exact .inl hg
end Go.Proofs.YtmdcankfjmkkeaaGreat
