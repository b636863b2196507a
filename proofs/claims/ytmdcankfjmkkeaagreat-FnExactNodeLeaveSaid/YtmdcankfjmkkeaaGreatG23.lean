/- The contracts of the exact laws' marks and holds of doubts. -/
import Derived.Test.YtmdcankfjmkkeaaGreatMarkF
import Derived.Test.YtmdcankfjmkkeaaGreatG3
import Derived.OpenShut
import Derived.Deep.Slices
import Derived.Lib.SmallJoins
import Derived.Test.YtmdcankfjmkkeaaGreatRumSpec
import Derived.Test.YtmdcankfjmkkeaaGreatG18
import Derived.Test.YtmdcankfjmkkeaaGreatG10
import Derived.Test.YtmdcankfjmkkeaaGreatG4
namespace Go.Proofs.YtmdcankfjmkkeaaGreat
open Go Go.RowKit
set_option linter.unusedVariables false

set_option maxHeartbeats 1000000 in
set_option maxRecDepth 100000 in
theorem markDb_some (lo b cap : Nat) (l : List FactV) (k : Nat) (w : World) (hl : l.length ≤ 1048576) (hk0 : 0 < k) (hk : k ≤ 100000000) (ho : OwnCells w lo (some ⟨b, 0, none⟩) (cellsOf FactV.cells l)) :
    Calls Tryz.prog 118 #[.slice (some ⟨b, 0, none⟩) l.length cap, .int .i64 k] w fun e w' => e = .returned (.int .i64 (k + 3 * l.length : Nat)) ∧ OwnCells w' lo (some ⟨b, 0, none⟩) (cellsOf FactV.cells (markL l.length k)) ∧ Keeps (fun q => q ≠ b) w w' := by
  go_enter Tryz.func118, Tryz.ntmps118
  go_wp2
  go_loopw [5, 1] (fun i t wr => ∃ q : Nat, q ≤ l.length ∧ i = .int .i64 q ∧ t = .int .i64 (k + 3 * q : Nat) ∧ OwnCells wr lo (some ⟨b, 0, none⟩) (cellsOf FactV.cells (markL q k ++ l.drop q)) ∧ Keeps (fun q => q ≠ b) w wr) (fun i _ _ => l.length - (intOf i).toNat)
  case atStart => exact ⟨0, Nat.zero_le _, rfl, rfl, by simpa [markL] using ho, Keeps.refl _ _⟩
  case round =>
    obtain ⟨q, hq, rfl, rfl, hO, hK⟩ := hrel
    clear ho
    by_cases hx : q < l.length
    · have hTl : (cellsOf FactV.cells (markL q k ++ l.drop q)).length = l.length * 3 := by
        rw [cellsOf_length FactV.cells_len, List.length_append, markL_length, List.length_drop]; omega
      have HC := cellsOf_set (l := markL q k ++ l.drop q) (i := q) (by rw [List.length_append, markL_length, List.length_drop]; omega) (markOne (k + 3 * q))
      rw [mark_set hx] at HC
      have HCH : Hid (_ = _) := HC
      clear HC
      obtain ⟨c0, f0⟩ := hO.at0 (n := q * 3) (by omega)
      obtain ⟨c1, f1⟩ := hO.at0 (n := q * 3 + 1) (by omega)
      obtain ⟨c2, f2⟩ := hO.at0 (n := q * 3 + 2) (by omega)
      obtain ⟨t0, ht0⟩ : ∃ t, (cellsOf FactV.cells (markL q k ++ l.drop q))[q * 3]'(by omega) = t := ⟨_, rfl⟩
      obtain ⟨t1, ht1⟩ : ∃ t, (cellsOf FactV.cells (markL q k ++ l.drop q))[q * 3 + 1]'(by omega) = t := ⟨_, rfl⟩
      obtain ⟨t2, ht2⟩ : ∃ t, (cellsOf FactV.cells (markL q k ++ l.drop q))[q * 3 + 2]'(by omega) = t := ⟨_, rfl⟩
      rw [ht0] at c0
      rw [ht1] at c1
      rw [ht2] at c2
      clear ht0 ht1 ht2
      obtain ⟨K, hKe⟩ : ∃ K : Nat, k + 3 * q = K := ⟨_, rfl⟩
      have hK1 : K ≤ 200000000 := by omega
      have hK0 : 0 < K := by omega
      have hw1 : IntKind.i64.wrap ((K : Int) + 1) = (K : Int) + 1 := by rw [IntKind.wrap_i64]; omega
      have hw2 : IntKind.i64.wrap ((K : Int) + 1 + 1) = (K : Int) + 1 + 1 := by rw [IntKind.wrap_i64]; omega
      have hw3 : IntKind.i64.wrap ((K : Int) + 1 + 1 + 1) = (K : Int) + 1 + 1 + 1 := by rw [IntKind.wrap_i64]; omega
      rw [hKe]
      have HKE : Hid (k + 3 * q = K) := hKe
      clear hKe
      have h3 := ((hO.put0 (n := q * 3) (.int .i64 (K : Int)) (by omega)).put0 (n := q * 3 + 1) (.int .i64 ((K : Int) + 1)) (by simp only [List.length_set]; omega)).put0 (n := q * 3 + 2) (.int .i64 ((K : Int) + 1 + 1)) (by simp only [List.length_set]; omega)
      have K3 : Keeps (fun q => q ≠ b) w (((wr.setCell ⟨b, q * 3, none⟩ (.int .i64 (K : Int))).setCell ⟨b, q * 3 + 1, none⟩ (.int .i64 ((K : Int) + 1))).setCell ⟨b, q * 3 + 2, none⟩ (.int .i64 ((K : Int) + 1 + 1))) := ((hK.setCell (fun h => h rfl) _).setCell (fun h => h rfl) _).setCell (fun h => h rfl) _
      have HO5 : Hid (OwnCells (((wr.setCell ⟨b, q * 3, none⟩ (.int .i64 (K : Int))).setCell ⟨b, q * 3 + 1, none⟩ (.int .i64 ((K : Int) + 1))).setCell ⟨b, q * 3 + 2, none⟩ (.int .i64 ((K : Int) + 1 + 1))) lo (some ⟨b, 0, none⟩) (cellsOf FactV.cells (markL (q + 1) k ++ l.drop (q + 1)))) := by
        show OwnCells _ _ _ _
        have e := HCH.out
        rw [HKE.out] at e
        rw [e]
        exact h3
      have HK5 : Hid (Keeps (fun q => q ≠ b) w (((wr.setCell ⟨b, q * 3, none⟩ (.int .i64 (K : Int))).setCell ⟨b, q * 3 + 1, none⟩ (.int .i64 ((K : Int) + 1))).setCell ⟨b, q * 3 + 2, none⟩ (.int .i64 ((K : Int) + 1 + 1)))) := K3
      have hxI : (q : Int) < (l.length : Int) := by omega
      clear hO hK h3 K3 HCH
      go_wp2
      go_roundw
      case rel => exact ⟨q + 1, by omega, by go_num, congrArg (Value.int .i64) (by have := HKE.out; omega), HO5.out, HK5.out⟩
      case measure => simp [intOf]; omega
    · obtain rfl : q = l.length := by omega
      rw [List.drop_length, List.append_nil] at hO
      go_wp2
      go_ret
      exact ⟨rfl, hO, hK⟩
set_option maxHeartbeats 1000000 in
set_option maxRecDepth 100000 in
theorem heldDb_any (a : Option Addr) (n cap k : Nat) (w : World) (hl : n ≤ 1048576) (hk0 : 0 < k) (hk : k ≤ 100000000) (hrow : CellRow w a (cellsOf FactV.cells (markL n k))) :
    Calls Tryz.prog 177 #[.slice a n cap, .int .i64 k] w fun e w' => e = .returned (.int .i64 (k + 3 * n : Nat)) ∧ Below w.heap.size w w' := by
  go_enter Tryz.func177, Tryz.ntmps177
  go_wp2
  go_loopw [5, 1] (fun i t wr => ∃ q : Nat, q ≤ n ∧ i = .int .i64 q ∧ t = .int .i64 (k + 3 * q : Nat) ∧ Below w.heap.size w wr) (fun i _ _ => n - (intOf i).toNat)
  case atStart => exact ⟨0, Nat.zero_le _, rfl, rfl, Below.refl _ _⟩
  case round =>
    obtain ⟨q, hq, rfl, rfl, hb⟩ := hrel
    by_cases hx : q < n
    · obtain ⟨b, off, rfl⟩ := hrow.addr (by rw [cellsOf_length FactV.cells_len, markL_length]; omega)
      have dm := (hrow.keep hb).fact (i := q) (by rw [markL_length]; exact hx) (markL_at n k q hx)
      obtain ⟨K, hKe⟩ : ∃ K : Nat, k + 3 * q = K := ⟨_, rfl⟩
      have hK1 : K ≤ 200000000 := by omega
      have hK0 : 0 < K := by omega
      rw [hKe] at dm ⊢
      have HKE : Hid (k + 3 * q = K) := hKe
      clear hKe
      unfold markOne at dm
      obtain ⟨_, c0, c1, c2⟩ := dm
      dsimp only at c0 c1 c2
      rw [show ((K + 1 : Nat) : Int) = (K : Int) + 1 by omega] at c1
      rw [show ((K + 2 : Nat) : Int) = (K : Int) + 1 + 1 by omega] at c2
      have hw1 : IntKind.i64.wrap ((K : Int) + 1) = (K : Int) + 1 := by rw [IntKind.wrap_i64]; omega
      have hw2 : IntKind.i64.wrap ((K : Int) + 1 + 1) = (K : Int) + 1 + 1 := by rw [IntKind.wrap_i64]; omega
      have hw3 : IntKind.i64.wrap ((K : Int) + 1 + 1 + 1) = (K : Int) + 1 + 1 + 1 := by rw [IntKind.wrap_i64]; omega
      have hxI : (q : Int) < (n : Int) := by omega
      go_wp2
      go_roundw
      case rel => exact ⟨q + 1, by omega, by go_num, congrArg (Value.int .i64) (by have := HKE.out; omega), hb⟩
      case measure => simp [intOf]; omega
    · obtain rfl : q = n := by omega
      go_wp2
      go_ret
      exact ⟨rfl, hb⟩
theorem own_cellsDb {w : World} {base : Nat} {v : Value} {l : List FactV} (h : w.ownsRow base 112 3 v l.length (cellsOf FactV.cells l)) : (v = .slice none 0 0 ∧ l = []) ∨ ∃ g cap, v = .slice (some ⟨g, 0, none⟩) l.length cap ∧ OwnCells w base (some ⟨g, 0, none⟩) (cellsOf FactV.cells l) := by
  have h' := h
  rcases h.2 with ⟨hv, hn⟩ | ⟨g, cap, cur, hv, hb, hg, hnc, hcm, hcs, ht⟩
  · exact .inl ⟨hv, List.eq_nil_of_length_eq_zero hn⟩
  · subst hv
    have hlen := cellsOf_length FactV.cells_len l
    refine .inr ⟨g, cap, rfl, .inr ⟨g, 0, rfl, hb, (h'.lt g rfl).2, fun i hi => ?_, fun i hi => h'.frozenAt _⟩⟩
    rw [Nat.zero_add, h'.cellAt i (by omega), List.getElem?_eq_getElem hi]
theorem own_slDb {w : World} {base : Nat} {v : Value} {l : List FactV} (h : w.ownsRow base 112 3 v l.length (cellsOf FactV.cells l)) : OwnSl w base v l := by
  rcases own_cellsDb h with ⟨rfl, rfl⟩ | ⟨g, cap, rfl, ho⟩
  · exact ⟨none, 0, rfl, .inl rfl, .inl rfl⟩
  · exact ⟨_, cap, rfl, ho, .inr ⟨g, rfl⟩⟩
set_option maxRecDepth 100000 in
theorem markDb_cap (a : Option Addr) (k cap : Nat) (w : World) : Calls Tryz.prog 118 #[.slice a 0 cap, .int .i64 k] w fun e w' => e = .returned (.int .i64 k) ∧ w = w' := by
  go_enter Tryz.func118, Tryz.ntmps118
  go_wp2
  refine wp_loop_rounds 1 ?_
  rw [rounds_succ]
  go_wp2
  go_ret
  exact ⟨rfl, rfl⟩
theorem markDb_any (lo : Nat) (v : Value) (l : List FactV) (k : Nat) (w : World) (hl : l.length ≤ 1048576) (hk0 : 0 < k) (hk : k ≤ 100000000) (ho : OwnSl w lo v l) :
    Calls Tryz.prog 118 #[v, .int .i64 k] w fun e w' => e = .returned (.int .i64 (k + 3 * l.length : Nat)) ∧ OwnSl w' lo v (markL l.length k) ∧ Keeps (blkOf v l.length) w w' := by
  obtain ⟨a, cap, rfl, o, hz⟩ := ho
  by_cases hl0 : l = []
  · subst hl0
    refine (markDb_cap a k cap w).mono ?_
    rintro e w' ⟨rfl, rfl⟩
    exact ⟨rfl, ⟨a, cap, rfl, .inl rfl, hz⟩, Keeps.refl _ _⟩
  · have hn : l.length ≠ 0 := fun h => hl0 (List.eq_nil_of_length_eq_zero h)
    rcases hz with rfl | ⟨g, rfl⟩
    · exfalso
      rcases o with h | ⟨_, _, e, _⟩
      · have := cellsOf_length FactV.cells_len l; rw [h] at this; simp at this; omega
      · cases e
    · refine (markDb_some lo g cap l k w hl hk0 hk o).mono ?_
      rintro e w' ⟨rfl, h1, h2⟩
      exact ⟨rfl, ⟨_, cap, by rw [markL_length], h1, .inr ⟨g, rfl⟩⟩, h2.mono (fun q _ hq => fun e => hq.elim hn (fun h => h (by subst e; rfl)))⟩
end Go.Proofs.YtmdcankfjmkkeaaGreat
/- A slice of facts, and a fact, that come in as arguments of a law. -/
namespace Go.Proofs.YtmdcankfjmkkeaaGreat
open Go Go.RowKit Go.ChangeShapes Go.WideShapes Go.Deep
set_option linter.unusedVariables false

def FactArg (w : World) (a : Option Addr) (cap : Nat) (l : List FactV) : Prop := CellRow w a (cellsOf FactV.cells l) ∧ l.length ≤ maxLen ∧ l.length ≤ cap
theorem factArg_nil (w : World) : FactArg w none 0 [] := ⟨.inl rfl, Nat.zero_le _, Nat.zero_le _⟩
set_option maxRecDepth 100000 in
theorem cells_fact {H : Type} {enc : TypeId × Value → H} {w : World} {base : Nat} {spare : Nat → Bool} {held : Bool} {n : Nat} {cs : List Value} {x : DataW H × List MemPlace} (hl : cs.length = 3) (h : DataW.trod enc Tryz.prog w base spare held n 185 cs = some x) :
    ∃ d : FactV, cs = d.cells := by
  obtain ⟨y0, y1, y2, k, _, _, h0, h1, h2⟩ := trod_struct3 Tryz.underlying185 h
  match cs, hl with
  | [v0, v1, v2], _ =>
    have c1 : Tryz.prog.cellsOf 2 = 1 := by kernel_rfl
    simp only [c1, List.drop_zero, List.drop_succ_cons, List.take_succ_cons, List.take_zero] at h0 h1 h2
    obtain ⟨i0, e0, _, _⟩ := DataW.trod_int Tryz.underlying2 h0
    obtain ⟨i1, e1, _, _⟩ := DataW.trod_int Tryz.underlying2 h1
    obtain ⟨i2, e2, _, _⟩ := DataW.trod_int Tryz.underlying2 h2
    simp only [List.cons.injEq, and_true] at e0 e1 e2
    exact ⟨⟨i0, i1, i2⟩, by rw [e0, e1, e2]; rfl⟩
theorem factArg_open {H : Type} {enc : TypeId × Value → H} {w : World} {spare : Nat → Bool} {held : Bool} {fuel : Nat} {a : Option Addr} {len cap : Nat} {x : DataW H × List MemPlace} (h : DataW.trod enc Tryz.prog w 0 spare held fuel 61 [.slice a len cap] = some x) :
    ∃ l : List FactV, len = l.length ∧ FactArg w a cap l := by
  rcases open_slice Tryz.underlying61 h with ⟨hcs, _⟩ | ⟨ad, len', cap', m, n, D, Pl, hcs, _, hl, hm, hmm, _, hx⟩
  · simp only [List.cons.injEq, Value.slice.injEq, and_true] at hcs
    obtain ⟨rfl, rfl, rfl⟩ := hcs
    exact ⟨[], rfl, factArg_nil _⟩
  · simp only [List.cons.injEq, Value.slice.injEq, and_true] at hcs
    obtain ⟨rfl, rfl, rfl⟩ := hcs
    have hle : len ≤ m := by rw [hmm]; split <;> omega
    have c4 : Tryz.prog.cellsOf 185 = 3 := by kernel_rfl
    rw [c4] at hx
    have each : ∀ i, i < len → ∃ d : FactV, w.cells? 0 (ad.add (i * 3)) 3 = some d.cells := fun i hi => by
      obtain ⟨cs', h1, h2⟩ := hx i (by omega)
      obtain ⟨_, hlen, _⟩ := World.cells?_some h1
      obtain ⟨d, rfl⟩ := cells_fact hlen h2
      exact ⟨d, h1⟩
    obtain ⟨f, hf⟩ := @choose_lt FactV ⟨⟨0, 0, 0⟩⟩ len _ each
    have hlen : ((List.range len).map f).length = len := by simp
    refine ⟨(List.range len).map f, hlen.symm, ?_, by rw [hlen]; omega, by rw [hlen]; exact hl⟩
    by_cases h0 : len = 0
    · exact .inl (by subst h0; rfl)
    have hc0 := hf 0 (by omega)
    obtain ⟨_, _, hcell⟩ := World.cells?_some hc0
    have h00 := hcell 0 (by omega)
    obtain ⟨b, off, spot⟩ := ad
    have hspot : spot = none := by
      have := World.cell?_spot h00
      simpa [Addr.add] using this
    subst hspot
    have hb : b < w.heap.size := by
      rcases Nat.lt_or_ge b w.heap.size with k | k
      · exact k
      · simp [World.cell?, Addr.add, Array.getElem?_eq_none k, FactV.cells] at h00
    refine .inr ⟨b, off, rfl, hb, fun j hj => ?_⟩
    have hjl : j < len * 3 := by rw [cellsOf_length FactV.cells_len, hlen] at hj; exact hj
    have hq : j / 3 < len := by omega
    obtain ⟨_, _, hcell⟩ := World.cells?_some (hf (j / 3) hq)
    have hr := hcell (j % 3) (Nat.mod_lt _ (by omega))
    have hat := cellsOf_at FactV.cells_len ((List.range len).map f) (j / 3) (j % 3) (by rw [hlen]; exact hq) (Nat.mod_lt _ (by omega))
    rw [show j / 3 * 3 + j % 3 = j by omega, List.getElem?_eq_getElem hj] at hat
    have hg : ((List.range len).map f)[j / 3]'(by rw [hlen]; exact hq) = f (j / 3) := by simp
    rw [hg] at hat
    rw [hat, ← hr, add_add]
    have e : (⟨b, off, none⟩ : Addr).add (j / 3 * 3 + j % 3) = ⟨b, off + j, none⟩ := by
      rw [show j / 3 * 3 + j % 3 = j by omega]
      by_cases e0 : j = 0 <;> simp [Addr.add, e0]
    rw [e]
set_option maxRecDepth 100000 in
theorem factVal_open {H : Type} {enc : TypeId × Value → H} {w : World} {r : Reach} {b0 base : Nat} {spare : Nat → Bool} {held : Bool} {v : Value} {d : DataW H} {p : List MemPlace} (hv : Value.okWide Tryz.prog w r b0 185 v) (h : DataW.Trod enc Tryz.prog w base spare held 185 v d p) :
    ∃ x : FactV, v = x.val ∧ True := by
  obtain ⟨v0, v1, v2, y0, y1, y2, n, rfl, _, _, h0, h1, h2⟩ := Joins.open_agg3 Tryz.underlying185 (by kernel_rfl) (by kernel_rfl) hv h
  obtain ⟨i0, e0, _, _⟩ := DataW.trod_int Tryz.underlying2 h0
  obtain ⟨i1, e1, _, _⟩ := DataW.trod_int Tryz.underlying2 h1
  obtain ⟨i2, e2, _, _⟩ := DataW.trod_int Tryz.underlying2 h2
  simp only [List.cons.injEq, and_true] at e0 e1 e2
  exact ⟨⟨i0, i1, i2⟩, by rw [e0, e1, e2]; rfl, trivial⟩
end Go.Proofs.YtmdcankfjmkkeaaGreat
/- A slice of doubts that comes in as an argument of a law. -/
namespace Go.Proofs.YtmdcankfjmkkeaaGreat
open Go Go.RowKit Go.ChangeShapes Go.WideShapes Go.Deep
set_option linter.unusedVariables false

set_option maxRecDepth 100000 in
theorem cells_doubt {H : Type} {enc : TypeId × Value → H} {w : World} {base : Nat} {spare : Nat → Bool} {held : Bool} {n : Nat} {cs : List Value} {x : DataW H × List MemPlace} (hl : cs.length = 3) (h : DataW.trod enc Tryz.prog w base spare held n 190 cs = some x) :
    ∃ d : FactV, cs = d.cells := by
  obtain ⟨y0, y1, y2, k, _, _, h0, h1, h2⟩ := trod_struct3 Tryz.underlying190 h
  match cs, hl with
  | [v0, v1, v2], _ =>
    have c1 : Tryz.prog.cellsOf 2 = 1 := by kernel_rfl
    simp only [c1, List.drop_zero, List.drop_succ_cons, List.take_succ_cons, List.take_zero] at h0 h1 h2
    obtain ⟨i0, e0, _, _⟩ := DataW.trod_int Tryz.underlying2 h0
    obtain ⟨i1, e1, _, _⟩ := DataW.trod_int Tryz.underlying2 h1
    obtain ⟨i2, e2, _, _⟩ := DataW.trod_int Tryz.underlying2 h2
    simp only [List.cons.injEq, and_true] at e0 e1 e2
    exact ⟨⟨i0, i1, i2⟩, by rw [e0, e1, e2]; rfl⟩
theorem doubtArg_open {H : Type} {enc : TypeId × Value → H} {w : World} {spare : Nat → Bool} {held : Bool} {fuel : Nat} {a : Option Addr} {len cap : Nat} {x : DataW H × List MemPlace} (h : DataW.trod enc Tryz.prog w 0 spare held fuel 65 [.slice a len cap] = some x) :
    ∃ l : List FactV, len = l.length ∧ FactArg w a cap l := by
  rcases open_slice Tryz.underlying65 h with ⟨hcs, _⟩ | ⟨ad, len', cap', m, n, D, Pl, hcs, _, hl, hm, hmm, _, hx⟩
  · simp only [List.cons.injEq, Value.slice.injEq, and_true] at hcs
    obtain ⟨rfl, rfl, rfl⟩ := hcs
    exact ⟨[], rfl, factArg_nil _⟩
  · simp only [List.cons.injEq, Value.slice.injEq, and_true] at hcs
    obtain ⟨rfl, rfl, rfl⟩ := hcs
    have hle : len ≤ m := by rw [hmm]; split <;> omega
    have c4 : Tryz.prog.cellsOf 190 = 3 := by kernel_rfl
    rw [c4] at hx
    have each : ∀ i, i < len → ∃ d : FactV, w.cells? 0 (ad.add (i * 3)) 3 = some d.cells := fun i hi => by
      obtain ⟨cs', h1, h2⟩ := hx i (by omega)
      obtain ⟨_, hlen, _⟩ := World.cells?_some h1
      obtain ⟨d, rfl⟩ := cells_doubt hlen h2
      exact ⟨d, h1⟩
    obtain ⟨f, hf⟩ := @choose_lt FactV ⟨⟨0, 0, 0⟩⟩ len _ each
    have hlen : ((List.range len).map f).length = len := by simp
    refine ⟨(List.range len).map f, hlen.symm, ?_, by rw [hlen]; omega, by rw [hlen]; exact hl⟩
    by_cases h0 : len = 0
    · exact .inl (by subst h0; rfl)
    have hc0 := hf 0 (by omega)
    obtain ⟨_, _, hcell⟩ := World.cells?_some hc0
    have h00 := hcell 0 (by omega)
    obtain ⟨b, off, spot⟩ := ad
    have hspot : spot = none := by
      have := World.cell?_spot h00
      simpa [Addr.add] using this
    subst hspot
    have hb : b < w.heap.size := by
      rcases Nat.lt_or_ge b w.heap.size with k | k
      · exact k
      · simp [World.cell?, Addr.add, Array.getElem?_eq_none k, FactV.cells] at h00
    refine .inr ⟨b, off, rfl, hb, fun j hj => ?_⟩
    have hjl : j < len * 3 := by rw [cellsOf_length FactV.cells_len, hlen] at hj; exact hj
    have hq : j / 3 < len := by omega
    obtain ⟨_, _, hcell⟩ := World.cells?_some (hf (j / 3) hq)
    have hr := hcell (j % 3) (Nat.mod_lt _ (by omega))
    have hat := cellsOf_at FactV.cells_len ((List.range len).map f) (j / 3) (j % 3) (by rw [hlen]; exact hq) (Nat.mod_lt _ (by omega))
    rw [show j / 3 * 3 + j % 3 = j by omega, List.getElem?_eq_getElem hj] at hat
    have hg : ((List.range len).map f)[j / 3]'(by rw [hlen]; exact hq) = f (j / 3) := by simp
    rw [hg] at hat
    rw [hat, ← hr, add_add]
    have e : (⟨b, off, none⟩ : Addr).add (j / 3 * 3 + j % 3) = ⟨b, off + j, none⟩ := by
      rw [show j / 3 * 3 + j % 3 = j by omega]
      by_cases e0 : j = 0 <;> simp [Addr.add, e0]
    rw [e]
end Go.Proofs.YtmdcankfjmkkeaaGreat
/- A slice of rumors that comes in as an argument of a law. -/
namespace Go.Proofs.YtmdcankfjmkkeaaGreat
open Go Go.RowKit Go.ChangeShapes Go.WideShapes Go.Deep
set_option linter.unusedVariables false

def RumorArg (w : World) (a : Option Addr) (cap : Nat) (l : List RumV) : Prop := CellRow w a (cellsOf RumV.cells l) ∧ l.length ≤ maxLen ∧ l.length ≤ cap
theorem rumorArg_nil (w : World) : RumorArg w none 0 [] := ⟨.inl rfl, Nat.zero_le _, Nat.zero_le _⟩
set_option maxRecDepth 100000 in
theorem cells_rum {H : Type} {enc : TypeId × Value → H} {w : World} {base : Nat} {spare : Nat → Bool} {held : Bool} {n : Nat} {cs : List Value} {x : DataW H × List MemPlace} (hl : cs.length = 4) (h : DataW.trod enc Tryz.prog w base spare held n 188 cs = some x) :
    ∃ d : RumV, cs = d.cells := by
  obtain ⟨y0, y1, k, _, _, h0, h1⟩ := trod_struct2 Tryz.underlying188 h
  match cs, hl with
  | [v0, v1, v2, v3], _ =>
    have c3 : Tryz.prog.cellsOf 185 = 3 := by kernel_rfl
    have c1 : Tryz.prog.cellsOf 2 = 1 := by kernel_rfl
    simp only [c1, c3, List.drop_zero, List.drop_succ_cons, List.take_succ_cons, List.take_zero] at h0 h1
    obtain ⟨d, hd⟩ := cells_fact rfl h0
    obtain ⟨i3, e3, _, _⟩ := DataW.trod_int Tryz.underlying2 h1
    simp only [List.cons.injEq, and_true] at e3
    unfold FactV.cells at hd
    simp only [List.cons.injEq, and_true] at hd
    obtain ⟨r0, r1, r2⟩ := hd
    exact ⟨⟨d.node, d.inc, d.st, i3⟩, by rw [r0, r1, r2, e3]; rfl⟩
set_option maxRecDepth 100000 in
theorem rumorArg_open {H : Type} {enc : TypeId × Value → H} {w : World} {spare : Nat → Bool} {held : Bool} {fuel : Nat} {a : Option Addr} {len cap : Nat} {x : DataW H × List MemPlace} (h : DataW.trod enc Tryz.prog w 0 spare held fuel 62 [.slice a len cap] = some x) :
    ∃ l : List RumV, len = l.length ∧ RumorArg w a cap l := by
  rcases open_slice Tryz.underlying62 h with ⟨hcs, _⟩ | ⟨ad, len', cap', m, n, D, Pl, hcs, _, hl, hm, hmm, _, hx⟩
  · simp only [List.cons.injEq, Value.slice.injEq, and_true] at hcs
    obtain ⟨rfl, rfl, rfl⟩ := hcs
    exact ⟨[], rfl, rumorArg_nil _⟩
  · simp only [List.cons.injEq, Value.slice.injEq, and_true] at hcs
    obtain ⟨rfl, rfl, rfl⟩ := hcs
    have hle : len ≤ m := by rw [hmm]; split <;> omega
    have c4 : Tryz.prog.cellsOf 188 = 4 := by kernel_rfl
    rw [c4] at hx
    have each : ∀ i, i < len → ∃ d : RumV, w.cells? 0 (ad.add (i * 4)) 4 = some d.cells := fun i hi => by
      obtain ⟨cs', h1, h2⟩ := hx i (by omega)
      obtain ⟨_, hlen, _⟩ := World.cells?_some h1
      obtain ⟨d, rfl⟩ := cells_rum hlen h2
      exact ⟨d, h1⟩
    obtain ⟨f, hf⟩ := @choose_lt RumV ⟨⟨0, 0, 0, 0⟩⟩ len _ each
    have hlen : ((List.range len).map f).length = len := by simp
    refine ⟨(List.range len).map f, hlen.symm, ?_, by rw [hlen]; omega, by rw [hlen]; exact hl⟩
    by_cases h0 : len = 0
    · exact .inl (by subst h0; rfl)
    have hc0 := hf 0 (by omega)
    obtain ⟨_, _, hcell⟩ := World.cells?_some hc0
    have h00 := hcell 0 (by omega)
    obtain ⟨b, off, spot⟩ := ad
    have hspot : spot = none := by
      have := World.cell?_spot h00
      simpa [Addr.add] using this
    subst hspot
    have hb : b < w.heap.size := by
      rcases Nat.lt_or_ge b w.heap.size with k | k
      · exact k
      · simp [World.cell?, Addr.add, Array.getElem?_eq_none k, RumV.cells] at h00
    refine .inr ⟨b, off, rfl, hb, fun j hj => ?_⟩
    have hjl : j < len * 4 := by rw [cellsOf_length RumV.cells_len, hlen] at hj; exact hj
    have hq : j / 4 < len := by omega
    obtain ⟨_, _, hcell⟩ := World.cells?_some (hf (j / 4) hq)
    have hr := hcell (j % 4) (Nat.mod_lt _ (by omega))
    have hat := cellsOf_at RumV.cells_len ((List.range len).map f) (j / 4) (j % 4) (by rw [hlen]; exact hq) (Nat.mod_lt _ (by omega))
    rw [show j / 4 * 4 + j % 4 = j by omega, List.getElem?_eq_getElem hj] at hat
    have hg : ((List.range len).map f)[j / 4]'(by rw [hlen]; exact hq) = f (j / 4) := by simp
    rw [hg] at hat
    rw [hat, ← hr, add_add]
    have e : (⟨b, off, none⟩ : Addr).add (j / 4 * 4 + j % 4) = ⟨b, off + j, none⟩ := by
      rw [show j / 4 * 4 + j % 4 = j by omega]
      by_cases e0 : j = 0 <;> simp [Addr.add, e0]
    rw [e]
end Go.Proofs.YtmdcankfjmkkeaaGreat
/- A mail that comes in as an argument of a law; a struct's fields, however many. -/
namespace Go.Proofs.YtmdcankfjmkkeaaGreat
open Go Go.RowKit Go.ChangeShapes Go.WideShapes Go.Deep
set_option linter.unusedVariables false

set_option maxRecDepth 100000 in
theorem trod_fields {H : Type} {enc : TypeId × Value → H} {P : Program} {w : World} {base : Nat} {spare : Nat → Bool} {held : Bool} {t : TypeId} {fs : Array Field} {fuel : Nat} {cs : List Value} {x : DataW H × List MemPlace} (ht : P.underlying t = some (.struct fs)) (h : DataW.trod enc P w base spare held fuel t cs = some x) :
    cs.length = P.cellsOf t ∧ ∃ n, ∀ (i : Nat) (f : Field), fs[i]? = some f → ∃ y, DataW.trod enc P w base spare held n f.type ((cs.drop f.offset).take (P.cellsOf f.type)) = some y := by
  obtain ⟨xs, n, _, rfl, hl, hlen, hf⟩ := DataW.trod_struct ht h
  refine ⟨hl, n, fun i f hi => ?_⟩
  have hif : i < fs.size := (Array.getElem?_eq_some_iff.1 hi).1
  have := hf i f hi
  rw [List.getElem?_eq_getElem (by omega)] at this
  exact ⟨_, this⟩
set_option maxRecDepth 100000 in
theorem array7 {α : Type} {cs : Array α} (h : cs.size = 7) : ∃ c0 c1 c2 c3 c4 c5 c6, cs = #[c0, c1, c2, c3, c4, c5, c6] := by
  obtain ⟨l⟩ := cs
  match l, h with
  | [c0, c1, c2, c3, c4, c5, c6], _ => exact ⟨c0, c1, c2, c3, c4, c5, c6, rfl⟩
/-- A mail, and where its facts lie. -/
structure MailA where
  k : Int
  f : Int
  t : Int
  n : Int
  a : Int
  r : Int
  p : Option Addr
  cap : Nat
  l : List FactV
def MailA.val (m : MailA) : Value := .agg #[.int .i64 m.k, .int .i64 m.f, .int .i64 m.t, .int .i64 m.n, .int .i64 m.a, .int .i64 m.r, .slice m.p m.l.length m.cap]
/-- The numbers are such. -/
def MailA.wf (m : MailA) : Prop := (Lit.int .i64 m.k).wf = true ∧ (Lit.int .i64 m.f).wf = true ∧ (Lit.int .i64 m.t).wf = true ∧ (Lit.int .i64 m.n).wf = true ∧ (Lit.int .i64 m.a).wf = true ∧ (Lit.int .i64 m.r).wf = true
set_option maxRecDepth 100000 in
theorem mailVal_open {H : Type} {enc : TypeId × Value → H} {w : World} {r : Reach} {b0 : Nat} {spare : Nat → Bool} {held : Bool} {v : Value} {d : DataW H} {p : List MemPlace} (hv : Value.okWide Tryz.prog w r b0 75 v) (h : DataW.Trod enc Tryz.prog w 0 spare held 75 v d p) :
    ∃ m : MailA, v = m.val ∧ (FactArg w m.p m.cap m.l ∧ m.wf) := by
  obtain ⟨cs, rfl, hsz⟩ := okWide_struct Tryz.underlying75 hv
  obtain ⟨c0, c1, c2, c3, c4, c5, c6, rfl⟩ := array7 (hsz.trans (by kernel_rfl))
  obtain ⟨fuel, hf⟩ := h
  obtain ⟨_, n, hx⟩ := trod_fields Tryz.underlying75 hf
  have k1 : Tryz.prog.cellsOf 2 = 1 := by kernel_rfl
  have k2 : Tryz.prog.cellsOf 61 = 1 := by kernel_rfl
  obtain ⟨y0, h0⟩ := hx 0 _ rfl
  obtain ⟨y1, h1⟩ := hx 1 _ rfl
  obtain ⟨y2, h2⟩ := hx 2 _ rfl
  obtain ⟨y3, h3⟩ := hx 3 _ rfl
  obtain ⟨y4, h4⟩ := hx 4 _ rfl
  obtain ⟨y5, h5⟩ := hx 5 _ rfl
  obtain ⟨y6, h6⟩ := hx 6 _ rfl
  simp [Value.cells, k1, k2] at h0 h1 h2 h3 h4 h5 h6
  obtain ⟨i0, e0, _, w0⟩ := DataW.trod_int Tryz.underlying2 h0
  obtain ⟨i1, e1, _, w1⟩ := DataW.trod_int Tryz.underlying2 h1
  obtain ⟨i2, e2, _, w2⟩ := DataW.trod_int Tryz.underlying2 h2
  obtain ⟨i3, e3, _, w3⟩ := DataW.trod_int Tryz.underlying2 h3
  obtain ⟨i4, e4, _, w4⟩ := DataW.trod_int Tryz.underlying2 h4
  obtain ⟨i5, e5, _, w5⟩ := DataW.trod_int Tryz.underlying2 h5
  obtain ⟨a, len, cap, e6⟩ := Joins.slice_form Tryz.underlying61 h6
  simp only [List.cons.injEq, and_true] at e0 e1 e2 e3 e4 e5 e6
  subst e6
  obtain ⟨l, rfl, hl⟩ := factArg_open h6
  exact ⟨⟨i0, i1, i2, i3, i4, i5, a, cap, l⟩, by rw [e0, e1, e2, e3, e4, e5]; rfl, hl, w0, w1, w2, w3, w4, w5⟩
end Go.Proofs.YtmdcankfjmkkeaaGreat
/- Numbers of one's own, where blocks are kept. No program. -/
namespace Go.Proofs.YtmdcankfjmkkeaaGreat
open Go Go.RowKit
set_option linter.unusedVariables false

theorem OwnNums.keepK {w w' : World} {lo : Nat} {a : Option Addr} {l : List Int} (h : OwnNums w lo a l) {G : Nat → Prop} (k : Keeps G w w') (hg : ∀ b, lo ≤ b → b < w.heap.size → G b) : OwnNums w' lo a l := by
  rcases h with h | ⟨b, off, rfl, hlo, hlt, hc, hf⟩
  · exact .inl h
  · exact .inr ⟨b, off, rfl, hlo, Nat.lt_of_lt_of_le hlt k.size, fun i hi => (k.cell (p := ⟨b, off + i, none⟩) hlt (hg b hlo hlt)).trans (hc i hi), fun i hi => (k.frozen (p := ⟨b, off + i, none⟩) hlt (hg b hlo hlt)).trans (hf i hi)⟩
theorem OwnNums.le {w : World} {lo lo' : Nat} {a : Option Addr} {l : List Int} (h : OwnNums w lo a l) (hb : lo' ≤ lo) : OwnNums w lo' a l := by
  rcases h with h | ⟨b, off, e, hlo, r⟩
  · exact .inl h
  · exact .inr ⟨b, off, e, Nat.le_trans hb hlo, r⟩

end Go.Proofs.YtmdcankfjmkkeaaGreat
