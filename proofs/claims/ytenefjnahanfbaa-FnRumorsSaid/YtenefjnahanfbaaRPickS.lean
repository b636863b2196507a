/- The contracts of the specification's l06Pick and RumorPick. -/
import Derived.Test.YtenefjnahanfbaaRumEq
import Derived.Test.YtenefjnahanfbaaLPut
import Derived.Deep.CutBlock
namespace Go.Proofs.Ytenefjnahanfbaa
open Go Go.RowKit
set_option linter.unusedVariables false
set_option linter.unusedSimpArgs false

/-- Those that may be picked yet. -/
def candR (l : List RumV) (but : Int) (D : List RumV) : List RumV := l.filter fun x => decide (x.node ≠ but ∧ x.node ∉ D.map RumV.node)
theorem candR_nil (l : List RumV) (but : Int) : candR l but [] = butR l but := by
  unfold candR butR
  congr 1
  funext x
  simp
theorem candR_next (l : List RumV) (but : Int) (D : List RumV) (x : RumV) : butR (candR l but D) x.node = candR l but (D ++ [x]) := by
  unfold candR butR
  rw [List.filter_filter]
  congr 1
  funext y
  simp only [List.map_append, List.map_cons, List.map_nil, List.mem_append, List.mem_singleton, not_or]
  rw [Bool.eq_iff_iff]
  simp
  constructor
  · rintro ⟨h1, h2, h3⟩; exact ⟨h2, h3, h1⟩
  · rintro ⟨h1, h2, h3⟩; exact ⟨h3, h1, h2⟩
theorem candR_no {l : List RumV} {but : Int} {D : List RumV} {x : RumV} (h : ¬ (x.node ≠ but ∧ x.node ∉ D.map RumV.node)) : candR (l ++ [x]) but D = candR l but D := by
  unfold candR; rw [List.filter_append, List.filter_cons_of_neg (by simpa using h)]; simp
theorem candR_yes {l : List RumV} {but : Int} {D : List RumV} {x : RumV} (h : x.node ≠ but ∧ x.node ∉ D.map RumV.node) : candR (l ++ [x]) but D = candR l but D ++ [x] := by
  unfold candR; rw [List.filter_append, List.filter_cons_of_pos (by simpa using h)]; simp
/-- So far picked. -/
def SPickTo (l : List RumV) (but : Int) (n : Nat) (D : List RumV) : Prop := n ≤ 3 ∧ pickedR l but = D ++ picksR (3 - n) (candR l but D)
theorem spick_0 (l : List RumV) (but : Int) : SPickTo l but 0 [] := ⟨by omega, by rw [candR_nil]; rfl⟩
theorem spick_end {l : List RumV} {but : Int} {n : Nat} {D : List RumV} (h : SPickTo l but n D) (hd : leastR (candR l but D) = none ∨ n = 3) : pickedR l but = D := by
  rw [h.2]
  rcases hd with hd | rfl
  · cases 3 - n with
    | zero => simp [picksR]
    | succ k => simp [picksR, hd]
  · simp [picksR]
theorem spick_next {l : List RumV} {but : Int} {n : Nat} {D : List RumV} {x : RumV} (h : SPickTo l but n D) (hn : n < 3) (hx : leastR (candR l but D) = some x) : SPickTo l but (n + 1) (D ++ [x]) := by
  refine ⟨by omega, ?_⟩
  rw [h.2]
  obtain ⟨k, hk⟩ : ∃ k, 3 - n = k + 1 := ⟨3 - n - 1, by omega⟩
  rw [hk, show 3 - (n + 1) = k by omega, ← candR_next]
  conv => lhs; unfold picksR
  rw [hx]
  simp
/-- The best so far. -/
def BestTo (l : List RumV) (but : Int) (D : List RumV) (k : Nat) (q : Int) : Prop := (q = -1 ∧ leastR (candR (l.take k) but D) = none) ∨ ∃ t : Nat, q = t ∧ ∃ h : t < l.length, leastR (candR (l.take k) but D) = some l[t]
theorem best_no {l : List RumV} {but : Int} {D : List RumV} {k : Nat} {q : Int} (h : BestTo l but D k q) {x : RumV} (hk : k < l.length) (hx : l[k] = x) (hc : ¬ (x.node ≠ but ∧ x.node ∉ D.map RumV.node)) : BestTo l but D (k + 1) q := by
  unfold BestTo at h ⊢
  rw [List.take_succ_eq_append_getElem hk, hx, candR_no hc]
  exact h
theorem best_first {l : List RumV} {but : Int} {D : List RumV} {k : Nat} (h : BestTo l but D k (-1)) {x : RumV} (hk : k < l.length) (hx : l[k] = x) (hc : x.node ≠ but ∧ x.node ∉ D.map RumV.node) : BestTo l but D (k + 1) k := by
  refine .inr ⟨k, rfl, hk, ?_⟩
  rw [List.take_succ_eq_append_getElem hk, hx, candR_yes hc, leastR_snoc]
  rcases h with ⟨_, h⟩ | ⟨t, e, _⟩
  · rw [h]; rfl
  · omega
theorem best_less {l : List RumV} {but : Int} {D : List RumV} {k t : Nat} (h : BestTo l but D k t) {x y : RumV} (hk : k < l.length) (hx : l[k] = x) (ht : t < l.length) (hy : l[t] = y) (hc : x.node ≠ but ∧ x.node ∉ D.map RumV.node) (hs : x.sent < y.sent) : BestTo l but D (k + 1) k := by
  refine .inr ⟨k, rfl, hk, ?_⟩
  rw [List.take_succ_eq_append_getElem hk, hx, candR_yes hc, leastR_snoc]
  rcases h with ⟨e, _⟩ | ⟨t', e, h', h⟩
  · omega
  · obtain rfl : t = t' := by omega
    rw [h, hy]; simp [leastS, hs]
theorem best_not {l : List RumV} {but : Int} {D : List RumV} {k t : Nat} (h : BestTo l but D k t) {x y : RumV} (hk : k < l.length) (hx : l[k] = x) (ht : t < l.length) (hy : l[t] = y) (hc : x.node ≠ but ∧ x.node ∉ D.map RumV.node) (hs : ¬ x.sent < y.sent) : BestTo l but D (k + 1) t := by
  refine .inr ⟨t, rfl, ht, ?_⟩
  rw [List.take_succ_eq_append_getElem hk, hx, candR_yes hc, leastR_snoc]
  rcases h with ⟨e, _⟩ | ⟨t', e, h', h⟩
  · omega
  · obtain rfl : t = t' := by omega
    rw [h, hy]; simp [leastS, hs]
/-- Which are picked. -/
def pickL (l D : List RumV) : List Value := l.map fun x => Value.bool (decide (x.node ∈ D.map RumV.node))
theorem pickL_nil (l : List RumV) : pickL l [] = List.replicate l.length (.bool false) := by
  unfold pickL
  rw [List.eq_replicate_iff]
  refine ⟨by simp, fun b hb => ?_⟩
  obtain ⟨x, _, rfl⟩ := List.mem_map.1 hb
  simp
theorem pickL_at {l D : List RumV} {i : Nat} (hi : i < l.length) {x : RumV} (hx : l[i] = x) : (pickL l D).toArray[i]? = some (.bool (decide (x.node ∈ D.map RumV.node))) := by
  unfold pickL
  rw [List.getElem?_toArray, List.getElem?_map, List.getElem?_eq_getElem hi, hx]
  rfl
theorem pickL_put {l D : List RumV} (hd : l.Pairwise fun a b => a.node ≠ b.node) {t : Nat} (ht : t < l.length) {x : RumV} (hx : l[t] = x) : (pickL l D).toArray.setIfInBounds t (.bool true) = (pickL l (D ++ [x])).toArray := by
  rw [List.setIfInBounds_toArray]
  congr 1
  apply List.ext_getElem
  · simp [pickL]
  intro i h1 h2
  have hi : i < l.length := by simpa [pickL] using h2
  by_cases e : i = t
  · subst e
    simp [pickL, hx]
  · rw [List.getElem_set_ne (fun q => e q.symm)]
    unfold pickL
    simp only [List.getElem_map]
    have hne : l[i].node ≠ x.node := by
      rw [← hx]
      rcases Nat.lt_trichotomy i t with c | c | c
      · exact List.pairwise_iff_getElem.1 hd i t hi ht c
      · exact absurd c e
      · exact fun q => List.pairwise_iff_getElem.1 hd t i ht hi c q.symm
    simp [hne]
theorem toldR_snocS {l P : List RumV} {x : RumV} : toldR (l ++ [x]) P = toldR l P ++ (toldS P x).toList := by
  unfold toldR
  rw [List.filterMap_append]
  cases h : toldS P x <;> simp [h]
theorem rows_apartS {w : World} {b1 b2 e1 e2 s1 s2 n1 n2 : Nat} {v u : Value} {xs ys : List Value} (hv : w.ownsRow b1 e1 s1 v n1 xs) (hu : w.ownsRow b2 e2 s2 u n2 ys) (hne : e1 ≠ e2) : ∀ g, u.ownBlock = some g → v.ownBlock ≠ some g := rows_apart hv hu hne
theorem OwnsRow.cellRowF {w : World} {base : Nat} {v : Value} {l : List FactV} (h : w.ownsRow base 25 3 v l.length (cellsOf FactV.cells l)) : ∃ a cap, v = .slice a l.length cap ∧ CellRow w a (cellsOf FactV.cells l) := by
  rcases own_cells h with ⟨rfl, rfl⟩ | ⟨g, cap, rfl, ho⟩
  · exact ⟨none, 0, rfl, .inl rfl⟩
  · exact ⟨_, cap, rfl, ho.row⟩
theorem putL_posR (l : List FactV) (f : FactV) (k : Nat) : 0 < (putL l f k).length := by
  unfold putL
  cases l.drop k with
  | nil => simp
  | cons x r =>
    simp only
    split <;> (rw [List.length_append, List.length_cons]; omega)
theorem field_viewR (x0 x1 x2 : Value) (w : World) : (Instr.field 95 (.agg #[x0, x1, x2]) 0).run Try.prog w = .ok x0 w := by kernel_rfl
theorem infoBool : (Try.prog.info? 4).map (fun i => (i.zero, i.size, i.bytes)) = some (some (.bool false), 1, 1) := by kernel_rfl
theorem madeBools (w : World) (n : Nat) (hn : n ≤ 1000) : ∃ w', (Instr.makeSlice 93 (.int .i64 (n : Int)) (.int .i64 (n : Int))).run Try.prog w = .ok (.slice (some ⟨w.heap.size, 0, none⟩) n n) w' ∧ BlkIs w' w.heap.size 4 (List.replicate n (Value.bool false)).toArray ∧ Below w.heap.size w w' := by
  obtain ⟨i0, hi0, hz⟩ := Option.map_eq_some_iff.1 infoBool
  simp only [Prod.mk.injEq] at hz
  obtain ⟨wm, hmk, hown, hgr⟩ := run_make_full (P := Try.prog) w w.heap.size 93 4 i0 _ 1 Try.underlying93 hi0 hz.1 hz.2.1 .i64 .i64 n (by rw [hz.2.2]; omega) (by unfold maxLen; omega) (Nat.le_refl _)
  refine ⟨wm, hmk, ?_, (Below.refl _ _).grown hgr (Nat.le_refl _) (fun k e => by cases e)⟩
  rcases hown.2 with ⟨h, _⟩ | ⟨g, cap, cur, e, _, hg, _, _, hs, ht⟩
  · cases h
  · simp only [Value.slice.injEq, Option.some.injEq, Addr.mk.injEq, and_true, true_and] at e
    obtain ⟨rfl, rfl⟩ := e
    unfold BlkIs
    rw [hg]
    have e2 : (Value.bool false).cells = #[.bool false] := rfl
    rw [e2, toList_madeCells_one, Nat.mul_one, List.take_of_length_le (by simp at hs ⊢; omega)] at ht
    rw [← ht]
set_option maxHeartbeats 8000000 in
set_option maxRecDepth 100000 in
theorem specL06Pick_any (a : Option Addr) (cap : Nat) (l : List RumV) (but : Int) (w : World) (hr : rightR l) (hrow : CellRow w a (cellsOf RumV.cells l)) :
    Calls Try.prog 39 #[.slice a l.length cap, .int .i64 but] w fun e w' => ∃ v u, e = .returned (.tuple #[v, u]) ∧ w'.ownsRow w.heap.size 39 4 v (toldR l (pickedR l but)).length (cellsOf RumV.cells (toldR l (pickedR l but))) ∧ w'.ownsRow w.heap.size 25 3 u (factsR (pickedR l but)).length (cellsOf FactV.cells (factsR (pickedR l but))) ∧ Below w.heap.size w w' := by
  have HR : Hid (rightR l) := hr
  have hl6 := rightR_len hr
  clear hr
  obtain ⟨wm, hmk, hA0, bm⟩ := madeBools w l.length (by omega)
  rw [← pickL_nil] at hA0
  have hwm := hA0.lt
  have bF : Below wm.heap.size wm (wm.alloc (.cells #[] 25)) := (Below.refl _ _).alloc (Nat.le_refl _) _
  have A0 := hA0.keep bF
  have B0 := bm.trans (bF.mono bm.size)
  have O0 : (wm.alloc (.cells #[] 25)).ownsRow w.heap.size 25 3 (.slice (some ⟨wm.heap.size, 0, none⟩) 0 0) (factsR []).length (cellsOf FactV.cells (factsR [])) := World.ownsRow_lit _ #[] 0 bm.size (by simp [maxLen]) rfl
  clear bF hA0
  go_enter Try.func39, Try.ntmps39
  go_upto_block 0 with fail
  go_cut [7] (fun u wc => ∃ (D : List RumV) (fb fcap : Nat), u = .slice (some ⟨fb, 0, none⟩) (factsR D).length fcap ∧ pickedR l but = D ∧ BlkIs wc w.heap.size 4 (pickL l D).toArray ∧ wc.ownsRow w.heap.size 25 3 u (factsR D).length (cellsOf FactV.cells (factsR D)) ∧ Below w.heap.size w wc)
  case first =>
    go_wp2
    go_loopw [8, 7] (fun i u wr => ∃ (n : Nat) (D : List RumV) (fb fcap : Nat), i = .int .i64 n ∧ u = .slice (some ⟨fb, 0, none⟩) (factsR D).length fcap ∧ (factsR D).length ≤ fcap ∧ fcap ≤ 9223372036854775807 ∧ SPickTo l but n D ∧ BlkIs wr w.heap.size 4 (pickL l D).toArray ∧ wr.ownsRow w.heap.size 25 3 u (factsR D).length (cellsOf FactV.cells (factsR D)) ∧ Below w.heap.size w wr) (fun i _ _ => 3 - (intOf i).toNat)
    case atStart => exact ⟨0, [], wm.heap.size, 0, rfl, rfl, Nat.le_refl _, by omega, spick_0 _ _, A0, O0, B0⟩
    case round =>
      obtain ⟨n, D, fb, fcap, rfl, rfl, hfc, hfm, hto, hA, hou, hb⟩ := hrel
      obtain ⟨wo, rfl⟩ : ∃ wo, wo = wr := ⟨wr, rfl⟩
      clear A0 B0 O0
      have HTO : Hid (SPickTo l but n D) := hto
      have hn3 := hto.1
      have HDV : Hid (rightV (factsR D)) := factsR_right fun q hq => ((picked_right HR.out but).1 q (by rw [hto.2]; simp [hq])).1
      clear hto
      by_cases hn : n < 3
      · have hnI : (n : Int) < 3 := by omega
        go_wp2
        go_loopw [10, 9] (fun i s wq => ∃ (k : Nat) (q : Int), k ≤ l.length ∧ i = .int .i64 k ∧ s = .int .i64 q ∧ BestTo l but D k q ∧ Below wo.heap.size wo wq) (fun i _ _ => l.length - (intOf i).toNat)
        case atStart => exact ⟨0, -1, Nat.zero_le _, rfl, rfl, .inl ⟨rfl, rfl⟩, Below.refl _ _⟩
        case round =>
          obtain ⟨k, q, hk, rfl, rfl, hbest, bq⟩ := hrel
          obtain ⟨wq, rfl⟩ : ∃ wq, wq = wr := ⟨wr, rfl⟩
          have HB : Hid (BestTo l but D k q) := hbest
          clear hbest
          by_cases hx : k < l.length
          · obtain ⟨b, off, rfl⟩ := hrow.addr (by rw [cellsOf_length RumV.cells_len]; omega)
            have B1 := hb.trans (bq.mono hb.size)
            have row1 := hrow.keep B1
            obtain ⟨x, hlx⟩ : ∃ x, l[k] = x := ⟨_, rfl⟩
            have dk := row1.rum hx hlx
            have hpk := pickL_at (D := D) hx hlx
            have HX : Hid (l[k] = x) := hlx
            have hA1 := hA.keep bq
            have hkI : (k : Int) < (l.length : Int) := by omega
            obtain ⟨x1, x2, x3, x4⟩ := x
            dsimp only at hpk
            clear hlx
            have hA := hA1
            clear hA1
            have BD := bq.drew
            go_upto_region 10 with fail
            by_cases hpd : x1 ∈ D.map RumV.node
            · have HN : Hid (BestTo l but D (k + 1) q) := best_no HB.out hx HX.out (fun h => h.2 hpd)
              rw [decide_eq_true hpd] at hpk
              clear HB HX row1 B1
              refine wp_region_held_drew (S := (fun w' => Below wq.heap.size wq w')) (by kernel_rfl) ?hS0 (fun hHeld => ?_)
              case hS0 => exact (Below.refl _ _).drew
              refine takeG 0 (v := .slice (some ⟨w.heap.size, 0, none⟩) l.length l.length) rfl (by kernel_rfl) (by kernel_rfl) (by kernel_rfl) (by kernel_rfl) (fun _ _ _ h => h) ?hy (by assumption) ?_
              case hy => (intro w' hSw; go_simp)
              try simp only [List.setIfInBounds_toArray, List.set_cons_zero, List.set_cons_succ]
              refine takeG 1 (v := .int .i64 (k : Int)) rfl (by kernel_rfl) (by kernel_rfl) (by kernel_rfl) (by kernel_rfl) (fun _ _ _ h => h) ?hy (by assumption) ?_
              case hy => (intro w' hSw; go_simp)
              try simp only [List.setIfInBounds_toArray, List.set_cons_zero, List.set_cons_succ]
              refine takeG 2 (v := .pointer (some ⟨w.heap.size, k, none⟩)) rfl (by kernel_rfl) (by kernel_rfl) (by kernel_rfl) (by kernel_rfl) (fun _ _ _ h => h) ?hy (by assumption) ?_
              case hy => (intro w' hSw; go_simp)
              try simp only [List.setIfInBounds_toArray, List.set_cons_zero, List.set_cons_succ]
              refine takeG 3 (v := .bool true) rfl (by kernel_rfl) (by kernel_rfl) (by kernel_rfl) (by kernel_rfl) (fun _ _ _ h => h) ?hy (by assumption) ?_
              case hy => (intro w' hSw; have s0 := ((hA.keep hSw).cell k).trans hpk; (try dsimp only at s0); go_simp)
              try simp only [List.setIfInBounds_toArray, List.set_cons_zero, List.set_cons_succ]
              refine takeG 4 (v := .bool false) rfl (by kernel_rfl) (by kernel_rfl) (by kernel_rfl) (by kernel_rfl) (fun _ _ _ h => h) ?hy (by assumption) ?_
              case hy => (intro w' hSw; go_simp)
              try simp only [List.setIfInBounds_toArray, List.set_cons_zero, List.set_cons_succ]
              refine takeG 5 (v := .bool false) rfl (by kernel_rfl) (by kernel_rfl) (by kernel_rfl) (by kernel_rfl) (fun _ _ _ h => h) ?hy (by assumption) ?_
              case hy => (intro w' hSw; go_simp)
              try simp only [List.setIfInBounds_toArray, List.set_cons_zero, List.set_cons_succ]
              refine skipG 6 rfl (by kernel_rfl) (by kernel_rfl) (by kernel_rfl) (by kernel_rfl) (fun _ _ _ h => h) (by assumption) ?_
              try simp only [List.setIfInBounds_toArray, List.set_cons_zero, List.set_cons_succ]
              refine skipG 7 rfl (by kernel_rfl) (by kernel_rfl) (by kernel_rfl) (by kernel_rfl) (fun _ _ _ h => h) (by assumption) ?_
              try simp only [List.setIfInBounds_toArray, List.set_cons_zero, List.set_cons_succ]
              refine skipG 8 rfl (by kernel_rfl) (by kernel_rfl) (by kernel_rfl) (by kernel_rfl) (fun _ _ _ h => h) (by assumption) ?_
              try simp only [List.setIfInBounds_toArray, List.set_cons_zero, List.set_cons_succ]
              refine skipG 9 rfl (by kernel_rfl) (by kernel_rfl) (by kernel_rfl) (by kernel_rfl) (fun _ _ _ h => h) (by assumption) ?_
              try simp only [List.setIfInBounds_toArray, List.set_cons_zero, List.set_cons_succ]
              refine skipG 10 rfl (by kernel_rfl) (by kernel_rfl) (by kernel_rfl) (by kernel_rfl) (fun _ _ _ h => h) (by assumption) ?_
              try simp only [List.setIfInBounds_toArray, List.set_cons_zero, List.set_cons_succ]
              refine skipG 11 rfl (by kernel_rfl) (by kernel_rfl) (by kernel_rfl) (by kernel_rfl) (fun _ _ _ h => h) (by assumption) ?_
              try simp only [List.setIfInBounds_toArray, List.set_cons_zero, List.set_cons_succ]
              refine skipG 12 rfl (by kernel_rfl) (by kernel_rfl) (by kernel_rfl) (by kernel_rfl) (fun _ _ _ h => h) (by assumption) ?_
              try simp only [List.setIfInBounds_toArray, List.set_cons_zero, List.set_cons_succ]
              refine skipG 13 rfl (by kernel_rfl) (by kernel_rfl) (by kernel_rfl) (by kernel_rfl) (fun _ _ _ h => h) (by assumption) ?_
              try simp only [List.setIfInBounds_toArray, List.set_cons_zero, List.set_cons_succ]
              refine takeG 14 (v := .bool false) rfl (by kernel_rfl) (by kernel_rfl) (by kernel_rfl) (by kernel_rfl) (fun _ _ _ h => h) ?hy (by assumption) ?_
              case hy => (intro w' hSw; go_simp)
              try simp only [List.setIfInBounds_toArray, List.set_cons_zero, List.set_cons_succ]
              refine takeG 15 (v := .bool false) rfl (by kernel_rfl) (by kernel_rfl) (by kernel_rfl) (by kernel_rfl) (fun _ _ _ h => h) ?hy (by assumption) ?_
              case hy => (intro w' hSw; go_simp)
              try simp only [List.setIfInBounds_toArray, List.set_cons_zero, List.set_cons_succ]
              refine skipG 16 rfl (by kernel_rfl) (by kernel_rfl) (by kernel_rfl) (by kernel_rfl) (fun _ _ _ h => h) (by assumption) ?_
              try simp only [List.setIfInBounds_toArray, List.set_cons_zero, List.set_cons_succ]
              refine skipG 17 rfl (by kernel_rfl) (by kernel_rfl) (by kernel_rfl) (by kernel_rfl) (fun _ _ _ h => h) (by assumption) ?_
              try simp only [List.setIfInBounds_toArray, List.set_cons_zero, List.set_cons_succ]
              refine skipG 18 rfl (by kernel_rfl) (by kernel_rfl) (by kernel_rfl) (by kernel_rfl) (fun _ _ _ h => h) (by assumption) ?_
              try simp only [List.setIfInBounds_toArray, List.set_cons_zero, List.set_cons_succ]
              refine skipG 19 rfl (by kernel_rfl) (by kernel_rfl) (by kernel_rfl) (by kernel_rfl) (fun _ _ _ h => h) (by assumption) ?_
              try simp only [List.setIfInBounds_toArray, List.set_cons_zero, List.set_cons_succ]
              refine skipG 20 rfl (by kernel_rfl) (by kernel_rfl) (by kernel_rfl) (by kernel_rfl) (fun _ _ _ h => h) (by assumption) ?_
              try simp only [List.setIfInBounds_toArray, List.set_cons_zero, List.set_cons_succ]
              refine skipG 21 rfl (by kernel_rfl) (by kernel_rfl) (by kernel_rfl) (by kernel_rfl) (fun _ _ _ h => h) (by assumption) ?_
              try simp only [List.setIfInBounds_toArray, List.set_cons_zero, List.set_cons_succ]
              refine skipG 22 rfl (by kernel_rfl) (by kernel_rfl) (by kernel_rfl) (by kernel_rfl) (fun _ _ _ h => h) (by assumption) ?_
              try simp only [List.setIfInBounds_toArray, List.set_cons_zero, List.set_cons_succ]
              refine skipG 23 rfl (by kernel_rfl) (by kernel_rfl) (by kernel_rfl) (by kernel_rfl) (fun _ _ _ h => h) (by assumption) ?_
              try simp only [List.setIfInBounds_toArray, List.set_cons_zero, List.set_cons_succ]
              refine skipG 24 rfl (by kernel_rfl) (by kernel_rfl) (by kernel_rfl) (by kernel_rfl) (fun _ _ _ h => h) (by assumption) ?_
              try simp only [List.setIfInBounds_toArray, List.set_cons_zero, List.set_cons_succ]
              refine skipG 25 rfl (by kernel_rfl) (by kernel_rfl) (by kernel_rfl) (by kernel_rfl) (fun _ _ _ h => h) (by assumption) ?_
              try simp only [List.setIfInBounds_toArray, List.set_cons_zero, List.set_cons_succ]
              refine skipG 26 rfl (by kernel_rfl) (by kernel_rfl) (by kernel_rfl) (by kernel_rfl) (fun _ _ _ h => h) (by assumption) ?_
              try simp only [List.setIfInBounds_toArray, List.set_cons_zero, List.set_cons_succ]
              refine skipG 27 rfl (by kernel_rfl) (by kernel_rfl) (by kernel_rfl) (by kernel_rfl) (fun _ _ _ h => h) (by assumption) ?_
              try simp only [List.setIfInBounds_toArray, List.set_cons_zero, List.set_cons_succ]
              refine skipG 28 rfl (by kernel_rfl) (by kernel_rfl) (by kernel_rfl) (by kernel_rfl) (fun _ _ _ h => h) (by assumption) ?_
              try simp only [List.setIfInBounds_toArray, List.set_cons_zero, List.set_cons_succ]
              refine skipG 29 rfl (by kernel_rfl) (by kernel_rfl) (by kernel_rfl) (by kernel_rfl) (fun _ _ _ h => h) (by assumption) ?_
              try simp only [List.setIfInBounds_toArray, List.set_cons_zero, List.set_cons_succ]
              refine skipG 30 rfl (by kernel_rfl) (by kernel_rfl) (by kernel_rfl) (by kernel_rfl) (fun _ _ _ h => h) (by assumption) ?_
              try simp only [List.setIfInBounds_toArray, List.set_cons_zero, List.set_cons_succ]
              refine takeG 31 (v := .bool false) rfl (by kernel_rfl) (by kernel_rfl) (by kernel_rfl) (by kernel_rfl) (fun _ _ _ h => h) ?hy (by assumption) ?_
              case hy => (intro w' hSw; go_simp)
              try simp only [List.setIfInBounds_toArray, List.set_cons_zero, List.set_cons_succ]
              refine wpAnyH_done (by kernel_rfl) ?_ _
              have BE := bq.trans (hHeld.mono bq.size)
              go_wp2
              go_roundw
              case rel => exact ⟨k + 1, q, by omega, by go_num, rfl, HN.out, BE⟩
              case measure => simp [intOf]; omega
            · rw [decide_eq_false hpd] at hpk
              by_cases hbt : x1 = but
              · have HN : Hid (BestTo l but D (k + 1) q) := best_no HB.out hx HX.out (fun h => h.1 hbt)
                have hbt' : (x1 != but) = false := by simp [hbt]
                clear HB HX row1 B1 hbt
                refine wp_region_held_drew (S := (fun w' => Below wq.heap.size wq w')) (by kernel_rfl) ?hS0 (fun hHeld => ?_)
                case hS0 => exact (Below.refl _ _).drew
                refine takeG 0 (v := .slice (some ⟨w.heap.size, 0, none⟩) l.length l.length) rfl (by kernel_rfl) (by kernel_rfl) (by kernel_rfl) (by kernel_rfl) (fun _ _ _ h => h) ?hy (by assumption) ?_
                case hy => (intro w' hSw; go_simp)
                try simp only [List.setIfInBounds_toArray, List.set_cons_zero, List.set_cons_succ]
                refine takeG 1 (v := .int .i64 (k : Int)) rfl (by kernel_rfl) (by kernel_rfl) (by kernel_rfl) (by kernel_rfl) (fun _ _ _ h => h) ?hy (by assumption) ?_
                case hy => (intro w' hSw; go_simp)
                try simp only [List.setIfInBounds_toArray, List.set_cons_zero, List.set_cons_succ]
                refine takeG 2 (v := .pointer (some ⟨w.heap.size, k, none⟩)) rfl (by kernel_rfl) (by kernel_rfl) (by kernel_rfl) (by kernel_rfl) (fun _ _ _ h => h) ?hy (by assumption) ?_
                case hy => (intro w' hSw; go_simp)
                try simp only [List.setIfInBounds_toArray, List.set_cons_zero, List.set_cons_succ]
                refine takeG 3 (v := .bool false) rfl (by kernel_rfl) (by kernel_rfl) (by kernel_rfl) (by kernel_rfl) (fun _ _ _ h => h) ?hy (by assumption) ?_
                case hy => (intro w' hSw; have s0 := ((hA.keep hSw).cell k).trans hpk; (try dsimp only at s0); go_simp)
                try simp only [List.setIfInBounds_toArray, List.set_cons_zero, List.set_cons_succ]
                refine takeG 4 (v := .bool true) rfl (by kernel_rfl) (by kernel_rfl) (by kernel_rfl) (by kernel_rfl) (fun _ _ _ h => h) ?hy (by assumption) ?_
                case hy => (intro w' hSw; go_simp)
                try simp only [List.setIfInBounds_toArray, List.set_cons_zero, List.set_cons_succ]
                refine takeG 5 (v := .bool true) rfl (by kernel_rfl) (by kernel_rfl) (by kernel_rfl) (by kernel_rfl) (fun _ _ _ h => h) ?hy (by assumption) ?_
                case hy => (intro w' hSw; go_simp)
                try simp only [List.setIfInBounds_toArray, List.set_cons_zero, List.set_cons_succ]
                refine takeG 6 (v := .slice (some ⟨b, off, none⟩) l.length cap) rfl (by kernel_rfl) (by kernel_rfl) (by kernel_rfl) (by kernel_rfl) (fun _ _ _ h => h) ?hy (by assumption) ?_
                case hy => (intro w' hSw; go_simp)
                try simp only [List.setIfInBounds_toArray, List.set_cons_zero, List.set_cons_succ]
                refine takeG 7 (v := .int .i64 (k : Int)) rfl (by kernel_rfl) (by kernel_rfl) (by kernel_rfl) (by kernel_rfl) (fun _ _ _ h => h) ?hy (by assumption) ?_
                case hy => (intro w' hSw; go_simp)
                try simp only [List.setIfInBounds_toArray, List.set_cons_zero, List.set_cons_succ]
                refine takeG 8 (v := .pointer (some ⟨b, off + k * 4, none⟩)) rfl (by kernel_rfl) (by kernel_rfl) (by kernel_rfl) (by kernel_rfl) (fun _ _ _ h => h) ?hy (by assumption) ?_
                case hy => (intro w' hSw; go_simp)
                try simp only [List.setIfInBounds_toArray, List.set_cons_zero, List.set_cons_succ]
                refine takeG 9 (v := .pointer (some ⟨b, off + k * 4, none⟩)) rfl (by kernel_rfl) (by kernel_rfl) (by kernel_rfl) (by kernel_rfl) (fun _ _ _ h => h) ?hy (by assumption) ?_
                case hy => (intro w' hSw; go_simp)
                try simp only [List.setIfInBounds_toArray, List.set_cons_zero, List.set_cons_succ]
                refine takeG 10 (v := .pointer (some ⟨b, off + k * 4, none⟩)) rfl (by kernel_rfl) (by kernel_rfl) (by kernel_rfl) (by kernel_rfl) (fun _ _ _ h => h) ?hy (by assumption) ?_
                case hy => (intro w' hSw; go_simp)
                try simp only [List.setIfInBounds_toArray, List.set_cons_zero, List.set_cons_succ]
                refine takeG 11 (v := .int .i64 x1) rfl (by kernel_rfl) (by kernel_rfl) (by kernel_rfl) (by kernel_rfl) (fun _ _ _ h => h) ?hy (by assumption) ?_
                case hy => (intro w' hSw; obtain ⟨_, s0, s1, s2, s3⟩ := (dk).keep hSw; dsimp only at s0 s1 s2 s3; go_simp)
                try simp only [List.setIfInBounds_toArray, List.set_cons_zero, List.set_cons_succ]
                refine takeG 12 (v := .int .i64 but) rfl (by kernel_rfl) (by kernel_rfl) (by kernel_rfl) (by kernel_rfl) (fun _ _ _ h => h) ?hy (by assumption) ?_
                case hy => (intro w' hSw; go_simp)
                try simp only [List.setIfInBounds_toArray, List.set_cons_zero, List.set_cons_succ]
                refine takeG 13 (v := .bool false) rfl (by kernel_rfl) (by kernel_rfl) (by kernel_rfl) (by kernel_rfl) (fun _ _ _ h => h) ?hy (by assumption) ?_
                case hy => (intro w' hSw; go_simp)
                try simp only [List.setIfInBounds_toArray, List.set_cons_zero, List.set_cons_succ]
                refine takeG 14 (v := .bool false) rfl (by kernel_rfl) (by kernel_rfl) (by kernel_rfl) (by kernel_rfl) (fun _ _ _ h => h) ?hy (by assumption) ?_
                case hy => (intro w' hSw; go_simp)
                try simp only [List.setIfInBounds_toArray, List.set_cons_zero, List.set_cons_succ]
                refine takeG 15 (v := .bool false) rfl (by kernel_rfl) (by kernel_rfl) (by kernel_rfl) (by kernel_rfl) (fun _ _ _ h => h) ?hy (by assumption) ?_
                case hy => (intro w' hSw; go_simp)
                try simp only [List.setIfInBounds_toArray, List.set_cons_zero, List.set_cons_succ]
                refine skipG 16 rfl (by kernel_rfl) (by kernel_rfl) (by kernel_rfl) (by kernel_rfl) (fun _ _ _ h => h) (by assumption) ?_
                try simp only [List.setIfInBounds_toArray, List.set_cons_zero, List.set_cons_succ]
                refine skipG 17 rfl (by kernel_rfl) (by kernel_rfl) (by kernel_rfl) (by kernel_rfl) (fun _ _ _ h => h) (by assumption) ?_
                try simp only [List.setIfInBounds_toArray, List.set_cons_zero, List.set_cons_succ]
                refine skipG 18 rfl (by kernel_rfl) (by kernel_rfl) (by kernel_rfl) (by kernel_rfl) (fun _ _ _ h => h) (by assumption) ?_
                try simp only [List.setIfInBounds_toArray, List.set_cons_zero, List.set_cons_succ]
                refine skipG 19 rfl (by kernel_rfl) (by kernel_rfl) (by kernel_rfl) (by kernel_rfl) (fun _ _ _ h => h) (by assumption) ?_
                try simp only [List.setIfInBounds_toArray, List.set_cons_zero, List.set_cons_succ]
                refine skipG 20 rfl (by kernel_rfl) (by kernel_rfl) (by kernel_rfl) (by kernel_rfl) (fun _ _ _ h => h) (by assumption) ?_
                try simp only [List.setIfInBounds_toArray, List.set_cons_zero, List.set_cons_succ]
                refine skipG 21 rfl (by kernel_rfl) (by kernel_rfl) (by kernel_rfl) (by kernel_rfl) (fun _ _ _ h => h) (by assumption) ?_
                try simp only [List.setIfInBounds_toArray, List.set_cons_zero, List.set_cons_succ]
                refine skipG 22 rfl (by kernel_rfl) (by kernel_rfl) (by kernel_rfl) (by kernel_rfl) (fun _ _ _ h => h) (by assumption) ?_
                try simp only [List.setIfInBounds_toArray, List.set_cons_zero, List.set_cons_succ]
                refine skipG 23 rfl (by kernel_rfl) (by kernel_rfl) (by kernel_rfl) (by kernel_rfl) (fun _ _ _ h => h) (by assumption) ?_
                try simp only [List.setIfInBounds_toArray, List.set_cons_zero, List.set_cons_succ]
                refine skipG 24 rfl (by kernel_rfl) (by kernel_rfl) (by kernel_rfl) (by kernel_rfl) (fun _ _ _ h => h) (by assumption) ?_
                try simp only [List.setIfInBounds_toArray, List.set_cons_zero, List.set_cons_succ]
                refine skipG 25 rfl (by kernel_rfl) (by kernel_rfl) (by kernel_rfl) (by kernel_rfl) (fun _ _ _ h => h) (by assumption) ?_
                try simp only [List.setIfInBounds_toArray, List.set_cons_zero, List.set_cons_succ]
                refine skipG 26 rfl (by kernel_rfl) (by kernel_rfl) (by kernel_rfl) (by kernel_rfl) (fun _ _ _ h => h) (by assumption) ?_
                try simp only [List.setIfInBounds_toArray, List.set_cons_zero, List.set_cons_succ]
                refine skipG 27 rfl (by kernel_rfl) (by kernel_rfl) (by kernel_rfl) (by kernel_rfl) (fun _ _ _ h => h) (by assumption) ?_
                try simp only [List.setIfInBounds_toArray, List.set_cons_zero, List.set_cons_succ]
                refine skipG 28 rfl (by kernel_rfl) (by kernel_rfl) (by kernel_rfl) (by kernel_rfl) (fun _ _ _ h => h) (by assumption) ?_
                try simp only [List.setIfInBounds_toArray, List.set_cons_zero, List.set_cons_succ]
                refine skipG 29 rfl (by kernel_rfl) (by kernel_rfl) (by kernel_rfl) (by kernel_rfl) (fun _ _ _ h => h) (by assumption) ?_
                try simp only [List.setIfInBounds_toArray, List.set_cons_zero, List.set_cons_succ]
                refine skipG 30 rfl (by kernel_rfl) (by kernel_rfl) (by kernel_rfl) (by kernel_rfl) (fun _ _ _ h => h) (by assumption) ?_
                try simp only [List.setIfInBounds_toArray, List.set_cons_zero, List.set_cons_succ]
                refine takeG 31 (v := .bool false) rfl (by kernel_rfl) (by kernel_rfl) (by kernel_rfl) (by kernel_rfl) (fun _ _ _ h => h) ?hy (by assumption) ?_
                case hy => (intro w' hSw; go_simp)
                try simp only [List.setIfInBounds_toArray, List.set_cons_zero, List.set_cons_succ]
                refine wpAnyH_done (by kernel_rfl) ?_ _
                have BE := bq.trans (hHeld.mono bq.size)
                go_wp2
                go_roundw
                case rel => exact ⟨k + 1, q, by omega, by go_num, rfl, HN.out, BE⟩
                case measure => simp [intOf]; omega
              · have hbt' : (x1 != but) = true := by simp [hbt]
                rcases HB.out with ⟨rfl, _⟩ | ⟨t, rfl, ht, hlt⟩
                · have HN : Hid (BestTo l but D (k + 1) k) := best_first HB.out hx HX.out ⟨hbt, hpd⟩
                  clear HB HX row1 B1 hbt
                  refine wp_region_held_drew (S := (fun w' => Below wq.heap.size wq w')) (by kernel_rfl) ?hS0 (fun hHeld => ?_)
                  case hS0 => exact (Below.refl _ _).drew
                  refine takeG 0 (v := .slice (some ⟨w.heap.size, 0, none⟩) l.length l.length) rfl (by kernel_rfl) (by kernel_rfl) (by kernel_rfl) (by kernel_rfl) (fun _ _ _ h => h) ?hy (by assumption) ?_
                  case hy => (intro w' hSw; go_simp)
                  try simp only [List.setIfInBounds_toArray, List.set_cons_zero, List.set_cons_succ]
                  refine takeG 1 (v := .int .i64 (k : Int)) rfl (by kernel_rfl) (by kernel_rfl) (by kernel_rfl) (by kernel_rfl) (fun _ _ _ h => h) ?hy (by assumption) ?_
                  case hy => (intro w' hSw; go_simp)
                  try simp only [List.setIfInBounds_toArray, List.set_cons_zero, List.set_cons_succ]
                  refine takeG 2 (v := .pointer (some ⟨w.heap.size, k, none⟩)) rfl (by kernel_rfl) (by kernel_rfl) (by kernel_rfl) (by kernel_rfl) (fun _ _ _ h => h) ?hy (by assumption) ?_
                  case hy => (intro w' hSw; go_simp)
                  try simp only [List.setIfInBounds_toArray, List.set_cons_zero, List.set_cons_succ]
                  refine takeG 3 (v := .bool false) rfl (by kernel_rfl) (by kernel_rfl) (by kernel_rfl) (by kernel_rfl) (fun _ _ _ h => h) ?hy (by assumption) ?_
                  case hy => (intro w' hSw; have s0 := ((hA.keep hSw).cell k).trans hpk; (try dsimp only at s0); go_simp)
                  try simp only [List.setIfInBounds_toArray, List.set_cons_zero, List.set_cons_succ]
                  refine takeG 4 (v := .bool true) rfl (by kernel_rfl) (by kernel_rfl) (by kernel_rfl) (by kernel_rfl) (fun _ _ _ h => h) ?hy (by assumption) ?_
                  case hy => (intro w' hSw; go_simp)
                  try simp only [List.setIfInBounds_toArray, List.set_cons_zero, List.set_cons_succ]
                  refine takeG 5 (v := .bool true) rfl (by kernel_rfl) (by kernel_rfl) (by kernel_rfl) (by kernel_rfl) (fun _ _ _ h => h) ?hy (by assumption) ?_
                  case hy => (intro w' hSw; go_simp)
                  try simp only [List.setIfInBounds_toArray, List.set_cons_zero, List.set_cons_succ]
                  refine takeG 6 (v := .slice (some ⟨b, off, none⟩) l.length cap) rfl (by kernel_rfl) (by kernel_rfl) (by kernel_rfl) (by kernel_rfl) (fun _ _ _ h => h) ?hy (by assumption) ?_
                  case hy => (intro w' hSw; go_simp)
                  try simp only [List.setIfInBounds_toArray, List.set_cons_zero, List.set_cons_succ]
                  refine takeG 7 (v := .int .i64 (k : Int)) rfl (by kernel_rfl) (by kernel_rfl) (by kernel_rfl) (by kernel_rfl) (fun _ _ _ h => h) ?hy (by assumption) ?_
                  case hy => (intro w' hSw; go_simp)
                  try simp only [List.setIfInBounds_toArray, List.set_cons_zero, List.set_cons_succ]
                  refine takeG 8 (v := .pointer (some ⟨b, off + k * 4, none⟩)) rfl (by kernel_rfl) (by kernel_rfl) (by kernel_rfl) (by kernel_rfl) (fun _ _ _ h => h) ?hy (by assumption) ?_
                  case hy => (intro w' hSw; go_simp)
                  try simp only [List.setIfInBounds_toArray, List.set_cons_zero, List.set_cons_succ]
                  refine takeG 9 (v := .pointer (some ⟨b, off + k * 4, none⟩)) rfl (by kernel_rfl) (by kernel_rfl) (by kernel_rfl) (by kernel_rfl) (fun _ _ _ h => h) ?hy (by assumption) ?_
                  case hy => (intro w' hSw; go_simp)
                  try simp only [List.setIfInBounds_toArray, List.set_cons_zero, List.set_cons_succ]
                  refine takeG 10 (v := .pointer (some ⟨b, off + k * 4, none⟩)) rfl (by kernel_rfl) (by kernel_rfl) (by kernel_rfl) (by kernel_rfl) (fun _ _ _ h => h) ?hy (by assumption) ?_
                  case hy => (intro w' hSw; go_simp)
                  try simp only [List.setIfInBounds_toArray, List.set_cons_zero, List.set_cons_succ]
                  refine takeG 11 (v := .int .i64 x1) rfl (by kernel_rfl) (by kernel_rfl) (by kernel_rfl) (by kernel_rfl) (fun _ _ _ h => h) ?hy (by assumption) ?_
                  case hy => (intro w' hSw; obtain ⟨_, s0, s1, s2, s3⟩ := (dk).keep hSw; dsimp only at s0 s1 s2 s3; go_simp)
                  try simp only [List.setIfInBounds_toArray, List.set_cons_zero, List.set_cons_succ]
                  refine takeG 12 (v := .int .i64 but) rfl (by kernel_rfl) (by kernel_rfl) (by kernel_rfl) (by kernel_rfl) (fun _ _ _ h => h) ?hy (by assumption) ?_
                  case hy => (intro w' hSw; go_simp)
                  try simp only [List.setIfInBounds_toArray, List.set_cons_zero, List.set_cons_succ]
                  refine takeG 13 (v := .bool true) rfl (by kernel_rfl) (by kernel_rfl) (by kernel_rfl) (by kernel_rfl) (fun _ _ _ h => h) ?hy (by assumption) ?_
                  case hy => (intro w' hSw; go_simp)
                  try simp only [List.setIfInBounds_toArray, List.set_cons_zero, List.set_cons_succ]
                  refine takeG 14 (v := .bool true) rfl (by kernel_rfl) (by kernel_rfl) (by kernel_rfl) (by kernel_rfl) (fun _ _ _ h => h) ?hy (by assumption) ?_
                  case hy => (intro w' hSw; go_simp)
                  try simp only [List.setIfInBounds_toArray, List.set_cons_zero, List.set_cons_succ]
                  refine takeG 15 (v := .bool true) rfl (by kernel_rfl) (by kernel_rfl) (by kernel_rfl) (by kernel_rfl) (fun _ _ _ h => h) ?hy (by assumption) ?_
                  case hy => (intro w' hSw; go_simp)
                  try simp only [List.setIfInBounds_toArray, List.set_cons_zero, List.set_cons_succ]
                  refine takeG 16 (v := .int .i64 (-1)) rfl (by kernel_rfl) (by kernel_rfl) (by kernel_rfl) (by kernel_rfl) (fun _ _ _ h => h) ?hy (by assumption) ?_
                  case hy => (intro w' hSw; go_simp)
                  try simp only [List.setIfInBounds_toArray, List.set_cons_zero, List.set_cons_succ]
                  refine takeG 17 (v := .bool true) rfl (by kernel_rfl) (by kernel_rfl) (by kernel_rfl) (by kernel_rfl) (fun _ _ _ h => h) ?hy (by assumption) ?_
                  case hy => (intro w' hSw; go_simp)
                  try simp only [List.setIfInBounds_toArray, List.set_cons_zero, List.set_cons_succ]
                  refine takeG 18 (v := .bool true) rfl (by kernel_rfl) (by kernel_rfl) (by kernel_rfl) (by kernel_rfl) (fun _ _ _ h => h) ?hy (by assumption) ?_
                  case hy => (intro w' hSw; go_simp)
                  try simp only [List.setIfInBounds_toArray, List.set_cons_zero, List.set_cons_succ]
                  refine skipG 19 rfl (by kernel_rfl) (by kernel_rfl) (by kernel_rfl) (by kernel_rfl) (fun _ _ _ h => h) (by assumption) ?_
                  try simp only [List.setIfInBounds_toArray, List.set_cons_zero, List.set_cons_succ]
                  refine skipG 20 rfl (by kernel_rfl) (by kernel_rfl) (by kernel_rfl) (by kernel_rfl) (fun _ _ _ h => h) (by assumption) ?_
                  try simp only [List.setIfInBounds_toArray, List.set_cons_zero, List.set_cons_succ]
                  refine skipG 21 rfl (by kernel_rfl) (by kernel_rfl) (by kernel_rfl) (by kernel_rfl) (fun _ _ _ h => h) (by assumption) ?_
                  try simp only [List.setIfInBounds_toArray, List.set_cons_zero, List.set_cons_succ]
                  refine skipG 22 rfl (by kernel_rfl) (by kernel_rfl) (by kernel_rfl) (by kernel_rfl) (fun _ _ _ h => h) (by assumption) ?_
                  try simp only [List.setIfInBounds_toArray, List.set_cons_zero, List.set_cons_succ]
                  refine skipG 23 rfl (by kernel_rfl) (by kernel_rfl) (by kernel_rfl) (by kernel_rfl) (fun _ _ _ h => h) (by assumption) ?_
                  try simp only [List.setIfInBounds_toArray, List.set_cons_zero, List.set_cons_succ]
                  refine skipG 24 rfl (by kernel_rfl) (by kernel_rfl) (by kernel_rfl) (by kernel_rfl) (fun _ _ _ h => h) (by assumption) ?_
                  try simp only [List.setIfInBounds_toArray, List.set_cons_zero, List.set_cons_succ]
                  refine skipG 25 rfl (by kernel_rfl) (by kernel_rfl) (by kernel_rfl) (by kernel_rfl) (fun _ _ _ h => h) (by assumption) ?_
                  try simp only [List.setIfInBounds_toArray, List.set_cons_zero, List.set_cons_succ]
                  refine skipG 26 rfl (by kernel_rfl) (by kernel_rfl) (by kernel_rfl) (by kernel_rfl) (fun _ _ _ h => h) (by assumption) ?_
                  try simp only [List.setIfInBounds_toArray, List.set_cons_zero, List.set_cons_succ]
                  refine skipG 27 rfl (by kernel_rfl) (by kernel_rfl) (by kernel_rfl) (by kernel_rfl) (fun _ _ _ h => h) (by assumption) ?_
                  try simp only [List.setIfInBounds_toArray, List.set_cons_zero, List.set_cons_succ]
                  refine skipG 28 rfl (by kernel_rfl) (by kernel_rfl) (by kernel_rfl) (by kernel_rfl) (fun _ _ _ h => h) (by assumption) ?_
                  try simp only [List.setIfInBounds_toArray, List.set_cons_zero, List.set_cons_succ]
                  refine skipG 29 rfl (by kernel_rfl) (by kernel_rfl) (by kernel_rfl) (by kernel_rfl) (fun _ _ _ h => h) (by assumption) ?_
                  try simp only [List.setIfInBounds_toArray, List.set_cons_zero, List.set_cons_succ]
                  refine takeG 30 (v := .bool true) rfl (by kernel_rfl) (by kernel_rfl) (by kernel_rfl) (by kernel_rfl) (fun _ _ _ h => h) ?hy (by assumption) ?_
                  case hy => (intro w' hSw; go_simp)
                  try simp only [List.setIfInBounds_toArray, List.set_cons_zero, List.set_cons_succ]
                  refine takeG 31 (v := .bool true) rfl (by kernel_rfl) (by kernel_rfl) (by kernel_rfl) (by kernel_rfl) (fun _ _ _ h => h) ?hy (by assumption) ?_
                  case hy => (intro w' hSw; go_simp)
                  try simp only [List.setIfInBounds_toArray, List.set_cons_zero, List.set_cons_succ]
                  refine wpAnyH_done (by kernel_rfl) ?_ _
                  have BE := bq.trans (hHeld.mono bq.size)
                  go_wp2
                  go_roundw
                  case rel => exact ⟨k + 1, k, by omega, by go_num, rfl, HN.out, BE⟩
                  case measure => simp [intOf]; omega
                · obtain ⟨y, hly⟩ : ∃ y, l[t] = y := ⟨_, rfl⟩
                  have dt := row1.rum ht hly
                  have htI : (t : Int) < (l.length : Int) := by omega
                  have ht0 : ¬ (t : Int) < 0 := by omega
                  have htd : decide ((t : Int) < 0) = false := decide_eq_false ht0
                  obtain ⟨y1, y2, y3, y4⟩ := y
                  by_cases hs : x4 < y4
                  · have HN : Hid (BestTo l but D (k + 1) k) := best_less HB.out hx HX.out ht hly ⟨hbt, hpd⟩ hs
                    have hsd : decide (x4 < y4) = true := decide_eq_true hs
                    clear HB HX row1 B1 hbt hly hlt hs
                    refine wp_region_held_drew (S := (fun w' => Below wq.heap.size wq w')) (by kernel_rfl) ?hS0 (fun hHeld => ?_)
                    case hS0 => exact (Below.refl _ _).drew
                    refine takeG 0 (v := .slice (some ⟨w.heap.size, 0, none⟩) l.length l.length) rfl (by kernel_rfl) (by kernel_rfl) (by kernel_rfl) (by kernel_rfl) (fun _ _ _ h => h) ?hy (by assumption) ?_
                    case hy => (intro w' hSw; go_simp)
                    try simp only [List.setIfInBounds_toArray, List.set_cons_zero, List.set_cons_succ]
                    refine takeG 1 (v := .int .i64 (k : Int)) rfl (by kernel_rfl) (by kernel_rfl) (by kernel_rfl) (by kernel_rfl) (fun _ _ _ h => h) ?hy (by assumption) ?_
                    case hy => (intro w' hSw; go_simp)
                    try simp only [List.setIfInBounds_toArray, List.set_cons_zero, List.set_cons_succ]
                    refine takeG 2 (v := .pointer (some ⟨w.heap.size, k, none⟩)) rfl (by kernel_rfl) (by kernel_rfl) (by kernel_rfl) (by kernel_rfl) (fun _ _ _ h => h) ?hy (by assumption) ?_
                    case hy => (intro w' hSw; go_simp)
                    try simp only [List.setIfInBounds_toArray, List.set_cons_zero, List.set_cons_succ]
                    refine takeG 3 (v := .bool false) rfl (by kernel_rfl) (by kernel_rfl) (by kernel_rfl) (by kernel_rfl) (fun _ _ _ h => h) ?hy (by assumption) ?_
                    case hy => (intro w' hSw; have s0 := ((hA.keep hSw).cell k).trans hpk; (try dsimp only at s0); go_simp)
                    try simp only [List.setIfInBounds_toArray, List.set_cons_zero, List.set_cons_succ]
                    refine takeG 4 (v := .bool true) rfl (by kernel_rfl) (by kernel_rfl) (by kernel_rfl) (by kernel_rfl) (fun _ _ _ h => h) ?hy (by assumption) ?_
                    case hy => (intro w' hSw; go_simp)
                    try simp only [List.setIfInBounds_toArray, List.set_cons_zero, List.set_cons_succ]
                    refine takeG 5 (v := .bool true) rfl (by kernel_rfl) (by kernel_rfl) (by kernel_rfl) (by kernel_rfl) (fun _ _ _ h => h) ?hy (by assumption) ?_
                    case hy => (intro w' hSw; go_simp)
                    try simp only [List.setIfInBounds_toArray, List.set_cons_zero, List.set_cons_succ]
                    refine takeG 6 (v := .slice (some ⟨b, off, none⟩) l.length cap) rfl (by kernel_rfl) (by kernel_rfl) (by kernel_rfl) (by kernel_rfl) (fun _ _ _ h => h) ?hy (by assumption) ?_
                    case hy => (intro w' hSw; go_simp)
                    try simp only [List.setIfInBounds_toArray, List.set_cons_zero, List.set_cons_succ]
                    refine takeG 7 (v := .int .i64 (k : Int)) rfl (by kernel_rfl) (by kernel_rfl) (by kernel_rfl) (by kernel_rfl) (fun _ _ _ h => h) ?hy (by assumption) ?_
                    case hy => (intro w' hSw; go_simp)
                    try simp only [List.setIfInBounds_toArray, List.set_cons_zero, List.set_cons_succ]
                    refine takeG 8 (v := .pointer (some ⟨b, off + k * 4, none⟩)) rfl (by kernel_rfl) (by kernel_rfl) (by kernel_rfl) (by kernel_rfl) (fun _ _ _ h => h) ?hy (by assumption) ?_
                    case hy => (intro w' hSw; go_simp)
                    try simp only [List.setIfInBounds_toArray, List.set_cons_zero, List.set_cons_succ]
                    refine takeG 9 (v := .pointer (some ⟨b, off + k * 4, none⟩)) rfl (by kernel_rfl) (by kernel_rfl) (by kernel_rfl) (by kernel_rfl) (fun _ _ _ h => h) ?hy (by assumption) ?_
                    case hy => (intro w' hSw; go_simp)
                    try simp only [List.setIfInBounds_toArray, List.set_cons_zero, List.set_cons_succ]
                    refine takeG 10 (v := .pointer (some ⟨b, off + k * 4, none⟩)) rfl (by kernel_rfl) (by kernel_rfl) (by kernel_rfl) (by kernel_rfl) (fun _ _ _ h => h) ?hy (by assumption) ?_
                    case hy => (intro w' hSw; go_simp)
                    try simp only [List.setIfInBounds_toArray, List.set_cons_zero, List.set_cons_succ]
                    refine takeG 11 (v := .int .i64 x1) rfl (by kernel_rfl) (by kernel_rfl) (by kernel_rfl) (by kernel_rfl) (fun _ _ _ h => h) ?hy (by assumption) ?_
                    case hy => (intro w' hSw; obtain ⟨_, s0, s1, s2, s3⟩ := (dk).keep hSw; dsimp only at s0 s1 s2 s3; go_simp)
                    try simp only [List.setIfInBounds_toArray, List.set_cons_zero, List.set_cons_succ]
                    refine takeG 12 (v := .int .i64 but) rfl (by kernel_rfl) (by kernel_rfl) (by kernel_rfl) (by kernel_rfl) (fun _ _ _ h => h) ?hy (by assumption) ?_
                    case hy => (intro w' hSw; go_simp)
                    try simp only [List.setIfInBounds_toArray, List.set_cons_zero, List.set_cons_succ]
                    refine takeG 13 (v := .bool true) rfl (by kernel_rfl) (by kernel_rfl) (by kernel_rfl) (by kernel_rfl) (fun _ _ _ h => h) ?hy (by assumption) ?_
                    case hy => (intro w' hSw; go_simp)
                    try simp only [List.setIfInBounds_toArray, List.set_cons_zero, List.set_cons_succ]
                    refine takeG 14 (v := .bool true) rfl (by kernel_rfl) (by kernel_rfl) (by kernel_rfl) (by kernel_rfl) (fun _ _ _ h => h) ?hy (by assumption) ?_
                    case hy => (intro w' hSw; go_simp)
                    try simp only [List.setIfInBounds_toArray, List.set_cons_zero, List.set_cons_succ]
                    refine takeG 15 (v := .bool true) rfl (by kernel_rfl) (by kernel_rfl) (by kernel_rfl) (by kernel_rfl) (fun _ _ _ h => h) ?hy (by assumption) ?_
                    case hy => (intro w' hSw; go_simp)
                    try simp only [List.setIfInBounds_toArray, List.set_cons_zero, List.set_cons_succ]
                    refine takeG 16 (v := .int .i64 (t : Int)) rfl (by kernel_rfl) (by kernel_rfl) (by kernel_rfl) (by kernel_rfl) (fun _ _ _ h => h) ?hy (by assumption) ?_
                    case hy => (intro w' hSw; go_simp)
                    try simp only [List.setIfInBounds_toArray, List.set_cons_zero, List.set_cons_succ]
                    refine takeG 17 (v := .bool false) rfl (by kernel_rfl) (by kernel_rfl) (by kernel_rfl) (by kernel_rfl) (fun _ _ _ h => h) ?hy (by assumption) ?_
                    case hy => (intro w' hSw; go_simp)
                    try simp only [List.setIfInBounds_toArray, List.set_cons_zero, List.set_cons_succ]
                    refine takeG 18 (v := .bool false) rfl (by kernel_rfl) (by kernel_rfl) (by kernel_rfl) (by kernel_rfl) (fun _ _ _ h => h) ?hy (by assumption) ?_
                    case hy => (intro w' hSw; go_simp)
                    try simp only [List.setIfInBounds_toArray, List.set_cons_zero, List.set_cons_succ]
                    refine takeG 19 (v := .slice (some ⟨b, off, none⟩) l.length cap) rfl (by kernel_rfl) (by kernel_rfl) (by kernel_rfl) (by kernel_rfl) (fun _ _ _ h => h) ?hy (by assumption) ?_
                    case hy => (intro w' hSw; go_simp)
                    try simp only [List.setIfInBounds_toArray, List.set_cons_zero, List.set_cons_succ]
                    refine takeG 20 (v := .int .i64 (k : Int)) rfl (by kernel_rfl) (by kernel_rfl) (by kernel_rfl) (by kernel_rfl) (fun _ _ _ h => h) ?hy (by assumption) ?_
                    case hy => (intro w' hSw; go_simp)
                    try simp only [List.setIfInBounds_toArray, List.set_cons_zero, List.set_cons_succ]
                    refine takeG 21 (v := .pointer (some ⟨b, off + k * 4, none⟩)) rfl (by kernel_rfl) (by kernel_rfl) (by kernel_rfl) (by kernel_rfl) (fun _ _ _ h => h) ?hy (by assumption) ?_
                    case hy => (intro w' hSw; go_simp)
                    try simp only [List.setIfInBounds_toArray, List.set_cons_zero, List.set_cons_succ]
                    refine takeG 22 (v := .pointer (some ⟨b, off + k * 4 + 3, none⟩)) rfl (by kernel_rfl) (by kernel_rfl) (by kernel_rfl) (by kernel_rfl) (fun _ _ _ h => h) ?hy (by assumption) ?_
                    case hy => (intro w' hSw; go_simp)
                    try simp only [List.setIfInBounds_toArray, List.set_cons_zero, List.set_cons_succ]
                    refine takeG 23 (v := .int .i64 x4) rfl (by kernel_rfl) (by kernel_rfl) (by kernel_rfl) (by kernel_rfl) (fun _ _ _ h => h) ?hy (by assumption) ?_
                    case hy => (intro w' hSw; obtain ⟨_, s0, s1, s2, s3⟩ := (dk).keep hSw; dsimp only at s0 s1 s2 s3; go_simp)
                    try simp only [List.setIfInBounds_toArray, List.set_cons_zero, List.set_cons_succ]
                    refine takeG 24 (v := .slice (some ⟨b, off, none⟩) l.length cap) rfl (by kernel_rfl) (by kernel_rfl) (by kernel_rfl) (by kernel_rfl) (fun _ _ _ h => h) ?hy (by assumption) ?_
                    case hy => (intro w' hSw; go_simp)
                    try simp only [List.setIfInBounds_toArray, List.set_cons_zero, List.set_cons_succ]
                    refine takeG 25 (v := .int .i64 (t : Int)) rfl (by kernel_rfl) (by kernel_rfl) (by kernel_rfl) (by kernel_rfl) (fun _ _ _ h => h) ?hy (by assumption) ?_
                    case hy => (intro w' hSw; go_simp)
                    try simp only [List.setIfInBounds_toArray, List.set_cons_zero, List.set_cons_succ]
                    refine takeG 26 (v := .pointer (some ⟨b, off + t * 4, none⟩)) rfl (by kernel_rfl) (by kernel_rfl) (by kernel_rfl) (by kernel_rfl) (fun _ _ _ h => h) ?hy (by assumption) ?_
                    case hy => (intro w' hSw; go_simp)
                    try simp only [List.setIfInBounds_toArray, List.set_cons_zero, List.set_cons_succ]
                    refine takeG 27 (v := .pointer (some ⟨b, off + t * 4 + 3, none⟩)) rfl (by kernel_rfl) (by kernel_rfl) (by kernel_rfl) (by kernel_rfl) (fun _ _ _ h => h) ?hy (by assumption) ?_
                    case hy => (intro w' hSw; go_simp)
                    try simp only [List.setIfInBounds_toArray, List.set_cons_zero, List.set_cons_succ]
                    refine takeG 28 (v := .int .i64 y4) rfl (by kernel_rfl) (by kernel_rfl) (by kernel_rfl) (by kernel_rfl) (fun _ _ _ h => h) ?hy (by assumption) ?_
                    case hy => (intro w' hSw; obtain ⟨_, s0, s1, s2, s3⟩ := (dt).keep hSw; dsimp only at s0 s1 s2 s3; go_simp)
                    try simp only [List.setIfInBounds_toArray, List.set_cons_zero, List.set_cons_succ]
                    refine takeG 29 (v := .bool true) rfl (by kernel_rfl) (by kernel_rfl) (by kernel_rfl) (by kernel_rfl) (fun _ _ _ h => h) ?hy (by assumption) ?_
                    case hy => (intro w' hSw; go_simp)
                    try simp only [List.setIfInBounds_toArray, List.set_cons_zero, List.set_cons_succ]
                    refine takeG 30 (v := .bool true) rfl (by kernel_rfl) (by kernel_rfl) (by kernel_rfl) (by kernel_rfl) (fun _ _ _ h => h) ?hy (by assumption) ?_
                    case hy => (intro w' hSw; go_simp)
                    try simp only [List.setIfInBounds_toArray, List.set_cons_zero, List.set_cons_succ]
                    refine takeG 31 (v := .bool true) rfl (by kernel_rfl) (by kernel_rfl) (by kernel_rfl) (by kernel_rfl) (fun _ _ _ h => h) ?hy (by assumption) ?_
                    case hy => (intro w' hSw; go_simp)
                    try simp only [List.setIfInBounds_toArray, List.set_cons_zero, List.set_cons_succ]
                    refine wpAnyH_done (by kernel_rfl) ?_ _
                    have BE := bq.trans (hHeld.mono bq.size)
                    go_wp2
                    go_roundw
                    case rel => exact ⟨k + 1, k, by omega, by go_num, rfl, HN.out, BE⟩
                    case measure => simp [intOf]; omega
                  · have HN : Hid (BestTo l but D (k + 1) t) := best_not HB.out hx HX.out ht hly ⟨hbt, hpd⟩ hs
                    have hsd : decide (x4 < y4) = false := decide_eq_false hs
                    clear HB HX row1 B1 hbt hly hlt hs
                    refine wp_region_held_drew (S := (fun w' => Below wq.heap.size wq w')) (by kernel_rfl) ?hS0 (fun hHeld => ?_)
                    case hS0 => exact (Below.refl _ _).drew
                    refine takeG 0 (v := .slice (some ⟨w.heap.size, 0, none⟩) l.length l.length) rfl (by kernel_rfl) (by kernel_rfl) (by kernel_rfl) (by kernel_rfl) (fun _ _ _ h => h) ?hy (by assumption) ?_
                    case hy => (intro w' hSw; go_simp)
                    try simp only [List.setIfInBounds_toArray, List.set_cons_zero, List.set_cons_succ]
                    refine takeG 1 (v := .int .i64 (k : Int)) rfl (by kernel_rfl) (by kernel_rfl) (by kernel_rfl) (by kernel_rfl) (fun _ _ _ h => h) ?hy (by assumption) ?_
                    case hy => (intro w' hSw; go_simp)
                    try simp only [List.setIfInBounds_toArray, List.set_cons_zero, List.set_cons_succ]
                    refine takeG 2 (v := .pointer (some ⟨w.heap.size, k, none⟩)) rfl (by kernel_rfl) (by kernel_rfl) (by kernel_rfl) (by kernel_rfl) (fun _ _ _ h => h) ?hy (by assumption) ?_
                    case hy => (intro w' hSw; go_simp)
                    try simp only [List.setIfInBounds_toArray, List.set_cons_zero, List.set_cons_succ]
                    refine takeG 3 (v := .bool false) rfl (by kernel_rfl) (by kernel_rfl) (by kernel_rfl) (by kernel_rfl) (fun _ _ _ h => h) ?hy (by assumption) ?_
                    case hy => (intro w' hSw; have s0 := ((hA.keep hSw).cell k).trans hpk; (try dsimp only at s0); go_simp)
                    try simp only [List.setIfInBounds_toArray, List.set_cons_zero, List.set_cons_succ]
                    refine takeG 4 (v := .bool true) rfl (by kernel_rfl) (by kernel_rfl) (by kernel_rfl) (by kernel_rfl) (fun _ _ _ h => h) ?hy (by assumption) ?_
                    case hy => (intro w' hSw; go_simp)
                    try simp only [List.setIfInBounds_toArray, List.set_cons_zero, List.set_cons_succ]
                    refine takeG 5 (v := .bool true) rfl (by kernel_rfl) (by kernel_rfl) (by kernel_rfl) (by kernel_rfl) (fun _ _ _ h => h) ?hy (by assumption) ?_
                    case hy => (intro w' hSw; go_simp)
                    try simp only [List.setIfInBounds_toArray, List.set_cons_zero, List.set_cons_succ]
                    refine takeG 6 (v := .slice (some ⟨b, off, none⟩) l.length cap) rfl (by kernel_rfl) (by kernel_rfl) (by kernel_rfl) (by kernel_rfl) (fun _ _ _ h => h) ?hy (by assumption) ?_
                    case hy => (intro w' hSw; go_simp)
                    try simp only [List.setIfInBounds_toArray, List.set_cons_zero, List.set_cons_succ]
                    refine takeG 7 (v := .int .i64 (k : Int)) rfl (by kernel_rfl) (by kernel_rfl) (by kernel_rfl) (by kernel_rfl) (fun _ _ _ h => h) ?hy (by assumption) ?_
                    case hy => (intro w' hSw; go_simp)
                    try simp only [List.setIfInBounds_toArray, List.set_cons_zero, List.set_cons_succ]
                    refine takeG 8 (v := .pointer (some ⟨b, off + k * 4, none⟩)) rfl (by kernel_rfl) (by kernel_rfl) (by kernel_rfl) (by kernel_rfl) (fun _ _ _ h => h) ?hy (by assumption) ?_
                    case hy => (intro w' hSw; go_simp)
                    try simp only [List.setIfInBounds_toArray, List.set_cons_zero, List.set_cons_succ]
                    refine takeG 9 (v := .pointer (some ⟨b, off + k * 4, none⟩)) rfl (by kernel_rfl) (by kernel_rfl) (by kernel_rfl) (by kernel_rfl) (fun _ _ _ h => h) ?hy (by assumption) ?_
                    case hy => (intro w' hSw; go_simp)
                    try simp only [List.setIfInBounds_toArray, List.set_cons_zero, List.set_cons_succ]
                    refine takeG 10 (v := .pointer (some ⟨b, off + k * 4, none⟩)) rfl (by kernel_rfl) (by kernel_rfl) (by kernel_rfl) (by kernel_rfl) (fun _ _ _ h => h) ?hy (by assumption) ?_
                    case hy => (intro w' hSw; go_simp)
                    try simp only [List.setIfInBounds_toArray, List.set_cons_zero, List.set_cons_succ]
                    refine takeG 11 (v := .int .i64 x1) rfl (by kernel_rfl) (by kernel_rfl) (by kernel_rfl) (by kernel_rfl) (fun _ _ _ h => h) ?hy (by assumption) ?_
                    case hy => (intro w' hSw; obtain ⟨_, s0, s1, s2, s3⟩ := (dk).keep hSw; dsimp only at s0 s1 s2 s3; go_simp)
                    try simp only [List.setIfInBounds_toArray, List.set_cons_zero, List.set_cons_succ]
                    refine takeG 12 (v := .int .i64 but) rfl (by kernel_rfl) (by kernel_rfl) (by kernel_rfl) (by kernel_rfl) (fun _ _ _ h => h) ?hy (by assumption) ?_
                    case hy => (intro w' hSw; go_simp)
                    try simp only [List.setIfInBounds_toArray, List.set_cons_zero, List.set_cons_succ]
                    refine takeG 13 (v := .bool true) rfl (by kernel_rfl) (by kernel_rfl) (by kernel_rfl) (by kernel_rfl) (fun _ _ _ h => h) ?hy (by assumption) ?_
                    case hy => (intro w' hSw; go_simp)
                    try simp only [List.setIfInBounds_toArray, List.set_cons_zero, List.set_cons_succ]
                    refine takeG 14 (v := .bool true) rfl (by kernel_rfl) (by kernel_rfl) (by kernel_rfl) (by kernel_rfl) (fun _ _ _ h => h) ?hy (by assumption) ?_
                    case hy => (intro w' hSw; go_simp)
                    try simp only [List.setIfInBounds_toArray, List.set_cons_zero, List.set_cons_succ]
                    refine takeG 15 (v := .bool true) rfl (by kernel_rfl) (by kernel_rfl) (by kernel_rfl) (by kernel_rfl) (fun _ _ _ h => h) ?hy (by assumption) ?_
                    case hy => (intro w' hSw; go_simp)
                    try simp only [List.setIfInBounds_toArray, List.set_cons_zero, List.set_cons_succ]
                    refine takeG 16 (v := .int .i64 (t : Int)) rfl (by kernel_rfl) (by kernel_rfl) (by kernel_rfl) (by kernel_rfl) (fun _ _ _ h => h) ?hy (by assumption) ?_
                    case hy => (intro w' hSw; go_simp)
                    try simp only [List.setIfInBounds_toArray, List.set_cons_zero, List.set_cons_succ]
                    refine takeG 17 (v := .bool false) rfl (by kernel_rfl) (by kernel_rfl) (by kernel_rfl) (by kernel_rfl) (fun _ _ _ h => h) ?hy (by assumption) ?_
                    case hy => (intro w' hSw; go_simp)
                    try simp only [List.setIfInBounds_toArray, List.set_cons_zero, List.set_cons_succ]
                    refine takeG 18 (v := .bool false) rfl (by kernel_rfl) (by kernel_rfl) (by kernel_rfl) (by kernel_rfl) (fun _ _ _ h => h) ?hy (by assumption) ?_
                    case hy => (intro w' hSw; go_simp)
                    try simp only [List.setIfInBounds_toArray, List.set_cons_zero, List.set_cons_succ]
                    refine takeG 19 (v := .slice (some ⟨b, off, none⟩) l.length cap) rfl (by kernel_rfl) (by kernel_rfl) (by kernel_rfl) (by kernel_rfl) (fun _ _ _ h => h) ?hy (by assumption) ?_
                    case hy => (intro w' hSw; go_simp)
                    try simp only [List.setIfInBounds_toArray, List.set_cons_zero, List.set_cons_succ]
                    refine takeG 20 (v := .int .i64 (k : Int)) rfl (by kernel_rfl) (by kernel_rfl) (by kernel_rfl) (by kernel_rfl) (fun _ _ _ h => h) ?hy (by assumption) ?_
                    case hy => (intro w' hSw; go_simp)
                    try simp only [List.setIfInBounds_toArray, List.set_cons_zero, List.set_cons_succ]
                    refine takeG 21 (v := .pointer (some ⟨b, off + k * 4, none⟩)) rfl (by kernel_rfl) (by kernel_rfl) (by kernel_rfl) (by kernel_rfl) (fun _ _ _ h => h) ?hy (by assumption) ?_
                    case hy => (intro w' hSw; go_simp)
                    try simp only [List.setIfInBounds_toArray, List.set_cons_zero, List.set_cons_succ]
                    refine takeG 22 (v := .pointer (some ⟨b, off + k * 4 + 3, none⟩)) rfl (by kernel_rfl) (by kernel_rfl) (by kernel_rfl) (by kernel_rfl) (fun _ _ _ h => h) ?hy (by assumption) ?_
                    case hy => (intro w' hSw; go_simp)
                    try simp only [List.setIfInBounds_toArray, List.set_cons_zero, List.set_cons_succ]
                    refine takeG 23 (v := .int .i64 x4) rfl (by kernel_rfl) (by kernel_rfl) (by kernel_rfl) (by kernel_rfl) (fun _ _ _ h => h) ?hy (by assumption) ?_
                    case hy => (intro w' hSw; obtain ⟨_, s0, s1, s2, s3⟩ := (dk).keep hSw; dsimp only at s0 s1 s2 s3; go_simp)
                    try simp only [List.setIfInBounds_toArray, List.set_cons_zero, List.set_cons_succ]
                    refine takeG 24 (v := .slice (some ⟨b, off, none⟩) l.length cap) rfl (by kernel_rfl) (by kernel_rfl) (by kernel_rfl) (by kernel_rfl) (fun _ _ _ h => h) ?hy (by assumption) ?_
                    case hy => (intro w' hSw; go_simp)
                    try simp only [List.setIfInBounds_toArray, List.set_cons_zero, List.set_cons_succ]
                    refine takeG 25 (v := .int .i64 (t : Int)) rfl (by kernel_rfl) (by kernel_rfl) (by kernel_rfl) (by kernel_rfl) (fun _ _ _ h => h) ?hy (by assumption) ?_
                    case hy => (intro w' hSw; go_simp)
                    try simp only [List.setIfInBounds_toArray, List.set_cons_zero, List.set_cons_succ]
                    refine takeG 26 (v := .pointer (some ⟨b, off + t * 4, none⟩)) rfl (by kernel_rfl) (by kernel_rfl) (by kernel_rfl) (by kernel_rfl) (fun _ _ _ h => h) ?hy (by assumption) ?_
                    case hy => (intro w' hSw; go_simp)
                    try simp only [List.setIfInBounds_toArray, List.set_cons_zero, List.set_cons_succ]
                    refine takeG 27 (v := .pointer (some ⟨b, off + t * 4 + 3, none⟩)) rfl (by kernel_rfl) (by kernel_rfl) (by kernel_rfl) (by kernel_rfl) (fun _ _ _ h => h) ?hy (by assumption) ?_
                    case hy => (intro w' hSw; go_simp)
                    try simp only [List.setIfInBounds_toArray, List.set_cons_zero, List.set_cons_succ]
                    refine takeG 28 (v := .int .i64 y4) rfl (by kernel_rfl) (by kernel_rfl) (by kernel_rfl) (by kernel_rfl) (fun _ _ _ h => h) ?hy (by assumption) ?_
                    case hy => (intro w' hSw; obtain ⟨_, s0, s1, s2, s3⟩ := (dt).keep hSw; dsimp only at s0 s1 s2 s3; go_simp)
                    try simp only [List.setIfInBounds_toArray, List.set_cons_zero, List.set_cons_succ]
                    refine takeG 29 (v := .bool false) rfl (by kernel_rfl) (by kernel_rfl) (by kernel_rfl) (by kernel_rfl) (fun _ _ _ h => h) ?hy (by assumption) ?_
                    case hy => (intro w' hSw; go_simp)
                    try simp only [List.setIfInBounds_toArray, List.set_cons_zero, List.set_cons_succ]
                    refine takeG 30 (v := .bool false) rfl (by kernel_rfl) (by kernel_rfl) (by kernel_rfl) (by kernel_rfl) (fun _ _ _ h => h) ?hy (by assumption) ?_
                    case hy => (intro w' hSw; go_simp)
                    try simp only [List.setIfInBounds_toArray, List.set_cons_zero, List.set_cons_succ]
                    refine takeG 31 (v := .bool false) rfl (by kernel_rfl) (by kernel_rfl) (by kernel_rfl) (by kernel_rfl) (fun _ _ _ h => h) ?hy (by assumption) ?_
                    case hy => (intro w' hSw; go_simp)
                    try simp only [List.setIfInBounds_toArray, List.set_cons_zero, List.set_cons_succ]
                    refine wpAnyH_done (by kernel_rfl) ?_ _
                    have BE := bq.trans (hHeld.mono bq.size)
                    go_wp2
                    go_roundw
                    case rel => exact ⟨k + 1, t, by omega, by go_num, rfl, HN.out, BE⟩
                    case measure => simp [intOf]; omega
          · obtain rfl : k = l.length := by omega
            have B1 := hb.trans (bq.mono hb.size)
            have A1 := hA.keep bq
            have O1 := rowBelow hou bq
            have hB := HB.out
            unfold BestTo at hB
            rw [List.take_length] at hB
            rcases hB with ⟨rfl, hnone⟩ | ⟨t, rfl, ht, hlt⟩
            · have HE : Hid (pickedR l but = D) := spick_end HTO.out (.inl hnone)
              clear HB hnone HTO HDV bq hb hA hou
              go_wp2_with fail
              go_meet
              case rel => exact ⟨D, fb, fcap, rfl, HE.out, A1, O1, B1⟩
            · obtain ⟨b, off, rfl⟩ := hrow.addr (by rw [cellsOf_length RumV.cells_len]; omega)
              have row1 := hrow.keep B1
              obtain ⟨x, hlx⟩ : ∃ x, l[t] = x := ⟨_, rfl⟩
              rw [hlx] at hlt
              have hxl : x ∈ l := by rw [← hlx]; exact List.getElem_mem ht
              have HN : Hid (SPickTo l but (n + 1) (D ++ [x])) := spick_next HTO.out hn hlt
              have HXO : Hid (x.fact.ok) := (HR.out.1 x hxl).1
              have hAt := pickL_at (D := D) ht hlx
              have hAp := pickL_put (D := D) HR.out.2 ht hlx
              have c1 : wq.cell? ⟨w.heap.size, t, none⟩ = some (.bool (decide (x.node ∈ D.map RumV.node))) := (A1.cell t).trans hAt
              have f1 := A1.fz t
              have A2 := A1.put t (.bool true)
              rw [hAp] at A2
              have KS : Keeps (fun q => q ≠ w.heap.size) wq (wq.setCell ⟨w.heap.size, t, none⟩ (.bool true)) := (Keeps.refl _ _).setCell (fun h => h rfl) _
              have hnf : Value.ownBlock (.slice (some ⟨fb, 0, none⟩) (factsR D).length fcap) ≠ some w.heap.size := A1.not_row (by decide) O1
              have O2 := rowKeep O1 KS (fun g hg e => hnf (by rw [hg, e]))
              have B2 := B1.setCell (p := ⟨w.heap.size, t, none⟩) (Nat.le_refl _) (.bool true)
              have htI : (t : Int) < (l.length : Int) := by omega
              have ht0 : ¬ (t : Int) < 0 := by omega
              have row2 := hrow.keep B2
              have dt := row2.rum ht hlx
              have HPL : Hid (placeF (factsR D) x.fact.node (placeN (factsR D) x.fact.node)) := placeN_is (rightV_rise HDV.out) _
              have HAD : Hid (putL (factsR D) x.fact (placeN (factsR D) x.fact.node) = factsR (D ++ [x])) := by show _ = _; rw [factsR_snoc]; rfl
              obtain ⟨rn, hrn⟩ := tells_bool (newsAt (factsR D) x.fact (placeN (factsR D) x.fact.node))
              have HRN : Hid (rn = true ↔ newsAt (factsR D) x.fact (placeN (factsR D) x.fact.node)) := hrn
              have hf6 := rightV_len HDV.out
              obtain ⟨x1, x2, x3, x4⟩ := x
              dsimp only at c1
              obtain ⟨Y, hY⟩ : ∃ Y, wq.setCell ⟨w.heap.size, t, none⟩ (.bool true) = Y := ⟨_, rfl⟩
              rw [hY] at A2 O2 B2 row2 dt
              have HY : Hid (_ = Y) := hY
              obtain ⟨_, d0, d1, d2, d3⟩ := dt
              dsimp only at d0 d1 d2 d3
              have rowF : CellRow Y (some ⟨fb, 0, none⟩) (cellsOf FactV.cells (factsR D)) := by
                obtain ⟨a', c', e, r⟩ := OwnsRow.cellRowF O2
                simp only [Value.slice.injEq, true_and] at e
                rw [e.1]; exact r
              have hff := field_viewR
              clear hY hlx hxl hlt HB HTO bq hb hA hou row1 row2 A1 O1 B1 KS hrn hnf hAt hAp
              go_upto_region 14 with fail
              rw [HY.out]
              clear HY c1 f1
              go_wp2_with fail
              refine (specL04Put_any fb 0 fcap (placeN (factsR D) x1) (factsR D) ⟨x1, x2, x3⟩ rn _ (by omega) (rightV_rise HDV.out) HPL.out HRN.out hfc (by omega) rowF).mono ?_
              rintro e z ⟨v3, rfl, own3, bz⟩
              have hl3 : (putL (factsR D) ⟨x1, x2, x3⟩ (placeN (factsR D) x1)) = factsR (D ++ [⟨x1, x2, x3, x4⟩]) := HAD.out
              rw [hl3] at own3
              have hpos : 0 < (factsR (D ++ [⟨x1, x2, x3, x4⟩])).length := by
                rw [← hl3]; exact putL_posR _ _ _
              rcases own3.2 with ⟨_, h0⟩ | ⟨g, gc, cur, rfl, hgb, _, hgc, hgm, _, _⟩
              · omega
              have A3 := A2.keep bz
              have B3 := B2.trans (bz.mono B2.size)
              have O3 := rowLe own3 B2.size
              unfold outV
              clear own3 bz A2 B2 O2 rowF d0 d1 d2 d3 HAD HPL HRN hl3
              go_wp2
              go_roundw
              case rel => exact ⟨n + 1, _, g, gc, by go_num, rfl, hgc, by unfold maxLen at hgm; omega, HN.out, A3, O3, B3⟩
              case measure => simp [intOf]; omega
      · obtain rfl : n = 3 := by omega
        have HE : Hid (pickedR l but = D) := spick_end HTO.out (.inr rfl)
        clear HTO HDV
        go_wp2_with fail
        go_meet
        case rel => exact ⟨D, fb, fcap, rfl, HE.out, hA, hou, hb⟩
  case rest =>
    obtain ⟨D, fb, fcap, rfl, hD, hA0, hF0, B0c⟩ := hcut
    have HD : Hid (pickedR l but = D) := hD
    obtain ⟨X, rfl⟩ : ∃ X, X = wc := ⟨wc, rfl⟩
    have bL : Below X.heap.size X (X.alloc (.cells #[] 39)) := (Below.refl _ _).alloc (Nat.le_refl _) _
    have hAL := hA0.keep bL
    have hFL := rowBelow hF0 bL
    have BL := B0c.trans (bL.mono B0c.size)
    have OL : (X.alloc (.cells #[] 39)).ownsRow w.heap.size 39 4 (.slice (some ⟨X.heap.size, 0, none⟩) 0 0) (toldR (l.take 0) D).length (cellsOf RumV.cells (toldR (l.take 0) D)) := World.ownsRow_lit _ #[] 0 B0c.size (by simp [maxLen]) rfl
    clear bL hD hA0 hF0 B0c
    go_wp2
    go_loopw [12, 11] (fun i v wj => ∃ j : Nat, j ≤ l.length ∧ i = .int .i64 j ∧ BlkIs wj w.heap.size 4 (pickL l D).toArray ∧ wj.ownsRow w.heap.size 25 3 (.slice (some ⟨fb, 0, none⟩) (factsR D).length fcap) (factsR D).length (cellsOf FactV.cells (factsR D)) ∧ wj.ownsRow w.heap.size 39 4 v (toldR (l.take j) D).length (cellsOf RumV.cells (toldR (l.take j) D)) ∧ Below w.heap.size w wj) (fun i _ _ => l.length - (intOf i).toNat)
    case atStart => exact ⟨0, Nat.zero_le _, rfl, hAL, hFL, OL, BL⟩
    case round =>
      obtain ⟨j, hj, rfl, hA, hF, hO, hb⟩ := hrel
      obtain ⟨wj, rfl⟩ : ∃ wj, wj = wr := ⟨wr, rfl⟩
      clear hAL hFL OL BL
      by_cases hx : j < l.length
      · obtain ⟨b, off, rfl⟩ := hrow.addr (by rw [cellsOf_length RumV.cells_len]; omega)
        obtain ⟨x, hlx⟩ : ∃ x, l[j] = x := ⟨_, rfl⟩
        have dm := (hrow.keep hb).rum hx hlx
        have hxl : x ∈ l := by rw [← hlx]; exact List.getElem_mem hx
        have hxo := HR.out.1 x hxl
        have hAt := pickL_at (D := D) hx hlx
        have hjI : (j : Int) < (l.length : Int) := by omega
        have HT : Hid (toldR (l.take (j + 1)) D = toldR (l.take j) D ++ (toldS D x).toList) := by show _ = _; rw [List.take_succ_eq_append_getElem hx, hlx, toldR_snocS]
        have htl : (toldR (l.take j) D).length ≤ 6 := by have := toldR_len (l.take j) D; rw [List.length_take] at this; omega
        have htS : toldS D x = if x.node ∈ D.map RumV.node then (if x.sent = 3 then none else some ⟨x.node, x.inc, x.st, x.sent + 1⟩) else some x := rfl
        have hwj := hA.lt
        have hnF : ∀ g, Value.ownBlock (.slice (some ⟨fb, 0, none⟩) (factsR D).length fcap) = some g → g ≠ wj.heap.size := fun g hg => by have := (hF.lt g hg).2; omega
        have hnO : ∀ g, Value.ownBlock u11 = some g → g ≠ wj.heap.size := fun g hg => by have := (hO.lt g hg).2; omega
        obtain ⟨x1, x2, x3, x4⟩ := x
        have hs0 : 0 ≤ x4 := hxo.2.1
        have hs3 : x4 ≤ 3 := hxo.2.2
        dsimp only at hAt htS
        have b1 : Below wj.heap.size wj (wj.alloc (.cells #[.int .i64 x1, .int .i64 x2, .int .i64 x3, .int .i64 x4] 39)) := (Below.refl _ _).alloc (Nat.le_refl _) _
        have P1 := BlkIs.new wj 39 #[.int .i64 x1, .int .i64 x2, .int .i64 x3, .int .i64 x4]
        have A1 := hA.keep b1
        have F1 := rowBelow hF b1
        have O1 := rowBelow hO b1
        have B1 := hb.trans (b1.mono hb.size)
        obtain ⟨Y, hY⟩ : ∃ Y, wj.alloc (.cells #[.int .i64 x1, .int .i64 x2, .int .i64 x3, .int .i64 x4] 39) = Y := ⟨_, rfl⟩
        rw [hY] at P1 A1 F1 O1 B1
        have HY : Hid (_ = Y) := hY
        have q0 : Y.cell? ⟨wj.heap.size, 0, none⟩ = some (.int .i64 x1) := P1.cell 0
        have q1 : Y.cell? ⟨wj.heap.size, 1, none⟩ = some (.int .i64 x2) := P1.cell 1
        have q2 : Y.cell? ⟨wj.heap.size, 2, none⟩ = some (.int .i64 x3) := P1.cell 2
        have q3 : Y.cell? ⟨wj.heap.size, 3, none⟩ = some (.int .i64 x4) := P1.cell 3
        have z3 := P1.fz 3
        have p1 : Y.cell? ⟨w.heap.size, j, none⟩ = some (.bool (decide (x1 ∈ D.map RumV.node))) := (A1.cell j).trans hAt
        obtain ⟨_, c0, c1, c2, c3⟩ := dm
        dsimp only at c0 c1 c2 c3
        clear hlx hxl hxo b1 hA hF hO hb hY hAt
        by_cases hpd : x1 ∈ D.map RumV.node
        · rw [decide_eq_true hpd] at p1
          rw [if_pos hpd] at htS
          have hws : IntKind.i64.wrap (x4 + 1) = x4 + 1 := by rw [IntKind.wrap_i64]; omega
          have P2 : BlkIs (Y.setCell ⟨wj.heap.size, 3, none⟩ (.int .i64 (x4 + 1))) wj.heap.size 39 #[.int .i64 x1, .int .i64 x2, .int .i64 x3, .int .i64 (x4 + 1)] := by simpa using P1.put 3 (.int .i64 (x4 + 1))
          have KS : Keeps (fun q => q ≠ wj.heap.size) Y (Y.setCell ⟨wj.heap.size, 3, none⟩ (.int .i64 (x4 + 1))) := (Keeps.refl _ _).setCell (fun h => h rfl) _
          have A2 := A1.keepK KS (by omega)
          have F2 := rowKeep F1 KS hnF
          have O2 := rowKeep O1 KS hnO
          have B2 := B1.setCell (p := ⟨wj.heap.size, 3, none⟩) (by dsimp only; omega) (.int .i64 (x4 + 1))
          clear KS P1 A1 F1 O1 B1
          by_cases e3 : x4 = 3
          · rw [if_pos e3] at htS
            have ho : (Y.setCell ⟨wj.heap.size, 3, none⟩ (.int .i64 (x4 + 1))).ownsRow w.heap.size 39 4 u11 (toldR (l.take (j + 1)) D).length (cellsOf RumV.cells (toldR (l.take (j + 1)) D)) := by rw [HT.out, htS]; simpa using O2
            obtain ⟨V, hV⟩ : ∃ V, Y.setCell ⟨wj.heap.size, 3, none⟩ (.int .i64 (x4 + 1)) = V := ⟨_, rfl⟩
            rw [hV] at P2 A2 F2 ho B2
            have HV : Hid (_ = V) := hV
            clear hV
            have s3 : V.cell? ⟨wj.heap.size, 3, none⟩ = some (.int .i64 (x4 + 1)) := P2.cell 3
            have hs4 : ¬ x4 + 1 < 4 := by omega
            clear O2 htS HT e3
            go_upto_region 20 with fail
            rw [HY.out]
            clear HY c0 c1 c2 c3
            go_upto_region 22 with fail
            rw [HV.out]
            clear HV q0 q1 q2 q3 z3 p1
            go_wp2
            go_roundw
            case rel => exact ⟨j + 1, by omega, by go_num, A2, F2, ho, B2⟩
            case measure => simp [intOf]; omega
          · rw [if_neg e3] at htS
            have HE : Hid (toldR (l.take (j + 1)) D = toldR (l.take j) D ++ [⟨x1, x2, x3, x4 + 1⟩]) := by show _ = _; rw [HT.out, htS]; rfl
            obtain ⟨V, hV⟩ : ∃ V, Y.setCell ⟨wj.heap.size, 3, none⟩ (.int .i64 (x4 + 1)) = V := ⟨_, rfl⟩
            rw [hV] at P2 A2 F2 O2 B2
            have HV : Hid (_ = V) := hV
            clear hV
            have s0 : V.cell? ⟨wj.heap.size, 0, none⟩ = some (.int .i64 x1) := P2.cell 0
            have s1 : V.cell? ⟨wj.heap.size, 1, none⟩ = some (.int .i64 x2) := P2.cell 1
            have s2 : V.cell? ⟨wj.heap.size, 2, none⟩ = some (.int .i64 x3) := P2.cell 2
            have s3 : V.cell? ⟨wj.heap.size, 3, none⟩ = some (.int .i64 (x4 + 1)) := P2.cell 3
            have hn2 := oneRowR V ⟨x1, x2, x3, x4 + 1⟩
            have bA : Below V.heap.size V (V.alloc (.cells #[.int .i64 x1, .int .i64 x2, .int .i64 x3, .int .i64 (x4 + 1)] 39)) := (Below.refl _ _).alloc (Nat.le_refl _) _
            have O3 := rowBelow O2 bA
            have A3 := A2.keep bA
            have F3 := rowBelow F2 bA
            have B3 := B2.trans (bA.mono B2.size)
            have hbz := B3.size
            have hs4 : x4 + 1 < 4 := by omega
            go_upto_region 20 with fail
            rw [HY.out]
            clear HY c0 c1 c2 c3
            go_upto_region 22 with fail
            rw [HV.out]
            clear HV q0 q1 q2 q3 z3 p1 bA
            go_wp2_with (at_builtin; refine append_rumsL rfl rfl _ _ rfl w.heap.size _ _ _ rfl O3 ⟨V.heap.size, 0, none⟩ 1 1 [⟨x1, x2, x3, x4 + 1⟩] rfl rfl hn2 (by omega) hbz ?_)
            intro v' w2 own2 gr2 _
            have B4 : Below w.heap.size w w2 := B3.grown gr2 hbz (fun g hg => (O3.lt g hg).1)
            have hnA2 : Value.ownBlock u11 ≠ some w.heap.size := A3.not_row (by decide) O3
            have A4 : BlkIs w2 w.heap.size 4 (pickL l D).toArray := (gr2.block _ A3.lt (fun e => hnA2 e.symm)).trans A3
            have F4 := rowKeep F3 (G := fun q => some q ≠ Value.ownBlock u11) ⟨gr2.os, gr2.tape, gr2.output, gr2.size, fun k hk hg => gr2.block k hk hg⟩ (fun g hg e => rows_apartS O3 F3 (by decide) g hg e.symm)
            have ho : w2.ownsRow w.heap.size 39 4 v' (toldR (l.take (j + 1)) D).length (cellsOf RumV.cells (toldR (l.take (j + 1)) D)) := by
              rw [HE.out, cellsOf_append, List.length_append]; exact own2
            clear own2 gr2 O3 A3 F3 B3 hbz hn2 s0 s1 s2 s3 HE hnA2
            go_wp2
            go_roundw
            case rel => exact ⟨j + 1, by omega, by go_num, A4, F4, ho, B4⟩
            case measure => simp [intOf]; omega
        · rw [decide_eq_false hpd] at p1
          rw [if_neg hpd] at htS
          have HE : Hid (toldR (l.take (j + 1)) D = toldR (l.take j) D ++ [⟨x1, x2, x3, x4⟩]) := by show _ = _; rw [HT.out, htS]; rfl
          have s0 : Y.cell? ⟨wj.heap.size, 0, none⟩ = some (.int .i64 x1) := P1.cell 0
          have s1 : Y.cell? ⟨wj.heap.size, 1, none⟩ = some (.int .i64 x2) := P1.cell 1
          have s2 : Y.cell? ⟨wj.heap.size, 2, none⟩ = some (.int .i64 x3) := P1.cell 2
          have s3 : Y.cell? ⟨wj.heap.size, 3, none⟩ = some (.int .i64 (x4)) := P1.cell 3
          have hn2 := oneRowR Y ⟨x1, x2, x3, x4⟩
          have bA : Below Y.heap.size Y (Y.alloc (.cells #[.int .i64 x1, .int .i64 x2, .int .i64 x3, .int .i64 (x4)] 39)) := (Below.refl _ _).alloc (Nat.le_refl _) _
          have O3 := rowBelow O1 bA
          have A3 := A1.keep bA
          have F3 := rowBelow F1 bA
          have B3 := B1.trans (bA.mono B1.size)
          have hbz := B3.size
          have hs4 : x4 < 4 := by omega
          go_upto_region 20 with fail
          rw [HY.out]
          clear HY c0 c1 c2 c3
          clear q0 q1 q2 q3 z3 bA
          go_wp2_with (at_builtin; refine append_rumsL rfl rfl _ _ rfl w.heap.size _ _ _ rfl O3 ⟨Y.heap.size, 0, none⟩ 1 1 [⟨x1, x2, x3, x4⟩] rfl rfl hn2 (by omega) hbz ?_)
          intro v' w2 own2 gr2 _
          have B4 : Below w.heap.size w w2 := B3.grown gr2 hbz (fun g hg => (O3.lt g hg).1)
          have hnA2 : Value.ownBlock u11 ≠ some w.heap.size := A3.not_row (by decide) O3
          have A4 : BlkIs w2 w.heap.size 4 (pickL l D).toArray := (gr2.block _ A3.lt (fun e => hnA2 e.symm)).trans A3
          have F4 := rowKeep F3 (G := fun q => some q ≠ Value.ownBlock u11) ⟨gr2.os, gr2.tape, gr2.output, gr2.size, fun k hk hg => gr2.block k hk hg⟩ (fun g hg e => rows_apartS O3 F3 (by decide) g hg e.symm)
          have ho : w2.ownsRow w.heap.size 39 4 v' (toldR (l.take (j + 1)) D).length (cellsOf RumV.cells (toldR (l.take (j + 1)) D)) := by
            rw [HE.out, cellsOf_append, List.length_append]; exact own2
          clear own2 gr2 O3 A3 F3 B3 hbz hn2 s0 s1 s2 s3 HE hnA2
          go_wp2
          go_roundw
          case rel => exact ⟨j + 1, by omega, by go_num, A4, F4, ho, B4⟩
          case measure => simp [intOf]; omega
      · obtain rfl : j = l.length := by omega
        rw [List.take_length] at hO
        go_wp2
        go_ret2
        exact ⟨_, _, rfl, by rw [HD.out]; exact hO, by rw [HD.out]; exact hF, hb⟩
set_option maxHeartbeats 2000000 in
set_option maxRecDepth 100000 in
theorem specRPick_any (a : Option Addr) (cap : Nat) (l : List RumV) (but : Int) (c : Int) (m : List RumV) (fs : List FactV) (w : World) (hP : PickRIs l but c m fs) (hl : l.length ≤ 1048576) (hrow : CellRow w a (cellsOf RumV.cells l)) :
    Calls Try.prog 13 #[.slice a l.length cap, .int .i64 but] w (ROutPost c m fs w) := by
  have q0 := BlkIs.new w 30 #[.slice none 0 0, .slice none 0 0, .int .i64 0]
  have B0 : Below w.heap.size w (w.alloc (.cells #[.slice none 0 0, .slice none 0 0, .int .i64 0] 30)) := (Below.refl _ _).alloc (Nat.le_refl _) _
  have r0 := hrow.keep B0
  obtain ⟨W, hW⟩ : ∃ W, w.alloc (.cells #[.slice none 0 0, .slice none 0 0, .int .i64 0] 30) = W := ⟨_, rfl⟩
  rw [hW] at q0 B0 r0
  have HW : Hid (_ = W) := hW
  clear hW
  rcases hP with ⟨h400, rfl, rfl, rfl⟩ | ⟨h400, hnr, rfl, rfl, rfl⟩ | ⟨hr, rfl, rfl, rfl⟩
  · have h4 : (400 : Int) < (l.length : Int) := by omega
    go_enter Try.func13, Try.ntmps13
    go_upto_region 1 with fail
    rw [HW.out]
    clear HW
    have g0 : W.cell? ⟨w.heap.size, 0, none⟩ = some (.slice none 0 0) := q0.cell 0
    have g1 : W.cell? ⟨w.heap.size, 1, none⟩ = some (.slice none 0 0) := q0.cell 1
    have g2 : W.cell? ⟨w.heap.size, 2, none⟩ = some (.int .i64 0) := q0.cell 2
    have z0 := q0.fz 0
    have z1 := q0.fz 1
    have z2 := q0.fz 2
    have RZ : BlkIs (((W.setCell ⟨w.heap.size, 0, none⟩ (.slice none 0 0)).setCell ⟨w.heap.size, 1, none⟩ (.slice none 0 0)).setCell ⟨w.heap.size, 2, none⟩ (.int .i64 2)) (w.heap.size) 30 #[(.slice none 0 0), (.slice none 0 0), .int .i64 2] := blk_put3 q0 _ _ _
    have BZ : Below w.heap.size w (((W.setCell ⟨w.heap.size, 0, none⟩ (.slice none 0 0)).setCell ⟨w.heap.size, 1, none⟩ (.slice none 0 0)).setCell ⟨w.heap.size, 2, none⟩ (.int .i64 2)) := ((B0.setCell (by dsimp only; omega) _).setCell (by dsimp only; omega) _).setCell (by dsimp only; omega) _
    have KZ : Keeps (fun k => k ≠ w.heap.size) W (((W.setCell ⟨w.heap.size, 0, none⟩ (.slice none 0 0)).setCell ⟨w.heap.size, 1, none⟩ (.slice none 0 0)).setCell ⟨w.heap.size, 2, none⟩ (.int .i64 2)) := keeps_three _ _ _ _ _
    go_wp2
    obtain ⟨Z, hZ⟩ : ∃ Z, (((W.setCell ⟨w.heap.size, 0, none⟩ (.slice none 0 0)).setCell ⟨w.heap.size, 1, none⟩ (.slice none 0 0)).setCell ⟨w.heap.size, 2, none⟩ (.int .i64 2)) = Z := ⟨_, rfl⟩
    rw [hZ] at RZ BZ KZ ⊢
    clear hZ g0 g1 g2 z0 z1 z2
    have h0 : Z.cell? ⟨w.heap.size, 0, none⟩ = some (.slice none 0 0) := RZ.cell 0
    have h1 : Z.cell? ⟨w.heap.size, 1, none⟩ = some (.slice none 0 0) := RZ.cell 1
    have h2 : Z.cell? ⟨w.heap.size, 2, none⟩ = some (.int .i64 2) := RZ.cell 2
    exact bodyPost_ret (v := .agg #[(.slice none 0 0), (.slice none 0 0), .int .i64 2]) (by simp [results, Try.results13, go_sem, h0, h1, h2]) rfl ⟨_, _, rfl, ownsNilR _ _, ownsNilF _ _, BZ⟩
  · have h4 : ¬ (400 : Int) < (l.length : Int) := by omega
    have HN : Hid (¬ rightR l) := hnr
    clear hnr
    go_enter Try.func13, Try.ntmps13
    go_wp2_with fail
    rw [HW.out]
    refine (specRRight_is a cap l _ false ⟨fun h => (by cases h), fun h => absurd h HN.out⟩ hl r0).mono ?_
    rintro e y ⟨rfl, by2⟩
    have q2 := q0.keep by2
    have B2 := B0.trans (by2.mono B0.size)
    clear q0 r0 B0 by2 HN HW
    have g0 : y.cell? ⟨w.heap.size, 0, none⟩ = some (.slice none 0 0) := q2.cell 0
    have g1 : y.cell? ⟨w.heap.size, 1, none⟩ = some (.slice none 0 0) := q2.cell 1
    have g2 : y.cell? ⟨w.heap.size, 2, none⟩ = some (.int .i64 0) := q2.cell 2
    have z0 := q2.fz 0
    have z1 := q2.fz 1
    have z2 := q2.fz 2
    have RZ : BlkIs (((y.setCell ⟨w.heap.size, 0, none⟩ (.slice none 0 0)).setCell ⟨w.heap.size, 1, none⟩ (.slice none 0 0)).setCell ⟨w.heap.size, 2, none⟩ (.int .i64 1)) (w.heap.size) 30 #[(.slice none 0 0), (.slice none 0 0), .int .i64 1] := blk_put3 q2 _ _ _
    have BZ : Below w.heap.size w (((y.setCell ⟨w.heap.size, 0, none⟩ (.slice none 0 0)).setCell ⟨w.heap.size, 1, none⟩ (.slice none 0 0)).setCell ⟨w.heap.size, 2, none⟩ (.int .i64 1)) := ((B2.setCell (by dsimp only; omega) _).setCell (by dsimp only; omega) _).setCell (by dsimp only; omega) _
    have KZ : Keeps (fun k => k ≠ w.heap.size) y (((y.setCell ⟨w.heap.size, 0, none⟩ (.slice none 0 0)).setCell ⟨w.heap.size, 1, none⟩ (.slice none 0 0)).setCell ⟨w.heap.size, 2, none⟩ (.int .i64 1)) := keeps_three _ _ _ _ _
    go_wp2
    obtain ⟨Z, hZ⟩ : ∃ Z, (((y.setCell ⟨w.heap.size, 0, none⟩ (.slice none 0 0)).setCell ⟨w.heap.size, 1, none⟩ (.slice none 0 0)).setCell ⟨w.heap.size, 2, none⟩ (.int .i64 1)) = Z := ⟨_, rfl⟩
    rw [hZ] at RZ BZ KZ ⊢
    clear hZ g0 g1 g2 z0 z1 z2
    have h0 : Z.cell? ⟨w.heap.size, 0, none⟩ = some (.slice none 0 0) := RZ.cell 0
    have h1 : Z.cell? ⟨w.heap.size, 1, none⟩ = some (.slice none 0 0) := RZ.cell 1
    have h2 : Z.cell? ⟨w.heap.size, 2, none⟩ = some (.int .i64 1) := RZ.cell 2
    exact bodyPost_ret (v := .agg #[(.slice none 0 0), (.slice none 0 0), .int .i64 1]) (by simp [results, Try.results13, go_sem, h0, h1, h2]) rfl ⟨_, _, rfl, ownsNilR _ _, ownsNilF _ _, BZ⟩
  · have h6 := rightR_len hr
    have h4 : ¬ (400 : Int) < (l.length : Int) := by omega
    have HR : Hid (rightR l) := hr
    clear hr
    go_enter Try.func13, Try.ntmps13
    go_wp2_with fail
    rw [HW.out]
    refine (specRRight_is a cap l _ true ⟨fun _ => HR.out, fun _ => rfl⟩ hl r0).mono ?_
    rintro e z ⟨rfl, bz⟩
    have q1 := q0.keep bz
    have r1 := r0.keep bz
    have B1 := B0.trans (bz.mono B0.size)
    clear q0 r0 B0 bz HW
    go_wp2_with fail
    refine (specL06Pick_any a cap l but _ HR.out r1).mono ?_
    rintro e x ⟨v, u, rfl, ov, ou, bx⟩
    obtain ⟨va, vn, vc, rfl⟩ := rowShape ov
    obtain ⟨ua, un, uc, rfl⟩ := rowShape ou
    have q3 := q1.keep bx
    have B3 := B1.trans (bx.mono B1.size)
    have hgv : ∀ g, Value.ownBlock (.slice va vn vc) = some g → g ≠ w.heap.size := fun g hg => by have := (ov.lt g hg).1; have := q1.lt; omega
    have hgu : ∀ g, Value.ownBlock (.slice ua un uc) = some g → g ≠ w.heap.size := fun g hg => by have := (ou.lt g hg).1; have := q1.lt; omega
    have ov2 := rowLe ov B1.size
    have ou2 := rowLe ou B1.size
    clear q1 r1 B1 bx ov ou
    have g0 : x.cell? ⟨w.heap.size, 0, none⟩ = some (.slice none 0 0) := q3.cell 0
    have g1 : x.cell? ⟨w.heap.size, 1, none⟩ = some (.slice none 0 0) := q3.cell 1
    have g2 : x.cell? ⟨w.heap.size, 2, none⟩ = some (.int .i64 0) := q3.cell 2
    have z0 := q3.fz 0
    have z1 := q3.fz 1
    have z2 := q3.fz 2
    have RZ : BlkIs (((x.setCell ⟨w.heap.size, 0, none⟩ (.slice va vn vc)).setCell ⟨w.heap.size, 1, none⟩ (.slice ua un uc)).setCell ⟨w.heap.size, 2, none⟩ (.int .i64 0)) (w.heap.size) 30 #[(.slice va vn vc), (.slice ua un uc), .int .i64 0] := blk_put3 q3 _ _ _
    have BZ : Below w.heap.size w (((x.setCell ⟨w.heap.size, 0, none⟩ (.slice va vn vc)).setCell ⟨w.heap.size, 1, none⟩ (.slice ua un uc)).setCell ⟨w.heap.size, 2, none⟩ (.int .i64 0)) := ((B3.setCell (by dsimp only; omega) _).setCell (by dsimp only; omega) _).setCell (by dsimp only; omega) _
    have KZ : Keeps (fun k => k ≠ w.heap.size) x (((x.setCell ⟨w.heap.size, 0, none⟩ (.slice va vn vc)).setCell ⟨w.heap.size, 1, none⟩ (.slice ua un uc)).setCell ⟨w.heap.size, 2, none⟩ (.int .i64 0)) := keeps_three _ _ _ _ _
    go_wp2
    obtain ⟨Z, hZ⟩ : ∃ Z, (((x.setCell ⟨w.heap.size, 0, none⟩ (.slice va vn vc)).setCell ⟨w.heap.size, 1, none⟩ (.slice ua un uc)).setCell ⟨w.heap.size, 2, none⟩ (.int .i64 0)) = Z := ⟨_, rfl⟩
    rw [hZ] at RZ BZ KZ ⊢
    clear hZ g0 g1 g2 z0 z1 z2
    have h0 : Z.cell? ⟨w.heap.size, 0, none⟩ = some (.slice va vn vc) := RZ.cell 0
    have h1 : Z.cell? ⟨w.heap.size, 1, none⟩ = some (.slice ua un uc) := RZ.cell 1
    have h2 : Z.cell? ⟨w.heap.size, 2, none⟩ = some (.int .i64 0) := RZ.cell 2
    exact bodyPost_ret (v := .agg #[(.slice va vn vc), (.slice ua un uc), .int .i64 0]) (by simp [results, Try.results13, go_sem, h0, h1, h2]) rfl ⟨_, _, rfl, rowKeep ov2 KZ (fun g hg => hgv g hg), rowKeep ou2 KZ (fun g hg => hgu g hg), BZ⟩
end Go.Proofs.Ytenefjnahanfbaa
