/- The contract of slices.Insert over facts: one is put, in place or into new memory. -/
import Derived.Test.YtmdcankfjmkkeaaGreatG16
import Derived.Test.YtmdcankfjmkkeaaGreatG4
import Derived.Laws.Externs
import Derived.Shelf.RegionOpenPlain
namespace Go.Proofs.YtmdcankfjmkkeaaGreat
open Go Go.RowKit
set_option linter.unusedVariables false

/-- One put among others. -/
def insF (l : List FactV) (f : FactV) (k : Nat) : List FactV := l.take k ++ f :: l.drop k
theorem insF_len (l : List FactV) (f : FactV) (k : Nat) : (insF l f k).length = l.length + 1 := by
  unfold insF
  rw [List.length_append, List.length_take, List.length_cons, List.length_drop]
  omega
theorem insF_cells (l : List FactV) (f : FactV) (k : Nat) : cellsOf FactV.cells (insF l f k) = cellsOf FactV.cells (l.take k) ++ (f.cells ++ cellsOf FactV.cells (l.drop k)) := by
  unfold insF
  rw [cellsOf_append]
  rfl
/-- What an Insert answers. -/
def InsPost (base : Nat) (v : Value) (l : List FactV) (w : World) (e : Ending) (w' : World) : Prop := ∃ v', e = .returned v' ∧ w'.ownsRow base 54 3 v' l.length (cellsOf FactV.cells l) ∧ Keeps (fun q => v.ownBlock ≠ some q) w w'
theorem fcells_src {w : World} {b : Nat} {f : FactV} (h : BlkIs w b 54 #[.int .i64 f.node, .int .i64 f.inc, .int .i64 f.st]) : ∀ j u, f.cells[j]? = some u → w.cell? ((⟨b, 0, none⟩ : Addr).add j) = some u := by
  intro j u hj
  have e : (⟨b, 0, none⟩ : Addr).add j = ⟨b, j, none⟩ := by by_cases e0 : j = 0 <;> simp [Addr.add, e0]
  rw [e, h.cell]
  simpa [FactV.cells] using hj
theorem info_partsF : ∃ i, Tryz.prog.info? 54 = some i ∧ i.zero = some (.agg #[.int .i64 0, .int .i64 0, .int .i64 0]) ∧ i.size = 3 ∧ i.bytes = 24 := by
  obtain ⟨i, hi, hz⟩ := Option.map_eq_some_iff.1 Tryz.infoFact
  simp only [Prod.mk.injEq] at hz
  exact ⟨i, hi, hz.1, hz.2.1, hz.2.2⟩
theorem size3F : (Tryz.prog.info? 54).map (·.size) = some 3 := by
  obtain ⟨i, hi, _, hs, _⟩ := info_partsF
  rw [hi]; simp [hs]
set_option maxHeartbeats 1000000 in
set_option maxRecDepth 100000 in
theorem ins_end (v : Value) (vb : Nat) (l : List FactV) (f : FactV) (base : Nat) (w : World) (hl : l.length ≤ 1000) (ho : w.ownsRow base 54 3 v l.length (cellsOf FactV.cells l)) (hv : BlkIs w vb 54 #[.int .i64 f.node, .int .i64 f.inc, .int .i64 f.st]) (hbase : base ≤ w.heap.size) :
    Calls Tryz.prog 192 #[v, .int .i64 l.length, .slice (some ⟨vb, 0, none⟩) 1 1] w (InsPost base v (insF l f l.length) w) := by
  obtain ⟨i0, hi0, hz0, hzs, hzb⟩ := info_partsF
  obtain ⟨v', w', hr, h2, h3, _, _⟩ := run_append_own_at (P := Tryz.prog) w base 23 23 54 i0 _ 3 24 Tryz.underlying23 hi0 hz0 hzs hzb rfl (by omega) v l.length _ ho ⟨vb, 0, none⟩ 1 1 f.cells rfl (fcells_src hv) (oneCells f) (by unfold maxLen; omega) (by omega) hbase
  have h1 : ((l.length : Int) == (l.length : Int)) = true := by simp
  obtain ⟨a, cap, hva, hcap, hnil⟩ : ∃ a cap, v = .slice a l.length cap ∧ l.length ≤ cap ∧ (cap : Int) ≤ 9223372036854775807 := by
    rcases ho.2 with ⟨hv, hn⟩ | ⟨g, cap, cur, hv, _, _, hc, hm, _⟩
    · exact ⟨none, 0, by rw [hv, hn], by omega, by omega⟩
    · exact ⟨_, cap, hv, hc, by unfold maxLen at hm; omega⟩
  subst hva
  have HO : Hid (w'.ownsRow base 54 3 v' (insF l f l.length).length (cellsOf FactV.cells (insF l f l.length))) := by
    show World.ownsRow _ _ _ _ _ _ _
    rw [insF_len, insF_cells, List.take_length, List.drop_length]
    simpa [cellsOf] using h2
  have HK : Hid (Keeps (fun q => Value.ownBlock (.slice a l.length cap) ≠ some q) w w') := (Keeps.refl _ _).grown h3 (fun k e h => h (by rw [e]))
  clear ho h2 h3 hv
  by_cases hcc : cap = l.length
  · subst hcc
    go_enter Tryz.func192, Tryz.ntmps192
    go_wp2_with (at_builtin; refine Lib.wpList_append_run _ rfl _ _ _ _ rfl _ _ rfl rfl _ _ hr ?_)
    go_ret
    exact ⟨v', rfl, HO.out, HK.out⟩
  · go_enter Tryz.func192, Tryz.ntmps192
    go_wp2_with (at_builtin; refine Lib.wpList_append_run _ rfl _ _ _ _ rfl _ _ rfl rfl _ _ hr ?_)
    go_ret
    exact ⟨v', rfl, HO.out, HK.out⟩
theorem zero_cells3 (k : Nat) : (Builtin.zeroCells (Value.agg #[.int .i64 0, .int .i64 0, .int .i64 0]).cells k).size = k * 3 := by
  rw [size_zeroCells]; rfl
set_option maxHeartbeats 2000000 in
set_option maxRecDepth 100000 in
/-- No room: new memory. -/
theorem ins_grow (g vb i : Nat) (l : List FactV) (f : FactV) (base : Nat) (w : World) (hl : l.length ≤ 1000) (hi : i < l.length) (ho : w.ownsRow base 54 3 (.slice (some ⟨g, 0, none⟩) l.length l.length) l.length (cellsOf FactV.cells l)) (hv : BlkIs w vb 54 #[.int .i64 f.node, .int .i64 f.inc, .int .i64 f.st]) (hbase : base ≤ w.heap.size) :
    Calls Tryz.prog 192 #[.slice (some ⟨g, 0, none⟩) l.length l.length, .int .i64 i, .slice (some ⟨vb, 0, none⟩) 1 1] w (InsPost base (.slice (some ⟨g, 0, none⟩) l.length l.length) (insF l f i) w) := by
  obtain ⟨i0, hi0, hz0, hzs, hzb⟩ := info_partsF
  have hlen := cellsOf_length FactV.cells_len l
  have hgl := (ho.lt g rfl).2
  have hcell : ∀ j, j < l.length * 3 → w.cell? ⟨g, j, none⟩ = (cellsOf FactV.cells l)[j]? := fun j hj => ho.cellAt j hj
  have htl : (cellsOf FactV.cells (l.take i)).length = i * 3 := by rw [cellsOf_length FactV.cells_len, List.length_take]; omega
  have hdl : (cellsOf FactV.cells (l.drop i)).length = (l.length - i) * 3 := by rw [cellsOf_length FactV.cells_len, List.length_drop]
  have hold : (Builtin.firstCells i0.size i (.slice (some ⟨g, 0, none⟩) i l.length)).run Tryz.prog w.drew = .ok (cellsOf FactV.cells (l.take i)).toArray w.drew := by
    rw [hzs]
    exact run_firstCells_some w.drew 3 i ⟨g, 0, none⟩ i l.length (cellsOf FactV.cells (l.take i)) htl (fun j v hj => by
      have hji : j < i * 3 := by have := (List.getElem?_eq_some_iff.1 hj).1; omega
      have e : (⟨g, 0, none⟩ : Addr).add j = ⟨g, j, none⟩ := by by_cases e0 : j = 0 <;> simp [Addr.add, e0]
      rw [e]
      show w.cell? _ = _
      rw [hcell j (by omega), ← hj, ← cellsOf_take FactV.cells_len l i (by omega), List.getElem?_take, if_pos hji])
  obtain ⟨G, hG⟩ : ∃ G, G = grownCap w (l.length + 1) l.length 54 := ⟨_, rfl⟩
  have hGn : l.length + 1 ≤ G := by rw [hG]; exact grownCap_ge w _ _ _
  have hGm : G ≤ maxLen := by rw [hG]; exact grownCap_le_maxLen w _ _ _ (by unfold maxLen; omega)
  obtain ⟨Z1, hZ1⟩ : ∃ Z, Z = (Builtin.zeroCells (Value.agg #[.int .i64 0, .int .i64 0, .int .i64 0]).cells (l.length + 1 - i)).toList := ⟨_, rfl⟩
  obtain ⟨Z2, hZ2⟩ : ∃ Z, Z = (Builtin.zeroCells (Value.agg #[.int .i64 0, .int .i64 0, .int .i64 0]).cells (G - (l.length + 1))).toList := ⟨_, rfl⟩
  have hz1l : Z1.length = (l.length + 1 - i) * 3 := by rw [hZ1, Array.length_toList, zero_cells3]
  have hz2l : Z2.length = (G - (l.length + 1)) * 3 := by rw [hZ2, Array.length_toList, zero_cells3]
  obtain ⟨W1, hW1⟩ : ∃ W1, W1 = w.drew.alloc (.cells (cellsOf FactV.cells (l.take i) ++ (Z1 ++ Z2)).toArray 54) := ⟨_, rfl⟩
  have hrz : ∀ ty, (Builtin.append_ #[23, 3] ty #[.slice (some ⟨g, 0, none⟩) i l.length, .int .i64 ((l.length : Int) + 1 - (i : Int))]).run Tryz.prog w =
      .ok (.slice (some ⟨w.heap.size, 0, none⟩) (l.length + 1) G) W1 := fun ty => by
    have h := Lib.run_append_grow_zeros w 23 3 ty 54 i0 _ .i64 .i64 Tryz.underlying23 Tryz.underlying3 hi0 hz0 (some ⟨g, 0, none⟩) i l.length (cellsOf FactV.cells (l.take i)) hold (l.length + 1 - i) (by omega) (by omega) (by omega) (by omega) (by rw [hzb]; omega) (by rw [hzb, show i + (l.length + 1 - i) = l.length + 1 by omega]; exact growslice_fits (by omega) (by omega))
    rw [show i + (l.length + 1 - i) = l.length + 1 by omega, ← hG] at h
    have e : (cellsOf FactV.cells (l.take i)).toArray ++ Builtin.zeroCells (Value.agg #[.int .i64 0, .int .i64 0, .int .i64 0]).cells (l.length + 1 - i) ++ Builtin.zeroCells (Value.agg #[.int .i64 0, .int .i64 0, .int .i64 0]).cells (G - (l.length + 1)) = (cellsOf FactV.cells (l.take i) ++ (Z1 ++ Z2)).toArray := by
      apply Array.ext'
      rw [hZ1, hZ2]
      simp
    rw [e, ← hW1] at h
    rw [show (l.length : Int) + 1 - (i : Int) = ((l.length + 1 - i : Nat) : Int) by omega]
    exact h
  have hB1 : W1.heap[w.heap.size]? = some (.cells (cellsOf FactV.cells (l.take i) ++ (Z1 ++ Z2)).toArray 54 (0, 0)) := by rw [hW1]; exact heap_alloc_new w.drew _
  have bW1 : Below w.heap.size w W1 := by rw [hW1]; exact (Below.refl _ _).drew.alloc (Nat.le_refl _) _
  have hv1 := hv.keep bW1
  obtain ⟨L1, hL1⟩ : ∃ L1, L1 = cellsOf FactV.cells (l.take i) ++ (Z1 ++ Z2) := ⟨_, rfl⟩
  have hlen1 : L1.length = G * 3 := by rw [hL1, List.length_append, List.length_append, htl, hz1l, hz2l]; omega
  rw [← hL1] at hB1
  have hfl : f.cells.length = 3 := rfl
  obtain ⟨W2, hcp1, hB2, hg2⟩ := run_copy_blk (P := Tryz.prog) W1 23 23 3 54 3 w.heap.size (i * 3) 1 (l.length + 1 - i) (G - i) ⟨vb, 0, none⟩ 1 1 L1 f.cells 54 Tryz.underlying23 size3F hB1 rfl (by show min 1 (l.length + 1 - i) = 1; omega) (fcells_src hv1) (by rw [hlen1, hfl]; omega) (oneCells f)
  have bW2 : Below w.heap.size w W2 := bW1.grown hg2 bW1.size (fun j hj => by cases hj; exact Nat.le_refl _)
  obtain ⟨W3, hW3⟩ : ∃ W3, W2.drew = W3 := ⟨_, rfl⟩
  have bW3 : Below w.heap.size w W3 := by rw [← hW3]; exact bW2.drew
  have hB3 : W3.heap[w.heap.size]? = some (.cells (splice L1 (i * 3) f.cells).toArray 54 (0, 0)) := by rw [← hW3]; exact hB2
  have hsrc : ∀ j u, (cellsOf FactV.cells (l.drop i))[j]? = some u → W3.cell? ((⟨g, i * 3, none⟩ : Addr).add j) = some u := fun j u hj => by
    have hj2 : j < (l.length - i) * 3 := by have := (List.getElem?_eq_some_iff.1 hj).1; omega
    have e : (⟨g, i * 3, none⟩ : Addr).add j = ⟨g, i * 3 + j, none⟩ := by by_cases e0 : j = 0 <;> simp [Addr.add, e0]
    rw [e, bW3.cell (p := ⟨g, i * 3 + j, none⟩) hgl, hcell _ (by omega), ← hj, ← cellsOf_drop FactV.cells_len l i (by omega), List.getElem?_drop]
  obtain ⟨W4, hcp2, hB4, hg4⟩ := run_copy_blk (P := Tryz.prog) W3 23 23 3 54 3 w.heap.size ((i + 1) * 3) (l.length - i) (l.length + 1 - (i + 1)) (G - (i + 1)) ⟨g, i * 3, none⟩ (l.length - i) (l.length - i) (splice L1 (i * 3) f.cells) (cellsOf FactV.cells (l.drop i)) 54 Tryz.underlying23 size3F hB3 hdl (by show min (l.length - i) (l.length + 1 - (i + 1)) = l.length - i; omega) hsrc (by rw [length_splice _ _ _ (by rw [hlen1, hfl]; omega), hlen1, hdl]; omega) (cellsOf_one _)
  have bW4 : Below w.heap.size w W4 := bW3.grown hg4 bW3.size (fun j hj => by cases hj; exact Nat.le_refl _)
  have hfin : splice (splice L1 (i * 3) f.cells) ((i + 1) * 3) (cellsOf FactV.cells (l.drop i)) = cellsOf FactV.cells (insF l f i) ++ Z2 := by
    have h := splice_two (X := cellsOf FactV.cells (l.take i)) (Y := Z1) (Z := Z2) (A := f.cells) (B := cellsOf FactV.cells (l.drop i)) (by rw [hz1l, hfl, hdl]; omega)
    rw [htl, hfl] at h
    rw [hL1, show (i + 1) * 3 = i * 3 + 3 by omega, h, insF_cells, List.append_assoc, List.append_assoc]
  rw [hfin] at hB4
  have hil : (cellsOf FactV.cells (insF l f i)).length = (l.length + 1) * 3 := by rw [cellsOf_length FactV.cells_len, insF_len]
  have HO : Hid (W4.ownsRow base 54 3 (.slice (some ⟨w.heap.size, 0, none⟩) (l.length + 1) G) (insF l f i).length (cellsOf FactV.cells (insF l f i))) := by
    show World.ownsRow _ _ _ _ _ _ _
    rw [insF_len]
    refine ⟨hil, .inr ⟨w.heap.size, G, _, rfl, hbase, hB4, hGn, hGm, ?_, ?_⟩⟩
    · rw [List.size_toArray, List.length_append, hil, hz2l]; omega
    · rw [List.toList_toArray, List.take_append_of_le_length (by omega), List.take_of_length_le (by omega)]
  have HK : Hid (Keeps (fun q => Value.ownBlock (.slice (some ⟨g, 0, none⟩) l.length l.length) ≠ some q) w W4) := Keeps.ofBelow bW4 (fun k hk _ => hk)
  have HW3 : Hid (W2.drew = W3) := hW3
  have h1 : ((i : Int) == (l.length : Int)) = false := beq_eq_false_iff_ne.2 (by omega)
  have hci : ¬ (l.length = i) := by omega
  have hGi : ¬ (G = i) := by omega
  have hGi1 : ¬ (G = i + 1) := by omega
  have hil0 : i ≤ l.length := by omega
  have hil1 : i ≤ l.length + 1 := by omega
  have hw1 : IntKind.i64.wrap ((i : Int) + 1) = (i : Int) + 1 := by rw [IntKind.wrap_i64]; omega
  have hw2 : (0 : Int) ≤ (i : Int) + 1 := by omega
  have hw3 : (i : Int) + 1 ≤ (l.length : Int) + 1 := by omega
  have hw4 : ((i : Int) + 1).toNat = i + 1 := by omega
  have hw5 : (i : Int) ≤ (l.length : Int) := by omega
  clear ho hcell htl hdl hold hG hZ1 hZ2 hz1l hz2l hW1 hB1 bW1 hv1 hL1 hlen1 hfl hB2 hg2 bW2 hW3 bW3 hB3 hsrc hB4 hg4 bW4 hfin hil hv hlen
  go_enter Tryz.func192, Tryz.ntmps192
  go_upto_region 10 with (at_builtin; refine Lib.wpList_append_run _ rfl _ _ _ _ rfl _ _ rfl rfl _ _ (hrz _) ?_)
  clear hrz
  go_upto_region 11 with (refine wpList_copy_run rfl _ _ 23 23 rfl _ _ rfl rfl hcp1 ?_)
  clear hcp1
  simp only [Act.put, List.setIfInBounds_toArray, List.set_cons_zero, List.set_cons_succ]
  refine wp_region_held_drew (S := fun _ => True) (by kernel_rfl) trivial (fun hHeld => ?_)
  rw [HW3.out]
  refine takeG 0 (v := .slice (some ⟨w.heap.size, 0, none⟩) (l.length + 1) G) rfl (by kernel_rfl) (by kernel_rfl) (by kernel_rfl) (by kernel_rfl) (fun _ _ _ h => h) ?hy (by assumption) ?_
  case hy => (intro w' hSw; go_simp)
  try simp only [List.setIfInBounds_toArray, List.set_cons_zero, List.set_cons_succ]
  refine takeG 1 (v := .int .i64 (i : Int)) rfl (by kernel_rfl) (by kernel_rfl) (by kernel_rfl) (by kernel_rfl) (fun _ _ _ h => h) ?hy (by assumption) ?_
  case hy => (intro w' hSw; go_simp)
  try simp only [List.setIfInBounds_toArray, List.set_cons_zero, List.set_cons_succ]
  refine takeG 2 (v := .int .i64 1) rfl (by kernel_rfl) (by kernel_rfl) (by kernel_rfl) (by kernel_rfl) (fun _ _ _ h => h) ?hy (by assumption) ?_
  case hy => (intro w' hSw; go_simp)
  try simp only [List.setIfInBounds_toArray, List.set_cons_zero, List.set_cons_succ]
  refine takeG 3 (v := .int .i64 ((i : Int) + 1)) rfl (by kernel_rfl) (by kernel_rfl) (by kernel_rfl) (by kernel_rfl) (fun _ _ _ h => h) ?hy (by assumption) ?_
  case hy => (intro w' hSw; go_simp)
  try simp only [List.setIfInBounds_toArray, List.set_cons_zero, List.set_cons_succ]
  refine takeG 4 (v := .slice (some ⟨w.heap.size, (i + 1) * 3, none⟩) (l.length + 1 - (i + 1)) (G - (i + 1))) rfl (by kernel_rfl) (by kernel_rfl) (by kernel_rfl) (by kernel_rfl) (fun _ _ _ h => h) ?hy (by assumption) ?_
  case hy => (intro w' hSw; go_simp)
  try simp only [List.setIfInBounds_toArray, List.set_cons_zero, List.set_cons_succ]
  refine takeG 5 (v := .slice (some ⟨g, 0, none⟩) l.length l.length) rfl (by kernel_rfl) (by kernel_rfl) (by kernel_rfl) (by kernel_rfl) (fun _ _ _ h => h) ?hy (by assumption) ?_
  case hy => (intro w' hSw; go_simp)
  try simp only [List.setIfInBounds_toArray, List.set_cons_zero, List.set_cons_succ]
  refine takeG 6 (v := .int .i64 (i : Int)) rfl (by kernel_rfl) (by kernel_rfl) (by kernel_rfl) (by kernel_rfl) (fun _ _ _ h => h) ?hy (by assumption) ?_
  case hy => (intro w' hSw; go_simp)
  try simp only [List.setIfInBounds_toArray, List.set_cons_zero, List.set_cons_succ]
  refine takeG 7 (v := .slice (some ⟨g, i * 3, none⟩) (l.length - i) (l.length - i)) rfl (by kernel_rfl) (by kernel_rfl) (by kernel_rfl) (by kernel_rfl) (fun _ _ _ h => h) ?hy (by assumption) ?_
  case hy => (intro w' hSw; go_simp)
  try simp only [List.setIfInBounds_toArray, List.set_cons_zero, List.set_cons_succ]
  refine oneH 8 (by kernel_rfl) ?_
  refine doH rfl (v := goInt ((l.length - i : Nat) : Int)) (w' := W4) (exec_copy _ _ 23 23 rfl (.slice (some ⟨w.heap.size, (i + 1) * 3, none⟩) (l.length + 1 - (i + 1)) (G - (i + 1))) (.slice (some ⟨g, i * 3, none⟩) (l.length - i) (l.length - i)) rfl rfl hcp2) trivial ?_
  try simp only [List.setIfInBounds_toArray, List.set_cons_zero, List.set_cons_succ]
  refine wpAnyH_done (by kernel_rfl) ?_ _
  clear hcp2
  go_wp2
  go_ret
  exact ⟨_, rfl, HO.out, HK.out⟩
set_option maxHeartbeats 2000000 in
set_option maxRecDepth 100000 in
/-- Room: in place. -/
theorem ins_room (g cap vb i : Nat) (l : List FactV) (f : FactV) (base : Nat) (w : World) (hl : l.length ≤ 1000) (hi : i < l.length) (hroom : l.length + 1 ≤ cap) (hne : vb ≠ g) (ho : w.ownsRow base 54 3 (.slice (some ⟨g, 0, none⟩) l.length cap) l.length (cellsOf FactV.cells l)) (hv : BlkIs w vb 54 #[.int .i64 f.node, .int .i64 f.inc, .int .i64 f.st]) (hbase : base ≤ w.heap.size) :
    Calls Tryz.prog 192 #[.slice (some ⟨g, 0, none⟩) l.length cap, .int .i64 i, .slice (some ⟨vb, 0, none⟩) 1 1] w (InsPost base (.slice (some ⟨g, 0, none⟩) l.length cap) (insF l f i) w) := by
  have hlen := cellsOf_length FactV.cells_len l
  obtain ⟨hbg, hgl⟩ := ho.lt g rfl
  obtain ⟨L, hB, hcm, hcs, hLt⟩ : ∃ L : List Value, w.heap[g]? = some (.cells L.toArray 54 (0, 0)) ∧ cap ≤ maxLen ∧ L.length = cap * 3 ∧ L.take (l.length * 3) = cellsOf FactV.cells l := by
    rcases ho.2 with ⟨e, _⟩ | ⟨g', c', cur, e, _, h1, _, h2, h3, h4⟩
    · cases e
    · simp only [Value.slice.injEq, Option.some.injEq, Addr.mk.injEq, and_true, true_and] at e
      obtain ⟨rfl, rfl⟩ := e
      exact ⟨cur.toList, by simpa using h1, h2, by simpa using h3, h4⟩
  have hcap63 : (cap : Int) ≤ 9223372036854775807 := by unfold maxLen at hcm; omega
  have htl : (cellsOf FactV.cells (l.take i)).length = i * 3 := by rw [cellsOf_length FactV.cells_len, List.length_take]; omega
  have hdl : (cellsOf FactV.cells (l.drop i)).length = (l.length - i) * 3 := by rw [cellsOf_length FactV.cells_len, List.length_drop]
  have hLs : L = cellsOf FactV.cells (l.take i) ++ (cellsOf FactV.cells (l.drop i) ++ L.drop (l.length * 3)) := by
    rw [← List.append_assoc, ← cellsOf_append, List.take_append_drop, ← hLt, List.take_append_drop]
  have hfl : f.cells.length = 3 := rfl
  obtain ⟨W1, hW1⟩ : ∃ W1, w.drew = W1 := ⟨_, rfl⟩
  have hB1 : W1.heap[g]? = some (.cells L.toArray 54 (0, 0)) := by rw [← hW1]; exact hB
  have hv1 : BlkIs W1 vb 54 #[.int .i64 f.node, .int .i64 f.inc, .int .i64 f.st] := by rw [← hW1]; exact hv
  have k1 : Keeps (fun q => Value.ownBlock (.slice (some ⟨g, 0, none⟩) l.length cap) ≠ some q) w W1 := by rw [← hW1]; exact (Keeps.refl _ _).drew
  have hcell : ∀ j, j < l.length * 3 → W1.cell? ⟨g, j, none⟩ = (cellsOf FactV.cells l)[j]? := fun j hj => by rw [← hW1]; exact ho.cellAt j hj
  have hsrc : ∀ j u, (cellsOf FactV.cells (l.drop i))[j]? = some u → W1.cell? ((⟨g, i * 3, none⟩ : Addr).add j) = some u := fun j u hj => by
    have hj2 : j < (l.length - i) * 3 := by have := (List.getElem?_eq_some_iff.1 hj).1; omega
    have e : (⟨g, i * 3, none⟩ : Addr).add j = ⟨g, i * 3 + j, none⟩ := by by_cases e0 : j = 0 <;> simp [Addr.add, e0]
    rw [e, hcell _ (by omega), ← hj, ← cellsOf_drop FactV.cells_len l i (by omega), List.getElem?_drop]
  obtain ⟨W2, hcp1, hB2, hg2⟩ := run_copy_blk (P := Tryz.prog) W1 23 23 3 54 3 g ((i + 1) * 3) (l.length - i) (l.length + 1 - (i + 1)) (cap - (i + 1)) ⟨g, i * 3, none⟩ (l.length + 1 - i) (cap - i) L (cellsOf FactV.cells (l.drop i)) 54 Tryz.underlying23 size3F hB1 hdl (by show min (l.length + 1 - i) (l.length + 1 - (i + 1)) = l.length - i; omega) hsrc (by rw [hcs, hdl]; omega) (cellsOf_one _)
  have hv2 : BlkIs W2 vb 54 #[.int .i64 f.node, .int .i64 f.inc, .int .i64 f.st] := (hg2.block vb hv1.lt (fun e => hne (Option.some.inj e))).trans hv1
  have k2 := k1.grown hg2 (fun k e h => h (by rw [← e]; rfl))
  have hl2 : (splice L ((i + 1) * 3) (cellsOf FactV.cells (l.drop i))).length = cap * 3 := by rw [length_splice _ _ _ (by rw [hcs, hdl]; omega), hcs]
  obtain ⟨W3, hcp2, hB3, hg3⟩ := run_copy_blk (P := Tryz.prog) W2 23 23 3 54 3 g (i * 3) 1 (l.length + 1 - i) (cap - i) ⟨vb, 0, none⟩ 1 1 (splice L ((i + 1) * 3) (cellsOf FactV.cells (l.drop i))) f.cells 54 Tryz.underlying23 size3F hB2 rfl (by show min 1 (l.length + 1 - i) = 1; omega) (fcells_src hv2) (by rw [hl2, hfl]; omega) (oneCells f)
  have k3 := k2.grown hg3 (fun k e h => h (by rw [← e]; rfl))
  have hfin : splice (splice L ((i + 1) * 3) (cellsOf FactV.cells (l.drop i))) (i * 3) f.cells = cellsOf FactV.cells (insF l f i) ++ (L.drop (l.length * 3)).drop 3 := by
    have h := splice_back (X := cellsOf FactV.cells (l.take i)) (D := cellsOf FactV.cells (l.drop i)) (Z := L.drop (l.length * 3)) (A := f.cells) (by rw [hfl, List.length_drop, hcs]; omega)
    rw [htl, hfl, ← hLs] at h
    rw [show (i + 1) * 3 = i * 3 + 3 by omega, h, insF_cells, List.append_assoc, List.append_assoc]
  rw [hfin] at hB3
  have hil : (cellsOf FactV.cells (insF l f i)).length = (l.length + 1) * 3 := by rw [cellsOf_length FactV.cells_len, insF_len]
  have HO : Hid (W3.ownsRow base 54 3 (.slice (some ⟨g, 0, none⟩) (l.length + 1) cap) (insF l f i).length (cellsOf FactV.cells (insF l f i))) := by
    show World.ownsRow _ _ _ _ _ _ _
    rw [insF_len]
    refine ⟨hil, .inr ⟨g, cap, _, rfl, hbg, hB3, hroom, hcm, ?_, ?_⟩⟩
    · rw [List.size_toArray, List.length_append, hil, List.length_drop, List.length_drop, hcs]; omega
    · rw [List.toList_toArray, List.take_append_of_le_length (by omega), List.take_of_length_le (by omega)]
  have HK : Hid (Keeps (fun q => Value.ownBlock (.slice (some ⟨g, 0, none⟩) l.length cap) ≠ some q) w W3) := k3
  have HW1 : Hid (w.drew = W1) := hW1
  have hov : ∀ lb cb, (callFunc 215 #[.slice (some ⟨vb, 0, none⟩) 1 1, .slice (some ⟨g, (i + 1) * 3, none⟩) lb cb]).run Tryz.prog w = .ok (.value (.bool false)) w := fun lb cb => by
    rw [run_callFunc_extern Tryz.func215 (by kernel_rfl) (by kernel_rfl) (by kernel_rfl) (e := Extern.SlicesOverlaps.overlaps #[23, 23] #[4]) (by kernel_rfl),
      Lib.run_overlaps_apart w 23 4 54 Tryz.underlying23 3 (fun w => by obtain ⟨i, hi, _, hs, _⟩ := info_partsF; simp [sizeOf, typeInfo, hi, hs]) ⟨vb, 0, none⟩ ⟨g, (i + 1) * 3, none⟩ 1 1 lb cb hne 54 54 3 (cap * 3) (by simp [World.shape?, show w.heap[vb]? = _ from hv]) (by simp [World.shape?, hB, hcs]) (by omega) (hv.fz 0) (hv.fz 3)]
    rfl
  have h1 : ((i : Int) == (l.length : Int)) = false := beq_eq_false_iff_ne.2 (by omega)
  have hci : ¬ (cap = i) := by omega
  have hci1 : ¬ (cap = i + 1) := by omega
  have hil0 : i ≤ l.length := by omega
  have hil1 : i ≤ l.length + 1 := by omega
  have hlc : l.length ≤ cap := by omega
  have hcapI : ¬ (cap : Int) < (l.length : Int) + 1 := by omega
  have hcapJ : (l.length : Int) + 1 ≤ (cap : Int) := by omega
  have hw0 : IntKind.i64.wrap ((l.length : Int) + 1) = (l.length : Int) + 1 := by rw [IntKind.wrap_i64]; omega
  have hw6 : ((l.length : Int) + 1).toNat = l.length + 1 := by omega
  have hw1 : IntKind.i64.wrap ((i : Int) + 1) = (i : Int) + 1 := by rw [IntKind.wrap_i64]; omega
  have hw2 : (0 : Int) ≤ (i : Int) + 1 := by omega
  have hw3 : (i : Int) + 1 ≤ (l.length : Int) + 1 := by omega
  have hw4 : ((i : Int) + 1).toNat = i + 1 := by omega
  have hw5 : (i : Int) ≤ (l.length : Int) := by omega
  have hw7 : (i : Int) ≤ (l.length : Int) + 1 := by omega
  clear ho hcell htl hdl hB hcs hLt hLs hfl hW1 hB1 hv1 k1 hsrc hB2 hg2 hv2 k2 hl2 hB3 hg3 k3 hfin hil hv hlen hbg
  go_enter Tryz.func192, Tryz.ntmps192
  go_upto_region 15 with (simp only [hov])
  clear hov
  refine wp_region_held_drew (S := fun _ => True) (by kernel_rfl) trivial (fun hHeld => ?_)
  rw [HW1.out]
  refine takeG 0 (v := .slice (some ⟨g, 0, none⟩) (l.length + 1) cap) rfl (by kernel_rfl) (by kernel_rfl) (by kernel_rfl) (by kernel_rfl) (fun _ _ _ h => h) ?hy (by assumption) ?_
  case hy => (intro w' hSw; go_simp)
  try simp only [List.setIfInBounds_toArray, List.set_cons_zero, List.set_cons_succ]
  refine takeG 1 (v := .int .i64 (i : Int)) rfl (by kernel_rfl) (by kernel_rfl) (by kernel_rfl) (by kernel_rfl) (fun _ _ _ h => h) ?hy (by assumption) ?_
  case hy => (intro w' hSw; go_simp)
  try simp only [List.setIfInBounds_toArray, List.set_cons_zero, List.set_cons_succ]
  refine takeG 2 (v := .int .i64 1) rfl (by kernel_rfl) (by kernel_rfl) (by kernel_rfl) (by kernel_rfl) (fun _ _ _ h => h) ?hy (by assumption) ?_
  case hy => (intro w' hSw; go_simp)
  try simp only [List.setIfInBounds_toArray, List.set_cons_zero, List.set_cons_succ]
  refine takeG 3 (v := .int .i64 ((i : Int) + 1)) rfl (by kernel_rfl) (by kernel_rfl) (by kernel_rfl) (by kernel_rfl) (fun _ _ _ h => h) ?hy (by assumption) ?_
  case hy => (intro w' hSw; go_simp)
  try simp only [List.setIfInBounds_toArray, List.set_cons_zero, List.set_cons_succ]
  refine takeG 4 (v := .slice (some ⟨g, (i + 1) * 3, none⟩) (l.length + 1 - (i + 1)) (cap - (i + 1))) rfl (by kernel_rfl) (by kernel_rfl) (by kernel_rfl) (by kernel_rfl) (fun _ _ _ h => h) ?hy (by assumption) ?_
  case hy => (intro w' hSw; go_simp)
  try simp only [List.setIfInBounds_toArray, List.set_cons_zero, List.set_cons_succ]
  refine takeG 5 (v := .slice (some ⟨g, 0, none⟩) (l.length + 1) cap) rfl (by kernel_rfl) (by kernel_rfl) (by kernel_rfl) (by kernel_rfl) (fun _ _ _ h => h) ?hy (by assumption) ?_
  case hy => (intro w' hSw; go_simp)
  try simp only [List.setIfInBounds_toArray, List.set_cons_zero, List.set_cons_succ]
  refine takeG 6 (v := .int .i64 (i : Int)) rfl (by kernel_rfl) (by kernel_rfl) (by kernel_rfl) (by kernel_rfl) (fun _ _ _ h => h) ?hy (by assumption) ?_
  case hy => (intro w' hSw; go_simp)
  try simp only [List.setIfInBounds_toArray, List.set_cons_zero, List.set_cons_succ]
  refine takeG 7 (v := .slice (some ⟨g, i * 3, none⟩) (l.length + 1 - i) (cap - i)) rfl (by kernel_rfl) (by kernel_rfl) (by kernel_rfl) (by kernel_rfl) (fun _ _ _ h => h) ?hy (by assumption) ?_
  case hy => (intro w' hSw; go_simp)
  try simp only [List.setIfInBounds_toArray, List.set_cons_zero, List.set_cons_succ]
  refine oneH 8 (by kernel_rfl) ?_
  refine doH rfl (v := goInt ((l.length - i : Nat) : Int)) (w' := W2) (exec_copy _ _ 23 23 rfl (.slice (some ⟨g, (i + 1) * 3, none⟩) (l.length + 1 - (i + 1)) (cap - (i + 1))) (.slice (some ⟨g, i * 3, none⟩) (l.length + 1 - i) (cap - i)) rfl rfl hcp1) trivial ?_
  try simp only [List.setIfInBounds_toArray, List.set_cons_zero, List.set_cons_succ]
  refine wpAnyH_done (by kernel_rfl) ?_ _
  clear hcp1
  go_wp2_with (refine wpList_copy_run rfl _ _ 23 23 rfl _ _ rfl rfl hcp2 ?_)
  go_ret
  exact ⟨_, rfl, HO.out, HK.out⟩
theorem insertF_any (v : Value) (vb i : Nat) (l : List FactV) (f : FactV) (base : Nat) (w : World) (hl : l.length ≤ 1000) (hi : i ≤ l.length) (hne : v.ownBlock ≠ some vb) (ho : w.ownsRow base 54 3 v l.length (cellsOf FactV.cells l)) (hv : BlkIs w vb 54 #[.int .i64 f.node, .int .i64 f.inc, .int .i64 f.st]) (hbase : base ≤ w.heap.size) :
    Calls Tryz.prog 192 #[v, .int .i64 i, .slice (some ⟨vb, 0, none⟩) 1 1] w (InsPost base v (insF l f i) w) := by
  by_cases he : i = l.length
  · subst he
    exact ins_end v vb l f base w hl ho hv hbase
  · have hv' := ho.2
    rcases hv' with ⟨_, hn⟩ | ⟨g, cap, cur, rfl, _, _, hc, _⟩
    · omega
    · by_cases hcc : cap = l.length
      · subst hcc
        exact ins_grow g vb i l f base w hl (by omega) ho hv hbase
      · exact ins_room g cap vb i l f base w hl (by omega) (by omega) (fun e => hne (by rw [e]; rfl)) ho hv hbase
end Go.Proofs.YtmdcankfjmkkeaaGreat
