/- The contracts of a heap's own methods: how many, which is due first, two changed for each other. -/
import Derived.Test.YtlnkcbojoaoehaaHeapM
namespace Go.Proofs.Ytlnkcbojoaoehaa
open Go Go.RowKit
set_option linter.unusedVariables false

theorem hlen_any (a : Option Addr) (n cap : Nat) (w : World) : Calls Try.prog 59 #[.slice a n cap] w fun e w' => e = .returned (.int .i64 n) ∧ w = w' := by
  go_enter Try.func59, Try.ntmps59
  go_wp2
  go_ret
  exact ⟨rfl, rfl⟩
set_option maxHeartbeats 1000000 in
set_option maxRecDepth 100000 in
theorem hless_any (lo hb g cap : Nat) (l : List DueV) (i j : Nat) (w : World) (h : HeapAt w lo hb g cap l) (hi : i < l.length) (hj : j < l.length) :
    Calls Try.prog 85 #[.slice (some ⟨g, 0, none⟩) l.length cap, .int .i64 i, .int .i64 j] w fun e w' => Tells ((dAt l i).lt (dAt l j)) e ∧ Below w.heap.size w w' := by
  have dx := h.due hi
  have dy := h.due hj
  have HO : Hid (ordD (dAt l i) (dAt l j) < 0 ↔ (dAt l i).lt (dAt l j)) := ordD_neg
  obtain ⟨x, hx⟩ : ∃ x, dAt l i = x := ⟨_, rfl⟩
  obtain ⟨y, hy⟩ : ∃ y, dAt l j = y := ⟨_, rfl⟩
  rw [hx] at dx HO
  rw [hy] at dy HO
  rw [hx, hy]
  clear hx hy
  obtain ⟨x1, x2, x3, x4⟩ := x
  obtain ⟨y1, y2, y3, y4⟩ := y
  have hi' : (i : Int) < (l.length : Int) := by omega
  have hj' : (j : Int) < (l.length : Int) := by omega
  go_enter Try.func85, Try.ntmps85
  go_upto_region 1 with fail
  refine wp_region_held_drew (S := (fun w' => Below w.heap.size w w')) (by kernel_rfl) ?hS0 (fun hHeld => ?_)
  case hS0 => exact (Below.refl _ _).drew
  refine takeG 0 (v := .slice (some ⟨g, 0, none⟩) l.length cap) rfl (by kernel_rfl) (by kernel_rfl) (by kernel_rfl) (by kernel_rfl) (fun _ _ _ h => h) ?hy (by assumption) ?_
  case hy => (intro w' hSw; go_simp)
  try simp only [List.setIfInBounds_toArray, List.set_cons_zero, List.set_cons_succ]
  refine takeG 1 (v := .int .i64 (i : Int)) rfl (by kernel_rfl) (by kernel_rfl) (by kernel_rfl) (by kernel_rfl) (fun _ _ _ h => h) ?hy (by assumption) ?_
  case hy => (intro w' hSw; go_simp)
  try simp only [List.setIfInBounds_toArray, List.set_cons_zero, List.set_cons_succ]
  refine takeG 2 (v := .pointer (some ⟨g, i * 4, none⟩)) rfl (by kernel_rfl) (by kernel_rfl) (by kernel_rfl) (by kernel_rfl) (fun _ _ _ h => h) ?hy (by assumption) ?_
  case hy => (intro w' hSw; go_simp)
  try simp only [List.setIfInBounds_toArray, List.set_cons_zero, List.set_cons_succ]
  refine takeG 3 (v := .agg #[.int .i64 x1, .int .i64 x2, .int .i64 x3, .string x4]) rfl (by kernel_rfl) (by kernel_rfl) (by kernel_rfl) (by kernel_rfl) (fun _ _ _ h => h) ?hy (by assumption) ?_
  case hy => (intro w' hSw; obtain ⟨_, s0, s1, s2, s3⟩ := (dx).keep hSw; dsimp only at s0 s1 s2 s3; go_simp)
  try simp only [List.setIfInBounds_toArray, List.set_cons_zero, List.set_cons_succ]
  refine takeG 4 (v := .slice (some ⟨g, 0, none⟩) l.length cap) rfl (by kernel_rfl) (by kernel_rfl) (by kernel_rfl) (by kernel_rfl) (fun _ _ _ h => h) ?hy (by assumption) ?_
  case hy => (intro w' hSw; go_simp)
  try simp only [List.setIfInBounds_toArray, List.set_cons_zero, List.set_cons_succ]
  refine takeG 5 (v := .int .i64 (j : Int)) rfl (by kernel_rfl) (by kernel_rfl) (by kernel_rfl) (by kernel_rfl) (fun _ _ _ h => h) ?hy (by assumption) ?_
  case hy => (intro w' hSw; go_simp)
  try simp only [List.setIfInBounds_toArray, List.set_cons_zero, List.set_cons_succ]
  refine takeG 6 (v := .pointer (some ⟨g, j * 4, none⟩)) rfl (by kernel_rfl) (by kernel_rfl) (by kernel_rfl) (by kernel_rfl) (fun _ _ _ h => h) ?hy (by assumption) ?_
  case hy => (intro w' hSw; go_simp)
  try simp only [List.setIfInBounds_toArray, List.set_cons_zero, List.set_cons_succ]
  refine takeG 7 (v := .agg #[.int .i64 y1, .int .i64 y2, .int .i64 y3, .string y4]) rfl (by kernel_rfl) (by kernel_rfl) (by kernel_rfl) (by kernel_rfl) (fun _ _ _ h => h) ?hy (by assumption) ?_
  case hy => (intro w' hSw; obtain ⟨_, s0, s1, s2, s3⟩ := (dy).keep hSw; dsimp only at s0 s1 s2 s3; go_simp)
  try simp only [List.setIfInBounds_toArray, List.set_cons_zero, List.set_cons_succ]
  refine runG 8 (by kernel_rfl) rfl (by kernel_rfl) ?_
  go_simp
  refine (dueOrder_any ⟨x1, x2, x3, x4⟩ ⟨y1, y2, y3, y4⟩ _).mono ?_
  rintro e z1 ⟨rfl, bz1⟩
  have hz1 : Below w.heap.size w z1 := hHeld.trans bz1
  refine ⟨hz1, ?_⟩
  clear hHeld
  try simp only [Act.put, List.setIfInBounds_toArray, List.set_cons_zero, List.set_cons_succ]
  refine takeG 9 (v := .bool (decide (ordD ⟨x1, x2, x3, x4⟩ ⟨y1, y2, y3, y4⟩ < 0))) rfl (by kernel_rfl) (by kernel_rfl) (by kernel_rfl) (by kernel_rfl) (fun _ _ _ h => h) ?hy (by assumption) ?_
  case hy => (intro w' hSw; go_simp)
  try simp only [List.setIfInBounds_toArray, List.set_cons_zero, List.set_cons_succ]
  refine takeG 10 (v := .bool (decide (ordD ⟨x1, x2, x3, x4⟩ ⟨y1, y2, y3, y4⟩ < 0))) rfl (by kernel_rfl) (by kernel_rfl) (by kernel_rfl) (by kernel_rfl) (fun _ _ _ h => h) ?hy (by assumption) ?_
  case hy => (intro w' hSw; go_simp)
  try simp only [List.setIfInBounds_toArray, List.set_cons_zero, List.set_cons_succ]
  refine wpAnyH_done (by kernel_rfl) ?_ _
  go_wp2
  go_ret
  exact ⟨⟨_, rfl, by rw [decide_eq_true_iff]; exact HO.out⟩, hz1⟩
theorem hless_yes (lo hb g cap : Nat) (l : List DueV) (i j : Nat) (w : World) (h : HeapAt w lo hb g cap l) (hi : i < l.length) (hj : j < l.length) (hlt : (dAt l i).lt (dAt l j)) :
    Calls Try.prog 85 #[.slice (some ⟨g, 0, none⟩) l.length cap, .int .i64 i, .int .i64 j] w fun e w' => e = .returned (.bool true) ∧ Below w.heap.size w w' :=
  (hless_any lo hb g cap l i j w h hi hj).mono fun e w' ⟨⟨r, he, hr⟩, hb⟩ => ⟨by rw [he, hr.2 hlt], hb⟩
theorem hless_no (lo hb g cap : Nat) (l : List DueV) (i j : Nat) (w : World) (h : HeapAt w lo hb g cap l) (hi : i < l.length) (hj : j < l.length) (hlt : ¬ (dAt l i).lt (dAt l j)) :
    Calls Try.prog 85 #[.slice (some ⟨g, 0, none⟩) l.length cap, .int .i64 i, .int .i64 j] w fun e w' => e = .returned (.bool false) ∧ Below w.heap.size w w' :=
  (hless_any lo hb g cap l i j w h hi hj).mono fun e w' ⟨⟨r, he, hr⟩, hb⟩ => ⟨by rw [he]; cases r with | false => rfl | true => exact absurd (hr.1 rfl) hlt, hb⟩
theorem hless_y (lo hb g cap : Nat) (l : List DueV) (i j : Nat) (I J : Int) (eI : I = (i : Int)) (eJ : J = (j : Int)) (w : World) (h : HeapAt w lo hb g cap l) (hi : i < l.length) (hj : j < l.length) (hlt : (dAt l i).lt (dAt l j)) :
    Calls Try.prog 85 #[.slice (some ⟨g, 0, none⟩) l.length cap, .int .i64 I, .int .i64 J] w fun e w' => e = .returned (.bool true) ∧ Below w.heap.size w w' := by
  subst eI eJ; exact hless_yes lo hb g cap l i j w h hi hj hlt
theorem hless_n (lo hb g cap : Nat) (l : List DueV) (i j : Nat) (I J : Int) (eI : I = (i : Int)) (eJ : J = (j : Int)) (w : World) (h : HeapAt w lo hb g cap l) (hi : i < l.length) (hj : j < l.length) (hlt : ¬ (dAt l i).lt (dAt l j)) :
    Calls Try.prog 85 #[.slice (some ⟨g, 0, none⟩) l.length cap, .int .i64 I, .int .i64 J] w fun e w' => e = .returned (.bool false) ∧ Below w.heap.size w w' := by
  subst eI eJ; exact hless_no lo hb g cap l i j w h hi hj hlt
theorem cellsOf_set {l : List DueV} {i : Nat} (hi : i < l.length) (x : DueV) : cellsOf DueV.cells (l.set i x) = ((((cellsOf DueV.cells l).set (i * 4) (.int .i64 x.at0)).set (i * 4 + 1) (.int .i64 x.seq)).set (i * 4 + 2) (.int .i64 x.node)).set (i * 4 + 3) (.string x.text) := by
  obtain ⟨a, y, b, rfl, ha⟩ : ∃ a y b, l = a ++ y :: b ∧ a.length = i := ⟨l.take i, l[i], l.drop (i + 1), by rw [← List.drop_eq_getElem_cons hi, List.take_append_drop], by rw [List.length_take]; omega⟩
  subst ha
  have hl : (cellsOf DueV.cells a).length = a.length * 4 := cellsOf_length DueV.cells_len a
  have e1 : cellsOf DueV.cells (a ++ y :: b) = cellsOf DueV.cells a ++ .int .i64 y.at0 :: .int .i64 y.seq :: .int .i64 y.node :: .string y.text :: cellsOf DueV.cells b := by
    rw [cellsOf_append]; rfl
  rw [e1, set_four hl, List.set_append_right _ _ (Nat.le_refl _)]
  simp only [Nat.sub_self, List.set_cons_zero]
  rw [cellsOf_append]; rfl
/-- A Due put into a heap's place. -/
theorem HeapAt.put {w : World} {lo hb g cap : Nat} {l : List DueV} (h : HeapAt w lo hb g cap l) {i : Nat} (x : DueV) (hi : i < l.length) :
    HeapAt ((((w.setCell ⟨g, i * 4, none⟩ (.int .i64 x.at0)).setCell ⟨g, i * 4 + 1, none⟩ (.int .i64 x.seq)).setCell ⟨g, i * 4 + 2, none⟩ (.int .i64 x.node)).setCell ⟨g, i * 4 + 3, none⟩ (.string x.text)) lo hb g cap (l.set i x) := by
  obtain ⟨r1, g1⟩ := h.row.stored (i * 4) (.int .i64 x.at0)
  obtain ⟨r2, g2⟩ := r1.stored (i * 4 + 1) (.int .i64 x.seq)
  obtain ⟨r3, g3⟩ := r2.stored (i * 4 + 2) (.int .i64 x.node)
  obtain ⟨r4, g4⟩ := r3.stored (i * 4 + 3) (.string x.text)
  have hne : some hb ≠ some g := fun e => h.ne (Option.some.inj e)
  have b4 := (((h.box.kept g1 hne).kept g2 hne).kept g3 hne).kept g4 hne
  exact ⟨by rw [List.length_set]; exact b4, by rw [List.length_set, cellsOf_set hi]; exact r4⟩
theorem HeapAt.keeps4 {w : World} {lo hb g cap : Nat} {l : List DueV} (h : HeapAt w lo hb g cap l) (i : Nat) (a b c : Int) (d : ByteArray) :
    Keeps (fun k => k ≠ g) w ((((w.setCell ⟨g, i * 4, none⟩ (.int .i64 a)).setCell ⟨g, i * 4 + 1, none⟩ (.int .i64 b)).setCell ⟨g, i * 4 + 2, none⟩ (.int .i64 c)).setCell ⟨g, i * 4 + 3, none⟩ (.string d)) :=
  ((((Keeps.refl _ _).setCell (fun e => e rfl) _).setCell (fun e => e rfl) _).setCell (fun e => e rfl) _).setCell (fun e => e rfl) _
theorem HeapAt.fz {w : World} {lo hb g cap : Nat} {l : List DueV} (h : HeapAt w lo hb g cap l) (i : Nat) : w.frozen? ⟨g, i * 4, none⟩ = false ∧ w.frozen? ⟨g, i * 4 + 1, none⟩ = false ∧ w.frozen? ⟨g, i * 4 + 2, none⟩ = false ∧ w.frozen? ⟨g, i * 4 + 3, none⟩ = false :=
  ⟨h.row.frozenAt _, h.row.frozenAt _, h.row.frozenAt _, h.row.frozenAt _⟩
theorem HeapAt.has {w : World} {lo hb g cap : Nat} {l : List DueV} (h : HeapAt w lo hb g cap l) {i : Nat} (hi : i < l.length) : w.cell? ⟨g, i * 4, none⟩ = some (.int .i64 (dAt l i).at0) ∧ w.cell? ⟨g, i * 4 + 1, none⟩ = some (.int .i64 (dAt l i).seq) ∧ w.cell? ⟨g, i * 4 + 2, none⟩ = some (.int .i64 (dAt l i).node) ∧ w.cell? ⟨g, i * 4 + 3, none⟩ = some (.string (dAt l i).text) :=
  ⟨(h.due hi).c0, (h.due hi).c1, (h.due hi).c2, (h.due hi).c3⟩
theorem HeapAt.drew {w : World} {lo hb g cap : Nat} {l : List DueV} (h : HeapAt w lo hb g cap l) : HeapAt w.drew lo hb g cap l := ⟨h.box, h.row⟩
set_option maxHeartbeats 1000000 in
set_option maxRecDepth 100000 in
theorem hswap_any (lo hb g cap : Nat) (l : List DueV) (i j : Nat) (w : World) (h : HeapAt w lo hb g cap l) (hi : i < l.length) (hj : j < l.length) :
    Calls Try.prog 88 #[.slice (some ⟨g, 0, none⟩) l.length cap, .int .i64 i, .int .i64 j] w fun e w' => e = .returned (.tuple #[]) ∧ HeapAt w' lo hb g cap (swapD l i j) ∧ Keeps (fun k => k ≠ g) w w' := by
  obtain ⟨c0, c1, c2, c3⟩ := h.has hi
  obtain ⟨d0, d1, d2, d3⟩ := h.has hj
  obtain ⟨f0, f1, f2, f3⟩ := h.fz i
  have HE : Hid ((l.set i (dAt l j)).set j (dAt l i) = swapD l i j) := rfl
  obtain ⟨x, hx⟩ : ∃ x, dAt l i = x := ⟨_, rfl⟩
  obtain ⟨y, hy⟩ : ∃ y, dAt l j = y := ⟨_, rfl⟩
  rw [hx] at c0 c1 c2 c3 HE
  rw [hy] at d0 d1 d2 d3 HE
  clear hx hy
  obtain ⟨x1, x2, x3, x4⟩ := x
  obtain ⟨y1, y2, y3, y4⟩ := y
  dsimp only at c0 c1 c2 c3 d0 d1 d2 d3
  have hi' : (i : Int) < (l.length : Int) := by omega
  have hj' : (j : Int) < (l.length : Int) := by omega
  have HA := h.put (i := i) ⟨y1, y2, y3, y4⟩ hi
  have KA := h.keeps4 i y1 y2 y3 y4
  clear h
  dsimp only at HA
  go_enter Try.func88, Try.ntmps88
  go_upto_region 0 with fail
  refine wp_region_held_drew (S := fun _ => True) (by kernel_rfl) trivial (fun hHeld => ?_)
  refine takeG 0 (v := .slice (some ⟨g, 0, none⟩) l.length cap) rfl (by kernel_rfl) (by kernel_rfl) (by kernel_rfl) (by kernel_rfl) (fun _ _ _ h => h) ?hy (by assumption) ?_
  case hy => (intro w' hSw; go_simp)
  try simp only [List.setIfInBounds_toArray, List.set_cons_zero, List.set_cons_succ]
  refine takeG 1 (v := .int .i64 (i : Int)) rfl (by kernel_rfl) (by kernel_rfl) (by kernel_rfl) (by kernel_rfl) (fun _ _ _ h => h) ?hy (by assumption) ?_
  case hy => (intro w' hSw; go_simp)
  try simp only [List.setIfInBounds_toArray, List.set_cons_zero, List.set_cons_succ]
  refine takeG 2 (v := .slice (some ⟨g, 0, none⟩) l.length cap) rfl (by kernel_rfl) (by kernel_rfl) (by kernel_rfl) (by kernel_rfl) (fun _ _ _ h => h) ?hy (by assumption) ?_
  case hy => (intro w' hSw; go_simp)
  try simp only [List.setIfInBounds_toArray, List.set_cons_zero, List.set_cons_succ]
  refine takeG 3 (v := .int .i64 (j : Int)) rfl (by kernel_rfl) (by kernel_rfl) (by kernel_rfl) (by kernel_rfl) (fun _ _ _ h => h) ?hy (by assumption) ?_
  case hy => (intro w' hSw; go_simp)
  try simp only [List.setIfInBounds_toArray, List.set_cons_zero, List.set_cons_succ]
  refine takeG 4 (v := .slice (some ⟨g, 0, none⟩) l.length cap) rfl (by kernel_rfl) (by kernel_rfl) (by kernel_rfl) (by kernel_rfl) (fun _ _ _ h => h) ?hy (by assumption) ?_
  case hy => (intro w' hSw; go_simp)
  try simp only [List.setIfInBounds_toArray, List.set_cons_zero, List.set_cons_succ]
  refine takeG 5 (v := .int .i64 (j : Int)) rfl (by kernel_rfl) (by kernel_rfl) (by kernel_rfl) (by kernel_rfl) (fun _ _ _ h => h) ?hy (by assumption) ?_
  case hy => (intro w' hSw; go_simp)
  try simp only [List.setIfInBounds_toArray, List.set_cons_zero, List.set_cons_succ]
  refine takeG 6 (v := .pointer (some ⟨g, j * 4, none⟩)) rfl (by kernel_rfl) (by kernel_rfl) (by kernel_rfl) (by kernel_rfl) (fun _ _ _ h => h) ?hy (by assumption) ?_
  case hy => (intro w' hSw; go_simp)
  try simp only [List.setIfInBounds_toArray, List.set_cons_zero, List.set_cons_succ]
  refine takeG 8 (v := .slice (some ⟨g, 0, none⟩) l.length cap) rfl (by kernel_rfl) (by kernel_rfl) (by kernel_rfl) (by kernel_rfl) (fun _ _ _ h => h) ?hy (by assumption) ?_
  case hy => (intro w' hSw; go_simp)
  try simp only [List.setIfInBounds_toArray, List.set_cons_zero, List.set_cons_succ]
  refine takeG 9 (v := .int .i64 (i : Int)) rfl (by kernel_rfl) (by kernel_rfl) (by kernel_rfl) (by kernel_rfl) (fun _ _ _ h => h) ?hy (by assumption) ?_
  case hy => (intro w' hSw; go_simp)
  try simp only [List.setIfInBounds_toArray, List.set_cons_zero, List.set_cons_succ]
  refine takeG 10 (v := .pointer (some ⟨g, i * 4, none⟩)) rfl (by kernel_rfl) (by kernel_rfl) (by kernel_rfl) (by kernel_rfl) (fun _ _ _ h => h) ?hy (by assumption) ?_
  case hy => (intro w' hSw; go_simp)
  try simp only [List.setIfInBounds_toArray, List.set_cons_zero, List.set_cons_succ]
  refine twoH 7 11 (by kernel_rfl) ?_ ?_
  · refine doH rfl (v := .agg #[.int .i64 y1, .int .i64 y2, .int .i64 y3, .string y4]) (w' := w.drew) (by go_simp) trivial ?_
    try simp only [List.setIfInBounds_toArray, List.set_cons_zero, List.set_cons_succ]
    refine oneH 11 (by kernel_rfl) ?_
    refine doH rfl (v := .agg #[.int .i64 x1, .int .i64 x2, .int .i64 x3, .string x4]) (w' := w.drew) (by go_simp) trivial ?_
    try simp only [List.setIfInBounds_toArray, List.set_cons_zero, List.set_cons_succ]
    refine takeG 12 (v := .pointer (some ⟨g, i * 4, none⟩)) rfl (by kernel_rfl) (by kernel_rfl) (by kernel_rfl) (by kernel_rfl) (fun _ _ _ h => h) ?hy (by assumption) ?_
    case hy => (intro w' hSw; go_simp)
    try simp only [List.setIfInBounds_toArray, List.set_cons_zero, List.set_cons_succ]
    refine oneH 13 (by kernel_rfl) ?_
    refine storeH rfl (nx := .skip) (w' := ((((w.setCell ⟨g, i * 4, none⟩ (.int .i64 y1)).setCell ⟨g, i * 4 + 1, none⟩ (.int .i64 y2)).setCell ⟨g, i * 4 + 2, none⟩ (.int .i64 y3)).setCell ⟨g, i * 4 + 3, none⟩ (.string y4)).drew) (by go_simp) (.inl rfl) trivial ?_
    try simp only [List.setIfInBounds_toArray, List.set_cons_zero, List.set_cons_succ]
    clear hHeld
    have hHeld := trivial
    obtain ⟨W1, hW1⟩ : ∃ W1, (((w.setCell ⟨g, i * 4, none⟩ (.int .i64 y1)).setCell ⟨g, i * 4 + 1, none⟩ (.int .i64 y2)).setCell ⟨g, i * 4 + 2, none⟩ (.int .i64 y3)).setCell ⟨g, i * 4 + 3, none⟩ (.string y4) = W1 := ⟨_, rfl⟩
    rw [hW1] at HA ⊢
    obtain ⟨n0, n1, n2, n3⟩ := HA.fz j
    obtain ⟨o0, o1, o2, o3⟩ := HA.has (i := j) (by rw [List.length_set]; exact hj)
    refine takeG 14 (v := .pointer (some ⟨g, j * 4, none⟩)) rfl (by kernel_rfl) (by kernel_rfl) (by kernel_rfl) (by kernel_rfl) (fun _ _ _ h => h) ?hy (by assumption) ?_
    case hy => (intro w' hSw; go_simp)
    try simp only [List.setIfInBounds_toArray, List.set_cons_zero, List.set_cons_succ]
    refine oneH 15 (by kernel_rfl) ?_
    refine storeH rfl (nx := .skip) (w' := ((((W1.setCell ⟨g, j * 4, none⟩ (.int .i64 x1)).setCell ⟨g, j * 4 + 1, none⟩ (.int .i64 x2)).setCell ⟨g, j * 4 + 2, none⟩ (.int .i64 x3)).setCell ⟨g, j * 4 + 3, none⟩ (.string x4)).drew) (by go_simp) (.inl rfl) trivial ?_
    try simp only [List.setIfInBounds_toArray, List.set_cons_zero, List.set_cons_succ]
    have HB := HA.put (i := j) ⟨x1, x2, x3, x4⟩ (by rw [List.length_set]; exact hj)
    have KB := (HA.keeps4 j x1 x2 x3 x4)
    rw [hW1] at KA
    refine wpAnyH_done (by kernel_rfl) ?_ _
    go_wp2
    go_end0
    exact ⟨rfl, by rw [← HE.out]; exact HB.drew, (KA.trans KB).drew⟩
  · refine doH rfl (v := .agg #[.int .i64 x1, .int .i64 x2, .int .i64 x3, .string x4]) (w' := w.drew) (by go_simp) trivial ?_
    try simp only [List.setIfInBounds_toArray, List.set_cons_zero, List.set_cons_succ]
    refine oneH 7 (by kernel_rfl) ?_
    refine doH rfl (v := .agg #[.int .i64 y1, .int .i64 y2, .int .i64 y3, .string y4]) (w' := w.drew) (by go_simp) trivial ?_
    try simp only [List.setIfInBounds_toArray, List.set_cons_zero, List.set_cons_succ]
    refine takeG 12 (v := .pointer (some ⟨g, i * 4, none⟩)) rfl (by kernel_rfl) (by kernel_rfl) (by kernel_rfl) (by kernel_rfl) (fun _ _ _ h => h) ?hy (by assumption) ?_
    case hy => (intro w' hSw; go_simp)
    try simp only [List.setIfInBounds_toArray, List.set_cons_zero, List.set_cons_succ]
    refine oneH 13 (by kernel_rfl) ?_
    refine storeH rfl (nx := .skip) (w' := ((((w.setCell ⟨g, i * 4, none⟩ (.int .i64 y1)).setCell ⟨g, i * 4 + 1, none⟩ (.int .i64 y2)).setCell ⟨g, i * 4 + 2, none⟩ (.int .i64 y3)).setCell ⟨g, i * 4 + 3, none⟩ (.string y4)).drew) (by go_simp) (.inl rfl) trivial ?_
    try simp only [List.setIfInBounds_toArray, List.set_cons_zero, List.set_cons_succ]
    clear hHeld
    have hHeld := trivial
    obtain ⟨W1, hW1⟩ : ∃ W1, (((w.setCell ⟨g, i * 4, none⟩ (.int .i64 y1)).setCell ⟨g, i * 4 + 1, none⟩ (.int .i64 y2)).setCell ⟨g, i * 4 + 2, none⟩ (.int .i64 y3)).setCell ⟨g, i * 4 + 3, none⟩ (.string y4) = W1 := ⟨_, rfl⟩
    rw [hW1] at HA ⊢
    obtain ⟨n0, n1, n2, n3⟩ := HA.fz j
    obtain ⟨o0, o1, o2, o3⟩ := HA.has (i := j) (by rw [List.length_set]; exact hj)
    refine takeG 14 (v := .pointer (some ⟨g, j * 4, none⟩)) rfl (by kernel_rfl) (by kernel_rfl) (by kernel_rfl) (by kernel_rfl) (fun _ _ _ h => h) ?hy (by assumption) ?_
    case hy => (intro w' hSw; go_simp)
    try simp only [List.setIfInBounds_toArray, List.set_cons_zero, List.set_cons_succ]
    refine oneH 15 (by kernel_rfl) ?_
    refine storeH rfl (nx := .skip) (w' := ((((W1.setCell ⟨g, j * 4, none⟩ (.int .i64 x1)).setCell ⟨g, j * 4 + 1, none⟩ (.int .i64 x2)).setCell ⟨g, j * 4 + 2, none⟩ (.int .i64 x3)).setCell ⟨g, j * 4 + 3, none⟩ (.string x4)).drew) (by go_simp) (.inl rfl) trivial ?_
    try simp only [List.setIfInBounds_toArray, List.set_cons_zero, List.set_cons_succ]
    have HB := HA.put (i := j) ⟨x1, x2, x3, x4⟩ (by rw [List.length_set]; exact hj)
    have KB := (HA.keeps4 j x1 x2 x3 x4)
    rw [hW1] at KA
    refine wpAnyH_done (by kernel_rfl) ?_ _
    go_wp2
    go_end0
    exact ⟨rfl, by rw [← HE.out]; exact HB.drew, (KA.trans KB).drew⟩
theorem hswap_i (lo hb g cap : Nat) (l : List DueV) (i j : Nat) (I J : Int) (eI : I = (i : Int)) (eJ : J = (j : Int)) (w : World) (h : HeapAt w lo hb g cap l) (hi : i < l.length) (hj : j < l.length) :
    Calls Try.prog 88 #[.slice (some ⟨g, 0, none⟩) l.length cap, .int .i64 I, .int .i64 J] w fun e w' => e = .returned (.tuple #[]) ∧ HeapAt w' lo hb g cap (swapD l i j) ∧ Keeps (fun k => k ≠ g) w w' := by
  subst eI eJ; exact hswap_any lo hb g cap l i j w h hi hj
end Go.Proofs.Ytlnkcbojoaoehaa
