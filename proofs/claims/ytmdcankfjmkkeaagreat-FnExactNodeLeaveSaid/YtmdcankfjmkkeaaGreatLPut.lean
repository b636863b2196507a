/- The contract of the specification's l04Put. -/
import Derived.Test.YtmdcankfjmkkeaaGreatG18
import Derived.Test.YtmdcankfjmkkeaaGreatG4
import Derived.Test.YtmdcankfjmkkeaaGreatG39
import Derived.Test.YtmdcankfjmkkeaaGreatG47
namespace Go.Proofs.YtmdcankfjmkkeaaGreat
open Go Go.RowKit
set_option linter.unusedVariables false

theorem CellRow.keepy {w w' : World} {n b off : Nat} {cs : List Value} (h : CellRow w (some ⟨b, off, none⟩) cs) (k : Below n w w') (hb : cs = [] ∨ b < n) : CellRow w' (some ⟨b, off, none⟩) cs := by
  rcases hb with h0 | hb
  · exact .inl h0
  rcases h with h | ⟨b', off', e, hlt, hc⟩
  · exact .inl h
  · simp only [Option.some.injEq, Addr.mk.injEq, and_true] at e
    obtain ⟨rfl, rfl⟩ := e
    exact .inr ⟨_, _, rfl, Nat.lt_of_lt_of_le hlt k.size, fun i hi => (k.cell (p := ⟨b, off + i, none⟩) hb).trans (hc i hi)⟩
theorem BlkIs.keepy {w w' : World} {n b t : Nat} {cs : Array Value} (h : BlkIs w b t cs) (k : Below n w w') (hb : b < n) : BlkIs w' b t cs := (k.block b hb).trans h
theorem FAt.keepy {w w' : World} {n b off : Nat} {x : FactV} (h : FAt w b off x) (k : Below n w w') (hb : b < n) : FAt w' b off x :=
  ⟨Nat.lt_of_lt_of_le h.lt k.size, (k.cell (p := ⟨b, off, none⟩) hb).trans h.c0, (k.cell (p := ⟨b, off + 1, none⟩) hb).trans h.c1, (k.cell (p := ⟨b, off + 2, none⟩) hb).trans h.c2⟩
theorem FAt.keepK {w w' : World} {b off : Nat} {x : FactV} (h : FAt w b off x) {G : Nat → Prop} (k : Keeps G w w') (hg : G b) : FAt w' b off x :=
  ⟨Nat.lt_of_lt_of_le h.lt k.size, (k.cell (p := ⟨b, off, none⟩) h.lt hg).trans h.c0, (k.cell (p := ⟨b, off + 1, none⟩) h.lt hg).trans h.c1, (k.cell (p := ⟨b, off + 2, none⟩) h.lt hg).trans h.c2⟩
/-- The joined fact's box, and the fact that it comes of. -/
def JV (w : World) (kb b o : Nat) (m y : FactV) : Prop := BlkIs w kb 54 #[.int .i64 m.node, .int .i64 m.inc, .int .i64 m.st] ∧ FAt w b o y
set_option maxHeartbeats 8000000 in
set_option maxRecDepth 100000 in
theorem specL04Put_any (b off cap k : Nat) (l : List FactV) (f : FactV) (r : Bool) (w : World) (hl : l.length ≤ 1000) (hri : riseV l) (hp : placeF l f.node k) (hrn : r = true ↔ newsAt l f k) (hcap : l.length ≤ cap) (hcm : (cap : Int) ≤ 9223372036854775807) (hrow : CellRow w (some ⟨b, off, none⟩) (cellsOf FactV.cells l)) :
    Calls Tryz.prog 76 #[.slice (some ⟨b, off, none⟩) l.length cap, f.val] w (OutPost 0 (putL l f k) r w) := by
  obtain ⟨f1, f2, f3⟩ := f
  have HRI : Hid (riseV l) := hri
  have HPL : Hid (placeF l f1 k) := hp
  have HRN : Hid (r = true ↔ newsAt l ⟨f1, f2, f3⟩ k) := hrn
  have b0 := ((Below.refl w.heap.size w).alloc (Nat.le_refl _) (.cells #[.int .i64 f1, .int .i64 f2, .int .i64 f3] 54)).alloc (by simp) (.cells #[.slice none 0 0, .bool false, .int .i64 0] 107)
  have p0 := (FBlk.new w ⟨f1, f2, f3⟩).keep ((Below.refl _ _).alloc (Nat.le_refl _) (.cells #[.slice none 0 0, .bool false, .int .i64 0] 107))
  have r0 := BlkIs.new (w.alloc (.cells #[.int .i64 f1, .int .i64 f2, .int .i64 f3] 54)) 107 #[.slice none 0 0, .bool false, .int .i64 0]
  rw [World.size_alloc] at r0
  dsimp only at p0
  have hrow0 := hrow.keep b0
  obtain ⟨W, hW⟩ : ∃ W, (w.alloc (.cells #[.int .i64 f1, .int .i64 f2, .int .i64 f3] 54)).alloc (.cells #[.slice none 0 0, .bool false, .int .i64 0] 107) = W := ⟨_, rfl⟩
  rw [hW] at b0 p0 r0 hrow0
  have HW : Hid (_ = W) := hW
  have hW2 : w.heap.size + 2 = W.heap.size := by rw [← hW]; simp
  obtain ⟨yb, hyb⟩ : ∃ yb, W.heap.size = yb := ⟨_, rfl⟩
  rw [hyb] at hW2
  have hyw : w.heap.size + 1 < yb := by omega
  have hbc : cellsOf FactV.cells l = [] ∨ b < w.heap.size := by
    rcases hrow with h | ⟨b', o', e, hlt, _⟩
    · exact .inl h
    · right
      have : b = b' := by simpa using congrArg (Option.map Addr.block) e
      omega
  have hby : cellsOf FactV.cells l = [] ∨ b < yb := hbc.imp id (fun h => by omega)
  clear hri hp hrn hrow hW hW2
  unfold FactV.val
  go_enter Tryz.func76, Tryz.ntmps76
  go_wp2
  rw [HW.out]
  clear HW
  go_loopw [5] (fun i wr => ∃ j : Nat, j ≤ l.length ∧ i = .int .i64 j ∧ (∀ q (h : q < l.length), q < j → l[q].node < f1) ∧ Below W.heap.size W wr) (fun i _ => l.length - (intOf i).toNat)
  case atStart => exact ⟨0, Nat.zero_le _, rfl, fun j _ h => by omega, Below.refl _ _⟩
  case round =>
    obtain ⟨j, hj, rfl, hlow, hb⟩ := hrel
    have HL : Hid (∀ q (h : q < l.length), q < j → l[q].node < f1) := hlow
    clear hlow
    have pd := p0.keep hb
    have rz0 := r0.keep hb
    have Bz0 := b0.trans (hb.mono b0.size)
    have hrowz0 := hrow0.keep hb
    have hsb := hb.size
    by_cases hx : j < l.length
    · have hbw : b < w.heap.size := hbc.resolve_left (fun h => by have := cellsOf_length FactV.cells_len l; rw [h] at this; simp at this; omega)
      obtain ⟨y, hly⟩ : ∃ y, l[j] = y := ⟨_, rfl⟩
      obtain ⟨y1, y2, y3⟩ := y
      have dm := hrowz0.fact hx hly
      have HY : Hid (l[j] = ⟨y1, y2, y3⟩) := hly
      have hjI : (j : Int) < (l.length : Int) := by omega
      clear hly
      by_cases hlt : y1 < f1
      · have HE : Hid (y1 < f1) := hlt
        have hd2 : decide (y1 < f1) = true := decide_eq_true hlt
        clear rz0 Bz0 hrowz0
        go_upto_region 2 with fail
        refine wp_region_held_drew (S := (fun w' => Below wr.heap.size wr w')) (by kernel_rfl) ?hS0 (fun hHeld => ?_)
        case hS0 => exact (Below.refl _ _).drew
        refine takeG 0 (v := .int .i64 (j : Int)) rfl (by kernel_rfl) (by kernel_rfl) (by kernel_rfl) (by kernel_rfl) (fun _ _ _ h => h) ?hy (by assumption) ?_
        case hy => (intro w' hSw; go_simp)
        try simp only [List.setIfInBounds_toArray, List.set_cons_zero, List.set_cons_succ]
        refine takeG 1 (v := .slice (some ⟨b, off, none⟩) l.length cap) rfl (by kernel_rfl) (by kernel_rfl) (by kernel_rfl) (by kernel_rfl) (fun _ _ _ h => h) ?hy (by assumption) ?_
        case hy => (intro w' hSw; go_simp)
        try simp only [List.setIfInBounds_toArray, List.set_cons_zero, List.set_cons_succ]
        refine takeG 2 (v := .int .i64 (l.length : Int)) rfl (by kernel_rfl) (by kernel_rfl) (by kernel_rfl) (by kernel_rfl) (fun _ _ _ h => h) ?hy (by assumption) ?_
        case hy => (intro w' hSw; go_simp)
        try simp only [List.setIfInBounds_toArray, List.set_cons_zero, List.set_cons_succ]
        refine takeG 3 (v := .bool true) rfl (by kernel_rfl) (by kernel_rfl) (by kernel_rfl) (by kernel_rfl) (fun _ _ _ h => h) ?hy (by assumption) ?_
        case hy => (intro w' hSw; go_simp)
        try simp only [List.setIfInBounds_toArray, List.set_cons_zero, List.set_cons_succ]
        refine takeG 4 (v := .bool true) rfl (by kernel_rfl) (by kernel_rfl) (by kernel_rfl) (by kernel_rfl) (fun _ _ _ h => h) ?hy (by assumption) ?_
        case hy => (intro w' hSw; go_simp)
        try simp only [List.setIfInBounds_toArray, List.set_cons_zero, List.set_cons_succ]
        refine takeG 5 (v := .slice (some ⟨b, off, none⟩) l.length cap) rfl (by kernel_rfl) (by kernel_rfl) (by kernel_rfl) (by kernel_rfl) (fun _ _ _ h => h) ?hy (by assumption) ?_
        case hy => (intro w' hSw; go_simp)
        try simp only [List.setIfInBounds_toArray, List.set_cons_zero, List.set_cons_succ]
        refine takeG 6 (v := .int .i64 (j : Int)) rfl (by kernel_rfl) (by kernel_rfl) (by kernel_rfl) (by kernel_rfl) (fun _ _ _ h => h) ?hy (by assumption) ?_
        case hy => (intro w' hSw; go_simp)
        try simp only [List.setIfInBounds_toArray, List.set_cons_zero, List.set_cons_succ]
        refine takeG 7 (v := .pointer (some ⟨b, off + j * 3, none⟩)) rfl (by kernel_rfl) (by kernel_rfl) (by kernel_rfl) (by kernel_rfl) (fun _ _ _ h => h) ?hy (by assumption) ?_
        case hy => (intro w' hSw; go_simp)
        try simp only [List.setIfInBounds_toArray, List.set_cons_zero, List.set_cons_succ]
        refine takeG 8 (v := .pointer (some ⟨b, off + j * 3, none⟩)) rfl (by kernel_rfl) (by kernel_rfl) (by kernel_rfl) (by kernel_rfl) (fun _ _ _ h => h) ?hy (by assumption) ?_
        case hy => (intro w' hSw; go_simp)
        try simp only [List.setIfInBounds_toArray, List.set_cons_zero, List.set_cons_succ]
        refine takeG 9 (v := .int .i64 y1) rfl (by kernel_rfl) (by kernel_rfl) (by kernel_rfl) (by kernel_rfl) (fun _ _ _ h => h) ?hy (by assumption) ?_
        case hy => (intro w' hSw; obtain ⟨_, s0, s1, s2⟩ := (dm).keep hSw; dsimp only at s0 s1 s2; go_simp)
        try simp only [List.setIfInBounds_toArray, List.set_cons_zero, List.set_cons_succ]
        refine takeG 10 (v := .pointer (some ⟨w.heap.size, 0, none⟩)) rfl (by kernel_rfl) (by kernel_rfl) (by kernel_rfl) (by kernel_rfl) (fun _ _ _ h => h) ?hy (by assumption) ?_
        case hy => (intro w' hSw; go_simp)
        try simp only [List.setIfInBounds_toArray, List.set_cons_zero, List.set_cons_succ]
        refine takeG 11 (v := .int .i64 f1) rfl (by kernel_rfl) (by kernel_rfl) (by kernel_rfl) (by kernel_rfl) (fun _ _ _ h => h) ?hy (by assumption) ?_
        case hy => (intro w' hSw; obtain ⟨_, s0, s1, s2⟩ := (pd).keep hSw; dsimp only at s0 s1 s2; go_simp)
        try simp only [List.setIfInBounds_toArray, List.set_cons_zero, List.set_cons_succ]
        refine takeG 12 (v := .bool true) rfl (by kernel_rfl) (by kernel_rfl) (by kernel_rfl) (by kernel_rfl) (fun _ _ _ h => h) ?hy (by assumption) ?_
        case hy => (intro w' hSw; go_simp)
        try simp only [List.setIfInBounds_toArray, List.set_cons_zero, List.set_cons_succ]
        refine takeG 13 (v := .bool true) rfl (by kernel_rfl) (by kernel_rfl) (by kernel_rfl) (by kernel_rfl) (fun _ _ _ h => h) ?hy (by assumption) ?_
        case hy => (intro w' hSw; go_simp)
        try simp only [List.setIfInBounds_toArray, List.set_cons_zero, List.set_cons_succ]
        refine wpAnyH_done (by kernel_rfl) ?_ _
        have hb1 := hb.trans (hHeld.mono hb.size)
        clear dm pd hHeld
        go_wp2
        go_roundw
        case rel => exact ⟨j + 1, by omega, by go_num, fun q hq hqk => by
          by_cases ej : q = j
          · subst ej; rw [HY.out]; exact HE.out
          · exact HL.out q hq (by omega), hb1⟩
        case measure => simp [intOf]; omega
      · have hd2 : decide (y1 < f1) = false := decide_eq_false hlt
        obtain rfl : j = k := place_one (n := f1) ⟨hj, HL.out, fun q hq hjq => by
          by_cases e : q = j
          · subst e; rw [HY.out]; show f1 ≤ y1; omega
          · have := rise_at HRI.out (show j < q by omega) hq
            rw [HY.out] at this
            have h3 : y1 < (l[q]).node := this
            omega⟩ HPL.out
        obtain ⟨k, rfl⟩ : ∃ k, k = j := ⟨j, rfl⟩
        have hk : k ≤ l.length := hj
        go_upto_region 2 with fail
        refine wp_region_held_drew (S := (fun w' => Below wr.heap.size wr w')) (by kernel_rfl) ?hS0 (fun hHeld => ?_)
        case hS0 => exact (Below.refl _ _).drew
        refine takeG 0 (v := .int .i64 (k : Int)) rfl (by kernel_rfl) (by kernel_rfl) (by kernel_rfl) (by kernel_rfl) (fun _ _ _ h => h) ?hy (by assumption) ?_
        case hy => (intro w' hSw; go_simp)
        try simp only [List.setIfInBounds_toArray, List.set_cons_zero, List.set_cons_succ]
        refine takeG 1 (v := .slice (some ⟨b, off, none⟩) l.length cap) rfl (by kernel_rfl) (by kernel_rfl) (by kernel_rfl) (by kernel_rfl) (fun _ _ _ h => h) ?hy (by assumption) ?_
        case hy => (intro w' hSw; go_simp)
        try simp only [List.setIfInBounds_toArray, List.set_cons_zero, List.set_cons_succ]
        refine takeG 2 (v := .int .i64 (l.length : Int)) rfl (by kernel_rfl) (by kernel_rfl) (by kernel_rfl) (by kernel_rfl) (fun _ _ _ h => h) ?hy (by assumption) ?_
        case hy => (intro w' hSw; go_simp)
        try simp only [List.setIfInBounds_toArray, List.set_cons_zero, List.set_cons_succ]
        refine takeG 3 (v := .bool true) rfl (by kernel_rfl) (by kernel_rfl) (by kernel_rfl) (by kernel_rfl) (fun _ _ _ h => h) ?hy (by assumption) ?_
        case hy => (intro w' hSw; go_simp)
        try simp only [List.setIfInBounds_toArray, List.set_cons_zero, List.set_cons_succ]
        refine takeG 4 (v := .bool true) rfl (by kernel_rfl) (by kernel_rfl) (by kernel_rfl) (by kernel_rfl) (fun _ _ _ h => h) ?hy (by assumption) ?_
        case hy => (intro w' hSw; go_simp)
        try simp only [List.setIfInBounds_toArray, List.set_cons_zero, List.set_cons_succ]
        refine takeG 5 (v := .slice (some ⟨b, off, none⟩) l.length cap) rfl (by kernel_rfl) (by kernel_rfl) (by kernel_rfl) (by kernel_rfl) (fun _ _ _ h => h) ?hy (by assumption) ?_
        case hy => (intro w' hSw; go_simp)
        try simp only [List.setIfInBounds_toArray, List.set_cons_zero, List.set_cons_succ]
        refine takeG 6 (v := .int .i64 (k : Int)) rfl (by kernel_rfl) (by kernel_rfl) (by kernel_rfl) (by kernel_rfl) (fun _ _ _ h => h) ?hy (by assumption) ?_
        case hy => (intro w' hSw; go_simp)
        try simp only [List.setIfInBounds_toArray, List.set_cons_zero, List.set_cons_succ]
        refine takeG 7 (v := .pointer (some ⟨b, off + k * 3, none⟩)) rfl (by kernel_rfl) (by kernel_rfl) (by kernel_rfl) (by kernel_rfl) (fun _ _ _ h => h) ?hy (by assumption) ?_
        case hy => (intro w' hSw; go_simp)
        try simp only [List.setIfInBounds_toArray, List.set_cons_zero, List.set_cons_succ]
        refine takeG 8 (v := .pointer (some ⟨b, off + k * 3, none⟩)) rfl (by kernel_rfl) (by kernel_rfl) (by kernel_rfl) (by kernel_rfl) (fun _ _ _ h => h) ?hy (by assumption) ?_
        case hy => (intro w' hSw; go_simp)
        try simp only [List.setIfInBounds_toArray, List.set_cons_zero, List.set_cons_succ]
        refine takeG 9 (v := .int .i64 y1) rfl (by kernel_rfl) (by kernel_rfl) (by kernel_rfl) (by kernel_rfl) (fun _ _ _ h => h) ?hy (by assumption) ?_
        case hy => (intro w' hSw; obtain ⟨_, s0, s1, s2⟩ := (dm).keep hSw; dsimp only at s0 s1 s2; go_simp)
        try simp only [List.setIfInBounds_toArray, List.set_cons_zero, List.set_cons_succ]
        refine takeG 10 (v := .pointer (some ⟨w.heap.size, 0, none⟩)) rfl (by kernel_rfl) (by kernel_rfl) (by kernel_rfl) (by kernel_rfl) (fun _ _ _ h => h) ?hy (by assumption) ?_
        case hy => (intro w' hSw; go_simp)
        try simp only [List.setIfInBounds_toArray, List.set_cons_zero, List.set_cons_succ]
        refine takeG 11 (v := .int .i64 f1) rfl (by kernel_rfl) (by kernel_rfl) (by kernel_rfl) (by kernel_rfl) (fun _ _ _ h => h) ?hy (by assumption) ?_
        case hy => (intro w' hSw; obtain ⟨_, s0, s1, s2⟩ := (pd).keep hSw; dsimp only at s0 s1 s2; go_simp)
        try simp only [List.setIfInBounds_toArray, List.set_cons_zero, List.set_cons_succ]
        refine takeG 12 (v := .bool false) rfl (by kernel_rfl) (by kernel_rfl) (by kernel_rfl) (by kernel_rfl) (fun _ _ _ h => h) ?hy (by assumption) ?_
        case hy => (intro w' hSw; go_simp)
        try simp only [List.setIfInBounds_toArray, List.set_cons_zero, List.set_cons_succ]
        refine takeG 13 (v := .bool false) rfl (by kernel_rfl) (by kernel_rfl) (by kernel_rfl) (by kernel_rfl) (fun _ _ _ h => h) ?hy (by assumption) ?_
        case hy => (intro w' hSw; go_simp)
        try simp only [List.setIfInBounds_toArray, List.set_cons_zero, List.set_cons_succ]
        refine wpAnyH_done (by kernel_rfl) ?_ _
        obtain ⟨z, hz⟩ : ∃ z, wr.drew = z := ⟨_, rfl⟩
        rw [hz] at hHeld ⊢
        have pz := pd.keep hHeld
        have rz := rz0.keep hHeld
        have Bz := Bz0.trans (hHeld.mono Bz0.size)
        have hrowz := hrowz0.keep hHeld
        have hsz : yb ≤ z.heap.size := by have := hHeld.size; omega
        clear dm pd rz0 Bz0 hrowz0 hb hHeld hz HL
        have ba := (Below.refl z.heap.size z).alloc (Nat.le_refl _) (.cells #[] 54)
        have hrowa := hrowz.keep ba
        have hkc : (k : Int) ≤ (cap : Int) := by omega
        go_wp2_with (at_builtin; refine append_factsL rfl rfl _ _ rfl z.heap.size _ 0 [] rfl (World.ownsRow_lit _ #[] 0 (Nat.le_refl _) (by simp [maxLen]) rfl) ⟨b, off, none⟩ k _ (l.take k) (by rw [List.length_take]; omega) rfl (hrowa.takeF k hk) (by omega) ba.size ?_)
        intro v1 w1 own1 gr1 _
        have c1 : Below z.heap.size z w1 := ba.grown gr1 ba.size (fun g hg => by obtain rfl := Option.some.inj hg; exact Nat.le_refl _)
        have pw := pz.keep c1
        have rw1 := rz.keep c1
        have B1 := Bz.trans (c1.mono Bz.size)
        have hrow1 := hrowz.keep c1
        have hs1 := c1.size
        obtain ⟨q1, q2, q3, hsh⟩ := rowShape own1
        subst hsh
        clear gr1 hrowa ba c1
        have own1y := rowLe own1 hsz
        have dm1 := hrow1.fact hx HY.out
        clear own1 pz rz Bz hrowz
        by_cases heq : y1 = f1
        · have heq' : (y1 == f1) = true := beq_iff_eq.2 heq
          have HN0 : Hid (putL l ⟨f1, f2, f3⟩ k = l.take k ++ joinF ⟨y1, y2, y3⟩ ⟨f1, f2, f3⟩ :: l.drop (k + 1)) := by
            have := putL_there (f := ⟨f1, f2, f3⟩) hx (by rw [HY.out]; exact heq)
            rw [HY.out] at this
            exact this
          have hrm : r = true ↔ joinF ⟨y1, y2, y3⟩ ⟨f1, f2, f3⟩ ≠ ⟨y1, y2, y3⟩ := by
            rw [HRN.out]
            unfold newsAt
            constructor
            · intro h; have := h hx (by rw [HY.out]; exact heq); rw [HY.out] at this; exact this
            · intro h h1 h2; rw [HY.out]; exact h
          obtain ⟨m, hm⟩ : ∃ m, joinF ⟨y1, y2, y3⟩ ⟨f1, f2, f3⟩ = m := ⟨_, rfl⟩
          rw [hm] at HN0 hrm
          obtain ⟨m1, m2, m3⟩ := m
          have HM : Hid (joinF ⟨y1, y2, y3⟩ ⟨f1, f2, f3⟩ = ⟨m1, m2, m3⟩) := hm
          have HN : Hid (putL l ⟨f1, f2, f3⟩ k = l.take k ++ ⟨m1, m2, m3⟩ :: l.drop (k + 1)) := HN0
          have hq : (!r) = true ↔ (⟨m1, m2, m3⟩ : FactV) = ⟨y1, y2, y3⟩ := by
            cases r with
            | true => simpa using hrm
            | false => simpa using hrm
          have hneq := eqF_q hq
          dsimp only at hneq
          have hgu := guardF
          clear hm hrm hq HN0 heq
          go_upto_region 5 with fail
          refine wp_region_held_drew (S := (fun w' => Below w1.heap.size w1 w')) (by kernel_rfl) ?hS0 (fun hHeld => ?_)
          case hS0 => exact (Below.refl _ _).drew
          refine takeG 0 (v := .int .i64 (k : Int)) rfl (by kernel_rfl) (by kernel_rfl) (by kernel_rfl) (by kernel_rfl) (fun _ _ _ h => h) ?hy (by assumption) ?_
          case hy => (intro w' hSw; go_simp)
          try simp only [List.setIfInBounds_toArray, List.set_cons_zero, List.set_cons_succ]
          refine takeG 1 (v := .slice (some ⟨b, off, none⟩) l.length cap) rfl (by kernel_rfl) (by kernel_rfl) (by kernel_rfl) (by kernel_rfl) (fun _ _ _ h => h) ?hy (by assumption) ?_
          case hy => (intro w' hSw; go_simp)
          try simp only [List.setIfInBounds_toArray, List.set_cons_zero, List.set_cons_succ]
          refine takeG 2 (v := .int .i64 (l.length : Int)) rfl (by kernel_rfl) (by kernel_rfl) (by kernel_rfl) (by kernel_rfl) (fun _ _ _ h => h) ?hy (by assumption) ?_
          case hy => (intro w' hSw; go_simp)
          try simp only [List.setIfInBounds_toArray, List.set_cons_zero, List.set_cons_succ]
          refine takeG 3 (v := .bool true) rfl (by kernel_rfl) (by kernel_rfl) (by kernel_rfl) (by kernel_rfl) (fun _ _ _ h => h) ?hy (by assumption) ?_
          case hy => (intro w' hSw; go_simp)
          try simp only [List.setIfInBounds_toArray, List.set_cons_zero, List.set_cons_succ]
          refine takeG 4 (v := .bool true) rfl (by kernel_rfl) (by kernel_rfl) (by kernel_rfl) (by kernel_rfl) (fun _ _ _ h => h) ?hy (by assumption) ?_
          case hy => (intro w' hSw; go_simp)
          try simp only [List.setIfInBounds_toArray, List.set_cons_zero, List.set_cons_succ]
          refine takeG 5 (v := .slice (some ⟨b, off, none⟩) l.length cap) rfl (by kernel_rfl) (by kernel_rfl) (by kernel_rfl) (by kernel_rfl) (fun _ _ _ h => h) ?hy (by assumption) ?_
          case hy => (intro w' hSw; go_simp)
          try simp only [List.setIfInBounds_toArray, List.set_cons_zero, List.set_cons_succ]
          refine takeG 6 (v := .int .i64 (k : Int)) rfl (by kernel_rfl) (by kernel_rfl) (by kernel_rfl) (by kernel_rfl) (fun _ _ _ h => h) ?hy (by assumption) ?_
          case hy => (intro w' hSw; go_simp)
          try simp only [List.setIfInBounds_toArray, List.set_cons_zero, List.set_cons_succ]
          refine takeG 7 (v := .pointer (some ⟨b, off + k * 3, none⟩)) rfl (by kernel_rfl) (by kernel_rfl) (by kernel_rfl) (by kernel_rfl) (fun _ _ _ h => h) ?hy (by assumption) ?_
          case hy => (intro w' hSw; go_simp)
          try simp only [List.setIfInBounds_toArray, List.set_cons_zero, List.set_cons_succ]
          refine takeG 8 (v := .pointer (some ⟨b, off + k * 3, none⟩)) rfl (by kernel_rfl) (by kernel_rfl) (by kernel_rfl) (by kernel_rfl) (fun _ _ _ h => h) ?hy (by assumption) ?_
          case hy => (intro w' hSw; go_simp)
          try simp only [List.setIfInBounds_toArray, List.set_cons_zero, List.set_cons_succ]
          refine takeG 9 (v := .int .i64 y1) rfl (by kernel_rfl) (by kernel_rfl) (by kernel_rfl) (by kernel_rfl) (fun _ _ _ h => h) ?hy (by assumption) ?_
          case hy => (intro w' hSw; obtain ⟨_, s0, s1, s2⟩ := (dm1).keep hSw; dsimp only at s0 s1 s2; go_simp)
          try simp only [List.setIfInBounds_toArray, List.set_cons_zero, List.set_cons_succ]
          refine takeG 10 (v := .pointer (some ⟨w.heap.size, 0, none⟩)) rfl (by kernel_rfl) (by kernel_rfl) (by kernel_rfl) (by kernel_rfl) (fun _ _ _ h => h) ?hy (by assumption) ?_
          case hy => (intro w' hSw; go_simp)
          try simp only [List.setIfInBounds_toArray, List.set_cons_zero, List.set_cons_succ]
          refine takeG 11 (v := .int .i64 f1) rfl (by kernel_rfl) (by kernel_rfl) (by kernel_rfl) (by kernel_rfl) (fun _ _ _ h => h) ?hy (by assumption) ?_
          case hy => (intro w' hSw; obtain ⟨_, s0, s1, s2⟩ := (pw).keep hSw; dsimp only at s0 s1 s2; go_simp)
          try simp only [List.setIfInBounds_toArray, List.set_cons_zero, List.set_cons_succ]
          refine takeG 12 (v := .bool true) rfl (by kernel_rfl) (by kernel_rfl) (by kernel_rfl) (by kernel_rfl) (fun _ _ _ h => h) ?hy (by assumption) ?_
          case hy => (intro w' hSw; go_simp)
          try simp only [List.setIfInBounds_toArray, List.set_cons_zero, List.set_cons_succ]
          refine takeG 13 (v := .bool true) rfl (by kernel_rfl) (by kernel_rfl) (by kernel_rfl) (by kernel_rfl) (fun _ _ _ h => h) ?hy (by assumption) ?_
          case hy => (intro w' hSw; go_simp)
          try simp only [List.setIfInBounds_toArray, List.set_cons_zero, List.set_cons_succ]
          refine wpAnyH_done (by kernel_rfl) ?_ _
          obtain ⟨X, hX⟩ : ∃ X, w1.drew = X := ⟨_, rfl⟩
          rw [hX] at hHeld ⊢
          have own12 := rowBelow own1y hHeld
          have dm2 := dm1.keep hHeld
          have pw2 := pw.keep hHeld
          have r12 := rw1.keep hHeld
          have B12 := B1.trans (hHeld.mono B1.size)
          have hrow12 := hrow1.keep hHeld
          have hsX1 : yb ≤ X.heap.size := by have := hHeld.size; omega
          clear own1y dm1 pw rw1 B1 hrow1 hHeld hX
          go_upto_region 6 with fail
          go_cut [7] (fun vc wc => ∃ kx, vc = .pointer (some ⟨kx, 0, none⟩) ∧ BlkIs wc kx 54 #[.int .i64 m1, .int .i64 m2, .int .i64 m3] ∧ X.heap.size ≤ kx ∧ Below X.heap.size X wc)
          case first =>
            refine wp_region_any (by kernel_rfl) ?_
            refine wpAny_box 7 (fun i => [43, 44, 45, 46, 47, 48, 7].getD i 0) (fun kq v wq => match kq with | 0 => v = .slice (some ⟨b, off, none⟩) l.length cap | 1 => v = .int .i64 (k : Int) | 2 => v = .pointer (some ⟨b, off + k * 3, none⟩) | 3 => v = .agg #[.int .i64 y1, .int .i64 y2, .int .i64 y3] | 4 => v = .agg #[.int .i64 f1, .int .i64 f2, .int .i64 f3] | 5 => v = .agg #[.int .i64 m1, .int .i64 m2, .int .i64 m3] | 6 => ∃ kx, v = .pointer (some ⟨kx, 0, none⟩) ∧ BlkIs wq kx 54 #[.int .i64 0, .int .i64 0, .int .i64 0] ∧ X.heap.size ≤ kx | _ => True) _ X (by kernel_rfl) ?inj ?stab ?step ?last _ _ _ _ (List.range 8) (by kernel_rfl) (Nat.le_refl 8) ?un (by kernel_rfl) ?down ⟨rfl, rfl, fun _ _ => rfl⟩ (Below.refl _ _).drew ?none
            case inj => exact (show ∀ i, i < 7 → ∀ j, j < 7 → [43, 44, 45, 46, 47, 48, 7].getD i 0 = [43, 44, 45, 46, 47, 48, 7].getD j 0 → i = j by decide)
            case un => exact fun i hi _ => List.mem_range.2 hi
            case down =>
              intro j hj
              exfalso
              by_cases hi : j < 8
              · simp [hi] at hj
              · simp [hi] at hj
            case none =>
              intro i hi hj
              exfalso
              have hi2 : i < 8 := by omega
              simp [hi2] at hj
            case stab =>
              intro kq u wa wb h hB
              match kq, h with
              | 0, h => exact h
              | 1, h => exact h
              | 2, h => exact h
              | 3, h => exact h
              | 4, h => exact h
              | 5, h => exact h
              | 6, h => exact (show ∃ kx, u = _ ∧ BlkIs wb kx 54 #[.int .i64 0, .int .i64 0, .int .i64 0] ∧ X.heap.size ≤ kx from by obtain ⟨kx, h1, h2, h3⟩ := h; exact ⟨kx, h1, h2.keep hB, h3⟩)
              | _ + 7, _ => exact trivial
            case step =>
              intro i o hin ho fa fw hF hJ hpre
              obtain rfl | rfl | rfl | rfl | rfl | rfl | rfl : i = 0 ∨ i = 1 ∨ i = 2 ∨ i = 3 ∨ i = 4 ∨ i = 5 ∨ i = 6 := by omega
              all_goals (obtain rfl := Option.some.inj ho)
              · have hs0 : fa.tmps[0]?.getD undef = .slice (some ⟨b, off, none⟩) l.length cap := by
                  have := hF.2.2 0 (show ∀ i, i < 7 → [43, 44, 45, 46, 47, 48, 7].getD i 0 ≠ 0 by decide)
                  simpa using this
                exact step_val (v := .slice (some ⟨b, off, none⟩) l.length cap) (w' := fw) (by go_simp) ⟨_, rfl, rfl, Below.refl _ _⟩
              · have hs5 : fa.tmps[5]?.getD undef = .int .i64 (k : Int) := by
                  have := hF.2.2 5 (show ∀ i, i < 7 → [43, 44, 45, 46, 47, 48, 7].getD i 0 ≠ 5 by decide)
                  simpa using this
                exact step_val (v := .int .i64 (k : Int)) (w' := fw) (by go_simp) ⟨_, rfl, rfl, Below.refl _ _⟩
              · have hd0 : fa.tmps[43]?.getD undef = .slice (some ⟨b, off, none⟩) l.length cap := by simpa using (hpre ⟨0, .data⟩ (by simp) rfl : fa.tmps.getD 43 undef = .slice (some ⟨b, off, none⟩) l.length cap)
                have hd1 : fa.tmps[44]?.getD undef = .int .i64 (k : Int) := by simpa using (hpre ⟨1, .data⟩ (by simp) rfl : fa.tmps.getD 44 undef = .int .i64 (k : Int))
                exact step_val (v := .pointer (some ⟨b, off + k * 3, none⟩)) (w' := fw) (by go_simp) ⟨_, rfl, rfl, Below.refl _ _⟩
              · have hd2 : fa.tmps[45]?.getD undef = .pointer (some ⟨b, off + k * 3, none⟩) := by simpa using (hpre ⟨2, .data⟩ (by simp) rfl : fa.tmps.getD 45 undef = .pointer (some ⟨b, off + k * 3, none⟩))
                obtain ⟨_, c0, c1, c2⟩ := dm2.keep hJ
                dsimp only at c0 c1 c2
                exact step_val (v := .agg #[.int .i64 y1, .int .i64 y2, .int .i64 y3]) (w' := fw) (by go_simp) ⟨_, rfl, rfl, Below.refl _ _⟩
              · have hs3 : fa.tmps[3]?.getD undef = .pointer (some ⟨w.heap.size, 0, none⟩) := by
                  have := hF.2.2 3 (show ∀ i, i < 7 → [43, 44, 45, 46, 47, 48, 7].getD i 0 ≠ 3 by decide)
                  simpa using this
                obtain ⟨_, c0, c1, c2⟩ := pw2.keep hJ
                dsimp only at c0 c1 c2
                exact step_val (v := .agg #[.int .i64 f1, .int .i64 f2, .int .i64 f3]) (w' := fw) (by go_simp) ⟨_, rfl, rfl, Below.refl _ _⟩
              · have hd3 : fa.tmps[46]?.getD undef = .agg #[.int .i64 y1, .int .i64 y2, .int .i64 y3] := by simpa using (hpre ⟨3, .data⟩ (by simp) rfl : fa.tmps.getD 46 undef = .agg #[.int .i64 y1, .int .i64 y2, .int .i64 y3])
                have hd4 : fa.tmps[47]?.getD undef = .agg #[.int .i64 f1, .int .i64 f2, .int .i64 f3] := by simpa using (hpre ⟨4, .data⟩ (by simp) rfl : fa.tmps.getD 47 undef = .agg #[.int .i64 f1, .int .i64 f2, .int .i64 f3])
                go_simp
                refine (specJoin_any ⟨y1, y2, y3⟩ ⟨f1, f2, f3⟩ _).mono ?_
                rintro e w3 ⟨rfl, b3⟩
                rw [HM.out]
                exact ⟨_, rfl, rfl, b3⟩
              · exact step_val (v := .pointer (some ⟨fw.heap.size, 0, none⟩)) (w' := fw.alloc (.cells #[.int .i64 0, .int .i64 0, .int .i64 0] 54)) (by go_simp) ⟨_, rfl, ⟨fw.heap.size, rfl, BlkIs.new _ _ _, hJ.size⟩, (Below.refl _ _).alloc (Nat.le_refl _) _⟩
            case last =>
              intro o ho fa fw hF hJ hφ
              obtain rfl := Option.some.inj ho
              have hd5 : fa.tmps[48]?.getD undef = .agg #[.int .i64 m1, .int .i64 m2, .int .i64 m3] := by simpa using (hφ 5 (by decide) : fa.tmps.getD 48 undef = .agg #[.int .i64 m1, .int .i64 m2, .int .i64 m3])
              obtain ⟨kbx, q6, hblk, hkb⟩ := (hφ 6 (by decide) : ∃ kx, fa.tmps.getD 7 undef = .pointer (some ⟨kx, 0, none⟩) ∧ BlkIs fw kx 54 #[.int .i64 0, .int .i64 0, .int .i64 0] ∧ X.heap.size ≤ kx)
              have hd6 : fa.tmps[7]?.getD undef = .pointer (some ⟨kbx, 0, none⟩) := by simpa using q6
              have g0 : fw.cell? ⟨kbx, 0, none⟩ = some (.int .i64 0) := hblk.cell 0
              have z0 := hblk.fz 0
              have g1 : fw.cell? ⟨kbx, 1, none⟩ = some (.int .i64 0) := hblk.cell 1
              have z1 := hblk.fz 1
              have g2 : fw.cell? ⟨kbx, 2, none⟩ = some (.int .i64 0) := hblk.cell 2
              have z2 := hblk.fz 2
              have hnew : BlkIs (((fw.setCell ⟨kbx, 0, none⟩ (.int .i64 m1)).setCell ⟨kbx, 1, none⟩ (.int .i64 m2)).setCell ⟨kbx, 2, none⟩ (.int .i64 m3)) kbx 54 #[.int .i64 m1, .int .i64 m2, .int .i64 m3] := by simpa using (((hblk.put 0 (.int .i64 m1)).put 1 (.int .i64 m2)).put 2 (.int .i64 m3))
              have hbn : Below X.heap.size X (((fw.setCell ⟨kbx, 0, none⟩ (.int .i64 m1)).setCell ⟨kbx, 1, none⟩ (.int .i64 m2)).setCell ⟨kbx, 2, none⟩ (.int .i64 m3)) := (((hJ.setCell (p := ⟨kbx, 0, none⟩) hkb (.int .i64 m1)).setCell (p := ⟨kbx, 1, none⟩) hkb (.int .i64 m2)).setCell (p := ⟨kbx, 2, none⟩) hkb (.int .i64 m3))
              refine step_skip (w' := (((fw.setCell ⟨kbx, 0, none⟩ (.int .i64 m1)).setCell ⟨kbx, 1, none⟩ (.int .i64 m2)).setCell ⟨kbx, 2, none⟩ (.int .i64 m3))) (by go_simp) ?_
              obtain ⟨wn, hwn⟩ : ∃ wn, (((fw.setCell ⟨kbx, 0, none⟩ (.int .i64 m1)).setCell ⟨kbx, 1, none⟩ (.int .i64 m2)).setCell ⟨kbx, 2, none⟩ (.int .i64 m3)) = wn := ⟨_, rfl⟩
              rw [hwn] at hnew hbn ⊢
              clear hwn g0 z0 g1 z1 g2 z2 hblk
              obtain ⟨ft, fd⟩ := fa
              obtain ⟨hd, hz, hs⟩ := hF
              have e := tmps_slots ft 76 hz
              simp only [List.range, List.range.loop, List.map] at e
              have hu : ∀ s, (∀ i, i < 7 → [43, 44, 45, 46, 47, 48, 7].getD i 0 ≠ s) → ft.getD s undef = _ := hs
              rw [hu 0 (by decide), hu 1 (by decide), hu 2 (by decide), hu 3 (by decide), hu 4 (by decide), hu 5 (by decide), hu 6 (by decide), hu 8 (by decide), hu 9 (by decide), hu 10 (by decide), hu 11 (by decide), hu 12 (by decide), hu 13 (by decide), hu 14 (by decide), hu 15 (by decide), hu 16 (by decide), hu 17 (by decide), hu 18 (by decide), hu 19 (by decide), hu 20 (by decide), hu 21 (by decide), hu 22 (by decide), hu 23 (by decide), hu 24 (by decide), hu 25 (by decide), hu 26 (by decide), hu 27 (by decide), hu 28 (by decide), hu 29 (by decide), hu 30 (by decide), hu 31 (by decide), hu 32 (by decide), hu 33 (by decide), hu 34 (by decide), hu 35 (by decide), hu 36 (by decide), hu 37 (by decide), hu 38 (by decide), hu 39 (by decide), hu 40 (by decide), hu 41 (by decide), hu 42 (by decide), hu 49 (by decide), hu 50 (by decide), hu 51 (by decide), hu 52 (by decide), hu 53 (by decide), hu 54 (by decide), hu 55 (by decide), hu 56 (by decide), hu 57 (by decide), hu 58 (by decide), hu 59 (by decide), hu 60 (by decide), hu 61 (by decide), hu 62 (by decide), hu 63 (by decide), hu 64 (by decide), hu 65 (by decide), hu 66 (by decide), hu 67 (by decide), hu 68 (by decide), hu 69 (by decide), hu 70 (by decide), hu 71 (by decide), hu 72 (by decide), hu 73 (by decide), hu 74 (by decide), hu 75 (by decide)] at e
              obtain ⟨y43, hy43⟩ : ∃ z, ft.getD 43 undef = z := ⟨_, rfl⟩
              obtain ⟨y44, hy44⟩ : ∃ z, ft.getD 44 undef = z := ⟨_, rfl⟩
              obtain ⟨y45, hy45⟩ : ∃ z, ft.getD 45 undef = z := ⟨_, rfl⟩
              obtain ⟨y46, hy46⟩ : ∃ z, ft.getD 46 undef = z := ⟨_, rfl⟩
              obtain ⟨y47, hy47⟩ : ∃ z, ft.getD 47 undef = z := ⟨_, rfl⟩
              obtain ⟨y48, hy48⟩ : ∃ z, ft.getD 48 undef = z := ⟨_, rfl⟩
              obtain ⟨y7, hy7⟩ : ∃ z, ft.getD 7 undef = z := ⟨_, rfl⟩
              rw [hy43, hy44, hy45, hy46, hy47, hy48, hy7] at e
              have hyb : y7 = .pointer (some ⟨kbx, 0, none⟩) := by rw [← hy7]; exact q6
              clear hy43 hy44 hy45 hy46 hy47 hy48 hy7 hu hs hz hφ hd6 q6 hd5
              subst e
              subst hyb
              obtain rfl : fd = [] := hd
              go_wp2_with fail
              go_meet
              case rel => exact ⟨kbx, rfl, hnew, hkb, hbn⟩
          case rest =>
            obtain ⟨kb, rfl, P7, hkb, bX⟩ := hcut
            obtain ⟨X2, rfl⟩ : ∃ X2, X2 = wc := ⟨wc, rfl⟩
            have own13 := rowBelow own12 bX
            have dm3 := dm2.keep bX
            have r13 := r12.keep bX
            have B13 := B12.trans (bX.mono B12.size)
            have hrow13 := hrow12.keep bX
            have hsX := bX.size
            have hown1 := own13.lt
            have s0 := P7.cell 0
            have s1 := P7.cell 1
            have s2 := P7.cell 2
            have ca := (Below.refl X2.heap.size X2).alloc (Nat.le_refl _) (.cells #[.int .i64 m1, .int .i64 m2, .int .i64 m3] 54)
            have own1a := rowBelow own13 ca
            have hn1 : CellRow (X2.alloc (.cells #[.int .i64 m1, .int .i64 m2, .int .i64 m3] 54)) (some ⟨X2.heap.size, 0, none⟩) (cellsOf FactV.cells [⟨m1, m2, m3⟩]) := oneRowF X2 ⟨m1, m2, m3⟩
            have hbz : yb ≤ (X2.alloc (.cells #[.int .i64 m1, .int .i64 m2, .int .i64 m3] 54)).heap.size := by simp; omega
            have hP7 := P7.lt
            have hkn : ∀ q, Value.ownBlock (.slice q1 q2 q3) = some q → q < X.heap.size := fun q e => (own12.lt q e).2
            clear own12 own13 dm2 r12 B12 hrow12 pw2
            go_wp2_with (at_builtin; refine append_factsL rfl rfl _ _ rfl yb _ _ _ rfl own1a ⟨X2.heap.size, 0, none⟩ 1 1 [⟨m1, m2, m3⟩] rfl rfl hn1 (by omega) hbz ?_)
            intro v2 w2 own2 gr2 loc2
            have gg : X2.grownBy w2 (Value.ownBlock (.slice q1 q2 q3)) := (World.grownBy_alloc X2 _ _).trans gr2
            have c2 : Below yb X2 w2 := (ca.mono (by omega)).grown gr2 hbz (fun g hg => (hown1 g hg).1)
            have hown2 := own2.lt
            have P72 : BlkIs w2 kb 54 #[.int .i64 m1, .int .i64 m2, .int .i64 m3] := (gg.block kb hP7 (fun e => by have := hkn _ e.symm; omega)).trans P7
            have hs2 := c2.size
            have hrow2 := hrow13.keepy c2 hby
            have dm4 := dm3.keepy c2 (by omega)
            have r14 := r13.keepy c2 (by omega)
            have B14 : Below w.heap.size w w2 := B13.trans (c2.mono (by omega))
            have h2b : ∀ q, v2.ownBlock = some q → q ≠ kb := fun q e => by
              rcases loc2 with h | h
              · have := hkn q (h.symm.trans e); omega
              · have e2 := h.symm.trans e
                have e3 := Option.some.inj e2
                omega
            clear own1a gr2 hn1 s0 s1 s2 ca hbz gg P7 hP7 hkn loc2 dm3 r13 B13 hrow13 hown1
            obtain ⟨t1, t2, t3, hsh⟩ := rowShape own2
            subst hsh
            go_upto_region 8 with fail
            obtain ⟨Y, hY⟩ : ∃ Y, w2.drew = Y := ⟨_, rfl⟩
            have ownY : Y.ownsRow yb 54 3 (.slice t1 t2 t3) (k + 1) (cellsOf FactV.cells (l.take k) ++ cellsOf FactV.cells [⟨m1, m2, m3⟩]) := by rw [← hY]; exact own_eqF own2 (by omega) (by simp)
            have P7Y : BlkIs Y kb 54 #[.int .i64 m1, .int .i64 m2, .int .i64 m3] := by rw [← hY]; exact P72
            have dmY : FAt Y b (off + k * 3) ⟨y1, y2, y3⟩ := by rw [← hY]; exact ⟨dm4.1, dm4.2, dm4.3, dm4.4⟩
            have rY : BlkIs Y (w.heap.size + 1) 107 #[.slice none 0 0, .bool false, .int .i64 0] := by rw [← hY]; exact r14
            have BY : Below w.heap.size w Y := by rw [← hY]; exact B14.drew
            have hrowY : CellRow Y (some ⟨b, off, none⟩) (cellsOf FactV.cells l) := by rw [← hY]; exact hrow2.keep (Below.refl _ _).drew
            have hYs : Y.heap.size = w2.heap.size := by rw [← hY]; rfl
            obtain ⟨A9, hA9, hrow9⟩ : ∃ A9 : Addr, (if cap = k + 1 then some (⟨b, off, none⟩ : Addr) else some ⟨b, off + (k + 1) * 3, none⟩) = some A9 ∧ CellRow Y (some A9) (cellsOf FactV.cells (l.drop (k + 1))) := by
              by_cases hcc : cap = k + 1
              · refine ⟨_, if_pos hcc, .inl ?_⟩
                rw [List.drop_eq_nil_of_le (by omega)]; rfl
              · exact ⟨_, if_neg hcc, hrowY.dropF (k + 1) (by omega)⟩
            obtain ⟨v3, w3, hap, own3, gr3, _⟩ := run_append_facts (cap := cap - (k + 1)) yb (.slice t1 t2 t3) _ _ ownY A9 (l.length - (k + 1)) (l.drop (k + 1)) (by rw [List.length_drop]) hrow9 (by omega) (by omega)
            have c3 : Below yb Y w3 := (Below.refl _ _).grown gr3 (by omega) (fun g hg => (ownY.lt g hg).1)
            have P73 : BlkIs w3 kb 54 #[.int .i64 m1, .int .i64 m2, .int .i64 m3] := (gr3.block kb P7Y.lt (fun e => h2b _ e.symm rfl)).trans P7Y
            have dm5 := dmY.keepy c3 (by omega)
            have r3 := rY.keepy c3 (by omega)
            have B3 : Below w.heap.size w w3 := BY.trans (c3.mono (by omega))
            have HR3 : Hid (w3.ownsRow yb 54 3 v3 (putL l ⟨f1, f2, f3⟩ k).length (cellsOf FactV.cells (putL l ⟨f1, f2, f3⟩ k))) := by
              show World.ownsRow _ _ _ _ _ _ _
              refine own_eqF own3 ?_ ?_
              · rw [HN.out]; simp; omega
              · rw [HN.out, cellsOf_append]; simp [cellsOf]
            obtain ⟨va, vn, vc, rfl⟩ := rowShape own3
            have HO3 : Hid (∀ q, Value.ownBlock (.slice va vn vc) = some q → yb ≤ q) := fun q e => (own3.lt q e).1
            have own3w := rowLe HR3.out (show w.heap.size ≤ yb by omega)
            have SY : JV Y kb b (off + k * 3) ⟨m1, m2, m3⟩ ⟨y1, y2, y3⟩ := ⟨P7Y, dmY⟩
            have S3 : JV w3 kb b (off + k * 3) ⟨m1, m2, m3⟩ ⟨y1, y2, y3⟩ := ⟨P73, dm5⟩
            have hwk1 : IntKind.i64.wrap ((k : Int) + 1) = (k : Int) + 1 := by rw [IntKind.wrap_i64]; omega
            have hk10 : (0 : Int) ≤ (k : Int) + 1 := by omega
            have hk11 : (k : Int) + 1 ≤ (l.length : Int) := by omega
            have hk12 : ((k : Int) + 1).toNat = k + 1 := by omega
            have hlc9 : l.length ≤ cap := by omega
            clear own3 gr3 own2 hrow2 hown2 c2 c3 dm4 r14 B14 P72 ownY P7Y dmY rY BY hrowY hrow9 P73 dm5
            have KZ := keeps_three w3 (w.heap.size + 1) (.slice va vn vc) (.bool r) (.int .i64 0)
            have HBZ : Hid (Below w.heap.size w (((w3.setCell ⟨w.heap.size + 1, 0, none⟩ (.slice va vn vc)).setCell ⟨w.heap.size + 1, 1, none⟩ (.bool r)).setCell ⟨w.heap.size + 1, 2, none⟩ (.int .i64 0))) := B3.trans (KZ.toBelow B3.size (fun q hq => by omega))
            have HRZ : Hid ((((w3.setCell ⟨w.heap.size + 1, 0, none⟩ (.slice va vn vc)).setCell ⟨w.heap.size + 1, 1, none⟩ (.bool r)).setCell ⟨w.heap.size + 1, 2, none⟩ (.int .i64 0)).ownsRow w.heap.size 54 3 (.slice va vn vc) (putL l ⟨f1, f2, f3⟩ k).length (cellsOf FactV.cells (putL l ⟨f1, f2, f3⟩ k))) := rowKeep own3w KZ (fun q hq => by have := HO3.out q hq; omega)
            have QZ0 := r3
            have g0 := QZ0.cell 0
            have g1 := QZ0.cell 1
            have g2 := QZ0.cell 2
            have fz0 := QZ0.fz 0
            have fz1 := QZ0.fz 1
            have fz2 := QZ0.fz 2
            clear KZ
            refine wp_region_held_drew (S := fun w' => JV w' kb b (off + k * 3) ⟨m1, m2, m3⟩ ⟨y1, y2, y3⟩) (by kernel_rfl) ?hS0 (fun hHeld => ?_)
            case hS0 => rw [hY]; exact SY
            rw [hY] at hHeld ⊢
            clear hY
            refine takeG 0 (v := .slice t1 t2 t3) rfl (by kernel_rfl) (by kernel_rfl) (by kernel_rfl) (by kernel_rfl) (fun _ _ _ h => h) ?hy (by assumption) ?_
            case hy => (intro w' hSw; go_simp)
            try simp only [List.setIfInBounds_toArray, List.set_cons_zero, List.set_cons_succ]
            refine takeG 1 (v := .slice (some ⟨b, off, none⟩) l.length cap) rfl (by kernel_rfl) (by kernel_rfl) (by kernel_rfl) (by kernel_rfl) (fun _ _ _ h => h) ?hy (by assumption) ?_
            case hy => (intro w' hSw; go_simp)
            try simp only [List.setIfInBounds_toArray, List.set_cons_zero, List.set_cons_succ]
            refine takeG 2 (v := .int .i64 (k : Int)) rfl (by kernel_rfl) (by kernel_rfl) (by kernel_rfl) (by kernel_rfl) (fun _ _ _ h => h) ?hy (by assumption) ?_
            case hy => (intro w' hSw; go_simp)
            try simp only [List.setIfInBounds_toArray, List.set_cons_zero, List.set_cons_succ]
            refine takeG 3 (v := .int .i64 ((k : Int) + 1)) rfl (by kernel_rfl) (by kernel_rfl) (by kernel_rfl) (by kernel_rfl) (fun _ _ _ h => h) ?hy (by assumption) ?_
            case hy => (intro w' hSw; go_simp)
            try simp only [List.setIfInBounds_toArray, List.set_cons_zero, List.set_cons_succ]
            refine takeG 4 (v := .slice (some A9) (l.length - (k + 1)) (cap - (k + 1))) rfl (by kernel_rfl) (by kernel_rfl) (by kernel_rfl) (by kernel_rfl) (fun _ _ _ h => h) ?hy (by assumption) ?_
            case hy => (intro w' hSw; go_simp)
            try simp only [List.setIfInBounds_toArray, List.set_cons_zero, List.set_cons_succ]
            refine takeG 6 (v := .agg #[.int .i64 m1, .int .i64 m2, .int .i64 m3]) rfl (by kernel_rfl) (by kernel_rfl) (by kernel_rfl) (by kernel_rfl) (fun _ _ _ h => h) ?hy (by assumption) ?_
            case hy => (intro w' hSw; have i0 := hSw.1.cell 0; have i1 := hSw.1.cell 1; have i2 := hSw.1.cell 2; go_simp)
            try simp only [List.setIfInBounds_toArray, List.set_cons_zero, List.set_cons_succ]
            refine takeG 7 (v := .slice (some ⟨b, off, none⟩) l.length cap) rfl (by kernel_rfl) (by kernel_rfl) (by kernel_rfl) (by kernel_rfl) (fun _ _ _ h => h) ?hy (by assumption) ?_
            case hy => (intro w' hSw; go_simp)
            try simp only [List.setIfInBounds_toArray, List.set_cons_zero, List.set_cons_succ]
            refine takeG 8 (v := .int .i64 (k : Int)) rfl (by kernel_rfl) (by kernel_rfl) (by kernel_rfl) (by kernel_rfl) (fun _ _ _ h => h) ?hy (by assumption) ?_
            case hy => (intro w' hSw; go_simp)
            try simp only [List.setIfInBounds_toArray, List.set_cons_zero, List.set_cons_succ]
            refine takeG 9 (v := .pointer (some ⟨b, off + k * 3, none⟩)) rfl (by kernel_rfl) (by kernel_rfl) (by kernel_rfl) (by kernel_rfl) (fun _ _ _ h => h) ?hy (by assumption) ?_
            case hy => (intro w' hSw; go_simp)
            try simp only [List.setIfInBounds_toArray, List.set_cons_zero, List.set_cons_succ]
            refine takeG 10 (v := .agg #[.int .i64 y1, .int .i64 y2, .int .i64 y3]) rfl (by kernel_rfl) (by kernel_rfl) (by kernel_rfl) (by kernel_rfl) (fun _ _ _ h => h) ?hy (by assumption) ?_
            case hy => (intro w' hSw; obtain ⟨_, i0, i1, i2⟩ := hSw.2; dsimp only at i0 i1 i2; go_simp)
            try simp only [List.setIfInBounds_toArray, List.set_cons_zero, List.set_cons_succ]
            refine takeG 11 (v := .bool r) rfl (by kernel_rfl) (by kernel_rfl) (by kernel_rfl) (by kernel_rfl) (fun _ _ _ h => h) ?hy (by assumption) ?_
            case hy => (intro w' hSw; go_simp)
            try simp only [List.setIfInBounds_toArray, List.set_cons_zero, List.set_cons_succ]
            refine oneH 5 (by kernel_rfl) ?_
            refine doH rfl (v := .slice va vn vc) (w' := w3) (exec_append _ _ 23 23 rfl (.slice t1 t2 t3) (.slice (some A9) (l.length - (k + 1)) (cap - (k + 1))) rfl rfl hap) S3 ?_
            try simp only [List.setIfInBounds_toArray, List.set_cons_zero, List.set_cons_succ]
            refine takeG 12 (v := .agg #[.slice va vn vc, .bool r, .int .i64 0]) rfl (by kernel_rfl) (by kernel_rfl) (by kernel_rfl) (by kernel_rfl) (fun _ _ _ h => h) ?hy (by assumption) ?_
            case hy => (intro w' hSw; go_simp)
            try simp only [List.setIfInBounds_toArray, List.set_cons_zero, List.set_cons_succ]
            refine oneH 13 (by kernel_rfl) ?_
            refine storeH rfl (nx := .skip) (w' := (((w3.setCell ⟨w.heap.size + 1, 0, none⟩ (.slice va vn vc)).setCell ⟨w.heap.size + 1, 1, none⟩ (.bool r)).setCell ⟨w.heap.size + 1, 2, none⟩ (.int .i64 0))) (by go_simp) (.inl rfl) ?hS9 ?_
            case hS9 =>
              have K9 := keeps_three w3 (w.heap.size + 1) (.slice va vn vc) (.bool r) (.int .i64 0)
              exact ⟨S3.1.keepK K9 (by show kb ≠ w.heap.size + 1; omega), S3.2.keepK K9 (by show b ≠ w.heap.size + 1; omega)⟩
            refine wpAnyH_done (by kernel_rfl) ?_ _
            clear own3w r3 B3 HR3 HO3 SY S3 hap hHeld
            go_wp2
            have QZ := blk_put3 QZ0 (.slice va vn vc) (.bool r) (.int .i64 0)
            obtain ⟨z6, hz6⟩ : ∃ z6, (((w3.setCell ⟨w.heap.size + 1, 0, none⟩ (.slice va vn vc)).setCell ⟨w.heap.size + 1, 1, none⟩ (.bool r)).setCell ⟨w.heap.size + 1, 2, none⟩ (.int .i64 0)) = z6 := ⟨_, rfl⟩
            rw [hz6] at HBZ QZ HRZ ⊢
            have e0 := QZ.cell 0
            have e1 := QZ.cell 1
            have e2 := QZ.cell 2
            refine bodyPost_ret (v := outV (.slice va vn vc) r 0) (by simp [results, Tryz.results76, go_sem, outV, e0, e1, e2]) rfl ?_
            exact ⟨_, rfl, HRZ.out, HBZ.out⟩
        · have heq' : (y1 == f1) = false := beq_eq_false_iff_ne.2 heq
          have hnt : ¬ thereF l f1 k := fun h => by
            obtain ⟨_, h⟩ := h
            rw [HY.out] at h; exact heq h
          have HN : Hid (putL l ⟨f1, f2, f3⟩ k = insF l ⟨f1, f2, f3⟩ k) := putL_new hnt
          have HRT : Hid (r = true) := HRN.out.2 (fun h1 h2 => absurd ⟨h1, h2⟩ hnt)
          have hck : ¬ cap = k := by omega
          clear heq hnt
          go_upto_region 5 with fail
          refine wp_region_held_drew (S := (fun w' => Below w1.heap.size w1 w')) (by kernel_rfl) ?hS0 (fun hHeld => ?_)
          case hS0 => exact (Below.refl _ _).drew
          refine takeG 0 (v := .int .i64 (k : Int)) rfl (by kernel_rfl) (by kernel_rfl) (by kernel_rfl) (by kernel_rfl) (fun _ _ _ h => h) ?hy (by assumption) ?_
          case hy => (intro w' hSw; go_simp)
          try simp only [List.setIfInBounds_toArray, List.set_cons_zero, List.set_cons_succ]
          refine takeG 1 (v := .slice (some ⟨b, off, none⟩) l.length cap) rfl (by kernel_rfl) (by kernel_rfl) (by kernel_rfl) (by kernel_rfl) (fun _ _ _ h => h) ?hy (by assumption) ?_
          case hy => (intro w' hSw; go_simp)
          try simp only [List.setIfInBounds_toArray, List.set_cons_zero, List.set_cons_succ]
          refine takeG 2 (v := .int .i64 (l.length : Int)) rfl (by kernel_rfl) (by kernel_rfl) (by kernel_rfl) (by kernel_rfl) (fun _ _ _ h => h) ?hy (by assumption) ?_
          case hy => (intro w' hSw; go_simp)
          try simp only [List.setIfInBounds_toArray, List.set_cons_zero, List.set_cons_succ]
          refine takeG 3 (v := .bool true) rfl (by kernel_rfl) (by kernel_rfl) (by kernel_rfl) (by kernel_rfl) (fun _ _ _ h => h) ?hy (by assumption) ?_
          case hy => (intro w' hSw; go_simp)
          try simp only [List.setIfInBounds_toArray, List.set_cons_zero, List.set_cons_succ]
          refine takeG 4 (v := .bool true) rfl (by kernel_rfl) (by kernel_rfl) (by kernel_rfl) (by kernel_rfl) (fun _ _ _ h => h) ?hy (by assumption) ?_
          case hy => (intro w' hSw; go_simp)
          try simp only [List.setIfInBounds_toArray, List.set_cons_zero, List.set_cons_succ]
          refine takeG 5 (v := .slice (some ⟨b, off, none⟩) l.length cap) rfl (by kernel_rfl) (by kernel_rfl) (by kernel_rfl) (by kernel_rfl) (fun _ _ _ h => h) ?hy (by assumption) ?_
          case hy => (intro w' hSw; go_simp)
          try simp only [List.setIfInBounds_toArray, List.set_cons_zero, List.set_cons_succ]
          refine takeG 6 (v := .int .i64 (k : Int)) rfl (by kernel_rfl) (by kernel_rfl) (by kernel_rfl) (by kernel_rfl) (fun _ _ _ h => h) ?hy (by assumption) ?_
          case hy => (intro w' hSw; go_simp)
          try simp only [List.setIfInBounds_toArray, List.set_cons_zero, List.set_cons_succ]
          refine takeG 7 (v := .pointer (some ⟨b, off + k * 3, none⟩)) rfl (by kernel_rfl) (by kernel_rfl) (by kernel_rfl) (by kernel_rfl) (fun _ _ _ h => h) ?hy (by assumption) ?_
          case hy => (intro w' hSw; go_simp)
          try simp only [List.setIfInBounds_toArray, List.set_cons_zero, List.set_cons_succ]
          refine takeG 8 (v := .pointer (some ⟨b, off + k * 3, none⟩)) rfl (by kernel_rfl) (by kernel_rfl) (by kernel_rfl) (by kernel_rfl) (fun _ _ _ h => h) ?hy (by assumption) ?_
          case hy => (intro w' hSw; go_simp)
          try simp only [List.setIfInBounds_toArray, List.set_cons_zero, List.set_cons_succ]
          refine takeG 9 (v := .int .i64 y1) rfl (by kernel_rfl) (by kernel_rfl) (by kernel_rfl) (by kernel_rfl) (fun _ _ _ h => h) ?hy (by assumption) ?_
          case hy => (intro w' hSw; obtain ⟨_, s0, s1, s2⟩ := (dm1).keep hSw; dsimp only at s0 s1 s2; go_simp)
          try simp only [List.setIfInBounds_toArray, List.set_cons_zero, List.set_cons_succ]
          refine takeG 10 (v := .pointer (some ⟨w.heap.size, 0, none⟩)) rfl (by kernel_rfl) (by kernel_rfl) (by kernel_rfl) (by kernel_rfl) (fun _ _ _ h => h) ?hy (by assumption) ?_
          case hy => (intro w' hSw; go_simp)
          try simp only [List.setIfInBounds_toArray, List.set_cons_zero, List.set_cons_succ]
          refine takeG 11 (v := .int .i64 f1) rfl (by kernel_rfl) (by kernel_rfl) (by kernel_rfl) (by kernel_rfl) (fun _ _ _ h => h) ?hy (by assumption) ?_
          case hy => (intro w' hSw; obtain ⟨_, s0, s1, s2⟩ := (pw).keep hSw; dsimp only at s0 s1 s2; go_simp)
          try simp only [List.setIfInBounds_toArray, List.set_cons_zero, List.set_cons_succ]
          refine takeG 12 (v := .bool false) rfl (by kernel_rfl) (by kernel_rfl) (by kernel_rfl) (by kernel_rfl) (fun _ _ _ h => h) ?hy (by assumption) ?_
          case hy => (intro w' hSw; go_simp)
          try simp only [List.setIfInBounds_toArray, List.set_cons_zero, List.set_cons_succ]
          refine takeG 13 (v := .bool false) rfl (by kernel_rfl) (by kernel_rfl) (by kernel_rfl) (by kernel_rfl) (fun _ _ _ h => h) ?hy (by assumption) ?_
          case hy => (intro w' hSw; go_simp)
          try simp only [List.setIfInBounds_toArray, List.set_cons_zero, List.set_cons_succ]
          refine wpAnyH_done (by kernel_rfl) ?_ _
          obtain ⟨X, hX⟩ : ∃ X, w1.drew = X := ⟨_, rfl⟩
          rw [hX] at hHeld ⊢
          have own12 := rowBelow own1y hHeld
          have pw2 := pw.keep hHeld
          have r12 := rw1.keep hHeld
          have B12 := B1.trans (hHeld.mono B1.size)
          have hrow12 := hrow1.keep hHeld
          have hsX1 : yb ≤ X.heap.size := by have := hHeld.size; omega
          clear own1y dm1 pw rw1 B1 hrow1 hHeld hX
          have pw' := pw2
          obtain ⟨_, s0, s1, s2⟩ := pw'
          dsimp only at s0 s1 s2
          have ca := (Below.refl X.heap.size X).alloc (Nat.le_refl _) (.cells #[.int .i64 f1, .int .i64 f2, .int .i64 f3] 54)
          have own1a := rowBelow own12 ca
          have hown1 := own12.lt
          have hn1 : CellRow (X.alloc (.cells #[.int .i64 f1, .int .i64 f2, .int .i64 f3] 54)) (some ⟨X.heap.size, 0, none⟩) (cellsOf FactV.cells [⟨f1, f2, f3⟩]) := oneRowF X ⟨f1, f2, f3⟩
          have hbz : yb ≤ (X.alloc (.cells #[.int .i64 f1, .int .i64 f2, .int .i64 f3] 54)).heap.size := by simp; omega
          clear own12
          go_wp2_with (at_builtin; refine append_factsL rfl rfl _ _ rfl yb _ _ _ rfl own1a ⟨X.heap.size, 0, none⟩ 1 1 [⟨f1, f2, f3⟩] rfl rfl hn1 (by omega) hbz ?_)
          intro v2 w2 own2 gr2 _
          have c2 : Below yb X w2 := (ca.mono (by omega)).grown gr2 hbz (fun g hg => (hown1 g hg).1)
          have hown2 := own2.lt
          have hrow2 := hrow12.keepy c2 hby
          have hs2 := c2.size
          clear own1a gr2 hn1 hown1 s0 s1 s2 ca hbz
          go_wp2_with (at_builtin; refine append_factsL rfl rfl _ _ rfl yb v2 _ _ rfl own2 _ _ _ (l.drop k) (by rw [List.length_drop] <;> omega) rfl (hrow2.dropF k hk) (by omega) (by omega) ?_)
          intro v3 w3 own3 gr3 _
          have c3 : Below yb X w3 := c2.grown gr3 (by omega) (fun g hg => (hown2 g hg).1)
          have HR3 : Hid (w3.ownsRow yb 54 3 v3 (putL l ⟨f1, f2, f3⟩ k).length (cellsOf FactV.cells (putL l ⟨f1, f2, f3⟩ k))) := by
            show World.ownsRow _ _ _ _ _ _ _
            refine own_eqF own3 ?_ ?_
            · rw [HN.out, insF_len]; omega
            · rw [HN.out, insF_cells]; simp [cellsOf]
          obtain ⟨va, vn, vc, rfl⟩ := rowShape own3
          have HO3 : Hid (∀ q, Value.ownBlock (.slice va vn vc) = some q → yb ≤ q) := fun q e => (own3.lt q e).1
          have r3 := r12.keepy c3 (by omega)
          have B3 : Below w.heap.size w w3 := B12.trans (c3.mono (by omega))
          have own3w := rowLe HR3.out (show w.heap.size ≤ yb by omega)
          clear own3 gr3 own2 hrow2 hown2 c2 c3 hrow12 r12 B12 pw2
          have KZ := keeps_three w3 (w.heap.size + 1) (.slice va vn vc) (.bool true) (.int .i64 0)
          have HBZ : Hid (Below w.heap.size w (((w3.setCell ⟨w.heap.size + 1, 0, none⟩ (.slice va vn vc)).setCell ⟨w.heap.size + 1, 1, none⟩ (.bool true)).setCell ⟨w.heap.size + 1, 2, none⟩ (.int .i64 0))) := B3.trans (KZ.toBelow B3.size (fun q hq => by omega))
          have HRZ : Hid ((((w3.setCell ⟨w.heap.size + 1, 0, none⟩ (.slice va vn vc)).setCell ⟨w.heap.size + 1, 1, none⟩ (.bool true)).setCell ⟨w.heap.size + 1, 2, none⟩ (.int .i64 0)).ownsRow w.heap.size 54 3 (.slice va vn vc) (putL l ⟨f1, f2, f3⟩ k).length (cellsOf FactV.cells (putL l ⟨f1, f2, f3⟩ k))) := rowKeep own3w KZ (fun q hq => by have := HO3.out q hq; omega)
          have QZ0 := r3
          have g0 := QZ0.cell 0
          have g1 := QZ0.cell 1
          have g2 := QZ0.cell 2
          have fz0 := QZ0.fz 0
          have fz1 := QZ0.fz 1
          have fz2 := QZ0.fz 2
          clear KZ
          clear own3w r3 B3 HR3 HO3
          go_wp2
          have QZ := blk_put3 QZ0 (.slice va vn vc) (.bool true) (.int .i64 0)
          obtain ⟨z6, hz6⟩ : ∃ z6, (((w3.setCell ⟨w.heap.size + 1, 0, none⟩ (.slice va vn vc)).setCell ⟨w.heap.size + 1, 1, none⟩ (.bool true)).setCell ⟨w.heap.size + 1, 2, none⟩ (.int .i64 0)) = z6 := ⟨_, rfl⟩
          rw [hz6] at HBZ QZ HRZ ⊢
          have e0 := QZ.cell 0
          have e1 := QZ.cell 1
          have e2 := QZ.cell 2
          refine bodyPost_ret (v := outV (.slice va vn vc) true 0) (by simp [results, Tryz.results76, go_sem, outV, e0, e1, e2]) rfl ?_
          exact ⟨_, by rw [HRT.out], HRZ.out, HBZ.out⟩
    · obtain rfl : j = k := place_one (n := f1) ⟨hj, HL.out, fun q hq hjq => absurd hq (by omega)⟩ HPL.out
      obtain ⟨k, rfl⟩ : ∃ k, k = j := ⟨j, rfl⟩
      have hk : k ≤ l.length := hj
      have HKL : Hid (k = l.length) := by show _ = _; omega
      have hnk : ¬ (k : Int) < (l.length : Int) := by omega
      have hnt : ¬ thereF l f1 k := fun h => by obtain ⟨h, _⟩ := h; omega
      have HN : Hid (putL l ⟨f1, f2, f3⟩ k = insF l ⟨f1, f2, f3⟩ k) := putL_new hnt
      have HRT : Hid (r = true) := HRN.out.2 (fun h1 h2 => absurd ⟨h1, h2⟩ hnt)
      have hdrop : Hid (l.drop k = []) := List.drop_eq_nil_of_le (by omega)
      clear hnt
      go_upto_region 2 with fail
      refine wp_region_held_drew (S := (fun w' => Below wr.heap.size wr w')) (by kernel_rfl) ?hS0 (fun hHeld => ?_)
      case hS0 => exact (Below.refl _ _).drew
      refine takeG 0 (v := .int .i64 (k : Int)) rfl (by kernel_rfl) (by kernel_rfl) (by kernel_rfl) (by kernel_rfl) (fun _ _ _ h => h) ?hy (by assumption) ?_
      case hy => (intro w' hSw; go_simp)
      try simp only [List.setIfInBounds_toArray, List.set_cons_zero, List.set_cons_succ]
      refine takeG 1 (v := .slice (some ⟨b, off, none⟩) l.length cap) rfl (by kernel_rfl) (by kernel_rfl) (by kernel_rfl) (by kernel_rfl) (fun _ _ _ h => h) ?hy (by assumption) ?_
      case hy => (intro w' hSw; go_simp)
      try simp only [List.setIfInBounds_toArray, List.set_cons_zero, List.set_cons_succ]
      refine takeG 2 (v := .int .i64 (l.length : Int)) rfl (by kernel_rfl) (by kernel_rfl) (by kernel_rfl) (by kernel_rfl) (fun _ _ _ h => h) ?hy (by assumption) ?_
      case hy => (intro w' hSw; go_simp)
      try simp only [List.setIfInBounds_toArray, List.set_cons_zero, List.set_cons_succ]
      refine takeG 3 (v := .bool false) rfl (by kernel_rfl) (by kernel_rfl) (by kernel_rfl) (by kernel_rfl) (fun _ _ _ h => h) ?hy (by assumption) ?_
      case hy => (intro w' hSw; go_simp)
      try simp only [List.setIfInBounds_toArray, List.set_cons_zero, List.set_cons_succ]
      refine takeG 4 (v := .bool false) rfl (by kernel_rfl) (by kernel_rfl) (by kernel_rfl) (by kernel_rfl) (fun _ _ _ h => h) ?hy (by assumption) ?_
      case hy => (intro w' hSw; go_simp)
      try simp only [List.setIfInBounds_toArray, List.set_cons_zero, List.set_cons_succ]
      refine skipG 5 rfl (by kernel_rfl) (by kernel_rfl) (by kernel_rfl) (by kernel_rfl) (fun _ _ _ h => h) (by assumption) ?_
      try simp only [List.setIfInBounds_toArray, List.set_cons_zero, List.set_cons_succ]
      refine skipG 6 rfl (by kernel_rfl) (by kernel_rfl) (by kernel_rfl) (by kernel_rfl) (fun _ _ _ h => h) (by assumption) ?_
      try simp only [List.setIfInBounds_toArray, List.set_cons_zero, List.set_cons_succ]
      refine skipG 7 rfl (by kernel_rfl) (by kernel_rfl) (by kernel_rfl) (by kernel_rfl) (fun _ _ _ h => h) (by assumption) ?_
      try simp only [List.setIfInBounds_toArray, List.set_cons_zero, List.set_cons_succ]
      refine skipG 8 rfl (by kernel_rfl) (by kernel_rfl) (by kernel_rfl) (by kernel_rfl) (fun _ _ _ h => h) (by assumption) ?_
      try simp only [List.setIfInBounds_toArray, List.set_cons_zero, List.set_cons_succ]
      refine skipG 9 rfl (by kernel_rfl) (by kernel_rfl) (by kernel_rfl) (by kernel_rfl) (fun _ _ _ h => h) (by assumption) ?_
      try simp only [List.setIfInBounds_toArray, List.set_cons_zero, List.set_cons_succ]
      refine skipG 10 rfl (by kernel_rfl) (by kernel_rfl) (by kernel_rfl) (by kernel_rfl) (fun _ _ _ h => h) (by assumption) ?_
      try simp only [List.setIfInBounds_toArray, List.set_cons_zero, List.set_cons_succ]
      refine skipG 11 rfl (by kernel_rfl) (by kernel_rfl) (by kernel_rfl) (by kernel_rfl) (fun _ _ _ h => h) (by assumption) ?_
      try simp only [List.setIfInBounds_toArray, List.set_cons_zero, List.set_cons_succ]
      refine skipG 12 rfl (by kernel_rfl) (by kernel_rfl) (by kernel_rfl) (by kernel_rfl) (fun _ _ _ h => h) (by assumption) ?_
      try simp only [List.setIfInBounds_toArray, List.set_cons_zero, List.set_cons_succ]
      refine takeG 13 (v := .bool false) rfl (by kernel_rfl) (by kernel_rfl) (by kernel_rfl) (by kernel_rfl) (fun _ _ _ h => h) ?hy (by assumption) ?_
      case hy => (intro w' hSw; go_simp)
      try simp only [List.setIfInBounds_toArray, List.set_cons_zero, List.set_cons_succ]
      refine wpAnyH_done (by kernel_rfl) ?_ _
      obtain ⟨z, hz⟩ : ∃ z, wr.drew = z := ⟨_, rfl⟩
      rw [hz] at hHeld ⊢
      have pz := pd.keep hHeld
      have rz := rz0.keep hHeld
      have Bz := Bz0.trans (hHeld.mono Bz0.size)
      have hrowz := hrowz0.keep hHeld
      have hsz : yb ≤ z.heap.size := by have := hHeld.size; omega
      clear pd rz0 Bz0 hrowz0 hb hHeld hz HL
      have ba := (Below.refl z.heap.size z).alloc (Nat.le_refl _) (.cells #[] 54)
      have hrowa := hrowz.keep ba
      have hkc : (k : Int) ≤ (cap : Int) := by omega
      go_wp2_with (at_builtin; refine append_factsL rfl rfl _ _ rfl z.heap.size _ 0 [] rfl (World.ownsRow_lit _ #[] 0 (Nat.le_refl _) (by simp [maxLen]) rfl) ⟨b, off, none⟩ k _ (l.take k) (by rw [List.length_take]; omega) rfl (hrowa.takeF k hk) (by omega) ba.size ?_)
      intro v1 w1 own1 gr1 _
      have c1 : Below z.heap.size z w1 := ba.grown gr1 ba.size (fun g hg => by obtain rfl := Option.some.inj hg; exact Nat.le_refl _)
      have pw := pz.keep c1
      have rw1 := rz.keep c1
      have B1 := Bz.trans (c1.mono Bz.size)
      have hrow1 := hrowz.keep c1
      have hs1 := c1.size
      obtain ⟨q1, q2, q3, hsh⟩ := rowShape own1
      subst hsh
      clear gr1 hrowa ba c1
      have own1y := rowLe own1 hsz
      clear own1 pz rz Bz hrowz
      go_upto_region 5 with fail
      refine wp_region_held_drew (S := (fun w' => Below w1.heap.size w1 w')) (by kernel_rfl) ?hS0 (fun hHeld => ?_)
      case hS0 => exact (Below.refl _ _).drew
      refine takeG 0 (v := .int .i64 (k : Int)) rfl (by kernel_rfl) (by kernel_rfl) (by kernel_rfl) (by kernel_rfl) (fun _ _ _ h => h) ?hy (by assumption) ?_
      case hy => (intro w' hSw; go_simp)
      try simp only [List.setIfInBounds_toArray, List.set_cons_zero, List.set_cons_succ]
      refine takeG 1 (v := .slice (some ⟨b, off, none⟩) l.length cap) rfl (by kernel_rfl) (by kernel_rfl) (by kernel_rfl) (by kernel_rfl) (fun _ _ _ h => h) ?hy (by assumption) ?_
      case hy => (intro w' hSw; go_simp)
      try simp only [List.setIfInBounds_toArray, List.set_cons_zero, List.set_cons_succ]
      refine takeG 2 (v := .int .i64 (l.length : Int)) rfl (by kernel_rfl) (by kernel_rfl) (by kernel_rfl) (by kernel_rfl) (fun _ _ _ h => h) ?hy (by assumption) ?_
      case hy => (intro w' hSw; go_simp)
      try simp only [List.setIfInBounds_toArray, List.set_cons_zero, List.set_cons_succ]
      refine takeG 3 (v := .bool false) rfl (by kernel_rfl) (by kernel_rfl) (by kernel_rfl) (by kernel_rfl) (fun _ _ _ h => h) ?hy (by assumption) ?_
      case hy => (intro w' hSw; go_simp)
      try simp only [List.setIfInBounds_toArray, List.set_cons_zero, List.set_cons_succ]
      refine takeG 4 (v := .bool false) rfl (by kernel_rfl) (by kernel_rfl) (by kernel_rfl) (by kernel_rfl) (fun _ _ _ h => h) ?hy (by assumption) ?_
      case hy => (intro w' hSw; go_simp)
      try simp only [List.setIfInBounds_toArray, List.set_cons_zero, List.set_cons_succ]
      refine skipG 5 rfl (by kernel_rfl) (by kernel_rfl) (by kernel_rfl) (by kernel_rfl) (fun _ _ _ h => h) (by assumption) ?_
      try simp only [List.setIfInBounds_toArray, List.set_cons_zero, List.set_cons_succ]
      refine skipG 6 rfl (by kernel_rfl) (by kernel_rfl) (by kernel_rfl) (by kernel_rfl) (fun _ _ _ h => h) (by assumption) ?_
      try simp only [List.setIfInBounds_toArray, List.set_cons_zero, List.set_cons_succ]
      refine skipG 7 rfl (by kernel_rfl) (by kernel_rfl) (by kernel_rfl) (by kernel_rfl) (fun _ _ _ h => h) (by assumption) ?_
      try simp only [List.setIfInBounds_toArray, List.set_cons_zero, List.set_cons_succ]
      refine skipG 8 rfl (by kernel_rfl) (by kernel_rfl) (by kernel_rfl) (by kernel_rfl) (fun _ _ _ h => h) (by assumption) ?_
      try simp only [List.setIfInBounds_toArray, List.set_cons_zero, List.set_cons_succ]
      refine skipG 9 rfl (by kernel_rfl) (by kernel_rfl) (by kernel_rfl) (by kernel_rfl) (fun _ _ _ h => h) (by assumption) ?_
      try simp only [List.setIfInBounds_toArray, List.set_cons_zero, List.set_cons_succ]
      refine skipG 10 rfl (by kernel_rfl) (by kernel_rfl) (by kernel_rfl) (by kernel_rfl) (fun _ _ _ h => h) (by assumption) ?_
      try simp only [List.setIfInBounds_toArray, List.set_cons_zero, List.set_cons_succ]
      refine skipG 11 rfl (by kernel_rfl) (by kernel_rfl) (by kernel_rfl) (by kernel_rfl) (fun _ _ _ h => h) (by assumption) ?_
      try simp only [List.setIfInBounds_toArray, List.set_cons_zero, List.set_cons_succ]
      refine skipG 12 rfl (by kernel_rfl) (by kernel_rfl) (by kernel_rfl) (by kernel_rfl) (fun _ _ _ h => h) (by assumption) ?_
      try simp only [List.setIfInBounds_toArray, List.set_cons_zero, List.set_cons_succ]
      refine takeG 13 (v := .bool false) rfl (by kernel_rfl) (by kernel_rfl) (by kernel_rfl) (by kernel_rfl) (fun _ _ _ h => h) ?hy (by assumption) ?_
      case hy => (intro w' hSw; go_simp)
      try simp only [List.setIfInBounds_toArray, List.set_cons_zero, List.set_cons_succ]
      refine wpAnyH_done (by kernel_rfl) ?_ _
      obtain ⟨X, hX⟩ : ∃ X, w1.drew = X := ⟨_, rfl⟩
      rw [hX] at hHeld ⊢
      have own12 := rowBelow own1y hHeld
      have pw2 := pw.keep hHeld
      have r12 := rw1.keep hHeld
      have B12 := B1.trans (hHeld.mono B1.size)
      have hrow12 := hrow1.keep hHeld
      have hsX1 : yb ≤ X.heap.size := by have := hHeld.size; omega
      clear own1y pw rw1 B1 hrow1 hHeld hX
      by_cases hck : cap = k
      · have hck' : k = cap := hck.symm
        clear hck
        subst hck'
        have pw' := pw2
        obtain ⟨_, s0, s1, s2⟩ := pw'
        dsimp only at s0 s1 s2
        have ca := (Below.refl X.heap.size X).alloc (Nat.le_refl _) (.cells #[.int .i64 f1, .int .i64 f2, .int .i64 f3] 54)
        have own1a := rowBelow own12 ca
        have hown1 := own12.lt
        have hn1 : CellRow (X.alloc (.cells #[.int .i64 f1, .int .i64 f2, .int .i64 f3] 54)) (some ⟨X.heap.size, 0, none⟩) (cellsOf FactV.cells [⟨f1, f2, f3⟩]) := oneRowF X ⟨f1, f2, f3⟩
        have hbz : yb ≤ (X.alloc (.cells #[.int .i64 f1, .int .i64 f2, .int .i64 f3] 54)).heap.size := by simp; omega
        clear own12
        go_wp2_with (at_builtin; refine append_factsL rfl rfl _ _ rfl yb _ _ _ rfl own1a ⟨X.heap.size, 0, none⟩ 1 1 [⟨f1, f2, f3⟩] rfl rfl hn1 (by omega) hbz ?_)
        intro v2 w2 own2 gr2 _
        have c2 : Below yb X w2 := (ca.mono (by omega)).grown gr2 hbz (fun g hg => (hown1 g hg).1)
        have hown2 := own2.lt
        have hrow2 := hrow12.keepy c2 hby
        have hs2 := c2.size
        clear own1a gr2 hn1 hown1 s0 s1 s2 ca hbz
        go_wp2_with (at_builtin; refine append_factsL rfl rfl _ _ rfl yb v2 _ _ rfl own2 _ _ _ (l.drop k) (by rw [List.length_drop] <;> omega) rfl (.inl (by rw [hdrop.out]; rfl)) (by omega) (by omega) ?_)
        intro v3 w3 own3 gr3 _
        have c3 : Below yb X w3 := c2.grown gr3 (by omega) (fun g hg => (hown2 g hg).1)
        have HR3 : Hid (w3.ownsRow yb 54 3 v3 (putL l ⟨f1, f2, f3⟩ k).length (cellsOf FactV.cells (putL l ⟨f1, f2, f3⟩ k))) := by
          show World.ownsRow _ _ _ _ _ _ _
          refine own_eqF own3 ?_ ?_
          · rw [HN.out, insF_len]; omega
          · rw [HN.out, insF_cells]; simp [cellsOf]
        obtain ⟨va, vn, vc, rfl⟩ := rowShape own3
        have HO3 : Hid (∀ q, Value.ownBlock (.slice va vn vc) = some q → yb ≤ q) := fun q e => (own3.lt q e).1
        have r3 := r12.keepy c3 (by omega)
        have B3 : Below w.heap.size w w3 := B12.trans (c3.mono (by omega))
        have own3w := rowLe HR3.out (show w.heap.size ≤ yb by omega)
        clear own3 gr3 own2 hrow2 hown2 c2 c3 hrow12 r12 B12 pw2
        have KZ := keeps_three w3 (w.heap.size + 1) (.slice va vn vc) (.bool true) (.int .i64 0)
        have HBZ : Hid (Below w.heap.size w (((w3.setCell ⟨w.heap.size + 1, 0, none⟩ (.slice va vn vc)).setCell ⟨w.heap.size + 1, 1, none⟩ (.bool true)).setCell ⟨w.heap.size + 1, 2, none⟩ (.int .i64 0))) := B3.trans (KZ.toBelow B3.size (fun q hq => by omega))
        have HRZ : Hid ((((w3.setCell ⟨w.heap.size + 1, 0, none⟩ (.slice va vn vc)).setCell ⟨w.heap.size + 1, 1, none⟩ (.bool true)).setCell ⟨w.heap.size + 1, 2, none⟩ (.int .i64 0)).ownsRow w.heap.size 54 3 (.slice va vn vc) (putL l ⟨f1, f2, f3⟩ k).length (cellsOf FactV.cells (putL l ⟨f1, f2, f3⟩ k))) := rowKeep own3w KZ (fun q hq => by have := HO3.out q hq; omega)
        have QZ0 := r3
        have g0 := QZ0.cell 0
        have g1 := QZ0.cell 1
        have g2 := QZ0.cell 2
        have fz0 := QZ0.fz 0
        have fz1 := QZ0.fz 1
        have fz2 := QZ0.fz 2
        clear KZ
        clear own3w r3 B3 HR3 HO3
        go_wp2
        have QZ := blk_put3 QZ0 (.slice va vn vc) (.bool true) (.int .i64 0)
        obtain ⟨z6, hz6⟩ : ∃ z6, (((w3.setCell ⟨w.heap.size + 1, 0, none⟩ (.slice va vn vc)).setCell ⟨w.heap.size + 1, 1, none⟩ (.bool true)).setCell ⟨w.heap.size + 1, 2, none⟩ (.int .i64 0)) = z6 := ⟨_, rfl⟩
        rw [hz6] at HBZ QZ HRZ ⊢
        have e0 := QZ.cell 0
        have e1 := QZ.cell 1
        have e2 := QZ.cell 2
        refine bodyPost_ret (v := outV (.slice va vn vc) true 0) (by simp [results, Tryz.results76, go_sem, outV, e0, e1, e2]) rfl ?_
        exact ⟨_, by rw [HRT.out], HRZ.out, HBZ.out⟩
      · have hck' : k < cap := by omega
        have pw' := pw2
        obtain ⟨_, s0, s1, s2⟩ := pw'
        dsimp only at s0 s1 s2
        have ca := (Below.refl X.heap.size X).alloc (Nat.le_refl _) (.cells #[.int .i64 f1, .int .i64 f2, .int .i64 f3] 54)
        have own1a := rowBelow own12 ca
        have hown1 := own12.lt
        have hn1 : CellRow (X.alloc (.cells #[.int .i64 f1, .int .i64 f2, .int .i64 f3] 54)) (some ⟨X.heap.size, 0, none⟩) (cellsOf FactV.cells [⟨f1, f2, f3⟩]) := oneRowF X ⟨f1, f2, f3⟩
        have hbz : yb ≤ (X.alloc (.cells #[.int .i64 f1, .int .i64 f2, .int .i64 f3] 54)).heap.size := by simp; omega
        clear own12
        go_wp2_with (at_builtin; refine append_factsL rfl rfl _ _ rfl yb _ _ _ rfl own1a ⟨X.heap.size, 0, none⟩ 1 1 [⟨f1, f2, f3⟩] rfl rfl hn1 (by omega) hbz ?_)
        intro v2 w2 own2 gr2 _
        have c2 : Below yb X w2 := (ca.mono (by omega)).grown gr2 hbz (fun g hg => (hown1 g hg).1)
        have hown2 := own2.lt
        have hrow2 := hrow12.keepy c2 hby
        have hs2 := c2.size
        clear own1a gr2 hn1 hown1 s0 s1 s2 ca hbz
        go_wp2_with (at_builtin; refine append_factsL rfl rfl _ _ rfl yb v2 _ _ rfl own2 _ _ _ (l.drop k) (by rw [List.length_drop] <;> omega) rfl (.inl (by rw [hdrop.out]; rfl)) (by omega) (by omega) ?_)
        intro v3 w3 own3 gr3 _
        have c3 : Below yb X w3 := c2.grown gr3 (by omega) (fun g hg => (hown2 g hg).1)
        have HR3 : Hid (w3.ownsRow yb 54 3 v3 (putL l ⟨f1, f2, f3⟩ k).length (cellsOf FactV.cells (putL l ⟨f1, f2, f3⟩ k))) := by
          show World.ownsRow _ _ _ _ _ _ _
          refine own_eqF own3 ?_ ?_
          · rw [HN.out, insF_len]; omega
          · rw [HN.out, insF_cells]; simp [cellsOf]
        obtain ⟨va, vn, vc, rfl⟩ := rowShape own3
        have HO3 : Hid (∀ q, Value.ownBlock (.slice va vn vc) = some q → yb ≤ q) := fun q e => (own3.lt q e).1
        have r3 := r12.keepy c3 (by omega)
        have B3 : Below w.heap.size w w3 := B12.trans (c3.mono (by omega))
        have own3w := rowLe HR3.out (show w.heap.size ≤ yb by omega)
        clear own3 gr3 own2 hrow2 hown2 c2 c3 hrow12 r12 B12 pw2
        have KZ := keeps_three w3 (w.heap.size + 1) (.slice va vn vc) (.bool true) (.int .i64 0)
        have HBZ : Hid (Below w.heap.size w (((w3.setCell ⟨w.heap.size + 1, 0, none⟩ (.slice va vn vc)).setCell ⟨w.heap.size + 1, 1, none⟩ (.bool true)).setCell ⟨w.heap.size + 1, 2, none⟩ (.int .i64 0))) := B3.trans (KZ.toBelow B3.size (fun q hq => by omega))
        have HRZ : Hid ((((w3.setCell ⟨w.heap.size + 1, 0, none⟩ (.slice va vn vc)).setCell ⟨w.heap.size + 1, 1, none⟩ (.bool true)).setCell ⟨w.heap.size + 1, 2, none⟩ (.int .i64 0)).ownsRow w.heap.size 54 3 (.slice va vn vc) (putL l ⟨f1, f2, f3⟩ k).length (cellsOf FactV.cells (putL l ⟨f1, f2, f3⟩ k))) := rowKeep own3w KZ (fun q hq => by have := HO3.out q hq; omega)
        have QZ0 := r3
        have g0 := QZ0.cell 0
        have g1 := QZ0.cell 1
        have g2 := QZ0.cell 2
        have fz0 := QZ0.fz 0
        have fz1 := QZ0.fz 1
        have fz2 := QZ0.fz 2
        clear KZ
        clear own3w r3 B3 HR3 HO3
        go_wp2
        have QZ := blk_put3 QZ0 (.slice va vn vc) (.bool true) (.int .i64 0)
        obtain ⟨z6, hz6⟩ : ∃ z6, (((w3.setCell ⟨w.heap.size + 1, 0, none⟩ (.slice va vn vc)).setCell ⟨w.heap.size + 1, 1, none⟩ (.bool true)).setCell ⟨w.heap.size + 1, 2, none⟩ (.int .i64 0)) = z6 := ⟨_, rfl⟩
        rw [hz6] at HBZ QZ HRZ ⊢
        have e0 := QZ.cell 0
        have e1 := QZ.cell 1
        have e2 := QZ.cell 2
        refine bodyPost_ret (v := outV (.slice va vn vc) true 0) (by simp [results, Tryz.results76, go_sem, outV, e0, e1, e2]) rfl ?_
        exact ⟨_, by rw [HRT.out], HRZ.out, HBZ.out⟩
end Go.Proofs.YtmdcankfjmkkeaaGreat
