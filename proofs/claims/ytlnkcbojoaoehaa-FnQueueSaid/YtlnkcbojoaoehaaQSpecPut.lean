/- The contract of the specification's insertion into a queue. -/
import Derived.Test.YtlnkcbojoaoehaaQApp
import Derived.Test.YtlnkcbojoaoehaaReg
namespace Go.Proofs.Ytlnkcbojoaoehaa
open Go Go.RowKit
set_option linter.unusedVariables false

theorem own_eqD {w : World} {base e : Nat} {v : Value} {n n' : Nat} {xs xs' : List Value} (h : w.ownsRow base e 4 v n xs) (hn : n = n') (hx : xs = xs') : w.ownsRow base e 4 v n' xs' := by
  subst hn hx; exact h
theorem oneRow (w : World) (d : DueV) : CellRow (w.alloc (.cells #[.int .i64 d.at0, .int .i64 d.seq, .int .i64 d.node, .string d.text] 25)) (some ⟨w.heap.size, 0, none⟩) (cellsOf DueV.cells [d]) := by
  refine .inr ⟨w.heap.size, 0, rfl, by simp, fun i hi => ?_⟩
  have e : cellsOf DueV.cells [d] = d.cells := by simp [cellsOf]
  have h := newCells0 w d i ((cellsOf DueV.cells [d])[i]) (by rw [List.getElem?_eq_some_iff.2 ⟨by rw [← e]; exact hi, rfl⟩]; congr 1)
  have e2 : (⟨w.heap.size, 0, none⟩ : Addr).add i = ⟨w.heap.size, 0 + i, none⟩ := by by_cases e0 : i = 0 <;> simp [Addr.add, e0]
  rw [e2] at h
  exact h
theorem putAt_one {l : List DueV} {d : DueV} {k k' : Nat} (h : putAt l d k) (h' : putAt l d k') : k = k' := by
  rcases Nat.lt_trichotomy k k' with e | e | e
  · have hk : k < l.length := Nat.lt_of_lt_of_le e h'.1
    exact absurd (h'.2.1 k hk e) (h.2.2 hk)
  · exact e
  · have hk : k' < l.length := Nat.lt_of_lt_of_le e h.1
    exact absurd (h.2.1 k' hk e) (h'.2.2 hk)
theorem not_there {l : List DueV} {d : DueV} {k : Nat} (hl : l.Pairwise DueV.lt) (h : putAt l d k) (hd : ∀ hk : k < l.length, d.lt l[k]) : ¬ thereD l d := by
  rintro ⟨j, hj, h1, h2⟩
  rcases Nat.lt_trichotomy j k with e | e | e
  · exact h1 (h.2.1 j hj e)
  · subst e; exact h2 (hd hj)
  · exact h2 (DueV.lt_trans (hd (by omega)) (rises_at hl e hj))
/-- What an insertion into a right queue answers. -/
def Put3 (l : List DueV) (d : DueV) (c : Int) (m : List DueV) : Prop :=
  (thereD l d ∧ c = 7 ∧ m = []) ∨ (¬ thereD l d ∧ 200 ≤ l.length ∧ c = 9 ∧ m = []) ∨ (¬ thereD l d ∧ l.length < 200 ∧ c = 0 ∧ ∃ k, putAt l d k ∧ m = putL l d k)
set_option maxHeartbeats 4000000 in
set_option maxRecDepth 100000 in
theorem l03Put_any (b off cap : Nat) (l : List DueV) (d : DueV) (c : Int) (m : List DueV) (w : World) (hP : Put3 l d c m) (hl : l.length ≤ 200) (hup : l.Pairwise DueV.lt) (hcap : l.length ≤ cap) (hrow : CellRow w (some ⟨b, off, none⟩) (cellsOf DueV.cells l)) :
    Calls Try.prog 42 #[.slice (some ⟨b, off, none⟩) l.length cap, d.val] w (OutPost c d0 m w) := by
  obtain ⟨x1, x2, x3, x4⟩ := d
  have HP : Hid (Put3 l ⟨x1, x2, x3, x4⟩ c m) := hP
  have HU : Hid (l.Pairwise DueV.lt) := hup
  clear hP hup
  have b0 := ((Below.refl w.heap.size w).alloc (Nat.le_refl _) (.cells #[.int .i64 x1, .int .i64 x2, .int .i64 x3, .string x4] 25)).alloc (by simp) (.cells #[.slice none 0 0, .int .i64 0, .int .i64 0, .int .i64 0, .string ⟨#[]⟩, .int .i64 0] 29)
  have p0 := (BlkOf.new w ⟨x1, x2, x3, x4⟩).keep ((Below.refl _ _).alloc (Nat.le_refl _) (.cells #[.slice none 0 0, .int .i64 0, .int .i64 0, .int .i64 0, .string ⟨#[]⟩, .int .i64 0] 29))
  have r0 := ResBlk.new (w.alloc (.cells #[.int .i64 x1, .int .i64 x2, .int .i64 x3, .string x4] 25)) (.slice none 0 0) (.int .i64 0) (.int .i64 0) (.int .i64 0) (.string ⟨#[]⟩) (.int .i64 0)
  rw [World.size_alloc] at r0
  have hrow0 := hrow.keep b0
  obtain ⟨W, hW⟩ : ∃ W, (w.alloc (.cells #[.int .i64 x1, .int .i64 x2, .int .i64 x3, .string x4] 25)).alloc (.cells #[.slice none 0 0, .int .i64 0, .int .i64 0, .int .i64 0, .string ⟨#[]⟩, .int .i64 0] 29) = W := ⟨_, rfl⟩
  dsimp only at p0
  rw [hW] at b0 p0 r0 hrow0
  have HW : Hid ((w.alloc (.cells #[.int .i64 x1, .int .i64 x2, .int .i64 x3, .string x4] 25)).alloc (.cells #[.slice none 0 0, .int .i64 0, .int .i64 0, .int .i64 0, .string ⟨#[]⟩, .int .i64 0] 29) = W) := hW
  have hsz0 := r0.lt
  clear hW
  unfold DueV.val
  dsimp only
  go_enter Try.func42, Try.ntmps42
  go_wp2
  rw [HW.out]
  clear HW
  go_loopw [5] (fun i wr => ∃ k : Nat, k ≤ l.length ∧ i = .int .i64 k ∧ (∀ j (h : j < l.length), j < k → l[j].lt ⟨x1, x2, x3, x4⟩) ∧ Below W.heap.size W wr) (fun i _ => l.length - (intOf i).toNat)
  case atStart => exact ⟨0, Nat.zero_le _, rfl, fun j _ h => by omega, Below.refl _ _⟩
  case round =>
    obtain ⟨k, hk, rfl, hlow, hb⟩ := hrel
    have HL : Hid (∀ j (h : j < l.length), j < k → l[j].lt ⟨x1, x2, x3, x4⟩) := hlow
    clear hlow
    have pd := p0.keep hb
    have r1 := r0.below hb
    have b1 := b0.trans (hb.mono b0.size)
    have hrow1 := hrow0.keep hb
    by_cases hx : k < l.length
    · obtain ⟨y, hly⟩ : ∃ y, l[k] = y := ⟨_, rfl⟩
      obtain ⟨y1, y2, y3, y4⟩ := y
      have dm := hrow1.duef hx hly
      have HY : Hid (l[k] = ⟨y1, y2, y3, y4⟩) := hly
      have hkI : (k : Int) < (l.length : Int) := by omega
      have hkd : decide ((k : Int) < (l.length : Int)) = true := decide_eq_true hkI
      clear hly
      by_cases e : DueV.lt ⟨y1, y2, y3, y4⟩ ⟨x1, x2, x3, x4⟩
      · have HE : Hid (DueV.lt ⟨y1, y2, y3, y4⟩ ⟨x1, x2, x3, x4⟩) := e
        clear e
        go_upto_region 2 with fail
        refine wp_region_held_drew (S := (fun w' => Below wr.heap.size wr w')) (by kernel_rfl) ?hS0 (fun hHeld => ?_)
        case hS0 => exact (Below.refl _ _).drew
        refine takeG 0 (v := .int .i64 (k : Int)) rfl (by kernel_rfl) (by kernel_rfl) (by kernel_rfl) (by kernel_rfl) (fun _ _ _ h => h) ?hy (by assumption) ?_
        case hy => (intro w' hSw; go_simp)
        try simp only [List.setIfInBounds_toArray, List.set_cons_zero, List.set_cons_succ]
        refine takeG 1 (v := .slice (some ⟨b, off, none⟩) l.length cap) rfl (by kernel_rfl) (by kernel_rfl) (by kernel_rfl) (by kernel_rfl) (fun _ _ _ h => h) ?hy (by assumption) ?_
        case hy => (intro w' hSw; go_simp)
        try simp only [List.setIfInBounds_toArray, List.set_cons_zero, List.set_cons_succ]
        refine takeG 2 (v := .int .i64 (l.length : Int)) rfl (by kernel_rfl) (by kernel_rfl) (by kernel_rfl) (by kernel_rfl) (fun _ _ _ h => h) ?hy (by assumption) ?_
        case hy => (intro w' hSw; go_simp)
        try simp only [List.setIfInBounds_toArray, List.set_cons_zero, List.set_cons_succ]
        refine takeG 3 (v := .bool true) rfl (by kernel_rfl) (by kernel_rfl) (by kernel_rfl) (by kernel_rfl) (fun _ _ _ h => h) ?hy (by assumption) ?_
        case hy => (intro w' hSw; go_simp)
        try simp only [List.setIfInBounds_toArray, List.set_cons_zero, List.set_cons_succ]
        refine takeG 4 (v := .bool true) rfl (by kernel_rfl) (by kernel_rfl) (by kernel_rfl) (by kernel_rfl) (fun _ _ _ h => h) ?hy (by assumption) ?_
        case hy => (intro w' hSw; go_simp)
        try simp only [List.setIfInBounds_toArray, List.set_cons_zero, List.set_cons_succ]
        refine takeG 5 (v := .slice (some ⟨b, off, none⟩) l.length cap) rfl (by kernel_rfl) (by kernel_rfl) (by kernel_rfl) (by kernel_rfl) (fun _ _ _ h => h) ?hy (by assumption) ?_
        case hy => (intro w' hSw; go_simp)
        try simp only [List.setIfInBounds_toArray, List.set_cons_zero, List.set_cons_succ]
        refine takeG 6 (v := .int .i64 (k : Int)) rfl (by kernel_rfl) (by kernel_rfl) (by kernel_rfl) (by kernel_rfl) (fun _ _ _ h => h) ?hy (by assumption) ?_
        case hy => (intro w' hSw; go_simp)
        try simp only [List.setIfInBounds_toArray, List.set_cons_zero, List.set_cons_succ]
        refine takeG 7 (v := .pointer (some ⟨b, off + k * 4, none⟩)) rfl (by kernel_rfl) (by kernel_rfl) (by kernel_rfl) (by kernel_rfl) (fun _ _ _ h => h) ?hy (by assumption) ?_
        case hy => (intro w' hSw; go_simp)
        try simp only [List.setIfInBounds_toArray, List.set_cons_zero, List.set_cons_succ]
        refine takeG 8 (v := .agg #[.int .i64 y1, .int .i64 y2, .int .i64 y3, .string y4]) rfl (by kernel_rfl) (by kernel_rfl) (by kernel_rfl) (by kernel_rfl) (fun _ _ _ h => h) ?hy (by assumption) ?_
        case hy => (intro w' hSw; obtain ⟨_, s0, s1, s2, s3⟩ := (dm).keep hSw; dsimp only at s0 s1 s2 s3; go_simp)
        try simp only [List.setIfInBounds_toArray, List.set_cons_zero, List.set_cons_succ]
        refine takeG 9 (v := .agg #[.int .i64 x1, .int .i64 x2, .int .i64 x3, .string x4]) rfl (by kernel_rfl) (by kernel_rfl) (by kernel_rfl) (by kernel_rfl) (fun _ _ _ h => h) ?hy (by assumption) ?_
        case hy => (intro w' hSw; obtain ⟨_, s0, s1, s2, s3⟩ := (pd).keep hSw; dsimp only at s0 s1 s2 s3; go_simp)
        try simp only [List.setIfInBounds_toArray, List.set_cons_zero, List.set_cons_succ]
        refine runG 10 (by kernel_rfl) rfl (by kernel_rfl) ?_
        go_simp
        refine (specLess_yes ⟨y1, y2, y3, y4⟩ ⟨x1, x2, x3, x4⟩ _ HE.out).mono ?_
        rintro e z1 ⟨rfl, bz1⟩
        have hz1 : Below wr.heap.size wr z1 := hHeld.trans bz1
        refine ⟨hz1, ?_⟩
        clear hHeld
        try simp only [Act.put, List.setIfInBounds_toArray, List.set_cons_zero, List.set_cons_succ]
        refine takeG 11 (v := .bool true) rfl (by kernel_rfl) (by kernel_rfl) (by kernel_rfl) (by kernel_rfl) (fun _ _ _ h => h) ?hy (by assumption) ?_
        case hy => (intro w' hSw; go_simp)
        try simp only [List.setIfInBounds_toArray, List.set_cons_zero, List.set_cons_succ]
        refine wpAnyH_done (by kernel_rfl) ?_ _
        have hb1 := hb.trans (hz1.mono hb.size)
        clear dm pd r1 b1 hrow1
        go_wp2
        go_roundw
        case rel => exact ⟨k + 1, by omega, by go_num, fun j hj hjk => by
          by_cases ej : j = k
          · subst ej; rw [HY.out]; exact HE.out
          · exact HL.out j hj (by omega), hb1⟩
        case measure => simp [intOf]; omega
      · have HE : Hid (¬ DueV.lt ⟨y1, y2, y3, y4⟩ ⟨x1, x2, x3, x4⟩) := e
        have HA : Hid (putAt l ⟨x1, x2, x3, x4⟩ k) := ⟨hk, HL.out, fun h => by rw [HY.out]; exact e⟩
        clear e
        go_upto_region 2 with fail
        refine wp_region_held_drew (S := (fun w' => Below wr.heap.size wr w')) (by kernel_rfl) ?hS0 (fun hHeld => ?_)
        case hS0 => exact (Below.refl _ _).drew
        refine takeG 0 (v := .int .i64 (k : Int)) rfl (by kernel_rfl) (by kernel_rfl) (by kernel_rfl) (by kernel_rfl) (fun _ _ _ h => h) ?hy (by assumption) ?_
        case hy => (intro w' hSw; go_simp)
        try simp only [List.setIfInBounds_toArray, List.set_cons_zero, List.set_cons_succ]
        refine takeG 1 (v := .slice (some ⟨b, off, none⟩) l.length cap) rfl (by kernel_rfl) (by kernel_rfl) (by kernel_rfl) (by kernel_rfl) (fun _ _ _ h => h) ?hy (by assumption) ?_
        case hy => (intro w' hSw; go_simp)
        try simp only [List.setIfInBounds_toArray, List.set_cons_zero, List.set_cons_succ]
        refine takeG 2 (v := .int .i64 (l.length : Int)) rfl (by kernel_rfl) (by kernel_rfl) (by kernel_rfl) (by kernel_rfl) (fun _ _ _ h => h) ?hy (by assumption) ?_
        case hy => (intro w' hSw; go_simp)
        try simp only [List.setIfInBounds_toArray, List.set_cons_zero, List.set_cons_succ]
        refine takeG 3 (v := .bool true) rfl (by kernel_rfl) (by kernel_rfl) (by kernel_rfl) (by kernel_rfl) (fun _ _ _ h => h) ?hy (by assumption) ?_
        case hy => (intro w' hSw; go_simp)
        try simp only [List.setIfInBounds_toArray, List.set_cons_zero, List.set_cons_succ]
        refine takeG 4 (v := .bool true) rfl (by kernel_rfl) (by kernel_rfl) (by kernel_rfl) (by kernel_rfl) (fun _ _ _ h => h) ?hy (by assumption) ?_
        case hy => (intro w' hSw; go_simp)
        try simp only [List.setIfInBounds_toArray, List.set_cons_zero, List.set_cons_succ]
        refine takeG 5 (v := .slice (some ⟨b, off, none⟩) l.length cap) rfl (by kernel_rfl) (by kernel_rfl) (by kernel_rfl) (by kernel_rfl) (fun _ _ _ h => h) ?hy (by assumption) ?_
        case hy => (intro w' hSw; go_simp)
        try simp only [List.setIfInBounds_toArray, List.set_cons_zero, List.set_cons_succ]
        refine takeG 6 (v := .int .i64 (k : Int)) rfl (by kernel_rfl) (by kernel_rfl) (by kernel_rfl) (by kernel_rfl) (fun _ _ _ h => h) ?hy (by assumption) ?_
        case hy => (intro w' hSw; go_simp)
        try simp only [List.setIfInBounds_toArray, List.set_cons_zero, List.set_cons_succ]
        refine takeG 7 (v := .pointer (some ⟨b, off + k * 4, none⟩)) rfl (by kernel_rfl) (by kernel_rfl) (by kernel_rfl) (by kernel_rfl) (fun _ _ _ h => h) ?hy (by assumption) ?_
        case hy => (intro w' hSw; go_simp)
        try simp only [List.setIfInBounds_toArray, List.set_cons_zero, List.set_cons_succ]
        refine takeG 8 (v := .agg #[.int .i64 y1, .int .i64 y2, .int .i64 y3, .string y4]) rfl (by kernel_rfl) (by kernel_rfl) (by kernel_rfl) (by kernel_rfl) (fun _ _ _ h => h) ?hy (by assumption) ?_
        case hy => (intro w' hSw; obtain ⟨_, s0, s1, s2, s3⟩ := (dm).keep hSw; dsimp only at s0 s1 s2 s3; go_simp)
        try simp only [List.setIfInBounds_toArray, List.set_cons_zero, List.set_cons_succ]
        refine takeG 9 (v := .agg #[.int .i64 x1, .int .i64 x2, .int .i64 x3, .string x4]) rfl (by kernel_rfl) (by kernel_rfl) (by kernel_rfl) (by kernel_rfl) (fun _ _ _ h => h) ?hy (by assumption) ?_
        case hy => (intro w' hSw; obtain ⟨_, s0, s1, s2, s3⟩ := (pd).keep hSw; dsimp only at s0 s1 s2 s3; go_simp)
        try simp only [List.setIfInBounds_toArray, List.set_cons_zero, List.set_cons_succ]
        refine runG 10 (by kernel_rfl) rfl (by kernel_rfl) ?_
        go_simp
        refine (specLess_no ⟨y1, y2, y3, y4⟩ ⟨x1, x2, x3, x4⟩ _ HE.out).mono ?_
        rintro e z1 ⟨rfl, bz1⟩
        have hz1 : Below wr.heap.size wr z1 := hHeld.trans bz1
        refine ⟨hz1, ?_⟩
        clear hHeld
        try simp only [Act.put, List.setIfInBounds_toArray, List.set_cons_zero, List.set_cons_succ]
        refine takeG 11 (v := .bool false) rfl (by kernel_rfl) (by kernel_rfl) (by kernel_rfl) (by kernel_rfl) (fun _ _ _ h => h) ?hy (by assumption) ?_
        case hy => (intro w' hSw; go_simp)
        try simp only [List.setIfInBounds_toArray, List.set_cons_zero, List.set_cons_succ]
        refine wpAnyH_done (by kernel_rfl) ?_ _
        have dm1 := dm.keep hz1
        have pd1 := pd.keep hz1
        have r2 := r1.below hz1
        have b2 := b1.trans (hz1.mono b1.size)
        have hrow2' := hrow1.keep hz1
        clear dm pd r1 b1 hrow1 hb hz1
        by_cases e2 : DueV.lt ⟨x1, x2, x3, x4⟩ ⟨y1, y2, y3, y4⟩
        · have HF : Hid (DueV.lt ⟨x1, x2, x3, x4⟩ ⟨y1, y2, y3, y4⟩) := e2
          have HT : Hid (¬ thereD l ⟨x1, x2, x3, x4⟩) := not_there HU.out HA.out (fun h => by rw [HY.out]; exact e2)
          clear e2
          go_upto_region 4 with fail
          refine wp_region_held_drew (S := (fun w' => Below z1.heap.size z1 w')) (by kernel_rfl) ?hS0 (fun hHeld => ?_)
          case hS0 => exact (Below.refl _ _).drew
          refine takeG 0 (v := .int .i64 (k : Int)) rfl (by kernel_rfl) (by kernel_rfl) (by kernel_rfl) (by kernel_rfl) (fun _ _ _ h => h) ?hy (by assumption) ?_
          case hy => (intro w' hSw; go_simp)
          try simp only [List.setIfInBounds_toArray, List.set_cons_zero, List.set_cons_succ]
          refine takeG 1 (v := .slice (some ⟨b, off, none⟩) l.length cap) rfl (by kernel_rfl) (by kernel_rfl) (by kernel_rfl) (by kernel_rfl) (fun _ _ _ h => h) ?hy (by assumption) ?_
          case hy => (intro w' hSw; go_simp)
          try simp only [List.setIfInBounds_toArray, List.set_cons_zero, List.set_cons_succ]
          refine takeG 2 (v := .int .i64 (l.length : Int)) rfl (by kernel_rfl) (by kernel_rfl) (by kernel_rfl) (by kernel_rfl) (fun _ _ _ h => h) ?hy (by assumption) ?_
          case hy => (intro w' hSw; go_simp)
          try simp only [List.setIfInBounds_toArray, List.set_cons_zero, List.set_cons_succ]
          refine takeG 3 (v := .bool true) rfl (by kernel_rfl) (by kernel_rfl) (by kernel_rfl) (by kernel_rfl) (fun _ _ _ h => h) ?hy (by assumption) ?_
          case hy => (intro w' hSw; go_simp)
          try simp only [List.setIfInBounds_toArray, List.set_cons_zero, List.set_cons_succ]
          refine takeG 4 (v := .bool true) rfl (by kernel_rfl) (by kernel_rfl) (by kernel_rfl) (by kernel_rfl) (fun _ _ _ h => h) ?hy (by assumption) ?_
          case hy => (intro w' hSw; go_simp)
          try simp only [List.setIfInBounds_toArray, List.set_cons_zero, List.set_cons_succ]
          refine takeG 5 (v := .agg #[.int .i64 x1, .int .i64 x2, .int .i64 x3, .string x4]) rfl (by kernel_rfl) (by kernel_rfl) (by kernel_rfl) (by kernel_rfl) (fun _ _ _ h => h) ?hy (by assumption) ?_
          case hy => (intro w' hSw; obtain ⟨_, s0, s1, s2, s3⟩ := (pd1).keep hSw; dsimp only at s0 s1 s2 s3; go_simp)
          try simp only [List.setIfInBounds_toArray, List.set_cons_zero, List.set_cons_succ]
          refine takeG 6 (v := .slice (some ⟨b, off, none⟩) l.length cap) rfl (by kernel_rfl) (by kernel_rfl) (by kernel_rfl) (by kernel_rfl) (fun _ _ _ h => h) ?hy (by assumption) ?_
          case hy => (intro w' hSw; go_simp)
          try simp only [List.setIfInBounds_toArray, List.set_cons_zero, List.set_cons_succ]
          refine takeG 7 (v := .int .i64 (k : Int)) rfl (by kernel_rfl) (by kernel_rfl) (by kernel_rfl) (by kernel_rfl) (fun _ _ _ h => h) ?hy (by assumption) ?_
          case hy => (intro w' hSw; go_simp)
          try simp only [List.setIfInBounds_toArray, List.set_cons_zero, List.set_cons_succ]
          refine takeG 8 (v := .pointer (some ⟨b, off + k * 4, none⟩)) rfl (by kernel_rfl) (by kernel_rfl) (by kernel_rfl) (by kernel_rfl) (fun _ _ _ h => h) ?hy (by assumption) ?_
          case hy => (intro w' hSw; go_simp)
          try simp only [List.setIfInBounds_toArray, List.set_cons_zero, List.set_cons_succ]
          refine takeG 9 (v := .agg #[.int .i64 y1, .int .i64 y2, .int .i64 y3, .string y4]) rfl (by kernel_rfl) (by kernel_rfl) (by kernel_rfl) (by kernel_rfl) (fun _ _ _ h => h) ?hy (by assumption) ?_
          case hy => (intro w' hSw; obtain ⟨_, s0, s1, s2, s3⟩ := (dm1).keep hSw; dsimp only at s0 s1 s2 s3; go_simp)
          try simp only [List.setIfInBounds_toArray, List.set_cons_zero, List.set_cons_succ]
          refine runG 10 (by kernel_rfl) rfl (by kernel_rfl) ?_
          go_simp
          refine (specLess_yes ⟨x1, x2, x3, x4⟩ ⟨y1, y2, y3, y4⟩ _ HF.out).mono ?_
          rintro e z2 ⟨rfl, bz2⟩
          have hz2 : Below z1.heap.size z1 z2 := hHeld.trans bz2
          refine ⟨hz2, ?_⟩
          clear hHeld
          try simp only [Act.put, List.setIfInBounds_toArray, List.set_cons_zero, List.set_cons_succ]
          refine takeG 11 (v := .bool false) rfl (by kernel_rfl) (by kernel_rfl) (by kernel_rfl) (by kernel_rfl) (fun _ _ _ h => h) ?hy (by assumption) ?_
          case hy => (intro w' hSw; go_simp)
          try simp only [List.setIfInBounds_toArray, List.set_cons_zero, List.set_cons_succ]
          refine takeG 12 (v := .bool false) rfl (by kernel_rfl) (by kernel_rfl) (by kernel_rfl) (by kernel_rfl) (fun _ _ _ h => h) ?hy (by assumption) ?_
          case hy => (intro w' hSw; go_simp)
          try simp only [List.setIfInBounds_toArray, List.set_cons_zero, List.set_cons_succ]
          refine wpAnyH_done (by kernel_rfl) ?_ _
          have pd2 := pd1.keep hz2
          have r4 := r2.below hz2
          have b4 := b2.trans (hz2.mono b2.size)
          have hrow4 := hrow2'.keep hz2
          have hck : ¬ cap = k := by omega
          clear dm1 pd1 r2 b2 hrow2' hz2
          by_cases h9 : (200 : Int) ≤ (l.length : Int)
          · obtain ⟨rfl, rfl⟩ : c = 9 ∧ m = [] := by
              rcases HP.out with ⟨h, _⟩ | ⟨_, _, h⟩ | ⟨_, h, _⟩
              · exact absurd h HT.out
              · exact h
              · omega
            go_wp2_with fail
            refine (ill_any 9 _).mono ?_
            rintro e z9 ⟨rfl, bn⟩
            unfold outV d0
            have r9 := r4.below bn
            have b9 := b4.trans (bn.mono b4.size)
            clear bn
            obtain ⟨u0, u1, u2, u3, u4, u5, ⟨c0, c1, c2, c3, c4, c5⟩, f0, f1, f2, f3, f4, f5⟩ := r9.cells
            go_wp2
            have KZ := keeps_six z9 (w.heap.size + 1) (.slice none 0 0) (.int .i64 0) (.int .i64 0) (.int .i64 0) (.string ⟨#[]⟩) (.int .i64 9)
            have H6 := r9.six (.slice none 0 0) (.int .i64 0) (.int .i64 0) (.int .i64 0) (.string ⟨#[]⟩) (.int .i64 9)
            obtain ⟨z6, hz6⟩ : ∃ z6, ((((((z9.setCell ⟨(w.heap.size + 1), 0, none⟩ (.slice none 0 0)).setCell ⟨(w.heap.size + 1), 1, none⟩ (.int .i64 0)).setCell ⟨(w.heap.size + 1), 2, none⟩ (.int .i64 0)).setCell ⟨(w.heap.size + 1), 3, none⟩ (.int .i64 0)).setCell ⟨(w.heap.size + 1), 4, none⟩ (.string ⟨#[]⟩)).setCell ⟨(w.heap.size + 1), 5, none⟩ (.int .i64 9)) = z6 := ⟨_, rfl⟩
            rw [hz6] at KZ H6 ⊢
            clear hz6
            obtain ⟨q0, q1, q2, q3, q4, q5⟩ := six_cells H6
            refine bodyPost_ret (v := outV (.slice none 0 0) d0 9) (by simp [results, Try.results42, go_sem, outV, d0, q0, q1, q2, q3, q4, q5]) rfl ?_
            exact ⟨_, rfl, World.ownsRow_nil _ _ _ _, b9.trans (KZ.toBelow b9.size (fun q hq => by omega))⟩
          · obtain ⟨rfl, rfl⟩ : c = 0 ∧ m = putL l ⟨x1, x2, x3, x4⟩ k := by
              rcases HP.out with ⟨h, _⟩ | ⟨_, h, _⟩ | ⟨_, _, h, k', hk', h3⟩
              · exact absurd h HT.out
              · omega
              · exact ⟨h, by rw [h3, putAt_one hk' HA.out]⟩
            clear HP
            have ba := (Below.refl z2.heap.size z2).alloc (Nat.le_refl _) (.cells #[] 25)
            have hrowa := hrow4.keep ba
            have hkc : (k : Int) ≤ (cap : Int) := by omega
            go_wp2_with (at_builtin; refine append_duesL rfl _ _ rfl z2.heap.size _ 0 [] rfl (World.ownsRow_lit _ #[] 0 (Nat.le_refl _) (by simp [maxLen]) rfl) ⟨b, off, none⟩ k _ (l.take k) (by rw [List.length_take]; omega) rfl (hrowa.takeD k hk) (by omega) ba.size ?_)
            intro v1 w1 own1 g1
            have c1 : Below z2.heap.size z2 w1 := ba.grown g1 ba.size (fun g hg => by obtain rfl := Option.some.inj hg; exact Nat.le_refl _)
            have pw := pd2.keep c1
            obtain ⟨_, s0, s1, s2, s3⟩ := pw
            dsimp only at s0 s1 s2 s3
            have c1a := c1.alloc c1.size (.cells #[.int .i64 x1, .int .i64 x2, .int .i64 x3, .string x4] 25)
            have own1a := own1.alloc (.cells #[.int .i64 x1, .int .i64 x2, .int .i64 x3, .string x4] 25)
            have hown1 := own1.lt
            have hn1 : CellRow (w1.alloc (.cells #[.int .i64 x1, .int .i64 x2, .int .i64 x3, .string x4] 25)) (some ⟨w1.heap.size, 0, none⟩) (cellsOf DueV.cells [⟨x1, x2, x3, x4⟩]) := oneRow w1 ⟨x1, x2, x3, x4⟩
            clear own1 g1 hrowa
            go_wp2_with (at_builtin; refine append_duesL rfl _ _ rfl z2.heap.size v1 _ _ rfl own1a ⟨w1.heap.size, 0, none⟩ 1 1 [⟨x1, x2, x3, x4⟩] rfl rfl hn1 (by omega) c1a.size ?_)
            intro v2 w2 own2 g2
            have c2 : Below z2.heap.size z2 w2 := c1a.grown g2 c1a.size (fun g hg => (hown1 g hg).1)
            have hown2 := own2.lt
            have hrow2 := hrow4.keep c2
            clear own1a g2 hn1 hown1 s0 s1 s2 s3
            go_wp2_with (at_builtin; refine append_duesL rfl _ _ rfl z2.heap.size v2 _ _ rfl own2 _ _ _ (l.drop k) (by rw [List.length_drop] <;> omega) rfl (hrow2.dropD k hk) (by omega) c2.size ?_)
            intro v3 w3 own3 g3
            have c3 : Below z2.heap.size z2 w3 := c2.grown g3 c2.size (fun g hg => (hown2 g hg).1)
            have HR : Hid (w3.ownsRow z2.heap.size 25 4 v3 (putL l ⟨x1, x2, x3, x4⟩ k).length (cellsOf DueV.cells (putL l ⟨x1, x2, x3, x4⟩ k))) := own_eqD own3 (by simp [putL]; omega) (by simp [putL, cellsOf])
            obtain ⟨va, vn, vc, rfl⟩ := rowShape own3
            have r3 := r4.below c3
            have b3 := b4.trans (c3.mono b4.size)
            have hzw : w.heap.size ≤ z2.heap.size := b4.size
            have hzr := r4.lt
            clear own3 g3 own2 hrow2 hown2 c1 c1a c2 ba
            obtain ⟨u0, u1, u2, u3, u4, u5, ⟨c0, c1, c2, c3, c4, c5⟩, f0, f1, f2, f3, f4, f5⟩ := r3.cells
            go_wp2
            have KZ := keeps_six w3 (w.heap.size + 1) (.slice va vn vc) (.int .i64 0) (.int .i64 0) (.int .i64 0) (.string ⟨#[]⟩) (.int .i64 0)
            have H6 := r3.six (.slice va vn vc) (.int .i64 0) (.int .i64 0) (.int .i64 0) (.string ⟨#[]⟩) (.int .i64 0)
            obtain ⟨z6, hz6⟩ : ∃ z6, ((((((w3.setCell ⟨(w.heap.size + 1), 0, none⟩ (.slice va vn vc)).setCell ⟨(w.heap.size + 1), 1, none⟩ (.int .i64 0)).setCell ⟨(w.heap.size + 1), 2, none⟩ (.int .i64 0)).setCell ⟨(w.heap.size + 1), 3, none⟩ (.int .i64 0)).setCell ⟨(w.heap.size + 1), 4, none⟩ (.string ⟨#[]⟩)).setCell ⟨(w.heap.size + 1), 5, none⟩ (.int .i64 0)) = z6 := ⟨_, rfl⟩
            rw [hz6] at KZ H6 ⊢
            clear hz6
            obtain ⟨q0, q1, q2, q3, q4, q5⟩ := six_cells H6
            refine bodyPost_ret (v := outV (.slice va vn vc) d0 0) (by simp [results, Try.results42, go_sem, outV, d0, q0, q1, q2, q3, q4, q5]) rfl ?_
            exact ⟨_, rfl, rowLe (rowKeep HR.out KZ (fun g hg => by have := (HR.out.lt g hg).1; omega)) hzw, b3.trans (KZ.toBelow b3.size (fun q hq => by omega))⟩
        · have HF : Hid (¬ DueV.lt ⟨x1, x2, x3, x4⟩ ⟨y1, y2, y3, y4⟩) := e2
          have HT : Hid (thereD l ⟨x1, x2, x3, x4⟩) := ⟨k, hx, by rw [HY.out]; exact HE.out, by rw [HY.out]; exact e2⟩
          clear e2
          go_upto_region 4 with fail
          refine wp_region_held_drew (S := (fun w' => Below z1.heap.size z1 w')) (by kernel_rfl) ?hS0 (fun hHeld => ?_)
          case hS0 => exact (Below.refl _ _).drew
          refine takeG 0 (v := .int .i64 (k : Int)) rfl (by kernel_rfl) (by kernel_rfl) (by kernel_rfl) (by kernel_rfl) (fun _ _ _ h => h) ?hy (by assumption) ?_
          case hy => (intro w' hSw; go_simp)
          try simp only [List.setIfInBounds_toArray, List.set_cons_zero, List.set_cons_succ]
          refine takeG 1 (v := .slice (some ⟨b, off, none⟩) l.length cap) rfl (by kernel_rfl) (by kernel_rfl) (by kernel_rfl) (by kernel_rfl) (fun _ _ _ h => h) ?hy (by assumption) ?_
          case hy => (intro w' hSw; go_simp)
          try simp only [List.setIfInBounds_toArray, List.set_cons_zero, List.set_cons_succ]
          refine takeG 2 (v := .int .i64 (l.length : Int)) rfl (by kernel_rfl) (by kernel_rfl) (by kernel_rfl) (by kernel_rfl) (fun _ _ _ h => h) ?hy (by assumption) ?_
          case hy => (intro w' hSw; go_simp)
          try simp only [List.setIfInBounds_toArray, List.set_cons_zero, List.set_cons_succ]
          refine takeG 3 (v := .bool true) rfl (by kernel_rfl) (by kernel_rfl) (by kernel_rfl) (by kernel_rfl) (fun _ _ _ h => h) ?hy (by assumption) ?_
          case hy => (intro w' hSw; go_simp)
          try simp only [List.setIfInBounds_toArray, List.set_cons_zero, List.set_cons_succ]
          refine takeG 4 (v := .bool true) rfl (by kernel_rfl) (by kernel_rfl) (by kernel_rfl) (by kernel_rfl) (fun _ _ _ h => h) ?hy (by assumption) ?_
          case hy => (intro w' hSw; go_simp)
          try simp only [List.setIfInBounds_toArray, List.set_cons_zero, List.set_cons_succ]
          refine takeG 5 (v := .agg #[.int .i64 x1, .int .i64 x2, .int .i64 x3, .string x4]) rfl (by kernel_rfl) (by kernel_rfl) (by kernel_rfl) (by kernel_rfl) (fun _ _ _ h => h) ?hy (by assumption) ?_
          case hy => (intro w' hSw; obtain ⟨_, s0, s1, s2, s3⟩ := (pd1).keep hSw; dsimp only at s0 s1 s2 s3; go_simp)
          try simp only [List.setIfInBounds_toArray, List.set_cons_zero, List.set_cons_succ]
          refine takeG 6 (v := .slice (some ⟨b, off, none⟩) l.length cap) rfl (by kernel_rfl) (by kernel_rfl) (by kernel_rfl) (by kernel_rfl) (fun _ _ _ h => h) ?hy (by assumption) ?_
          case hy => (intro w' hSw; go_simp)
          try simp only [List.setIfInBounds_toArray, List.set_cons_zero, List.set_cons_succ]
          refine takeG 7 (v := .int .i64 (k : Int)) rfl (by kernel_rfl) (by kernel_rfl) (by kernel_rfl) (by kernel_rfl) (fun _ _ _ h => h) ?hy (by assumption) ?_
          case hy => (intro w' hSw; go_simp)
          try simp only [List.setIfInBounds_toArray, List.set_cons_zero, List.set_cons_succ]
          refine takeG 8 (v := .pointer (some ⟨b, off + k * 4, none⟩)) rfl (by kernel_rfl) (by kernel_rfl) (by kernel_rfl) (by kernel_rfl) (fun _ _ _ h => h) ?hy (by assumption) ?_
          case hy => (intro w' hSw; go_simp)
          try simp only [List.setIfInBounds_toArray, List.set_cons_zero, List.set_cons_succ]
          refine takeG 9 (v := .agg #[.int .i64 y1, .int .i64 y2, .int .i64 y3, .string y4]) rfl (by kernel_rfl) (by kernel_rfl) (by kernel_rfl) (by kernel_rfl) (fun _ _ _ h => h) ?hy (by assumption) ?_
          case hy => (intro w' hSw; obtain ⟨_, s0, s1, s2, s3⟩ := (dm1).keep hSw; dsimp only at s0 s1 s2 s3; go_simp)
          try simp only [List.setIfInBounds_toArray, List.set_cons_zero, List.set_cons_succ]
          refine runG 10 (by kernel_rfl) rfl (by kernel_rfl) ?_
          go_simp
          refine (specLess_no ⟨x1, x2, x3, x4⟩ ⟨y1, y2, y3, y4⟩ _ HF.out).mono ?_
          rintro e z2 ⟨rfl, bz2⟩
          have hz2 : Below z1.heap.size z1 z2 := hHeld.trans bz2
          refine ⟨hz2, ?_⟩
          clear hHeld
          try simp only [Act.put, List.setIfInBounds_toArray, List.set_cons_zero, List.set_cons_succ]
          refine takeG 11 (v := .bool true) rfl (by kernel_rfl) (by kernel_rfl) (by kernel_rfl) (by kernel_rfl) (fun _ _ _ h => h) ?hy (by assumption) ?_
          case hy => (intro w' hSw; go_simp)
          try simp only [List.setIfInBounds_toArray, List.set_cons_zero, List.set_cons_succ]
          refine takeG 12 (v := .bool true) rfl (by kernel_rfl) (by kernel_rfl) (by kernel_rfl) (by kernel_rfl) (fun _ _ _ h => h) ?hy (by assumption) ?_
          case hy => (intro w' hSw; go_simp)
          try simp only [List.setIfInBounds_toArray, List.set_cons_zero, List.set_cons_succ]
          refine wpAnyH_done (by kernel_rfl) ?_ _
          have r4 := r2.below hz2
          have b4 := b2.trans (hz2.mono b2.size)
          clear dm1 pd1 r2 b2 hrow2' hz2
          obtain ⟨rfl, rfl⟩ : c = 7 ∧ m = [] := by
            rcases HP.out with ⟨_, h⟩ | ⟨h, _⟩ | ⟨h, _⟩
            · exact h
            · exact absurd HT.out h
            · exact absurd HT.out h
          go_wp2_with fail
          refine (ill_any 7 _).mono ?_
          rintro e z9 ⟨rfl, bn⟩
          unfold outV d0
          have r9 := r4.below bn
          have b9 := b4.trans (bn.mono b4.size)
          clear bn
          obtain ⟨u0, u1, u2, u3, u4, u5, ⟨c0, c1, c2, c3, c4, c5⟩, f0, f1, f2, f3, f4, f5⟩ := r9.cells
          go_wp2
          have KZ := keeps_six z9 (w.heap.size + 1) (.slice none 0 0) (.int .i64 0) (.int .i64 0) (.int .i64 0) (.string ⟨#[]⟩) (.int .i64 7)
          have H6 := r9.six (.slice none 0 0) (.int .i64 0) (.int .i64 0) (.int .i64 0) (.string ⟨#[]⟩) (.int .i64 7)
          obtain ⟨z6, hz6⟩ : ∃ z6, ((((((z9.setCell ⟨(w.heap.size + 1), 0, none⟩ (.slice none 0 0)).setCell ⟨(w.heap.size + 1), 1, none⟩ (.int .i64 0)).setCell ⟨(w.heap.size + 1), 2, none⟩ (.int .i64 0)).setCell ⟨(w.heap.size + 1), 3, none⟩ (.int .i64 0)).setCell ⟨(w.heap.size + 1), 4, none⟩ (.string ⟨#[]⟩)).setCell ⟨(w.heap.size + 1), 5, none⟩ (.int .i64 7)) = z6 := ⟨_, rfl⟩
          rw [hz6] at KZ H6 ⊢
          clear hz6
          obtain ⟨q0, q1, q2, q3, q4, q5⟩ := six_cells H6
          refine bodyPost_ret (v := outV (.slice none 0 0) d0 7) (by simp [results, Try.results42, go_sem, outV, d0, q0, q1, q2, q3, q4, q5]) rfl ?_
          exact ⟨_, rfl, World.ownsRow_nil _ _ _ _, b9.trans (KZ.toBelow b9.size (fun q hq => by omega))⟩
    · have HA : Hid (putAt l ⟨x1, x2, x3, x4⟩ k) := ⟨hk, HL.out, fun h => absurd h hx⟩
      have HT : Hid (¬ thereD l ⟨x1, x2, x3, x4⟩) := not_there HU.out HA.out (fun h => absurd h hx)
      have hkI : ¬ (k : Int) < (l.length : Int) := by omega
      have hkd : decide ((k : Int) < (l.length : Int)) = false := decide_eq_false hkI
      go_upto_region 2 with fail
      refine wp_region_held_drew (S := (fun w' => Below wr.heap.size wr w')) (by kernel_rfl) ?hS0 (fun hHeld => ?_)
      case hS0 => exact (Below.refl _ _).drew
      refine takeG 0 (v := .int .i64 (k : Int)) rfl (by kernel_rfl) (by kernel_rfl) (by kernel_rfl) (by kernel_rfl) (fun _ _ _ h => h) ?hy (by assumption) ?_
      case hy => (intro w' hSw; go_simp)
      try simp only [List.setIfInBounds_toArray, List.set_cons_zero, List.set_cons_succ]
      refine takeG 1 (v := .slice (some ⟨b, off, none⟩) l.length cap) rfl (by kernel_rfl) (by kernel_rfl) (by kernel_rfl) (by kernel_rfl) (fun _ _ _ h => h) ?hy (by assumption) ?_
      case hy => (intro w' hSw; go_simp)
      try simp only [List.setIfInBounds_toArray, List.set_cons_zero, List.set_cons_succ]
      refine takeG 2 (v := .int .i64 (l.length : Int)) rfl (by kernel_rfl) (by kernel_rfl) (by kernel_rfl) (by kernel_rfl) (fun _ _ _ h => h) ?hy (by assumption) ?_
      case hy => (intro w' hSw; go_simp)
      try simp only [List.setIfInBounds_toArray, List.set_cons_zero, List.set_cons_succ]
      refine takeG 3 (v := .bool false) rfl (by kernel_rfl) (by kernel_rfl) (by kernel_rfl) (by kernel_rfl) (fun _ _ _ h => h) ?hy (by assumption) ?_
      case hy => (intro w' hSw; go_simp)
      try simp only [List.setIfInBounds_toArray, List.set_cons_zero, List.set_cons_succ]
      refine takeG 4 (v := .bool false) rfl (by kernel_rfl) (by kernel_rfl) (by kernel_rfl) (by kernel_rfl) (fun _ _ _ h => h) ?hy (by assumption) ?_
      case hy => (intro w' hSw; go_simp)
      try simp only [List.setIfInBounds_toArray, List.set_cons_zero, List.set_cons_succ]
      refine skipG 5 rfl (by kernel_rfl) (by kernel_rfl) (by kernel_rfl) (by kernel_rfl) (fun _ _ _ h => h) (by assumption) ?_
      try simp only [List.setIfInBounds_toArray, List.set_cons_zero, List.set_cons_succ]
      refine skipG 6 rfl (by kernel_rfl) (by kernel_rfl) (by kernel_rfl) (by kernel_rfl) (fun _ _ _ h => h) (by assumption) ?_
      try simp only [List.setIfInBounds_toArray, List.set_cons_zero, List.set_cons_succ]
      refine skipG 7 rfl (by kernel_rfl) (by kernel_rfl) (by kernel_rfl) (by kernel_rfl) (fun _ _ _ h => h) (by assumption) ?_
      try simp only [List.setIfInBounds_toArray, List.set_cons_zero, List.set_cons_succ]
      refine skipG 8 rfl (by kernel_rfl) (by kernel_rfl) (by kernel_rfl) (by kernel_rfl) (fun _ _ _ h => h) (by assumption) ?_
      try simp only [List.setIfInBounds_toArray, List.set_cons_zero, List.set_cons_succ]
      refine skipG 9 rfl (by kernel_rfl) (by kernel_rfl) (by kernel_rfl) (by kernel_rfl) (fun _ _ _ h => h) (by assumption) ?_
      try simp only [List.setIfInBounds_toArray, List.set_cons_zero, List.set_cons_succ]
      refine skipG 10 rfl (by kernel_rfl) (by kernel_rfl) (by kernel_rfl) (by kernel_rfl) (fun _ _ _ h => h) (by assumption) ?_
      try simp only [List.setIfInBounds_toArray, List.set_cons_zero, List.set_cons_succ]
      refine takeG 11 (v := .bool false) rfl (by kernel_rfl) (by kernel_rfl) (by kernel_rfl) (by kernel_rfl) (fun _ _ _ h => h) ?hy (by assumption) ?_
      case hy => (intro w' hSw; go_simp)
      try simp only [List.setIfInBounds_toArray, List.set_cons_zero, List.set_cons_succ]
      refine wpAnyH_done (by kernel_rfl) ?_ _
      clear hHeld
      go_upto_region 4 with fail
      refine wp_region_held_drew (S := (fun w' => Below wr.heap.size wr w')) (by kernel_rfl) ?hS0 (fun hHeld => ?_)
      case hS0 => exact (Below.refl _ _).drew.drew
      refine takeG 0 (v := .int .i64 (k : Int)) rfl (by kernel_rfl) (by kernel_rfl) (by kernel_rfl) (by kernel_rfl) (fun _ _ _ h => h) ?hy (by assumption) ?_
      case hy => (intro w' hSw; go_simp)
      try simp only [List.setIfInBounds_toArray, List.set_cons_zero, List.set_cons_succ]
      refine takeG 1 (v := .slice (some ⟨b, off, none⟩) l.length cap) rfl (by kernel_rfl) (by kernel_rfl) (by kernel_rfl) (by kernel_rfl) (fun _ _ _ h => h) ?hy (by assumption) ?_
      case hy => (intro w' hSw; go_simp)
      try simp only [List.setIfInBounds_toArray, List.set_cons_zero, List.set_cons_succ]
      refine takeG 2 (v := .int .i64 (l.length : Int)) rfl (by kernel_rfl) (by kernel_rfl) (by kernel_rfl) (by kernel_rfl) (fun _ _ _ h => h) ?hy (by assumption) ?_
      case hy => (intro w' hSw; go_simp)
      try simp only [List.setIfInBounds_toArray, List.set_cons_zero, List.set_cons_succ]
      refine takeG 3 (v := .bool false) rfl (by kernel_rfl) (by kernel_rfl) (by kernel_rfl) (by kernel_rfl) (fun _ _ _ h => h) ?hy (by assumption) ?_
      case hy => (intro w' hSw; go_simp)
      try simp only [List.setIfInBounds_toArray, List.set_cons_zero, List.set_cons_succ]
      refine takeG 4 (v := .bool false) rfl (by kernel_rfl) (by kernel_rfl) (by kernel_rfl) (by kernel_rfl) (fun _ _ _ h => h) ?hy (by assumption) ?_
      case hy => (intro w' hSw; go_simp)
      try simp only [List.setIfInBounds_toArray, List.set_cons_zero, List.set_cons_succ]
      refine skipG 5 rfl (by kernel_rfl) (by kernel_rfl) (by kernel_rfl) (by kernel_rfl) (fun _ _ _ h => h) (by assumption) ?_
      try simp only [List.setIfInBounds_toArray, List.set_cons_zero, List.set_cons_succ]
      refine skipG 6 rfl (by kernel_rfl) (by kernel_rfl) (by kernel_rfl) (by kernel_rfl) (fun _ _ _ h => h) (by assumption) ?_
      try simp only [List.setIfInBounds_toArray, List.set_cons_zero, List.set_cons_succ]
      refine skipG 7 rfl (by kernel_rfl) (by kernel_rfl) (by kernel_rfl) (by kernel_rfl) (fun _ _ _ h => h) (by assumption) ?_
      try simp only [List.setIfInBounds_toArray, List.set_cons_zero, List.set_cons_succ]
      refine skipG 8 rfl (by kernel_rfl) (by kernel_rfl) (by kernel_rfl) (by kernel_rfl) (fun _ _ _ h => h) (by assumption) ?_
      try simp only [List.setIfInBounds_toArray, List.set_cons_zero, List.set_cons_succ]
      refine skipG 9 rfl (by kernel_rfl) (by kernel_rfl) (by kernel_rfl) (by kernel_rfl) (fun _ _ _ h => h) (by assumption) ?_
      try simp only [List.setIfInBounds_toArray, List.set_cons_zero, List.set_cons_succ]
      refine skipG 10 rfl (by kernel_rfl) (by kernel_rfl) (by kernel_rfl) (by kernel_rfl) (fun _ _ _ h => h) (by assumption) ?_
      try simp only [List.setIfInBounds_toArray, List.set_cons_zero, List.set_cons_succ]
      refine skipG 11 rfl (by kernel_rfl) (by kernel_rfl) (by kernel_rfl) (by kernel_rfl) (fun _ _ _ h => h) (by assumption) ?_
      try simp only [List.setIfInBounds_toArray, List.set_cons_zero, List.set_cons_succ]
      refine takeG 12 (v := .bool false) rfl (by kernel_rfl) (by kernel_rfl) (by kernel_rfl) (by kernel_rfl) (fun _ _ _ h => h) ?hy (by assumption) ?_
      case hy => (intro w' hSw; go_simp)
      try simp only [List.setIfInBounds_toArray, List.set_cons_zero, List.set_cons_succ]
      refine wpAnyH_done (by kernel_rfl) ?_ _
      have pd2 := pd.keep hHeld
      have r4 := r1.below hHeld
      have b4 := b1.trans (hHeld.mono b1.size)
      have hrow4 := hrow1.keep hHeld
      obtain ⟨z2, hz2⟩ : ∃ z2, wr.drew.drew = z2 := ⟨_, rfl⟩
      rw [hz2] at pd2 r4 b4 hrow4 ⊢
      clear hz2 hHeld pd r1 b1 hrow1 hb
      by_cases h9 : (200 : Int) ≤ (l.length : Int)
      · obtain ⟨rfl, rfl⟩ : c = 9 ∧ m = [] := by
          rcases HP.out with ⟨h, _⟩ | ⟨_, _, h⟩ | ⟨_, h, _⟩
          · exact absurd h HT.out
          · exact h
          · omega
        go_wp2_with fail
        refine (ill_any 9 _).mono ?_
        rintro e z9 ⟨rfl, bn⟩
        unfold outV d0
        have r9 := r4.below bn
        have b9 := b4.trans (bn.mono b4.size)
        clear bn
        obtain ⟨u0, u1, u2, u3, u4, u5, ⟨c0, c1, c2, c3, c4, c5⟩, f0, f1, f2, f3, f4, f5⟩ := r9.cells
        go_wp2
        have KZ := keeps_six z9 (w.heap.size + 1) (.slice none 0 0) (.int .i64 0) (.int .i64 0) (.int .i64 0) (.string ⟨#[]⟩) (.int .i64 9)
        have H6 := r9.six (.slice none 0 0) (.int .i64 0) (.int .i64 0) (.int .i64 0) (.string ⟨#[]⟩) (.int .i64 9)
        obtain ⟨z6, hz6⟩ : ∃ z6, ((((((z9.setCell ⟨(w.heap.size + 1), 0, none⟩ (.slice none 0 0)).setCell ⟨(w.heap.size + 1), 1, none⟩ (.int .i64 0)).setCell ⟨(w.heap.size + 1), 2, none⟩ (.int .i64 0)).setCell ⟨(w.heap.size + 1), 3, none⟩ (.int .i64 0)).setCell ⟨(w.heap.size + 1), 4, none⟩ (.string ⟨#[]⟩)).setCell ⟨(w.heap.size + 1), 5, none⟩ (.int .i64 9)) = z6 := ⟨_, rfl⟩
        rw [hz6] at KZ H6 ⊢
        clear hz6
        obtain ⟨q0, q1, q2, q3, q4, q5⟩ := six_cells H6
        refine bodyPost_ret (v := outV (.slice none 0 0) d0 9) (by simp [results, Try.results42, go_sem, outV, d0, q0, q1, q2, q3, q4, q5]) rfl ?_
        exact ⟨_, rfl, World.ownsRow_nil _ _ _ _, b9.trans (KZ.toBelow b9.size (fun q hq => by omega))⟩
      · obtain ⟨rfl, rfl⟩ : c = 0 ∧ m = putL l ⟨x1, x2, x3, x4⟩ k := by
          rcases HP.out with ⟨h, _⟩ | ⟨_, h, _⟩ | ⟨_, _, h, k', hk', h3⟩
          · exact absurd h HT.out
          · omega
          · exact ⟨h, by rw [h3, putAt_one hk' HA.out]⟩
        clear HP
        by_cases hcc : cap = k
        · have ba := (Below.refl z2.heap.size z2).alloc (Nat.le_refl _) (.cells #[] 25)
          have hrowa := hrow4.keep ba
          have hkc : (k : Int) ≤ (cap : Int) := by omega
          have hcc' : k = cap := hcc.symm
          clear hcc
          subst hcc'
          go_wp2_with (at_builtin; refine append_duesL rfl _ _ rfl z2.heap.size _ 0 [] rfl (World.ownsRow_lit _ #[] 0 (Nat.le_refl _) (by simp [maxLen]) rfl) ⟨b, off, none⟩ k _ (l.take k) (by rw [List.length_take]; omega) rfl (hrowa.takeD k hk) (by omega) ba.size ?_)
          intro v1 w1 own1 g1
          have c1 : Below z2.heap.size z2 w1 := ba.grown g1 ba.size (fun g hg => by obtain rfl := Option.some.inj hg; exact Nat.le_refl _)
          have pw := pd2.keep c1
          obtain ⟨_, s0, s1, s2, s3⟩ := pw
          dsimp only at s0 s1 s2 s3
          have c1a := c1.alloc c1.size (.cells #[.int .i64 x1, .int .i64 x2, .int .i64 x3, .string x4] 25)
          have own1a := own1.alloc (.cells #[.int .i64 x1, .int .i64 x2, .int .i64 x3, .string x4] 25)
          have hown1 := own1.lt
          have hn1 : CellRow (w1.alloc (.cells #[.int .i64 x1, .int .i64 x2, .int .i64 x3, .string x4] 25)) (some ⟨w1.heap.size, 0, none⟩) (cellsOf DueV.cells [⟨x1, x2, x3, x4⟩]) := oneRow w1 ⟨x1, x2, x3, x4⟩
          clear own1 g1 hrowa
          go_wp2_with (at_builtin; refine append_duesL rfl _ _ rfl z2.heap.size v1 _ _ rfl own1a ⟨w1.heap.size, 0, none⟩ 1 1 [⟨x1, x2, x3, x4⟩] rfl rfl hn1 (by omega) c1a.size ?_)
          intro v2 w2 own2 g2
          have c2 : Below z2.heap.size z2 w2 := c1a.grown g2 c1a.size (fun g hg => (hown1 g hg).1)
          have hown2 := own2.lt
          have hrow2 := hrow4.keep c2
          clear own1a g2 hn1 hown1 s0 s1 s2 s3
          go_wp2_with (at_builtin; refine append_duesL rfl _ _ rfl z2.heap.size v2 _ _ rfl own2 _ _ _ (l.drop k) (by rw [List.length_drop] <;> omega) rfl (Or.inl (by rw [List.drop_eq_nil_of_le (by omega)]; rfl)) (by omega) c2.size ?_)
          intro v3 w3 own3 g3
          have c3 : Below z2.heap.size z2 w3 := c2.grown g3 c2.size (fun g hg => (hown2 g hg).1)
          have HR : Hid (w3.ownsRow z2.heap.size 25 4 v3 (putL l ⟨x1, x2, x3, x4⟩ k).length (cellsOf DueV.cells (putL l ⟨x1, x2, x3, x4⟩ k))) := own_eqD own3 (by simp [putL]; omega) (by simp [putL, cellsOf])
          obtain ⟨va, vn, vc, rfl⟩ := rowShape own3
          have r3 := r4.below c3
          have b3 := b4.trans (c3.mono b4.size)
          have hzw : w.heap.size ≤ z2.heap.size := b4.size
          have hzr := r4.lt
          clear own3 g3 own2 hrow2 hown2 c1 c1a c2 ba
          obtain ⟨u0, u1, u2, u3, u4, u5, ⟨c0, c1, c2, c3, c4, c5⟩, f0, f1, f2, f3, f4, f5⟩ := r3.cells
          go_wp2
          have KZ := keeps_six w3 (w.heap.size + 1) (.slice va vn vc) (.int .i64 0) (.int .i64 0) (.int .i64 0) (.string ⟨#[]⟩) (.int .i64 0)
          have H6 := r3.six (.slice va vn vc) (.int .i64 0) (.int .i64 0) (.int .i64 0) (.string ⟨#[]⟩) (.int .i64 0)
          obtain ⟨z6, hz6⟩ : ∃ z6, ((((((w3.setCell ⟨(w.heap.size + 1), 0, none⟩ (.slice va vn vc)).setCell ⟨(w.heap.size + 1), 1, none⟩ (.int .i64 0)).setCell ⟨(w.heap.size + 1), 2, none⟩ (.int .i64 0)).setCell ⟨(w.heap.size + 1), 3, none⟩ (.int .i64 0)).setCell ⟨(w.heap.size + 1), 4, none⟩ (.string ⟨#[]⟩)).setCell ⟨(w.heap.size + 1), 5, none⟩ (.int .i64 0)) = z6 := ⟨_, rfl⟩
          rw [hz6] at KZ H6 ⊢
          clear hz6
          obtain ⟨q0, q1, q2, q3, q4, q5⟩ := six_cells H6
          refine bodyPost_ret (v := outV (.slice va vn vc) d0 0) (by simp [results, Try.results42, go_sem, outV, d0, q0, q1, q2, q3, q4, q5]) rfl ?_
          exact ⟨_, rfl, rowLe (rowKeep HR.out KZ (fun g hg => by have := (HR.out.lt g hg).1; omega)) hzw, b3.trans (KZ.toBelow b3.size (fun q hq => by omega))⟩
        · have ba := (Below.refl z2.heap.size z2).alloc (Nat.le_refl _) (.cells #[] 25)
          have hrowa := hrow4.keep ba
          have hkc : (k : Int) ≤ (cap : Int) := by omega
          have hcc' : k < cap := by omega
          go_wp2_with (at_builtin; refine append_duesL rfl _ _ rfl z2.heap.size _ 0 [] rfl (World.ownsRow_lit _ #[] 0 (Nat.le_refl _) (by simp [maxLen]) rfl) ⟨b, off, none⟩ k _ (l.take k) (by rw [List.length_take]; omega) rfl (hrowa.takeD k hk) (by omega) ba.size ?_)
          intro v1 w1 own1 g1
          have c1 : Below z2.heap.size z2 w1 := ba.grown g1 ba.size (fun g hg => by obtain rfl := Option.some.inj hg; exact Nat.le_refl _)
          have pw := pd2.keep c1
          obtain ⟨_, s0, s1, s2, s3⟩ := pw
          dsimp only at s0 s1 s2 s3
          have c1a := c1.alloc c1.size (.cells #[.int .i64 x1, .int .i64 x2, .int .i64 x3, .string x4] 25)
          have own1a := own1.alloc (.cells #[.int .i64 x1, .int .i64 x2, .int .i64 x3, .string x4] 25)
          have hown1 := own1.lt
          have hn1 : CellRow (w1.alloc (.cells #[.int .i64 x1, .int .i64 x2, .int .i64 x3, .string x4] 25)) (some ⟨w1.heap.size, 0, none⟩) (cellsOf DueV.cells [⟨x1, x2, x3, x4⟩]) := oneRow w1 ⟨x1, x2, x3, x4⟩
          clear own1 g1 hrowa
          go_wp2_with (at_builtin; refine append_duesL rfl _ _ rfl z2.heap.size v1 _ _ rfl own1a ⟨w1.heap.size, 0, none⟩ 1 1 [⟨x1, x2, x3, x4⟩] rfl rfl hn1 (by omega) c1a.size ?_)
          intro v2 w2 own2 g2
          have c2 : Below z2.heap.size z2 w2 := c1a.grown g2 c1a.size (fun g hg => (hown1 g hg).1)
          have hown2 := own2.lt
          have hrow2 := hrow4.keep c2
          clear own1a g2 hn1 hown1 s0 s1 s2 s3
          go_wp2_with (at_builtin; refine append_duesL rfl _ _ rfl z2.heap.size v2 _ _ rfl own2 _ _ _ (l.drop k) (by rw [List.length_drop] <;> omega) rfl (Or.inl (by rw [List.drop_eq_nil_of_le (by omega)]; rfl)) (by omega) c2.size ?_)
          intro v3 w3 own3 g3
          have c3 : Below z2.heap.size z2 w3 := c2.grown g3 c2.size (fun g hg => (hown2 g hg).1)
          have HR : Hid (w3.ownsRow z2.heap.size 25 4 v3 (putL l ⟨x1, x2, x3, x4⟩ k).length (cellsOf DueV.cells (putL l ⟨x1, x2, x3, x4⟩ k))) := own_eqD own3 (by simp [putL]; omega) (by simp [putL, cellsOf])
          obtain ⟨va, vn, vc, rfl⟩ := rowShape own3
          have r3 := r4.below c3
          have b3 := b4.trans (c3.mono b4.size)
          have hzw : w.heap.size ≤ z2.heap.size := b4.size
          have hzr := r4.lt
          clear own3 g3 own2 hrow2 hown2 c1 c1a c2 ba
          obtain ⟨u0, u1, u2, u3, u4, u5, ⟨c0, c1, c2, c3, c4, c5⟩, f0, f1, f2, f3, f4, f5⟩ := r3.cells
          go_wp2
          have KZ := keeps_six w3 (w.heap.size + 1) (.slice va vn vc) (.int .i64 0) (.int .i64 0) (.int .i64 0) (.string ⟨#[]⟩) (.int .i64 0)
          have H6 := r3.six (.slice va vn vc) (.int .i64 0) (.int .i64 0) (.int .i64 0) (.string ⟨#[]⟩) (.int .i64 0)
          obtain ⟨z6, hz6⟩ : ∃ z6, ((((((w3.setCell ⟨(w.heap.size + 1), 0, none⟩ (.slice va vn vc)).setCell ⟨(w.heap.size + 1), 1, none⟩ (.int .i64 0)).setCell ⟨(w.heap.size + 1), 2, none⟩ (.int .i64 0)).setCell ⟨(w.heap.size + 1), 3, none⟩ (.int .i64 0)).setCell ⟨(w.heap.size + 1), 4, none⟩ (.string ⟨#[]⟩)).setCell ⟨(w.heap.size + 1), 5, none⟩ (.int .i64 0)) = z6 := ⟨_, rfl⟩
          rw [hz6] at KZ H6 ⊢
          clear hz6
          obtain ⟨q0, q1, q2, q3, q4, q5⟩ := six_cells H6
          refine bodyPost_ret (v := outV (.slice va vn vc) d0 0) (by simp [results, Try.results42, go_sem, outV, d0, q0, q1, q2, q3, q4, q5]) rfl ?_
          exact ⟨_, rfl, rowLe (rowKeep HR.out KZ (fun g hg => by have := (HR.out.lt g hg).1; omega)) hzw, b3.trans (KZ.toBelow b3.size (fun q hq => by omega))⟩
end Go.Proofs.Ytlnkcbojoaoehaa
