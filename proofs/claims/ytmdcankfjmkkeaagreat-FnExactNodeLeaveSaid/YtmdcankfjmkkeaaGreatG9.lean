/- The contracts of the exact laws' helpers over []int64: copy, compare, mark, held. -/
import Derived.Test.YtmdcankfjmkkeaaGreatChecked
import Derived.Test.YtmdcankfjmkkeaaGreatPlain1
import Derived.WalkKit
import Derived.WalkLawsBesides
import Derived.WalkSpells
import Derived.BigRegion
import Derived.OpenShut
import Derived.Deep.DeepCutAuto
import Derived.Deep.OwnRows
namespace Go.Proofs.YtmdcankfjmkkeaaGreat
open Go Go.RowKit
set_option linter.unusedVariables false

theorem Tryz.infoI64 : (Tryz.prog.info? 2).map (fun i => (i.zero, i.size, i.bytes)) = some (some (.int .i64 0), 1, 8) := by kernel_rfl
/-- A slice of numbers, to read. -/
def NumRow (w : World) (a : Option Addr) (l : List Int) : Prop :=
  l = [] ∨ ∃ b off : Nat, a = some ⟨b, off, none⟩ ∧ b < w.heap.size ∧ ∀ i (h : i < l.length), w.cell? ⟨b, off + i, none⟩ = some (.int .i64 l[i])
theorem NumRow.keep {w w' : World} {a : Option Addr} {l : List Int} (h : NumRow w a l) (hb : Below w.heap.size w w') : NumRow w' a l := by
  rcases h with h | ⟨b, off, rfl, hlt, hc⟩
  · exact .inl h
  · exact .inr ⟨b, off, rfl, Nat.lt_of_lt_of_le hlt hb.size, fun i hi => (hb.cell (p := ⟨b, off + i, none⟩) hlt).trans (hc i hi)⟩
theorem NumRow.of_row {w : World} {b t : Nat} {l : List Int} (h : w.rowIs b t l.length (fun j => .int .i64 (l.getD j 0))) : NumRow w (some ⟨b, 0, none⟩) l :=
  .inr ⟨b, 0, rfl, h.lt, fun i hi => by rw [Nat.zero_add, h.cell hi, List.getD_eq_getElem?_getD, List.getElem?_eq_getElem hi]; rfl⟩
theorem ret_boolE {x y : Bool} (h : x = y) : Ending.returned (.bool x) = .returned (.bool y) := by rw [h]
theorem ret_intE {k : IntKind} {x y : Int} (h : x = y) : Ending.returned (.int k x) = .returned (.int k y) := by rw [h]
theorem getD_at {l : List Int} {i : Nat} (h : i < l.length) : l.getD i 0 = l[i] := by rw [List.getD_eq_getElem?_getD, List.getElem?_eq_getElem h]; rfl

set_option maxHeartbeats 1000000 in
set_option maxRecDepth 100000 in
theorem toNums_any (a : Option Addr) (cap : Nat) (l : List Int) (w : World) (hl : l.length ≤ 1048576) (hrow : NumRow w a l) :
    Calls Tryz.prog 167 #[.slice a l.length cap] w fun e w' => e = .returned (.slice (some ⟨w.heap.size, 0, none⟩) l.length l.length) ∧ w'.rowIs w.heap.size 2 l.length (fun j => .int .i64 (l.getD j 0)) ∧ Below w.heap.size w w' := by
  have hmk := run_make_row' (P := Tryz.prog) 25 2 (.int .i64 0) 8 Tryz.underlying25 Tryz.infoI64 rfl .i64 .i64 l.length (by omega) (by omega)
  have hr0 := World.rowIs_made w (.int .i64 0) l.length 2
  have hb0 : Below w.heap.size w (w.alloc (.cells (madeCells #[.int .i64 0] l.length) 2)) := (Below.refl _ _).alloc (Nat.le_refl _) _
  go_enter Tryz.func167, Tryz.ntmps167
  go_wp2
  go_loopw [4] (fun i wr => ∃ k : Nat, k ≤ l.length ∧ i = .int .i64 k ∧ wr.rowIs w.heap.size 2 l.length (fun j => if j < k then .int .i64 (l.getD j 0) else .int .i64 0) ∧ Below w.heap.size w wr) (fun i _ => l.length - (intOf i).toNat)
  case atStart => exact ⟨0, Nat.zero_le _, rfl, hr0.congr (fun i hi => by simp), hb0⟩
  case round =>
    obtain ⟨k, hk, rfl, hr, hb⟩ := hrel
    by_cases hx : k < l.length
    · rcases hrow.keep hb with h | ⟨b, off, rfl, hlt, hc⟩
      · rw [h] at hx; simp at hx
      have hck := hc k hx
      have hcur := hr.cell hx
      have hfz := hr.frozen k
      have hne : b ≠ w.heap.size := by
        rcases hrow with h | ⟨b', off', e, hlt', _⟩
        · rw [h] at hx; simp at hx
        · have := congrArg (Option.map Addr.block) e
          simp at this
          omega
      have hr' := hr.set k (.int .i64 l[k])
      have hr'' := hr'.congr (g := fun j => if j < k + 1 then .int .i64 (l.getD j 0) else .int .i64 0) (fun j hj => by
        by_cases e : j = k
        · subst e; simp [hx]
        · by_cases h2 : j < k
          · rw [if_neg e, if_pos h2, if_pos (by omega)]
          · rw [if_neg e, if_neg h2, if_neg (by omega)])
      have hb'' := hb.setCell (p := ⟨w.heap.size, k, none⟩) (Nat.le_refl _) (.int .i64 l[k])
      clear hc hr hr' hmk hr0 hb0
      go_wp2
      go_roundw
      case rel => exact ⟨k + 1, by omega, by go_num, hr'', hb''⟩
      case measure => simp [intOf]; omega
    · have e : k = l.length := by omega
      subst e
      clear hmk
      go_wp2
      go_ret
      exact ⟨rfl, hr.congr (fun i hi => by simp [hi]), hb⟩

set_option maxHeartbeats 1000000 in
set_option maxRecDepth 100000 in
theorem eqNums_any (a b : Option Addr) (ca cb : Nat) (l m : List Int) (w : World) (hl : l.length ≤ 1048576) (ha : NumRow w a l) (hb : NumRow w b m) :
    Calls Tryz.prog 171 #[.slice a l.length ca, .slice b m.length cb] w fun e w' => e = .returned (.bool (decide (l = m))) ∧ Below w.heap.size w w' := by
  by_cases hlm : l.length = m.length
  · have hq : ((l.length : Int) == (m.length : Int)) = true := by simp [hlm]
    go_enter Tryz.func171, Tryz.ntmps171
    go_wp2
    go_loopw [5] (fun i wr => ∃ k : Nat, k ≤ l.length ∧ i = .int .i64 k ∧ l.take k = m.take k ∧ Below w.heap.size w wr) (fun i _ => l.length - (intOf i).toNat)
    case atStart => exact ⟨0, Nat.zero_le _, rfl, by simp, Below.refl _ _⟩
    case round =>
      obtain ⟨k, hk, rfl, ht, hbw⟩ := hrel
      have HT : Hid (l.take k = m.take k) := ht
      clear ht
      by_cases hx : k < l.length
      · rcases ha.keep hbw with h | ⟨b1, o1, rfl, hlt1, hc1⟩
        · rw [h] at hx; simp at hx
        rcases hb.keep hbw with h | ⟨b2, o2, rfl, hlt2, hc2⟩
        · have : m.length = 0 := by rw [h]; rfl
          omega
        have hxm : k < m.length := by omega
        have h1 := hc1 k hx
        have h2 := hc2 k hxm
        obtain ⟨x, hxx⟩ : ∃ x, l[k] = x := ⟨_, rfl⟩
        obtain ⟨y, hyy⟩ : ∃ y, m[k] = y := ⟨_, rfl⟩
        rw [hxx] at h1
        rw [hyy] at h2
        have HX : Hid (l[k] = x) := hxx
        have HY : Hid (m[k] = y) := hyy
        clear hc1 hc2 hxx hyy
        by_cases e : x = y
        · have eb : (x == y) = true := by simp [e]
          go_wp2
          go_region
          go_wp2
          go_roundw
          case rel => exact ⟨k + 1, by omega, by go_num, by rw [List.take_succ_eq_append_getElem hx, List.take_succ_eq_append_getElem hxm, HT.out, HX.out, HY.out, e], hbw.drew⟩
          case measure => simp [intOf]; omega
        · have eb : (x == y) = false := by simp [e]
          have hne : decide (l = m) = false := by
            rw [decide_eq_false_iff_not]
            intro q
            subst q
            exact e (HX.out.symm.trans HY.out)
          have HN : Hid (decide (l = m) = false) := hne
          clear hne
          go_wp2
          go_region
          go_wp2
          go_ret
          exact ⟨ret_boolE HN.out.symm, hbw.drew⟩
      · have hd : decide (l = m) = true := by
          rw [decide_eq_true_eq]
          have := HT.out
          rwa [List.take_of_length_le (by omega), List.take_of_length_le (by omega)] at this
        have HD : Hid (decide (l = m) = true) := hd
        clear hd
        go_wp2
        go_ret
        exact ⟨ret_boolE HD.out.symm, hbw⟩
  · have hq : ((l.length : Int) == (m.length : Int)) = false := by simp; omega
    have hne : decide (l = m) = false := by
      rw [decide_eq_false_iff_not]
      intro q
      exact hlm (by rw [q])
    rw [hne]
    go_enter Tryz.func171, Tryz.ntmps171
    go_wp2
    go_ret
    exact ⟨rfl, Below.refl _ _⟩

/-- A slice of numbers that may be written: its block is no lesser than lo. -/
def OwnNums (w : World) (lo : Nat) (a : Option Addr) (l : List Int) : Prop :=
  l = [] ∨ ∃ b off : Nat, a = some ⟨b, off, none⟩ ∧ lo ≤ b ∧ b < w.heap.size ∧ (∀ i (h : i < l.length), w.cell? ⟨b, off + i, none⟩ = some (.int .i64 l[i])) ∧ ∀ i, i < l.length → w.frozen? ⟨b, off + i, none⟩ = false
theorem OwnNums.row {w : World} {lo : Nat} {a : Option Addr} {l : List Int} (h : OwnNums w lo a l) : NumRow w a l := by
  rcases h with h | ⟨b, off, rfl, _, hlt, hc, _⟩
  · exact .inl h
  · exact .inr ⟨b, off, rfl, hlt, hc⟩
theorem OwnNums.keep {w w' : World} {lo : Nat} {a : Option Addr} {l : List Int} (h : OwnNums w lo a l) (hb : Below w.heap.size w w') : OwnNums w' lo a l := by
  rcases h with h | ⟨b, off, rfl, hlo, hlt, hc, hf⟩
  · exact .inl h
  · exact .inr ⟨b, off, rfl, hlo, Nat.lt_of_lt_of_le hlt hb.size, fun i hi => (hb.cell (p := ⟨b, off + i, none⟩) hlt).trans (hc i hi), fun i hi => (hb.frozen (p := ⟨b, off + i, none⟩) hlt).trans (hf i hi)⟩
theorem OwnNums.of_row {w : World} {lo b t : Nat} {l : List Int} (h : w.rowIs b t l.length (fun j => .int .i64 (l.getD j 0))) (hlo : lo ≤ b) : OwnNums w lo (some ⟨b, 0, none⟩) l :=
  .inr ⟨b, 0, rfl, hlo, h.lt, fun i hi => by rw [Nat.zero_add, h.cell hi, getD_at hi], fun i _ => h.frozen _⟩
/-- The marks: k, k + 1, .. -/
def marks (k : Int) (n : Nat) : List Int := List.map (fun i : Nat => k + (i : Int)) (List.range n)
theorem marks_length (k : Int) (n : Nat) : (marks k n).length = n := by simp [marks]
theorem marks_at (k : Int) (n i : Nat) (h : i < (marks k n).length) : (marks k n)[i] = k + (i : Int) := by simp [marks]

theorem marks_succ (k : Int) (n : Nat) : marks k (n + 1) = marks k n ++ [k + (n : Int)] := by simp [marks, List.range_succ]
theorem marks_step {k : Int} {n : Nat} {l : List Int} (hx : n < l.length) : (marks k n ++ l.drop n).set n (k + (n : Int)) = marks k (n + 1) ++ l.drop (n + 1) := by
  rw [List.set_append_right _ _ (by rw [marks_length]; exact Nat.le_refl _), marks_length, Nat.sub_self, List.drop_eq_getElem_cons hx, List.set_cons_zero, marks_succ, List.append_assoc]
  rfl
theorem own_step {w : World} {lo b off n : Nat} {T : List Int} (x : Int) (hn : n < T.length) (hlo : lo ≤ b) (hlt : b < w.heap.size) (hc : ∀ i (h : i < T.length), w.cell? ⟨b, off + i, none⟩ = some (.int .i64 T[i])) (hf : ∀ i, i < T.length → w.frozen? ⟨b, off + i, none⟩ = false) :
    OwnNums (w.setCell ⟨b, off + n, none⟩ (.int .i64 x)) lo (some ⟨b, off, none⟩) (T.set n x) := by
  refine .inr ⟨b, off, rfl, hlo, by simpa [World.setCell] using hlt, fun i hi => ?_, fun i hi => ?_⟩
  · have hi' : i < T.length := by rw [List.length_set] at hi; exact hi
    by_cases e : i = n
    · subst e
      rw [World.cell?_setCell_same' _ _ _ (by rw [hc i hn]; rfl)]
      simp
    · rw [World.cell?_setCell_other _ _ _ _ (fun q => e (by have := congrArg Addr.off q; simp at this; omega)), hc i hi', List.getElem_set_ne (fun q => e q.symm)]
  · rw [World.frozen?_setCell]
    exact hf i (by rw [List.length_set] at hi; exact hi)

set_option maxHeartbeats 1000000 in
set_option maxRecDepth 100000 in
theorem mark_any (lo : Nat) (a : Option Addr) (cap : Nat) (l : List Int) (k : Int) (w : World) (hl : l.length ≤ 1048576) (hk0 : 0 ≤ k) (hk1 : k ≤ 1000000000) (hlo : lo ≤ w.heap.size) (hrow : OwnNums w lo a l) :
    Calls Tryz.prog 173 #[.slice a l.length cap, .int .i64 k] w fun e w' => e = .returned (.int .i64 (k + l.length)) ∧ OwnNums w' lo a (marks k l.length) ∧ Below lo w w' ∧ (∀ c, (∀ b off, a = some ⟨b, off, none⟩ → c ≠ b) → w'.heap[c]? = w.heap[c]?) ∧ w'.heap.size = w.heap.size := by
  go_enter Tryz.func173, Tryz.ntmps173
  go_wp2
  go_loopw [5, 1] (fun i q wr => ∃ n : Nat, n ≤ l.length ∧ i = .int .i64 n ∧ q = .int .i64 (k + n) ∧ OwnNums wr lo a (marks k n ++ l.drop n) ∧ Below lo w wr ∧ (∀ c, (∀ b off, a = some ⟨b, off, none⟩ → c ≠ b) → wr.heap[c]? = w.heap[c]?) ∧ wr.heap.size = w.heap.size) (fun i _ _ => l.length - (intOf i).toNat)
  case atStart => exact ⟨0, Nat.zero_le _, rfl, by simp, by simpa [marks] using hrow, Below.refl _ _, fun _ _ => rfl, rfl⟩
  case round =>
    obtain ⟨n, hn, rfl, rfl, ho, hb, hc, hs⟩ := hrel
    by_cases hx : n < l.length
    · have hlen : (marks k n ++ l.drop n).length = l.length := by rw [List.length_append, marks_length, List.length_drop]; omega
      rcases ho with h | ⟨b, off, rfl, hlb, hlt, hcell, hfz⟩
      · have : (marks k n ++ l.drop n).length = 0 := by rw [h]; rfl
        omega
      have hcur := hcell n (by omega)
      have hfn := hfz n (by omega)
      obtain ⟨x, hxx⟩ : ∃ x, (marks k n ++ l.drop n)[n] = x := ⟨_, rfl⟩
      rw [hxx] at hcur
      have HO : Hid (OwnNums (wr.setCell ⟨b, off + n, none⟩ (.int .i64 (k + (n : Int)))) lo (some ⟨b, off, none⟩) (marks k (n + 1) ++ l.drop (n + 1))) := by
        have := own_step (lo := lo) (n := n) (k + (n : Int)) (by omega) hlb hlt hcell hfz
        rw [marks_step hx] at this
        exact this
      have hb' := hb.setCell (p := ⟨b, off + n, none⟩) hlb (.int .i64 (k + (n : Int)))
      have hc' : ∀ c, (∀ b' off', some (⟨b, off, none⟩ : Addr) = some ⟨b', off', none⟩ → c ≠ b') → (wr.setCell ⟨b, off + n, none⟩ (.int .i64 (k + (n : Int)))).heap[c]? = w.heap[c]? := fun c h => by
        rw [Below.heap_setCell _ _ _ _ (h b off rfl)]; exact hc c h
      have hs' : (wr.setCell ⟨b, off + n, none⟩ (.int .i64 (k + (n : Int)))).heap.size = w.heap.size := by rw [← hs]; simp [World.setCell]
      have HC' : Hid (∀ c, (∀ b' off', some (⟨b, off, none⟩ : Addr) = some ⟨b', off', none⟩ → c ≠ b') → (wr.setCell ⟨b, off + n, none⟩ (.int .i64 (k + (n : Int)))).heap[c]? = w.heap[c]?) := hc'
      have HS' : Hid ((wr.setCell ⟨b, off + n, none⟩ (.int .i64 (k + (n : Int)))).heap.size = w.heap.size) := hs'
      clear hcell hfz hxx hc hc' hs hs' hlen hb
      go_wp2
      go_roundw
      case rel => exact ⟨n + 1, by omega, by go_num, by go_num, HO.out, hb', HC'.out, HS'.out⟩
      case measure => simp [intOf]; omega
    · have e : n = l.length := by omega
      subst e
      rw [List.drop_length, List.append_nil] at ho
      go_wp2
      go_ret
      exact ⟨rfl, ho, hb, hc, hs⟩

set_option maxHeartbeats 1000000 in
set_option maxRecDepth 100000 in
/-- What was marked is held. -/
theorem held_any (a : Option Addr) (cap n : Nat) (k : Int) (w : World) (hl : n ≤ 1048576) (hk0 : 0 ≤ k) (hk1 : k ≤ 1000000000) (hrow : NumRow w a (marks k n)) :
    Calls Tryz.prog 206 #[.slice a n cap, .int .i64 k] w fun e w' => e = .returned (.int .i64 (k + n)) ∧ w' = w := by
  have hml := marks_length k n
  go_enter Tryz.func206, Tryz.ntmps206
  go_wp2
  go_loop [5, 1] (fun i q => ∃ j : Nat, j ≤ n ∧ i = .int .i64 j ∧ q = .int .i64 (k + j)) (fun i _ => n - (intOf i).toNat)
  case atStart => exact ⟨0, Nat.zero_le _, rfl, by simp⟩
  case round =>
    obtain ⟨j, hj, rfl, rfl⟩ := hrel
    by_cases hx : j < n
    · rcases hrow with h | ⟨b, off, rfl, hlt, hc⟩
      · have : (marks k n).length = 0 := by rw [h]; rfl
        omega
      have hcj := hc j (by omega)
      rw [marks_at] at hcj
      clear hc
      go_wp2
      go_round
      case rel => exact ⟨j + 1, by omega, by go_num, by go_num⟩
      case measure => simp [intOf]; omega
    · have e : j = n := by omega
      subst e
      go_wp2
      go_ret
      exact ⟨rfl, rfl⟩
end Go.Proofs.YtmdcankfjmkkeaaGreat
/- Plain functions of chapter 3, 'Chance', and what promise 3 says of them: no program. -/
namespace Go.Proofs.YtmdcankfjmkkeaaGreat
open Go Go.RowKit
set_option linter.unusedVariables false

/-- The next seed. -/
def nextS (s : Int) : Int := (s * 91813 + 30011) % 2147483648
theorem nextS_bd (s : Int) : 0 ≤ nextS s ∧ nextS s ≤ 2147483647 := by unfold nextS; omega
/-- What is drawn with it. -/
def drawN (s most : Int) : Int := nextS s / 256 % most
theorem drawN_bd (s : Int) {most : Int} (h : 1 ≤ most) : 0 ≤ drawN s most ∧ drawN s most < most := by
  unfold drawN
  exact ⟨Int.emod_nonneg _ (by omega), Int.emod_lt_of_pos _ (by omega)⟩

/-- Two places of a list changed for each other. -/
def swapL (l : List Int) (i j : Nat) : List Int := (l.set i (l.getD j 0)).set j (l.getD i 0)
theorem swapL_length (l : List Int) (i j : Nat) : (swapL l i j).length = l.length := by simp [swapL]
theorem swapL_perm {l : List Int} {i j : Nat} (hi : i < l.length) (hj : j < l.length) : (swapL l i j).Perm l := by
  unfold swapL
  rw [List.getD_eq_getElem?_getD, List.getD_eq_getElem?_getD, List.getElem?_eq_getElem hi, List.getElem?_eq_getElem hj]
  exact List.set_set_perm hi hj
/-- What is left to shuffle below place i. -/
def mixL : Nat → List Int → Int → List Int × Int
  | 0, l, s => (l, s)
  | i + 1, l, s => mixL i (swapL l (i + 1) (drawN s ((i : Int) + 2)).toNat) (nextS s)
theorem mixL_length (i : Nat) (l : List Int) (s : Int) : (mixL i l s).1.length = l.length := by
  induction i generalizing l s with
  | zero => rfl
  | succ i ih => rw [mixL, ih, swapL_length]
theorem mixL_perm (i : Nat) (l : List Int) (s : Int) (h : i < l.length ∨ i = 0) : (mixL i l s).1.Perm l := by
  induction i generalizing l s with
  | zero => exact List.Perm.refl _
  | succ i ih =>
    have hi : i + 1 < l.length := by omega
    have hb := drawN_bd s (most := (i : Int) + 2) (by omega)
    rw [mixL]
    refine (ih _ _ (.inl (by rw [swapL_length]; omega))).trans (swapL_perm hi (by omega))
theorem mixL_seed (i : Nat) (l : List Int) (s : Int) (h : 0 ≤ s ∧ s ≤ 2147483647) : 0 ≤ (mixL i l s).2 ∧ (mixL i l s).2 ≤ 2147483647 := by
  induction i generalizing l s with
  | zero => exact h
  | succ i ih => rw [mixL]; exact ih _ _ (nextS_bd s)
/-- How often a number is in a list. -/
def manyL (l : List Int) (n : Int) : Nat := l.count n
theorem mixL_many (l : List Int) (s n : Int) : manyL (mixL (l.length - 1) l s).1 n = manyL l n := (mixL_perm _ l s (by omega)).count_eq n

/-- Rising, no two alike. -/
abbrev rises (l : List Int) : Prop := l.Pairwise (· < ·)
theorem rises_next {l : List Int} : rises l ↔ ∀ i (h : i + 1 < l.length), l[i] < l[i + 1] := by
  constructor
  · intro h i hi
    exact List.pairwise_iff_getElem.1 h i (i + 1) (by omega) hi (by omega)
  · intro h
    refine List.pairwise_iff_getElem.2 fun i j hi hj hij => ?_
    obtain ⟨k, rfl⟩ : ∃ k, j = i + 1 + k := ⟨j - i - 1, by omega⟩
    clear hij
    induction k with
    | zero => exact h i hj
    | succ k ih =>
      have h1 := ih (by omega)
      have h2 := h (i + 1 + k) (by omega)
      exact Int.lt_trans h1 h2
/-- A set with a number. -/
def insL : List Int → Int → List Int
  | [], n => [n]
  | x :: r, n => if x < n then x :: insL r n else if x = n then x :: r else n :: x :: r
/-- A list without a number. -/
def dropL (l : List Int) (n : Int) : List Int := l.filter fun x => decide (x ≠ n)
theorem insL_mem (l : List Int) (n : Int) : n ∈ insL l n := by
  induction l with
  | nil => simp [insL]
  | cons x r ih =>
    unfold insL
    by_cases h1 : x < n
    · rw [if_pos h1]; exact List.mem_cons_of_mem _ ih
    · rw [if_neg h1]
      by_cases h2 : x = n
      · rw [if_pos h2, h2]; exact List.mem_cons_self
      · rw [if_neg h2]; exact List.mem_cons_self
theorem insL_sub {l : List Int} {n y : Int} (h : y ∈ insL l n) : y = n ∨ y ∈ l := by
  induction l with
  | nil => simp [insL] at h; exact .inl h
  | cons x r ih =>
    unfold insL at h
    by_cases h1 : x < n
    · rw [if_pos h1] at h
      rcases List.mem_cons.1 h with e | e
      · exact .inr (by rw [e]; exact List.mem_cons_self)
      · rcases ih e with e | e
        · exact .inl e
        · exact .inr (List.mem_cons_of_mem _ e)
    · rw [if_neg h1] at h
      by_cases h2 : x = n
      · rw [if_pos h2] at h; exact .inr h
      · rw [if_neg h2] at h
        rcases List.mem_cons.1 h with e | e
        · exact .inl e
        · exact .inr e
theorem insL_rises {l : List Int} (n : Int) (h : rises l) : rises (insL l n) := by
  induction l with
  | nil => exact List.pairwise_singleton _ _
  | cons x r ih =>
    obtain ⟨hx, hr⟩ := List.pairwise_cons.1 h
    unfold insL
    by_cases h1 : x < n
    · rw [if_pos h1]
      refine List.pairwise_cons.2 ⟨fun y hy => ?_, ih hr⟩
      rcases insL_sub hy with e | e
      · omega
      · exact hx y e
    · rw [if_neg h1]
      by_cases h2 : x = n
      · rw [if_pos h2]; exact h
      · rw [if_neg h2]
        refine List.pairwise_cons.2 ⟨fun y hy => ?_, h⟩
        rcases List.mem_cons.1 hy with e | e
        · omega
        · have := hx y e; omega
theorem insL_length (l : List Int) (n : Int) : (insL l n).length ≤ l.length + 1 := by
  induction l with
  | nil => simp [insL]
  | cons x r ih =>
    unfold insL
    by_cases h1 : x < n
    · rw [if_pos h1]; simp; omega
    · rw [if_neg h1]
      by_cases h2 : x = n
      · rw [if_pos h2]; simp
      · rw [if_neg h2]; simp
theorem dropL_not (l : List Int) (n : Int) : ¬ n ∈ dropL l n := by simp [dropL]
theorem dropL_length (l : List Int) (n : Int) : (dropL l n).length ≤ l.length := List.length_filter_le _ _
theorem dropL_rises {l : List Int} (n : Int) (h : rises l) : rises (dropL l n) := List.Pairwise.filter _ h
theorem dropL_out {l : List Int} {n : Int} (h : ¬ n ∈ l) : dropL l n = l := by
  unfold dropL
  refine List.filter_eq_self.2 fun x hx => ?_
  simp only [decide_eq_true_eq]
  intro e
  exact h (e ▸ hx)
/-- A number that is put is dropped again. -/
theorem drop_ins (l : List Int) (n : Int) : dropL (insL l n) n = dropL l n := by
  induction l with
  | nil => simp [insL, dropL]
  | cons x r ih =>
    unfold insL
    by_cases h1 : x < n
    · rw [if_pos h1]
      unfold dropL at ih ⊢
      rw [List.filter_cons_of_pos (by simp; omega), List.filter_cons_of_pos (by simp; omega), ih]
    · rw [if_neg h1]
      by_cases h2 : x = n
      · rw [if_pos h2]
      · rw [if_neg h2]
        unfold dropL
        rw [List.filter_cons_of_neg (by simp)]
/-- Dropped and put again it is the set with it. -/
theorem ins_drop {l : List Int} (n : Int) (h : rises l) : insL (dropL l n) n = insL l n := by
  induction l with
  | nil => rfl
  | cons x r ih =>
    obtain ⟨hx, hr⟩ := List.pairwise_cons.1 h
    by_cases h1 : x < n
    · have e : dropL (x :: r) n = x :: dropL r n := by unfold dropL; rw [List.filter_cons_of_pos (by simp; omega)]
      rw [e, insL, insL, if_pos h1, if_pos h1, ih hr]
    · by_cases h2 : x = n
      · have e : dropL (x :: r) n = r := by
          have hn : ¬ n ∈ r := fun q => by have := hx n q; omega
          have := dropL_out hn
          unfold dropL at this ⊢
          rw [List.filter_cons_of_neg (by simp [h2]), this]
        rw [e, insL, if_neg h1, if_pos h2]
        cases r with
        | nil => rw [insL, h2]
        | cons y t =>
          have := hx y List.mem_cons_self
          rw [insL, if_neg (by omega), if_neg (by omega), h2]
      · have hn : ¬ n ∈ x :: r := by
          intro q
          rcases List.mem_cons.1 q with e | e
          · exact h2 e.symm
          · have := hx n e; omega
        rw [dropL_out hn]
theorem ins_has {l : List Int} {n : Int} (h : rises l) (hm : n ∈ l) : insL l n = l := by
  induction l with
  | nil => exact absurd hm (by simp)
  | cons x r ih =>
    obtain ⟨hx, hr⟩ := List.pairwise_cons.1 h
    rw [insL]
    rcases List.mem_cons.1 hm with e | e
    · rw [if_neg (by omega), if_pos e.symm]
    · rw [if_pos (hx n e), ih hr e]
/-- Where it is put. -/
theorem ins_at {l : List Int} {n : Int} {k : Nat} (hm : ¬ n ∈ l) (hk : k ≤ l.length) (hb : ∀ i (h : i < l.length), i < k → l[i] < n) (ha : ∀ h : k < l.length, ¬ l[k] < n) : insL l n = l.take k ++ n :: l.drop k := by
  induction l generalizing k with
  | nil => simp at hk; subst hk; rfl
  | cons x r ih =>
    have hxn : x ≠ n := fun e => hm (by rw [e]; exact List.mem_cons_self)
    have hrn : ¬ n ∈ r := fun e => hm (List.mem_cons_of_mem _ e)
    cases k with
    | zero =>
      have := ha (by simp)
      simp only [List.getElem_cons_zero] at this
      rw [insL, if_neg this, if_neg hxn]; rfl
    | succ k =>
      have h0 := hb 0 (by simp) (by omega)
      simp only [List.getElem_cons_zero] at h0
      rw [insL, if_pos h0, ih hrn (by simp at hk; omega) (fun i h hik => by have := hb (i + 1) (by simp; omega) (by omega); simpa using this) (fun h => by have := ha (by simp; omega); simpa using this)]
      rfl
end Go.Proofs.YtmdcankfjmkkeaaGreat
