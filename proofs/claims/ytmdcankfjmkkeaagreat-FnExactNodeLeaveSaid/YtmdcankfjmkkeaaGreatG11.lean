/- The contracts of NotGone: the program's and the specification's. -/
import Derived.Test.YtmdcankfjmkkeaaGreatVRightI
import Derived.Test.YtmdcankfjmkkeaaGreatVRightS
import Derived.Test.YtmdcankfjmkkeaaGreatG10
import Derived.Test.YtmdcankfjmkkeaaGreatG4
import Derived.Test.YtmdcankfjmkkeaaGreatFPlain
namespace Go.Proofs.YtmdcankfjmkkeaaGreat
open Go Go.RowKit
set_option linter.unusedVariables false

/-- The nodes that are not gone. -/
def goneL (l : List FactV) : List Int := (l.filter fun f => f.st != 3).map FactV.node
theorem goneL_len (l : List FactV) : (goneL l).length ≤ l.length := by unfold goneL; rw [List.length_map]; exact List.length_filter_le _ _
theorem goneL_keep {l : List FactV} {x : FactV} (h : x.st ≠ 3) : goneL (l ++ [x]) = goneL l ++ [x.node] := by simp [goneL, h]
theorem goneL_skip {l : List FactV} {x : FactV} (h : x.st = 3) : goneL (l ++ [x]) = goneL l := by simp [goneL, h]
def LeftIs (l : List FactV) (m : List Int) : Prop := (rightV l ∧ m = goneL l) ∨ (¬ rightV l ∧ m = [])
theorem leftIs_ex (l : List FactV) : ∃ m, LeftIs l m := by
  by_cases h : rightV l
  · exact ⟨_, .inl ⟨h, rfl⟩⟩
  · exact ⟨_, .inr ⟨h, rfl⟩⟩
theorem leftIs_len {l : List FactV} {m : List Int} (h : LeftIs l m) : m.length ≤ 6 := by
  rcases h with ⟨h, rfl⟩ | ⟨_, rfl⟩
  · exact Nat.le_trans (goneL_len l) (rightV_len h)
  · simp
def LeftPost (m : List Int) (w : World) (e : Ending) (w' : World) : Prop := ∃ v, e = .returned v ∧ w'.ownsRow w.heap.size 2 1 v m.length (numsV m) ∧ Below w.heap.size w w'
set_option maxHeartbeats 2000000 in
set_option maxRecDepth 100000 in
theorem implLeft_any (a : Option Addr) (cap : Nat) (l : List FactV) (m : List Int) (hm : LeftIs l m) (w : World) (hl : l.length ≤ 1048576) (hrow : CellRow w a (cellsOf FactV.cells l)) :
    Calls Tryz.prog 141 #[.slice a l.length cap] w (LeftPost m w) := by
  obtain ⟨i0, hi, hz0, hz1, hz2⟩ := info_partsI
  obtain ⟨r, hr⟩ := tells_bool (rightV l)
  have HR : Hid (r = true ↔ rightV l) := hr
  have HM : Hid (LeftIs l m) := hm
  clear hr hm
  go_enter Tryz.func141, Tryz.ntmps141
  go_wp2_with fail
  refine (implVRight_is a cap l _ r HR.out hl hrow).mono ?_
  rintro e z1 ⟨rfl, B1⟩
  cases r with
  | false =>
    have HV : Hid (m = []) := HM.out.elim (fun h => by have := HR.out.2 h.1; cases this) (fun h => h.2)
    clear HM HR
    go_wp2
    go_ret
    exact ⟨_, rfl, by rw [HV.out]; exact World.ownsRow_nil _ _ _ _, B1⟩
  | true =>
    have HV : Hid (m = goneL l) := HM.out.elim (fun h => h.2) (fun h => absurd (HR.out.1 rfl) h.1)
    clear HM HR
    go_wp2
    go_loopw [11, 3] (fun i v wr => ∃ k : Nat, k ≤ l.length ∧ i = .int .i64 k ∧ wr.ownsRow w.heap.size 2 1 v (goneL (l.take k)).length (numsV (goneL (l.take k))) ∧ Below w.heap.size w wr) (fun i _ _ => l.length - (intOf i).toNat)
    case atStart => exact ⟨0, Nat.zero_le _, rfl, World.ownsRow_nil _ _ _ _, B1⟩
    case round =>
      obtain ⟨k, hk, rfl, hown, hb⟩ := hrel
      clear B1
      by_cases hx : k < l.length
      · obtain ⟨b, off, rfl⟩ := hrow.addr (by rw [cellsOf_length FactV.cells_len]; omega)
        obtain ⟨x, hlx⟩ : ∃ x, l[k] = x := ⟨_, rfl⟩
        obtain ⟨x1, x2, x3⟩ := x
        obtain ⟨_, q0, q1, q2⟩ := (hrow.keep hb).fact hx hlx
        dsimp only at q0 q1 q2
        have hk' : (k : Int) < (l.length : Int) := by omega
        have HT : Hid (l.take (k + 1) = l.take k ++ [⟨x1, x2, x3⟩]) := by
          show _ = _
          rw [List.take_succ_eq_append_getElem hx, hlx]
        have hdl : (goneL (l.take k)).length ≤ k := by have := goneL_len (l.take k); rw [List.length_take] at this; omega
        have hbA := hb.alloc hb.size (.cells #[.int .i64 x1, .int .i64 x2, .int .i64 x3] 54)
        have hownA := hown.alloc (.cells #[.int .i64 x1, .int .i64 x2, .int .i64 x3] 54)
        have pA := BlkIs.new wr 54 #[.int .i64 x1, .int .i64 x2, .int .i64 x3]
        obtain ⟨W, hW⟩ : ∃ W, wr.alloc (.cells #[.int .i64 x1, .int .i64 x2, .int .i64 x3] 54) = W := ⟨_, rfl⟩
        rw [hW] at hbA hownA pA
        have HW : Hid (_ = W) := hW
        have g0 := pA.cell 0
        have g2 := pA.cell 2
        clear hlx hW hown pA
        by_cases e : x3 = 3
        · have eb : (x3 == 3) = true := by simp [e]
          have ho : W.ownsRow w.heap.size 2 1 u3 (goneL (l.take (k + 1))).length (numsV (goneL (l.take (k + 1)))) := by rw [HT.out, goneL_skip e]; exact hownA
          clear hownA e
          go_upto_region 7 with fail
          rw [HW.out]
          clear HW hb q0 q1 q2
          go_wp2
          go_roundw
          case rel => exact ⟨k + 1, by omega, by go_num, ho, hbA⟩
          case measure => simp [intOf]; omega
        · have eb : (x3 == 3) = false := by simp [e]
          have HE : Hid (x3 ≠ 3) := e
          clear e
          go_upto_region 7 with fail
          rw [HW.out]
          clear HW hb q0 q1 q2
          go_wp2_with (at_builtin; refine wpList_append_own _ rfl _ _ 25 rfl w.heap.size 2 i0 (.int .i64 0) 1 8 Tryz.underlying25 hi hz0 hz1 hz2 rfl (by decide) _ _ _ rfl (hownA.alloc _) ⟨W.heap.size, 0, none⟩ 1 1 [.int .i64 x1] rfl rfl ?c1 ?c2 ?c3 ?c4 ?c5 ?_)
          case c1 => exact cell_one_new _ _ _
          case c2 => intro u hu; simp at hu; subst hu; rfl
          case c3 => unfold maxLen; omega
          case c4 => omega
          case c5 => have := hbA.size; simp; omega
          · intro v' w2 hown' hgrow _
            have hb2 : Below w.heap.size w w2 := (hbA.alloc hbA.size _).grown hgrow (by have := hbA.size; simp; omega) (fun g hg => (hownA.lt g hg).1)
            have ho : w2.ownsRow w.heap.size 2 1 v' (goneL (l.take (k + 1))).length (numsV (goneL (l.take (k + 1)))) := by
              rw [HT.out, goneL_keep HE.out, numsV_append, List.length_append]; exact hown'
            clear hown' hgrow hownA
            go_wp2
            go_roundw
            case rel => exact ⟨k + 1, by omega, by go_num, ho, hb2⟩
            case measure => simp [intOf]; omega
      · have e : k = l.length := by omega
        subst e
        rw [List.take_length] at hown
        go_wp2
        go_ret
        exact ⟨_, rfl, by rw [HV.out]; exact hown, hb⟩
set_option maxHeartbeats 2000000 in
set_option maxRecDepth 100000 in
theorem specL04Left_any (a : Option Addr) (cap : Nat) (l : List FactV) (w : World) (hl : l.length ≤ 1048576) (hrow : CellRow w a (cellsOf FactV.cells l)) :
    Calls Tryz.prog 78 #[.slice a l.length cap] w (LeftPost (goneL l) w) := by
  obtain ⟨i0, hi, hz0, hz1, hz2⟩ := info_partsI
  go_enter Tryz.func78, Tryz.ntmps78
  go_wp2
  go_loopw [4, 3] (fun i v wr => ∃ k : Nat, k ≤ l.length ∧ i = .int .i64 k ∧ wr.ownsRow w.heap.size 2 1 v (goneL (l.take k)).length (numsV (goneL (l.take k))) ∧ Below w.heap.size w wr) (fun i _ _ => l.length - (intOf i).toNat)
  case atStart => exact ⟨0, Nat.zero_le _, rfl, World.ownsRow_lit _ #[] 0 (Nat.le_refl _) (by simp [maxLen]) rfl, (Below.refl _ _).alloc (Nat.le_refl _) _⟩
  case round =>
    obtain ⟨k, hk, rfl, hown, hb⟩ := hrel
    by_cases hx : k < l.length
    · obtain ⟨b, off, rfl⟩ := hrow.addr (by rw [cellsOf_length FactV.cells_len]; omega)
      obtain ⟨x, hlx⟩ : ∃ x, l[k] = x := ⟨_, rfl⟩
      obtain ⟨x1, x2, x3⟩ := x
      obtain ⟨_, q0, q1, q2⟩ := (hrow.keep hb).fact hx hlx
      dsimp only at q0 q1 q2
      have hk' : (k : Int) < (l.length : Int) := by omega
      have HT : Hid (l.take (k + 1) = l.take k ++ [⟨x1, x2, x3⟩]) := by
        show _ = _
        rw [List.take_succ_eq_append_getElem hx, hlx]
      have hdl : (goneL (l.take k)).length ≤ k := by have := goneL_len (l.take k); rw [List.length_take] at this; omega
      clear hlx
      by_cases e : x3 = 3
      · have eb : (x3 == 3) = true := by simp [e]
        have ho : wr.ownsRow w.heap.size 2 1 u3 (goneL (l.take (k + 1))).length (numsV (goneL (l.take (k + 1)))) := by rw [HT.out, goneL_skip e]; exact hown
        clear hown e
        go_wp2
        go_roundw
        case rel => exact ⟨k + 1, by omega, by go_num, ho, hb⟩
        case measure => simp [intOf]; omega
      · have eb : (x3 == 3) = false := by simp [e]
        have HE : Hid (x3 ≠ 3) := e
        clear e
        go_wp2_with (at_builtin; refine wpList_append_own _ rfl _ _ 25 rfl w.heap.size 2 i0 (.int .i64 0) 1 8 Tryz.underlying25 hi hz0 hz1 hz2 rfl (by decide) _ _ _ rfl (hown.alloc _) ⟨wr.heap.size, 0, none⟩ 1 1 [.int .i64 x1] rfl rfl ?c1 ?c2 ?c3 ?c4 ?c5 ?_)
        case c1 => exact cell_one_new _ _ _
        case c2 => intro u hu; simp at hu; subst hu; rfl
        case c3 => unfold maxLen; omega
        case c4 => omega
        case c5 => have := hb.size; simp; omega
        · intro v' w2 hown' hgrow _
          have hb2 : Below w.heap.size w w2 := (hb.alloc hb.size _).grown hgrow (by have := hb.size; simp; omega) (fun g hg => (hown.lt g hg).1)
          have ho : w2.ownsRow w.heap.size 2 1 v' (goneL (l.take (k + 1))).length (numsV (goneL (l.take (k + 1)))) := by
            rw [HT.out, goneL_keep HE.out, numsV_append, List.length_append]; exact hown'
          clear hown' hgrow hown
          go_wp2
          go_roundw
          case rel => exact ⟨k + 1, by omega, by go_num, ho, hb2⟩
          case measure => simp [intOf]; omega
    · have e : k = l.length := by omega
      subst e
      rw [List.take_length] at hown
      go_wp2
      go_ret
      exact ⟨_, rfl, hown, hb⟩
end Go.Proofs.YtmdcankfjmkkeaaGreat
/- A rumor: a fact, and how often it was sent; its cells. No program. -/
namespace Go.Proofs.YtmdcankfjmkkeaaGreat
open Go Go.RowKit
set_option linter.unusedVariables false

/-- A rumor. -/
structure RumV where
  node : Int
  inc : Int
  st : Int
  sent : Int
def RumV.fact (x : RumV) : FactV := ⟨x.node, x.inc, x.st⟩
def RumV.cells (d : RumV) : List Value := [.int .i64 d.node, .int .i64 d.inc, .int .i64 d.st, .int .i64 d.sent]
theorem RumV.cells_len (d : RumV) : d.cells.length = 4 := rfl
def RumV.val (d : RumV) : Value := .agg #[.int .i64 d.node, .int .i64 d.inc, .int .i64 d.st, .int .i64 d.sent]
theorem RumV.ext' {a b : RumV} (h1 : a.node = b.node) (h2 : a.inc = b.inc) (h3 : a.st = b.st) (h4 : a.sent = b.sent) : a = b := by
  cases a; cases b; simp_all
/-- A right rumor. -/
def RumV.ok (d : RumV) : Prop := d.fact.ok ∧ 0 ≤ d.sent ∧ d.sent ≤ 3
end Go.Proofs.YtmdcankfjmkkeaaGreat
/- Rumors, plain: right ones, what is put, what is picked, what is told once more. No program. -/
namespace Go.Proofs.YtmdcankfjmkkeaaGreat
open Go Go.RowKit
set_option linter.unusedVariables false

theorem snocRec {α : Type} {motive : List α → Prop} (nil : motive []) (append_singleton : ∀ l x, motive l → motive (l ++ [x])) (l : List α) : motive l := by
  have h : ∀ n (l : List α), l.length = n → motive l := by
    intro n
    induction n with
    | zero => intro l hl; rw [List.eq_nil_of_length_eq_zero hl]; exact nil
    | succ n ih =>
      intro l hl
      rcases List.eq_nil_or_concat l with e | ⟨m, x, e⟩
      · rw [e]; exact nil
      · rw [List.concat_eq_append] at e
        subst e
        exact append_singleton m x (ih m (by simpa using hl))
  exact h _ l rfl
/-- Right rumors. -/
def rightR (l : List RumV) : Prop := (∀ d ∈ l, d.ok) ∧ l.Pairwise fun a b => a.node ≠ b.node
theorem rightR_nil : rightR [] := ⟨fun d h => absurd h (by simp), List.Pairwise.nil⟩
theorem rightR_sub {l m : List RumV} (h : rightR l) (s : List.Sublist m l) : rightR m := ⟨fun d hd => h.1 d (s.subset hd), h.2.sublist s⟩
theorem rightR_take {l : List RumV} (h : rightR l) (k : Nat) : rightR (l.take k) := rightR_sub h (List.take_sublist k l)
theorem pair_snoc {l : List RumV} {x : RumV} : (l ++ [x]).Pairwise (fun a b => a.node ≠ b.node) ↔ l.Pairwise (fun a b => a.node ≠ b.node) ∧ ∀ y ∈ l, y.node ≠ x.node := by
  rw [List.pairwise_append]
  constructor
  · rintro ⟨h1, _, h3⟩
    exact ⟨h1, fun y hy => h3 y hy x (by simp)⟩
  · rintro ⟨h1, h2⟩
    exact ⟨h1, List.pairwise_singleton _ _, fun y hy z hz => by rw [List.mem_singleton.1 hz]; exact h2 y hy⟩
theorem rightR_snoc {l : List RumV} {x : RumV} : rightR (l ++ [x]) ↔ rightR l ∧ x.ok ∧ ∀ y ∈ l, y.node ≠ x.node := by
  unfold rightR
  rw [pair_snoc]
  constructor
  · rintro ⟨h1, h2, h3⟩
    exact ⟨⟨fun d hd => h1 d (by simp [hd]), h2⟩, h1 x (by simp), h3⟩
  · rintro ⟨⟨h1, h2⟩, h3, h4⟩
    refine ⟨fun d hd => ?_, h2, h4⟩
    rcases List.mem_append.1 hd with h | h
    · exact h1 d h
    · rw [List.mem_singleton.1 h]; exact h3
theorem rightR_step {l : List RumV} {k : Nat} (hk : k < l.length) : rightR (l.take (k + 1)) ↔ rightR (l.take k) ∧ l[k].ok ∧ ∀ y ∈ l.take k, y.node ≠ l[k].node := by
  rw [List.take_succ_eq_append_getElem hk, rightR_snoc]
theorem few_distinct (n : Nat) (l : List Int) (h1 : l.Pairwise (· ≠ ·)) (h2 : ∀ x ∈ l, 1 ≤ x ∧ x ≤ n) : l.length ≤ n := by
  induction n generalizing l with
  | zero =>
    cases l with
    | nil => simp
    | cons x r => have := h2 x (by simp); omega
  | succ n ih =>
    have hf : ∀ (a : Int) (l : List Int), l.Pairwise (· ≠ ·) → l.length ≤ (l.filter (fun x => decide (x ≠ a))).length + 1 := by
      intro a l
      induction l with
      | nil => intro _; simp
      | cons x r ihr =>
        intro hp
        obtain ⟨hx, hr⟩ := List.pairwise_cons.1 hp
        by_cases e : x = a
        · have : r.filter (fun x => decide (x ≠ a)) = r := List.filter_eq_self.2 fun y hy => decide_eq_true (fun q => hx y hy (e.trans q.symm))
          rw [List.filter_cons_of_neg (by simp [e]), this]
          simp
        · rw [List.filter_cons_of_pos (by simpa using e)]
          have := ihr hr
          simp only [List.length_cons]
          omega
    have h3 := hf ((n + 1 : Nat) : Int) l h1
    have h4 := ih (l.filter (fun x => decide (x ≠ ((n + 1 : Nat) : Int)))) (h1.sublist List.filter_sublist) (fun x hx => by
      obtain ⟨q1, q2⟩ := List.mem_filter.1 hx
      have q3 := of_decide_eq_true q2
      have := h2 x q1
      omega)
    omega
theorem rightR_len {l : List RumV} (h : rightR l) : l.length ≤ 6 := by
  have := few_distinct 6 (l.map RumV.node) (List.pairwise_map.2 h.2) (fun x hx => by
    obtain ⟨d, hd, rfl⟩ := List.mem_map.1 hx
    exact (h.1 d hd).1.1)
  simpa using this
/-- All but those of a node. -/
def butR (l : List RumV) (n : Int) : List RumV := l.filter fun x => decide (x.node ≠ n)
theorem butR_snoc_no {l : List RumV} {x : RumV} {n : Int} (h : x.node = n) : butR (l ++ [x]) n = butR l n := by
  unfold butR; rw [List.filter_append]; simp [h]
theorem butR_snoc_yes {l : List RumV} {x : RumV} {n : Int} (h : x.node ≠ n) : butR (l ++ [x]) n = butR l n ++ [x] := by
  unfold butR; rw [List.filter_append]; simp [h]
theorem butR_sub (l : List RumV) (n : Int) : List.Sublist (butR l n) l := List.filter_sublist
theorem butR_right {l : List RumV} (h : rightR l) (n : Int) : rightR (butR l n) := rightR_sub h (butR_sub l n)
theorem butR_mem {l : List RumV} {n : Int} {x : RumV} : x ∈ butR l n ↔ x ∈ l ∧ x.node ≠ n := by
  unfold butR; rw [List.mem_filter]; simp
/-- What is put. -/
def FactV.rum (f : FactV) : RumV := ⟨f.node, f.inc, f.st, 0⟩
def putR (l : List RumV) (f : FactV) : List RumV := butR l f.node ++ [f.rum]
theorem putR_right {l : List RumV} {f : FactV} (h : rightR l) (hf : f.ok) : rightR (putR l f) :=
  rightR_snoc.2 ⟨butR_right h _, ⟨hf, by show (0 : Int) ≤ 0; omega, by show (0 : Int) ≤ 3; omega⟩, fun y hy => (butR_mem.1 hy).2⟩
/-- The one of the least Sent, the first such. -/
def leastS (b : Option RumV) (x : RumV) : Option RumV := match b with | none => some x | some y => if x.sent < y.sent then some x else some y
def leastR (l : List RumV) : Option RumV := l.foldl leastS none
theorem leastR_snoc (l : List RumV) (x : RumV) : leastR (l ++ [x]) = leastS (leastR l) x := by unfold leastR; rw [List.foldl_append]; rfl
theorem leastS_some (b : Option RumV) (x : RumV) : ∃ y, leastS b x = some y := by
  cases b with
  | none => exact ⟨x, rfl⟩
  | some y => unfold leastS; by_cases h : x.sent < y.sent <;> simp [h]
theorem leastR_none {l : List RumV} : leastR l = none ↔ l = [] := by
  constructor
  · intro h
    rcases List.eq_nil_or_concat l with e | ⟨m, x, e⟩
    · exact e
    · rw [List.concat_eq_append] at e
      rw [e, leastR_snoc] at h
      obtain ⟨y, hy⟩ := leastS_some (leastR m) x
      rw [hy] at h; cases h
  · rintro rfl; rfl
theorem leastR_mem {l : List RumV} {x : RumV} (h : leastR l = some x) : x ∈ l ∧ ∀ y ∈ l, x.sent ≤ y.sent := by
  induction l using snocRec generalizing x with
  | nil => cases h
  | append_singleton l y ih =>
    rw [leastR_snoc] at h
    cases hl : leastR l with
    | none =>
      rw [hl] at h
      obtain rfl := Option.some.inj h
      obtain rfl := leastR_none.1 hl
      simp
    | some z =>
      rw [hl] at h
      obtain ⟨h1, h2⟩ := ih hl
      unfold leastS at h
      simp only at h
      split at h
      · obtain rfl := Option.some.inj h
        refine ⟨by simp, fun q hq => ?_⟩
        rcases List.mem_append.1 hq with k | k
        · have := h2 q k; omega
        · rw [List.mem_singleton.1 k]; omega
      · obtain rfl := Option.some.inj h
        refine ⟨by simp [h1], fun q hq => ?_⟩
        rcases List.mem_append.1 hq with k | k
        · exact h2 q k
        · rw [List.mem_singleton.1 k]; omega
/-- Those that are picked, in that order. -/
def picksR : Nat → List RumV → List RumV
  | 0, _ => []
  | n + 1, c => match leastR c with | none => [] | some x => x :: picksR n (butR c x.node)
/-- What is told once more. -/
def toldS (P : List RumV) (x : RumV) : Option RumV := if x.node ∈ P.map RumV.node then (if x.sent = 3 then none else some ⟨x.node, x.inc, x.st, x.sent + 1⟩) else some x
def toldR (l P : List RumV) : List RumV := l.filterMap (toldS P)
/-- Where a fact comes. -/
def placeN : List FactV → Int → Nat
  | [], _ => 0
  | x :: r, n => if x.node < n then placeN r n + 1 else 0
theorem placeN_is {l : List FactV} (hr : riseV l) (n : Int) : placeF l n (placeN l n) := by
  induction l with
  | nil => exact ⟨Nat.le_refl _, fun j h => absurd h (by simp), fun j h => absurd h (by simp)⟩
  | cons x r ih =>
    obtain ⟨hx, hr'⟩ := List.pairwise_cons.1 hr
    unfold placeN
    by_cases hn : x.node < n
    · rw [if_pos hn]
      obtain ⟨h1, h2, h3⟩ := ih hr'
      refine ⟨by simp; omega, fun j hj hjk => ?_, fun j hj hjk => ?_⟩
      · cases j with
        | zero => exact hn
        | succ j => simpa using h2 j (by simpa using hj) (by omega)
      · cases j with
        | zero => omega
        | succ j => simpa using h3 j (by simpa using hj) (by omega)
    · rw [if_neg hn]
      refine ⟨Nat.zero_le _, fun j _ h => by omega, fun j hj _ => ?_⟩
      cases j with
      | zero => simp; omega
      | succ j =>
        have := hx (r[j]'(by simpa using hj)) (List.getElem_mem _)
        simp only [List.getElem_cons_succ]
        omega
def addF (m : List FactV) (f : FactV) : List FactV := putL m f (placeN m f.node)
/-- The facts of those that are picked. -/
def factsR (P : List RumV) : List FactV := P.foldl (fun m x => addF m x.fact) []
theorem factsR_snoc (P : List RumV) (x : RumV) : factsR (P ++ [x]) = addF (factsR P) x.fact := by unfold factsR; rw [List.foldl_append]; rfl
theorem factsR_right {P : List RumV} (h : ∀ d ∈ P, d.fact.ok) : rightV (factsR P) := by
  induction P using snocRec with
  | nil => exact rightV_nil
  | append_singleton l y ih =>
    rw [factsR_snoc]
    have h0 := ih (fun d hd => h d (by simp [hd]))
    exact put_right h0 (h y (by simp)) (placeN_is (rightV_rise h0) _)
theorem factsR_look {P : List RumV} (h : ∀ d ∈ P, d.fact.ok) (hp : P.Pairwise fun a b => a.node ≠ b.node) (n : Int) : look (factsR P) n = (P.find? fun x => x.node == n).map RumV.fact := by
  induction P using snocRec with
  | nil => rfl
  | append_singleton l y ih =>
    obtain ⟨p1, p2⟩ := pair_snoc.1 hp
    have h0 : ∀ d ∈ l, d.fact.ok := fun d hd => h d (by simp [hd])
    have hr := rightV_rise (factsR_right h0)
    rw [factsR_snoc, List.find?_append]
    unfold addF
    rw [put_look hr (placeN_is hr _), ih h0 p1]
    by_cases c : n = y.node
    · have hn : (l.find? fun x => x.node == n) = none := List.find?_eq_none.2 fun x hx => by have := p2 x hx; simp; omega
      rw [hn, if_pos (show n = y.fact.node from c)]
      have : [y].find? (fun x => x.node == n) = some y := by rw [List.find?_cons_of_pos (by simp [c])]
      rw [this]; rfl
    · rw [if_neg (show ¬ n = y.fact.node from c)]
      have : [y].find? (fun x => x.node == n) = none := by rw [List.find?_cons_of_neg (by simp; omega)]; rfl
      rw [this, Option.or_none]
theorem picksR_mem {n : Nat} {c : List RumV} : ∀ x ∈ picksR n c, x ∈ c := by
  induction n generalizing c with
  | zero => intro x hx; simp [picksR] at hx
  | succ n ih =>
    intro x hx
    unfold picksR at hx
    cases hl : leastR c with
    | none => rw [hl] at hx; simp at hx
    | some y =>
      rw [hl] at hx
      rcases List.mem_cons.1 hx with rfl | h
      · exact (leastR_mem hl).1
      · exact (butR_mem.1 (ih x h)).1
theorem picksR_pair {n : Nat} {c : List RumV} : (picksR n c).Pairwise fun a b => a.node ≠ b.node := by
  induction n generalizing c with
  | zero => exact List.Pairwise.nil
  | succ n ih =>
    unfold picksR
    cases hl : leastR c with
    | none => exact List.Pairwise.nil
    | some y =>
      refine List.pairwise_cons.2 ⟨fun x hx => ?_, ih⟩
      exact fun e => (butR_mem.1 (picksR_mem x hx)).2 e.symm
theorem picksR_right {n : Nat} {c : List RumV} (h : rightR c) : rightR (picksR n c) := ⟨fun d hd => h.1 d (picksR_mem d hd), picksR_pair⟩
theorem picksR_len (n : Nat) (c : List RumV) : (picksR n c).length ≤ n := by
  induction n generalizing c with
  | zero => simp [picksR]
  | succ n ih =>
    unfold picksR
    cases hl : leastR c with
    | none => simp
    | some y => simpa using ih (butR c y.node)
theorem toldR_len (l P : List RumV) : (toldR l P).length ≤ l.length := List.length_filterMap_le _ _
theorem toldS_node {P : List RumV} {x y : RumV} (h : toldS P x = some y) : y.fact = x.fact ∧ (x.ok → y.ok) := by
  unfold toldS at h
  split at h
  · split at h
    · cases h
    · obtain rfl := Option.some.inj h
      refine ⟨rfl, fun ho => ⟨ho.1, by have := ho.2; show 0 ≤ x.sent + 1; omega, by have := ho.2; show x.sent + 1 ≤ 3; omega⟩⟩
  · obtain rfl := Option.some.inj h
    exact ⟨rfl, id⟩
theorem toldR_right {l P : List RumV} (h : rightR l) : rightR (toldR l P) := by
  refine ⟨fun d hd => ?_, ?_⟩
  · obtain ⟨x, hx, he⟩ := List.mem_filterMap.1 hd
    exact (toldS_node he).2 (h.1 x hx)
  · refine List.pairwise_filterMap.2 (h.2.imp fun {a b} hab x hx y hy => ?_)
    have e1 := congrArg FactV.node (toldS_node hx).1
    have e2 := congrArg FactV.node (toldS_node hy).1
    exact fun e => hab (e1.symm.trans (e.trans e2))
end Go.Proofs.YtmdcankfjmkkeaaGreat
