/- Nodes, plain: when one is right, and what it does. No program of its own. -/
import Derived.Test.YtmdcankfjmkkeaaGreatVAt
import Derived.Test.YtmdcankfjmkkeaaGreatG11
import Derived.Test.YtmdcankfjmkkeaaGreatG17
import Derived.Test.YtmdcankfjmkkeaaGreatG21
import Derived.Test.YtmdcankfjmkkeaaGreatG3
import Derived.Test.YtmdcankfjmkkeaaGreatG13
namespace Go.Proofs.YtmdcankfjmkkeaaGreat
open Go Go.RowKit
set_option linter.unusedVariables false

/-- A doubt lies in memory as a fact does: its due time stands where a fact's status stands. One in its place: -/
def okDb (l : List FactV) (id : Int) (i : Nat) : Prop := ∃ h : i < l.length, (nodeR l[i].node ∧ l[i].node ≠ id ∧ timeR l[i].inc ∧ timeR l[i].st) ∧ ∀ k : 0 < i, (l[i - 1]'(by omega)).node < l[i].node
def doubtsR (l : List FactV) (id : Int) : Prop := l.length ≤ 6 ∧ ∀ i, i < l.length → okDb l id i
/-- Whom a node asks. -/
structure ProbeV where
  node : Int
  num : Int
  due : Int
  asked : Bool
def ProbeV.z : ProbeV := ⟨0, 0, 0, false⟩
structure NodeV where
  id : Int
  inc : Int
  num : Int
  seed : Int
  next : Int
  view : List FactV
  rum : List RumV
  tl : List Int
  at0 : Int
  pb : ProbeV
  db : List FactV
def seedR (n : Int) : Prop := 0 ≤ n ∧ n ≤ 2147483647
/-- Its own fact is there, of its life, and not doubted. -/
def NodeV.ownOk (n : NodeV) : Prop := (atF n.view n.id).node ≠ 0 ∧ (atF n.view n.id).inc = n.inc ∧ (atF n.view n.id).st ≠ 2
def NodeV.probeOk (n : NodeV) : Prop := n.pb = .z ∨ (nodeR n.pb.node ∧ n.pb.node ≠ n.id ∧ timeR n.pb.num ∧ timeR n.pb.due)
def NodeV.partsOk (n : NodeV) : Prop := nodeR n.id ∧ timeR n.inc ∧ timeR n.num ∧ timeR n.next ∧ seedR n.seed ∧ rightV n.view ∧ rightR n.rum ∧ TurnV.ok ⟨n.tl, n.at0⟩ ∧ doubtsR n.db n.id
def NodeV.ok (n : NodeV) : Prop := n.partsOk ∧ n.ownOk ∧ n.probeOk
/-- When it is to wake. -/
def NodeV.first (n : NodeV) : Int := if 0 < n.pb.node ∧ n.pb.due < n.next then n.pb.due else n.next
def minD (a : Int) (l : List FactV) : Int := l.foldl (fun a d => if d.st < a then d.st else a) a
def NodeV.wakeAt (n : NodeV) : Int := minD n.first n.db
theorem minD_step (a : Int) {l : List FactV} {k : Nat} (hk : k < l.length) : minD a (l.take (k + 1)) = if l[k].st < minD a (l.take k) then l[k].st else minD a (l.take k) := by
  unfold minD
  rw [List.take_succ_eq_append_getElem hk, List.foldl_append]
  rfl
theorem doubts_take {l : List FactV} {id : Int} {k : Nat} : (∀ i, i < k → okDb l id i) ∧ okDb l id k ↔ ∀ i, i < k + 1 → okDb l id i := by
  constructor
  · rintro ⟨h1, h2⟩ i hi
    by_cases e : i = k
    · rw [e]; exact h2
    · exact h1 i (by omega)
  · intro h
    exact ⟨fun i hi => h i (by omega), h k (by omega)⟩
/-- An answer of a node. -/
structure NOutV where
  node : NodeV
  mails : List MailV
  missed : Int
  code : Int
def NodeV.z : NodeV := ⟨0, 0, 0, 0, 0, [], [], [], 0, .z, []⟩
def illN (c : Int) : NOutV := ⟨.z, [], 0, c⟩
def newN (id inc seed now : Int) : NodeV := ⟨id, inc, 0, seed, now, [⟨id, inc, 1⟩], [⟨id, inc, 1, 0⟩], [], 0, .z, []⟩
def goneN (n : NodeV) : Prop := (atF n.view n.id).st = 3
/-- A doubt goes; a doubt is put. -/
def undoubtD (l : List FactV) (node : Int) : List FactV := l.filter fun d => decide (d.node ≠ node)
def placeD : List FactV → Int → Nat
  | [], _ => 0
  | x :: r, n => if x.node < n then placeD r n + 1 else 0
def doubtD (l : List FactV) (d : FactV) : List FactV := l.take (placeD l d.node) ++ d :: l.drop (placeD l d.node)
/-- What is learned. -/
def learnOwn (n : NodeV) (f : FactV) : NodeV := { n with inc := f.inc + 1, view := addF n.view ⟨n.id, f.inc + 1, 1⟩, rum := putR n.rum ⟨n.id, f.inc + 1, 1⟩ }
def learnOther (n : NodeV) (f : FactV) (now : Int) : NodeV := { n with view := addF n.view f, rum := putR n.rum f, db := if f.st = 2 then doubtD (undoubtD n.db f.node) ⟨f.node, f.inc, now + 12⟩ else undoubtD n.db f.node }
def newsN (n : NodeV) (f : FactV) : Prop := newsAt n.view f (placeN n.view f.node)
def deafN (n : NodeV) (f : FactV) : Prop := f.st = 1 ∨ f.inc < n.inc ∨ goneN n ∨ 1000000 ≤ f.inc
def LearnIs (n : NodeV) (f : FactV) (now : Int) (m : NodeV) : Prop :=
  (f.node = n.id ∧ deafN n f ∧ m = n) ∨ (f.node = n.id ∧ ¬ deafN n f ∧ m = learnOwn n f) ∨ (f.node ≠ n.id ∧ ¬ newsN n f ∧ m = n) ∨ (f.node ≠ n.id ∧ newsN n f ∧ m = learnOther n f now)
theorem learn_ex (n : NodeV) (f : FactV) (now : Int) : ∃ m, LearnIs n f now m := by
  by_cases h : f.node = n.id
  · by_cases h2 : deafN n f
    · exact ⟨_, .inl ⟨h, h2, rfl⟩⟩
    · exact ⟨_, .inr (.inl ⟨h, h2, rfl⟩)⟩
  · by_cases h2 : newsN n f
    · exact ⟨_, .inr (.inr (.inr ⟨h, h2, rfl⟩))⟩
    · exact ⟨_, .inr (.inr (.inl ⟨h, h2, rfl⟩))⟩
def LearnAll (n : NodeV) : List FactV → Int → NodeV → Prop
  | [], _, m => m = n
  | f :: r, now, m => ∃ k, LearnIs n f now k ∧ LearnAll k r now m
/-- What is told with a mail. -/
def tellN (n : NodeV) (m : MailV) : NodeV × MailV := ({ n with rum := toldR n.rum (pickedR n.rum m.dst) }, { m with facts := factsR (pickedR n.rum m.dst) })
def othersN (n : NodeV) (but : Int) : List Int := dropL (dropL (goneL n.view) n.id) but
end Go.Proofs.YtmdcankfjmkkeaaGreat
/- The contracts of the exact laws' helpers over doubts: copy, compare, measure. -/
namespace Go.Proofs.YtmdcankfjmkkeaaGreat
open Go Go.RowKit
set_option linter.unusedVariables false

theorem Tryz.infoDoubt : (Tryz.prog.info? 112).map (fun i => (i.zero, i.size, i.bytes)) = some (some (.agg #[.int .i64 0, .int .i64 0, .int .i64 0]), 3, 24) := by kernel_rfl
theorem toDoubt_any (d : FactV) (w : World) : Calls Tryz.prog 168 #[d.val] w fun e w' => e = .returned d.val ∧ Below w.heap.size w w' := by
  unfold FactV.val
  go_enter Tryz.func168, Tryz.ntmps168
  go_wp2
  exact bodyPost_ret (v := .agg #[.int .i64 d.node, .int .i64 d.inc, .int .i64 d.st]) (by simp [results, Tryz.results168, go_sem]) rfl ⟨rfl, (((Below.refl _ _).alloc (Nat.le_refl _) _).alloc (by simp) _).alloc (by simp; omega) _⟩
set_option maxHeartbeats 1000000 in
set_option maxRecDepth 100000 in
theorem eqDoubt_same (d : FactV) (w : World) : Calls Tryz.prog 172 #[d.val, d.val] w fun r w' => r = .returned (.bool true) ∧ Below w.heap.size w w' := by
  unfold FactV.val
  go_enter Tryz.func172, Tryz.ntmps172
  go_wp2
  go_ret
  exact ⟨rfl, ((Below.refl _ _).alloc (Nat.le_refl _) _).alloc (by simp) _⟩
set_option maxHeartbeats 1000000 in
set_option maxRecDepth 100000 in
theorem toDoubts_any (a : Option Addr) (cap : Nat) (l : List FactV) (w : World) (hl : l.length ≤ 1048576) (hrow : CellRow w a (cellsOf FactV.cells l)) :
    Calls Tryz.prog 108 #[.slice a l.length cap] w fun e w' => e = .returned (.slice (some ⟨w.heap.size, 0, none⟩) l.length l.length) ∧ OwnCells w' w.heap.size (some ⟨w.heap.size, 0, none⟩) (cellsOf FactV.cells l) ∧ Below w.heap.size w w' := by
  obtain ⟨i0, hi0, hz⟩ := Option.map_eq_some_iff.1 Tryz.infoDoubt
  simp only [Prod.mk.injEq] at hz
  obtain ⟨wm, hmk, hown, hgr⟩ := run_make_full (P := Tryz.prog) w w.heap.size 30 112 i0 _ 3 Tryz.underlying30 hi0 hz.1 hz.2.1 .i64 .i64 l.length (by rw [hz.2.2]; omega) (by unfold maxLen; omega) (Nat.le_refl _)
  obtain ⟨Z, hZ⟩ : ∃ Z : List Value, Z.length = l.length * 3 ∧ OwnCells wm w.heap.size (some ⟨w.heap.size, 0, none⟩) Z := by
    refine ⟨_, hown.1, ?_⟩
    by_cases h0 : l.length = 0
    · exact .inl (List.eq_nil_of_length_eq_zero (by rw [hown.1, h0]))
    · exact .inr ⟨w.heap.size, 0, rfl, Nat.le_refl _, (hown.lt _ rfl).2, fun i hi => by rw [Nat.zero_add, hown.cellAt i (by rw [hown.1] at hi; exact hi), List.getElem?_eq_getElem hi], fun i _ => hown.frozenAt _⟩
  have hZl := hZ.1
  have hZo := hZ.2
  have hb0 : Below w.heap.size w wm := (Below.refl _ _).grown hgr (Nat.le_refl _) (fun k e => by cases e)
  clear hown hgr hZ
  go_enter Tryz.func108, Tryz.ntmps108
  go_wp2
  go_loopw [4] (fun i wr => ∃ k : Nat, k ≤ l.length ∧ i = .int .i64 k ∧ OwnCells wr w.heap.size (some ⟨w.heap.size, 0, none⟩) (cellsOf FactV.cells (l.take k) ++ Z.drop (k * 3)) ∧ Below w.heap.size w wr) (fun i _ => l.length - (intOf i).toNat)
  case atStart => exact ⟨0, Nat.zero_le _, rfl, by simpa [cellsOf] using hZo, hb0⟩
  case round =>
    obtain ⟨k, hk, rfl, ho, hb⟩ := hrel
    clear hmk hb0 hZo
    by_cases hx : k < l.length
    · obtain ⟨b, off, rfl⟩ := hrow.addr (by rw [cellsOf_length FactV.cells_len]; omega)
      have hrow2 := hrow.keep hb
      obtain ⟨x1, x2, x3, hlx⟩ : ∃ x1 x2 x3, l[k] = ⟨x1, x2, x3⟩ := ⟨_, _, _, rfl⟩
      have q0 := hrow2.thing0 FactV.cells_len (i := k) (v := .int .i64 x1) hx (by omega) (by rw [hlx]; rfl)
      have q1 := hrow2.thingj FactV.cells_len (i := k) (j := 1) (v := .int .i64 x2) hx (by omega) (by rw [hlx]; rfl)
      have q2 := hrow2.thingj FactV.cells_len (i := k) (j := 2) (v := .int .i64 x3) hx (by omega) (by rw [hlx]; rfl)
      have hTl : (cellsOf FactV.cells (l.take k) ++ Z.drop (k * 3)).length = l.length * 3 := by
        rw [List.length_append, cellsOf_length FactV.cells_len, List.length_take, List.length_drop, Nat.min_eq_left hk, hZl]; omega
      have HT : Hid ((((cellsOf FactV.cells (l.take k) ++ Z.drop (k * 3)).set (k * 3) (.int .i64 x1)).set (k * 3 + 1) (.int .i64 x2)).set (k * 3 + 2) (.int .i64 x3) = cellsOf FactV.cells (l.take (k + 1)) ++ Z.drop ((k + 1) * 3)) := by
        show _ = _
        have hd : Z.drop (k * 3) = Z[k * 3]'(by omega) :: Z[k * 3 + 1]'(by omega) :: Z[k * 3 + 2]'(by omega) :: Z.drop ((k + 1) * 3) := by
          rw [List.drop_eq_getElem_cons (by omega), List.drop_eq_getElem_cons (by omega), List.drop_eq_getElem_cons (by omega), show (k + 1) * 3 = k * 3 + 1 + 1 + 1 by omega]
        rw [hd, set_three (by rw [cellsOf_length FactV.cells_len, List.length_take, Nat.min_eq_left hk]), List.take_succ_eq_append_getElem hx, cellsOf_append, hlx, List.append_assoc]
        rfl
      go_wp2_with fail
      refine (toDoubt_any ⟨x1, x2, x3⟩ _).mono ?_
      rintro e y1 ⟨rfl, by1⟩
      unfold FactV.val
      have ho1 := ho.keep by1
      obtain ⟨c0, f0⟩ := ho1.at0 (n := k * 3) (by omega)
      obtain ⟨c1, f1⟩ := ho1.at0 (n := k * 3 + 1) (by omega)
      obtain ⟨c2, f2⟩ := ho1.at0 (n := k * 3 + 2) (by omega)
      obtain ⟨t0, ht0⟩ : ∃ t, (cellsOf FactV.cells (l.take k) ++ Z.drop (k * 3))[k * 3]'(by omega) = t := ⟨_, rfl⟩
      obtain ⟨t1, ht1⟩ : ∃ t, (cellsOf FactV.cells (l.take k) ++ Z.drop (k * 3))[k * 3 + 1]'(by omega) = t := ⟨_, rfl⟩
      obtain ⟨t2, ht2⟩ : ∃ t, (cellsOf FactV.cells (l.take k) ++ Z.drop (k * 3))[k * 3 + 2]'(by omega) = t := ⟨_, rfl⟩
      rw [ht0] at c0
      rw [ht1] at c1
      rw [ht2] at c2
      have HO : Hid (OwnCells (((y1.setCell ⟨w.heap.size, k * 3, none⟩ (.int .i64 x1)).setCell ⟨w.heap.size, k * 3 + 1, none⟩ (.int .i64 x2)).setCell ⟨w.heap.size, k * 3 + 2, none⟩ (.int .i64 x3)) w.heap.size (some ⟨w.heap.size, 0, none⟩) (cellsOf FactV.cells (l.take (k + 1)) ++ Z.drop ((k + 1) * 3))) := by
        have h := ((ho1.put0 (n := k * 3) (.int .i64 x1) (by omega)).put0 (n := k * 3 + 1) (.int .i64 x2) (by simp only [List.length_set]; omega)).put0 (n := k * 3 + 2) (.int .i64 x3) (by simp only [List.length_set]; omega)
        rw [HT.out] at h
        exact h
      have hb1 := hb.trans (by1.mono hb.size)
      have HB : Hid (Below w.heap.size w (((y1.setCell ⟨w.heap.size, k * 3, none⟩ (.int .i64 x1)).setCell ⟨w.heap.size, k * 3 + 1, none⟩ (.int .i64 x2)).setCell ⟨w.heap.size, k * 3 + 2, none⟩ (.int .i64 x3))) := ((hb1.setCell (Nat.le_refl _) _).setCell (Nat.le_refl _) _).setCell (Nat.le_refl _) _
      clear ho ho1 hb hb1 by1 HT hTl ht0 ht1 ht2 q0 q1 q2 hrow2 hlx
      have hx' : (k : Int) < (l.length : Int) := by omega
      go_wp2
      go_roundw
      case rel => exact ⟨k + 1, by omega, by go_num, HO.out, HB.out⟩
      case measure => simp [intOf]; omega
    · obtain rfl : k = l.length := by omega
      rw [List.take_length, List.drop_eq_nil_of_le (by omega), List.append_nil] at ho
      go_wp2
      go_ret
      exact ⟨rfl, ho, hb⟩
set_option maxHeartbeats 1000000 in
set_option maxRecDepth 100000 in
theorem eqDoubts_same (a1 : Option Addr) (c1 : Nat) (a2 : Option Addr) (c2 : Nat) (l : List FactV) (w : World) (hl : l.length ≤ 1048576) (h1 : CellRow w a1 (cellsOf FactV.cells l)) (h2 : CellRow w a2 (cellsOf FactV.cells l)) :
    Calls Tryz.prog 114 #[.slice a1 l.length c1, .slice a2 l.length c2] w fun e w' => e = .returned (.bool true) ∧ Below w.heap.size w w' := by
  go_enter Tryz.func114, Tryz.ntmps114
  go_wp2
  go_loopw [5] (fun i wr => ∃ k : Nat, k ≤ l.length ∧ i = .int .i64 k ∧ Below w.heap.size w wr) (fun i _ => l.length - (intOf i).toNat)
  case atStart => exact ⟨0, Nat.zero_le _, rfl, Below.refl _ _⟩
  case round =>
    obtain ⟨k, hk, rfl, hb⟩ := hrel
    by_cases hx : k < l.length
    · obtain ⟨b1, o1, rfl⟩ := h1.addr (by rw [cellsOf_length FactV.cells_len]; omega)
      obtain ⟨b2, o2, rfl⟩ := h2.addr (by rw [cellsOf_length FactV.cells_len]; omega)
      have r1 := h1.keep hb
      have r2 := h2.keep hb
      obtain ⟨x1, x2, x3, hlx⟩ : ∃ x1 x2 x3, l[k] = ⟨x1, x2, x3⟩ := ⟨_, _, _, rfl⟩
      have q0 := r1.thing0 FactV.cells_len (i := k) (v := .int .i64 x1) hx (by omega) (by rw [hlx]; rfl)
      have q1 := r1.thingj FactV.cells_len (i := k) (j := 1) (v := .int .i64 x2) hx (by omega) (by rw [hlx]; rfl)
      have q2 := r1.thingj FactV.cells_len (i := k) (j := 2) (v := .int .i64 x3) hx (by omega) (by rw [hlx]; rfl)
      have p0 := r2.thing0 FactV.cells_len (i := k) (v := .int .i64 x1) hx (by omega) (by rw [hlx]; rfl)
      have p1 := r2.thingj FactV.cells_len (i := k) (j := 1) (v := .int .i64 x2) hx (by omega) (by rw [hlx]; rfl)
      have p2 := r2.thingj FactV.cells_len (i := k) (j := 2) (v := .int .i64 x3) hx (by omega) (by rw [hlx]; rfl)
      have hx' : (k : Int) < (l.length : Int) := by omega
      clear r1 r2 hlx
      go_wp2
      go_region_with (go_at_call 172; refine (eqDoubt_same ⟨x1, x2, x3⟩ _).mono ?_; rintro e y1 ⟨rfl, by1⟩)
      all_goals
        have hb1 := hb.drew.trans (by1.mono hb.size)
        go_wp2
        go_roundw
        case rel => exact ⟨k + 1, by omega, by go_num, hb1⟩
        case measure => simp [intOf]; omega
    · obtain rfl : k = l.length := by omega
      go_wp2
      go_ret
      exact ⟨rfl, hb⟩
set_option maxRecDepth 100000 in
theorem szDoubts_any (a : Option Addr) (cap : Nat) (n : Nat) (left : Int) (w : World) (h0 : 0 ≤ left) (h1 : left ≤ 1048576) (hl : n ≤ 9223372036854775807) :
    Calls Tryz.prog 103 #[.slice a n cap, .int .i64 left] w fun e w' => e = .returned (.int .i64 (leftOf left n)) ∧ w = w' := by
  have hw : IntKind.i64.wrap (left - (n : Int)) = left - (n : Int) := by rw [IntKind.wrap_i64]; omega
  by_cases hx : left < (n : Int)
  · have HE : Hid (leftOf left n = -1) := if_pos hx
    have hx' : left - (n : Int) < 0 := by omega
    go_enter Tryz.func103, Tryz.ntmps103
    go_wp2
    go_ret
    exact ⟨by rw [HE.out]; rfl, rfl⟩
  · have HE : Hid (leftOf left n = left - (n : Int)) := if_neg hx
    have hx' : ¬ left - (n : Int) < 0 := by omega
    go_enter Tryz.func103, Tryz.ntmps103
    go_wp2
    go_ret
    exact ⟨by rw [HE.out]; rfl, rfl⟩
end Go.Proofs.YtmdcankfjmkkeaaGreat
/- The contracts of the exact laws' marks and holds of doubts. -/
namespace Go.Proofs.YtmdcankfjmkkeaaGreat
open Go Go.RowKit
set_option linter.unusedVariables false

set_option maxHeartbeats 1000000 in
set_option maxRecDepth 100000 in
theorem markDb_some (lo b cap : Nat) (l : List FactV) (k : Nat) (w : World) (hl : l.length ≤ 1048576) (hk0 : 0 < k) (hk : k ≤ 100000000) (ho : OwnCells w lo (some ⟨b, 0, none⟩) (cellsOf FactV.cells l)) :
    Calls Tryz.prog 118 #[.slice (some ⟨b, 0, none⟩) l.length cap, .int .i64 k] w fun e w' => e = .returned (.int .i64 (k + 3 * l.length : Nat)) ∧ OwnCells w' lo (some ⟨b, 0, none⟩) (cellsOf FactV.cells (markL l.length k)) ∧ Keeps (fun q => q ≠ b) w w' := by
  go_enter Tryz.func118, Tryz.ntmps118
  go_wp2
  go_loopw [5, 1] (fun i t wr => ∃ q : Nat, q ≤ l.length ∧ i = .int .i64 q ∧ t = .int .i64 (k + 3 * q : Nat) ∧ OwnCells wr lo (some ⟨b, 0, none⟩) (cellsOf FactV.cells (markL q k ++ l.drop q)) ∧ Keeps (fun q => q ≠ b) w wr) (fun i _ _ => l.length - (intOf i).toNat)
  case atStart => exact ⟨0, Nat.zero_le _, rfl, rfl, by simpa [markL] using ho, Keeps.refl _ _⟩
  case round =>
    obtain ⟨q, hq, rfl, rfl, hO, hK⟩ := hrel
    clear ho
    by_cases hx : q < l.length
    · have hTl : (cellsOf FactV.cells (markL q k ++ l.drop q)).length = l.length * 3 := by
        rw [cellsOf_length FactV.cells_len, List.length_append, markL_length, List.length_drop]; omega
      have HC := cellsOf_set (l := markL q k ++ l.drop q) (i := q) (by rw [List.length_append, markL_length, List.length_drop]; omega) (markOne (k + 3 * q))
      rw [mark_set hx] at HC
      have HCH : Hid (_ = _) := HC
      clear HC
      obtain ⟨c0, f0⟩ := hO.at0 (n := q * 3) (by omega)
      obtain ⟨c1, f1⟩ := hO.at0 (n := q * 3 + 1) (by omega)
      obtain ⟨c2, f2⟩ := hO.at0 (n := q * 3 + 2) (by omega)
      obtain ⟨t0, ht0⟩ : ∃ t, (cellsOf FactV.cells (markL q k ++ l.drop q))[q * 3]'(by omega) = t := ⟨_, rfl⟩
      obtain ⟨t1, ht1⟩ : ∃ t, (cellsOf FactV.cells (markL q k ++ l.drop q))[q * 3 + 1]'(by omega) = t := ⟨_, rfl⟩
      obtain ⟨t2, ht2⟩ : ∃ t, (cellsOf FactV.cells (markL q k ++ l.drop q))[q * 3 + 2]'(by omega) = t := ⟨_, rfl⟩
      rw [ht0] at c0
      rw [ht1] at c1
      rw [ht2] at c2
      clear ht0 ht1 ht2
      obtain ⟨K, hKe⟩ : ∃ K : Nat, k + 3 * q = K := ⟨_, rfl⟩
      have hK1 : K ≤ 200000000 := by omega
      have hK0 : 0 < K := by omega
      have hw1 : IntKind.i64.wrap ((K : Int) + 1) = (K : Int) + 1 := by rw [IntKind.wrap_i64]; omega
      have hw2 : IntKind.i64.wrap ((K : Int) + 1 + 1) = (K : Int) + 1 + 1 := by rw [IntKind.wrap_i64]; omega
      have hw3 : IntKind.i64.wrap ((K : Int) + 1 + 1 + 1) = (K : Int) + 1 + 1 + 1 := by rw [IntKind.wrap_i64]; omega
      rw [hKe]
      have HKE : Hid (k + 3 * q = K) := hKe
      clear hKe
      have h3 := ((hO.put0 (n := q * 3) (.int .i64 (K : Int)) (by omega)).put0 (n := q * 3 + 1) (.int .i64 ((K : Int) + 1)) (by simp only [List.length_set]; omega)).put0 (n := q * 3 + 2) (.int .i64 ((K : Int) + 1 + 1)) (by simp only [List.length_set]; omega)
      have K3 : Keeps (fun q => q ≠ b) w (((wr.setCell ⟨b, q * 3, none⟩ (.int .i64 (K : Int))).setCell ⟨b, q * 3 + 1, none⟩ (.int .i64 ((K : Int) + 1))).setCell ⟨b, q * 3 + 2, none⟩ (.int .i64 ((K : Int) + 1 + 1))) := ((hK.setCell (fun h => h rfl) _).setCell (fun h => h rfl) _).setCell (fun h => h rfl) _
      have HO5 : Hid (OwnCells (((wr.setCell ⟨b, q * 3, none⟩ (.int .i64 (K : Int))).setCell ⟨b, q * 3 + 1, none⟩ (.int .i64 ((K : Int) + 1))).setCell ⟨b, q * 3 + 2, none⟩ (.int .i64 ((K : Int) + 1 + 1))) lo (some ⟨b, 0, none⟩) (cellsOf FactV.cells (markL (q + 1) k ++ l.drop (q + 1)))) := by
        show OwnCells _ _ _ _
        have e := HCH.out
        rw [HKE.out] at e
        rw [e]
        exact h3
      have HK5 : Hid (Keeps (fun q => q ≠ b) w (((wr.setCell ⟨b, q * 3, none⟩ (.int .i64 (K : Int))).setCell ⟨b, q * 3 + 1, none⟩ (.int .i64 ((K : Int) + 1))).setCell ⟨b, q * 3 + 2, none⟩ (.int .i64 ((K : Int) + 1 + 1)))) := K3
      have hxI : (q : Int) < (l.length : Int) := by omega
      clear hO hK h3 K3 HCH
      go_wp2
      go_roundw
      case rel => exact ⟨q + 1, by omega, by go_num, congrArg (Value.int .i64) (by have := HKE.out; omega), HO5.out, HK5.out⟩
      case measure => simp [intOf]; omega
    · obtain rfl : q = l.length := by omega
      rw [List.drop_length, List.append_nil] at hO
      go_wp2
      go_ret
      exact ⟨rfl, hO, hK⟩
set_option maxHeartbeats 1000000 in
set_option maxRecDepth 100000 in
theorem heldDb_any (a : Option Addr) (n cap k : Nat) (w : World) (hl : n ≤ 1048576) (hk0 : 0 < k) (hk : k ≤ 100000000) (hrow : CellRow w a (cellsOf FactV.cells (markL n k))) :
    Calls Tryz.prog 177 #[.slice a n cap, .int .i64 k] w fun e w' => e = .returned (.int .i64 (k + 3 * n : Nat)) ∧ Below w.heap.size w w' := by
  go_enter Tryz.func177, Tryz.ntmps177
  go_wp2
  go_loopw [5, 1] (fun i t wr => ∃ q : Nat, q ≤ n ∧ i = .int .i64 q ∧ t = .int .i64 (k + 3 * q : Nat) ∧ Below w.heap.size w wr) (fun i _ _ => n - (intOf i).toNat)
  case atStart => exact ⟨0, Nat.zero_le _, rfl, rfl, Below.refl _ _⟩
  case round =>
    obtain ⟨q, hq, rfl, rfl, hb⟩ := hrel
    by_cases hx : q < n
    · obtain ⟨b, off, rfl⟩ := hrow.addr (by rw [cellsOf_length FactV.cells_len, markL_length]; omega)
      have dm := (hrow.keep hb).fact (i := q) (by rw [markL_length]; exact hx) (markL_at n k q hx)
      obtain ⟨K, hKe⟩ : ∃ K : Nat, k + 3 * q = K := ⟨_, rfl⟩
      have hK1 : K ≤ 200000000 := by omega
      have hK0 : 0 < K := by omega
      rw [hKe] at dm ⊢
      have HKE : Hid (k + 3 * q = K) := hKe
      clear hKe
      unfold markOne at dm
      obtain ⟨_, c0, c1, c2⟩ := dm
      dsimp only at c0 c1 c2
      rw [show ((K + 1 : Nat) : Int) = (K : Int) + 1 by omega] at c1
      rw [show ((K + 2 : Nat) : Int) = (K : Int) + 1 + 1 by omega] at c2
      have hw1 : IntKind.i64.wrap ((K : Int) + 1) = (K : Int) + 1 := by rw [IntKind.wrap_i64]; omega
      have hw2 : IntKind.i64.wrap ((K : Int) + 1 + 1) = (K : Int) + 1 + 1 := by rw [IntKind.wrap_i64]; omega
      have hw3 : IntKind.i64.wrap ((K : Int) + 1 + 1 + 1) = (K : Int) + 1 + 1 + 1 := by rw [IntKind.wrap_i64]; omega
      have hxI : (q : Int) < (n : Int) := by omega
      go_wp2
      go_roundw
      case rel => exact ⟨q + 1, by omega, by go_num, congrArg (Value.int .i64) (by have := HKE.out; omega), hb⟩
      case measure => simp [intOf]; omega
    · obtain rfl : q = n := by omega
      go_wp2
      go_ret
      exact ⟨rfl, hb⟩
theorem own_cellsDb {w : World} {base : Nat} {v : Value} {l : List FactV} (h : w.ownsRow base 112 3 v l.length (cellsOf FactV.cells l)) : (v = .slice none 0 0 ∧ l = []) ∨ ∃ g cap, v = .slice (some ⟨g, 0, none⟩) l.length cap ∧ OwnCells w base (some ⟨g, 0, none⟩) (cellsOf FactV.cells l) := by
  have h' := h
  rcases h.2 with ⟨hv, hn⟩ | ⟨g, cap, cur, hv, hb, hg, hnc, hcm, hcs, ht⟩
  · exact .inl ⟨hv, List.eq_nil_of_length_eq_zero hn⟩
  · subst hv
    have hlen := cellsOf_length FactV.cells_len l
    refine .inr ⟨g, cap, rfl, .inr ⟨g, 0, rfl, hb, (h'.lt g rfl).2, fun i hi => ?_, fun i hi => h'.frozenAt _⟩⟩
    rw [Nat.zero_add, h'.cellAt i (by omega), List.getElem?_eq_getElem hi]
theorem own_slDb {w : World} {base : Nat} {v : Value} {l : List FactV} (h : w.ownsRow base 112 3 v l.length (cellsOf FactV.cells l)) : OwnSl w base v l := by
  rcases own_cellsDb h with ⟨rfl, rfl⟩ | ⟨g, cap, rfl, ho⟩
  · exact ⟨none, 0, rfl, .inl rfl, .inl rfl⟩
  · exact ⟨_, cap, rfl, ho, .inr ⟨g, rfl⟩⟩
set_option maxRecDepth 100000 in
theorem markDb_cap (a : Option Addr) (k cap : Nat) (w : World) : Calls Tryz.prog 118 #[.slice a 0 cap, .int .i64 k] w fun e w' => e = .returned (.int .i64 k) ∧ w = w' := by
  go_enter Tryz.func118, Tryz.ntmps118
  go_wp2
  refine wp_loop_rounds 1 ?_
  rw [rounds_succ]
  go_wp2
  go_ret
  exact ⟨rfl, rfl⟩
theorem markDb_any (lo : Nat) (v : Value) (l : List FactV) (k : Nat) (w : World) (hl : l.length ≤ 1048576) (hk0 : 0 < k) (hk : k ≤ 100000000) (ho : OwnSl w lo v l) :
    Calls Tryz.prog 118 #[v, .int .i64 k] w fun e w' => e = .returned (.int .i64 (k + 3 * l.length : Nat)) ∧ OwnSl w' lo v (markL l.length k) ∧ Keeps (blkOf v l.length) w w' := by
  obtain ⟨a, cap, rfl, o, hz⟩ := ho
  by_cases hl0 : l = []
  · subst hl0
    refine (markDb_cap a k cap w).mono ?_
    rintro e w' ⟨rfl, rfl⟩
    exact ⟨rfl, ⟨a, cap, rfl, .inl rfl, hz⟩, Keeps.refl _ _⟩
  · have hn : l.length ≠ 0 := fun h => hl0 (List.eq_nil_of_length_eq_zero h)
    rcases hz with rfl | ⟨g, rfl⟩
    · exfalso
      rcases o with h | ⟨_, _, e, _⟩
      · have := cellsOf_length FactV.cells_len l; rw [h] at this; simp at this; omega
      · cases e
    · refine (markDb_some lo g cap l k w hl hk0 hk o).mono ?_
      rintro e w' ⟨rfl, h1, h2⟩
      exact ⟨rfl, ⟨_, cap, by rw [markL_length], h1, .inr ⟨g, rfl⟩⟩, h2.mono (fun q _ hq => fun e => hq.elim hn (fun h => h (by subst e; rfl)))⟩
end Go.Proofs.YtmdcankfjmkkeaaGreat
