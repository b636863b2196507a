/- The contract of the specification's NodeLeave: its test, and what it puts into the view. -/
import Derived.Test.YtmdcankfjmkkeaaGreatG47
import Derived.Test.YtmdcankfjmkkeaaGreatG34
import Derived.Test.YtmdcankfjmkkeaaGreatG40
import Derived.Test.YtmdcankfjmkkeaaGreatLPut
import Derived.Test.YtmdcankfjmkkeaaGreatNApp
import Derived.ArgAppend
namespace Go.Proofs.YtmdcankfjmkkeaaGreat
open Go Go.RowKit
set_option linter.unusedVariables false
set_option linter.unusedSimpArgs false

/-- A row of facts of one's own, as a slot holds it; and as an answer has it. -/
def RowV (base : Nat) (l : List FactV) (v : Value) (w : World) : Prop := ∃ s k, v = .slice s l.length k ∧ w.ownsRow base 54 3 (.slice s l.length k) l.length (cellsOf FactV.cells l)
def RowOutV (base : Nat) (l : List FactV) (r : Bool) (v : Value) (w : World) : Prop := ∃ s k, v = outV (.slice s l.length k) r 0 ∧ w.ownsRow base 54 3 (.slice s l.length k) l.length (cellsOf FactV.cells l)
theorem RowV.keep {base : Nat} {l : List FactV} {v : Value} {w w' : World} (h : RowV base l v w) (k : Below w.heap.size w w') : RowV base l v w' := by
  obtain ⟨s, q, h1, h2⟩ := h
  exact ⟨s, q, h1, rowBelow h2 k⟩
theorem RowOutV.keep {base : Nat} {l : List FactV} {r : Bool} {v : Value} {w w' : World} (h : RowOutV base l r v w) (k : Below w.heap.size w w') : RowOutV base l r v w' := by
  obtain ⟨s, q, h1, h2⟩ := h
  exact ⟨s, q, h1, rowBelow h2 k⟩
theorem row_some {w : World} {c e size n : Nat} {a : Option Addr} {k : Nat} {xs : List Value} (h : w.ownsRow c e size (.slice a n k) n xs) (hn : 0 < n) : ∃ g, a = some ⟨g, 0, none⟩ := by
  rcases h.2 with ⟨hv, h0⟩ | ⟨g, cap, cur, hv, _⟩
  · omega
  · simp only [Value.slice.injEq] at hv
    exact ⟨g, hv.1⟩
theorem own_there {n : NodeV} (h : n.ownOk) : 0 < n.view.length := by
  rcases Nat.eq_zero_or_pos n.view.length with h0 | h0
  · exfalso
    apply h.1
    rw [List.eq_nil_of_length_eq_zero h0]
    rfl
  · exact h0
set_option maxHeartbeats 2000000 in
set_option maxRecDepth 100000 in
theorem specGone_any (a : NodeM) (n : NodeV) (q : Bool) (w : World) (hq : q = true ↔ goneN n) (hv : n.view.length ≤ 1048576) (hrow : CellRow w a.va (cellsOf FactV.cells n.view)) :
    Calls Tryz.prog 75 #[nodeVal a n] w fun e w' => e = .returned (.bool q) ∧ Below w.heap.size w w' := by
  obtain ⟨⟨f1, f2, f3⟩, hf⟩ : ∃ f, atF n.view n.id = f := ⟨_, rfl⟩
  have HFA : Hid (atF n.view n.id = ⟨f1, f2, f3⟩) := hf
  have HQ : Hid (q = true ↔ f3 = 3) := by
    show _ ↔ _
    rw [hq]
    unfold goneN
    rw [hf]
  have hlen := hv
  clear hf hq hv
  unfold nodeVal nodeCells
  have p0 := BlkIs.new w 32 #[.int .i64 n.id, .int .i64 n.inc, .int .i64 n.num, .int .i64 n.seed, .int .i64 n.next, .slice a.va n.view.length a.vc, .slice a.ra n.rum.length a.rc, .slice a.ta n.tl.length a.tc, .int .i64 n.at0, .int .i64 n.pb.node, .int .i64 n.pb.num, .int .i64 n.pb.due, .bool n.pb.asked, .slice a.da n.db.length a.dc]
  have B := (Below.refl w.heap.size w).alloc (Nat.le_refl _) (.cells #[.int .i64 n.id, .int .i64 n.inc, .int .i64 n.num, .int .i64 n.seed, .int .i64 n.next, .slice a.va n.view.length a.vc, .slice a.ra n.rum.length a.rc, .slice a.ta n.tl.length a.tc, .int .i64 n.at0, .int .i64 n.pb.node, .int .i64 n.pb.num, .int .i64 n.pb.due, .bool n.pb.asked, .slice a.da n.db.length a.dc] 32)
  go_enter Tryz.func75, Tryz.ntmps75
  go_upto_region 1 with fail
  obtain ⟨X, hX⟩ : ∃ W, w.alloc (.cells #[.int .i64 n.id, .int .i64 n.inc, .int .i64 n.num, .int .i64 n.seed, .int .i64 n.next, .slice a.va n.view.length a.vc, .slice a.ra n.rum.length a.rc, .slice a.ta n.tl.length a.tc, .int .i64 n.at0, .int .i64 n.pb.node, .int .i64 n.pb.num, .int .i64 n.pb.due, .bool n.pb.asked, .slice a.da n.db.length a.dc] 32) = W := ⟨_, rfl⟩
  rw [hX] at p0 B ⊢
  clear hX
  obtain ⟨kp, hkp⟩ : ∃ k, w.heap.size = k := ⟨_, rfl⟩
  rw [hkp] at p0
  rw [hkp]
  by_cases h3 : f3 = 3
  · obtain rfl : q = true := HQ.out.2 h3
    have h3b : (f3 == 3) = true := by simp [h3]
    have hfd := field_factN (.int .i64 f1) (.int .i64 f2) (.int .i64 f3)
    clear h3 HQ
    have c0 : X.cell? ⟨kp, 0, none⟩ = some (.int .i64 n.id) := p0.cell 0
    have c5 : X.cell? ⟨kp, 5, none⟩ = some (.slice a.va n.view.length a.vc) := p0.cell 5
    go_wp2_with fail
    refine (specL04At_any a.va a.vc n.view n.id ⟨f1, f2, f3⟩ HFA.out.symm _ hlen (hrow.keep B)).mono ?_
    rintro e z ⟨rfl, bz⟩
    unfold FactV.val
    have hH2 := B.trans (bz.mono B.size)
    clear c0 c5 bz
    go_wp2
    go_ret
    exact ⟨rfl, hH2⟩
  · obtain rfl : q = false := by
      cases q with
      | false => rfl
      | true => exact absurd (HQ.out.1 rfl) h3
    have h3b : (f3 == 3) = false := beq_eq_false_iff_ne.2 h3
    have hfd := field_factN (.int .i64 f1) (.int .i64 f2) (.int .i64 f3)
    clear h3 HQ
    have c0 : X.cell? ⟨kp, 0, none⟩ = some (.int .i64 n.id) := p0.cell 0
    have c5 : X.cell? ⟨kp, 5, none⟩ = some (.slice a.va n.view.length a.vc) := p0.cell 5
    go_wp2_with fail
    refine (specL04At_any a.va a.vc n.view n.id ⟨f1, f2, f3⟩ HFA.out.symm _ hlen (hrow.keep B)).mono ?_
    rintro e z ⟨rfl, bz⟩
    unfold FactV.val
    have hH2 := B.trans (bz.mono B.size)
    clear c0 c5 bz
    go_wp2
    go_ret
    exact ⟨rfl, hH2⟩
end Go.Proofs.YtmdcankfjmkkeaaGreat
/- append of facts to an empty literal grows; whom a node could ask, without tests. -/
namespace Go.Proofs.YtmdcankfjmkkeaaGreat
open Go Go.RowKit
set_option linter.unusedVariables false
set_option linter.unusedSimpArgs false

theorem appFG {w : World} {op : Oper} {act : Act} {K : Act → World → Prop} {Q : Exit → Act → World → Prop} (hty : op.type = 23) (s x : Operand)
    (ho : op.op = .call { callee := .builtin .append, args := #[s, x], argTypes := #[23, 23] }) (ke : Nat) (hs : act.eval s = .slice (some ⟨ke, 0, none⟩) 0 0)
    (ao : Option Addr) (ad : Addr) (hao : ao = some ad) (m cap : Nat) (l : List FactV) (hm : l.length = m) (hpos : 0 < m) (hx : act.eval x = .slice ao m cap) (hrow : CellRow w ao (cellsOf FactV.cells l)) (hsm : m ≤ 1000)
    (h : ∀ s1 k1 w', w'.ownsRow w.heap.size 54 3 (.slice s1 m k1) m (cellsOf FactV.cells l) → Below w.heap.size w w' → K (act.put op.dst (.slice s1 m k1)) w') : op.wp Tryz.prog act w K Q := by
  subst hao hm
  obtain ⟨i, hi, hz⟩ := Option.map_eq_some_iff.1 Tryz.partsF
  simp only [Prod.mk.injEq] at hz
  obtain ⟨v', w', hr, h2, h3⟩ := run_append_arg_grows (P := Tryz.prog) w 23 23 54 i _ 3 24 Tryz.underlying23 hi hz.1 hz.2.1 hz.2.2 rfl (by omega) ⟨ke, 0, none⟩ 0 0 [] (by simp) (fun j u hj => by simp at hj) ad l.length cap (cellsOf FactV.cells l) (cellsOf_length FactV.cells_len l) hrow.reads (by omega) (by unfold maxLen; omega) (by omega)
  rw [Nat.zero_add, List.nil_append] at h2
  obtain ⟨s1, k1, rfl⟩ := rowSlice h2
  unfold Oper.wp
  rw [exec_append s x _ _ ho _ _ hs hx (by rw [hty]; exact hr)]
  exact h s1 k1 w' h2 ⟨h3.os, h3.tape, h3.output, h3.size, fun k hk => h3.block k hk (by simp)⟩
theorem specL04PutA_any (ao : Option Addr) (g cap k : Nat) (l : List FactV) (f : FactV) (r : Bool) (w : World) (hao : ao = some ⟨g, 0, none⟩) (hl : l.length ≤ 1000) (hri : riseV l) (hp : placeF l f.node k) (hrn : r = true ↔ newsAt l f k) (hcap : l.length ≤ cap) (hcm : (cap : Int) ≤ 9223372036854775807) (hrow : CellRow w ao (cellsOf FactV.cells l)) :
    Calls Tryz.prog 76 #[.slice ao l.length cap, f.val] w (OutPost 0 (putL l f k) r w) := by
  subst hao
  exact specL04Put_any g 0 cap k l f r w hl hri hp hrn hcap hcm hrow
theorem others_drop (n : NodeV) (h : rightV n.view) : othersM n = dropL (goneL n.view) n.id := by
  have hr : rises (goneL n.view) := by
    unfold goneL rises
    exact List.pairwise_map.2 ((rightV_rise h).filter _)
  have hl := goneL_len n.view
  have h6 := rightV_len h
  unfold othersM setDropL
  rw [if_neg (by omega), if_pos ⟨by omega, hr⟩]
end Go.Proofs.YtmdcankfjmkkeaaGreat
