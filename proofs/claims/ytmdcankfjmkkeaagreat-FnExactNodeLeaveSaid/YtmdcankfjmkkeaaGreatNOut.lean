/- What a node answers, in memory: compare, mark, hold. -/
import Derived.Test.YtmdcankfjmkkeaaGreatG27
import Derived.Test.YtmdcankfjmkkeaaGreatNMails
namespace Go.Proofs.YtmdcankfjmkkeaaGreat
open Go Go.RowKit
set_option linter.unusedVariables false
set_option linter.unusedSimpArgs false

/-- An answer's cells. -/
def outCells (a : NodeM) (n : NodeV) (m : Value) (miss code : Int) : Array Value := #[.int .i64 n.id, .int .i64 n.inc, .int .i64 n.num, .int .i64 n.seed, .int .i64 n.next, .slice a.va n.view.length a.vc, .slice a.ra n.rum.length a.rc, .slice a.ta n.tl.length a.tc, .int .i64 n.at0, .int .i64 n.pb.node, .int .i64 n.pb.num, .int .i64 n.pb.due, .bool n.pb.asked, .slice a.da n.db.length a.dc, m, .int .i64 miss, .int .i64 code]
def outVal (a : NodeM) (n : NodeV) (m : Value) (miss code : Int) : Value := .agg (outCells a n m miss code)
theorem markMails_cap (a : Option Addr) (k cap : Nat) (w : World) : Calls Tryz.prog 119 #[.slice a 0 cap, .int .i64 k] w fun e w' => e = .returned (.int .i64 k) ∧ w = w' := by
  go_enter Tryz.func119, Tryz.ntmps119
  go_wp2
  refine wp_loop_rounds 1 ?_
  rw [rounds_succ]
  go_wp2
  go_ret
  exact ⟨rfl, rfl⟩
theorem markMails_any (lo : Nat) (v : Value) (k : Nat) (ms : List MailA) (w : World) (hl : ms.length ≤ 1048576) (hfl : ∀ i (h : i < ms.length), ms[i].l.length ≤ 1048576) (hk0 : 0 < k) (hk : kM k ms ≤ 90000000) (ho : OwnMails w lo v ms) :
    Calls Tryz.prog 119 #[v, .int .i64 k] w fun e w' => e = .returned (.int .i64 (kM k ms : Nat)) ∧ OwnMails w' lo v (markM k ms) ∧ Keeps (offM v ms) w w' := by
  obtain ⟨a, cap, rfl, oc, hz⟩ := ho.row
  by_cases hl0 : ms = []
  · subst hl0
    refine (markMails_cap a k cap w).mono ?_
    rintro e w' ⟨rfl, rfl⟩
    exact ⟨rfl, ho, Keeps.refl _ _⟩
  · have hn : 0 < ms.length := Nat.pos_of_ne_zero (fun h => hl0 (List.eq_nil_of_length_eq_zero h))
    rcases hz with rfl | ⟨g, rfl⟩
    · exfalso
      rcases oc with h | ⟨_, _, e, _⟩
      · have := cellsOf_length MailA.cells_len ms; rw [h] at this; simp at this; omega
      · cases e
    · exact markMails_some lo g cap k ms w hn hl hfl hk0 hk ho
theorem not_blk {v : Value} {n g : Nat} (h0 : n ≠ 0) (e : v.ownBlock = some g) : ¬ blkOf v n g := fun h => h.elim h0 (fun h => h e)
theorem OwnMails.off {w w' : World} {lo : Nat} {v : Value} {ms : List MailA} (h : OwnMails w lo v ms) {G : Nat → Prop} (k : Keeps G w w') (hg : ∀ g, ¬ offM v ms g → G g) : OwnMails w' lo v ms := by
  refine ⟨?_, fun i hi => (h.facts i hi).off k (fun g e => ?_), h.apart, h.apart2⟩
  · obtain ⟨a, cap, rfl, oc, hz⟩ := h.row
    refine ⟨a, cap, rfl, ?_, hz⟩
    rcases oc with h1 | ⟨q, off, rfl, hlo, hlt, hc, hf⟩
    · exact .inl h1
    · by_cases h0 : ms.length = 0
      · obtain rfl := List.eq_nil_of_length_eq_zero h0
        exact .inl rfl
      · have hq : G q := hg q (fun h => not_blk h0 rfl h.1)
        exact .inr ⟨q, off, rfl, hlo, Nat.lt_of_lt_of_le hlt k.size, fun i hi => (k.cell (p := ⟨q, off + i, none⟩) hlt hq).trans (hc i hi), fun i hi => (k.frozen (p := ⟨q, off + i, none⟩) hlt hq).trans (hf i hi)⟩
  · by_cases h0 : ms[i].l.length = 0
    · exact .inl h0
    · exact .inr (hg g (fun h => not_blk h0 e (h.2 i hi)))
theorem OwnNode.off {w w' : World} {lo : Nat} {a : NodeM} {n : NodeV} (h : OwnNode w lo a n) {G : Nat → Prop} (k : Keeps G w w') (hg : ∀ g, ¬ offN a n g → G g) : OwnNode w' lo a n := by
  refine ⟨h.v.off k (fun g e => ?_), h.r.off k (fun g e => ?_), h.t.off k (fun b off e => ?_), h.d.off k (fun g e => ?_), h.vr, h.vd, h.rd, h.tv, h.tr, h.td, fun b off e => ⟨(h.tb b off e).1, Nat.lt_of_lt_of_le (h.tb b off e).2 k.size⟩⟩
  · by_cases h0 : n.view.length = 0
    · exact .inl h0
    · exact .inr (hg g (fun h => not_blk h0 e h.1))
  · by_cases h0 : n.rum.length = 0
    · exact .inl h0
    · exact .inr (hg g (fun h => not_blk h0 e h.2.1))
  · exact hg b (fun h => h.2.2.1 b off e rfl)
  · by_cases h0 : n.db.length = 0
    · exact .inl h0
    · exact .inr (hg g (fun h => not_blk h0 e h.2.2.2))
theorem OwnNode.before {w : World} {lo g : Nat} {a : NodeM} {n : NodeV} (h : OwnNode w lo a n) (hg : w.heap.size ≤ g) : offN a n g :=
  ⟨h.v.before hg, h.r.before hg, fun b off e e2 => by have := (h.tb b off e).2; omega, h.d.before hg⟩
theorem offN_marked (a : NodeM) (n : NodeV) (k g : Nat) : offN a (markedN k n) g ↔ offN a n g := by
  unfold offN
  have e1 : vSl a (markedN k n) = vSl a n := by unfold vSl markedN; dsimp only; rw [markL_length]
  have e2 : rSl a (markedN k n) = rSl a n := by unfold rSl markedN; dsimp only; rw [markRL_length]
  have e3 : dSl a (markedN k n) = dSl a n := by unfold dSl markedN; dsimp only; rw [markL_length]
  have l1 : (markedN k n).view.length = n.view.length := markL_length _ _
  have l2 : (markedN k n).rum.length = n.rum.length := markRL_length _ _
  have l3 : (markedN k n).db.length = n.db.length := markL_length _ _
  rw [e1, e2, e3, l1, l2, l3]
theorem offM_marked (v : Value) (ms : List MailA) (k g : Nat) (h : offM v ms g) : offM v (markM k ms) g := by
  refine ⟨by rw [markM_length]; exact h.1, fun i hi => ?_⟩
  have hi' : i < ms.length := by rw [markM_length] at hi; exact hi
  have e := markM_at k ms i hi'
  rw [e]
  have := h.2 i hi'
  unfold markedM slM
  dsimp only
  rw [markL_length]
  exact this
/-- An answer of one's own. -/
structure OwnOut (w : World) (lo : Nat) (a : NodeM) (n : NodeV) (v : Value) (ms : List MailA) : Prop where
  node : OwnNode w lo a n
  mails : OwnMails w lo v ms
  ap : ∀ g, offN a n g ∨ offM v ms g
set_option maxHeartbeats 2000000 in
set_option maxRecDepth 100000 in
theorem eqNodeOut_same (a b : NodeM) (n : NodeV) (am bm : Option Addr) (ac bc : Nat) (msa msb : List MailA) (miss code : Int) (w : World) (hl : NodeLen n 1048576) (hlen : msb.length = msa.length) (hal : ∀ i (h : i < msa.length) (h' : i < msb.length), Alike msa[i] msb[i]) (hm : msa.length ≤ 1048576) (hfl : ∀ i (h : i < msa.length), msa[i].l.length ≤ 1048576) (h1 : NodeRows w a n) (h2 : NodeRows w b n) (m1 : MailsAt w am msa) (m2 : MailsAt w bm msb) :
    Calls Tryz.prog 36 #[outVal a n (.slice am msa.length ac) miss code, outVal b n (.slice bm msb.length bc) miss code] w fun e w' => e = .returned (.bool true) ∧ Below w.heap.size w w' := by
  unfold outVal outCells
  have HLEN : Hid (msb.length = msa.length) := hlen
  rw [hlen]
  clear hlen
  have B := ((Below.refl w.heap.size w).alloc (Nat.le_refl _) (.cells #[.int .i64 n.id, .int .i64 n.inc, .int .i64 n.num, .int .i64 n.seed, .int .i64 n.next, .slice a.va n.view.length a.vc, .slice a.ra n.rum.length a.rc, .slice a.ta n.tl.length a.tc, .int .i64 n.at0, .int .i64 n.pb.node, .int .i64 n.pb.num, .int .i64 n.pb.due, .bool n.pb.asked, .slice a.da n.db.length a.dc, .slice am msa.length ac, .int .i64 miss, .int .i64 code] 37)).alloc (by simp) (.cells #[.int .i64 n.id, .int .i64 n.inc, .int .i64 n.num, .int .i64 n.seed, .int .i64 n.next, .slice b.va n.view.length b.vc, .slice b.ra n.rum.length b.rc, .slice b.ta n.tl.length b.tc, .int .i64 n.at0, .int .i64 n.pb.node, .int .i64 n.pb.num, .int .i64 n.pb.due, .bool n.pb.asked, .slice b.da n.db.length b.dc, .slice bm msa.length bc, .int .i64 miss, .int .i64 code] 37)
  have p0 := (BlkIs.new w 37 #[.int .i64 n.id, .int .i64 n.inc, .int .i64 n.num, .int .i64 n.seed, .int .i64 n.next, .slice a.va n.view.length a.vc, .slice a.ra n.rum.length a.rc, .slice a.ta n.tl.length a.tc, .int .i64 n.at0, .int .i64 n.pb.node, .int .i64 n.pb.num, .int .i64 n.pb.due, .bool n.pb.asked, .slice a.da n.db.length a.dc, .slice am msa.length ac, .int .i64 miss, .int .i64 code]).keep ((Below.refl _ _).alloc (Nat.le_refl _) (.cells #[.int .i64 n.id, .int .i64 n.inc, .int .i64 n.num, .int .i64 n.seed, .int .i64 n.next, .slice b.va n.view.length b.vc, .slice b.ra n.rum.length b.rc, .slice b.ta n.tl.length b.tc, .int .i64 n.at0, .int .i64 n.pb.node, .int .i64 n.pb.num, .int .i64 n.pb.due, .bool n.pb.asked, .slice b.da n.db.length b.dc, .slice bm msa.length bc, .int .i64 miss, .int .i64 code] 37))
  have p1 := BlkIs.new (w.alloc (.cells #[.int .i64 n.id, .int .i64 n.inc, .int .i64 n.num, .int .i64 n.seed, .int .i64 n.next, .slice a.va n.view.length a.vc, .slice a.ra n.rum.length a.rc, .slice a.ta n.tl.length a.tc, .int .i64 n.at0, .int .i64 n.pb.node, .int .i64 n.pb.num, .int .i64 n.pb.due, .bool n.pb.asked, .slice a.da n.db.length a.dc, .slice am msa.length ac, .int .i64 miss, .int .i64 code] 37)) 37 #[.int .i64 n.id, .int .i64 n.inc, .int .i64 n.num, .int .i64 n.seed, .int .i64 n.next, .slice b.va n.view.length b.vc, .slice b.ra n.rum.length b.rc, .slice b.ta n.tl.length b.tc, .int .i64 n.at0, .int .i64 n.pb.node, .int .i64 n.pb.num, .int .i64 n.pb.due, .bool n.pb.asked, .slice b.da n.db.length b.dc, .slice bm msa.length bc, .int .i64 miss, .int .i64 code]
  rw [World.size_alloc] at p1
  go_enter Tryz.func36, Tryz.ntmps36
  go_upto_region 1 with fail
  obtain ⟨X, hX⟩ : ∃ W, (w.alloc (.cells #[.int .i64 n.id, .int .i64 n.inc, .int .i64 n.num, .int .i64 n.seed, .int .i64 n.next, .slice a.va n.view.length a.vc, .slice a.ra n.rum.length a.rc, .slice a.ta n.tl.length a.tc, .int .i64 n.at0, .int .i64 n.pb.node, .int .i64 n.pb.num, .int .i64 n.pb.due, .bool n.pb.asked, .slice a.da n.db.length a.dc, .slice am msa.length ac, .int .i64 miss, .int .i64 code] 37)).alloc (.cells #[.int .i64 n.id, .int .i64 n.inc, .int .i64 n.num, .int .i64 n.seed, .int .i64 n.next, .slice b.va n.view.length b.vc, .slice b.ra n.rum.length b.rc, .slice b.ta n.tl.length b.tc, .int .i64 n.at0, .int .i64 n.pb.node, .int .i64 n.pb.num, .int .i64 n.pb.due, .bool n.pb.asked, .slice b.da n.db.length b.dc, .slice bm msa.length bc, .int .i64 miss, .int .i64 code] 37) = W := ⟨_, rfl⟩
  rw [hX] at B p0 p1 ⊢
  clear hX
  have a0 : X.cell? ⟨w.heap.size, 0, none⟩ = some (.int .i64 n.id) := p0.cell 0
  have b0 : X.cell? ⟨w.heap.size + 1, 0, none⟩ = some (.int .i64 n.id) := p1.cell 0
  have a1 : X.cell? ⟨w.heap.size, 1, none⟩ = some (.int .i64 n.inc) := p0.cell 1
  have b1 : X.cell? ⟨w.heap.size + 1, 1, none⟩ = some (.int .i64 n.inc) := p1.cell 1
  have a2 : X.cell? ⟨w.heap.size, 2, none⟩ = some (.int .i64 n.num) := p0.cell 2
  have b2 : X.cell? ⟨w.heap.size + 1, 2, none⟩ = some (.int .i64 n.num) := p1.cell 2
  have a3 : X.cell? ⟨w.heap.size, 3, none⟩ = some (.int .i64 n.seed) := p0.cell 3
  have b3 : X.cell? ⟨w.heap.size + 1, 3, none⟩ = some (.int .i64 n.seed) := p1.cell 3
  have a4 : X.cell? ⟨w.heap.size, 4, none⟩ = some (.int .i64 n.next) := p0.cell 4
  have b4 : X.cell? ⟨w.heap.size + 1, 4, none⟩ = some (.int .i64 n.next) := p1.cell 4
  have a5 : X.cell? ⟨w.heap.size, 5, none⟩ = some (.slice a.va n.view.length a.vc) := p0.cell 5
  have b5 : X.cell? ⟨w.heap.size + 1, 5, none⟩ = some (.slice b.va n.view.length b.vc) := p1.cell 5
  have a6 : X.cell? ⟨w.heap.size, 6, none⟩ = some (.slice a.ra n.rum.length a.rc) := p0.cell 6
  have b6 : X.cell? ⟨w.heap.size + 1, 6, none⟩ = some (.slice b.ra n.rum.length b.rc) := p1.cell 6
  have a7 : X.cell? ⟨w.heap.size, 7, none⟩ = some (.slice a.ta n.tl.length a.tc) := p0.cell 7
  have b7 : X.cell? ⟨w.heap.size + 1, 7, none⟩ = some (.slice b.ta n.tl.length b.tc) := p1.cell 7
  have a8 : X.cell? ⟨w.heap.size, 8, none⟩ = some (.int .i64 n.at0) := p0.cell 8
  have b8 : X.cell? ⟨w.heap.size + 1, 8, none⟩ = some (.int .i64 n.at0) := p1.cell 8
  have a9 : X.cell? ⟨w.heap.size, 9, none⟩ = some (.int .i64 n.pb.node) := p0.cell 9
  have b9 : X.cell? ⟨w.heap.size + 1, 9, none⟩ = some (.int .i64 n.pb.node) := p1.cell 9
  have a10 : X.cell? ⟨w.heap.size, 10, none⟩ = some (.int .i64 n.pb.num) := p0.cell 10
  have b10 : X.cell? ⟨w.heap.size + 1, 10, none⟩ = some (.int .i64 n.pb.num) := p1.cell 10
  have a11 : X.cell? ⟨w.heap.size, 11, none⟩ = some (.int .i64 n.pb.due) := p0.cell 11
  have b11 : X.cell? ⟨w.heap.size + 1, 11, none⟩ = some (.int .i64 n.pb.due) := p1.cell 11
  have a12 : X.cell? ⟨w.heap.size, 12, none⟩ = some (.bool n.pb.asked) := p0.cell 12
  have b12 : X.cell? ⟨w.heap.size + 1, 12, none⟩ = some (.bool n.pb.asked) := p1.cell 12
  have a13 : X.cell? ⟨w.heap.size, 13, none⟩ = some (.slice a.da n.db.length a.dc) := p0.cell 13
  have b13 : X.cell? ⟨w.heap.size + 1, 13, none⟩ = some (.slice b.da n.db.length b.dc) := p1.cell 13
  go_wp2_with fail
  refine (eqNode_same a b n _ hl (h1.keep B) (h2.keep B)).mono ?_
  rintro e Y ⟨rfl, bx⟩
  replace p0 := p0.keep bx
  replace p1 := p1.keep bx
  replace B := B.trans (bx.mono B.size)
  clear bx a0 b0 a1 b1 a2 b2 a3 b3 a4 b4 a5 b5 a6 b6 a7 b7 a8 b8 a9 b9 a10 b10 a11 b11 a12 b12 a13 b13
  have a14 : Y.cell? ⟨w.heap.size, 14, none⟩ = some (.slice am msa.length ac) := p0.cell 14
  have b14 : Y.cell? ⟨w.heap.size + 1, 14, none⟩ = some (.slice bm msa.length bc) := p1.cell 14
  go_wp2_with fail
  refine (eqMails_same am bm ac bc msa msb _ HLEN.out hal hm hfl (m1.keep B) (m2.keep B)).mono ?_
  rintro e Z ⟨rfl, bx⟩
  replace p0 := p0.keep bx
  replace p1 := p1.keep bx
  replace B := B.trans (bx.mono B.size)
  clear bx a14 b14
  have a15 : Z.cell? ⟨w.heap.size, 15, none⟩ = some (.int .i64 miss) := p0.cell 15
  have b15 : Z.cell? ⟨w.heap.size + 1, 15, none⟩ = some (.int .i64 miss) := p1.cell 15
  have a16 : Z.cell? ⟨w.heap.size, 16, none⟩ = some (.int .i64 code) := p0.cell 16
  have b16 : Z.cell? ⟨w.heap.size + 1, 16, none⟩ = some (.int .i64 code) := p1.cell 16
  clear p0 p1 h1 h2 m1 m2 hal hfl
  go_wp2
  go_ret
  exact ⟨rfl, B⟩
set_option maxHeartbeats 2000000 in
set_option maxRecDepth 100000 in
theorem markNodeOut_any (lo : Nat) (a : NodeM) (n : NodeV) (v : Value) (ms : List MailA) (miss code : Int) (k : Nat) (w : World) (hl : NodeLen n 1048576) (hm : ms.length ≤ 1048576) (hfl : ∀ i (h : i < ms.length), ms[i].l.length ≤ 1048576) (hk0 : 0 < k) (hk : k ≤ 50000000) (hk2 : kM (kN k n) ms ≤ 90000000) (hlo : lo ≤ w.heap.size) (ho : OwnOut w lo a n v ms) :
    Calls Tryz.prog 39 #[outVal a n v miss code, .int .i64 k] w fun e w' => e = .returned (.int .i64 (kM (kN k n) ms : Nat)) ∧ OwnOut w' lo a (markedN k n) v (markM (kN k n) ms) ∧ Keeps (fun g => offN a n g ∧ offM v ms g) w w' := by
  unfold outVal outCells
  have HAP : Hid (∀ g, offN a n g ∨ offM v ms g) := ho.ap
  have K0 : Keeps (fun _ => True) w (w.alloc (.cells #[.int .i64 n.id, .int .i64 n.inc, .int .i64 n.num, .int .i64 n.seed, .int .i64 n.next, .slice a.va n.view.length a.vc, .slice a.ra n.rum.length a.rc, .slice a.ta n.tl.length a.tc, .int .i64 n.at0, .int .i64 n.pb.node, .int .i64 n.pb.num, .int .i64 n.pb.due, .bool n.pb.asked, .slice a.da n.db.length a.dc, v, .int .i64 miss, .int .i64 code] 37)) := (Keeps.refl _ _).alloc _
  have p0 := BlkIs.new w 37 #[.int .i64 n.id, .int .i64 n.inc, .int .i64 n.num, .int .i64 n.seed, .int .i64 n.next, .slice a.va n.view.length a.vc, .slice a.ra n.rum.length a.rc, .slice a.ta n.tl.length a.tc, .int .i64 n.at0, .int .i64 n.pb.node, .int .i64 n.pb.num, .int .i64 n.pb.due, .bool n.pb.asked, .slice a.da n.db.length a.dc, v, .int .i64 miss, .int .i64 code]
  have on := ho.node.off K0 (fun _ _ => trivial)
  have om := ho.mails.off K0 (fun _ _ => trivial)
  have KK : Keeps (fun g => offN a n g ∧ offM v ms g) w (w.alloc (.cells #[.int .i64 n.id, .int .i64 n.inc, .int .i64 n.num, .int .i64 n.seed, .int .i64 n.next, .slice a.va n.view.length a.vc, .slice a.ra n.rum.length a.rc, .slice a.ta n.tl.length a.tc, .int .i64 n.at0, .int .i64 n.pb.node, .int .i64 n.pb.num, .int .i64 n.pb.due, .bool n.pb.asked, .slice a.da n.db.length a.dc, v, .int .i64 miss, .int .i64 code] 37)) := (Keeps.refl _ _).alloc _
  have HB : Hid (offN a n w.heap.size) := ho.node.before (Nat.le_refl _)
  go_enter Tryz.func39, Tryz.ntmps39
  go_upto_region 1 with fail
  obtain ⟨X, hX⟩ : ∃ W, w.alloc (.cells #[.int .i64 n.id, .int .i64 n.inc, .int .i64 n.num, .int .i64 n.seed, .int .i64 n.next, .slice a.va n.view.length a.vc, .slice a.ra n.rum.length a.rc, .slice a.ta n.tl.length a.tc, .int .i64 n.at0, .int .i64 n.pb.node, .int .i64 n.pb.num, .int .i64 n.pb.due, .bool n.pb.asked, .slice a.da n.db.length a.dc, v, .int .i64 miss, .int .i64 code] 37) = W := ⟨_, rfl⟩
  rw [hX] at p0 on om KK ⊢
  have hw0 : w.heap.size < X.heap.size := p0.lt
  clear hX K0 ho
  have c0 : X.cell? ⟨w.heap.size, 0, none⟩ = some (.int .i64 n.id) := p0.cell 0
  have c1 : X.cell? ⟨w.heap.size, 1, none⟩ = some (.int .i64 n.inc) := p0.cell 1
  have c2 : X.cell? ⟨w.heap.size, 2, none⟩ = some (.int .i64 n.num) := p0.cell 2
  have c3 : X.cell? ⟨w.heap.size, 3, none⟩ = some (.int .i64 n.seed) := p0.cell 3
  have c4 : X.cell? ⟨w.heap.size, 4, none⟩ = some (.int .i64 n.next) := p0.cell 4
  have c5 : X.cell? ⟨w.heap.size, 5, none⟩ = some (.slice a.va n.view.length a.vc) := p0.cell 5
  have c6 : X.cell? ⟨w.heap.size, 6, none⟩ = some (.slice a.ra n.rum.length a.rc) := p0.cell 6
  have c7 : X.cell? ⟨w.heap.size, 7, none⟩ = some (.slice a.ta n.tl.length a.tc) := p0.cell 7
  have c8 : X.cell? ⟨w.heap.size, 8, none⟩ = some (.int .i64 n.at0) := p0.cell 8
  have c9 : X.cell? ⟨w.heap.size, 9, none⟩ = some (.int .i64 n.pb.node) := p0.cell 9
  have c10 : X.cell? ⟨w.heap.size, 10, none⟩ = some (.int .i64 n.pb.num) := p0.cell 10
  have c11 : X.cell? ⟨w.heap.size, 11, none⟩ = some (.int .i64 n.pb.due) := p0.cell 11
  have c12 : X.cell? ⟨w.heap.size, 12, none⟩ = some (.bool n.pb.asked) := p0.cell 12
  have c13 : X.cell? ⟨w.heap.size, 13, none⟩ = some (.slice a.da n.db.length a.dc) := p0.cell 13
  go_wp2_with fail
  refine (markNode_any lo a n k _ hl hk0 hk (by omega) on).mono ?_
  rintro e Y ⟨rfl, on1, k1⟩
  replace p0 := p0.keepK k1 HB.out
  replace om := om.off k1 (fun g h => (HAP.out g).resolve_right h)
  replace KK := KK.trans (k1.mono (fun g _ h => h.1))
  clear k1 on c0 c1 c2 c3 c4 c5 c6 c7 c8 c9 c10 c11 c12 c13
  have c14 : Y.cell? ⟨w.heap.size, 14, none⟩ = some (v) := p0.cell 14
  go_wp2_with fail
  refine (markMails_any lo v (kN k n) ms _ hm hfl (by unfold kN kT kR kV; omega) hk2 om).mono ?_
  rintro e Z ⟨rfl, om1, k1⟩
  have on2 := on1.off k1 (fun g h => (HAP.out g).resolve_left (fun h2 => h ((offN_marked a n k g).2 h2)))
  replace KK := KK.trans (k1.mono (fun g _ h => h.2))
  have HEND : Hid (OwnOut Z lo a (markedN k n) v (markM (kN k n) ms)) := ⟨on2, om1, fun g => (HAP.out g).imp (fun h => (offN_marked a n k g).2 h) (fun h => offM_marked v ms (kN k n) g h)⟩
  clear k1 om on1 on2 om1 c14 p0
  go_wp2
  go_ret
  exact ⟨rfl, HEND.out, KK⟩
set_option maxHeartbeats 2000000 in
set_option maxRecDepth 100000 in
theorem heldNodeOut_any (a : NodeM) (n : NodeV) (am : Option Addr) (ac : Nat) (ms : List MailA) (miss code : Int) (k : Nat) (w : World) (hl : NodeLen n 1048576) (hm : ms.length ≤ 1048576) (hfl : ∀ i (h : i < ms.length), ms[i].l.length ≤ 1048576) (hk0 : 0 < k) (hk : k ≤ 50000000) (hk2 : kM (kN k n) ms ≤ 90000000) (hn : NodeRows w a (markedN k n)) (ha : MailsAt w am (markM (kN k n) ms)) :
    Calls Tryz.prog 40 #[outVal a n (.slice am ms.length ac) miss code, .int .i64 k] w fun e w' => e = .returned (.int .i64 (kM (kN k n) ms : Nat)) ∧ Below w.heap.size w w' := by
  unfold outVal outCells
  have q0 : ¬ ((kN k n : Nat) : Int) < 0 := by omega
  have q1 : ¬ ((kM (kN k n) ms : Nat) : Int) < 0 := by omega
  have B := (Below.refl w.heap.size w).alloc (Nat.le_refl _) (.cells #[.int .i64 n.id, .int .i64 n.inc, .int .i64 n.num, .int .i64 n.seed, .int .i64 n.next, .slice a.va n.view.length a.vc, .slice a.ra n.rum.length a.rc, .slice a.ta n.tl.length a.tc, .int .i64 n.at0, .int .i64 n.pb.node, .int .i64 n.pb.num, .int .i64 n.pb.due, .bool n.pb.asked, .slice a.da n.db.length a.dc, .slice am ms.length ac, .int .i64 miss, .int .i64 code] 37)
  have p0 := BlkIs.new w 37 #[.int .i64 n.id, .int .i64 n.inc, .int .i64 n.num, .int .i64 n.seed, .int .i64 n.next, .slice a.va n.view.length a.vc, .slice a.ra n.rum.length a.rc, .slice a.ta n.tl.length a.tc, .int .i64 n.at0, .int .i64 n.pb.node, .int .i64 n.pb.num, .int .i64 n.pb.due, .bool n.pb.asked, .slice a.da n.db.length a.dc, .slice am ms.length ac, .int .i64 miss, .int .i64 code]
  go_enter Tryz.func40, Tryz.ntmps40
  go_upto_region 1 with fail
  obtain ⟨X, hX⟩ : ∃ W, w.alloc (.cells #[.int .i64 n.id, .int .i64 n.inc, .int .i64 n.num, .int .i64 n.seed, .int .i64 n.next, .slice a.va n.view.length a.vc, .slice a.ra n.rum.length a.rc, .slice a.ta n.tl.length a.tc, .int .i64 n.at0, .int .i64 n.pb.node, .int .i64 n.pb.num, .int .i64 n.pb.due, .bool n.pb.asked, .slice a.da n.db.length a.dc, .slice am ms.length ac, .int .i64 miss, .int .i64 code] 37) = W := ⟨_, rfl⟩
  rw [hX] at p0 B ⊢
  clear hX
  have c0 : X.cell? ⟨w.heap.size, 0, none⟩ = some (.int .i64 n.id) := p0.cell 0
  have c1 : X.cell? ⟨w.heap.size, 1, none⟩ = some (.int .i64 n.inc) := p0.cell 1
  have c2 : X.cell? ⟨w.heap.size, 2, none⟩ = some (.int .i64 n.num) := p0.cell 2
  have c3 : X.cell? ⟨w.heap.size, 3, none⟩ = some (.int .i64 n.seed) := p0.cell 3
  have c4 : X.cell? ⟨w.heap.size, 4, none⟩ = some (.int .i64 n.next) := p0.cell 4
  have c5 : X.cell? ⟨w.heap.size, 5, none⟩ = some (.slice a.va n.view.length a.vc) := p0.cell 5
  have c6 : X.cell? ⟨w.heap.size, 6, none⟩ = some (.slice a.ra n.rum.length a.rc) := p0.cell 6
  have c7 : X.cell? ⟨w.heap.size, 7, none⟩ = some (.slice a.ta n.tl.length a.tc) := p0.cell 7
  have c8 : X.cell? ⟨w.heap.size, 8, none⟩ = some (.int .i64 n.at0) := p0.cell 8
  have c9 : X.cell? ⟨w.heap.size, 9, none⟩ = some (.int .i64 n.pb.node) := p0.cell 9
  have c10 : X.cell? ⟨w.heap.size, 10, none⟩ = some (.int .i64 n.pb.num) := p0.cell 10
  have c11 : X.cell? ⟨w.heap.size, 11, none⟩ = some (.int .i64 n.pb.due) := p0.cell 11
  have c12 : X.cell? ⟨w.heap.size, 12, none⟩ = some (.bool n.pb.asked) := p0.cell 12
  have c13 : X.cell? ⟨w.heap.size, 13, none⟩ = some (.slice a.da n.db.length a.dc) := p0.cell 13
  go_wp2_with fail
  refine (heldNode_any a n k _ hl hk0 hk (hn.keep B)).mono ?_
  rintro e Y ⟨rfl, bx⟩
  replace p0 := p0.keep bx
  replace B := B.trans (bx.mono B.size)
  clear bx c0 c1 c2 c3 c4 c5 c6 c7 c8 c9 c10 c11 c12 c13
  have c14 : Y.cell? ⟨w.heap.size, 14, none⟩ = some (.slice am ms.length ac) := p0.cell 14
  go_wp2_with fail
  refine (heldMails_any am ac (kN k n) ms _ hm hfl (by unfold kN kT kR kV; omega) hk2 (ha.keep B)).mono ?_
  rintro e Z ⟨rfl, bx⟩
  replace B := B.trans (bx.mono B.size)
  clear bx c14 p0
  go_wp2
  go_ret
  exact ⟨rfl, B⟩
end Go.Proofs.YtmdcankfjmkkeaaGreat
