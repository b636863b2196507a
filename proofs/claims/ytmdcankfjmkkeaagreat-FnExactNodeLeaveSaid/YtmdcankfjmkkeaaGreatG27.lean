/- The contracts of the exact laws' helpers over mails that are handed back: compare, mark, hold. -/
import Derived.Test.YtmdcankfjmkkeaaGreatG25
import Derived.Test.YtmdcankfjmkkeaaGreatMarkF
import Derived.Test.YtmdcankfjmkkeaaGreatNHelp
namespace Go.Proofs.YtmdcankfjmkkeaaGreat
open Go Go.RowKit
set_option linter.unusedVariables false

theorem OwnSl.keepK {w w' : World} {base : Nat} {v : Value} {l : List FactV} (h : OwnSl w base v l) {G : Nat → Prop} (k : Keeps G w w') (hg : ∀ g, v.ownBlock = some g → G g) : OwnSl w' base v l := by
  obtain ⟨a, cap, rfl, ho, hz⟩ := h
  refine ⟨a, cap, rfl, ?_, hz⟩
  rcases ho with h0 | ⟨q, off, rfl, hlo, hlt, hc, hf⟩
  · exact .inl h0
  · have hq := hg q rfl
    exact .inr ⟨q, off, rfl, hlo, Nat.lt_of_lt_of_le hlt k.size, fun i hi => (k.cell (p := ⟨q, off + i, none⟩) hlt hq).trans (hc i hi), fun i hi => (k.frozen (p := ⟨q, off + i, none⟩) hlt hq).trans (hf i hi)⟩
set_option maxHeartbeats 1000000 in
set_option maxRecDepth 100000 in
theorem markMail_any (k f t n a r : Int) (lo : Nat) (p : Option Addr) (cap : Nat) (l : List FactV) (w : World) (hl : l.length ≤ 1000000) (ho : OwnSl w lo (.slice p l.length cap) l) :
    Calls Tryz.prog 44 #[.agg #[.int .i64 k, .int .i64 f, .int .i64 t, .int .i64 n, .int .i64 a, .int .i64 r, .slice p l.length cap], .int .i64 1] w fun e w' => e = .returned (.int .i64 (1 + 3 * l.length : Nat)) ∧ OwnSl w' lo (.slice p l.length cap) (markL l.length 1) ∧ Keeps (blkOf (.slice p l.length cap) l.length) w w' := by
  have K0 : Keeps (blkOf (.slice p l.length cap) l.length) w (w.alloc (.cells #[.int .i64 k, .int .i64 f, .int .i64 t, .int .i64 n, .int .i64 a, .int .i64 r, .slice p l.length cap] 40)) := (Keeps.refl _ _).alloc _
  have o0 := ho.keep ((Below.refl _ _).alloc (Nat.le_refl _) (.cells #[.int .i64 k, .int .i64 f, .int .i64 t, .int .i64 n, .int .i64 a, .int .i64 r, .slice p l.length cap] 40))
  go_enter Tryz.func44, Tryz.ntmps44
  go_wp2_with fail
  refine (markF_i lo (.slice p l.length cap) l 1 _ (by omega) (by omega) (by omega) o0).mono ?_
  rintro e x ⟨rfl, ox, kx⟩
  have K1 := K0.trans kx
  clear kx o0 K0
  go_wp2
  go_ret
  exact ⟨rfl, ox, K1⟩
end Go.Proofs.YtmdcankfjmkkeaaGreat
/- The contracts of the exact laws' marks and holds of a node. -/
namespace Go.Proofs.YtmdcankfjmkkeaaGreat
open Go Go.RowKit
set_option linter.unusedVariables false
set_option linter.unusedSimpArgs false

def vSl (a : NodeM) (n : NodeV) : Value := .slice a.va n.view.length a.vc
def rSl (a : NodeM) (n : NodeV) : Value := .slice a.ra n.rum.length a.rc
def dSl (a : NodeM) (n : NodeV) : Value := .slice a.da n.db.length a.dc
/-- Two lists that do not lie in one block. -/
def Ap (u : Value) (n : Nat) (v : Value) (m : Nat) : Prop := ∀ g, u.ownBlock = some g → v.ownBlock = some g → n = 0 ∨ m = 0
/-- A list of numbers that does not lie where another list does. -/
def ApT (ta : Option Addr) (v : Value) (m : Nat) : Prop := ∀ g off, ta = some ⟨g, off, none⟩ → v.ownBlock = some g → m = 0
/-- A node whose lists are one's own. -/
structure OwnNode (w : World) (lo : Nat) (a : NodeM) (n : NodeV) : Prop where
  v : OwnSl w lo (vSl a n) n.view
  r : OwnSlR w lo (rSl a n) n.rum
  t : OwnNums w lo a.ta n.tl
  d : OwnSl w lo (dSl a n) n.db
  vr : Ap (vSl a n) n.view.length (rSl a n) n.rum.length
  vd : Ap (vSl a n) n.view.length (dSl a n) n.db.length
  rd : Ap (rSl a n) n.rum.length (dSl a n) n.db.length
  tv : ApT a.ta (vSl a n) n.view.length
  tr : ApT a.ta (rSl a n) n.rum.length
  td : ApT a.ta (dSl a n) n.db.length
  tb : ∀ b off, a.ta = some ⟨b, off, none⟩ → lo ≤ b ∧ b < w.heap.size
/-- What its marks leave alone. -/
def offN (a : NodeM) (n : NodeV) (g : Nat) : Prop := blkOf (vSl a n) n.view.length g ∧ blkOf (rSl a n) n.rum.length g ∧ (∀ b off, a.ta = some ⟨b, off, none⟩ → g ≠ b) ∧ blkOf (dSl a n) n.db.length g
def kV (k : Nat) (n : NodeV) : Nat := k + 3 * n.view.length
def kR (k : Nat) (n : NodeV) : Nat := kV k n + 4 * n.rum.length
def kT (k : Nat) (n : NodeV) : Nat := kR k n + n.tl.length
def kN (k : Nat) (n : NodeV) : Nat := kT k n + 3 * n.db.length
def markedN (k : Nat) (n : NodeV) : NodeV := { n with view := markL n.view.length k, rum := markRL n.rum.length (kV k n), tl := marks (kR k n : Nat) n.tl.length, db := markL n.db.length (kT k n) }
theorem OwnSlR.emptyR {w w' : World} {base : Nat} {v : Value} {l : List RumV} (h : OwnSlR w base v l) (h0 : l.length = 0) : OwnSlR w' base v l := by
  obtain ⟨a, cap, e, _, hz⟩ := h
  obtain rfl := List.eq_nil_of_length_eq_zero h0
  exact ⟨a, cap, e, .inl rfl, hz⟩
theorem OwnSl.emptyF {w w' : World} {base : Nat} {v : Value} {l : List FactV} (h : OwnSl w base v l) (h0 : l.length = 0) : OwnSl w' base v l := by
  obtain ⟨a, cap, e, _, hz⟩ := h
  obtain rfl := List.eq_nil_of_length_eq_zero h0
  exact ⟨a, cap, e, .inl rfl, hz⟩
theorem OwnSl.off {w w' : World} {lo : Nat} {v : Value} {l : List FactV} (h : OwnSl w lo v l) {G : Nat → Prop} (k : Keeps G w w') (hg : ∀ g, v.ownBlock = some g → l.length = 0 ∨ G g) : OwnSl w' lo v l := by
  by_cases h0 : l.length = 0
  · exact h.emptyF h0
  · exact h.keepK k (fun g e => (hg g e).resolve_left h0)
theorem OwnSlR.off {w w' : World} {lo : Nat} {v : Value} {l : List RumV} (h : OwnSlR w lo v l) {G : Nat → Prop} (k : Keeps G w w') (hg : ∀ g, v.ownBlock = some g → l.length = 0 ∨ G g) : OwnSlR w' lo v l := by
  by_cases h0 : l.length = 0
  · exact h.emptyR h0
  · obtain ⟨a, cap, rfl, ho, hz⟩ := h
    refine ⟨a, cap, rfl, ?_, hz⟩
    rcases ho with h1 | ⟨q, off, rfl, hlo, hlt, hc, hf⟩
    · exact .inl h1
    · have hq := (hg q rfl).resolve_left h0
      exact .inr ⟨q, off, rfl, hlo, Nat.lt_of_lt_of_le hlt k.size, fun i hi => (k.cell (p := ⟨q, off + i, none⟩) hlt hq).trans (hc i hi), fun i hi => (k.frozen (p := ⟨q, off + i, none⟩) hlt hq).trans (hf i hi)⟩
theorem OwnNums.off {w w' : World} {lo : Nat} {a : Option Addr} {l : List Int} (h : OwnNums w lo a l) {G : Nat → Prop} (k : Keeps G w w') (hg : ∀ b off, a = some ⟨b, off, none⟩ → G b) : OwnNums w' lo a l := by
  rcases h with h | ⟨b, off, rfl, hlo, hlt, hc, hf⟩
  · exact .inl h
  · have hq := hg b off rfl
    exact .inr ⟨b, off, rfl, hlo, Nat.lt_of_lt_of_le hlt k.size, fun i hi => (k.cell (p := ⟨b, off + i, none⟩) hlt hq).trans (hc i hi), fun i hi => (k.frozen (p := ⟨b, off + i, none⟩) hlt hq).trans (hf i hi)⟩
theorem blk_off {v : Value} {n g : Nat} (h : v.ownBlock = some g → n = 0) : blkOf v n g := by
  by_cases e : v.ownBlock = some g
  · exact .inl (h e)
  · exact .inr e
theorem OwnSl.before {w : World} {lo g : Nat} {v : Value} {l : List FactV} (h : OwnSl w lo v l) (hg : w.heap.size ≤ g) : blkOf v l.length g := blk_off (fun e => by
  obtain ⟨a, cap, rfl, ho, hz⟩ := h
  rcases ho with h | ⟨b, off, rfl, _, hlt, _⟩
  · have := cellsOf_length FactV.cells_len l; rw [h] at this; simp at this; omega
  · simp [Value.ownBlock] at e
    omega)
theorem OwnSlR.before {w : World} {lo g : Nat} {v : Value} {l : List RumV} (h : OwnSlR w lo v l) (hg : w.heap.size ≤ g) : blkOf v l.length g := blk_off (fun e => by
  obtain ⟨a, cap, rfl, ho, hz⟩ := h
  rcases ho with h | ⟨b, off, rfl, _, hlt, _⟩
  · have := cellsOf_length RumV.cells_len l; rw [h] at this; simp at this; omega
  · simp [Value.ownBlock] at e
    omega)
theorem Ap.symm {u v : Value} {n m : Nat} (h : Ap u n v m) : Ap v m u n := fun g e1 e2 => (h g e2 e1).symm
theorem offSl {u v : Value} {n m : Nat} (h : Ap u n v m) : ∀ g, v.ownBlock = some g → m = 0 ∨ blkOf u n g := fun g e => by
  by_cases h0 : m = 0
  · exact .inl h0
  · exact .inr (blk_off (fun e2 => (h g e2 e).resolve_right h0))
/-- The post of markTurn, as what it leaves alone. -/
theorem markPost_keeps {lo n : Nat} {p : Option Addr} {k : Int} {w w' : World} {e : Ending} (h : MarkPost lo p k n w e w') (hlo : lo ≤ w.heap.size) : Keeps (fun g => ∀ b off, p = some ⟨b, off, none⟩ → g ≠ b) w w' :=
  ⟨h.2.2.1.os, h.2.2.1.tape, h.2.2.1.output, h.2.2.1.size, fun c hc hg => h.2.2.2 c hc hg⟩
set_option maxHeartbeats 2000000 in
set_option maxRecDepth 100000 in
theorem markNode_any (lo : Nat) (a : NodeM) (n : NodeV) (k : Nat) (w : World) (hl : NodeLen n 1048576) (hk0 : 0 < k) (hk : k ≤ 50000000) (hlo : lo ≤ w.heap.size) (ho : OwnNode w lo a n) :
    Calls Tryz.prog 38 #[nodeVal a n, .int .i64 k] w fun e w' => e = .returned (.int .i64 (kN k n : Nat)) ∧ OwnNode w' lo a (markedN k n) ∧ Keeps (offN a n) w w' := by
  have hlv := hl.v
  have hlr := hl.r
  have hlt := hl.t
  have hld := hl.d
  have HO : Hid (OwnNode w lo a n) := ho
  have B := (Below.refl w.heap.size w).alloc (Nat.le_refl _) (.cells #[.int .i64 n.id, .int .i64 n.inc, .int .i64 n.num, .int .i64 n.seed, .int .i64 n.next, .slice a.va n.view.length a.vc, .slice a.ra n.rum.length a.rc, .slice a.ta n.tl.length a.tc, .int .i64 n.at0, .int .i64 n.pb.node, .int .i64 n.pb.num, .int .i64 n.pb.due, .bool n.pb.asked, .slice a.da n.db.length a.dc] 32)
  have K0 : Keeps (fun _ => True) w (w.alloc (.cells #[.int .i64 n.id, .int .i64 n.inc, .int .i64 n.num, .int .i64 n.seed, .int .i64 n.next, .slice a.va n.view.length a.vc, .slice a.ra n.rum.length a.rc, .slice a.ta n.tl.length a.tc, .int .i64 n.at0, .int .i64 n.pb.node, .int .i64 n.pb.num, .int .i64 n.pb.due, .bool n.pb.asked, .slice a.da n.db.length a.dc] 32)) := (Keeps.refl _ _).alloc _
  have p0 := BlkIs.new w 32 #[.int .i64 n.id, .int .i64 n.inc, .int .i64 n.num, .int .i64 n.seed, .int .i64 n.next, .slice a.va n.view.length a.vc, .slice a.ra n.rum.length a.rc, .slice a.ta n.tl.length a.tc, .int .i64 n.at0, .int .i64 n.pb.node, .int .i64 n.pb.num, .int .i64 n.pb.due, .bool n.pb.asked, .slice a.da n.db.length a.dc]
  have ov := ho.v.off K0 (fun g _ => .inr trivial)
  have orr := ho.r.off K0 (fun g _ => .inr trivial)
  have ot := ho.t.off K0 (fun _ _ _ => trivial)
  have od := ho.d.off K0 (fun g _ => .inr trivial)
  have KK : Keeps (offN a n) w (w.alloc (.cells #[.int .i64 n.id, .int .i64 n.inc, .int .i64 n.num, .int .i64 n.seed, .int .i64 n.next, .slice a.va n.view.length a.vc, .slice a.ra n.rum.length a.rc, .slice a.ta n.tl.length a.tc, .int .i64 n.at0, .int .i64 n.pb.node, .int .i64 n.pb.num, .int .i64 n.pb.due, .bool n.pb.asked, .slice a.da n.db.length a.dc] 32)) := (Keeps.refl _ _).alloc _
  have HVK : Hid (kV k n = k + 3 * n.view.length) := rfl
  have HRK : Hid (kR k n = kV k n + 4 * n.rum.length) := rfl
  have HTK : Hid (kT k n = kR k n + n.tl.length) := rfl
  have HNK : Hid (kN k n = kT k n + 3 * n.db.length) := rfl
  unfold nodeVal nodeCells
  go_enter Tryz.func38, Tryz.ntmps38
  go_upto_region 1 with fail
  obtain ⟨X0, hX⟩ : ∃ W, w.alloc (.cells #[.int .i64 n.id, .int .i64 n.inc, .int .i64 n.num, .int .i64 n.seed, .int .i64 n.next, .slice a.va n.view.length a.vc, .slice a.ra n.rum.length a.rc, .slice a.ta n.tl.length a.tc, .int .i64 n.at0, .int .i64 n.pb.node, .int .i64 n.pb.num, .int .i64 n.pb.due, .bool n.pb.asked, .slice a.da n.db.length a.dc] 32) = W := ⟨_, rfl⟩
  rw [hX] at p0 ov orr ot od KK B ⊢
  have hlo0 : lo ≤ X0.heap.size := Nat.le_trans hlo B.size
  have hw0 : w.heap.size < X0.heap.size := p0.lt
  clear hX K0 B ho hl
  have c5 : X0.cell? ⟨w.heap.size, 5, none⟩ = some (.slice a.va n.view.length a.vc) := p0.cell 5
  go_wp2_with fail
  refine (markF_any lo (vSl a n) n.view k _ hlv hk0 (by omega) ov).mono ?_
  rintro e X1 ⟨rfl, ov1, k1⟩
  rw [← HVK.out]
  replace p0 := p0.keepK k1 (HO.out.v.before (Nat.le_refl _))
  replace orr := orr.off k1 (offSl HO.out.vr)
  replace ot := ot.off k1 (fun b off e => blk_off (fun e2 => HO.out.tv b off e e2))
  replace od := od.off k1 (offSl HO.out.vd)
  replace KK := KK.trans (k1.mono (fun g _ h => h.1))
  have z1 := k1.size
  clear k1 ov c5
  have c6 : X1.cell? ⟨w.heap.size, 6, none⟩ = some (.slice a.ra n.rum.length a.rc) := p0.cell 6
  go_wp2_with fail
  refine (markR_any lo (rSl a n) n.rum (kV k n) _ hlr (by have := HVK.out; omega) (by have := HVK.out; omega) orr).mono ?_
  rintro e X2 ⟨rfl, or1, k1⟩
  rw [← HRK.out]
  replace p0 := p0.keepK k1 (HO.out.r.before (Nat.le_refl _))
  replace ov1 := ov1.off k1 (by rw [markL_length]; exact offSl HO.out.vr.symm)
  replace ot := ot.off k1 (fun b off e => blk_off (fun e2 => HO.out.tr b off e e2))
  replace od := od.off k1 (offSl HO.out.rd)
  replace KK := KK.trans (k1.mono (fun g _ h => h.2.1))
  have z2 := k1.size
  clear k1 orr c6
  have c7 : X2.cell? ⟨w.heap.size, 7, none⟩ = some (.slice a.ta n.tl.length a.tc) := p0.cell 7
  have c8 : X2.cell? ⟨w.heap.size, 8, none⟩ = some (.int .i64 n.at0) := p0.cell 8
  go_wp2_with fail
  refine (markTurn_any lo a.ta a.tc n.tl n.at0 (kR k n : Nat) _ hlt (by omega) (by have h1 := HVK.out; have h2 := HRK.out; omega) (by omega) ot).mono ?_
  intro e X3 hm
  have k1 := markPost_keeps hm (by omega)
  obtain ⟨rfl, ot1, _, _⟩ := hm
  rw [show ((kR k n : Nat) : Int) + (n.tl.length : Int) = ((kT k n : Nat) : Int) by have := HTK.out; omega]
  replace p0 := p0.keepK k1 (fun b off e h => by have := (HO.out.tb b off e).2; omega)
  replace ov1 := ov1.off k1 (fun g e => by
    by_cases h0 : n.view.length = 0
    · exact .inl (by rw [markL_length]; exact h0)
    · exact .inr (fun b off e2 h => h0 (HO.out.tv b off e2 (by rw [← h]; exact e))))
  replace or1 := or1.off k1 (fun g e => by
    by_cases h0 : n.rum.length = 0
    · exact .inl (by rw [markRL_length]; exact h0)
    · exact .inr (fun b off e2 h => h0 (HO.out.tr b off e2 (by rw [← h]; exact e))))
  replace od := od.off k1 (fun g e => by
    by_cases h0 : n.db.length = 0
    · exact .inl h0
    · exact .inr (fun b off e2 h => h0 (HO.out.td b off e2 (by rw [← h]; exact e))))
  replace KK := KK.trans (k1.mono (fun g _ h => h.2.2.1))
  have z3 := k1.size
  clear k1 ot c7 c8
  have c13 : X3.cell? ⟨w.heap.size, 13, none⟩ = some (.slice a.da n.db.length a.dc) := p0.cell 13
  go_wp2_with fail
  refine (markDb_any lo (dSl a n) n.db (kT k n) _ hld (by have h1 := HVK.out; have h2 := HRK.out; have h3 := HTK.out; omega) (by have h1 := HVK.out; have h2 := HRK.out; have h3 := HTK.out; omega) od).mono ?_
  rintro e X4 ⟨rfl, od1, k1⟩
  rw [← HNK.out]
  replace ov1 := ov1.off k1 (by rw [markL_length]; exact offSl HO.out.vd.symm)
  replace or1 := or1.off k1 (by rw [markRL_length]; exact offSl HO.out.rd.symm)
  replace ot1 := ot1.off k1 (fun b off e => blk_off (fun e2 => HO.out.td b off e e2))
  replace KK := KK.trans (k1.mono (fun g _ h => h.2.2.2))
  have z4 := k1.size
  clear k1 od c13 p0
  have HEND : Hid (OwnNode X4 lo a (markedN k n)) := by
    have e1 : vSl a (markedN k n) = vSl a n := by unfold vSl markedN; dsimp only; rw [markL_length]
    have e2 : rSl a (markedN k n) = rSl a n := by unfold rSl markedN; dsimp only; rw [markRL_length]
    have e3 : dSl a (markedN k n) = dSl a n := by unfold dSl markedN; dsimp only; rw [markL_length]
    have l1 : (markedN k n).view.length = n.view.length := markL_length _ _
    have l2 : (markedN k n).rum.length = n.rum.length := markRL_length _ _
    have l3 : (markedN k n).db.length = n.db.length := markL_length _ _
    refine ⟨?_, ?_, ot1, ?_, ?_, ?_, ?_, ?_, ?_, ?_, fun b off e => ⟨(HO.out.tb b off e).1, Nat.lt_of_lt_of_le (HO.out.tb b off e).2 (by omega)⟩⟩
    · rw [e1]; exact ov1
    · rw [e2]; exact or1
    · rw [e3]; exact od1
    · rw [e1, e2, l1, l2]; exact HO.out.vr
    · rw [e1, e3, l1, l3]; exact HO.out.vd
    · rw [e2, e3, l2, l3]; exact HO.out.rd
    · rw [e1, l1]; exact HO.out.tv
    · rw [e2, l2]; exact HO.out.tr
    · rw [e3, l3]; exact HO.out.td
  clear ov1 or1 ot1 od1
  go_wp2
  go_ret
  exact ⟨rfl, HEND.out, KK⟩
set_option maxHeartbeats 2000000 in
set_option maxRecDepth 100000 in
theorem heldNode_any (a : NodeM) (n : NodeV) (k : Nat) (w : World) (hl : NodeLen n 1048576) (hk0 : 0 < k) (hk : k ≤ 50000000) (hrow : NodeRows w a (markedN k n)) :
    Calls Tryz.prog 120 #[nodeVal a n, .int .i64 k] w fun e w' => e = .returned (.int .i64 (kN k n : Nat)) ∧ Below w.heap.size w w' := by
  have hlv := hl.v
  have hlr := hl.r
  have hlt := hl.t
  have hld := hl.d
  have HVK : Hid (kV k n = k + 3 * n.view.length) := rfl
  have HRK : Hid (kR k n = kV k n + 4 * n.rum.length) := rfl
  have HTK : Hid (kT k n = kR k n + n.tl.length) := rfl
  have HNK : Hid (kN k n = kT k n + 3 * n.db.length) := rfl
  have q0 : ¬ ((kV k n : Nat) : Int) < 0 := by omega
  have q1 : ¬ ((kR k n : Nat) : Int) < 0 := by omega
  have q2 : ¬ ((kT k n : Nat) : Int) < 0 := by omega
  have q3 : ¬ ((kN k n : Nat) : Int) < 0 := by omega
  have B := (Below.refl w.heap.size w).alloc (Nat.le_refl _) (.cells #[.int .i64 n.id, .int .i64 n.inc, .int .i64 n.num, .int .i64 n.seed, .int .i64 n.next, .slice a.va n.view.length a.vc, .slice a.ra n.rum.length a.rc, .slice a.ta n.tl.length a.tc, .int .i64 n.at0, .int .i64 n.pb.node, .int .i64 n.pb.num, .int .i64 n.pb.due, .bool n.pb.asked, .slice a.da n.db.length a.dc] 32)
  have p0 := BlkIs.new w 32 #[.int .i64 n.id, .int .i64 n.inc, .int .i64 n.num, .int .i64 n.seed, .int .i64 n.next, .slice a.va n.view.length a.vc, .slice a.ra n.rum.length a.rc, .slice a.ta n.tl.length a.tc, .int .i64 n.at0, .int .i64 n.pb.node, .int .i64 n.pb.num, .int .i64 n.pb.due, .bool n.pb.asked, .slice a.da n.db.length a.dc]
  unfold nodeVal nodeCells
  go_enter Tryz.func120, Tryz.ntmps120
  go_upto_region 1 with fail
  obtain ⟨X0, hX⟩ : ∃ W, w.alloc (.cells #[.int .i64 n.id, .int .i64 n.inc, .int .i64 n.num, .int .i64 n.seed, .int .i64 n.next, .slice a.va n.view.length a.vc, .slice a.ra n.rum.length a.rc, .slice a.ta n.tl.length a.tc, .int .i64 n.at0, .int .i64 n.pb.node, .int .i64 n.pb.num, .int .i64 n.pb.due, .bool n.pb.asked, .slice a.da n.db.length a.dc] 32) = W := ⟨_, rfl⟩
  rw [hX] at p0 B ⊢
  clear hX hl
  have c5 : X0.cell? ⟨w.heap.size, 5, none⟩ = some (.slice a.va n.view.length a.vc) := p0.cell 5
  go_wp2_with fail
  refine (heldF_any a.va n.view.length a.vc k _ hlv hk0 (by omega) (hrow.v.keep B)).mono ?_
  rintro e X1 ⟨rfl, bx⟩
  rw [← HVK.out]
  replace p0 := p0.keep bx
  replace B := B.trans (bx.mono B.size)
  clear bx c5
  have c6 : X1.cell? ⟨w.heap.size, 6, none⟩ = some (.slice a.ra n.rum.length a.rc) := p0.cell 6
  go_wp2_with fail
  refine (heldR_any a.ra n.rum.length a.rc (kV k n) _ hlr (by have := HVK.out; omega) (by have := HVK.out; omega) (hrow.r.keep B)).mono ?_
  rintro e X2 ⟨rfl, bx⟩
  rw [← HRK.out]
  replace p0 := p0.keep bx
  replace B := B.trans (bx.mono B.size)
  clear bx c6
  have c7 : X2.cell? ⟨w.heap.size, 7, none⟩ = some (.slice a.ta n.tl.length a.tc) := p0.cell 7
  have c8 : X2.cell? ⟨w.heap.size, 8, none⟩ = some (.int .i64 n.at0) := p0.cell 8
  go_wp2_with fail
  refine (heldTurn_any a.ta a.tc n.tl.length n.at0 (kR k n : Nat) _ hlt (by omega) (by have h1 := HVK.out; have h2 := HRK.out; omega) (hrow.t.keep B)).mono ?_
  rintro e X3 ⟨rfl, bx⟩
  rw [show ((kR k n : Nat) : Int) + (n.tl.length : Int) = ((kT k n : Nat) : Int) by have := HTK.out; omega]
  replace p0 := p0.keep bx
  replace B := B.trans (bx.mono B.size)
  clear bx c7 c8
  have c13 : X3.cell? ⟨w.heap.size, 13, none⟩ = some (.slice a.da n.db.length a.dc) := p0.cell 13
  go_wp2_with fail
  refine (heldDb_any a.da n.db.length a.dc (kT k n) _ hld (by have h1 := HVK.out; have h2 := HRK.out; have h3 := HTK.out; omega) (by have h1 := HVK.out; have h2 := HRK.out; have h3 := HTK.out; omega) (hrow.d.keep B)).mono ?_
  rintro e X4 ⟨rfl, bx⟩
  rw [← HNK.out]
  replace B := B.trans (bx.mono B.size)
  clear bx c13 p0
  go_wp2
  go_ret
  exact ⟨rfl, B⟩
end Go.Proofs.YtmdcankfjmkkeaaGreat
