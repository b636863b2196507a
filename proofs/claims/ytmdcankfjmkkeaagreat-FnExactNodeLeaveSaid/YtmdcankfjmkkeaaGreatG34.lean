/- The contract of the specification's l08Copy. -/
import Derived.Test.YtmdcankfjmkkeaaGreatNApp
import Derived.Test.YtmdcankfjmkkeaaGreatG10
import Derived.Test.YtmdcankfjmkkeaaGreatG32
import Derived.Test.YtmdcankfjmkkeaaGreatNHelp
namespace Go.Proofs.YtmdcankfjmkkeaaGreat
open Go Go.RowKit
set_option linter.unusedVariables false
set_option linter.unusedSimpArgs false

theorem notEl_node : NotEl 32 := ⟨by decide, by decide, by decide, by decide⟩
theorem rowCast {w : World} {base e size : Nat} {v : Value} {n n' : Nat} {xs xs' : List Value} (h : w.ownsRow base e size v n xs) (hn : n = n') (hx : xs = xs') : w.ownsRow base e size v n' xs' := by
  subst hn hx; exact h
/-- A nil slice has no room. -/
structure NilOk (a : NodeM) : Prop where
  v : a.va = none → a.vc = 0
  r : a.ra = none → a.rc = 0
  t : a.ta = none → a.tc = 0
  d : a.da = none → a.dc = 0
theorem StRows.nilOk {w : World} {c : Nat} {a : NodeM} {n : NodeV} (h : StRows w c a n) : NilOk a := by
  have key : ∀ {e size k : Nat} {x : Option Addr} {m cap : Nat} {xs : List Value}, w.ownsRow c e size (.slice x m cap) k xs → x = none → cap = 0 := fun h e => by
    rcases h.2 with ⟨hv, _⟩ | ⟨g, c', cur, hv, _⟩
    · simp only [Value.slice.injEq] at hv; exact hv.2.2
    · simp only [Value.slice.injEq] at hv; rw [e] at hv; cases hv.1
  exact ⟨key h.v, key h.r, key h.t, key h.d⟩
/-- What l08Copy answers. -/
def CopyPost (n : NodeV) (w : World) (e : Ending) (w' : World) : Prop := ∃ a, e = .returned (nodeVal a n) ∧ StRows w' w.heap.size a n ∧ Below w.heap.size w w'
set_option maxHeartbeats 8000000 in
set_option maxRecDepth 100000 in
theorem specCopy_any (a : NodeM) (n : NodeV) (w : World) (hl : NodeLen n 1048576) (hn : NilOk a) (hrow : NodeRows w a n) :
    Calls Tryz.prog 74 #[nodeVal a n] w (CopyPost n w) := by
  have hlv := hl.v
  have hlr := hl.r
  have hlt := hl.t
  have hld := hl.d
  have hnt := hn.t
  clear hl
  unfold nodeVal nodeCells
  have p0 := (BlkIs.new w 32 #[.int .i64 n.id, .int .i64 n.inc, .int .i64 n.num, .int .i64 n.seed, .int .i64 n.next, .slice a.va n.view.length a.vc, .slice a.ra n.rum.length a.rc, .slice a.ta n.tl.length a.tc, .int .i64 n.at0, .int .i64 n.pb.node, .int .i64 n.pb.num, .int .i64 n.pb.due, .bool n.pb.asked, .slice a.da n.db.length a.dc]).keep ((Below.refl _ _).alloc (Nat.le_refl _) (.cells #[.int .i64 0, .int .i64 0, .int .i64 0, .int .i64 0, .int .i64 0, .slice none 0 0, .slice none 0 0, .slice none 0 0, .int .i64 0, .int .i64 0, .int .i64 0, .int .i64 0, .bool false, .slice none 0 0] 32))
  have B := ((Below.refl w.heap.size w).alloc (Nat.le_refl _) (.cells #[.int .i64 n.id, .int .i64 n.inc, .int .i64 n.num, .int .i64 n.seed, .int .i64 n.next, .slice a.va n.view.length a.vc, .slice a.ra n.rum.length a.rc, .slice a.ta n.tl.length a.tc, .int .i64 n.at0, .int .i64 n.pb.node, .int .i64 n.pb.num, .int .i64 n.pb.due, .bool n.pb.asked, .slice a.da n.db.length a.dc] 32)).alloc (by simp) (.cells #[.int .i64 0, .int .i64 0, .int .i64 0, .int .i64 0, .int .i64 0, .slice none 0 0, .slice none 0 0, .slice none 0 0, .int .i64 0, .int .i64 0, .int .i64 0, .int .i64 0, .bool false, .slice none 0 0] 32)
  have q0 := BlkIs.new (w.alloc (.cells #[.int .i64 n.id, .int .i64 n.inc, .int .i64 n.num, .int .i64 n.seed, .int .i64 n.next, .slice a.va n.view.length a.vc, .slice a.ra n.rum.length a.rc, .slice a.ta n.tl.length a.tc, .int .i64 n.at0, .int .i64 n.pb.node, .int .i64 n.pb.num, .int .i64 n.pb.due, .bool n.pb.asked, .slice a.da n.db.length a.dc] 32)) 32 #[.int .i64 0, .int .i64 0, .int .i64 0, .int .i64 0, .int .i64 0, .slice none 0 0, .slice none 0 0, .slice none 0 0, .int .i64 0, .int .i64 0, .int .i64 0, .int .i64 0, .bool false, .slice none 0 0]
  go_enter Tryz.func74, Tryz.ntmps74
  go_upto_region 1 with fail
  rw [World.size_alloc] at q0
  obtain ⟨X, hX⟩ : ∃ W, (w.alloc (.cells #[.int .i64 n.id, .int .i64 n.inc, .int .i64 n.num, .int .i64 n.seed, .int .i64 n.next, .slice a.va n.view.length a.vc, .slice a.ra n.rum.length a.rc, .slice a.ta n.tl.length a.tc, .int .i64 n.at0, .int .i64 n.pb.node, .int .i64 n.pb.num, .int .i64 n.pb.due, .bool n.pb.asked, .slice a.da n.db.length a.dc] 32)).alloc (.cells #[.int .i64 0, .int .i64 0, .int .i64 0, .int .i64 0, .int .i64 0, .slice none 0 0, .slice none 0 0, .slice none 0 0, .int .i64 0, .int .i64 0, .int .i64 0, .int .i64 0, .bool false, .slice none 0 0] 32) = W := ⟨_, rfl⟩
  rw [hX] at p0 q0 B ⊢
  clear hX
  obtain ⟨kb, hkb⟩ : ∃ k, w.heap.size = k := ⟨_, rfl⟩
  have hwk : w.heap.size ≤ kb := by omega
  rw [hkb] at p0 q0 ⊢
  have hkr : kb ≠ kb + 1 := by omega
  have c5 : (X.alloc (.cells #[] 54)).cell? ⟨kb, 5, none⟩ = some (.slice a.va n.view.length a.vc) := (p0.keep ((Below.refl _ _).alloc (Nat.le_refl _) _)).cell 5
  go_upto_region 2 with (first
    | (at_builtin; refine appFL rfl rfl _ _ rfl w.heap.size _ 0 [] rfl (World.ownsRow_lit X #[] 0 (show w.heap.size ≤ X.heap.size from B.size) (by simp [maxLen]) rfl) a.va n.view.length a.vc hn.v n.view rfl rfl ((hrow.v.keep B).keep ((Below.refl _ _).alloc (Nat.le_refl _) _)) (by omega) (Nat.le_trans B.size (by simp)) ?_; intro vv Yv rowv gv _; replace rowv := rowCast rowv (Nat.zero_add _) (List.nil_append _); obtain ⟨sv, uv, rfl⟩ := rowSlice rowv; have bv : Below X.heap.size X Yv := ((Below.refl _ _).alloc (Nat.le_refl _) _).grown gv (by simp) (fun q hq => Nat.le_of_eq (Option.some.inj hq)); have pk := p0.keep bv)
    | (refine store_cell pk rfl _ _ _ rfl 5 (.slice sv n.view.length uv) rfl rfl (show 5 < 14 by decide) (by kernel_rfl) rfl ?_; intro Vv q1 k1))
  replace q0 := q0.keep bv
  replace B := B.trans (bv.mono B.size)
  replace rowv := rowKeep rowv k1 (fun g e hg => pk.not_row notEl_node.f rowv (hg ▸ e))
  replace q0 := q0.keepK k1 (fun h => hkr h.symm)
  replace B := B.trans (k1.belowNe hwk B.size)
  replace p0 : BlkIs Vv kb 32 #[.int .i64 n.id, .int .i64 n.inc, .int .i64 n.num, .int .i64 n.seed, .int .i64 n.next, .slice sv n.view.length uv, .slice a.ra n.rum.length a.rc, .slice a.ta n.tl.length a.tc, .int .i64 n.at0, .int .i64 n.pb.node, .int .i64 n.pb.num, .int .i64 n.pb.due, .bool n.pb.asked, .slice a.da n.db.length a.dc] := q1
  clear q1 k1 pk bv gv c5
  have c6 : (Vv.alloc (.cells #[] 59)).cell? ⟨kb, 6, none⟩ = some (.slice a.ra n.rum.length a.rc) := (p0.keep ((Below.refl _ _).alloc (Nat.le_refl _) _)).cell 6
  go_upto_region 3 with (first
    | (at_builtin; refine appRL rfl rfl _ _ rfl w.heap.size _ 0 [] rfl (World.ownsRow_lit Vv #[] 0 (show w.heap.size ≤ Vv.heap.size from B.size) (by simp [maxLen]) rfl) a.ra n.rum.length a.rc hn.r n.rum rfl rfl ((hrow.r.keep B).keep ((Below.refl _ _).alloc (Nat.le_refl _) _)) (by omega) (Nat.le_trans B.size (by simp)) ?_; intro vr Yr rowr gr _; replace rowr := rowCast rowr (Nat.zero_add _) (List.nil_append _); obtain ⟨sr, ur, rfl⟩ := rowSlice rowr; have br : Below Vv.heap.size Vv Yr := ((Below.refl _ _).alloc (Nat.le_refl _) _).grown gr (by simp) (fun q hq => Nat.le_of_eq (Option.some.inj hq)); have pk := p0.keep br)
    | (refine store_cell pk rfl _ _ _ rfl 6 (.slice sr n.rum.length ur) rfl rfl (show 6 < 14 by decide) (by kernel_rfl) rfl ?_; intro Vr q1 k1))
  replace q0 := q0.keep br
  replace B := B.trans (br.mono B.size)
  replace rowv := rowBelow rowv br
  replace rowv := rowKeep rowv k1 (fun g e hg => pk.not_row notEl_node.f rowv (hg ▸ e))
  replace rowr := rowKeep rowr k1 (fun g e hg => pk.not_row notEl_node.r rowr (hg ▸ e))
  replace q0 := q0.keepK k1 (fun h => hkr h.symm)
  replace B := B.trans (k1.belowNe hwk B.size)
  replace p0 : BlkIs Vr kb 32 #[.int .i64 n.id, .int .i64 n.inc, .int .i64 n.num, .int .i64 n.seed, .int .i64 n.next, .slice sv n.view.length uv, .slice sr n.rum.length ur, .slice a.ta n.tl.length a.tc, .int .i64 n.at0, .int .i64 n.pb.node, .int .i64 n.pb.num, .int .i64 n.pb.due, .bool n.pb.asked, .slice a.da n.db.length a.dc] := q1
  clear q1 k1 pk br gr c6
  have c7 : (Vr.alloc (.cells #[] 2)).cell? ⟨kb, 7, none⟩ = some (.slice a.ta n.tl.length a.tc) := (p0.keep ((Below.refl _ _).alloc (Nat.le_refl _) _)).cell 7
  go_upto_region 4 with (first
    | (at_builtin; refine append_nums rfl _ _ rfl w.heap.size _ 0 [] rfl (World.ownsRow_lit Vr #[] 0 (show w.heap.size ≤ Vr.heap.size from B.size) (by simp [maxLen]) rfl) a.ta a.tc n.tl rfl hnt ((hrow.t.keep B).keep ((Below.refl _ _).alloc (Nat.le_refl _) _)) (by omega) (Nat.le_trans B.size (by simp)) ?_; intro vt Yt rowt gt; replace rowt := rowCast rowt (Nat.zero_add _) (List.nil_append _); obtain ⟨st, ut, rfl⟩ := rowSlice rowt; have bt : Below Vr.heap.size Vr Yt := ((Below.refl _ _).alloc (Nat.le_refl _) _).grown gt (by simp) (fun q hq => Nat.le_of_eq (Option.some.inj hq)); have pk := p0.keep bt)
    | (refine store_cell pk rfl _ _ _ rfl 7 (.slice st n.tl.length ut) rfl rfl (show 7 < 14 by decide) (by kernel_rfl) rfl ?_; intro Vt q1 k1))
  replace q0 := q0.keep bt
  replace B := B.trans (bt.mono B.size)
  replace rowv := rowBelow rowv bt
  replace rowr := rowBelow rowr bt
  replace rowv := rowKeep rowv k1 (fun g e hg => pk.not_row notEl_node.f rowv (hg ▸ e))
  replace rowr := rowKeep rowr k1 (fun g e hg => pk.not_row notEl_node.r rowr (hg ▸ e))
  replace rowt := rowKeep rowt k1 (fun g e hg => pk.not_row notEl_node.i rowt (hg ▸ e))
  replace q0 := q0.keepK k1 (fun h => hkr h.symm)
  replace B := B.trans (k1.belowNe hwk B.size)
  replace p0 : BlkIs Vt kb 32 #[.int .i64 n.id, .int .i64 n.inc, .int .i64 n.num, .int .i64 n.seed, .int .i64 n.next, .slice sv n.view.length uv, .slice sr n.rum.length ur, .slice st n.tl.length ut, .int .i64 n.at0, .int .i64 n.pb.node, .int .i64 n.pb.num, .int .i64 n.pb.due, .bool n.pb.asked, .slice a.da n.db.length a.dc] := q1
  clear q1 k1 pk bt gt c7
  have c13 : (Vt.alloc (.cells #[] 112)).cell? ⟨kb, 13, none⟩ = some (.slice a.da n.db.length a.dc) := (p0.keep ((Below.refl _ _).alloc (Nat.le_refl _) _)).cell 13
  go_upto_region 5 with (first
    | (at_builtin; refine appDL rfl rfl _ _ rfl w.heap.size _ 0 [] rfl (World.ownsRow_lit Vt #[] 0 (show w.heap.size ≤ Vt.heap.size from B.size) (by simp [maxLen]) rfl) a.da n.db.length a.dc hn.d n.db rfl rfl ((hrow.d.keep B).keep ((Below.refl _ _).alloc (Nat.le_refl _) _)) (by omega) (Nat.le_trans B.size (by simp)) ?_; intro vd Yd rowd gd _; replace rowd := rowCast rowd (Nat.zero_add _) (List.nil_append _); obtain ⟨sd, ud, rfl⟩ := rowSlice rowd; have bd : Below Vt.heap.size Vt Yd := ((Below.refl _ _).alloc (Nat.le_refl _) _).grown gd (by simp) (fun q hq => Nat.le_of_eq (Option.some.inj hq)); have pk := p0.keep bd)
    | (refine store_cell pk rfl _ _ _ rfl 13 (.slice sd n.db.length ud) rfl rfl (show 13 < 14 by decide) (by kernel_rfl) rfl ?_; intro Vd q1 k1))
  replace q0 := q0.keep bd
  replace B := B.trans (bd.mono B.size)
  replace rowv := rowBelow rowv bd
  replace rowr := rowBelow rowr bd
  replace rowt := rowBelow rowt bd
  replace rowv := rowKeep rowv k1 (fun g e hg => pk.not_row notEl_node.f rowv (hg ▸ e))
  replace rowr := rowKeep rowr k1 (fun g e hg => pk.not_row notEl_node.r rowr (hg ▸ e))
  replace rowt := rowKeep rowt k1 (fun g e hg => pk.not_row notEl_node.i rowt (hg ▸ e))
  replace rowd := rowKeep rowd k1 (fun g e hg => pk.not_row notEl_node.d rowd (hg ▸ e))
  replace q0 := q0.keepK k1 (fun h => hkr h.symm)
  replace B := B.trans (k1.belowNe hwk B.size)
  replace p0 : BlkIs Vd kb 32 #[.int .i64 n.id, .int .i64 n.inc, .int .i64 n.num, .int .i64 n.seed, .int .i64 n.next, .slice sv n.view.length uv, .slice sr n.rum.length ur, .slice st n.tl.length ut, .int .i64 n.at0, .int .i64 n.pb.node, .int .i64 n.pb.num, .int .i64 n.pb.due, .bool n.pb.asked, .slice sd n.db.length ud] := q1
  clear q1 k1 pk bd gd c13
  go_wp2_with (first
    | (refine load_blk p0 rfl _ _ rfl rfl _ Tryz.underlying32 (by kernel_rfl) ?_)
    | (refine store_blk q0 rfl _ _ _ rfl rfl rfl (by kernel_rfl) rfl (by kernel_rfl) ?_; intro U P K))
  refine ret_blk P Tryz.results74 rfl _ Tryz.underlying32 (by kernel_rfl) rfl ?_
  exact ⟨⟨sv, uv, sr, ur, st, ut, sd, ud⟩, rfl, (StRows.mk rowv rowr rowt rowd : StRows Vd w.heap.size ⟨sv, uv, sr, ur, st, ut, sd, ud⟩ n).keepB q0 notEl_node K, B.trans (K.belowNe (by omega) B.size)⟩
end Go.Proofs.YtmdcankfjmkkeaaGreat
/- A node that a law has copied: one's own; how small a right node is. -/
namespace Go.Proofs.YtmdcankfjmkkeaaGreat
open Go Go.RowKit
set_option linter.unusedVariables false

theorem copy_own {w w' : World} {n : NodeV} {gv gr gt gd : Nat} (C : CopyAt w w' n gv gr gt gd) : OwnNode w' w.heap.size (n.copied gv gr gt gd) n where
  v := ⟨_, _, rfl, C.v, .inr ⟨gv, rfl⟩⟩
  r := ⟨_, _, rfl, C.r, .inr ⟨gr, rfl⟩⟩
  t := C.t
  d := ⟨_, _, rfl, C.d, .inr ⟨gd, rfl⟩⟩
  vr := fun g h1 h2 => by
    have e1 : gv = g := Option.some.inj h1
    have e2 : gr = g := Option.some.inj h2
    have := C.o1
    omega
  vd := fun g h1 h2 => by
    have e1 : gv = g := Option.some.inj h1
    have e2 : gd = g := Option.some.inj h2
    have := C.o1; have := C.o2; have := C.o3
    omega
  rd := fun g h1 h2 => by
    have e1 : gr = g := Option.some.inj h1
    have e2 : gd = g := Option.some.inj h2
    have := C.o2; have := C.o3
    omega
  tv := fun g off h1 h2 => by
    have e1 : gt = g := congrArg Addr.block (Option.some.inj h1)
    have e2 : gv = g := Option.some.inj h2
    have := C.o1; have := C.o2
    omega
  tr := fun g off h1 h2 => by
    have e1 : gt = g := congrArg Addr.block (Option.some.inj h1)
    have e2 : gr = g := Option.some.inj h2
    have := C.o2
    omega
  td := fun g off h1 h2 => by
    have e1 : gt = g := congrArg Addr.block (Option.some.inj h1)
    have e2 : gd = g := Option.some.inj h2
    have := C.o3
    omega
  tb := fun b off h1 => by
    have e1 : gt = b := congrArg Addr.block (Option.some.inj h1)
    have := C.o0; have := C.o1; have := C.o2; have := C.o3; have := C.o4
    omega
theorem OwnNode.keep {w w' : World} {lo : Nat} {a : NodeM} {n : NodeV} (h : OwnNode w lo a n) (k : Below w.heap.size w w') : OwnNode w' lo a n :=
  h.off (Keeps.ofBelow k (fun q hq _ => hq) : Keeps (fun _ => True) w w') (fun _ _ => trivial)
theorem OwnNode.nrows {w : World} {lo : Nat} {n : NodeV} {gv gr gt gd : Nat} (h : OwnNode w lo (n.copied gv gr gt gd) n) : NodeRows w (n.copied gv gr gt gd) n := by
  obtain ⟨_, _, e1, c1, _⟩ := h.v
  obtain ⟨_, _, e2, c2, _⟩ := h.r
  obtain ⟨_, _, e4, c4, _⟩ := h.d
  unfold vSl at e1
  unfold rSl at e2
  unfold dSl at e4
  simp only [Value.slice.injEq, true_and] at e1 e2 e4
  obtain ⟨rfl, rfl⟩ := e1
  obtain ⟨rfl, rfl⟩ := e2
  obtain ⟨rfl, rfl⟩ := e4
  exact ⟨c1.row, c2.row, h.t.row, c4.row⟩
theorem copied_room (n : NodeV) (gv gr gt gd : Nat) : NodeRoom (n.copied gv gr gt gd) n := ⟨Nat.le_refl _, Nat.le_refl _, Nat.le_refl _, Nat.le_refl _⟩
theorem nilOk_copied (n : NodeV) (gv gr gt gd : Nat) : NilOk (n.copied gv gr gt gd) := ⟨(fun h => by cases h), (fun h => by cases h), (fun h => by cases h), (fun h => by cases h)⟩
theorem ok_small {n : NodeV} (h : n.ok) : n.view.length ≤ 6 ∧ n.rum.length ≤ 6 ∧ n.tl.length ≤ 6 ∧ n.db.length ≤ 6 :=
  ⟨rightV_len h.1.2.2.2.2.2.1, rightR_len h.1.2.2.2.2.2.2.1, nodesT_len h.1.2.2.2.2.2.2.2.1.1, h.1.2.2.2.2.2.2.2.2.1⟩
theorem kN_arg {n : NodeV} (h : NodeLen n 1048576) : kN 1 n ≤ 50000000 := by
  have h1 := h.v
  have h2 := h.r
  have h3 := h.t
  have h4 := h.d
  unfold kN kT kR kV
  omega
end Go.Proofs.YtmdcankfjmkkeaaGreat
/- What NodeLeave answers, plain. No program. -/
namespace Go.Proofs.YtmdcankfjmkkeaaGreat
open Go Go.RowKit
set_option linter.unusedVariables false

/-- Whom a node could ask. -/
def othersM (n : NodeV) : List Int := setDropL (goneL n.view) n.id
def leaveV (n : NodeV) : NodeV := { n with view := addF n.view ⟨n.id, n.inc, 3⟩, num := n.num + 1 }
def leaveMail (n : NodeV) (k : Int) : MailV := ⟨5, n.id, k, n.num, 0, 0, n.view⟩
def leaveM (n : NodeV) : NOutV := ⟨leaveV n, (othersM (leaveV n)).map (leaveMail (leaveV n)), 0, 0⟩
def LeaveIs (n : NodeV) (x : NOutV) : Prop := (n.ok ∧ ¬ goneN n ∧ x = leaveM n) ∨ (n.ok ∧ goneN n ∧ x = illN 10) ∨ (¬ n.ok ∧ x = illN 1)
theorem leaveIs_ex (n : NodeV) : ∃ x, LeaveIs n x := by
  by_cases h : n.ok
  · by_cases k : goneN n
    · exact ⟨_, .inr (.inl ⟨h, k, rfl⟩)⟩
    · exact ⟨_, .inl ⟨h, k, rfl⟩⟩
  · exact ⟨_, .inr (.inr ⟨h, rfl⟩)⟩
end Go.Proofs.YtmdcankfjmkkeaaGreat
