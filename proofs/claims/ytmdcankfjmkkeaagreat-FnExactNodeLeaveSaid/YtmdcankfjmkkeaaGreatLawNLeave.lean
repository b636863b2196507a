/- Proved: laws.FnExactNodeLeave answers true at every node: NodeLeave of the program and of the specification are one function; it writes into no argument, and its answer owns its memory. No condition. -/
import Derived.Test.YtmdcankfjmkkeaaGreatRows
import Derived.WalkKit
import Derived.ProofKit
import Derived.OpenShut
import Derived.ShutString
import Derived.ChangeOld
import Derived.Below
import Derived.Test.YtmdcankfjmkkeaaGreatG34
import Derived.Test.YtmdcankfjmkkeaaGreatNLeaveS
namespace Go.Proofs.YtmdcankfjmkkeaaGreat
open Go Go.ChangeShapes Go.WideShapes Go.ChangeAt Go.RowKit
open Go.ChangeMaps (open_string shut_string)
set_option linter.unusedVariables false
set_option linter.unusedSimpArgs false

theorem leaveIs_small {n : NodeV} {x : NOutV} (h : LeaveIs n x) : OutSmall x ∧ kN 1 x.node ≤ 1000 := by
  rcases h with ⟨hok, _, rfl⟩ | ⟨_, _, rfl⟩ | ⟨_, rfl⟩
  · have hs := ok_small hok
    obtain ⟨h1, h2, h3⟩ := leave_len n hok.1.2.2.2.2.2.1 ⟨hok.1.1, hok.1.2.1, (by show (1 : Int) ≤ 3; omega), (by show (3 : Int) ≤ 3; omega)⟩
    refine ⟨⟨⟨?_, ?_, ?_, ?_⟩, ?_, ?_⟩, ?_⟩
    · show (leaveV n).view.length ≤ _; omega
    · show n.rum.length ≤ _; omega
    · show n.tl.length ≤ _; omega
    · show n.db.length ≤ _; omega
    · show ((othersM (leaveV n)).map _).length ≤ _
      rw [List.length_map]
      omega
    · intro m hm
      obtain ⟨k, _, rfl⟩ := List.mem_map.1 hm
      show (leaveV n).view.length ≤ _
      omega
    · show kN 1 (leaveV n) ≤ 1000
      have e1 : (leaveV n).rum = n.rum := rfl
      have e2 : (leaveV n).tl = n.tl := rfl
      have e3 : (leaveV n).db = n.db := rfl
      simp only [kN, kT, kR, kV, e1, e2, e3]
      omega
  · exact ⟨⟨⟨by simp [illN, NodeV.z], by simp [illN, NodeV.z], by simp [illN, NodeV.z], by simp [illN, NodeV.z]⟩, by simp [illN], by simp [illN]⟩, by simp [illN, NodeV.z, kN, kT, kR, kV]⟩
  · exact ⟨⟨⟨by simp [illN, NodeV.z], by simp [illN, NodeV.z], by simp [illN, NodeV.z], by simp [illN, NodeV.z]⟩, by simp [illN], by simp [illN]⟩, by simp [illN, NodeV.z, kN, kT, kR, kV]⟩
set_option maxHeartbeats 8000000 in
set_option maxRecDepth 100000 in
theorem FnExactNodeLeave_walk (a0 : NodeA) (w : World) (w0 : NodeArg w a0) :
    Calls Tryz.prog 8 #[a0.val] w fun e w' => e = .returned (.bool true) ∧ Below w.heap.size w w' := by
  have hrow0 := w0.1
  have hroom0 := w0.2.1
  have hlm := w0.2.2.1
  obtain ⟨a, n⟩ := a0
  dsimp only at hrow0 hlm hroom0
  obtain ⟨x, hx⟩ := leaveIs_ex n
  have hsm := leaveIs_small hx
  obtain ⟨nd, ml, miss, code⟩ := x
  have HX : Hid (LeaveIs n ⟨nd, ml, miss, code⟩) := hx
  have HS : Hid (OutSmall ⟨nd, ml, miss, code⟩) := hsm.1
  have HK0 : Hid (kN 1 nd ≤ 1000) := hsm.2
  clear hx hsm w0
  have P := BlkIs.new w 67 #[.int .i64 n.id, .int .i64 n.inc, .int .i64 n.num, .int .i64 n.seed, .int .i64 n.next, .slice a.va n.view.length a.vc, .slice a.ra n.rum.length a.rc, .slice a.ta n.tl.length a.tc, .int .i64 n.at0, .int .i64 n.pb.node, .int .i64 n.pb.num, .int .i64 n.pb.due, .bool n.pb.asked, .slice a.da n.db.length a.dc]
  have B := (Below.refl w.heap.size w).alloc (Nat.le_refl _) (.cells #[.int .i64 n.id, .int .i64 n.inc, .int .i64 n.num, .int .i64 n.seed, .int .i64 n.next, .slice a.va n.view.length a.vc, .slice a.ra n.rum.length a.rc, .slice a.ta n.tl.length a.tc, .int .i64 n.at0, .int .i64 n.pb.node, .int .i64 n.pb.num, .int .i64 n.pb.due, .bool n.pb.asked, .slice a.da n.db.length a.dc] 67)
  have hrow := hrow0.keep B
  obtain ⟨W, hW⟩ : ∃ W, w.alloc (.cells #[.int .i64 n.id, .int .i64 n.inc, .int .i64 n.num, .int .i64 n.seed, .int .i64 n.next, .slice a.va n.view.length a.vc, .slice a.ra n.rum.length a.rc, .slice a.ta n.tl.length a.tc, .int .i64 n.at0, .int .i64 n.pb.node, .int .i64 n.pb.num, .int .i64 n.pb.due, .bool n.pb.asked, .slice a.da n.db.length a.dc] 67) = W := ⟨_, rfl⟩
  rw [hW] at P B hrow
  have HW : Hid (_ = W) := hW
  have hPW := P.lt
  clear hW
  unfold NodeA.val nodeVal nodeCells
  go_enter Tryz.func8, Tryz.ntmps8
  go_upto_region 2 with fail
  rw [HW.out]
  clear HW
  have zw : Hid (w.heap.size < W.heap.size) := hPW
  clear hPW
  have cc0 : W.cell? ⟨w.heap.size, 0, none⟩ = some (.int .i64 n.id) := P.cell 0
  have cc1 : W.cell? ⟨w.heap.size, 1, none⟩ = some (.int .i64 n.inc) := P.cell 1
  have cc2 : W.cell? ⟨w.heap.size, 2, none⟩ = some (.int .i64 n.num) := P.cell 2
  have cc3 : W.cell? ⟨w.heap.size, 3, none⟩ = some (.int .i64 n.seed) := P.cell 3
  have cc4 : W.cell? ⟨w.heap.size, 4, none⟩ = some (.int .i64 n.next) := P.cell 4
  have cc5 : W.cell? ⟨w.heap.size, 5, none⟩ = some (.slice a.va n.view.length a.vc) := P.cell 5
  have cc6 : W.cell? ⟨w.heap.size, 6, none⟩ = some (.slice a.ra n.rum.length a.rc) := P.cell 6
  have cc7 : W.cell? ⟨w.heap.size, 7, none⟩ = some (.slice a.ta n.tl.length a.tc) := P.cell 7
  have cc8 : W.cell? ⟨w.heap.size, 8, none⟩ = some (.int .i64 n.at0) := P.cell 8
  have cc9 : W.cell? ⟨w.heap.size, 9, none⟩ = some (.int .i64 n.pb.node) := P.cell 9
  have cc10 : W.cell? ⟨w.heap.size, 10, none⟩ = some (.int .i64 n.pb.num) := P.cell 10
  have cc11 : W.cell? ⟨w.heap.size, 11, none⟩ = some (.int .i64 n.pb.due) := P.cell 11
  have cc12 : W.cell? ⟨w.heap.size, 12, none⟩ = some (.bool n.pb.asked) := P.cell 12
  have cc13 : W.cell? ⟨w.heap.size, 13, none⟩ = some (.slice a.da n.db.length a.dc) := P.cell 13
  go_wp2_with fail
  refine (szNode_any ⟨a, n⟩ 1048576 _ (by omega) (by omega) hlm).mono ?_
  rintro e v0 ⟨q, rfl, hq, bb⟩
  clear hlm cc0 cc1 cc2 cc3 cc4 cc5 cc6 cc7 cc8 cc9 cc10 cc11 cc12 cc13
  replace P := P.keep bb
  replace hrow := hrow.keep bb
  replace B := B.trans (bb.mono B.size)
  have zs0 : Hid (W.heap.size ≤ v0.heap.size) := bb.size
  clear bb
  rcases hq with rfl | ⟨hq0, _, hlen⟩
  · go_wp2
    go_ret
    exact ⟨rfl, B⟩
  have hq1 : ¬ q < 0 := by omega
  have HLEN : Hid (NodeLen n 1048576) := hlen
  clear hq0 hlen
  go_upto_region 6 with (first
    | (go_at_call 35; refine (toNode_any a n _ HLEN.out hrow).mono ?_; rintro e t1 ⟨gv1, gr1, gt1, gd1, rfl, C1, b1⟩; have N1 := copy_own C1)
    | (go_at_call 22; refine (specLeave_any (n.copied gv1 gr1 gt1 gd1) n ⟨nd, ml, miss, code⟩ _ HX.out HLEN.out (copied_room _ _ _ _ _) (nilOk_copied _ _ _ _ _) N1.nrows).mono ?_; rintro e xS ⟨aS, vS, msS, rfl, oS, eS, rS, bb⟩; obtain ⟨amS, acS, rfl⟩ := oS.slice; dsimp only at oS eS ⊢; unfold outVal outCells)
    | (refine load_blk P rfl 67 _ rfl rfl _ Tryz.underlying67 (by kernel_rfl) ?_)
    | (refine store_blk (BlkIs.new _ _ _) rfl 37 _ _ rfl rfl rfl (by kernel_rfl) rfl (by kernel_rfl) ?_; intro yS PS kk))
  clear rS
  clear N1 C1
  replace P := P.keep b1
  replace hrow := hrow.keep b1
  replace B := B.trans (b1.mono B.size)
  have zs1 : Hid (v0.heap.size ≤ t1.heap.size) := b1.size
  clear b1
  have zlS : Hid (t1.heap.size ≤ xS.heap.size) := bb.size
  have LS : Hid (∀ g, ¬ (offN aS nd g ∧ offM (.slice amS msS.length acS) msS g) → t1.heap.size ≤ g ∧ g < xS.heap.size) := fun g hg => oS.bound hg
  replace P := P.keep bb
  replace hrow := hrow.keep bb
  replace B := B.trans (bb.mono B.size)
  have zs2 : Hid (t1.heap.size ≤ xS.heap.size) := bb.size
  clear bb
  have bb : Below xS.heap.size xS yS := ((Below.refl _ _).alloc (Nat.le_refl _) _).trans (kk.belowNe (Nat.le_refl _) (by simp))
  clear kk
  have zpS : Hid (xS.heap.size < yS.heap.size) := PS.lt
  replace P := P.keep bb
  replace oS := oS.keep bb
  replace hrow := hrow.keep bb
  replace B := B.trans (bb.mono B.size)
  have zs3 : Hid (xS.heap.size ≤ yS.heap.size) := bb.size
  clear bb
  obtain ⟨pS, hpS⟩ : ∃ k, xS.heap.size = k := ⟨_, rfl⟩
  have HPS : Hid (xS.heap.size = pS) := hpS
  rw [hpS] at PS ⊢
  clear hpS
  as_aux_lemma =>
   go_upto_region 7 with (first
     | (go_at_call 35; refine (toNode_any a n _ HLEN.out hrow).mono ?_; rintro e t3 ⟨gv3, gr3, gt3, gd3, rfl, C3, b3⟩; have N3 := copy_own C3; unfold nodeVal nodeCells NodeV.copied; dsimp only)
     | (refine load_blk P rfl 67 _ rfl rfl _ Tryz.underlying67 (by kernel_rfl) ?_)
     | (refine load_blk PS rfl 37 _ rfl rfl _ Tryz.underlying37 (by kernel_rfl) ?_)
     | (refine store_blk (BlkIs.new _ _ _) rfl 32 _ _ rfl rfl rfl (by kernel_rfl) rfl (by kernel_rfl) ?_; intro yX PX kk))
   have zl3 : Hid (yS.heap.size ≤ t3.heap.size) := b3.size
   have LX : Hid (∀ g, ¬ offN (n.copied gv3 gr3 gt3 gd3) n g → yS.heap.size ≤ g ∧ g < t3.heap.size) := fun g hg => N3.bound hg
   clear C3
   replace P := P.keep b3
   replace oS := oS.keep b3
   replace PS := PS.keep b3
   replace hrow := hrow.keep b3
   replace B := B.trans (b3.mono B.size)
   have zs4 : Hid (yS.heap.size ≤ t3.heap.size) := b3.size
   clear b3
   have bb : Below t3.heap.size t3 yX := ((Below.refl _ _).alloc (Nat.le_refl _) _).trans (kk.belowNe (Nat.le_refl _) (by simp))
   clear kk
   have zpX : Hid (t3.heap.size < yX.heap.size) := PX.lt
   replace P := P.keep bb
   replace oS := oS.keep bb
   replace PS := PS.keep bb
   replace hrow := hrow.keep bb
   replace N3 := N3.keep bb
   replace B := B.trans (bb.mono B.size)
   have zs5 : Hid (t3.heap.size ≤ yX.heap.size) := bb.size
   clear bb
   obtain ⟨pX, hpX⟩ : ∃ k, t3.heap.size = k := ⟨_, rfl⟩
   have HPX : Hid (t3.heap.size = pX) := hpX
   rw [hpX] at PX ⊢
   clear hpX
   go_upto_region 8 with (first
     | (go_at_call 16; refine (implLeave_any (n.copied gv3 gr3 gt3 gd3) n ⟨nd, ml, miss, code⟩ _ HX.out HLEN.out (copied_room _ _ _ _ _) N3.nrows).mono ?_; rintro e xG ⟨aG, vG, msG, rfl, oG, eG, rG, bb⟩; obtain ⟨amG, acG, rfl⟩ := oG.slice; dsimp only at oG eG ⊢; unfold outVal outCells)
     | (refine load_blk P rfl 67 _ rfl rfl _ Tryz.underlying67 (by kernel_rfl) ?_)
     | (refine load_blk PS rfl 37 _ rfl rfl _ Tryz.underlying37 (by kernel_rfl) ?_)
     | (refine load_blk PX rfl 32 _ rfl rfl _ Tryz.underlying32 (by kernel_rfl) ?_)
     | (refine store_blk (BlkIs.new _ _ _) rfl 37 _ _ rfl rfl rfl (by kernel_rfl) rfl (by kernel_rfl) ?_; intro yG PG kk))
   clear rG
   have zlG : Hid (yX.heap.size ≤ xG.heap.size) := bb.size
   have LG : Hid (∀ g, ¬ (offN aG nd g ∧ offM (.slice amG msG.length acG) msG g) → yX.heap.size ≤ g ∧ g < xG.heap.size) := fun g hg => oG.bound hg
   replace P := P.keep bb
   replace oS := oS.keep bb
   replace PS := PS.keep bb
   replace PX := PX.keep bb
   replace hrow := hrow.keep bb
   replace N3 := N3.keep bb
   replace B := B.trans (bb.mono B.size)
   have zs6 : Hid (yX.heap.size ≤ xG.heap.size) := bb.size
   clear bb
   have bb : Below xG.heap.size xG yG := ((Below.refl _ _).alloc (Nat.le_refl _) _).trans (kk.belowNe (Nat.le_refl _) (by simp))
   clear kk
   have zpG : Hid (xG.heap.size < yG.heap.size) := PG.lt
   replace P := P.keep bb
   replace oS := oS.keep bb
   replace PS := PS.keep bb
   replace PX := PX.keep bb
   replace oG := oG.keep bb
   replace hrow := hrow.keep bb
   replace N3 := N3.keep bb
   replace B := B.trans (bb.mono B.size)
   have zs7 : Hid (xG.heap.size ≤ yG.heap.size) := bb.size
   clear bb
   obtain ⟨pG, hpG⟩ : ∃ k, xG.heap.size = k := ⟨_, rfl⟩
   have HPG : Hid (xG.heap.size = pG) := hpG
   rw [hpG] at PG ⊢
   clear hpG
   have HK : Hid (kM (kN 1 nd) msG ≤ 90000000) := Nat.le_trans (kM_small HS.out _ eG) (by have := HK0.out; omega)
   have hq2 : ¬ ((kM (kN 1 nd) msG : Nat) : Int) < 0 := by omega
   go_upto_region 10 with (first
     | (go_at_call 36; refine (eqNodeOut_same aG aS nd amG amS acG acS msG msS miss code _ HS.out.node (by have h := congrArg List.length (eG.trans eS.symm); simpa using h.symm) (map_alike (eG.trans eS.symm)) (map_facts HS.out eG).1 (map_facts HS.out eG).2 oG.rows oS.rows oG.mailsAt oS.mailsAt).mono ?_; rintro e v8 ⟨rfl, bb⟩)
     | (refine load_blk P rfl 67 _ rfl rfl _ Tryz.underlying67 (by kernel_rfl) ?_)
     | (refine load_blk PS rfl 37 _ rfl rfl _ Tryz.underlying37 (by kernel_rfl) ?_)
     | (refine load_blk PX rfl 32 _ rfl rfl _ Tryz.underlying32 (by kernel_rfl) ?_)
     | (refine load_blk PG rfl 37 _ rfl rfl _ Tryz.underlying37 (by kernel_rfl) ?_))
   replace P := P.keep bb
   replace oS := oS.keep bb
   replace PS := PS.keep bb
   replace PX := PX.keep bb
   replace oG := oG.keep bb
   replace PG := PG.keep bb
   replace hrow := hrow.keep bb
   replace N3 := N3.keep bb
   replace B := B.trans (bb.mono B.size)
   have zs8 : Hid (yG.heap.size ≤ v8.heap.size) := bb.size
   clear bb
   as_aux_lemma =>
    refine wp_region_held_drew (S := fun w' => Below v8.heap.size v8 w') (by kernel_rfl) ?hS0 (fun hHeld => ?_)
    case hS0 => exact (Below.refl _ _).drew
    refine takeG 0 (v := .agg #[.int .i64 n.id, .int .i64 n.inc, .int .i64 n.num, .int .i64 n.seed, .int .i64 n.next, .slice (some ⟨gv3, 0, none⟩) n.view.length n.view.length, .slice (some ⟨gr3, 0, none⟩) n.rum.length n.rum.length, .slice (some ⟨gt3, 0, none⟩) n.tl.length n.tl.length, .int .i64 n.at0, .int .i64 n.pb.node, .int .i64 n.pb.num, .int .i64 n.pb.due, .bool n.pb.asked, .slice (some ⟨gd3, 0, none⟩) n.db.length n.db.length]) rfl (by kernel_rfl) (by kernel_rfl) (by kernel_rfl) (by kernel_rfl) (fun _ _ _ h => h) ?hy (by assumption) ?_
    case hy => (intro w' hSw; have s0 := show w'.cell? ⟨pX, 0, none⟩ = some (.int .i64 n.id) from (PX.keep hSw).cell 0; (try dsimp only at s0); have s1 := show w'.cell? ⟨pX, 1, none⟩ = some (.int .i64 n.inc) from (PX.keep hSw).cell 1; (try dsimp only at s1); have s2 := show w'.cell? ⟨pX, 2, none⟩ = some (.int .i64 n.num) from (PX.keep hSw).cell 2; (try dsimp only at s2); have s3 := show w'.cell? ⟨pX, 3, none⟩ = some (.int .i64 n.seed) from (PX.keep hSw).cell 3; (try dsimp only at s3); have s4 := show w'.cell? ⟨pX, 4, none⟩ = some (.int .i64 n.next) from (PX.keep hSw).cell 4; (try dsimp only at s4); have s5 := show w'.cell? ⟨pX, 5, none⟩ = some (.slice (some ⟨gv3, 0, none⟩) n.view.length n.view.length) from (PX.keep hSw).cell 5; (try dsimp only at s5); have s6 := show w'.cell? ⟨pX, 6, none⟩ = some (.slice (some ⟨gr3, 0, none⟩) n.rum.length n.rum.length) from (PX.keep hSw).cell 6; (try dsimp only at s6); have s7 := show w'.cell? ⟨pX, 7, none⟩ = some (.slice (some ⟨gt3, 0, none⟩) n.tl.length n.tl.length) from (PX.keep hSw).cell 7; (try dsimp only at s7); have s8 := show w'.cell? ⟨pX, 8, none⟩ = some (.int .i64 n.at0) from (PX.keep hSw).cell 8; (try dsimp only at s8); have s9 := show w'.cell? ⟨pX, 9, none⟩ = some (.int .i64 n.pb.node) from (PX.keep hSw).cell 9; (try dsimp only at s9); have s10 := show w'.cell? ⟨pX, 10, none⟩ = some (.int .i64 n.pb.num) from (PX.keep hSw).cell 10; (try dsimp only at s10); have s11 := show w'.cell? ⟨pX, 11, none⟩ = some (.int .i64 n.pb.due) from (PX.keep hSw).cell 11; (try dsimp only at s11); have s12 := show w'.cell? ⟨pX, 12, none⟩ = some (.bool n.pb.asked) from (PX.keep hSw).cell 12; (try dsimp only at s12); have s13 := show w'.cell? ⟨pX, 13, none⟩ = some (.slice (some ⟨gd3, 0, none⟩) n.db.length n.db.length) from (PX.keep hSw).cell 13; (try dsimp only at s13); go_simp)
    try simp only [List.setIfInBounds_toArray, List.set_cons_zero, List.set_cons_succ]
    refine takeG 1 (v := .agg #[.int .i64 n.id, .int .i64 n.inc, .int .i64 n.num, .int .i64 n.seed, .int .i64 n.next, .slice a.va n.view.length a.vc, .slice a.ra n.rum.length a.rc, .slice a.ta n.tl.length a.tc, .int .i64 n.at0, .int .i64 n.pb.node, .int .i64 n.pb.num, .int .i64 n.pb.due, .bool n.pb.asked, .slice a.da n.db.length a.dc]) rfl (by kernel_rfl) (by kernel_rfl) (by kernel_rfl) (by kernel_rfl) (fun _ _ _ h => h) ?hy (by assumption) ?_
    case hy => (intro w' hSw; have s0 := show w'.cell? ⟨w.heap.size, 0, none⟩ = some (.int .i64 n.id) from (P.keep hSw).cell 0; (try dsimp only at s0); have s1 := show w'.cell? ⟨w.heap.size, 1, none⟩ = some (.int .i64 n.inc) from (P.keep hSw).cell 1; (try dsimp only at s1); have s2 := show w'.cell? ⟨w.heap.size, 2, none⟩ = some (.int .i64 n.num) from (P.keep hSw).cell 2; (try dsimp only at s2); have s3 := show w'.cell? ⟨w.heap.size, 3, none⟩ = some (.int .i64 n.seed) from (P.keep hSw).cell 3; (try dsimp only at s3); have s4 := show w'.cell? ⟨w.heap.size, 4, none⟩ = some (.int .i64 n.next) from (P.keep hSw).cell 4; (try dsimp only at s4); have s5 := show w'.cell? ⟨w.heap.size, 5, none⟩ = some (.slice a.va n.view.length a.vc) from (P.keep hSw).cell 5; (try dsimp only at s5); have s6 := show w'.cell? ⟨w.heap.size, 6, none⟩ = some (.slice a.ra n.rum.length a.rc) from (P.keep hSw).cell 6; (try dsimp only at s6); have s7 := show w'.cell? ⟨w.heap.size, 7, none⟩ = some (.slice a.ta n.tl.length a.tc) from (P.keep hSw).cell 7; (try dsimp only at s7); have s8 := show w'.cell? ⟨w.heap.size, 8, none⟩ = some (.int .i64 n.at0) from (P.keep hSw).cell 8; (try dsimp only at s8); have s9 := show w'.cell? ⟨w.heap.size, 9, none⟩ = some (.int .i64 n.pb.node) from (P.keep hSw).cell 9; (try dsimp only at s9); have s10 := show w'.cell? ⟨w.heap.size, 10, none⟩ = some (.int .i64 n.pb.num) from (P.keep hSw).cell 10; (try dsimp only at s10); have s11 := show w'.cell? ⟨w.heap.size, 11, none⟩ = some (.int .i64 n.pb.due) from (P.keep hSw).cell 11; (try dsimp only at s11); have s12 := show w'.cell? ⟨w.heap.size, 12, none⟩ = some (.bool n.pb.asked) from (P.keep hSw).cell 12; (try dsimp only at s12); have s13 := show w'.cell? ⟨w.heap.size, 13, none⟩ = some (.slice a.da n.db.length a.dc) from (P.keep hSw).cell 13; (try dsimp only at s13); go_simp)
    try simp only [List.setIfInBounds_toArray, List.set_cons_zero, List.set_cons_succ]
    refine runG 2 (by kernel_rfl) rfl (by kernel_rfl) ?_
    go_simp
    refine (toNode_any a n _ HLEN.out (hrow.keep hHeld)).mono ?_
    rintro e t4 ⟨gv4, gr4, gt4, gd4, rfl, C4, b4⟩
    have N4 := copy_own C4
    have b5 : Below v8.heap.size v8 t4 := hHeld.trans (b4.mono hHeld.size)
    clear b4 C4
    refine ⟨b5, ?_⟩
    try simp only [Act.put, List.setIfInBounds_toArray, List.set_cons_zero, List.set_cons_succ]
    refine runG 3 (by kernel_rfl) rfl (by kernel_rfl) ?_
    go_simp
    refine (eqNode_same (n.copied gv3 gr3 gt3 gd3) (n.copied gv4 gr4 gt4 gd4) n _ HLEN.out (N3.keep b5).nrows N4.nrows).mono ?_
    rintro e t5 ⟨rfl, b6⟩
    have bb : Below v8.heap.size v8 t5 := b5.trans (b6.mono b5.size)
    clear b6 b5
    refine ⟨bb, ?_⟩
    try simp only [Act.put, List.setIfInBounds_toArray, List.set_cons_zero, List.set_cons_succ]
    refine takeG 4 (v := .bool false) rfl (by kernel_rfl) (by kernel_rfl) (by kernel_rfl) (by kernel_rfl) (fun _ _ _ h => h) ?hy (by assumption) ?_
    case hy => (intro w' hSw; go_simp)
    try simp only [List.setIfInBounds_toArray, List.set_cons_zero, List.set_cons_succ]
    refine wpAnyH_done (by kernel_rfl) ?_ _
    clear N4
    replace P := P.keep bb
    replace oS := oS.keep bb
    replace PS := PS.keep bb
    replace PX := PX.keep bb
    replace oG := oG.keep bb
    replace PG := PG.keep bb
    replace hrow := hrow.keep bb
    replace N3 := N3.keep bb
    replace B := B.trans (bb.mono B.size)
    have zs9 : Hid (v8.heap.size ≤ t5.heap.size) := bb.size
    clear bb
    as_aux_lemma =>
     go_upto_region 14 with (first
       | (go_at_call 38; refine (markNode_any _ (n.copied gv3 gr3 gt3 gd3) n 1 _ HLEN.out (by omega) (by omega) (by have := zw.out; have := zs0.out; have := zs1.out; have := zlS.out; have := zs2.out; have := zpS.out; have := zs3.out; have := HPS.out; have := zl3.out; have := zs4.out; have := zpX.out; have := zs5.out; have := HPX.out; have := zlG.out; have := zs6.out; have := zpG.out; have := zs7.out; have := HPG.out; have := zs8.out; have := zs9.out; omega) N3).mono ?_; rintro e mX ⟨rfl, oX, kk⟩)
       | (refine load_blk P rfl 67 _ rfl rfl _ Tryz.underlying67 (by kernel_rfl) ?_)
       | (refine load_blk PS rfl 37 _ rfl rfl _ Tryz.underlying37 (by kernel_rfl) ?_)
       | (refine load_blk PX rfl 32 _ rfl rfl _ Tryz.underlying32 (by kernel_rfl) ?_)
       | (refine load_blk PG rfl 37 _ rfl rfl _ Tryz.underlying37 (by kernel_rfl) ?_))
     clear oX N3
     clear PX
     replace P := P.keepK kk (Classical.byContradiction fun hn => by have := LX.out _ hn; have := zw.out; have := zs0.out; have := zs1.out; have := zlS.out; have := zs2.out; have := zpS.out; have := zs3.out; have := HPS.out; have := zl3.out; have := zs4.out; have := zpX.out; have := zs5.out; have := HPX.out; have := zlG.out; have := zs6.out; have := zpG.out; have := zs7.out; have := HPG.out; have := zs8.out; have := zs9.out; omega)
     replace oS := oS.offO kk (fun g hg => Classical.byContradiction fun hn => by have := LS.out g hg; have := LX.out g hn; have := zw.out; have := zs0.out; have := zs1.out; have := zlS.out; have := zs2.out; have := zpS.out; have := zs3.out; have := HPS.out; have := zl3.out; have := zs4.out; have := zpX.out; have := zs5.out; have := HPX.out; have := zlG.out; have := zs6.out; have := zpG.out; have := zs7.out; have := HPG.out; have := zs8.out; have := zs9.out; omega)
     replace PS := PS.keepK kk (Classical.byContradiction fun hn => by have := LX.out _ hn; have := zw.out; have := zs0.out; have := zs1.out; have := zlS.out; have := zs2.out; have := zpS.out; have := zs3.out; have := HPS.out; have := zl3.out; have := zs4.out; have := zpX.out; have := zs5.out; have := HPX.out; have := zlG.out; have := zs6.out; have := zpG.out; have := zs7.out; have := HPG.out; have := zs8.out; have := zs9.out; omega)
     replace oG := oG.offO kk (fun g hg => Classical.byContradiction fun hn => by have := LG.out g hg; have := LX.out g hn; have := zw.out; have := zs0.out; have := zs1.out; have := zlS.out; have := zs2.out; have := zpS.out; have := zs3.out; have := HPS.out; have := zl3.out; have := zs4.out; have := zpX.out; have := zs5.out; have := HPX.out; have := zlG.out; have := zs6.out; have := zpG.out; have := zs7.out; have := HPG.out; have := zs8.out; have := zs9.out; omega)
     replace PG := PG.keepK kk (Classical.byContradiction fun hn => by have := LX.out _ hn; have := zw.out; have := zs0.out; have := zs1.out; have := zlS.out; have := zs2.out; have := zpS.out; have := zs3.out; have := HPS.out; have := zl3.out; have := zs4.out; have := zpX.out; have := zs5.out; have := HPX.out; have := zlG.out; have := zs6.out; have := zpG.out; have := zs7.out; have := HPG.out; have := zs8.out; have := zs9.out; omega)
     have zs10 : Hid (t5.heap.size ≤ mX.heap.size) := kk.size
     replace B := B.trans (kk.toBelow (by have := zw.out; have := zs0.out; have := zs1.out; have := zlS.out; have := zs2.out; have := zpS.out; have := zs3.out; have := HPS.out; have := zl3.out; have := zs4.out; have := zpX.out; have := zs5.out; have := HPX.out; have := zlG.out; have := zs6.out; have := zpG.out; have := zs7.out; have := HPG.out; have := zs8.out; have := zs9.out; have := zs10.out; omega) (fun g hg => Classical.byContradiction fun hn => by have := LX.out g hn; have := zw.out; have := zs0.out; have := zs1.out; have := zlS.out; have := zs2.out; have := zpS.out; have := zs3.out; have := HPS.out; have := zl3.out; have := zs4.out; have := zpX.out; have := zs5.out; have := HPX.out; have := zlG.out; have := zs6.out; have := zpG.out; have := zs7.out; have := HPG.out; have := zs8.out; have := zs9.out; have := zs10.out; omega))
     clear kk
     replace hrow := hrow0.keep B
     as_aux_lemma =>
      have hk0 : ¬ ((kN 1 n : Nat) : Int) < 0 := by omega
      have cG0 : mX.cell? ⟨pG, 0, none⟩ = some (.int .i64 nd.id) := PG.cell 0
      have cG1 : mX.cell? ⟨pG, 1, none⟩ = some (.int .i64 nd.inc) := PG.cell 1
      have cG2 : mX.cell? ⟨pG, 2, none⟩ = some (.int .i64 nd.num) := PG.cell 2
      have cG3 : mX.cell? ⟨pG, 3, none⟩ = some (.int .i64 nd.seed) := PG.cell 3
      have cG4 : mX.cell? ⟨pG, 4, none⟩ = some (.int .i64 nd.next) := PG.cell 4
      have cG5 : mX.cell? ⟨pG, 5, none⟩ = some (.slice aG.va nd.view.length aG.vc) := PG.cell 5
      have cG6 : mX.cell? ⟨pG, 6, none⟩ = some (.slice aG.ra nd.rum.length aG.rc) := PG.cell 6
      have cG7 : mX.cell? ⟨pG, 7, none⟩ = some (.slice aG.ta nd.tl.length aG.tc) := PG.cell 7
      have cG8 : mX.cell? ⟨pG, 8, none⟩ = some (.int .i64 nd.at0) := PG.cell 8
      have cG9 : mX.cell? ⟨pG, 9, none⟩ = some (.int .i64 nd.pb.node) := PG.cell 9
      have cG10 : mX.cell? ⟨pG, 10, none⟩ = some (.int .i64 nd.pb.num) := PG.cell 10
      have cG11 : mX.cell? ⟨pG, 11, none⟩ = some (.int .i64 nd.pb.due) := PG.cell 11
      have cG12 : mX.cell? ⟨pG, 12, none⟩ = some (.bool nd.pb.asked) := PG.cell 12
      have cG13 : mX.cell? ⟨pG, 13, none⟩ = some (.slice aG.da nd.db.length aG.dc) := PG.cell 13
      have cG14 : mX.cell? ⟨pG, 14, none⟩ = some (.slice amG msG.length acG) := PG.cell 14
      have cG15 : mX.cell? ⟨pG, 15, none⟩ = some (.int .i64 miss) := PG.cell 15
      have cG16 : mX.cell? ⟨pG, 16, none⟩ = some (.int .i64 code) := PG.cell 16
      have cS0 : mX.cell? ⟨pS, 0, none⟩ = some (.int .i64 nd.id) := PS.cell 0
      have cS1 : mX.cell? ⟨pS, 1, none⟩ = some (.int .i64 nd.inc) := PS.cell 1
      have cS2 : mX.cell? ⟨pS, 2, none⟩ = some (.int .i64 nd.num) := PS.cell 2
      have cS3 : mX.cell? ⟨pS, 3, none⟩ = some (.int .i64 nd.seed) := PS.cell 3
      have cS4 : mX.cell? ⟨pS, 4, none⟩ = some (.int .i64 nd.next) := PS.cell 4
      have cS5 : mX.cell? ⟨pS, 5, none⟩ = some (.slice aS.va nd.view.length aS.vc) := PS.cell 5
      have cS6 : mX.cell? ⟨pS, 6, none⟩ = some (.slice aS.ra nd.rum.length aS.rc) := PS.cell 6
      have cS7 : mX.cell? ⟨pS, 7, none⟩ = some (.slice aS.ta nd.tl.length aS.tc) := PS.cell 7
      have cS8 : mX.cell? ⟨pS, 8, none⟩ = some (.int .i64 nd.at0) := PS.cell 8
      have cS9 : mX.cell? ⟨pS, 9, none⟩ = some (.int .i64 nd.pb.node) := PS.cell 9
      have cS10 : mX.cell? ⟨pS, 10, none⟩ = some (.int .i64 nd.pb.num) := PS.cell 10
      have cS11 : mX.cell? ⟨pS, 11, none⟩ = some (.int .i64 nd.pb.due) := PS.cell 11
      have cS12 : mX.cell? ⟨pS, 12, none⟩ = some (.bool nd.pb.asked) := PS.cell 12
      have cS13 : mX.cell? ⟨pS, 13, none⟩ = some (.slice aS.da nd.db.length aS.dc) := PS.cell 13
      have cS14 : mX.cell? ⟨pS, 14, none⟩ = some (.slice amS msS.length acS) := PS.cell 14
      have cS15 : mX.cell? ⟨pS, 15, none⟩ = some (.int .i64 miss) := PS.cell 15
      have cS16 : mX.cell? ⟨pS, 16, none⟩ = some (.int .i64 code) := PS.cell 16
      go_wp2_with fail
      refine (eqNodeOut_same aG aS nd amG amS acG acS msG msS miss code _ HS.out.node (by have h := congrArg List.length (eG.trans eS.symm); simpa using h.symm) (map_alike (eG.trans eS.symm)) (map_facts HS.out eG).1 (map_facts HS.out eG).2 oG.rows oS.rows oG.mailsAt oS.mailsAt).mono ?_
      rintro e v9 ⟨rfl, bb⟩
      clear cG0 cG1 cG2 cG3 cG4 cG5 cG6 cG7 cG8 cG9 cG10 cG11 cG12 cG13 cG14 cG15 cG16 cS0 cS1 cS2 cS3 cS4 cS5 cS6 cS7 cS8 cS9 cS10 cS11 cS12 cS13 cS14 cS15 cS16
      replace P := P.keep bb
      replace oS := oS.keep bb
      replace PS := PS.keep bb
      replace oG := oG.keep bb
      replace PG := PG.keep bb
      replace hrow := hrow.keep bb
      replace B := B.trans (bb.mono B.size)
      have zs11 : Hid (mX.heap.size ≤ v9.heap.size) := bb.size
      clear bb
      as_aux_lemma =>
       go_upto_region 18 with (first
         | (go_at_call 39; refine (markNodeOut_any _ aG nd (.slice amG msG.length acG) msG miss code 1 _ HS.out.node (map_facts HS.out eG).1 (map_facts HS.out eG).2 (by omega) (by omega) HK.out (by have := zw.out; have := zs0.out; have := zs1.out; have := zlS.out; have := zs2.out; have := zpS.out; have := zs3.out; have := HPS.out; have := zl3.out; have := zs4.out; have := zpX.out; have := zs5.out; have := HPX.out; have := zlG.out; have := zs6.out; have := zpG.out; have := zs7.out; have := HPG.out; have := zs8.out; have := zs9.out; have := zs10.out; have := zs11.out; omega) oG).mono ?_; rintro e mG ⟨rfl, oM, kk⟩)
         | (refine load_blk P rfl 67 _ rfl rfl _ Tryz.underlying67 (by kernel_rfl) ?_)
         | (refine load_blk PS rfl 37 _ rfl rfl _ Tryz.underlying37 (by kernel_rfl) ?_)
         | (refine load_blk PG rfl 37 _ rfl rfl _ Tryz.underlying37 (by kernel_rfl) ?_))
       clear oG
       replace P := P.keepK kk (Classical.byContradiction fun hn => by have := LG.out _ hn; have := zw.out; have := zs0.out; have := zs1.out; have := zlS.out; have := zs2.out; have := zpS.out; have := zs3.out; have := HPS.out; have := zl3.out; have := zs4.out; have := zpX.out; have := zs5.out; have := HPX.out; have := zlG.out; have := zs6.out; have := zpG.out; have := zs7.out; have := HPG.out; have := zs8.out; have := zs9.out; have := zs10.out; have := zs11.out; omega)
       replace oS := oS.offO kk (fun g hg => Classical.byContradiction fun hn => by have := LS.out g hg; have := LG.out g hn; have := zw.out; have := zs0.out; have := zs1.out; have := zlS.out; have := zs2.out; have := zpS.out; have := zs3.out; have := HPS.out; have := zl3.out; have := zs4.out; have := zpX.out; have := zs5.out; have := HPX.out; have := zlG.out; have := zs6.out; have := zpG.out; have := zs7.out; have := HPG.out; have := zs8.out; have := zs9.out; have := zs10.out; have := zs11.out; omega)
       replace PS := PS.keepK kk (Classical.byContradiction fun hn => by have := LG.out _ hn; have := zw.out; have := zs0.out; have := zs1.out; have := zlS.out; have := zs2.out; have := zpS.out; have := zs3.out; have := HPS.out; have := zl3.out; have := zs4.out; have := zpX.out; have := zs5.out; have := HPX.out; have := zlG.out; have := zs6.out; have := zpG.out; have := zs7.out; have := HPG.out; have := zs8.out; have := zs9.out; have := zs10.out; have := zs11.out; omega)
       replace PG := PG.keepK kk (Classical.byContradiction fun hn => by have := LG.out _ hn; have := zw.out; have := zs0.out; have := zs1.out; have := zlS.out; have := zs2.out; have := zpS.out; have := zs3.out; have := HPS.out; have := zl3.out; have := zs4.out; have := zpX.out; have := zs5.out; have := HPX.out; have := zlG.out; have := zs6.out; have := zpG.out; have := zs7.out; have := HPG.out; have := zs8.out; have := zs9.out; have := zs10.out; have := zs11.out; omega)
       have zs12 : Hid (v9.heap.size ≤ mG.heap.size) := kk.size
       replace B := B.trans (kk.toBelow (by have := zw.out; have := zs0.out; have := zs1.out; have := zlS.out; have := zs2.out; have := zpS.out; have := zs3.out; have := HPS.out; have := zl3.out; have := zs4.out; have := zpX.out; have := zs5.out; have := HPX.out; have := zlG.out; have := zs6.out; have := zpG.out; have := zs7.out; have := HPG.out; have := zs8.out; have := zs9.out; have := zs10.out; have := zs11.out; have := zs12.out; omega) (fun g hg => Classical.byContradiction fun hn => by have := LG.out g hn; have := zw.out; have := zs0.out; have := zs1.out; have := zlS.out; have := zs2.out; have := zpS.out; have := zs3.out; have := HPS.out; have := zl3.out; have := zs4.out; have := zpX.out; have := zs5.out; have := HPX.out; have := zlG.out; have := zs6.out; have := zpG.out; have := zs7.out; have := HPG.out; have := zs8.out; have := zs9.out; have := zs10.out; have := zs11.out; have := zs12.out; omega))
       clear kk
       replace hrow := hrow0.keep B
       have RM := oM.rows
       have AM := (show OwnOut mG _ _ _ (.slice amG (markM (kN 1 nd) msG).length acG) _ by rw [markM_length]; exact oM).mailsAt
       clear oM
       go_upto_region 24 with (first
         | (go_at_call 40; refine (heldNodeOut_any aG nd amG acG msG miss code 1 _ HS.out.node (map_facts HS.out eG).1 (map_facts HS.out eG).2 (by omega) (by omega) HK.out RM AM).mono ?_; rintro e v13 ⟨rfl, bb⟩)
         | (refine load_blk P rfl 67 _ rfl rfl _ Tryz.underlying67 (by kernel_rfl) ?_)
         | (refine load_blk PS rfl 37 _ rfl rfl _ Tryz.underlying37 (by kernel_rfl) ?_)
         | (refine load_blk PG rfl 37 _ rfl rfl _ Tryz.underlying37 (by kernel_rfl) ?_))
       replace P := P.keep bb
       replace oS := oS.keep bb
       replace PS := PS.keep bb
       replace PG := PG.keep bb
       replace hrow := hrow.keep bb
       replace RM := RM.keep bb
       replace AM := AM.keep bb
       replace B := B.trans (bb.mono B.size)
       have zs13 : Hid (mG.heap.size ≤ v13.heap.size) := bb.size
       clear bb
       as_aux_lemma =>
        go_upto_region 25 with (first
          | (go_at_call 35; refine (toNode_any a n _ HLEN.out hrow).mono ?_; rintro e t7 ⟨gv7, gr7, gt7, gd7, rfl, C7, b7⟩; have N7 := copy_own C7)
          | (go_at_call 16; refine (implLeave_any (n.copied gv7 gr7 gt7 gd7) n ⟨nd, ml, miss, code⟩ _ HX.out HLEN.out (copied_room _ _ _ _ _) N7.nrows).mono ?_; rintro e xH ⟨aH, vH, msH, rfl, oH, eH, rH, bb⟩; obtain ⟨amH, acH, rfl⟩ := oH.slice; dsimp only at oH eH ⊢; unfold outVal outCells)
          | (refine load_blk P rfl 67 _ rfl rfl _ Tryz.underlying67 (by kernel_rfl) ?_)
          | (refine load_blk PS rfl 37 _ rfl rfl _ Tryz.underlying37 (by kernel_rfl) ?_)
          | (refine load_blk PG rfl 37 _ rfl rfl _ Tryz.underlying37 (by kernel_rfl) ?_)
          | (refine store_blk (BlkIs.new _ _ _) rfl 37 _ _ rfl rfl rfl (by kernel_rfl) rfl (by kernel_rfl) ?_; intro yH PH kk))
        clear rH
        clear N7 C7
        replace P := P.keep b7
        replace oS := oS.keep b7
        replace PS := PS.keep b7
        replace PG := PG.keep b7
        replace hrow := hrow.keep b7
        replace RM := RM.keep b7
        replace AM := AM.keep b7
        replace B := B.trans (b7.mono B.size)
        have zs14 : Hid (v13.heap.size ≤ t7.heap.size) := b7.size
        clear b7
        have zlH : Hid (t7.heap.size ≤ xH.heap.size) := bb.size
        have LH : Hid (∀ g, ¬ (offN aH nd g ∧ offM (.slice amH msH.length acH) msH g) → t7.heap.size ≤ g ∧ g < xH.heap.size) := fun g hg => oH.bound hg
        replace P := P.keep bb
        replace oS := oS.keep bb
        replace PS := PS.keep bb
        replace PG := PG.keep bb
        replace hrow := hrow.keep bb
        replace RM := RM.keep bb
        replace AM := AM.keep bb
        replace B := B.trans (bb.mono B.size)
        have zs15 : Hid (t7.heap.size ≤ xH.heap.size) := bb.size
        clear bb
        have bb : Below xH.heap.size xH yH := ((Below.refl _ _).alloc (Nat.le_refl _) _).trans (kk.belowNe (Nat.le_refl _) (by simp))
        clear kk
        have zpH : Hid (xH.heap.size < yH.heap.size) := PH.lt
        replace P := P.keep bb
        replace oS := oS.keep bb
        replace PS := PS.keep bb
        replace PG := PG.keep bb
        replace oH := oH.keep bb
        replace hrow := hrow.keep bb
        replace RM := RM.keep bb
        replace AM := AM.keep bb
        replace B := B.trans (bb.mono B.size)
        have zs16 : Hid (xH.heap.size ≤ yH.heap.size) := bb.size
        clear bb
        obtain ⟨pH, hpH⟩ : ∃ k, xH.heap.size = k := ⟨_, rfl⟩
        have HPH : Hid (xH.heap.size = pH) := hpH
        rw [hpH] at PH ⊢
        clear hpH
        as_aux_lemma =>
         go_upto_region 27 with (first
           | (go_at_call 36; refine (eqNodeOut_same aH aS nd amH amS acH acS msH msS miss code _ HS.out.node (by have h := congrArg List.length (eH.trans eS.symm); simpa using h.symm) (map_alike (eH.trans eS.symm)) (map_facts HS.out eH).1 (map_facts HS.out eH).2 oH.rows oS.rows oH.mailsAt oS.mailsAt).mono ?_; rintro e v17 ⟨rfl, bb⟩)
           | (refine load_blk P rfl 67 _ rfl rfl _ Tryz.underlying67 (by kernel_rfl) ?_)
           | (refine load_blk PS rfl 37 _ rfl rfl _ Tryz.underlying37 (by kernel_rfl) ?_)
           | (refine load_blk PG rfl 37 _ rfl rfl _ Tryz.underlying37 (by kernel_rfl) ?_)
           | (refine load_blk PH rfl 37 _ rfl rfl _ Tryz.underlying37 (by kernel_rfl) ?_))
         replace P := P.keep bb
         replace oS := oS.keep bb
         replace PS := PS.keep bb
         replace PG := PG.keep bb
         replace oH := oH.keep bb
         replace PH := PH.keep bb
         replace hrow := hrow.keep bb
         replace RM := RM.keep bb
         replace AM := AM.keep bb
         replace B := B.trans (bb.mono B.size)
         have zs17 : Hid (yH.heap.size ≤ v17.heap.size) := bb.size
         clear bb
         go_upto_region 33 with (first
           | (go_at_call 40; refine (heldNodeOut_any aG nd amG acG msG miss code 1 _ HS.out.node (map_facts HS.out eG).1 (map_facts HS.out eG).2 (by omega) (by omega) HK.out RM AM).mono ?_; rintro e v18 ⟨rfl, bb⟩)
           | (refine load_blk P rfl 67 _ rfl rfl _ Tryz.underlying67 (by kernel_rfl) ?_)
           | (refine load_blk PS rfl 37 _ rfl rfl _ Tryz.underlying37 (by kernel_rfl) ?_)
           | (refine load_blk PG rfl 37 _ rfl rfl _ Tryz.underlying37 (by kernel_rfl) ?_)
           | (refine load_blk PH rfl 37 _ rfl rfl _ Tryz.underlying37 (by kernel_rfl) ?_))
         replace P := P.keep bb
         replace oS := oS.keep bb
         replace PS := PS.keep bb
         replace PG := PG.keep bb
         replace oH := oH.keep bb
         replace PH := PH.keep bb
         replace hrow := hrow.keep bb
         replace RM := RM.keep bb
         replace AM := AM.keep bb
         replace B := B.trans (bb.mono B.size)
         have zs18 : Hid (v17.heap.size ≤ v18.heap.size) := bb.size
         clear bb
         go_wp2_with (first
           | (refine load_blk P rfl 67 _ rfl rfl _ Tryz.underlying67 (by kernel_rfl) ?_)
           | (refine load_blk PS rfl 37 _ rfl rfl _ Tryz.underlying37 (by kernel_rfl) ?_)
           | (refine load_blk PG rfl 37 _ rfl rfl _ Tryz.underlying37 (by kernel_rfl) ?_)
           | (refine load_blk PH rfl 37 _ rfl rfl _ Tryz.underlying37 (by kernel_rfl) ?_))
         go_ret
         exact ⟨rfl, B⟩

set_option maxRecDepth 100000 in
theorem FnExactNodeLeave_lifted (os : Os) (started : os.Started) (H : Type) (enc : TypeId × Value → H) :
    ReturnsInHanded {} Tryz.checked os 8 .any (Rows.fnExactNodeLeaveSpec.pre6 enc Tryz.prog Tryz.f8 Rows.fnExactNodeLeaveRow.domain false) (Rows.fnExactNodeLeaveSpec.post enc Tryz.prog Tryz.f8 false true false false) := by
  refine returnsInHanded_of_change (C := Tryz.checked) (by kernel_rfl) started (by kernel_rfl) Tryz.func8
    (ChangeSpec.witness6 (enc := enc) (C := Tryz.checked) false ⟨#[], #[.agg #[.int .i64 0, .int .i64 0, .int .i64 0, .int .i64 0, .int .i64 0, .slice none 0 0, .slice none 0 0, .slice none 0 0, .int .i64 0, .int .i64 0, .int .i64 0, .int .i64 0, .bool false, .slice none 0 0]], []⟩ 8 (by kernel_rfl) (by kernel_rfl) (by kernel_rfl) (by kernel_rfl)) ?_
  intro W base args ds gs before hval0 hW hcnd _
  have hval : ∀ (j : Nat) t v, Tryz.f8.params[j]? = some t → args[j]? = some v → Value.okWide Tryz.prog W .any base t v := hval0
  have hW' := hW
  obtain ⟨p, q, hA0, hV, rfl, hfz, hnd⟩ := hW
  have hA : DataW.TrodAll enc Tryz.prog W 0 (fun _ => true) true Tryz.f8.params.toList args.toList ds p := hA0
  rw [Tryz.params8] at hA hval
  obtain ⟨v0, vs0, d0, ds0, p0, q0, hargs, rfl, rfl, h0, r0⟩ := trodAll_cons hA
  obtain ⟨rfl, rfl, rfl⟩ := trodAll_nil r0
  obtain rfl : args = #[v0] := by cases args; simp_all
  obtain ⟨rfl, rfl⟩ := trodVars_none hV
  have k0 := h0
  have lt0 : ∀ x ∈ p0, x.block < W.heap.size := by obtain ⟨m, hm⟩ := k0; exact DataW.trod_lt m _ _ _ hm
  obtain ⟨a0, rfl, w0⟩ := nodeVal_open (hval 0 67 v0 rfl rfl) h0
  clear hA0 hval0
  refine (FnExactNodeLeave_walk a0 W w0).mono fun e W' ⟨he, bel⟩ => ?_
  subst he
  exact ⟨_, rfl, _, _, _, [], _, [], hW', trodAll_mk1 (shut_bool Tryz.underlying4 _), (trodAll_cons_mk (Below.trod (show laidOutB Tryz.prog = true by kernel_rfl) (by kernel_rfl) (of_decide_eq_true (by kernel_rfl)) k0 bel lt0) trodAll_mk0), rfl, bel.frame _, fun h => by cases h⟩
/-- The statement. -/
theorem FnExactNodeLeave_holds : Rows.FnExactNodeLeaveSaid :=
  OpenClaim.holds_of_wide 8 Tryz.f8 rfl rfl rfl rfl rfl rfl rfl ⟨rfl, rfl, rfl, rfl, rfl⟩ rfl rfl rfl rfl rfl (by kernel_rfl) Tryz.func8 (by kernel_rfl)
    (of_decide_eq_true (by kernel_rfl)) (by unfold Func.isWrapper; first | (rw [if_pos (by decide +kernel)]; kernel_rfl) | (rw [if_neg (by decide +kernel)]; exact ⟨rfl, rfl⟩))
    (fun os started H enc _ => FnExactNodeLeave_lifted os started H enc)
#print axioms FnExactNodeLeave_holds

end Go.Proofs.YtmdcankfjmkkeaaGreat
