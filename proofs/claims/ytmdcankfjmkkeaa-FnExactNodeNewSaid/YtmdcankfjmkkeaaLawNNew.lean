/- Proved: laws.FnExactNodeNew answers true at every id, inc, seed and now: NodeNew of the program and of the specification are one function, and its answer owns its memory. No condition. -/
import Derived.Test.YtmdcankfjmkkeaaRows
import Derived.WalkKit
import Derived.ProofKit
import Derived.OpenShut
import Derived.ShutString
import Derived.ChangeOld
import Derived.Below
import Derived.Test.YtmdcankfjmkkeaaG40
import Derived.Test.YtmdcankfjmkkeaaG50
namespace Go.Proofs.Ytmdcankfjmkkeaa
open Go Go.ChangeShapes Go.WideShapes Go.ChangeAt Go.RowKit
open Go.ChangeMaps (open_string shut_string)
set_option linter.unusedVariables false
set_option linter.unusedSimpArgs false

theorem newIs_small {id inc seed now : Int} {x : NOutV} (h : NewIs id inc seed now x) : OutSmall x := by
  rcases h with ⟨_, rfl⟩ | ⟨_, rfl⟩
  · exact ⟨⟨by simp [newN], by simp [newN], by simp [newN], by simp [newN]⟩, by simp, by simp⟩
  · exact ⟨⟨by simp [illN, NodeV.z], by simp [illN, NodeV.z], by simp [illN, NodeV.z], by simp [illN, NodeV.z]⟩, by simp [illN], by simp [illN]⟩
theorem newIs_kN {id inc seed now : Int} {nd : NodeV} {ml : List MailV} {miss code : Int} (h : NewIs id inc seed now ⟨nd, ml, miss, code⟩) : kN 1 nd ≤ 100 := by
  rcases h with ⟨_, e⟩ | ⟨_, e⟩
  · obtain rfl := congrArg NOutV.node e
    simp [kN, kT, kR, kV, newN]
  · obtain rfl := congrArg NOutV.node e
    simp [kN, kT, kR, kV, illN, NodeV.z]
set_option maxHeartbeats 8000000 in
set_option maxRecDepth 100000 in
theorem FnExactNodeNew_walk (a0 a1 a2 a3 : Int) (w0 : (Lit.int .i64 a0).wf = true) (w1 : (Lit.int .i64 a1).wf = true) (w2 : (Lit.int .i64 a2).wf = true) (w3 : (Lit.int .i64 a3).wf = true) (w : World) :
    Calls Try.prog 4 #[.int .i64 a0, .int .i64 a1, .int .i64 a2, .int .i64 a3] w fun e w' => e = .returned (.bool true) ∧ Below w.heap.size w w' := by
  obtain ⟨x, hx⟩ := newIs_ex a0 a1 a2 a3
  have hsm := newIs_small hx
  obtain ⟨nd, ml, miss, code⟩ := x
  have HX : Hid (NewIs a0 a1 a2 a3 ⟨nd, ml, miss, code⟩) := hx
  have HS : Hid (OutSmall ⟨nd, ml, miss, code⟩) := hsm
  clear hx hsm
  have HK0 : Hid (kN 1 nd ≤ 100) := newIs_kN HX.out
  have B := Below.refl w.heap.size w
  go_enter Try.func4, Try.ntmps4
  have zw : Hid (w.heap.size ≤ w.heap.size) := Nat.le_refl _
  have hloS : Hid (w.heap.size = w.heap.size) := rfl
  go_upto_region 2 with (first
    | (go_at_call 11; refine (specNew_any a0 a1 a2 a3 ⟨nd, ml, miss, code⟩ _ HX.out).mono ?_; rintro e xS ⟨aS, vS, msS, rfl, oS, eS, rS, bb⟩; obtain ⟨amS, acS, rfl⟩ := oS.slice; dsimp only at oS eS ⊢; unfold outVal outCells)
    | (refine store_blk (BlkIs.new _ _ _) rfl _ _ _ rfl rfl rfl (by kernel_rfl) rfl (by kernel_rfl) ?_; intro yS PS kk))
  clear hloS rS
  have zlS : Hid (w.heap.size ≤ xS.heap.size) := bb.size
  have LS : Hid (∀ g, ¬ (offN aS nd g ∧ offM (.slice amS msS.length acS) msS g) → w.heap.size ≤ g ∧ g < xS.heap.size) := fun g hg => oS.bound hg
  replace B := B.trans (bb.mono B.size)
  have zs0 : Hid (w.heap.size ≤ xS.heap.size) := bb.size
  clear bb
  have bb : Below xS.heap.size xS yS := ((Below.refl _ _).alloc (Nat.le_refl _) _).trans (kk.belowNe (Nat.le_refl _) (by simp))
  clear kk
  have zpS : Hid (xS.heap.size < yS.heap.size) := PS.lt
  replace oS := oS.keep bb
  replace B := B.trans (bb.mono B.size)
  have zs1 : Hid (xS.heap.size ≤ yS.heap.size) := bb.size
  clear bb
  obtain ⟨pS, hpS⟩ : ∃ k, xS.heap.size = k := ⟨_, rfl⟩
  have HPS : Hid (xS.heap.size = pS) := hpS
  rw [hpS] at PS ⊢
  clear hpS
  have hloG : Hid (yS.heap.size = yS.heap.size) := rfl
  go_upto_region 3 with (first
    | (go_at_call 12; refine (implNew_any a0 a1 a2 a3 ⟨nd, ml, miss, code⟩ _ HX.out).mono ?_; rintro e xG ⟨aG, vG, msG, rfl, oG, eG, rG, bb⟩; obtain ⟨amG, acG, rfl⟩ := oG.slice; dsimp only at oG eG ⊢; unfold outVal outCells)
    | (refine store_blk (BlkIs.new _ _ _) rfl _ _ _ rfl rfl rfl (by kernel_rfl) rfl (by kernel_rfl) ?_; intro yG PG kk)
    | (refine load_blk PS rfl _ _ rfl rfl _ Try.underlying46 (by kernel_rfl) ?_))
  clear hloG rG
  have zlG : Hid (yS.heap.size ≤ xG.heap.size) := bb.size
  have LG : Hid (∀ g, ¬ (offN aG nd g ∧ offM (.slice amG msG.length acG) msG g) → yS.heap.size ≤ g ∧ g < xG.heap.size) := fun g hg => oG.bound hg
  replace oS := oS.keep bb
  replace PS := PS.keep bb
  replace B := B.trans (bb.mono B.size)
  have zs2 : Hid (yS.heap.size ≤ xG.heap.size) := bb.size
  clear bb
  have bb : Below xG.heap.size xG yG := ((Below.refl _ _).alloc (Nat.le_refl _) _).trans (kk.belowNe (Nat.le_refl _) (by simp))
  clear kk
  have zpG : Hid (xG.heap.size < yG.heap.size) := PG.lt
  replace oS := oS.keep bb
  replace PS := PS.keep bb
  replace oG := oG.keep bb
  replace B := B.trans (bb.mono B.size)
  have zs3 : Hid (xG.heap.size ≤ yG.heap.size) := bb.size
  clear bb
  obtain ⟨pG, hpG⟩ : ∃ k, xG.heap.size = k := ⟨_, rfl⟩
  have HPG : Hid (xG.heap.size = pG) := hpG
  rw [hpG] at PG ⊢
  clear hpG
  have HK : Hid (kM (kN 1 nd) msG ≤ 90000000) := Nat.le_trans (kM_small HS.out _ eG) (by have := HK0.out; omega)
  have hq1 : ¬ ((kM (kN 1 nd) msG : Nat) : Int) < 0 := by omega
  go_upto_region 5 with (first
    | (go_at_call 13; refine (eqNodeOut_same aG aS nd amG amS acG acS msG msS miss code _ HS.out.node (by have h := congrArg List.length (eG.trans eS.symm); simpa using h.symm) (map_alike (eG.trans eS.symm)) (map_facts HS.out eG).1 (map_facts HS.out eG).2 oG.rows oS.rows oG.mailsAt oS.mailsAt).mono ?_; rintro e v4 ⟨rfl, bb⟩)
    | (refine load_blk PS rfl _ _ rfl rfl _ Try.underlying46 (by kernel_rfl) ?_)
    | (refine load_blk PG rfl _ _ rfl rfl _ Try.underlying46 (by kernel_rfl) ?_))
  replace oS := oS.keep bb
  replace PS := PS.keep bb
  replace oG := oG.keep bb
  replace PG := PG.keep bb
  replace B := B.trans (bb.mono B.size)
  have zs4 : Hid (yG.heap.size ≤ v4.heap.size) := bb.size
  clear bb
  go_upto_region 7 with (first
    | (go_at_call 14; refine (markNodeOut_any _ aG nd (.slice amG msG.length acG) msG miss code 1 _ HS.out.node (map_facts HS.out eG).1 (map_facts HS.out eG).2 (by omega) (by omega) HK.out (by have := zw.out; have := zlS.out; have := zs0.out; have := zpS.out; have := zs1.out; have := HPS.out; have := zlG.out; have := zs2.out; have := zpG.out; have := zs3.out; have := HPG.out; have := zs4.out; omega) oG).mono ?_; rintro e mG ⟨rfl, oM, kk⟩)
    | (refine load_blk PS rfl _ _ rfl rfl _ Try.underlying46 (by kernel_rfl) ?_)
    | (refine load_blk PG rfl _ _ rfl rfl _ Try.underlying46 (by kernel_rfl) ?_))
  clear oG
  replace oS := oS.offO kk (fun g hg => Classical.byContradiction fun hn => by have := LS.out g hg; have := LG.out g hn; have := zw.out; have := zlS.out; have := zs0.out; have := zpS.out; have := zs1.out; have := HPS.out; have := zlG.out; have := zs2.out; have := zpG.out; have := zs3.out; have := HPG.out; have := zs4.out; omega)
  replace PS := PS.keepK kk (Classical.byContradiction fun hn => by have := LG.out _ hn; have := zw.out; have := zlS.out; have := zs0.out; have := zpS.out; have := zs1.out; have := HPS.out; have := zlG.out; have := zs2.out; have := zpG.out; have := zs3.out; have := HPG.out; have := zs4.out; omega)
  replace PG := PG.keepK kk (Classical.byContradiction fun hn => by have := LG.out _ hn; have := zw.out; have := zlS.out; have := zs0.out; have := zpS.out; have := zs1.out; have := HPS.out; have := zlG.out; have := zs2.out; have := zpG.out; have := zs3.out; have := HPG.out; have := zs4.out; omega)
  have zs5 : Hid (v4.heap.size ≤ mG.heap.size) := kk.size
  replace B := B.trans (kk.toBelow (by have := zw.out; have := zlS.out; have := zs0.out; have := zpS.out; have := zs1.out; have := HPS.out; have := zlG.out; have := zs2.out; have := zpG.out; have := zs3.out; have := HPG.out; have := zs4.out; have := zs5.out; omega) (fun g hg => Classical.byContradiction fun hn => by have := LG.out g hn; have := zw.out; have := zlS.out; have := zs0.out; have := zpS.out; have := zs1.out; have := HPS.out; have := zlG.out; have := zs2.out; have := zpG.out; have := zs3.out; have := HPG.out; have := zs4.out; have := zs5.out; omega))
  clear kk
  have RM := oM.rows
  have AM := (show OwnOut mG _ _ _ (.slice amG (markM (kN 1 nd) msG).length acG) _ by rw [markM_length]; exact oM).mailsAt
  clear oM
  go_upto_region 13 with (first
    | (go_at_call 15; refine (heldNodeOut_any aG nd amG acG msG miss code 1 _ HS.out.node (map_facts HS.out eG).1 (map_facts HS.out eG).2 (by omega) (by omega) HK.out RM AM).mono ?_; rintro e v6 ⟨rfl, bb⟩)
    | (refine load_blk PS rfl _ _ rfl rfl _ Try.underlying46 (by kernel_rfl) ?_)
    | (refine load_blk PG rfl _ _ rfl rfl _ Try.underlying46 (by kernel_rfl) ?_))
  replace oS := oS.keep bb
  replace PS := PS.keep bb
  replace PG := PG.keep bb
  replace RM := RM.keep bb
  replace AM := AM.keep bb
  replace B := B.trans (bb.mono B.size)
  have zs6 : Hid (mG.heap.size ≤ v6.heap.size) := bb.size
  clear bb
  have hloH : Hid (v6.heap.size = v6.heap.size) := rfl
  go_upto_region 14 with (first
    | (go_at_call 12; refine (implNew_any a0 a1 a2 a3 ⟨nd, ml, miss, code⟩ _ HX.out).mono ?_; rintro e xH ⟨aH, vH, msH, rfl, oH, eH, rH, bb⟩; obtain ⟨amH, acH, rfl⟩ := oH.slice; dsimp only at oH eH ⊢; unfold outVal outCells)
    | (refine store_blk (BlkIs.new _ _ _) rfl _ _ _ rfl rfl rfl (by kernel_rfl) rfl (by kernel_rfl) ?_; intro yH PH kk)
    | (refine load_blk PS rfl _ _ rfl rfl _ Try.underlying46 (by kernel_rfl) ?_)
    | (refine load_blk PG rfl _ _ rfl rfl _ Try.underlying46 (by kernel_rfl) ?_))
  clear hloH rH
  have zlH : Hid (v6.heap.size ≤ xH.heap.size) := bb.size
  have LH : Hid (∀ g, ¬ (offN aH nd g ∧ offM (.slice amH msH.length acH) msH g) → v6.heap.size ≤ g ∧ g < xH.heap.size) := fun g hg => oH.bound hg
  replace oS := oS.keep bb
  replace PS := PS.keep bb
  replace PG := PG.keep bb
  replace RM := RM.keep bb
  replace AM := AM.keep bb
  replace B := B.trans (bb.mono B.size)
  have zs7 : Hid (v6.heap.size ≤ xH.heap.size) := bb.size
  clear bb
  have bb : Below xH.heap.size xH yH := ((Below.refl _ _).alloc (Nat.le_refl _) _).trans (kk.belowNe (Nat.le_refl _) (by simp))
  clear kk
  have zpH : Hid (xH.heap.size < yH.heap.size) := PH.lt
  replace oS := oS.keep bb
  replace PS := PS.keep bb
  replace PG := PG.keep bb
  replace oH := oH.keep bb
  replace RM := RM.keep bb
  replace AM := AM.keep bb
  replace B := B.trans (bb.mono B.size)
  have zs8 : Hid (xH.heap.size ≤ yH.heap.size) := bb.size
  clear bb
  obtain ⟨pH, hpH⟩ : ∃ k, xH.heap.size = k := ⟨_, rfl⟩
  have HPH : Hid (xH.heap.size = pH) := hpH
  rw [hpH] at PH ⊢
  clear hpH
  go_upto_region 16 with (first
    | (go_at_call 13; refine (eqNodeOut_same aH aS nd amH amS acH acS msH msS miss code _ HS.out.node (by have h := congrArg List.length (eH.trans eS.symm); simpa using h.symm) (map_alike (eH.trans eS.symm)) (map_facts HS.out eH).1 (map_facts HS.out eH).2 oH.rows oS.rows oH.mailsAt oS.mailsAt).mono ?_; rintro e v9 ⟨rfl, bb⟩)
    | (refine load_blk PS rfl _ _ rfl rfl _ Try.underlying46 (by kernel_rfl) ?_)
    | (refine load_blk PG rfl _ _ rfl rfl _ Try.underlying46 (by kernel_rfl) ?_)
    | (refine load_blk PH rfl _ _ rfl rfl _ Try.underlying46 (by kernel_rfl) ?_))
  replace oS := oS.keep bb
  replace PS := PS.keep bb
  replace PG := PG.keep bb
  replace oH := oH.keep bb
  replace PH := PH.keep bb
  replace RM := RM.keep bb
  replace AM := AM.keep bb
  replace B := B.trans (bb.mono B.size)
  have zs9 : Hid (yH.heap.size ≤ v9.heap.size) := bb.size
  clear bb
  go_upto_region 22 with (first
    | (go_at_call 15; refine (heldNodeOut_any aG nd amG acG msG miss code 1 _ HS.out.node (map_facts HS.out eG).1 (map_facts HS.out eG).2 (by omega) (by omega) HK.out RM AM).mono ?_; rintro e v10 ⟨rfl, bb⟩)
    | (refine load_blk PS rfl _ _ rfl rfl _ Try.underlying46 (by kernel_rfl) ?_)
    | (refine load_blk PG rfl _ _ rfl rfl _ Try.underlying46 (by kernel_rfl) ?_)
    | (refine load_blk PH rfl _ _ rfl rfl _ Try.underlying46 (by kernel_rfl) ?_))
  replace oS := oS.keep bb
  replace PS := PS.keep bb
  replace PG := PG.keep bb
  replace oH := oH.keep bb
  replace PH := PH.keep bb
  replace RM := RM.keep bb
  replace AM := AM.keep bb
  replace B := B.trans (bb.mono B.size)
  have zs10 : Hid (v9.heap.size ≤ v10.heap.size) := bb.size
  clear bb
  go_wp2_with (first
    | (refine load_blk PS rfl _ _ rfl rfl _ Try.underlying46 (by kernel_rfl) ?_)
    | (refine load_blk PG rfl _ _ rfl rfl _ Try.underlying46 (by kernel_rfl) ?_)
    | (refine load_blk PH rfl _ _ rfl rfl _ Try.underlying46 (by kernel_rfl) ?_))
  go_ret
  exact ⟨rfl, B⟩

set_option maxRecDepth 100000 in
theorem FnExactNodeNew_lifted (os : Os) (started : os.Started) (H : Type) (enc : TypeId × Value → H) :
    ReturnsInHanded {} Try.checked os 4 .any (Rows.fnExactNodeNewSpec.pre6 enc Try.prog Try.f4 Rows.fnExactNodeNewRow.domain false) (Rows.fnExactNodeNewSpec.post enc Try.prog Try.f4 false true false false) := by
  refine returnsInHanded_of_change (C := Try.checked) (by kernel_rfl) started (by kernel_rfl) Try.func4
    (ChangeSpec.witness6 (enc := enc) (C := Try.checked) false ⟨#[], #[.int .i64 0, .int .i64 0, .int .i64 0, .int .i64 0], []⟩ 8 (by kernel_rfl) (by kernel_rfl) (by kernel_rfl) (by kernel_rfl)) ?_
  intro W base args ds gs before hval0 hW hcnd _
  have hval : ∀ (j : Nat) t v, Try.f4.params[j]? = some t → args[j]? = some v → Value.okWide Try.prog W .any base t v := hval0
  have hW' := hW
  obtain ⟨p, q, hA0, hV, rfl, hfz, hnd⟩ := hW
  have hA : DataW.TrodAll enc Try.prog W 0 (fun _ => true) true Try.f4.params.toList args.toList ds p := hA0
  rw [Try.params4] at hA hval
  obtain ⟨v0, vs0, d0, ds0, p0, q0, hargs, rfl, rfl, h0, r0⟩ := trodAll_cons hA
  obtain ⟨v1, vs1, d1, ds1, p1, q1, rfl, rfl, rfl, h1, r1⟩ := trodAll_cons r0
  obtain ⟨v2, vs2, d2, ds2, p2, q2, rfl, rfl, rfl, h2, r2⟩ := trodAll_cons r1
  obtain ⟨v3, vs3, d3, ds3, p3, q3, rfl, rfl, rfl, h3, r3⟩ := trodAll_cons r2
  obtain ⟨rfl, rfl, rfl⟩ := trodAll_nil r3
  obtain rfl : args = #[v0, v1, v2, v3] := by cases args; simp_all
  obtain ⟨rfl, rfl⟩ := trodVars_none hV
  obtain ⟨a0, rfl, rfl, rfl, w0⟩ := open_int Try.underlying2 (hval 0 2 v0 rfl rfl) h0
  obtain ⟨a1, rfl, rfl, rfl, w1⟩ := open_int Try.underlying2 (hval 1 2 v1 rfl rfl) h1
  obtain ⟨a2, rfl, rfl, rfl, w2⟩ := open_int Try.underlying2 (hval 2 2 v2 rfl rfl) h2
  obtain ⟨a3, rfl, rfl, rfl, w3⟩ := open_int Try.underlying2 (hval 3 2 v3 rfl rfl) h3
  clear hA0 hval0
  simp only [List.append_nil] at hW'
  refine (FnExactNodeNew_walk a0 a1 a2 a3 w0 w1 w2 w3 W).mono fun e W' ⟨he, bel⟩ => ?_
  subst he
  exact ⟨_, rfl, _, _, _, [], _, [], hW', trodAll_mk1 (shut_bool Try.underlying4 _), (trodAll_cons_mk (shut_int Try.underlying2 w0) (trodAll_cons_mk (shut_int Try.underlying2 w1) (trodAll_cons_mk (shut_int Try.underlying2 w2) (trodAll_cons_mk (shut_int Try.underlying2 w3) trodAll_mk0)))), rfl, bel.frame _, fun h => by cases h⟩
/-- The statement. -/
theorem FnExactNodeNew_holds : Rows.FnExactNodeNewSaid :=
  OpenClaim.holds_of_wide 4 Try.f4 rfl rfl rfl rfl rfl rfl rfl ⟨rfl, rfl, rfl, rfl, rfl⟩ rfl rfl rfl rfl rfl (by kernel_rfl) Try.func4 (by kernel_rfl)
    (of_decide_eq_true (by kernel_rfl)) (by unfold Func.isWrapper; first | (rw [if_pos (by decide +kernel)]; kernel_rfl) | (rw [if_neg (by decide +kernel)]; exact ⟨rfl, rfl⟩))
    (fun os started H enc _ => FnExactNodeNew_lifted os started H enc)
#print axioms FnExactNodeNew_holds

end Go.Proofs.Ytmdcankfjmkkeaa
