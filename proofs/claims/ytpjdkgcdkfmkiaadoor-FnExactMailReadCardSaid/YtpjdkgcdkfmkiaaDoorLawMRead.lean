/- Proved: laws.FnExactMailRead answers true at every text: MailRead of the program and of the specification are one function; its answer owns its memory. No condition but the card's own: the listed variable errors.errorType holds what the program's text lays. -/
import Derived.Test.YtpjdkgcdkfmkiaaDoorRows
import Derived.Test.YtpjdkgcdkfmkiaaDoorCards
import Derived.Test.YtpjdkgcdkfmkiaaDoorTie
import Derived.WalkKit
import Derived.ProofKit
import Derived.OpenShut
import Derived.ShutString
import Derived.ChangeOld
import Derived.Below
import Derived.LaidHandle
import Derived.LaidLaws
import Derived.ChangeVars
import Derived.SevenTiedAt
import Derived.Test.YtpjdkgcdkfmkiaaDoorMReadS
import Derived.Test.YtpjdkgcdkfmkiaaDoorMEq
namespace Go.Proofs.YtpjdkgcdkfmkiaaDoor
open Go Go.ChangeShapes Go.WideShapes Go.ChangeAt Go.RowKit
open Go.ChangeMaps (open_string shut_string)
set_option linter.unusedVariables false

theorem readIs_ex (s : ByteArray) : ∃ c m, ReadIs s c m := by
  rcases getU_code s with ⟨t, e⟩ | ⟨c, e, hc⟩
  · by_cases h : ∃ m : MailV, m.ok ∧ numsB m.nums = t.data.toList
    · obtain ⟨m, h1, h2⟩ := h
      exact ⟨0, m, .inr ⟨t, e, .inl ⟨h1, h2, rfl⟩⟩⟩
    · exact ⟨3, mailZ, .inr ⟨t, e, .inr ⟨fun m h1 h2 => h ⟨m, h1, h2⟩, rfl, rfl⟩⟩⟩
  · exact ⟨c, mailZ, .inl ⟨hc, e, rfl⟩⟩
theorem readIs_len {s : ByteArray} {c : Int} {m : MailV} (h : ReadIs s c m) : m.facts.length ≤ 6 := by
  rcases h with ⟨_, _, rfl⟩ | ⟨t, _, ⟨h, _, _⟩ | ⟨_, _, rfl⟩⟩
  · exact Nat.zero_le _
  · exact rightV_len h.2.2.1
  · exact Nat.zero_le _
theorem OwnSl.row {w : World} {lo : Nat} {p : Option Addr} {cap : Nat} {l : List FactV} (h : OwnSl w lo (.slice p l.length cap) l) : CellRow w p (cellsOf FactV.cells l) := by
  obtain ⟨a, c', e, o, _⟩ := h
  simp only [Value.slice.injEq, true_and] at e
  rw [e.1]
  exact o.row
theorem OwnSl.rowN {w : World} {lo : Nat} {p : Option Addr} {cap k : Nat} {l : List FactV} (h : OwnSl w lo (.slice p k cap) l) : CellRow w p (cellsOf FactV.cells l) := by
  obtain ⟨a, c', e, o, _⟩ := h
  simp only [Value.slice.injEq] at e
  rw [e.1]
  exact o.row
set_option maxHeartbeats 8000000 in
set_option maxRecDepth 100000 in
theorem FnExactMailRead_walk (a0 : ByteArray) (w0 : a0.size ≤ maxLen) (w : World) (hg0 : errCell w) :
    Calls Tryd.prog 4 #[.string a0] w fun e w' => e = .returned (.bool true) ∧ Below w.heap.size w w' := by
  by_cases hs : 1048576 < (a0.size : Int)
  · go_enter Tryd.func4, Tryd.ntmps4
    go_wp2
    go_ret
    exact ⟨rfl, Below.refl _ _⟩
  obtain ⟨c, m, hP⟩ := readIs_ex a0
  have h6 := readIs_len hP
  obtain ⟨k, f, t, n, a, r, l⟩ := m
  dsimp only at h6
  have hl : l.length ≤ 1048576 := by omega
  have hl3 : l.length ≤ 1000000 := by omega
  have HP : Hid (ReadIs a0 c ⟨k, f, t, n, a, r, l⟩) := hP
  have B := Below.refl w.heap.size w
  have hg := hg0
  clear hP h6
  go_enter Tryd.func4, Tryd.ntmps4
  go_wp2_with fail
  refine (specMRead_any a0 c ⟨k, f, t, n, a, r, l⟩ _ HP.out).mono ?_
  rintro e x0 ⟨v0, rfl, own0, bx⟩
  replace hg := hg.keep bx
  replace B := B.trans (bx.mono B.size)
  have hbs0 := bx.size
  clear bx
  dsimp only at own0
  have hv0 : ∀ g, v0.ownBlock = some g → _ := fun g hg => own0.lt g hg
  have S0 := own_sl own0
  obtain ⟨p0, c0, rfl, o0, z0⟩ := S0
  have S0 : OwnSl _ _ (.slice p0 l.length c0) l := ⟨p0, c0, rfl, o0, z0⟩
  unfold mailOutV
  dsimp only
  have bx : Below x0.heap.size x0 (x0.alloc (.cells #[.int .i64 k, .int .i64 f, .int .i64 t, .int .i64 n, .int .i64 a, .int .i64 r, .slice p0 l.length c0, .int .i64 c] 30)) := (Below.refl _ _).alloc (Nat.le_refl _) _
  have P0 := BlkIs.new x0 30 #[.int .i64 k, .int .i64 f, .int .i64 t, .int .i64 n, .int .i64 a, .int .i64 r, .slice p0 l.length c0, .int .i64 c]
  replace S0 := S0.keep bx
  replace hg := hg.keep bx
  replace B := B.trans (bx.mono B.size)
  have hxy0 : x0.heap.size < (x0.alloc (.cells #[.int .i64 k, .int .i64 f, .int .i64 t, .int .i64 n, .int .i64 a, .int .i64 r, .slice p0 l.length c0, .int .i64 c] 30)).heap.size := by simp
  clear bx o0 z0 own0
  go_upto_region 4 with fail
  generalize hy0 : x0.alloc (.cells #[.int .i64 k, .int .i64 f, .int .i64 t, .int .i64 n, .int .i64 a, .int .i64 r, .slice p0 l.length c0, .int .i64 c] 30) = y0 at *
  clear hy0
  go_wp2_with fail
  refine (implMRead_any a0 c ⟨k, f, t, n, a, r, l⟩ _ HP.out hg).mono ?_
  rintro e x1 ⟨v1, rfl, own1, bx⟩
  replace hg := hg.keep bx
  replace P0 := P0.keep bx
  replace S0 := S0.keep bx
  replace B := B.trans (bx.mono B.size)
  have hbs1 := bx.size
  clear bx
  dsimp only at own1
  have hv1 : ∀ g, v1.ownBlock = some g → _ := fun g hg => own1.lt g hg
  have S1 := own_sl own1
  obtain ⟨p1, c1, rfl, o1, z1⟩ := S1
  have S1 : OwnSl _ _ (.slice p1 l.length c1) l := ⟨p1, c1, rfl, o1, z1⟩
  unfold mailOutV
  dsimp only
  have bx : Below x1.heap.size x1 (x1.alloc (.cells #[.int .i64 k, .int .i64 f, .int .i64 t, .int .i64 n, .int .i64 a, .int .i64 r, .slice p1 l.length c1, .int .i64 c] 30)) := (Below.refl _ _).alloc (Nat.le_refl _) _
  have P1 := BlkIs.new x1 30 #[.int .i64 k, .int .i64 f, .int .i64 t, .int .i64 n, .int .i64 a, .int .i64 r, .slice p1 l.length c1, .int .i64 c]
  replace S1 := S1.keep bx
  replace hg := hg.keep bx
  replace P0 := P0.keep bx
  replace S0 := S0.keep bx
  replace B := B.trans (bx.mono B.size)
  have hxy1 : x1.heap.size < (x1.alloc (.cells #[.int .i64 k, .int .i64 f, .int .i64 t, .int .i64 n, .int .i64 a, .int .i64 r, .slice p1 l.length c1, .int .i64 c] 30)).heap.size := by simp
  clear bx o1 z1 own1
  go_upto_region 5 with fail
  generalize hy1 : x1.alloc (.cells #[.int .i64 k, .int .i64 f, .int .i64 t, .int .i64 n, .int .i64 a, .int .i64 r, .slice p1 l.length c1, .int .i64 c] 30) = y1 at *
  clear hy1
  obtain ⟨P0c0, P0c1, P0c2, P0c3, P0c4, P0c5, P0c6, P0c7⟩ := blk8_cells P0
  obtain ⟨P1c0, P1c1, P1c2, P1c3, P1c4, P1c5, P1c6, P1c7⟩ := blk8_cells P1
  have r0 := S0.row
  have r1 := S1.row
  go_wp2_with fail
  refine (eqMailOut_same k f t n a r c p1 p0 c1 c0 l y1 hl r1 r0).mono ?_
  rintro e x2 ⟨rfl, bx⟩
  replace hg := hg.keep bx
  replace P0 := P0.keep bx
  replace S0 := S0.keep bx
  replace P1 := P1.keep bx
  replace S1 := S1.keep bx
  replace B := B.trans (bx.mono B.size)
  have hs2 := bx.size
  clear bx r0 r1
  clear P0c0 P0c1 P0c2 P0c3 P0c4 P0c5 P0c6 P0c7 P1c0 P1c1 P1c2 P1c3 P1c4 P1c5 P1c6 P1c7
  obtain ⟨P1c0, P1c1, P1c2, P1c3, P1c4, P1c5, P1c6, P1c7⟩ := blk8_cells P1
  go_wp2_with fail
  refine (markMailOut_any k f t n a r c y0.heap.size p1 c1 l x2 hl3 S1).mono ?_
  rintro e x3 ⟨rfl, S1m, kx⟩
  have hwy : w.heap.size ≤ y0.heap.size := by omega
  have hne0 : ∀ g, (Value.slice p0 l.length c0).ownBlock = some g → blkOf (.slice p1 l.length c1) l.length g := fun g hg0 => .inr (fun e => by have h1 := hv1 g e; have h0 := hv0 g hg0; omega)
  have hneB : ∀ q, q < y0.heap.size → blkOf (.slice p1 l.length c1) l.length q := fun q hq => .inr (fun e => by have h1 := hv1 q e; omega)
  have P1' := P1.keepK kx (.inr (fun e => by have h1 := hv1 _ e; omega))
  replace P0 := P0.keepK kx (hneB _ (by omega))
  replace S0 := S0.keepK kx hne0
  replace B := B.trans (kx.toBelow B.size (fun q hq => hneB q (by omega)))
  have hg' : errCell x3 := (kx.cell (p := ⟨0, 0, none⟩) (cell_lt hg) (hneB _ (Nat.lt_of_lt_of_le (cell_lt hg0) hwy))).trans hg
  replace P1 := P1'
  replace hg := hg'
  replace S1 := S1m
  have hs3 := kx.size
  clear P1' hg' S1m kx hne0 hneB
  clear P1c0 P1c1 P1c2 P1c3 P1c4 P1c5 P1c6 P1c7
  obtain ⟨P1c0, P1c1, P1c2, P1c3, P1c4, P1c5, P1c6, P1c7⟩ := blk8_cells P1
  have r1 := S1.rowN
  go_wp2_with fail
  refine (heldMailOut_any k f t n a r c p1 l.length c1 x3 hl3 r1).mono ?_
  rintro e x4 ⟨rfl, bx⟩
  replace hg := hg.keep bx
  replace P0 := P0.keep bx
  replace S0 := S0.keep bx
  replace P1 := P1.keep bx
  replace S1 := S1.keep bx
  replace B := B.trans (bx.mono B.size)
  have hs4 := bx.size
  clear bx r1
  clear P1c0 P1c1 P1c2 P1c3 P1c4 P1c5 P1c6 P1c7
  have hq1 : ¬ ((1 + 3 * l.length : Nat) : Int) < 0 := by omega
  go_wp2_with fail
  refine (implMRead_any a0 c ⟨k, f, t, n, a, r, l⟩ _ HP.out hg).mono ?_
  rintro e x5 ⟨v2, rfl, own2, bx⟩
  replace hg := hg.keep bx
  replace P0 := P0.keep bx
  replace S0 := S0.keep bx
  replace P1 := P1.keep bx
  replace S1 := S1.keep bx
  replace B := B.trans (bx.mono B.size)
  have hbs2 := bx.size
  clear bx
  dsimp only at own2
  have hv2 : ∀ g, v2.ownBlock = some g → _ := fun g hg => own2.lt g hg
  have S2 := own_sl own2
  obtain ⟨p2, c2, rfl, o2, z2⟩ := S2
  have S2 : OwnSl _ _ (.slice p2 l.length c2) l := ⟨p2, c2, rfl, o2, z2⟩
  unfold mailOutV
  dsimp only
  have bx : Below x5.heap.size x5 (x5.alloc (.cells #[.int .i64 k, .int .i64 f, .int .i64 t, .int .i64 n, .int .i64 a, .int .i64 r, .slice p2 l.length c2, .int .i64 c] 30)) := (Below.refl _ _).alloc (Nat.le_refl _) _
  have P2 := BlkIs.new x5 30 #[.int .i64 k, .int .i64 f, .int .i64 t, .int .i64 n, .int .i64 a, .int .i64 r, .slice p2 l.length c2, .int .i64 c]
  replace S2 := S2.keep bx
  replace hg := hg.keep bx
  replace P0 := P0.keep bx
  replace S0 := S0.keep bx
  replace P1 := P1.keep bx
  replace S1 := S1.keep bx
  replace B := B.trans (bx.mono B.size)
  have hxy2 : x5.heap.size < (x5.alloc (.cells #[.int .i64 k, .int .i64 f, .int .i64 t, .int .i64 n, .int .i64 a, .int .i64 r, .slice p2 l.length c2, .int .i64 c] 30)).heap.size := by simp
  clear bx o2 z2 own2
  go_upto_region 16 with fail
  generalize hy5 : x5.alloc (.cells #[.int .i64 k, .int .i64 f, .int .i64 t, .int .i64 n, .int .i64 a, .int .i64 r, .slice p2 l.length c2, .int .i64 c] 30) = y5 at *
  clear hy5
  obtain ⟨P0c0, P0c1, P0c2, P0c3, P0c4, P0c5, P0c6, P0c7⟩ := blk8_cells P0
  obtain ⟨P2c0, P2c1, P2c2, P2c3, P2c4, P2c5, P2c6, P2c7⟩ := blk8_cells P2
  have r0 := S0.row
  have r2 := S2.row
  go_wp2_with fail
  refine (eqMailOut_same k f t n a r c p2 p0 c2 c0 l y5 hl r2 r0).mono ?_
  rintro e x6 ⟨rfl, bx⟩
  replace hg := hg.keep bx
  replace P0 := P0.keep bx
  replace S0 := S0.keep bx
  replace P1 := P1.keep bx
  replace S1 := S1.keep bx
  replace P2 := P2.keep bx
  replace S2 := S2.keep bx
  replace B := B.trans (bx.mono B.size)
  clear bx r0 r2
  clear P0c0 P0c1 P0c2 P0c3 P0c4 P0c5 P0c6 P0c7 P2c0 P2c1 P2c2 P2c3 P2c4 P2c5 P2c6 P2c7
  obtain ⟨P1c0, P1c1, P1c2, P1c3, P1c4, P1c5, P1c6, P1c7⟩ := blk8_cells P1
  have r1 := S1.rowN
  go_wp2_with fail
  refine (heldMailOut_any k f t n a r c p1 l.length c1 x6 hl3 r1).mono ?_
  rintro e x7 ⟨rfl, bx⟩
  replace hg := hg.keep bx
  replace P0 := P0.keep bx
  replace S0 := S0.keep bx
  replace P1 := P1.keep bx
  replace S1 := S1.keep bx
  replace P2 := P2.keep bx
  replace S2 := S2.keep bx
  replace B := B.trans (bx.mono B.size)
  clear bx r1
  clear P1c0 P1c1 P1c2 P1c3 P1c4 P1c5 P1c6 P1c7
  go_wp2
  go_ret
  exact ⟨rfl, B⟩

theorem FnExactMailRead_et : Tryd.prog.globalNamed "errors.errorType" = some 0 := by kernel_rfl
theorem FnExactMailRead_rt : (Tryd.prog.cutTypes.find? (·.1 == "internal/reflectlite.rtype")).map (·.2) = some 133 := by kernel_rfl
theorem FnExactMailRead_oneRow : ((List.range 177).filter fun t => Tryd.prog.rowNamed t [101, 114, 114, 111, 114]) = [51] := by kernel_rfl
theorem FnExactMailRead_size : Tryd.prog.types.size = 177 := by kernel_rfl
theorem FnExactMailRead_cell {W : World} (h : laidMetH Tryd.prog Rows.fnExactMailReadRow.laid W) : errCell W := by
  have h' : laidMet Tryd.prog [] W ∧ handlesMet Tryd.prog Rows.fnExactMailReadRow.laid W := h
  obtain ⟨name, u, ty, e1, e2, e3, e4, e5⟩ := h'.2 _ (List.mem_singleton.2 rfl)
  have en : name = [101, 114, 114, 111, 114] := (Option.some.inj e1).symm
  subst en
  obtain rfl := Option.some.inj (FnExactMailRead_rt.symm.trans e2)
  have hm : ty ∈ (List.range 177).filter fun t => Tryd.prog.rowNamed t [101, 114, 114, 111, 114] := List.mem_filter.2 ⟨List.mem_range.2 (by rw [← FnExactMailRead_size]; exact e3), e4⟩
  rw [FnExactMailRead_oneRow] at hm
  obtain rfl := List.mem_singleton.1 hm
  have hh : typeHandle Tryd.prog 51 = .pointer (some ⟨1, 51, none⟩) := by kernel_rfl
  rw [hh] at e5
  unfold errCell
  simpa using World.var?_cell FnExactMailRead_et e5 0
set_option maxRecDepth 100000 in
theorem FnExactMailRead_lifted (os : Os) (started : os.Started) (H : Type) (enc : TypeId × Value → H) :
    ReturnsInHanded {} Tryd.checked os 4 .any (fun w args => (Rows.fnExactMailReadSpec.pre enc Tryd.prog Tryd.f4 [] false w args ∧ laidMetH Tryd.prog Rows.fnExactMailReadRow.laid w) ∧ sizedMet enc Tryd.prog Tryd.f4 (OpenSpec.ofChange Rows.fnExactMailReadSpec) false w args)
      (Rows.fnExactMailReadSpec.post enc Tryd.prog Tryd.f4 false true false false) := by
  refine returnsInHanded_of_change_and (C := Tryd.checked) (X := fun w _ => laidMetH Tryd.prog Rows.fnExactMailReadRow.laid w) (fun _ _ _ hh h => h.of_heap hh) (by kernel_rfl) started (by kernel_rfl) Tryd.func4
    (ChangeSpec.witness_at (enc := enc) (C := Tryd.checked) (os := os) (X := fun w _ => laidMetH Tryd.prog Rows.fnExactMailReadRow.laid w) false (let w0 := World.holding Tryd.prog os ⟨#[], #[], []⟩; { w0 with heap := w0.heap.modify 0 fun | .cells _ t frozen => .cells #[.iface 133 (.agg #[.pointer (some ⟨1, 51, none⟩)])] t frozen | o => o }) #[.string ByteArray.empty] 8 rfl (by kernel_rfl) (by kernel_rfl) (by kernel_rfl) (by kernel_rfl) (by kernel_rfl) (laidMetH_of_parts (laidMet_nil _ _) (by kernel_rfl))) ?_
  intro W base args ds gs before hval0 hW _ _ hL _
  have hval : ∀ (j : Nat) t v, Tryd.f4.params[j]? = some t → args[j]? = some v → Value.okWide Tryd.prog W .any base t v := hval0
  have hW' := hW
  obtain ⟨p, q, hA0, hV0, rfl, hfz, hnd⟩ := hW
  have hA : DataW.TrodAll enc Tryd.prog W 0 (fun _ => true) true Tryd.f4.params.toList args.toList ds p := hA0
  have hV : DataW.TrodVars enc Tryd.prog W (fun _ => true) [] gs q := hV0
  rw [Tryd.params4] at hA hval
  obtain ⟨v0, vs0, d0, ds0, p0, q0, hargs, rfl, rfl, h0, r0⟩ := trodAll_cons hA
  obtain ⟨rfl, rfl, rfl⟩ := trodAll_nil r0
  obtain rfl : args = #[v0] := by cases args; simp_all
  obtain ⟨rfl, rfl⟩ : gs = [] ∧ q = [] := by
    cases gs with
    | nil => exact ⟨rfl, hV⟩
    | cons g r => exact absurd hV (by intro h; cases h)
  obtain ⟨a0, rfl, rfl, rfl, w0⟩ := open_string Tryd.underlying9 (hval 0 9 v0 rfl rfl) h0
  clear hA0 hval0
  refine (FnExactMailRead_walk a0 w0 W (FnExactMailRead_cell hL)).mono fun e W' ⟨he, bel⟩ => ?_
  subst he
  exact ⟨_, rfl, _, _, _, [], _, [], hW', trodAll_mk1 (shut_bool Tryd.underlying4 _), (trodAll_cons_mk (shut_string Tryd.underlying9 w0) trodAll_mk0), rfl, bel.frame _, fun h => by cases h⟩
theorem FnExactMailRead_row : Rows.FnExactMailReadSaid :=
  OpenClaim.holds_of_wide 4 Tryd.f4 rfl rfl rfl rfl rfl rfl rfl ⟨rfl, rfl, rfl, rfl, rfl⟩ rfl rfl rfl rfl rfl (by kernel_rfl) Tryd.func4 (by kernel_rfl)
    (of_decide_eq_true (by kernel_rfl)) (by unfold Func.isWrapper; rw [if_neg (of_decide_eq_false (by kernel_rfl))]; exact ⟨rfl, rfl⟩)
    (fun os started H enc _ => FnExactMailRead_lifted os started H enc)
/-- The statement. -/
theorem FnExactMailRead_holds : Rows.FnExactMailReadCardSaid :=
  Claim7.holds_tied_plain_at .later [] [.handle] true _ true
    FnExactMailRead_row (fun _ h => by cases h) (by kernel_rfl) (fun _ h => by cases h) fnExactMailRead_row_tie rfl ⟨rfl, rfl⟩ (by kernel_rfl) rfl
    (fun f fn hf hfn => by
      obtain rfl : f = 4 := Option.some.inj ((show Tryd.prog.funcNamed Rows.fnExactMailReadRow.func = some 4 by kernel_rfl).symm.trans hf) |>.symm
      obtain rfl : fn = Tryd.f4 := (Option.some.inj (Tryd.func4.symm.trans hfn)).symm
      exact ⟨by kernel_rfl, fun j t ht => by
        rw [Tryd.params4] at ht
        rcases j with _ | j
        · obtain rfl : t = 9 := by simpa using ht.symm
          exact (show Tryd.prog.wantsStandIn 9 = false by kernel_rfl)
        simp at ht⟩)
    (by kernel_rfl)
#print axioms FnExactMailRead_holds

end Go.Proofs.YtpjdkgcdkfmkiaaDoor
