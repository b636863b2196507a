/- The contract of the program's NodeNew. -/
import Derived.Test.YtmdcankfjmkkeaaNActC
import Derived.Test.YtmdcankfjmkkeaaNImpl
import Derived.Test.YtmdcankfjmkkeaaG39
namespace Go.Proofs.Ytmdcankfjmkkeaa
open Go Go.RowKit
set_option linter.unusedVariables false
set_option linter.unusedSimpArgs false

theorem keepsV_below {c b n : Nat} {w w' : World} {v : Value} {xs : List Value} {e : TypeId} {size : Nat} (h : w.ownsRow c e size v n xs) (k : Keeps (fun q => q ≠ b ∧ v.ownBlock ≠ some q) w w') (hb : c ≤ b) (hc : c ≤ w.heap.size) : Below c w w' :=
  k.toBelow hc (fun q hq => ⟨by omega, fun e => by have := (h.lt q e).1; omega⟩)
/-- What a call leaves that has sent nothing. -/
theorem st_post {c : Nat} {a : NodeM} {n : NodeV} {w w' : World} (miss : Int) (h : StRows w' c a n) (hb : Below c w w') : NPost c ⟨n, [], miss, 0⟩ w (.returned (outVal a n (.slice none 0 0) miss 0)) w' :=
  ⟨a, .slice none 0 0, [], rfl, ⟨h.own, ownNil _ _, fun g => .inr (offNil g)⟩, rfl, h.room, hb⟩
theorem new_node (id inc seed now : Int) : ({ ({ (⟨id, inc, 0, seed, now, [], [], [], 0, .z, []⟩ : NodeV) with view := addF [] ⟨id, inc, 1⟩ } : NodeV) with rum := putR [] ⟨id, inc, 1⟩ } : NodeV) = newN id inc seed now := rfl
set_option maxHeartbeats 8000000 in
set_option maxRecDepth 100000 in
theorem implNew_any (id inc seed now : Int) (x : NOutV) (w : World) (hx : NewIs id inc seed now x) : Calls Try.prog 12 #[.int .i64 id, .int .i64 inc, .int .i64 seed, .int .i64 now] w fun e w' => NPost w.heap.size x w e w' := by
  have HX : Hid (NewIs id inc seed now x) := hx
  clear hx
  obtain ⟨q0, hq0⟩ := tells_bool (nodeR id)
  have HQ0 : Hid (q0 = true ↔ nodeR id) := hq0
  clear hq0
  obtain ⟨q1, hq1⟩ := tells_bool (timeR inc)
  have HQ1 : Hid (q1 = true ↔ timeR inc) := hq1
  clear hq1
  obtain ⟨q2, hq2⟩ := tells_bool (timeR now)
  have HQ2 : Hid (q2 = true ↔ timeR now) := hq2
  clear hq2
  obtain ⟨q3, hq3⟩ := tells_bool (seedR seed)
  have HQ3 : Hid (q3 = true ↔ seedR seed) := hq3
  clear hq3
  obtain ⟨okb, hokb⟩ := tells_bool (nodeR id ∧ timeR inc ∧ timeR now ∧ seedR seed)
  have HOK : Hid (okb = true ↔ nodeR id ∧ timeR inc ∧ timeR now ∧ seedR seed) := hokb
  clear hokb
  have HNO : Hid (¬ (nodeR id ∧ timeR inc ∧ timeR now ∧ seedR seed) → okb = false) := fun h => by
    cases okb with
    | false => rfl
    | true => exact absurd (HOK.out.1 rfl) h

  have B := (Below.refl w.heap.size w).alloc (Nat.le_refl _) (.cells #[.int .i64 0, .int .i64 0, .int .i64 0, .int .i64 0, .int .i64 0, .slice none 0 0, .slice none 0 0, .slice none 0 0, .int .i64 0, .int .i64 0, .int .i64 0, .int .i64 0, .bool false, .slice none 0 0, .slice none 0 0, .int .i64 0, .int .i64 0] 46)
  have O := BlkIs.new w 46 #[.int .i64 0, .int .i64 0, .int .i64 0, .int .i64 0, .int .i64 0, .slice none 0 0, .slice none 0 0, .slice none 0 0, .int .i64 0, .int .i64 0, .int .i64 0, .int .i64 0, .bool false, .slice none 0 0, .slice none 0 0, .int .i64 0, .int .i64 0]
  go_enter Try.func12, Try.ntmps12
  go_upto_region 1 with fail
  obtain ⟨X, hX⟩ : ∃ W, w.alloc (.cells #[.int .i64 0, .int .i64 0, .int .i64 0, .int .i64 0, .int .i64 0, .slice none 0 0, .slice none 0 0, .slice none 0 0, .int .i64 0, .int .i64 0, .int .i64 0, .int .i64 0, .bool false, .slice none 0 0, .slice none 0 0, .int .i64 0, .int .i64 0] 46) = W := ⟨_, rfl⟩
  rw [hX] at O B ⊢
  clear hX
  obtain ⟨kr, hkr⟩ : ∃ k, w.heap.size = k := ⟨_, rfl⟩
  rw [hkr] at O B ⊢
  go_upto_region 1 with fail
  go_cut [27] (fun vc wc => vc = .bool (!okb) ∧ wc = X)
  case first =>
    as_aux_lemma =>
      go_wp2_with fail
      refine (inode_is id q0 _ HQ0.out).mono ?_
      rintro e X0 ⟨rfl, hz⟩
      replace hz := hz.symm
      subst hz
      cases q0 with
      | false =>
        obtain rfl : okb = false := HNO.out (fun h => by have := HQ0.out.2 h.1; cases this)
        go_wp2_with fail
        go_meet
        case rel => exact ⟨rfl, rfl⟩
      | true =>
      have K0 : Hid (nodeR id) := HQ0.out.1 rfl
      clear HQ0
      go_wp2_with fail
      refine (itime_is inc q1 _ HQ1.out).mono ?_
      rintro e X1 ⟨rfl, hz⟩
      replace hz := hz.symm
      subst hz
      cases q1 with
      | false =>
        obtain rfl : okb = false := HNO.out (fun h => by have := HQ1.out.2 h.2.1; cases this)
        go_wp2_with fail
        go_meet
        case rel => exact ⟨rfl, rfl⟩
      | true =>
      have K1 : Hid (timeR inc) := HQ1.out.1 rfl
      clear HQ1
      go_wp2_with fail
      refine (itime_is now q2 _ HQ2.out).mono ?_
      rintro e X2 ⟨rfl, hz⟩
      replace hz := hz.symm
      subst hz
      cases q2 with
      | false =>
        obtain rfl : okb = false := HNO.out (fun h => by have := HQ2.out.2 h.2.2.1; cases this)
        go_wp2_with fail
        go_meet
        case rel => exact ⟨rfl, rfl⟩
      | true =>
      have K2 : Hid (timeR now) := HQ2.out.1 rfl
      clear HQ2
      go_wp2_with fail
      refine (iseed_is seed q3 _ HQ3.out).mono ?_
      rintro e X3 ⟨rfl, hz⟩
      replace hz := hz.symm
      subst hz
      cases q3 with
      | false =>
        obtain rfl : okb = false := HNO.out (fun h => by have := HQ3.out.2 h.2.2.2; cases this)
        go_wp2_with fail
        go_meet
        case rel => exact ⟨rfl, rfl⟩
      | true =>
      have K3 : Hid (seedR seed) := HQ3.out.1 rfl
      clear HQ3
      obtain rfl : okb = true := HOK.out.2 ⟨K0.out, K1.out, K2.out, K3.out⟩
      go_wp2_with fail
      go_meet
      case rel => exact ⟨rfl, rfl⟩
  case rest =>
  obtain ⟨rfl, hzz⟩ := hcut
  replace hzz := hzz.symm
  subst hzz

  cases okb with
  | false =>
   as_aux_lemma =>
    obtain rfl : x = illN 1 := by
      rcases HX.out with ⟨⟨h0, h1, h2, h3⟩, _⟩ | ⟨_, h⟩
      · have := HOK.out.2 ⟨h0, h1, h3, h2⟩; cases this
      · exact h
    clear HX HOK HNO HQ0 HQ1 HQ2 HQ3
    go_wp2_with (refine store_blk O rfl _ _ _ rfl rfl rfl (by kernel_rfl) rfl (by kernel_rfl) ?_; intro Y P K)
    exact ret_blk P Try.results12 rfl _ Try.underlying46 (by kernel_rfl) rfl (ill_post 1 _ w Y (by subst hkr; exact B.trans (K.belowNe (Nat.le_refl _) B.size)))
  | true =>
  obtain ⟨rfl, HF⟩ : x = ⟨newN id inc seed now, [], 0, 0⟩ ∧ Hid ((⟨id, inc, 1⟩ : FactV).ok) := by
    obtain ⟨h0, h1, h2, h3⟩ := HOK.out.1 rfl
    rcases HX.out with ⟨_, h⟩ | ⟨h, _⟩
    · exact ⟨h, ⟨h0, h1, by show 1 ≤ (1 : Int) ∧ (1 : Int) ≤ 3; omega⟩⟩
    · exact absurd ⟨h0, h1, h3, h2⟩ h
  clear HX HOK HNO HQ0 HQ1 HQ2 HQ3
  go_wp2_with fail
  refine (actingOf_any noneM ⟨id, inc, 0, seed, now, [], [], [], 0, .z, []⟩ now _ ⟨Nat.zero_le _, Nat.zero_le _, Nat.zero_le _, Nat.zero_le _⟩ ⟨.inl rfl, .inl rfl, .inl rfl, .inl rfl⟩).mono ?_
  rintro e Y ⟨b, a, rfl, H, by1⟩
  have hcx : kr ≤ X.heap.size := Nat.le_of_lt O.lt
  have hbk : kr < b := Nat.lt_of_lt_of_le O.lt H.lo
  replace O := O.keep by1
  replace B := B.trans (by1.mono hcx)
  replace H : NodeSt 83 Y kr b a ⟨id, inc, 0, seed, now, [], [], [], 0, .z, []⟩ (.int .i64 now) (.slice none 0 0) (.int .i64 0) := ⟨H.blk, Nat.le_trans hcx H.lo, ⟨rowLe H.rows.v hcx, rowLe H.rows.r hcx, rowLe H.rows.t hcx, rowLe H.rows.d hcx⟩⟩
  clear by1 hcx
  have HD := H.keep (Below.refl _ _).drew
  have hky : kr ≤ Y.drew.heap.size := Nat.le_of_lt O.lt
  go_upto_region 4 with fail
  go_region_with (first
    | (go_at_call 51; refine (hold_any 83 notEl_act kr b a ⟨id, inc, 0, seed, now, [], [], [], 0, .z, []⟩ 1 _ _ _ _ rightV_nil HF.out hky HD).mono ?_; rintro e Y1 ⟨rfl, va, vc, H1, k1⟩; unfold FactV.val)
    | (go_at_call 50; refine (spread_any 83 notEl_act kr b _ _ ⟨id, inc, 1⟩ _ _ _ _ rightR_nil HF.out H1).mono ?_; rintro e Y2 ⟨rfl, ra, rc, H2, k2⟩))
  have OD := O.keep (Below.refl _ _).drew
  have OY := (OD.keepK k1 ⟨by omega, OD.not_row notEl_out.f HD.rows.v⟩).keepK k2 (by omega)
  have BY : Below kr w Y2 := (B.drew.trans (keepsV_below HD.rows.v k1 (by omega) hky)).trans (k2.belowNe (by omega) (Nat.le_trans hky k1.size))
  replace H2 : NodeSt 83 Y2 kr b ⟨va, vc, ra, rc, a.ta, a.tc, a.da, a.dc⟩ (newN id inc seed now) (.int .i64 now) (.slice none 0 0) (.int .i64 0) := H2
  clear O OD B HD hky H H1 k1 k2
  go_wp2_with (first
    | (go_at_call 52; refine (out_any kr b _ (newN id inc seed now) _ none 0 0 0 _ H2).mono ?_; rintro e V ⟨rfl, bv⟩; unfold outVal outCells; have OV := OY.keep bv)
    | (refine store_blk OV rfl _ _ _ rfl rfl rfl (by kernel_rfl) rfl (by kernel_rfl) ?_; intro U P K))
  have RV := H2.rows.keep bv
  have BV := BY.trans (bv.mono (Nat.le_of_lt OY.lt))
  refine ret_blk P Try.results12 rfl _ Try.underlying46 (by kernel_rfl) rfl ?_
  subst hkr
  exact st_post 0 (RV.keepB OV notEl_out K) (BV.trans (K.belowNe (Nat.le_refl _) (Nat.le_of_lt OV.lt)))
end Go.Proofs.Ytmdcankfjmkkeaa
/- The contract of the specification's NodeNew. -/
namespace Go.Proofs.Ytmdcankfjmkkeaa
open Go Go.RowKit
set_option linter.unusedVariables false
set_option linter.unusedSimpArgs false

set_option maxHeartbeats 8000000 in
set_option maxRecDepth 100000 in
theorem specNew_any (id inc seed now : Int) (x : NOutV) (w : World) (hx : NewIs id inc seed now x) : Calls Try.prog 11 #[.int .i64 id, .int .i64 inc, .int .i64 seed, .int .i64 now] w fun e w' => NPost w.heap.size x w e w' := by
  have HX : Hid (NewIs id inc seed now x) := hx
  clear hx
  obtain ⟨q0, hq0⟩ := tells_bool (nodeR id)
  have HQ0 : Hid (q0 = true ↔ nodeR id) := hq0
  clear hq0
  obtain ⟨q1, hq1⟩ := tells_bool (timeR inc)
  have HQ1 : Hid (q1 = true ↔ timeR inc) := hq1
  clear hq1
  obtain ⟨q2, hq2⟩ := tells_bool (seedR seed)
  have HQ2 : Hid (q2 = true ↔ seedR seed) := hq2
  clear hq2
  obtain ⟨q3, hq3⟩ := tells_bool (timeR now)
  have HQ3 : Hid (q3 = true ↔ timeR now) := hq3
  clear hq3
  obtain ⟨okb, hokb⟩ := tells_bool (nodeR id ∧ timeR inc ∧ seedR seed ∧ timeR now)
  have HOK : Hid (okb = true ↔ nodeR id ∧ timeR inc ∧ seedR seed ∧ timeR now) := hokb
  clear hokb
  have HNO : Hid (¬ (nodeR id ∧ timeR inc ∧ seedR seed ∧ timeR now) → okb = false) := fun h => by
    cases okb with
    | false => rfl
    | true => exact absurd (HOK.out.1 rfl) h

  have B := (Below.refl w.heap.size w).alloc (Nat.le_refl _) (.cells #[.int .i64 0, .int .i64 0, .int .i64 0, .int .i64 0, .int .i64 0, .slice none 0 0, .slice none 0 0, .slice none 0 0, .int .i64 0, .int .i64 0, .int .i64 0, .int .i64 0, .bool false, .slice none 0 0, .slice none 0 0, .int .i64 0, .int .i64 0] 46)
  have O := BlkIs.new w 46 #[.int .i64 0, .int .i64 0, .int .i64 0, .int .i64 0, .int .i64 0, .slice none 0 0, .slice none 0 0, .slice none 0 0, .int .i64 0, .int .i64 0, .int .i64 0, .int .i64 0, .bool false, .slice none 0 0, .slice none 0 0, .int .i64 0, .int .i64 0]
  go_enter Try.func11, Try.ntmps11
  go_upto_region 1 with fail
  obtain ⟨X, hX⟩ : ∃ W, w.alloc (.cells #[.int .i64 0, .int .i64 0, .int .i64 0, .int .i64 0, .int .i64 0, .slice none 0 0, .slice none 0 0, .slice none 0 0, .int .i64 0, .int .i64 0, .int .i64 0, .int .i64 0, .bool false, .slice none 0 0, .slice none 0 0, .int .i64 0, .int .i64 0] 46) = W := ⟨_, rfl⟩
  rw [hX] at O B ⊢
  clear hX
  obtain ⟨kr, hkr⟩ : ∃ k, w.heap.size = k := ⟨_, rfl⟩
  rw [hkr] at O B ⊢
  go_upto_region 1 with fail
  go_cut [27] (fun vc wc => vc = .bool (!okb) ∧ wc = X)
  case first =>
    as_aux_lemma =>
      go_wp2_with fail
      refine (node_is id q0 _ HQ0.out).mono ?_
      rintro e X0 ⟨rfl, hz⟩
      replace hz := hz.symm
      subst hz
      cases q0 with
      | false =>
        obtain rfl : okb = false := HNO.out (fun h => by have := HQ0.out.2 h.1; cases this)
        go_wp2_with fail
        go_meet
        case rel => exact ⟨rfl, rfl⟩
      | true =>
      have K0 : Hid (nodeR id) := HQ0.out.1 rfl
      clear HQ0
      go_wp2_with fail
      refine (time_is inc q1 _ HQ1.out).mono ?_
      rintro e X1 ⟨rfl, hz⟩
      replace hz := hz.symm
      subst hz
      cases q1 with
      | false =>
        obtain rfl : okb = false := HNO.out (fun h => by have := HQ1.out.2 h.2.1; cases this)
        go_wp2_with fail
        go_meet
        case rel => exact ⟨rfl, rfl⟩
      | true =>
      have K1 : Hid (timeR inc) := HQ1.out.1 rfl
      clear HQ1
      go_wp2_with fail
      refine (seed_is seed q2 _ HQ2.out).mono ?_
      rintro e X2 ⟨rfl, hz⟩
      replace hz := hz.symm
      subst hz
      cases q2 with
      | false =>
        obtain rfl : okb = false := HNO.out (fun h => by have := HQ2.out.2 h.2.2.1; cases this)
        go_wp2_with fail
        go_meet
        case rel => exact ⟨rfl, rfl⟩
      | true =>
      have K2 : Hid (seedR seed) := HQ2.out.1 rfl
      clear HQ2
      go_wp2_with fail
      refine (time_is now q3 _ HQ3.out).mono ?_
      rintro e X3 ⟨rfl, hz⟩
      replace hz := hz.symm
      subst hz
      cases q3 with
      | false =>
        obtain rfl : okb = false := HNO.out (fun h => by have := HQ3.out.2 h.2.2.2; cases this)
        go_wp2_with fail
        go_meet
        case rel => exact ⟨rfl, rfl⟩
      | true =>
      have K3 : Hid (timeR now) := HQ3.out.1 rfl
      clear HQ3
      obtain rfl : okb = true := HOK.out.2 ⟨K0.out, K1.out, K2.out, K3.out⟩
      go_wp2_with fail
      go_meet
      case rel => exact ⟨rfl, rfl⟩
  case rest =>
  obtain ⟨rfl, hzz⟩ := hcut
  replace hzz := hzz.symm
  subst hzz

  cases okb with
  | false =>
   as_aux_lemma =>
    obtain rfl : x = illN 1 := by
      rcases HX.out with ⟨h, _⟩ | ⟨_, h⟩
      · have := HOK.out.2 h; cases this
      · exact h
    clear HX HOK HNO HQ0 HQ1 HQ2 HQ3
    go_wp2_with (first
      | (go_at_call 47; refine (specIll_any 1 _).mono ?_; rintro e Y ⟨rfl, bx⟩; have O2 := O.keep bx)
      | (refine store_blk O2 rfl _ _ _ rfl rfl rfl (by kernel_rfl) rfl (by kernel_rfl) ?_; intro U P K))
    exact ret_blk P Try.results11 rfl _ Try.underlying46 (by kernel_rfl) rfl (ill_post 1 _ w U (by subst hkr; exact (B.trans (bx.mono B.size)).trans (K.belowNe (Nat.le_refl _) (Nat.le_of_lt O2.lt))))
  | true =>
  obtain rfl : x = ⟨newN id inc seed now, [], 0, 0⟩ := by
    rcases HX.out with ⟨_, h⟩ | ⟨h, _⟩
    · exact h
    · exact absurd (HOK.out.1 rfl) h
  clear HX HOK HNO HQ0 HQ1 HQ2 HQ3
  have hkx := O.lt
  go_upto_region 4 with (refine store_blk (BlkIs.new _ _ _) rfl _ _ _ rfl rfl rfl (by kernel_rfl) rfl (by kernel_rfl) ?_; intro V F K)
  have bv : Below X.heap.size X V := ((Below.refl _ _).alloc (Nat.le_refl _) _).trans (K.belowNe (Nat.le_refl _) (by simp))
  have BV := B.trans (bv.mono (by omega))
  have OV := O.keep bv
  have hkv := OV.lt
  have BA : Below V.heap.size V ((V.alloc (.cells #[.int .i64 id, .int .i64 inc, .int .i64 1] 62)).alloc (.cells #[.int .i64 id, .int .i64 inc, .int .i64 1, .int .i64 0] 77)) := ((Below.refl _ _).alloc (Nat.le_refl _) _).alloc (by simp) _
  have O2 := OV.keep BA
  have PA : BlkIs ((V.alloc (.cells #[.int .i64 id, .int .i64 inc, .int .i64 1] 62)).alloc (.cells #[.int .i64 id, .int .i64 inc, .int .i64 1, .int .i64 0] 77)) V.heap.size 62 #[.int .i64 id, .int .i64 inc, .int .i64 1] := (BlkIs.new V 62 #[.int .i64 id, .int .i64 inc, .int .i64 1]).keep ((Below.refl _ _).alloc (Nat.le_refl _) _)
  have PB := BlkIs.new (V.alloc (.cells #[.int .i64 id, .int .i64 inc, .int .i64 1] 62)) 77 #[.int .i64 id, .int .i64 inc, .int .i64 1, .int .i64 0]
  rw [World.size_alloc] at PB
  clear K B O bv
  go_wp2_with (first
    | (refine load_blk F rfl _ _ rfl rfl _ Try.underlying62 (by kernel_rfl) ?_)
    | (refine load_blk (F.keep ((Below.refl _ _).alloc (Nat.le_refl _) _)) rfl _ _ rfl rfl _ Try.underlying62 (by kernel_rfl) ?_)
    | (refine store_blk O2 rfl _ _ _ rfl rfl rfl (by kernel_rfl) rfl (by kernel_rfl) ?_; intro U P K))
  refine ret_blk P Try.results11 rfl _ Try.underlying46 (by kernel_rfl) rfl ?_
  subst hkr
  exact new_post id inc seed now w.heap.size V.heap.size (V.heap.size + 1) w U (by omega) (by omega) (PA.keepK K (by omega)) (PB.keepK K (by omega)) (by omega) ((BV.trans (BA.mono (by omega))).trans (K.belowNe (Nat.le_refl _) (Nat.le_of_lt O2.lt)))
end Go.Proofs.Ytmdcankfjmkkeaa
