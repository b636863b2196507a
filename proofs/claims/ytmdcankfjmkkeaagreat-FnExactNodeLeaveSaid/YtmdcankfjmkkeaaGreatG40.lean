/- The contract of the program's out. -/
import Derived.Test.YtmdcankfjmkkeaaGreatG38
import Derived.Test.YtmdcankfjmkkeaaGreatG39
namespace Go.Proofs.YtmdcankfjmkkeaaGreat
open Go Go.RowKit
set_option linter.unusedVariables false
set_option linter.unusedSimpArgs false

set_option maxHeartbeats 4000000 in
set_option maxRecDepth 100000 in
theorem out_any (c b : Nat) (a : NodeM) (n : NodeV) (x : Value) (ma : Option Addr) (mn mc : Nat) (miss : Int) (w : World) (h : NodeSt 92 w c b a n x (.slice ma mn mc) (.int .i64 miss)) :
    Calls Tryz.prog 54 #[.pointer (some ⟨b, 0, none⟩)] w fun e w' => e = .returned (outVal a n (.slice ma mn mc) miss 0) ∧ Below w.heap.size w w' := by
  have O0 : BlkIs w b 92 #[.int .i64 n.id, .int .i64 n.inc, .int .i64 n.num, .int .i64 n.seed, .int .i64 n.next, .slice a.va n.view.length a.vc, .slice a.ra n.rum.length a.rc, .slice a.ta n.tl.length a.tc, .int .i64 n.at0, .int .i64 n.pb.node, .int .i64 n.pb.num, .int .i64 n.pb.due, .bool n.pb.asked, .slice a.da n.db.length a.dc, x, .slice ma mn mc, .int .i64 miss] := h.blk
  have hlt := O0.lt
  clear h
  have B := (Below.refl w.heap.size w).alloc (Nat.le_refl _) (.cells #[.int .i64 0, .int .i64 0, .int .i64 0, .int .i64 0, .int .i64 0, .slice none 0 0, .slice none 0 0, .slice none 0 0, .int .i64 0, .int .i64 0, .int .i64 0, .int .i64 0, .bool false, .slice none 0 0, .slice none 0 0, .int .i64 0, .int .i64 0] 37)
  have P := BlkIs.new w 37 #[.int .i64 0, .int .i64 0, .int .i64 0, .int .i64 0, .int .i64 0, .slice none 0 0, .slice none 0 0, .slice none 0 0, .int .i64 0, .int .i64 0, .int .i64 0, .int .i64 0, .bool false, .slice none 0 0, .slice none 0 0, .int .i64 0, .int .i64 0]
  have O := O0.keep B
  go_enter Tryz.func54, Tryz.ntmps54
  go_upto_region 1 with fail
  obtain ⟨X, hX⟩ : ∃ W, w.alloc (.cells #[.int .i64 0, .int .i64 0, .int .i64 0, .int .i64 0, .int .i64 0, .slice none 0 0, .slice none 0 0, .slice none 0 0, .int .i64 0, .int .i64 0, .int .i64 0, .int .i64 0, .bool false, .slice none 0 0, .slice none 0 0, .int .i64 0, .int .i64 0] 37) = W := ⟨_, rfl⟩
  rw [hX] at P B O ⊢
  clear hX O0
  obtain ⟨kr, hkr⟩ : ∃ k, w.heap.size = k := ⟨_, rfl⟩
  rw [hkr] at P ⊢
  have hbk : b ≠ kr := by omega
  refine wp_region_held_drew (S := fun w' => Keeps (fun q => q ≠ kr) X w') (by kernel_rfl) ?hS0 (fun hHeld => ?_)
  case hS0 => exact (Keeps.refl _ _).drew
  refine takeG 0 (v := .pointer (some ⟨b, 0, none⟩)) rfl (by kernel_rfl) (by kernel_rfl) (by kernel_rfl) (by kernel_rfl) (fun _ _ _ h => h) ?hy (by assumption) ?_
  case hy => (intro w' hSw; go_simp)
  try simp only [List.setIfInBounds_toArray, List.set_cons_zero, List.set_cons_succ]
  refine takeG 1 (v := .pointer (some ⟨b, 0, none⟩)) rfl (by kernel_rfl) (by kernel_rfl) (by kernel_rfl) (by kernel_rfl) (fun _ _ _ h => h) ?hy (by assumption) ?_
  case hy => (intro w' hSw; go_simp)
  try simp only [List.setIfInBounds_toArray, List.set_cons_zero, List.set_cons_succ]
  refine takeG 2 (v := .pointer (some ⟨b, 0, none⟩)) rfl (by kernel_rfl) (by kernel_rfl) (by kernel_rfl) (by kernel_rfl) (fun _ _ _ h => h) ?hy (by assumption) ?_
  case hy => (intro w' hSw; go_simp)
  try simp only [List.setIfInBounds_toArray, List.set_cons_zero, List.set_cons_succ]
  refine takeG 3 (v := .agg #[.int .i64 n.id, .int .i64 n.inc, .int .i64 n.num, .int .i64 n.seed, .int .i64 n.next, .slice a.va n.view.length a.vc, .slice a.ra n.rum.length a.rc, .slice a.ta n.tl.length a.tc, .int .i64 n.at0, .int .i64 n.pb.node, .int .i64 n.pb.num, .int .i64 n.pb.due, .bool n.pb.asked, .slice a.da n.db.length a.dc]) rfl (by kernel_rfl) (by kernel_rfl) (by kernel_rfl) (by kernel_rfl) (fun _ _ _ h => h) ?hy (by assumption) ?_
  case hy => (intro w' hSw; have s0 := (show w'.cell? ⟨b, 0, none⟩ = some (.int .i64 n.id) from (O.keepK hSw hbk).cell 0); (try dsimp only at s0); have s1 := (show w'.cell? ⟨b, 1, none⟩ = some (.int .i64 n.inc) from (O.keepK hSw hbk).cell 1); (try dsimp only at s1); have s2 := (show w'.cell? ⟨b, 2, none⟩ = some (.int .i64 n.num) from (O.keepK hSw hbk).cell 2); (try dsimp only at s2); have s3 := (show w'.cell? ⟨b, 3, none⟩ = some (.int .i64 n.seed) from (O.keepK hSw hbk).cell 3); (try dsimp only at s3); have s4 := (show w'.cell? ⟨b, 4, none⟩ = some (.int .i64 n.next) from (O.keepK hSw hbk).cell 4); (try dsimp only at s4); have s5 := (show w'.cell? ⟨b, 5, none⟩ = some (.slice a.va n.view.length a.vc) from (O.keepK hSw hbk).cell 5); (try dsimp only at s5); have s6 := (show w'.cell? ⟨b, 6, none⟩ = some (.slice a.ra n.rum.length a.rc) from (O.keepK hSw hbk).cell 6); (try dsimp only at s6); have s7 := (show w'.cell? ⟨b, 7, none⟩ = some (.slice a.ta n.tl.length a.tc) from (O.keepK hSw hbk).cell 7); (try dsimp only at s7); have s8 := (show w'.cell? ⟨b, 8, none⟩ = some (.int .i64 n.at0) from (O.keepK hSw hbk).cell 8); (try dsimp only at s8); have s9 := (show w'.cell? ⟨b, 9, none⟩ = some (.int .i64 n.pb.node) from (O.keepK hSw hbk).cell 9); (try dsimp only at s9); have s10 := (show w'.cell? ⟨b, 10, none⟩ = some (.int .i64 n.pb.num) from (O.keepK hSw hbk).cell 10); (try dsimp only at s10); have s11 := (show w'.cell? ⟨b, 11, none⟩ = some (.int .i64 n.pb.due) from (O.keepK hSw hbk).cell 11); (try dsimp only at s11); have s12 := (show w'.cell? ⟨b, 12, none⟩ = some (.bool n.pb.asked) from (O.keepK hSw hbk).cell 12); (try dsimp only at s12); have s13 := (show w'.cell? ⟨b, 13, none⟩ = some (.slice a.da n.db.length a.dc) from (O.keepK hSw hbk).cell 13); (try dsimp only at s13); go_simp)
  try simp only [List.setIfInBounds_toArray, List.set_cons_zero, List.set_cons_succ]
  refine takeG 4 (v := .pointer (some ⟨b, 0, none⟩)) rfl (by kernel_rfl) (by kernel_rfl) (by kernel_rfl) (by kernel_rfl) (fun _ _ _ h => h) ?hy (by assumption) ?_
  case hy => (intro w' hSw; go_simp)
  try simp only [List.setIfInBounds_toArray, List.set_cons_zero, List.set_cons_succ]
  refine takeG 5 (v := .pointer (some ⟨b, 0, none⟩)) rfl (by kernel_rfl) (by kernel_rfl) (by kernel_rfl) (by kernel_rfl) (fun _ _ _ h => h) ?hy (by assumption) ?_
  case hy => (intro w' hSw; go_simp)
  try simp only [List.setIfInBounds_toArray, List.set_cons_zero, List.set_cons_succ]
  refine takeG 6 (v := .pointer (some ⟨b, 15, none⟩)) rfl (by kernel_rfl) (by kernel_rfl) (by kernel_rfl) (by kernel_rfl) (fun _ _ _ h => h) ?hy (by assumption) ?_
  case hy => (intro w' hSw; go_simp)
  try simp only [List.setIfInBounds_toArray, List.set_cons_zero, List.set_cons_succ]
  refine takeG 7 (v := .slice ma mn mc) rfl (by kernel_rfl) (by kernel_rfl) (by kernel_rfl) (by kernel_rfl) (fun _ _ _ h => h) ?hy (by assumption) ?_
  case hy => (intro w' hSw; have s0 := (show w'.cell? ⟨b, 15, none⟩ = some (.slice ma mn mc) from (O.keepK hSw hbk).cell 15); (try dsimp only at s0); go_simp)
  try simp only [List.setIfInBounds_toArray, List.set_cons_zero, List.set_cons_succ]
  refine takeG 8 (v := .pointer (some ⟨b, 0, none⟩)) rfl (by kernel_rfl) (by kernel_rfl) (by kernel_rfl) (by kernel_rfl) (fun _ _ _ h => h) ?hy (by assumption) ?_
  case hy => (intro w' hSw; go_simp)
  try simp only [List.setIfInBounds_toArray, List.set_cons_zero, List.set_cons_succ]
  refine takeG 9 (v := .pointer (some ⟨b, 0, none⟩)) rfl (by kernel_rfl) (by kernel_rfl) (by kernel_rfl) (by kernel_rfl) (fun _ _ _ h => h) ?hy (by assumption) ?_
  case hy => (intro w' hSw; go_simp)
  try simp only [List.setIfInBounds_toArray, List.set_cons_zero, List.set_cons_succ]
  refine takeG 10 (v := .pointer (some ⟨b, 16, none⟩)) rfl (by kernel_rfl) (by kernel_rfl) (by kernel_rfl) (by kernel_rfl) (fun _ _ _ h => h) ?hy (by assumption) ?_
  case hy => (intro w' hSw; go_simp)
  try simp only [List.setIfInBounds_toArray, List.set_cons_zero, List.set_cons_succ]
  refine takeG 11 (v := .int .i64 miss) rfl (by kernel_rfl) (by kernel_rfl) (by kernel_rfl) (by kernel_rfl) (fun _ _ _ h => h) ?hy (by assumption) ?_
  case hy => (intro w' hSw; have s0 := (show w'.cell? ⟨b, 16, none⟩ = some (.int .i64 miss) from (O.keepK hSw hbk).cell 16); (try dsimp only at s0); go_simp)
  try simp only [List.setIfInBounds_toArray, List.set_cons_zero, List.set_cons_succ]
  refine takeG 12 (v := .agg #[.int .i64 n.id, .int .i64 n.inc, .int .i64 n.num, .int .i64 n.seed, .int .i64 n.next, .slice a.va n.view.length a.vc, .slice a.ra n.rum.length a.rc, .slice a.ta n.tl.length a.tc, .int .i64 n.at0, .int .i64 n.pb.node, .int .i64 n.pb.num, .int .i64 n.pb.due, .bool n.pb.asked, .slice a.da n.db.length a.dc, .slice ma mn mc, .int .i64 miss, .int .i64 0]) rfl (by kernel_rfl) (by kernel_rfl) (by kernel_rfl) (by kernel_rfl) (fun _ _ _ h => h) ?hy (by assumption) ?_
  case hy => (intro w' hSw; go_simp)
  try simp only [List.setIfInBounds_toArray, List.set_cons_zero, List.set_cons_succ]
  have PD := P.keep (Below.refl X.heap.size X).drew
  have hnew : BlkIs (X.drew.setRow kr #[.int .i64 n.id, .int .i64 n.inc, .int .i64 n.num, .int .i64 n.seed, .int .i64 n.next, .slice a.va n.view.length a.vc, .slice a.ra n.rum.length a.rc, .slice a.ta n.tl.length a.tc, .int .i64 n.at0, .int .i64 n.pb.node, .int .i64 n.pb.num, .int .i64 n.pb.due, .bool n.pb.asked, .slice a.da n.db.length a.dc, .slice ma mn mc, .int .i64 miss, .int .i64 0]) kr 37 #[.int .i64 n.id, .int .i64 n.inc, .int .i64 n.num, .int .i64 n.seed, .int .i64 n.next, .slice a.va n.view.length a.vc, .slice a.ra n.rum.length a.rc, .slice a.ta n.tl.length a.tc, .int .i64 n.at0, .int .i64 n.pb.node, .int .i64 n.pb.num, .int .i64 n.pb.due, .bool n.pb.asked, .slice a.da n.db.length a.dc, .slice ma mn mc, .int .i64 miss, .int .i64 0] := setRow_heap _ _ _ _ _ _ PD
  have hkr2 := hHeld.trans ((keeps_setRow X.drew kr #[.int .i64 n.id, .int .i64 n.inc, .int .i64 n.num, .int .i64 n.seed, .int .i64 n.next, .slice a.va n.view.length a.vc, .slice a.ra n.rum.length a.rc, .slice a.ta n.tl.length a.tc, .int .i64 n.at0, .int .i64 n.pb.node, .int .i64 n.pb.num, .int .i64 n.pb.due, .bool n.pb.asked, .slice a.da n.db.length a.dc, .slice ma mn mc, .int .i64 miss, .int .i64 0]).mono (fun k _ h => h))
  refine runG 13 (by kernel_rfl) rfl (by kernel_rfl) ?_
  refine step_skip (exec_store_blk PD _ _ _ rfl rfl rfl (by kernel_rfl) rfl (by kernel_rfl)) ?_
  refine ⟨hkr2, ?_⟩
  refine wpAnyH_done (by kernel_rfl) ?_ _
  obtain ⟨Y, hY⟩ : ∃ Y, X.drew.setRow kr #[.int .i64 n.id, .int .i64 n.inc, .int .i64 n.num, .int .i64 n.seed, .int .i64 n.next, .slice a.va n.view.length a.vc, .slice a.ra n.rum.length a.rc, .slice a.ta n.tl.length a.tc, .int .i64 n.at0, .int .i64 n.pb.node, .int .i64 n.pb.num, .int .i64 n.pb.due, .bool n.pb.asked, .slice a.da n.db.length a.dc, .slice ma mn mc, .int .i64 miss, .int .i64 0] = Y := ⟨_, rfl⟩
  rw [hY] at hnew hkr2 ⊢
  clear hY PD hHeld
  have hb : Below w.heap.size w Y := B.trans (hkr2.belowNe (by omega) B.size)
  go_wp2_with fail
  exact ret_blk hnew Tryz.results54 rfl _ Tryz.underlying37 (by kernel_rfl) rfl ⟨rfl, hb⟩
end Go.Proofs.YtmdcankfjmkkeaaGreat
/- A region that draws its order, in which one operation (i0) changes older memory while all others only read and make memory, and which ends in one operation that waits for all others: walked once. J0 is said of each world ahead of that one, J1 of each behind it. No program. -/
namespace Go.Proofs.YtmdcankfjmkkeaaGreat
open Go Go.RowKit
set_option linter.unusedVariables false

theorem wpAny_boxJ {P : Program} {md : Region.Mode} {ops : Array Oper} {Q : Exit → Act → World → Prop} (n i0 : Nat) (hi0n : i0 < n) (D : Nat → Nat) (φ : Nat → Value → World → Prop) (a0 : Act) (R : World → World → Prop) (J0 J1 : World → Prop)
    (hok : boxOk md ops D n a0.tmps.size = true) (hinj : ∀ i, i < n → ∀ j, j < n → D i = D j → i = j) (hstab : ∀ k u w w', φ k u w → Below w.heap.size w w' → φ k u w') (hstab1 : ∀ k u w w', k ≠ i0 → φ k u w → R w w' → φ k u w')
    (hJ0 : ∀ w w', J0 w → Below w.heap.size w w' → J0 w') (hJ1 : ∀ w w', J1 w → Below w.heap.size w w' → J1 w')
    (hstep : ∀ i o, i < n → i ≠ i0 → ops[i]? = some o → ∀ a w, FrameIs a0 n D a → J0 w ∨ J1 w → (∀ e ∈ o.after, Region.binds md e = true → φ e.on (a.tmps.getD (D e.on) undef) w) →
      Oper.wp P o a w (fun a' w' => ∃ v, a' = a.put (some (D i)) v ∧ φ i v w' ∧ Below w.heap.size w w') Q)
    (hspec : ∀ o, ops[i0]? = some o → ∀ a w, FrameIs a0 n D a → J0 w → (∀ e ∈ o.after, Region.binds md e = true → φ e.on (a.tmps.getD (D e.on) undef) w) →
      Oper.wp P o a w (fun a' w' => ∃ v, a' = a.put (some (D i0)) v ∧ φ i0 v w' ∧ R w w' ∧ J1 w') Q)
    (hlast : ∀ o, ops[n]? = some o → ∀ a w, FrameIs a0 n D a → J1 w → (∀ i, i < n → φ i (a.tmps.getD (D i) undef) w) → Oper.wp P o a w (fun a' w' => Q .normal a' w') Q) :
    ∀ (fuel : Nat) (listed : Array Bool) (a : Act) (w : World) (s : List Nat), listed.size = n + 1 → s.length ≤ fuel → (∀ i, i < n + 1 → listed.getD i false = false → i ∈ s) → listed.getD n false = false → DownTo md ops listed → FrameIs a0 n D a → ((listed.getD i0 false = false → J0 w) ∧ (listed.getD i0 false = true → J1 w)) →
      (∀ i, i < n → listed.getD i false = true → φ i (a.tmps.getD (D i) undef) w) → wpAny P md ops Q fuel listed a w := by
  have hsz := boxOk_size hok
  have hnodup : ∀ (listed : Array Bool) i, i ∈ Region.ready md ops listed → i < n + 1 := fun listed i hi => by
    obtain ⟨_, o, ho, _⟩ := mem_ready.1 hi
    have := (Array.getElem?_eq_some_iff.1 ho).1
    omega
  intro fuel
  induction fuel with
  | zero =>
    intro listed a w s hz hs hun hnl hD hF hJ hφ
    exfalso
    have := hun n (by omega) hnl
    rw [List.eq_nil_of_length_eq_zero (by omega : s.length = 0)] at this
    cases this
  | succ fuel ih =>
    intro listed a w s hz hs hun hnl hD hF hJ hφ
    refine ⟨fun hr => ?_, fun i hi => ?_⟩
    · exfalso
      -- all but the last are listed, so that the last is ready
      have hall : ∀ i, i < n → listed.getD i false = true := by
        intro i
        induction i using Nat.strongRecOn with
        | ind i ihi =>
          intro hin
          cases hx : listed.getD i false with
          | true => rfl
          | false =>
            have hio : i < ops.size := by omega
            have ho : ops[i]? = some ops[i] := Array.getElem?_eq_getElem hio
            have hm : i ∈ Region.ready md ops listed := by
              rw [mem_ready]
              refine ⟨?_, _, ho, fun e he hb => ihi e.on ((boxOk_at hok hin ho).2.2.2 e he hb) (by have := (boxOk_at hok hin ho).2.2.2 e he hb; omega)⟩
              have hl : i < listed.size := by omega
              simp [Array.getElem?_eq_getElem hl] at hx ⊢
              exact hx
            rw [hr] at hm
            cases hm
      have hno : n < ops.size := by omega
      have ho : ops[n]? = some ops[n] := Array.getElem?_eq_getElem hno
      have hlt : ∀ e ∈ ops[n].after, Region.binds md e = true → listed.getD e.on false = true := fun e he hb => hall e.on ((boxOk_last hok ho).2 e he hb)
      have hm : n ∈ Region.ready md ops listed := by
        rw [mem_ready]
        refine ⟨?_, _, ho, hlt⟩
        have hl : n < listed.size := by omega
        simp [Array.getElem?_eq_getElem hl] at hnl ⊢
        exact hnl
      rw [hr] at hm
      cases hm
    · obtain ⟨h0, o, ho, hpre⟩ := mem_ready.1 hi
      have hlt : i < n + 1 := by
        have := (Array.getElem?_eq_some_iff.1 ho).1
        omega
      have hl : i < listed.size := by omega
      have hi0 : listed.getD i false = false := by
        simp [Array.getElem?_eq_getElem hl] at h0 ⊢
        exact h0
      have his : i ∈ s := hun i hlt hi0
      by_cases hin : i < n
      · obtain ⟨hDi, hdst, hgd, hed⟩ := boxOk_at hok hin ho
        by_cases e0 : i = i0
        · subst e0
          have hst := hspec o ho a w hF (hJ.1 hi0) (fun e he hb => hφ e.on (by have := hed e he hb; omega) (hpre e he hb))
          have hw : Region.wanted o (yielded ops a.tmps) = true := by simp [Region.wanted, hgd]
          unfold wpOp
          simp only [ho]
          rw [if_pos hw]
          refine .inl (Oper.wp_mono ?_ hst)
          rintro a' w' ⟨v, rfl, hv, hB, hJ'⟩
          have hszD : D i < a.tmps.size := by rw [hF.2.1]; exact hDi
          refine ih (listed.setIfInBounds i true) _ w' (s.erase i) (by simp [hz]) ?_ ?_ ?_ ?_ ?_ ⟨fun h => by simp [hl] at h, fun _ => hJ'⟩ ?_
          · rw [List.length_erase_of_mem his]; omega
          · intro j hj hu
            have hne : j ≠ i := by
              rintro rfl
              simp [hl] at hu
            rw [getD_set_ne false (Ne.symm hne)] at hu
            exact (List.mem_erase_of_ne hne).2 (hun j hj hu)
          · rw [getD_set_ne false (by omega)]; exact hnl
          · intro j hj q hq
            have keep : ∀ p, listed.getD p false = true → (listed.setIfInBounds i true).getD p false = true := fun p hp => by
              by_cases e : p = i
              · subst e; simp [hl]
              · rw [getD_set_ne false (Ne.symm e)]; exact hp
            by_cases hne : j = i
            · subst hne
              obtain ⟨e, he, hb, rfl⟩ := deps_mem ho hq
              exact keep _ (hpre e he hb)
            · rw [getD_set_ne false (Ne.symm hne)] at hj
              exact keep _ (hD j hj q hq)
          · refine ⟨hF.1, by simp [Act.put, hF.2.1], fun q hq => ?_⟩
            have := hF.2.2 q hq
            rw [← this]
            simp [Act.put, Array.getElem?_setIfInBounds_ne (hq i hin)]
          · intro j hjn hj
            by_cases hne : j = i
            · subst hne
              simp [Act.put, hszD]
              exact hv
            · rw [getD_set_ne false (Ne.symm hne)] at hj
              have hd : D i ≠ D j := fun e => hne (hinj j hjn i hin e.symm)
              have e : (a.put (some (D i)) v).tmps.getD (D j) undef = a.tmps.getD (D j) undef := by
                simp [Act.put, Array.getElem?_setIfInBounds_ne hd]
              rw [e]
              exact hstab1 j _ _ _ hne (hφ j hjn hj) hB
        · have hst := hstep i o hin e0 ho a w hF (by
            cases hq : listed.getD i0 false with
            | false => exact .inl (hJ.1 hq)
            | true => exact .inr (hJ.2 hq)) (fun e he hb => hφ e.on (by have := hed e he hb; omega) (hpre e he hb))
          have hw : Region.wanted o (yielded ops a.tmps) = true := by simp [Region.wanted, hgd]
          unfold wpOp
          simp only [ho]
          rw [if_pos hw]
          refine .inl (Oper.wp_mono ?_ hst)
          rintro a' w' ⟨v, rfl, hv, hB⟩
          have hszD : D i < a.tmps.size := by rw [hF.2.1]; exact hDi
          refine ih (listed.setIfInBounds i true) _ w' (s.erase i) (by simp [hz]) ?_ ?_ ?_ ?_ ?_ ⟨fun h => hJ0 _ _ (hJ.1 (by rwa [getD_set_ne false e0] at h)) hB, fun h => hJ1 _ _ (hJ.2 (by rwa [getD_set_ne false e0] at h)) hB⟩ ?_
          · rw [List.length_erase_of_mem his]; omega
          · intro j hj hu
            have hne : j ≠ i := by
              rintro rfl
              simp [hl] at hu
            rw [getD_set_ne false (Ne.symm hne)] at hu
            exact (List.mem_erase_of_ne hne).2 (hun j hj hu)
          · rw [getD_set_ne false (by omega)]; exact hnl
          · intro j hj q hq
            have keep : ∀ p, listed.getD p false = true → (listed.setIfInBounds i true).getD p false = true := fun p hp => by
              by_cases e : p = i
              · subst e; simp [hl]
              · rw [getD_set_ne false (Ne.symm e)]; exact hp
            by_cases hne : j = i
            · subst hne
              obtain ⟨e, he, hb, rfl⟩ := deps_mem ho hq
              exact keep _ (hpre e he hb)
            · rw [getD_set_ne false (Ne.symm hne)] at hj
              exact keep _ (hD j hj q hq)
          · refine ⟨hF.1, by simp [Act.put, hF.2.1], fun q hq => ?_⟩
            have := hF.2.2 q hq
            rw [← this]
            simp [Act.put, Array.getElem?_setIfInBounds_ne (hq i hin)]
          · intro j hjn hj
            by_cases hne : j = i
            · subst hne
              simp [Act.put, hszD]
              exact hv
            · rw [getD_set_ne false (Ne.symm hne)] at hj
              have hd : D i ≠ D j := fun e => hne (hinj j hjn i hin e.symm)
              have e : (a.put (some (D i)) v).tmps.getD (D j) undef = a.tmps.getD (D j) undef := by
                simp [Act.put, Array.getElem?_setIfInBounds_ne hd]
              rw [e]
              exact hstab j _ _ _ (hφ j hjn hj) hB
      · obtain rfl : i = n := by omega
        obtain ⟨hgd, _⟩ := boxOk_last hok ho
        have hall := boxOk_all hok hD (fun q hq => by obtain ⟨e, he, hb, rfl⟩ := deps_mem ho hq; exact hpre e he hb)
        have hst := hlast o ho a w hF (hJ.2 (hall i0 hi0n)) (fun j hj => hφ j hj (hall j hj))
        have hw : Region.wanted o (yielded ops a.tmps) = true := by simp [Region.wanted, hgd]
        unfold wpOp
        simp only [ho]
        rw [if_pos hw]
        refine .inl (Oper.wp_mono ?_ hst)
        intro a' w' hQ
        have hnone : Region.ready md ops (listed.setIfInBounds i true) = [] := by
          cases hr : Region.ready md ops (listed.setIfInBounds i true) with
          | nil => rfl
          | cons q qs =>
            exfalso
            have hm : q ∈ Region.ready md ops (listed.setIfInBounds i true) := by rw [hr]; exact List.mem_cons_self
            obtain ⟨g0, o', ho', _⟩ := mem_ready.1 hm
            have hq : q < i + 1 := by
              have := (Array.getElem?_eq_some_iff.1 ho').1
              omega
            have g1 : (listed.setIfInBounds i true).getD q false = true := by
              by_cases e : q = i
              · subst e; simp [hl]
              · rw [getD_set_ne false (Ne.symm e)]; exact hall q (by omega)
            have hql : q < (listed.setIfInBounds i true).size := by simp; omega
            simp only [Array.getD_eq_getD_getElem?, Array.getElem?_eq_getElem hql, Option.getD_some] at g0 g1
            rw [g1] at g0
            cases g0
        cases fuel with
        | zero => exact ⟨hnone, hQ⟩
        | succ f => exact ⟨fun _ => hQ, fun q hq => by rw [hnone] at hq; cases hq⟩
end Go.Proofs.YtmdcankfjmkkeaaGreat
