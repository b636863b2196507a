/- The contracts of NotGone: the program's and the specification's. -/
import Derived.Test.YtdgcmjhnglacnaaVRightI
import Derived.Test.YtdgcmjhnglacnaaVRightS
import Derived.Test.YtdgcmjhnglacnaaNumsV
namespace Go.Proofs.Ytdgcmjhnglacnaa
open Go Go.RowKit
set_option linter.unusedVariables false

/-- The nodes that are not gone. -/
def goneL (l : List FactV) : List Int := (l.filter fun f => f.st != 3).map FactV.node
theorem goneL_len (l : List FactV) : (goneL l).length ≤ l.length := by unfold goneL; rw [List.length_map]; exact List.length_filter_le _ _
theorem goneL_keep {l : List FactV} {x : FactV} (h : x.st ≠ 3) : goneL (l ++ [x]) = goneL l ++ [x.node] := by simp [goneL, h]
theorem goneL_skip {l : List FactV} {x : FactV} (h : x.st = 3) : goneL (l ++ [x]) = goneL l := by simp [goneL, h]
def LeftIs (l : List FactV) (m : List Int) : Prop := (rightV l ∧ m = goneL l) ∨ (¬ rightV l ∧ m = [])
theorem leftIs_ex (l : List FactV) : ∃ m, LeftIs l m := by
  by_cases h : rightV l
  · exact ⟨_, .inl ⟨h, rfl⟩⟩
  · exact ⟨_, .inr ⟨h, rfl⟩⟩
theorem leftIs_len {l : List FactV} {m : List Int} (h : LeftIs l m) : m.length ≤ 6 := by
  rcases h with ⟨h, rfl⟩ | ⟨_, rfl⟩
  · exact Nat.le_trans (goneL_len l) (rightV_len h)
  · simp
def LeftPost (m : List Int) (w : World) (e : Ending) (w' : World) : Prop := ∃ v, e = .returned v ∧ w'.ownsRow w.heap.size 2 1 v m.length (numsV m) ∧ Below w.heap.size w w'
set_option maxHeartbeats 2000000 in
set_option maxRecDepth 100000 in
theorem implLeft_any (a : Option Addr) (cap : Nat) (l : List FactV) (m : List Int) (hm : LeftIs l m) (w : World) (hl : l.length ≤ 1048576) (hrow : CellRow w a (cellsOf FactV.cells l)) :
    Calls Try.prog 27 #[.slice a l.length cap] w (LeftPost m w) := by
  obtain ⟨i0, hi, hz0, hz1, hz2⟩ := info_partsI
  obtain ⟨r, hr⟩ := tells_bool (rightV l)
  have HR : Hid (r = true ↔ rightV l) := hr
  have HM : Hid (LeftIs l m) := hm
  clear hr hm
  go_enter Try.func27, Try.ntmps27
  go_wp2_with fail
  refine (implVRight_is a cap l _ r HR.out hl hrow).mono ?_
  rintro e z1 ⟨rfl, B1⟩
  cases r with
  | false =>
    have HV : Hid (m = []) := HM.out.elim (fun h => by have := HR.out.2 h.1; cases this) (fun h => h.2)
    clear HM HR
    go_wp2
    go_ret
    exact ⟨_, rfl, by rw [HV.out]; exact World.ownsRow_nil _ _ _ _, B1⟩
  | true =>
    have HV : Hid (m = goneL l) := HM.out.elim (fun h => h.2) (fun h => absurd (HR.out.1 rfl) h.1)
    clear HM HR
    go_wp2
    go_loopw [11, 3] (fun i v wr => ∃ k : Nat, k ≤ l.length ∧ i = .int .i64 k ∧ wr.ownsRow w.heap.size 2 1 v (goneL (l.take k)).length (numsV (goneL (l.take k))) ∧ Below w.heap.size w wr) (fun i _ _ => l.length - (intOf i).toNat)
    case atStart => exact ⟨0, Nat.zero_le _, rfl, World.ownsRow_nil _ _ _ _, B1⟩
    case round =>
      obtain ⟨k, hk, rfl, hown, hb⟩ := hrel
      clear B1
      by_cases hx : k < l.length
      · obtain ⟨b, off, rfl⟩ := hrow.addr (by rw [cellsOf_length FactV.cells_len]; omega)
        obtain ⟨x, hlx⟩ : ∃ x, l[k] = x := ⟨_, rfl⟩
        obtain ⟨x1, x2, x3⟩ := x
        obtain ⟨_, q0, q1, q2⟩ := (hrow.keep hb).fact hx hlx
        dsimp only at q0 q1 q2
        have hk' : (k : Int) < (l.length : Int) := by omega
        have HT : Hid (l.take (k + 1) = l.take k ++ [⟨x1, x2, x3⟩]) := by
          show _ = _
          rw [List.take_succ_eq_append_getElem hx, hlx]
        have hdl : (goneL (l.take k)).length ≤ k := by have := goneL_len (l.take k); rw [List.length_take] at this; omega
        have hbA := hb.alloc hb.size (.cells #[.int .i64 x1, .int .i64 x2, .int .i64 x3] 24)
        have hownA := hown.alloc (.cells #[.int .i64 x1, .int .i64 x2, .int .i64 x3] 24)
        have pA := BlkIs.new wr 24 #[.int .i64 x1, .int .i64 x2, .int .i64 x3]
        obtain ⟨W, hW⟩ : ∃ W, wr.alloc (.cells #[.int .i64 x1, .int .i64 x2, .int .i64 x3] 24) = W := ⟨_, rfl⟩
        rw [hW] at hbA hownA pA
        have HW : Hid (_ = W) := hW
        have g0 := pA.cell 0
        have g2 := pA.cell 2
        clear hlx hW hown pA
        by_cases e : x3 = 3
        · have eb : (x3 == 3) = true := by simp [e]
          have ho : W.ownsRow w.heap.size 2 1 u3 (goneL (l.take (k + 1))).length (numsV (goneL (l.take (k + 1)))) := by rw [HT.out, goneL_skip e]; exact hownA
          clear hownA e
          go_upto_region 7 with fail
          rw [HW.out]
          clear HW hb q0 q1 q2
          go_wp2
          go_roundw
          case rel => exact ⟨k + 1, by omega, by go_num, ho, hbA⟩
          case measure => simp [intOf]; omega
        · have eb : (x3 == 3) = false := by simp [e]
          have HE : Hid (x3 ≠ 3) := e
          clear e
          go_upto_region 7 with fail
          rw [HW.out]
          clear HW hb q0 q1 q2
          go_wp2_with (at_builtin; refine wpList_append_own _ rfl _ _ 41 rfl w.heap.size 2 i0 (.int .i64 0) 1 8 Try.underlying41 hi hz0 hz1 hz2 rfl (by decide) _ _ _ rfl (hownA.alloc _) ⟨W.heap.size, 0, none⟩ 1 1 [.int .i64 x1] rfl rfl ?c1 ?c2 ?c3 ?c4 ?c5 ?_)
          case c1 => exact cell_one_new _ _ _
          case c2 => intro u hu; simp at hu; subst hu; rfl
          case c3 => unfold maxLen; omega
          case c4 => omega
          case c5 => have := hbA.size; simp; omega
          · intro v' w2 hown' hgrow _
            have hb2 : Below w.heap.size w w2 := (hbA.alloc hbA.size _).grown hgrow (by have := hbA.size; simp; omega) (fun g hg => (hownA.lt g hg).1)
            have ho : w2.ownsRow w.heap.size 2 1 v' (goneL (l.take (k + 1))).length (numsV (goneL (l.take (k + 1)))) := by
              rw [HT.out, goneL_keep HE.out, numsV_append, List.length_append]; exact hown'
            clear hown' hgrow hownA
            go_wp2
            go_roundw
            case rel => exact ⟨k + 1, by omega, by go_num, ho, hb2⟩
            case measure => simp [intOf]; omega
      · have e : k = l.length := by omega
        subst e
        rw [List.take_length] at hown
        go_wp2
        go_ret
        exact ⟨_, rfl, by rw [HV.out]; exact hown, hb⟩
set_option maxHeartbeats 2000000 in
set_option maxRecDepth 100000 in
theorem specL04Left_any (a : Option Addr) (cap : Nat) (l : List FactV) (w : World) (hl : l.length ≤ 1048576) (hrow : CellRow w a (cellsOf FactV.cells l)) :
    Calls Try.prog 63 #[.slice a l.length cap] w (LeftPost (goneL l) w) := by
  obtain ⟨i0, hi, hz0, hz1, hz2⟩ := info_partsI
  go_enter Try.func63, Try.ntmps63
  go_wp2
  go_loopw [4, 3] (fun i v wr => ∃ k : Nat, k ≤ l.length ∧ i = .int .i64 k ∧ wr.ownsRow w.heap.size 2 1 v (goneL (l.take k)).length (numsV (goneL (l.take k))) ∧ Below w.heap.size w wr) (fun i _ _ => l.length - (intOf i).toNat)
  case atStart => exact ⟨0, Nat.zero_le _, rfl, World.ownsRow_lit _ #[] 0 (Nat.le_refl _) (by simp [maxLen]) rfl, (Below.refl _ _).alloc (Nat.le_refl _) _⟩
  case round =>
    obtain ⟨k, hk, rfl, hown, hb⟩ := hrel
    by_cases hx : k < l.length
    · obtain ⟨b, off, rfl⟩ := hrow.addr (by rw [cellsOf_length FactV.cells_len]; omega)
      obtain ⟨x, hlx⟩ : ∃ x, l[k] = x := ⟨_, rfl⟩
      obtain ⟨x1, x2, x3⟩ := x
      obtain ⟨_, q0, q1, q2⟩ := (hrow.keep hb).fact hx hlx
      dsimp only at q0 q1 q2
      have hk' : (k : Int) < (l.length : Int) := by omega
      have HT : Hid (l.take (k + 1) = l.take k ++ [⟨x1, x2, x3⟩]) := by
        show _ = _
        rw [List.take_succ_eq_append_getElem hx, hlx]
      have hdl : (goneL (l.take k)).length ≤ k := by have := goneL_len (l.take k); rw [List.length_take] at this; omega
      clear hlx
      by_cases e : x3 = 3
      · have eb : (x3 == 3) = true := by simp [e]
        have ho : wr.ownsRow w.heap.size 2 1 u3 (goneL (l.take (k + 1))).length (numsV (goneL (l.take (k + 1)))) := by rw [HT.out, goneL_skip e]; exact hown
        clear hown e
        go_wp2
        go_roundw
        case rel => exact ⟨k + 1, by omega, by go_num, ho, hb⟩
        case measure => simp [intOf]; omega
      · have eb : (x3 == 3) = false := by simp [e]
        have HE : Hid (x3 ≠ 3) := e
        clear e
        go_wp2_with (at_builtin; refine wpList_append_own _ rfl _ _ 41 rfl w.heap.size 2 i0 (.int .i64 0) 1 8 Try.underlying41 hi hz0 hz1 hz2 rfl (by decide) _ _ _ rfl (hown.alloc _) ⟨wr.heap.size, 0, none⟩ 1 1 [.int .i64 x1] rfl rfl ?c1 ?c2 ?c3 ?c4 ?c5 ?_)
        case c1 => exact cell_one_new _ _ _
        case c2 => intro u hu; simp at hu; subst hu; rfl
        case c3 => unfold maxLen; omega
        case c4 => omega
        case c5 => have := hb.size; simp; omega
        · intro v' w2 hown' hgrow _
          have hb2 : Below w.heap.size w w2 := (hb.alloc hb.size _).grown hgrow (by have := hb.size; simp; omega) (fun g hg => (hown.lt g hg).1)
          have ho : w2.ownsRow w.heap.size 2 1 v' (goneL (l.take (k + 1))).length (numsV (goneL (l.take (k + 1)))) := by
            rw [HT.out, goneL_keep HE.out, numsV_append, List.length_append]; exact hown'
          clear hown' hgrow hown
          go_wp2
          go_roundw
          case rel => exact ⟨k + 1, by omega, by go_num, ho, hb2⟩
          case measure => simp [intOf]; omega
    · have e : k = l.length := by omega
      subst e
      rw [List.take_length] at hown
      go_wp2
      go_ret
      exact ⟨_, rfl, hown, hb⟩
set_option maxHeartbeats 2000000 in
set_option maxRecDepth 100000 in
theorem specLeft_any (a : Option Addr) (cap : Nat) (l : List FactV) (m : List Int) (hm : LeftIs l m) (w : World) (hl : l.length ≤ 1048576) (hrow : CellRow w a (cellsOf FactV.cells l)) :
    Calls Try.prog 28 #[.slice a l.length cap] w (LeftPost m w) := by
  obtain ⟨r, hr⟩ := tells_bool (rightV l)
  have HR : Hid (r = true ↔ rightV l) := hr
  have HM : Hid (LeftIs l m) := hm
  clear hr hm
  go_enter Try.func28, Try.ntmps28
  go_wp2_with fail
  refine (specVRight_is a cap l _ r HR.out hl hrow).mono ?_
  rintro e z1 ⟨rfl, B1⟩
  have hrow1 := hrow.keep B1
  cases r with
  | false =>
    have HV : Hid (m = []) := HM.out.elim (fun h => by have := HR.out.2 h.1; cases this) (fun h => h.2)
    clear HM HR
    go_wp2
    go_ret
    exact ⟨_, rfl, by rw [HV.out]; exact World.ownsRow_lit _ #[] 0 B1.size (by simp [maxLen]) rfl, B1.alloc B1.size _⟩
  | true =>
    have HV : Hid (m = goneL l) := HM.out.elim (fun h => h.2) (fun h => absurd (HR.out.1 rfl) h.1)
    clear HM HR
    go_wp2_with fail
    refine (specL04Left_any a cap l _ hl hrow1).mono ?_
    rintro e z2 ⟨v, rfl, hown, b2⟩
    have B2 := B1.trans (b2.mono B1.size)
    have hown2 := own_mono hown B1.size
    clear B1 b2 hown
    go_wp2
    go_ret
    exact ⟨_, rfl, by rw [HV.out]; exact hown2, B2⟩
end Go.Proofs.Ytdgcmjhnglacnaa
