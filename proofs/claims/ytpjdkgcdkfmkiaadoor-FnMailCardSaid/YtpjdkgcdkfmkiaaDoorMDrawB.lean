/- The draws of promise 6. -/
import Derived.Test.YtpjdkgcdkfmkiaaDoorMDraw
import Derived.Test.YtpjdkgcdkfmkiaaDoorSpoil
import Derived.Test.YtpjdkgcdkfmkiaaDoorMBytesS
import Derived.Test.YtpjdkgcdkfmkiaaDoorG28
import Derived.Test.YtpjdkgcdkfmkiaaDoorSealP
namespace Go.Proofs.YtpjdkgcdkfmkiaaDoor
open Go Go.RowKit
set_option linter.unusedVariables false
set_option linter.unusedSimpArgs false

def MailGot (w : World) (e : Ending) (w' : World) : Prop :=
  ∃ (m : MailV) (p : Option Addr) (c : Nat), e = .returned (mailVal m (.slice p m.facts.length c)) ∧ RowAt w' w.heap.size p m.facts ∧ m.facts.length ≤ 7 ∧ Below w.heap.size w w'
set_option maxHeartbeats 2000000 in
set_option maxRecDepth 100000 in
theorem drawMB_any (a : Option Addr) (len cap : Nat) (zs : List Int) (w : World) (hl : len ≤ 1048576) (hrow : ByteRow w a len cap zs) : Calls Tryd.prog 5 #[.slice a len cap] w (MailGot w) := by
  have B := (Below.refl w.heap.size w).alloc (Nat.le_refl _) (.cells #[.int .i64 0, .int .i64 0, .int .i64 0, .int .i64 0, .int .i64 0, .int .i64 0, .slice none 0 0] 25)
  have pR := BlkIs.new w 25 #[.int .i64 0, .int .i64 0, .int .i64 0, .int .i64 0, .int .i64 0, .int .i64 0, .slice none 0 0]
  have hrow0 := hrow.below B
  obtain ⟨W, hW⟩ : ∃ W, w.alloc (.cells #[.int .i64 0, .int .i64 0, .int .i64 0, .int .i64 0, .int .i64 0, .int .i64 0, .slice none 0 0] 25) = W := ⟨_, rfl⟩
  rw [hW] at B pR hrow0
  have HW : Hid (_ = W) := hW
  have hWs := pR.lt
  clear hW
  go_enter Tryd.func5, Tryd.ntmps5
  go_wp2_with fail
  rw [HW.out]
  clear HW
  refine (source_any a len cap zs _ hl hrow0).mono ?_
  rintro e w1 ⟨rfl, hs1, b1⟩
  replace pR := pR.keep b1
  replace B := B.trans (b1.mono B.size)
  have hb1 := b1.size
  clear b1 hrow0
  go_wp2_with fail
  refine (mailDraw_any _ a len cap zs _ hs1).mono ?_
  rintro e w2 ⟨⟨m0, m1, m2, m3, m4, m5, ml⟩, p, c, rfl, rw1, hl7, hs2, hg⟩
  replace pR := pR.grown hg (by omega)
  replace B := grown_belowF B hg (by omega)
  unfold mailVal
  dsimp only at rw1 hl7 ⊢
  clear hs1 hs2 hg
  have d0 := pR.cell 0
  have f0 := pR.fz 0
  have d1 := pR.cell 1
  have f1 := pR.fz 1
  have d2 := pR.cell 2
  have f2 := pR.fz 2
  have d3 := pR.cell 3
  have f3 := pR.fz 3
  have d4 := pR.cell 4
  have f4 := pR.fz 4
  have d5 := pR.cell 5
  have f5 := pR.fz 5
  have d6 := pR.cell 6
  have f6 := pR.fz 6
  simp only [List.getElem?_toArray, List.getElem?_cons_zero, List.getElem?_cons_succ] at d0 d1 d2 d3 d4 d5 d6
  go_wp2
  have KZ := keeps_seven w2 w.heap.size (.int .i64 m0) (.int .i64 m1) (.int .i64 m2) (.int .i64 m3) (.int .i64 m4) (.int .i64 m5) (.slice p ml.length c)
  have HZ := blk_put7 pR (.int .i64 m0) (.int .i64 m1) (.int .i64 m2) (.int .i64 m3) (.int .i64 m4) (.int .i64 m5) (.slice p ml.length c)
  obtain ⟨q0, q1, q2, q3, q4, q5, q6⟩ := blk7_cells HZ
  exact bodyPost_ret (v := mailVal ⟨m0, m1, m2, m3, m4, m5, ml⟩ (.slice p ml.length c)) (by simp [results, Tryd.results5, go_sem, mailVal, q0, q1, q2, q3, q4, q5, q6]) rfl ⟨⟨m0, m1, m2, m3, m4, m5, ml⟩, p, c, rfl, (rw1.keepK KZ (fun q hq => by omega)).mono (by omega), hl7, B.trans (KZ.toBelow B.size (fun q hq => by omega))⟩
theorem bytes_small' {m : MailV} (h : m.ok) : (⟨(numsB m.nums).toArray⟩ : ByteArray).size ≤ 7996 := by
  rw [size_data]
  have := numsB_len m.nums
  have := nums_len h
  omega
theorem field_text0 (x y z : Value) (w : World) : (Instr.field 48 (.agg #[x, y, z]) 0).run Tryd.prog w = .ok x w := by kernel_rfl
theorem out_size {m : MailV} {q : Bool} (hq : q = true ↔ m.ok) : (⟨(m.out q).toArray⟩ : ByteArray).size ≤ 8000 := by
  rw [size_data]
  cases q with
  | false => simp [MailV.out]
  | true =>
    have h := bytes_small' (hq.1 rfl)
    show (sealB ⟨(numsB m.nums).toArray⟩).length ≤ 8000
    rw [sealB_len h]
    omega
theorem getU_small (s : ByteArray) : (getU s).1.size ≤ s.size := by
  unfold getU
  by_cases h1 : 8000 < (s.size : Int)
  · rw [if_pos h1]; exact Nat.zero_le _
  rw [if_neg h1]
  by_cases h2 : (s.size : Int) < 4
  · rw [if_pos h2]; exact Nat.zero_le _
  rw [if_neg h2]
  by_cases h3 : sealB (s.extract 0 (s.size - 4)) = s.data.toList
  · rw [if_pos h3]
    show (s.extract 0 (s.size - 4)).size ≤ s.size
    rw [ByteArray.size_extract]
    omega
  · rw [if_neg h3]; exact Nat.zero_le _
theorem seal_small (t : ByteArray) : (⟨(sealB t).toArray⟩ : ByteArray).size ≤ t.size + 4 := by
  rw [size_data]
  by_cases h : t.size ≤ 7996
  · rw [sealB_len h]; omega
  · rw [sealB_no (by omega)]; simp
def TextGot (w : World) (e : Ending) (w' : World) : Prop := ∃ u : ByteArray, e = .returned (.string u) ∧ u.size ≤ 100000 ∧ Below w.heap.size w w'
set_option maxHeartbeats 2000000 in
set_option maxRecDepth 100000 in
theorem drawMR_any (a : Option Addr) (len cap : Nat) (zs : List Int) (w : World) (hl : len ≤ 1048576) (hrow : ByteRow w a len cap zs) : Calls Tryd.prog 7 #[.slice a len cap] w (TextGot w) := by
  have ft := field_text0
  go_enter Tryd.func7, Tryd.ntmps7
  go_wp2_with fail
  refine (source_any a len cap zs _ hl hrow).mono ?_
  rintro e w1 ⟨rfl, hs, B⟩
  go_wp2_with fail
  refine (mailDraw_any _ a len cap zs _ hs).mono ?_
  rintro e w2 ⟨⟨m0, m1, m2, m3, m4, m5, ml⟩, p, c, rfl, rw1, hl7, hs2, hg⟩
  replace B := grown_belowF B hg (Nat.le_refl _)
  replace hs := hs2
  unfold mailVal
  dsimp only at rw1 hl7 ⊢
  have hrw : CellRow w2 p (cellsOf FactV.cells ml) := by
    obtain ⟨_, _, _, _, h⟩ := rw1
    exact h
  obtain ⟨q, hq⟩ := tells_bool (MailV.ok ⟨m0, m1, m2, m3, m4, m5, ml⟩)
  have HQ : Hid (q = true ↔ MailV.ok ⟨m0, m1, m2, m3, m4, m5, ml⟩) := hq
  have hsz := out_size hq
  clear hs2 hg hq rw1
  go_wp2_with fail
  refine (specMBytes_any m0 m1 m2 m3 m4 m5 p c ml w2 q HQ.out (by omega) hrw).mono ?_
  rintro e w3 ⟨rfl, bx⟩
  replace hs := hs.keep bx hs.lt hs.row_lt
  replace B := B.trans (bx.mono B.size)
  obtain ⟨T, hT⟩ : ∃ T, MailV.out ⟨m0, m1, m2, m3, m4, m5, ml⟩ q = T := ⟨_, rfl⟩
  rw [hT] at hsz ⊢
  obtain ⟨t, ht⟩ : ∃ t : ByteArray, ⟨T.toArray⟩ = t := ⟨_, rfl⟩
  rw [ht] at hsz ⊢
  clear bx hrw hT ht HQ
  go_wp2_with fail
  refine (n_any _ a len cap zs 5 (by omega) _ hs).mono ?_
  rintro e w4 ⟨r, rfl, _, hr, hs4, hg⟩
  replace hr := hr (by omega)
  replace B := grown_belowF B hg (Nat.le_refl _)
  replace hs := hs4
  clear hs4 hg
  by_cases h0 : r = 0
  · subst h0
    go_wp2_with fail
    refine (spoil_any _ a len cap zs t w4 (by omega) hs).mono ?_
    rintro e w5 ⟨u, rfl, hu, hs5, hg⟩
    replace B := grown_belowF B hg (Nat.le_refl _)
    clear hs hs5 hg
    go_wp2
    go_ret
    exact ⟨_, rfl, by omega, B⟩
  by_cases h1 : r = 1
  · subst h1
    have hw0 : IntKind.i64.wrap ((t.size : Int) + 1) = (t.size : Int) + 1 := by rw [IntKind.wrap_i64]; omega
    go_wp2_with fail
    refine (n_any _ a len cap zs ((t.size : Int) + 1) (by omega) _ hs).mono ?_
    rintro e w5 ⟨k, rfl, k0, k1, hs5, hg⟩
    have hr : 0 ≤ k ∧ k ≤ t.size := by
      by_cases h : (t.size : Int) + 1 ≤ 1
      · have := k0 h; omega
      · have := k1 (by omega); omega
    obtain ⟨n, rfl⟩ := Int.eq_ofNat_of_zero_le hr.1
    have hn : (n : Int) ≤ (t.size : Int) := hr.2
    replace B := grown_belowF B hg (Nat.le_refl _)
    clear hs hs5 hg k0 k1 hr hw0
    go_wp2
    go_ret
    exact ⟨_, rfl, by rw [ByteArray.size_extract]; omega, B⟩
  by_cases h2 : r = 2
  · subst h2
    go_wp2_with fail
    refine (specUnseal_any t w4).mono ?_
    rintro e w5 ⟨rfl, bx⟩
    have hu := getU_small t
    obtain ⟨u1, u2, u3, hU⟩ : ∃ u1 u2 u3, getU t = (u1, u2, u3) := ⟨_, _, _, rfl⟩
    rw [hU] at hu ⊢
    unfold textOut
    dsimp only at hu ⊢
    replace hs := hs.keep bx hs.lt hs.row_lt
    replace B := B.trans (bx.mono B.size)
    clear bx hU
    go_wp2_with fail
    refine (spoil_any _ a len cap zs u1 w5 (by omega) hs).mono ?_
    rintro e w6 ⟨u, rfl, hu2, hs6, hg⟩
    replace B := grown_belowF B hg (Nat.le_refl _)
    have hm : u.size ≤ maxLen := by unfold maxLen; omega
    have hsl := seal_small u
    clear hs hs6 hg
    go_wp2_with fail
    refine (specSeal_any u w6 hm).mono ?_
    rintro e w7 ⟨rfl, bx⟩
    replace B := B.trans (bx.mono B.size)
    clear bx
    obtain ⟨sb, hsb⟩ : ∃ sb : ByteArray, ⟨(sealB u).toArray⟩ = sb := ⟨_, rfl⟩
    rw [hsb] at hsl ⊢
    clear hsb
    go_wp2
    go_ret
    exact ⟨_, rfl, by omega, B⟩
  · go_wp2
    go_ret
    exact ⟨_, rfl, by omega, B⟩
end Go.Proofs.YtpjdkgcdkfmkiaaDoor
