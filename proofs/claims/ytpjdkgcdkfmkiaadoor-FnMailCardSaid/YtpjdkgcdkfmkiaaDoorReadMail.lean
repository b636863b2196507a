/- The contracts of readMail and of the program's MailRead. -/
import Derived.Test.YtpjdkgcdkfmkiaaDoorMailOf
import Derived.Test.YtpjdkgcdkfmkiaaDoorG44
import Derived.Test.YtpjdkgcdkfmkiaaDoorMRight
import Derived.Test.YtpjdkgcdkfmkiaaDoorG28
namespace Go.Proofs.YtpjdkgcdkfmkiaaDoor
open Go Go.RowKit
set_option linter.unusedVariables false
set_option linter.unusedSimpArgs false

def mailZ : MailV := ⟨0, 0, 0, 0, 0, 0, []⟩
/-- What is read out of a text: a code, and a mail. -/
def ReadIs (s : ByteArray) (c : Int) (m : MailV) : Prop :=
  (c ≠ 0 ∧ getU s = (⟨#[]⟩, 0, c) ∧ m = mailZ) ∨
  (∃ t, getU s = (t, 0, 0) ∧ ((m.ok ∧ numsB m.nums = t.data.toList ∧ c = 0) ∨ ((∀ m' : MailV, m'.ok → numsB m'.nums ≠ t.data.toList) ∧ c = 3 ∧ m = mailZ)))
theorem readIs_one {s : ByteArray} {c c' : Int} {m m' : MailV} (h : ReadIs s c m) (h' : ReadIs s c' m') : c = c' ∧ m = m' := by
  rcases h with ⟨h1, h2, h3⟩ | ⟨t, h1, h2⟩
  · rcases h' with ⟨k1, k2, k3⟩ | ⟨t', k1, k2⟩
    · rw [h2] at k2
      simp only [Prod.mk.injEq] at k2
      exact ⟨k2.2.2, h3.trans k3.symm⟩
    · rw [h2] at k1
      simp only [Prod.mk.injEq] at k1
      exact absurd k1.2.2 h1
  · rcases h' with ⟨k1, k2, k3⟩ | ⟨t', k1, k2⟩
    · rw [h1] at k2
      simp only [Prod.mk.injEq] at k2
      exact absurd k2.2.2.symm k1
    · rw [h1] at k1
      simp only [Prod.mk.injEq, and_true] at k1
      subst k1
      rcases h2 with ⟨a1, a2, a3⟩ | ⟨a1, a2, a3⟩
      · rcases k2 with ⟨b1, b2, b3⟩ | ⟨b1, b2, b3⟩
        · exact ⟨a3.trans b3.symm, mail_inj (numsB_inj (mail_wf b1) (mail_wf a1) (a2.trans b2.symm))⟩
        · exact absurd a2 (b1 m a1)
      · rcases k2 with ⟨b1, b2, b3⟩ | ⟨b1, b2, b3⟩
        · exact absurd b2 (a1 m' b1)
        · exact ⟨a2.trans b2.symm, a3.trans b3.symm⟩
theorem getU_le {s t : ByteArray} (h : getU s = (t, 0, 0)) : t.size ≤ 7996 ∧ sealB t = s.data.toList := by
  unfold getU at h
  by_cases h1 : 8000 < (s.size : Int)
  · rw [if_pos h1] at h; simp at h
  rw [if_neg h1] at h
  by_cases h2 : (s.size : Int) < 4
  · rw [if_pos h2] at h; simp at h
  rw [if_neg h2] at h
  by_cases h3 : sealB (s.extract 0 (s.size - 4)) = s.data.toList
  · rw [if_pos h3] at h
    simp only [Prod.mk.injEq, and_true] at h
    subst h
    refine ⟨?_, h3⟩
    rw [ByteArray.size_extract]
    omega
  · rw [if_neg h3] at h; simp at h
def ReadMailPost (s : ByteArray) (w : World) (e : Ending) (w' : World) : Prop :=
  ∃ (c : Int) (m : MailV) (v : Value), ReadIs s c m ∧ w'.ownsRow w.heap.size 43 3 v m.facts.length (cellsOf FactV.cells m.facts) ∧ Below w.heap.size w w' ∧
    ((c = 0 ∧ e = .returned (.tuple #[mailVal m v, .nilIface])) ∨ (c ≠ 0 ∧ ∃ ps, e = .returned (.tuple #[mail0, errV ps c])))
set_option maxHeartbeats 2000000 in
set_option maxRecDepth 100000 in
theorem readMail_any (s : ByteArray) (w : World) : Calls Tryd.prog 26 #[.string s] w (ReadMailPost s w) := by
  have B0 := (Below.refl w.heap.size w).alloc (Nat.le_refl _) (.cells #[.int .i64 0, .int .i64 0, .int .i64 0, .int .i64 0, .int .i64 0, .int .i64 0, .slice none 0 0] 25)
  have p0 := BlkIs.new w 25 #[.int .i64 0, .int .i64 0, .int .i64 0, .int .i64 0, .int .i64 0, .int .i64 0, .slice none 0 0]
  obtain ⟨W, hW⟩ : ∃ W, w.alloc (.cells #[.int .i64 0, .int .i64 0, .int .i64 0, .int .i64 0, .int .i64 0, .int .i64 0, .slice none 0 0] 25) = W := ⟨_, rfl⟩
  rw [hW] at B0 p0
  have HW : Hid (_ = W) := hW
  clear hW
  go_enter Tryd.func26, Tryd.ntmps26
  go_wp2_with fail
  rw [HW.out]
  clear HW
  refine (unsealed_any s W).mono ?_
  rintro e W1 ⟨⟨ps, rfl⟩, bx⟩
  have B1 := B0.trans (bx.mono B0.size)
  have p1 := p0.keep bx
  have hlt := p1.lt
  clear bx B0 p0
  rcases getU_code s with ⟨t, eu⟩ | ⟨c, eu, hc⟩
  case inr =>
    rw [unsV_bad eu hc]
    obtain ⟨ty, x, hx⟩ := errV_iface ps c
    rw [hx]
    have HX : Hid (errV ps c = .iface ty x) := hx
    have HE : Hid (getU s = (⟨#[]⟩, 0, c)) := eu
    clear hx eu
    obtain ⟨g0, g1, g2, g3, g4, g5, g6⟩ := blk7_cells p1
    have f0 := p1.fz 0
    have f1 := p1.fz 1
    have f2 := p1.fz 2
    have f3 := p1.fz 3
    have f4 := p1.fz 4
    have f5 := p1.fz 5
    have f6 := p1.fz 6
    go_wp2
    have KZ := keeps_seven W1 w.heap.size (.int .i64 0) (.int .i64 0) (.int .i64 0) (.int .i64 0) (.int .i64 0) (.int .i64 0) (.slice none 0 0)
    have HZ := blk_put7 p1 (.int .i64 0) (.int .i64 0) (.int .i64 0) (.int .i64 0) (.int .i64 0) (.int .i64 0) (.slice none 0 0)
    have HB := B1.trans (KZ.toBelow B1.size (fun q hq => by omega))
    obtain ⟨q0, q1, q2, q3, q4, q5, q6⟩ := blk7_cells HZ
    exact bodyPost_ret (v := .tuple #[mail0, errV (⟨#[109, 97, 105, 108]⟩ :: ps) c]) (by simp [results, Tryd.results26, go_sem, mail0, errV, HX.out, q0, q1, q2, q3, q4, q5, q6]) rfl ⟨c, mailZ, .slice none 0 0, .inl ⟨hc, HE.out, rfl⟩, World.ownsRow_nil _ _ _ _, HB, .inr ⟨hc, _, rfl⟩⟩
  case inl =>
  rw [unsV_ok eu]
  have HE : Hid (getU s = (t, 0, 0)) := eu
  have hts : t.size ≤ 8000 := by have := (getU_le eu).1; omega
  clear eu
  go_wp2_with fail
  refine (readNums_any t W1 hts).mono ?_
  rintro e W2 (⟨l, v, hwf, hnb, rfl, hown, bx⟩ | ⟨ps2, c, hc, hno, rfl, bx⟩)
  case inr =>
    have B2 := B1.trans (bx.mono B1.size)
    have p2 := p1.keep bx
    have HN : Hid (∀ m, WfL m → numsB m ≠ t.data.toList) := hno
    obtain ⟨ty, x, hx⟩ := errV_iface ps2 c
    rw [hx]
    clear bx B1 p1 hno hx
    obtain ⟨g0, g1, g2, g3, g4, g5, g6⟩ := blk7_cells p2
    have f0 := p2.fz 0
    have f1 := p2.fz 1
    have f2 := p2.fz 2
    have f3 := p2.fz 3
    have f4 := p2.fz 4
    have f5 := p2.fz 5
    have f6 := p2.fz 6
    go_wp2
    have KZ := keeps_seven W2 w.heap.size (.int .i64 0) (.int .i64 0) (.int .i64 0) (.int .i64 0) (.int .i64 0) (.int .i64 0) (.slice none 0 0)
    have HZ := blk_put7 p2 (.int .i64 0) (.int .i64 0) (.int .i64 0) (.int .i64 0) (.int .i64 0) (.int .i64 0) (.slice none 0 0)
    have HB := B2.trans (KZ.toBelow B2.size (fun q hq => by omega))
    obtain ⟨q0, q1, q2, q3, q4, q5, q6⟩ := blk7_cells HZ
    exact bodyPost_ret (v := .tuple #[mail0, errV [⟨#[109, 97, 105, 108]⟩] 3]) (by simp [results, Tryd.results26, go_sem, mail0, errV, q0, q1, q2, q3, q4, q5, q6]) rfl ⟨3, mailZ, .slice none 0 0, .inr ⟨t, HE.out, .inr ⟨fun m hm => HN.out _ (mail_wf hm), rfl, rfl⟩⟩, World.ownsRow_nil _ _ _ _, HB, .inr ⟨by omega, _, rfl⟩⟩
  case inl =>
  have B2 := B1.trans (bx.mono B1.size)
  have p2 := p1.keep bx
  obtain ⟨na, nc, rfl, on⟩ := own_nums hown
  have hncap : l.length ≤ nc := by
    rcases hown.2 with ⟨e, hn⟩ | ⟨g, cap, cur, e, _, _, hnc, _⟩
    · simp only [Value.slice.injEq] at e; omega
    · simp only [Value.slice.injEq] at e; omega
  have HNB : Hid (numsB l = t.data.toList) := hnb
  have HWF : Hid (WfL l) := hwf
  have hll : l.length ≤ 8000 := by
    have h1 := numsB_ge l
    rw [hnb] at h1
    simp at h1
    omega
  have nr := on.row
  clear bx B1 p1 hnb hwf hown on
  go_wp2_with fail
  refine (mailOf_any na nc l W2 hll hncap nr).mono ?_
  rintro e W3 (⟨m, v, hm, rfl, hown, bx⟩ | ⟨hno, rfl, bx⟩)
  case inr =>
    have B3 := B2.trans (bx.mono B2.size)
    have p3 := p2.keep bx
    have HN : Hid (∀ m' : MailV, m'.ok → numsB m'.nums ≠ t.data.toList) := fun m' hm' he => hno m' (numsB_inj HWF.out (mail_wf hm') (he.trans HNB.out.symm))
    clear bx B2 p2 nr hno
    unfold mail0
    go_upto_region 8 with fail
    have B4 := B3.alloc B3.size (.cells #[.int .i64 0, .int .i64 0, .int .i64 0, .int .i64 0, .int .i64 0, .int .i64 0, .slice none 0 0] 25)
    have p4 := p3.keep ((Below.refl _ _).alloc (Nat.le_refl _) (.cells #[.int .i64 0, .int .i64 0, .int .i64 0, .int .i64 0, .int .i64 0, .int .i64 0, .slice none 0 0] 25))
    generalize W3.alloc (.cells #[.int .i64 0, .int .i64 0, .int .i64 0, .int .i64 0, .int .i64 0, .int .i64 0, .slice none 0 0] 25) = Y at *
    obtain ⟨g0, g1, g2, g3, g4, g5, g6⟩ := blk7_cells p4
    have f0 := p4.fz 0
    have f1 := p4.fz 1
    have f2 := p4.fz 2
    have f3 := p4.fz 3
    have f4 := p4.fz 4
    have f5 := p4.fz 5
    have f6 := p4.fz 6
    go_wp2
    have KZ := keeps_seven Y w.heap.size (.int .i64 0) (.int .i64 0) (.int .i64 0) (.int .i64 0) (.int .i64 0) (.int .i64 0) (.slice none 0 0)
    have HZ := blk_put7 p4 (.int .i64 0) (.int .i64 0) (.int .i64 0) (.int .i64 0) (.int .i64 0) (.int .i64 0) (.slice none 0 0)
    have HB := B4.trans (KZ.toBelow B4.size (fun q hq => by omega))
    obtain ⟨q0, q1, q2, q3, q4, q5, q6⟩ := blk7_cells HZ
    exact bodyPost_ret (v := .tuple #[mail0, errV [⟨#[109, 97, 105, 108]⟩] 3]) (by simp [results, Tryd.results26, go_sem, mail0, errV, q0, q1, q2, q3, q4, q5, q6]) rfl ⟨3, mailZ, .slice none 0 0, .inr ⟨t, HE.out, .inr ⟨HN.out, rfl, rfl⟩⟩, World.ownsRow_nil _ _ _ _, HB, .inr ⟨by omega, _, rfl⟩⟩
  case inl =>
  have B3 := B2.trans (bx.mono B2.size)
  have p3 := p2.keep bx
  have hown3 := rowLe hown (show w.heap.size + 1 ≤ _ from p2.lt)
  clear bx B2 p2 nr hown
  obtain ⟨m0, m1, m2, m3, m4, m5, ml⟩ := m
  have HM : Hid (MailV.nums ⟨m0, m1, m2, m3, m4, m5, ml⟩ = l) := hm
  have hml : ml.length ≤ 1048576 := by
    have := nums_length ⟨m0, m1, m2, m3, m4, m5, ml⟩
    rw [hm] at this
    dsimp only at this
    omega
  clear hm
  dsimp only at hown3
  unfold mailVal
  dsimp only
  obtain ⟨va, vc, rfl, _⟩ := own_sl hown3
  obtain ⟨q, hq⟩ := tells_bool (MailV.ok ⟨m0, m1, m2, m3, m4, m5, ml⟩)
  have HQ : Hid (q = true ↔ MailV.ok ⟨m0, m1, m2, m3, m4, m5, ml⟩) := hq
  clear hq
  go_upto_region 8 with fail
  have B4 := B3.alloc B3.size (.cells #[.int .i64 m0, .int .i64 m1, .int .i64 m2, .int .i64 m3, .int .i64 m4, .int .i64 m5, .slice va ml.length vc] 25)
  have bA : Below W3.heap.size W3 (W3.alloc (.cells #[.int .i64 m0, .int .i64 m1, .int .i64 m2, .int .i64 m3, .int .i64 m4, .int .i64 m5, .slice va ml.length vc] 25)) := (Below.refl _ _).alloc (Nat.le_refl _) _
  have p4 := p3.keep bA
  have pb := BlkIs.new W3 25 #[.int .i64 m0, .int .i64 m1, .int .i64 m2, .int .i64 m3, .int .i64 m4, .int .i64 m5, .slice va ml.length vc]
  have hown4 := rowBelow hown3 bA
  have hw3 := p3.lt
  clear p3 B3 bA hown3
  generalize W3.alloc (.cells #[.int .i64 m0, .int .i64 m1, .int .i64 m2, .int .i64 m3, .int .i64 m4, .int .i64 m5, .slice va ml.length vc] 25) = Y at *
  have hrow4 : CellRow Y va (cellsOf FactV.cells ml) := by
    obtain ⟨a', c', e', o', _⟩ := own_sl hown4
    simp only [Value.slice.injEq, true_and] at e'
    rw [e'.1]
    exact o'.row
  obtain ⟨g0, g1, g2, g3, g4, g5, g6⟩ := blk7_cells pb
  go_wp2_with fail
  refine (implMRight_is m0 m1 m2 m3 m4 m5 va vc ml Y q HQ.out hml hrow4).mono ?_
  rintro e x ⟨rfl, bx⟩
  have B5 := B4.trans (bx.mono B4.size)
  have p5 := p4.keep bx
  have pc := pb.keep bx
  have hown5 := rowBelow hown4 bx
  clear bx B4 p4 pb hown4 hrow4 g0 g1 g2 g3 g4 g5 g6
  obtain ⟨d0, d1, d2, d3, d4, d5, d6⟩ := blk7_cells p5
  have f0 := p5.fz 0
  have f1 := p5.fz 1
  have f2 := p5.fz 2
  have f3 := p5.fz 3
  have f4 := p5.fz 4
  have f5 := p5.fz 5
  have f6 := p5.fz 6
  cases q with
  | false =>
    have HN : Hid (∀ m' : MailV, m'.ok → numsB m'.nums ≠ t.data.toList) := fun m' hm' he => by
      have e1 := numsB_inj HWF.out (mail_wf hm') (he.trans HNB.out.symm)
      have e2 := mail_inj (e1.trans HM.out.symm)
      rw [e2] at hm'
      exact absurd (HQ.out.2 hm') (by simp)
    clear HQ
    go_wp2
    have KZ := keeps_seven x w.heap.size (.int .i64 0) (.int .i64 0) (.int .i64 0) (.int .i64 0) (.int .i64 0) (.int .i64 0) (.slice none 0 0)
    have HZ := blk_put7 p5 (.int .i64 0) (.int .i64 0) (.int .i64 0) (.int .i64 0) (.int .i64 0) (.int .i64 0) (.slice none 0 0)
    have HB := B5.trans (KZ.toBelow B5.size (fun q hq => by omega))
    obtain ⟨q0, q1, q2, q3, q4, q5, q6⟩ := blk7_cells HZ
    exact bodyPost_ret (v := .tuple #[mail0, errV [⟨#[109, 97, 105, 108]⟩] 3]) (by simp [results, Tryd.results26, go_sem, mail0, errV, q0, q1, q2, q3, q4, q5, q6]) rfl ⟨3, mailZ, .slice none 0 0, .inr ⟨t, HE.out, .inr ⟨HN.out, rfl, rfl⟩⟩, World.ownsRow_nil _ _ _ _, HB, .inr ⟨by omega, _, rfl⟩⟩
  | true =>
    have HO : Hid (MailV.ok ⟨m0, m1, m2, m3, m4, m5, ml⟩) := HQ.out.1 rfl
    clear HQ
    obtain ⟨g0, g1, g2, g3, g4, g5, g6⟩ := blk7_cells pc
    go_wp2
    have KZ := keeps_seven x w.heap.size (.int .i64 m0) (.int .i64 m1) (.int .i64 m2) (.int .i64 m3) (.int .i64 m4) (.int .i64 m5) (.slice va ml.length vc)
    have HZ := blk_put7 p5 (.int .i64 m0) (.int .i64 m1) (.int .i64 m2) (.int .i64 m3) (.int .i64 m4) (.int .i64 m5) (.slice va ml.length vc)
    have HB := B5.trans (KZ.toBelow B5.size (fun q hq => by omega))
    have HR := rowKeep hown5 KZ (fun g hg => by have := hown5.lt g hg; omega)
    obtain ⟨q0, q1, q2, q3, q4, q5, q6⟩ := blk7_cells HZ
    exact bodyPost_ret (v := .tuple #[mailVal ⟨m0, m1, m2, m3, m4, m5, ml⟩ (.slice va ml.length vc), .nilIface]) (by simp [results, Tryd.results26, go_sem, mailVal, q0, q1, q2, q3, q4, q5, q6]) rfl ⟨0, _, _, .inr ⟨t, HE.out, .inl ⟨HO.out, by rw [HM.out]; exact HNB.out, rfl⟩⟩, rowLe HR (by omega), HB, .inl ⟨rfl, rfl⟩⟩
/-- A mail with a code, as a value. -/
def mailOutV (m : MailV) (v : Value) (c : Int) : Value := .agg #[.int .i64 m.kind, .int .i64 m.frm, .int .i64 m.dst, .int .i64 m.num, .int .i64 m.about, .int .i64 m.fr, v, .int .i64 c]
def MOutPost (c : Int) (m : MailV) (w : World) (e : Ending) (w' : World) : Prop :=
  ∃ v, e = .returned (mailOutV m v c) ∧ w'.ownsRow w.heap.size 43 3 v m.facts.length (cellsOf FactV.cells m.facts) ∧ Below w.heap.size w w'
theorem blk8_cells {W : World} {b t : Nat} {u0 u1 u2 u3 u4 u5 u6 u7 : Value} (h : BlkIs W b t #[u0, u1, u2, u3, u4, u5, u6, u7]) :
    W.cell? ⟨b, 0, none⟩ = some u0 ∧ W.cell? ⟨b, 1, none⟩ = some u1 ∧ W.cell? ⟨b, 2, none⟩ = some u2 ∧ W.cell? ⟨b, 3, none⟩ = some u3 ∧ W.cell? ⟨b, 4, none⟩ = some u4 ∧ W.cell? ⟨b, 5, none⟩ = some u5 ∧ W.cell? ⟨b, 6, none⟩ = some u6 ∧ W.cell? ⟨b, 7, none⟩ = some u7 :=
  ⟨h.cell 0, h.cell 1, h.cell 2, h.cell 3, h.cell 4, h.cell 5, h.cell 6, h.cell 7⟩
theorem blk_put8 {W : World} {b t : Nat} {u0 u1 u2 u3 u4 u5 u6 u7 : Value} (h : BlkIs W b t #[u0, u1, u2, u3, u4, u5, u6, u7]) (v0 v1 v2 v3 v4 v5 v6 v7 : Value) :
    BlkIs ((((((((W.setCell ⟨b, 0, none⟩ v0).setCell ⟨b, 1, none⟩ v1).setCell ⟨b, 2, none⟩ v2).setCell ⟨b, 3, none⟩ v3).setCell ⟨b, 4, none⟩ v4).setCell ⟨b, 5, none⟩ v5).setCell ⟨b, 6, none⟩ v6).setCell ⟨b, 7, none⟩ v7) b t #[v0, v1, v2, v3, v4, v5, v6, v7] := by
  have := (((((((h.put 0 v0).put 1 v1).put 2 v2).put 3 v3).put 4 v4).put 5 v5).put 6 v6).put 7 v7
  simpa using this
theorem keeps_eight (w : World) (b : Nat) (v0 v1 v2 v3 v4 v5 v6 v7 : Value) : Keeps (fun k => k ≠ b) w ((((((((w.setCell ⟨b, 0, none⟩ v0).setCell ⟨b, 1, none⟩ v1).setCell ⟨b, 2, none⟩ v2).setCell ⟨b, 3, none⟩ v3).setCell ⟨b, 4, none⟩ v4).setCell ⟨b, 5, none⟩ v5).setCell ⟨b, 6, none⟩ v6).setCell ⟨b, 7, none⟩ v7) :=
  (keeps_seven w b v0 v1 v2 v3 v4 v5 v6).setCell (fun h => h rfl) _
set_option maxHeartbeats 2000000 in
set_option maxRecDepth 100000 in
theorem implMRead_any (s : ByteArray) (c : Int) (m : MailV) (w : World) (hP : ReadIs s c m) (hg : errCell w) : Calls Tryd.prog 8 #[.string s] w (MOutPost c m w) := by
  have B0 := (Below.refl w.heap.size w).alloc (Nat.le_refl _) (.cells #[.int .i64 0, .int .i64 0, .int .i64 0, .int .i64 0, .int .i64 0, .int .i64 0, .slice none 0 0, .int .i64 0] 30)
  have p0 := BlkIs.new w 30 #[.int .i64 0, .int .i64 0, .int .i64 0, .int .i64 0, .int .i64 0, .int .i64 0, .slice none 0 0, .int .i64 0]
  obtain ⟨W, hW⟩ : ∃ W, w.alloc (.cells #[.int .i64 0, .int .i64 0, .int .i64 0, .int .i64 0, .int .i64 0, .int .i64 0, .slice none 0 0, .int .i64 0] 30) = W := ⟨_, rfl⟩
  rw [hW] at B0 p0
  have HW : Hid (_ = W) := hW
  have HP : Hid (ReadIs s c m) := hP
  clear hW hP
  go_enter Tryd.func8, Tryd.ntmps8
  go_wp2_with fail
  rw [HW.out]
  clear HW
  refine (readMail_any s W).mono ?_
  rintro e W1 ⟨c', m', v, hR, hown, bx, hend⟩
  obtain ⟨rfl, rfl⟩ := readIs_one HP.out hR
  have B1 := B0.trans (bx.mono B0.size)
  have p1 := p0.keep bx
  have hown1 := rowLe hown (show w.heap.size + 1 ≤ _ from p0.lt)
  have hg1 := hg.keep B1
  clear bx B0 p0 hR hown
  rcases hend with ⟨hc, rfl⟩ | ⟨hc, ps, rfl⟩
  · obtain ⟨m0, m1, m2, m3, m4, m5, ml⟩ := m
    subst hc
    unfold mailVal
    dsimp only at hown1 ⊢
    obtain ⟨va, vc, rfl, _⟩ := own_sl hown1
    go_upto_region 2 with fail
    have B2 := B1.alloc B1.size (.cells #[.int .i64 m0, .int .i64 m1, .int .i64 m2, .int .i64 m3, .int .i64 m4, .int .i64 m5, .slice va ml.length vc] 25)
    have bA : Below W1.heap.size W1 (W1.alloc (.cells #[.int .i64 m0, .int .i64 m1, .int .i64 m2, .int .i64 m3, .int .i64 m4, .int .i64 m5, .slice va ml.length vc] 25)) := (Below.refl _ _).alloc (Nat.le_refl _) _
    have p2 := p1.keep bA
    have pb := BlkIs.new W1 25 #[.int .i64 m0, .int .i64 m1, .int .i64 m2, .int .i64 m3, .int .i64 m4, .int .i64 m5, .slice va ml.length vc]
    have hown2 := rowBelow hown1 bA
    have hlt := p1.lt
    clear B1 bA p1 hown1
    generalize W1.alloc (.cells #[.int .i64 m0, .int .i64 m1, .int .i64 m2, .int .i64 m3, .int .i64 m4, .int .i64 m5, .slice va ml.length vc] 25) = Y at *
    obtain ⟨g0, g1, g2, g3, g4, g5, g6⟩ := blk7_cells pb
    obtain ⟨d0, d1, d2, d3, d4, d5, d6, d7⟩ := blk8_cells p2
    have f0 := p2.fz 0
    have f1 := p2.fz 1
    have f2 := p2.fz 2
    have f3 := p2.fz 3
    have f4 := p2.fz 4
    have f5 := p2.fz 5
    have f6 := p2.fz 6
    have f7 := p2.fz 7
    go_wp2
    have KZ := keeps_eight Y w.heap.size (.int .i64 m0) (.int .i64 m1) (.int .i64 m2) (.int .i64 m3) (.int .i64 m4) (.int .i64 m5) (.slice va ml.length vc) (.int .i64 0)
    have HZ := blk_put8 p2 (.int .i64 m0) (.int .i64 m1) (.int .i64 m2) (.int .i64 m3) (.int .i64 m4) (.int .i64 m5) (.slice va ml.length vc) (.int .i64 0)
    have HB := B2.trans (KZ.toBelow B2.size (fun q hq => by omega))
    have HR := rowKeep hown2 KZ (fun g hg => by have := hown2.lt g hg; omega)
    obtain ⟨q0, q1, q2, q3, q4, q5, q6, q7⟩ := blk8_cells HZ
    exact bodyPost_ret (v := mailOutV ⟨m0, m1, m2, m3, m4, m5, ml⟩ (.slice va ml.length vc) 0) (by simp [results, Tryd.results8, go_sem, mailOutV, q0, q1, q2, q3, q4, q5, q6, q7]) rfl ⟨_, rfl, rowLe HR (by omega), HB⟩
  · obtain rfl : m = mailZ := by
      rcases HP.out with ⟨_, _, h⟩ | ⟨t, _, ⟨_, _, h⟩ | ⟨_, _, h⟩⟩
      · exact h
      · exact absurd h hc
      · exact h
    obtain ⟨ty, x, hx⟩ := errV_iface ps c
    rw [hx]
    have HX : Hid (errV ps c = .iface ty x) := hx
    unfold mail0
    clear hx hown1
    go_upto_region 2 with fail
    have B2 := B1.alloc B1.size (.cells #[.int .i64 0, .int .i64 0, .int .i64 0, .int .i64 0, .int .i64 0, .int .i64 0, .slice none 0 0] 25)
    have bA : Below W1.heap.size W1 (W1.alloc (.cells #[.int .i64 0, .int .i64 0, .int .i64 0, .int .i64 0, .int .i64 0, .int .i64 0, .slice none 0 0] 25)) := (Below.refl _ _).alloc (Nat.le_refl _) _
    have p2 := p1.keep bA
    have hg2 := hg1.keep bA
    have hlt := p1.lt
    clear B1 bA p1 hg1
    generalize W1.alloc (.cells #[.int .i64 0, .int .i64 0, .int .i64 0, .int .i64 0, .int .i64 0, .int .i64 0, .slice none 0 0] 25) = Y at *
    go_wp2_with fail
    rw [← HX.out]
    refine (codeOf_any ps c Y hg2).mono ?_
    rintro e y ⟨rfl, by1⟩
    have B3 := B2.trans (by1.mono B2.size)
    have p3 := p2.keep by1
    clear by1 B2 p2 hg2
    obtain ⟨d0, d1, d2, d3, d4, d5, d6, d7⟩ := blk8_cells p3
    have f0 := p3.fz 0
    have f1 := p3.fz 1
    have f2 := p3.fz 2
    have f3 := p3.fz 3
    have f4 := p3.fz 4
    have f5 := p3.fz 5
    have f6 := p3.fz 6
    have f7 := p3.fz 7
    go_wp2
    have KZ := keeps_eight y w.heap.size (.int .i64 0) (.int .i64 0) (.int .i64 0) (.int .i64 0) (.int .i64 0) (.int .i64 0) (.slice none 0 0) (.int .i64 c)
    have HZ := blk_put8 p3 (.int .i64 0) (.int .i64 0) (.int .i64 0) (.int .i64 0) (.int .i64 0) (.int .i64 0) (.slice none 0 0) (.int .i64 c)
    have HB := B3.trans (KZ.toBelow B3.size (fun q hq => by omega))
    obtain ⟨q0, q1, q2, q3, q4, q5, q6, q7⟩ := blk8_cells HZ
    exact bodyPost_ret (v := mailOutV mailZ (.slice none 0 0) c) (by simp [results, Tryd.results8, go_sem, mailOutV, mailZ, q0, q1, q2, q3, q4, q5, q6, q7]) rfl ⟨_, rfl, World.ownsRow_nil _ _ _ _, HB⟩
end Go.Proofs.YtpjdkgcdkfmkiaaDoor
