/- The contract of mailOf: a mail out of numbers. -/
import Derived.Test.YtpjdkgcdkfmkiaaDoorFactsOf
import Derived.Test.YtpjdkgcdkfmkiaaDoorG21
import Derived.Test.YtpjdkgcdkfmkiaaDoorG32
namespace Go.Proofs.YtpjdkgcdkfmkiaaDoor
open Go Go.RowKit
set_option linter.unusedVariables false

/-- A mail as a value, its facts lying somewhere. -/
def mailVal (m : MailV) (v : Value) : Value := .agg #[.int .i64 m.kind, .int .i64 m.frm, .int .i64 m.dst, .int .i64 m.num, .int .i64 m.about, .int .i64 m.fr, v]
def mail0 : Value := .agg #[.int .i64 0, .int .i64 0, .int .i64 0, .int .i64 0, .int .i64 0, .int .i64 0, .slice none 0 0]
def MailOfPost (l : List Int) (w : World) (e : Ending) (w' : World) : Prop :=
  (∃ (m : MailV) (v : Value), m.nums = l ∧ e = .returned (.tuple #[mailVal m v, .bool true]) ∧ w'.ownsRow w.heap.size 43 3 v m.facts.length (cellsOf FactV.cells m.facts) ∧ Below w.heap.size w w') ∨
  ((∀ m : MailV, m.nums ≠ l) ∧ e = .returned (.tuple #[mail0, .bool false]) ∧ Below w.heap.size w w')
set_option maxHeartbeats 1000000 in
set_option maxRecDepth 100000 in
theorem mailOf_any (a : Option Addr) (cap : Nat) (l : List Int) (w : World) (hl : l.length ≤ 8000) (hcap : l.length ≤ cap) (hrow : NumRow w a l) : Calls Tryd.prog 54 #[.slice a l.length cap] w (MailOfPost l w) := by
  have B0 := (Below.refl w.heap.size w).alloc (Nat.le_refl _) (.cells #[.int .i64 0, .int .i64 0, .int .i64 0, .int .i64 0, .int .i64 0, .int .i64 0, .slice none 0 0] 25)
  have p0 := BlkIs.new w 25 #[.int .i64 0, .int .i64 0, .int .i64 0, .int .i64 0, .int .i64 0, .int .i64 0, .slice none 0 0]
  obtain ⟨W, hW⟩ : ∃ W, w.alloc (.cells #[.int .i64 0, .int .i64 0, .int .i64 0, .int .i64 0, .int .i64 0, .int .i64 0, .slice none 0 0] 25) = W := ⟨_, rfl⟩
  rw [hW] at B0 p0
  have HW : Hid (_ = W) := hW
  clear hW
  have rowW := hrow.keep B0
  have hz := blk_put7 p0 (.int .i64 0) (.int .i64 0) (.int .i64 0) (.int .i64 0) (.int .i64 0) (.int .i64 0) (.slice none 0 0)
  have kz := keeps_seven W w.heap.size (.int .i64 0) (.int .i64 0) (.int .i64 0) (.int .i64 0) (.int .i64 0) (.int .i64 0) (.slice none 0 0)
  have Bz := B0.trans (kz.toBelow B0.size (fun q hq => by omega))
  have HZ : Hid (_ ∧ _) := ⟨hz, Bz⟩
  clear hz kz Bz
  by_cases h7 : l.length < 7
  · have HN : Hid (∀ m : MailV, m.nums ≠ l) := fun m e => by rw [← e, nums_length] at h7; omega
    have h7I : (l.length : Int) < 7 := by omega
    go_enter Tryd.func54, Tryd.ntmps54
    go_upto_region 1 with fail
    rw [HW.out]
    obtain ⟨c0, c1, c2, c3, c4, c5, c6⟩ := blk7_cells p0
    have f0 := p0.fz 0
    have f1 := p0.fz 1
    have f2 := p0.fz 2
    have f3 := p0.fz 3
    have f4 := p0.fz 4
    have f5 := p0.fz 5
    have f6 := p0.fz 6
    go_wp2
    obtain ⟨hz, Bz⟩ := HZ.out
    obtain ⟨q0, q1, q2, q3, q4, q5, q6⟩ := blk7_cells hz
    exact bodyPost_ret (v := .tuple #[mail0, .bool false]) (by simp [results, Tryd.results54, go_sem, mail0, q0, q1, q2, q3, q4, q5, q6]) rfl (.inr ⟨HN.out, rfl, Bz⟩)
  · have h7I : (7 : Int) ≤ (l.length : Int) := by omega
    have hc7 : (7 : Int) ≤ (cap : Int) := by omega
    rcases rowW with h | ⟨b, off, rfl, hbW, hcell⟩
    · rw [h] at h7; simp at h7
    have HC0 : Hid (∀ i (h : i < l.length), W.cell? ⟨b, off + i, none⟩ = some (.int .i64 l[i])) := hcell
    have HP0 : Hid (BlkIs W w.heap.size 25 #[.int .i64 0, .int .i64 0, .int .i64 0, .int .i64 0, .int .i64 0, .int .i64 0, .slice none 0 0]) := p0
    obtain ⟨a2, ha2⟩ : ∃ a2 : Addr, (if cap = 7 then (⟨b, off, none⟩ : Addr) else ⟨b, off + 7, none⟩) = a2 := ⟨_, rfl⟩
    have HA2 : Hid (_ = a2) := ha2
    clear hcell HZ p0 ha2
    go_enter Tryd.func54, Tryd.ntmps54
    go_upto_region 1 with fail
    rw [HW.out]
    clear HW
    go_upto_region 3 with fail
    refine wp_region_held_drew (S := fun x => x = W.drew) (by kernel_rfl) rfl (fun hHeld => ?_)
    clear hHeld
    refine takeG 0 (v := .slice (some ⟨b, off, none⟩) l.length cap) rfl (by kernel_rfl) (by kernel_rfl) (by kernel_rfl) (by kernel_rfl) (fun _ _ _ h => h) ?hy rfl ?_
    case hy => (intro w' hSw; subst hSw; go_simp)
    try simp only [List.setIfInBounds_toArray, List.set_cons_zero, List.set_cons_succ]
    refine takeG 1 (v := .slice (some ⟨b, off, none⟩) 7 cap) rfl (by kernel_rfl) (by kernel_rfl) (by kernel_rfl) (by kernel_rfl) (fun _ _ _ h => h) ?hy rfl ?_
    case hy => (intro w' hSw; subst hSw; go_simp)
    try simp only [List.setIfInBounds_toArray, List.set_cons_zero, List.set_cons_succ]
    refine takeG 2 (v := .slice (some ⟨b, off, none⟩) l.length cap) rfl (by kernel_rfl) (by kernel_rfl) (by kernel_rfl) (by kernel_rfl) (fun _ _ _ h => h) ?hy rfl ?_
    case hy => (intro w' hSw; subst hSw; go_simp)
    try simp only [List.setIfInBounds_toArray, List.set_cons_zero, List.set_cons_succ]
    refine takeG 3 (v := .slice (some a2) (l.length - 7) (cap - 7)) rfl (by kernel_rfl) (by kernel_rfl) (by kernel_rfl) (by kernel_rfl) (fun _ _ _ h => h) ?hy rfl ?_
    case hy => (intro w' hSw; subst hSw; go_simp; rw [← HA2.out]; split <;> rfl)
    try simp only [List.setIfInBounds_toArray, List.set_cons_zero, List.set_cons_succ]
    refine takeG 4 (v := .slice (some ⟨b, off, none⟩) 7 cap) rfl (by kernel_rfl) (by kernel_rfl) (by kernel_rfl) (by kernel_rfl) (fun _ _ _ h => h) ?hy rfl ?_
    case hy => (intro w' hSw; subst hSw; go_simp)
    try simp only [List.setIfInBounds_toArray, List.set_cons_zero, List.set_cons_succ]
    refine takeG 5 (v := .slice (some a2) (l.length - 7) (cap - 7)) rfl (by kernel_rfl) (by kernel_rfl) (by kernel_rfl) (by kernel_rfl) (fun _ _ _ h => h) ?hy rfl ?_
    case hy => (intro w' hSw; subst hSw; go_simp)
    try simp only [List.setIfInBounds_toArray, List.set_cons_zero, List.set_cons_succ]
    refine wpAnyH_done (by kernel_rfl) ?_ _
    have HC : Hid (∀ i (h : i < l.length), W.drew.cell? ⟨b, off + i, none⟩ = some (.int .i64 l[i])) := HC0.out
    have hdlt : b < W.drew.heap.size := hbW
    have pd : BlkIs W.drew w.heap.size 25 #[.int .i64 0, .int .i64 0, .int .i64 0, .int .i64 0, .int .i64 0, .int .i64 0, .slice none 0 0] := HP0.out
    have Bd : Below w.heap.size w W.drew := B0.drew
    clear HC0 HP0 B0 hbW
    generalize W.drew = X at *
    obtain ⟨kk, ff, tt, nn, aa, rr, cc, rest, hll⟩ := mailN_head (l := l) (by omega)
    have HL : Hid (l = kk :: ff :: tt :: nn :: aa :: rr :: cc :: rest) := hll
    obtain ⟨R, hR⟩ : ∃ R, l.length - 7 = R := ⟨_, rfl⟩
    have HR : Hid (R = rest.length) := by show R = rest.length; rw [← hR, hll]; simp
    have hRle : R ≤ 8000 := by omega
    have c0 := HC.out 0 (by omega)
    have c1 := HC.out 1 (by omega)
    have c2 := HC.out 2 (by omega)
    have c3 := HC.out 3 (by omega)
    have c4 := HC.out 4 (by omega)
    have c5 := HC.out 5 (by omega)
    have c6 := HC.out 6 (by omega)
    simp only [hll, List.getElem_cons_zero, List.getElem_cons_succ, Nat.add_zero] at c0 c1 c2 c3 c4 c5 c6
    rw [hR]
    clear hll hR
    obtain ⟨g0, g1, g2, g3, g4, g5, g6⟩ := blk7_cells pd
    have f0 := pd.fz 0
    have f1 := pd.fz 1
    have f2 := pd.fz 2
    have f3 := pd.fz 3
    have f4 := pd.fz 4
    have f5 := pd.fz 5
    have f6 := pd.fz 6
    have fac : ∀ m : MailV, m.nums = l → R = 3 * m.facts.length ∧ cc = (m.facts.length : Int) ∧ factsN m.facts = rest := fun m e => by
      have e2 := e.trans HL.out
      obtain ⟨m0, m1, m2, m3, m4, m5, m6⟩ := m
      simp only [MailV.nums, MailV.head, List.cons_append, List.nil_append, List.cons.injEq] at e2
      refine ⟨?_, e2.2.2.2.2.2.2.1.symm, e2.2.2.2.2.2.2.2⟩
      rw [HR.out, ← e2.2.2.2.2.2.2.2, factsN_length]
    have HFC : Hid (∀ m : MailV, m.nums = l → R = 3 * m.facts.length ∧ cc = (m.facts.length : Int) ∧ factsN m.facts = rest) := fac
    clear fac
    by_cases h3 : R % 3 ≠ 0
    · have HN : Hid (∀ m : MailV, m.nums ≠ l) := fun m e => by have := (HFC.out m e).1; omega
      go_wp2
      have KZ := keeps_seven X w.heap.size (.int .i64 0) (.int .i64 0) (.int .i64 0) (.int .i64 0) (.int .i64 0) (.int .i64 0) (.slice none 0 0)
      have HZ := blk_put7 pd (.int .i64 0) (.int .i64 0) (.int .i64 0) (.int .i64 0) (.int .i64 0) (.int .i64 0) (.slice none 0 0)
      have HB := Bd.trans (KZ.toBelow Bd.size (fun q hq => by omega))
      obtain ⟨q0, q1, q2, q3, q4, q5, q6⟩ := blk7_cells HZ
      exact bodyPost_ret (v := .tuple #[mail0, .bool false]) (by simp [results, Tryd.results54, go_sem, mail0, q0, q1, q2, q3, q4, q5, q6]) rfl (.inr ⟨HN.out, rfl, HB⟩)
    have h3 : R % 3 = 0 := by omega
    by_cases h5 : ((R / 3 : Nat) : Int) ≠ cc
    · have HN : Hid (∀ m : MailV, m.nums ≠ l) := fun m e => by have := HFC.out m e; omega
      have h5I : ¬ (R : Int) / 3 = cc := by omega
      go_wp2
      have KZ := keeps_seven X w.heap.size (.int .i64 0) (.int .i64 0) (.int .i64 0) (.int .i64 0) (.int .i64 0) (.int .i64 0) (.slice none 0 0)
      have HZ := blk_put7 pd (.int .i64 0) (.int .i64 0) (.int .i64 0) (.int .i64 0) (.int .i64 0) (.int .i64 0) (.slice none 0 0)
      have HB := Bd.trans (KZ.toBelow Bd.size (fun q hq => by omega))
      obtain ⟨q0, q1, q2, q3, q4, q5, q6⟩ := blk7_cells HZ
      exact bodyPost_ret (v := .tuple #[mail0, .bool false]) (by simp [results, Tryd.results54, go_sem, mail0, q0, q1, q2, q3, q4, q5, q6]) rfl (.inr ⟨HN.out, rfl, HB⟩)
    · have h5 : ((R / 3 : Nat) : Int) = cc := by omega
      obtain ⟨fs, hfs, hfl⟩ := facts_of (R / 3) rest (by rw [← HR.out]; omega)
      have h5I : (R : Int) / 3 = cc := by omega
      have HM : Hid (MailV.nums ⟨kk, ff, tt, nn, aa, rr, fs⟩ = l) := by
        show _ = _
        rw [HL.out, ← hfs, ← h5, ← hfl]
        rfl
      have hR3 : R = fs.length * 3 := by omega
      have rowR : CellRow X (some a2) (cellsOf FactV.cells fs) := by
        by_cases h0 : fs = []
        · exact .inl (by rw [h0]; rfl)
        · have hfp : 0 < fs.length := List.length_pos_iff.2 h0
          have hlen : l.length = R + 7 := by rw [HL.out, HR.out]; simp
          have e2 : a2 = ⟨b, off + 7, none⟩ := by rw [← HA2.out, if_neg (by omega)]
          refine .inr ⟨b, off + 7, by rw [e2], hdlt, fun i hi => ?_⟩
          have hi2 : i + 7 < l.length := by rw [cellsOf_length FactV.cells_len] at hi; omega
          rw [Nat.add_assoc, Nat.add_comm 7 i, HC.out (i + 7) hi2]
          have e3 : l[i + 7]? = rest[i]? := by rw [HL.out]; simp
          have e4 : (cellsOf FactV.cells fs)[i]? = (rest[i]?).map (Value.int .i64) := by rw [← factsN_cells, hfs]; simp [numsV]
          rw [List.getElem?_eq_getElem hi, ← e3, List.getElem?_eq_getElem hi2, Option.map_some] at e4
          rw [Option.some.inj e4]
      have HRD : Hid (∀ x, Below X.heap.size X x → x.cell? ⟨b, off, none⟩ = some (.int .i64 kk) ∧ x.cell? ⟨b, off + 1, none⟩ = some (.int .i64 ff) ∧ x.cell? ⟨b, off + 2, none⟩ = some (.int .i64 tt) ∧ x.cell? ⟨b, off + 3, none⟩ = some (.int .i64 nn) ∧ x.cell? ⟨b, off + 4, none⟩ = some (.int .i64 aa) ∧ x.cell? ⟨b, off + 5, none⟩ = some (.int .i64 rr)) := fun x h =>
        ⟨(h.cell (p := ⟨b, off, none⟩) hdlt).trans c0, (h.cell (p := ⟨b, off + 1, none⟩) hdlt).trans c1, (h.cell (p := ⟨b, off + 2, none⟩) hdlt).trans c2, (h.cell (p := ⟨b, off + 3, none⟩) hdlt).trans c3, (h.cell (p := ⟨b, off + 4, none⟩) hdlt).trans c4, (h.cell (p := ⟨b, off + 5, none⟩) hdlt).trans c5⟩
      have HFL : Hid (R = fs.length * 3) := hR3
      have HCP : Hid (fs.length * 3 ≤ cap - 7) := by
        show _ ≤ _
        have hlen : l.length = R + 7 := by rw [HL.out, HR.out]; simp
        omega
      have hfl2 : fs.length ≤ 3000 := by omega
      clear hfs hfl hR3 HFC HC HA2
      go_upto_region 6 with fail
      refine wp_region_held_drew (S := fun x => Below X.heap.size X x) (by kernel_rfl) (Below.refl _ _).drew (fun hHeld => ?_)
      refine takeG 0 (v := .slice (some ⟨b, off, none⟩) 7 cap) rfl (by kernel_rfl) (by kernel_rfl) (by kernel_rfl) (by kernel_rfl) (fun _ _ _ h => h) ?hy (by assumption) ?_
      case hy => (intro w' hSw; obtain ⟨s0, s1, s2, s3, s4, s5⟩ := HRD.out w' hSw; go_simp)
      try simp only [List.setIfInBounds_toArray, List.set_cons_zero, List.set_cons_succ]
      refine takeG 1 (v := .pointer (some ⟨b, off, none⟩)) rfl (by kernel_rfl) (by kernel_rfl) (by kernel_rfl) (by kernel_rfl) (fun _ _ _ h => h) ?hy (by assumption) ?_
      case hy => (intro w' hSw; obtain ⟨s0, s1, s2, s3, s4, s5⟩ := HRD.out w' hSw; go_simp)
      try simp only [List.setIfInBounds_toArray, List.set_cons_zero, List.set_cons_succ]
      refine takeG 2 (v := .int .i64 kk) rfl (by kernel_rfl) (by kernel_rfl) (by kernel_rfl) (by kernel_rfl) (fun _ _ _ h => h) ?hy (by assumption) ?_
      case hy => (intro w' hSw; obtain ⟨s0, s1, s2, s3, s4, s5⟩ := HRD.out w' hSw; go_simp)
      try simp only [List.setIfInBounds_toArray, List.set_cons_zero, List.set_cons_succ]
      refine takeG 3 (v := .slice (some ⟨b, off, none⟩) 7 cap) rfl (by kernel_rfl) (by kernel_rfl) (by kernel_rfl) (by kernel_rfl) (fun _ _ _ h => h) ?hy (by assumption) ?_
      case hy => (intro w' hSw; obtain ⟨s0, s1, s2, s3, s4, s5⟩ := HRD.out w' hSw; go_simp)
      try simp only [List.setIfInBounds_toArray, List.set_cons_zero, List.set_cons_succ]
      refine takeG 4 (v := .pointer (some ⟨b, off + 1, none⟩)) rfl (by kernel_rfl) (by kernel_rfl) (by kernel_rfl) (by kernel_rfl) (fun _ _ _ h => h) ?hy (by assumption) ?_
      case hy => (intro w' hSw; obtain ⟨s0, s1, s2, s3, s4, s5⟩ := HRD.out w' hSw; go_simp)
      try simp only [List.setIfInBounds_toArray, List.set_cons_zero, List.set_cons_succ]
      refine takeG 5 (v := .int .i64 ff) rfl (by kernel_rfl) (by kernel_rfl) (by kernel_rfl) (by kernel_rfl) (fun _ _ _ h => h) ?hy (by assumption) ?_
      case hy => (intro w' hSw; obtain ⟨s0, s1, s2, s3, s4, s5⟩ := HRD.out w' hSw; go_simp)
      try simp only [List.setIfInBounds_toArray, List.set_cons_zero, List.set_cons_succ]
      refine takeG 6 (v := .slice (some ⟨b, off, none⟩) 7 cap) rfl (by kernel_rfl) (by kernel_rfl) (by kernel_rfl) (by kernel_rfl) (fun _ _ _ h => h) ?hy (by assumption) ?_
      case hy => (intro w' hSw; obtain ⟨s0, s1, s2, s3, s4, s5⟩ := HRD.out w' hSw; go_simp)
      try simp only [List.setIfInBounds_toArray, List.set_cons_zero, List.set_cons_succ]
      refine takeG 7 (v := .pointer (some ⟨b, off + 2, none⟩)) rfl (by kernel_rfl) (by kernel_rfl) (by kernel_rfl) (by kernel_rfl) (fun _ _ _ h => h) ?hy (by assumption) ?_
      case hy => (intro w' hSw; obtain ⟨s0, s1, s2, s3, s4, s5⟩ := HRD.out w' hSw; go_simp)
      try simp only [List.setIfInBounds_toArray, List.set_cons_zero, List.set_cons_succ]
      refine takeG 8 (v := .int .i64 tt) rfl (by kernel_rfl) (by kernel_rfl) (by kernel_rfl) (by kernel_rfl) (fun _ _ _ h => h) ?hy (by assumption) ?_
      case hy => (intro w' hSw; obtain ⟨s0, s1, s2, s3, s4, s5⟩ := HRD.out w' hSw; go_simp)
      try simp only [List.setIfInBounds_toArray, List.set_cons_zero, List.set_cons_succ]
      refine takeG 9 (v := .slice (some ⟨b, off, none⟩) 7 cap) rfl (by kernel_rfl) (by kernel_rfl) (by kernel_rfl) (by kernel_rfl) (fun _ _ _ h => h) ?hy (by assumption) ?_
      case hy => (intro w' hSw; obtain ⟨s0, s1, s2, s3, s4, s5⟩ := HRD.out w' hSw; go_simp)
      try simp only [List.setIfInBounds_toArray, List.set_cons_zero, List.set_cons_succ]
      refine takeG 10 (v := .pointer (some ⟨b, off + 3, none⟩)) rfl (by kernel_rfl) (by kernel_rfl) (by kernel_rfl) (by kernel_rfl) (fun _ _ _ h => h) ?hy (by assumption) ?_
      case hy => (intro w' hSw; obtain ⟨s0, s1, s2, s3, s4, s5⟩ := HRD.out w' hSw; go_simp)
      try simp only [List.setIfInBounds_toArray, List.set_cons_zero, List.set_cons_succ]
      refine takeG 11 (v := .int .i64 nn) rfl (by kernel_rfl) (by kernel_rfl) (by kernel_rfl) (by kernel_rfl) (fun _ _ _ h => h) ?hy (by assumption) ?_
      case hy => (intro w' hSw; obtain ⟨s0, s1, s2, s3, s4, s5⟩ := HRD.out w' hSw; go_simp)
      try simp only [List.setIfInBounds_toArray, List.set_cons_zero, List.set_cons_succ]
      refine takeG 12 (v := .slice (some ⟨b, off, none⟩) 7 cap) rfl (by kernel_rfl) (by kernel_rfl) (by kernel_rfl) (by kernel_rfl) (fun _ _ _ h => h) ?hy (by assumption) ?_
      case hy => (intro w' hSw; obtain ⟨s0, s1, s2, s3, s4, s5⟩ := HRD.out w' hSw; go_simp)
      try simp only [List.setIfInBounds_toArray, List.set_cons_zero, List.set_cons_succ]
      refine takeG 13 (v := .pointer (some ⟨b, off + 4, none⟩)) rfl (by kernel_rfl) (by kernel_rfl) (by kernel_rfl) (by kernel_rfl) (fun _ _ _ h => h) ?hy (by assumption) ?_
      case hy => (intro w' hSw; obtain ⟨s0, s1, s2, s3, s4, s5⟩ := HRD.out w' hSw; go_simp)
      try simp only [List.setIfInBounds_toArray, List.set_cons_zero, List.set_cons_succ]
      refine takeG 14 (v := .int .i64 aa) rfl (by kernel_rfl) (by kernel_rfl) (by kernel_rfl) (by kernel_rfl) (fun _ _ _ h => h) ?hy (by assumption) ?_
      case hy => (intro w' hSw; obtain ⟨s0, s1, s2, s3, s4, s5⟩ := HRD.out w' hSw; go_simp)
      try simp only [List.setIfInBounds_toArray, List.set_cons_zero, List.set_cons_succ]
      refine takeG 15 (v := .slice (some ⟨b, off, none⟩) 7 cap) rfl (by kernel_rfl) (by kernel_rfl) (by kernel_rfl) (by kernel_rfl) (fun _ _ _ h => h) ?hy (by assumption) ?_
      case hy => (intro w' hSw; obtain ⟨s0, s1, s2, s3, s4, s5⟩ := HRD.out w' hSw; go_simp)
      try simp only [List.setIfInBounds_toArray, List.set_cons_zero, List.set_cons_succ]
      refine takeG 16 (v := .pointer (some ⟨b, off + 5, none⟩)) rfl (by kernel_rfl) (by kernel_rfl) (by kernel_rfl) (by kernel_rfl) (fun _ _ _ h => h) ?hy (by assumption) ?_
      case hy => (intro w' hSw; obtain ⟨s0, s1, s2, s3, s4, s5⟩ := HRD.out w' hSw; go_simp)
      try simp only [List.setIfInBounds_toArray, List.set_cons_zero, List.set_cons_succ]
      refine takeG 17 (v := .int .i64 rr) rfl (by kernel_rfl) (by kernel_rfl) (by kernel_rfl) (by kernel_rfl) (fun _ _ _ h => h) ?hy (by assumption) ?_
      case hy => (intro w' hSw; obtain ⟨s0, s1, s2, s3, s4, s5⟩ := HRD.out w' hSw; go_simp)
      try simp only [List.setIfInBounds_toArray, List.set_cons_zero, List.set_cons_succ]
      refine takeG 18 (v := .agg #[.int .i64 kk, .int .i64 ff, .int .i64 tt, .int .i64 nn, .int .i64 aa, .int .i64 rr, .slice none 0 0]) rfl (by kernel_rfl) (by kernel_rfl) (by kernel_rfl) (by kernel_rfl) (fun _ _ _ h => h) ?hy (by assumption) ?_
      case hy => (intro w' hSw; go_simp)
      try simp only [List.setIfInBounds_toArray, List.set_cons_zero, List.set_cons_succ]
      have pY : BlkIs X.drew w.heap.size 25 #[.int .i64 0, .int .i64 0, .int .i64 0, .int .i64 0, .int .i64 0, .int .i64 0, .slice none 0 0] := pd
      have BY : Below w.heap.size w X.drew := Bd.drew
      have rY : CellRow X.drew (some a2) (cellsOf FactV.cells fs) := rowR
      clear c0 c1 c2 c3 c4 c5 c6 g0 g1 g2 g3 g4 g5 g6 f0 f1 f2 f3 f4 f5 f6 pd Bd rowR HRD
      generalize X.drew = Y at *
      have p1 := BlkIs.new Y 25 #[.int .i64 0, .int .i64 0, .int .i64 0, .int .i64 0, .int .i64 0, .int .i64 0, .slice none 0 0]
      have bA : Below Y.heap.size Y (Y.alloc (.cells #[.int .i64 0, .int .i64 0, .int .i64 0, .int .i64 0, .int .i64 0, .int .i64 0, .slice none 0 0] 25)) := (Below.refl _ _).alloc (Nat.le_refl _) _
      have hyl := pY.lt
      have SA : Below X.heap.size X (Y.alloc (.cells #[.int .i64 0, .int .i64 0, .int .i64 0, .int .i64 0, .int .i64 0, .int .i64 0, .slice none 0 0] 25)) := hHeld.alloc hHeld.size _
      refine oneH 19 (by kernel_rfl) (doH rfl (v := .pointer (some ⟨Y.heap.size, 0, none⟩)) (w' := Y.alloc (.cells #[.int .i64 0, .int .i64 0, .int .i64 0, .int .i64 0, .int .i64 0, .int .i64 0, .slice none 0 0] 25)) (by go_simp) SA ?_)
      try simp only [List.setIfInBounds_toArray, List.set_cons_zero, List.set_cons_succ]
      have hyx := hHeld.size
      clear hHeld
      generalize Y.alloc (.cells #[.int .i64 0, .int .i64 0, .int .i64 0, .int .i64 0, .int .i64 0, .int .i64 0, .slice none 0 0] 25) = Y1 at *
      obtain ⟨g0, g1, g2, g3, g4, g5, g6⟩ := blk7_cells p1
      have f0 := p1.fz 0
      have f1 := p1.fz 1
      have f2 := p1.fz 2
      have f3 := p1.fz 3
      have f4 := p1.fz 4
      have f5 := p1.fz 5
      have f6 := p1.fz 6
      have K1 := keeps_seven Y1 Y.heap.size (.int .i64 kk) (.int .i64 ff) (.int .i64 tt) (.int .i64 nn) (.int .i64 aa) (.int .i64 rr) (.slice none 0 0)
      have SB : Below X.heap.size X (((((((Y1.setCell ⟨Y.heap.size, 0, none⟩ (.int .i64 kk)).setCell ⟨Y.heap.size, 1, none⟩ (.int .i64 ff)).setCell ⟨Y.heap.size, 2, none⟩ (.int .i64 tt)).setCell ⟨Y.heap.size, 3, none⟩ (.int .i64 nn)).setCell ⟨Y.heap.size, 4, none⟩ (.int .i64 aa)).setCell ⟨Y.heap.size, 5, none⟩ (.int .i64 rr)).setCell ⟨Y.heap.size, 6, none⟩ (.slice none 0 0)) := SA.trans (K1.toBelow SA.size (fun q hq => by omega))
      refine oneH 20 (by kernel_rfl) (storeH rfl (nx := .skip) (w' := (((((((Y1.setCell ⟨Y.heap.size, 0, none⟩ (.int .i64 kk)).setCell ⟨Y.heap.size, 1, none⟩ (.int .i64 ff)).setCell ⟨Y.heap.size, 2, none⟩ (.int .i64 tt)).setCell ⟨Y.heap.size, 3, none⟩ (.int .i64 nn)).setCell ⟨Y.heap.size, 4, none⟩ (.int .i64 aa)).setCell ⟨Y.heap.size, 5, none⟩ (.int .i64 rr)).setCell ⟨Y.heap.size, 6, none⟩ (.slice none 0 0))) (by go_simp) (.inl rfl) SB ?_)
      try simp only [List.setIfInBounds_toArray, List.set_cons_zero, List.set_cons_succ]
      refine wpAnyH_done (by kernel_rfl) ?_ _
      have p2 := blk_put7 p1 (.int .i64 kk) (.int .i64 ff) (.int .i64 tt) (.int .i64 nn) (.int .i64 aa) (.int .i64 rr) (.slice none 0 0)
      have bB : Below Y.heap.size Y (((((((Y1.setCell ⟨Y.heap.size, 0, none⟩ (.int .i64 kk)).setCell ⟨Y.heap.size, 1, none⟩ (.int .i64 ff)).setCell ⟨Y.heap.size, 2, none⟩ (.int .i64 tt)).setCell ⟨Y.heap.size, 3, none⟩ (.int .i64 nn)).setCell ⟨Y.heap.size, 4, none⟩ (.int .i64 aa)).setCell ⟨Y.heap.size, 5, none⟩ (.int .i64 rr)).setCell ⟨Y.heap.size, 6, none⟩ (.slice none 0 0)) := bA.trans (K1.toBelow bA.size (fun q hq => by omega))
      clear g0 g1 g2 g3 g4 g5 g6 f0 f1 f2 f3 f4 f5 f6 p1 K1 SA SB bA
      generalize (((((((Y1.setCell ⟨Y.heap.size, 0, none⟩ (.int .i64 kk)).setCell ⟨Y.heap.size, 1, none⟩ (.int .i64 ff)).setCell ⟨Y.heap.size, 2, none⟩ (.int .i64 tt)).setCell ⟨Y.heap.size, 3, none⟩ (.int .i64 nn)).setCell ⟨Y.heap.size, 4, none⟩ (.int .i64 aa)).setCell ⟨Y.heap.size, 5, none⟩ (.int .i64 rr)).setCell ⟨Y.heap.size, 6, none⟩ (.slice none 0 0)) = Y2 at *
      have pZ := pY.keep bB
      have BZ := BY.trans (bB.mono BY.size)
      have rZ := rY.keep bB
      have hys : Y.heap.size < Y2.heap.size := p2.lt
      clear pY BY rY bB
      have hR3 := HFL.out
      subst hR3
      go_wp2_with fail
      refine (factsOf_any (some a2) (cap - 7) fs Y2 hfl2 HCP.out rZ).mono ?_
      rintro e x ⟨v, rfl, hown, bx⟩
      obtain ⟨va, vn, vc, rfl⟩ := rowShape hown
      have px := pZ.keep bx
      have p3 := p2.keep bx
      have Bx := BZ.trans (bx.mono BZ.size)
      have d6 := (blk7_cells p3).2.2.2.2.2.2
      have e6 := p3.fz 6
      clear pZ p2 BZ rZ
      go_upto_region 8 with fail
      have K2 : Keeps (fun q => q ≠ Y.heap.size) x (x.setCell ⟨Y.heap.size, 6, none⟩ (.slice va vn vc)) := (Keeps.refl _ _).setCell (fun h => h rfl) _
      have p4 : BlkIs (x.setCell ⟨Y.heap.size, 6, none⟩ (.slice va vn vc)) Y.heap.size 25 #[.int .i64 kk, .int .i64 ff, .int .i64 tt, .int .i64 nn, .int .i64 aa, .int .i64 rr, .slice va vn vc] := by simpa using p3.put 6 (.slice va vn vc)
      have pz := px.keepK K2 (by omega)
      have Bz := Bx.trans (K2.toBelow Bx.size (fun q hq => by omega))
      have hoz := rowKeep hown K2 (fun g hg => by have := (hown.lt g hg).1; omega)
      clear K2 px p3 Bx hown bx d6 e6
      generalize x.setCell ⟨Y.heap.size, 6, none⟩ (.slice va vn vc) = y at *
      obtain ⟨g0, g1, g2, g3, g4, g5, g6⟩ := blk7_cells p4
      obtain ⟨d0, d1, d2, d3, d4, d5, d6⟩ := blk7_cells pz
      have f0 := pz.fz 0
      have f1 := pz.fz 1
      have f2 := pz.fz 2
      have f3 := pz.fz 3
      have f4 := pz.fz 4
      have f5 := pz.fz 5
      have f6 := pz.fz 6
      go_wp2
      have KZ := keeps_seven y w.heap.size (.int .i64 kk) (.int .i64 ff) (.int .i64 tt) (.int .i64 nn) (.int .i64 aa) (.int .i64 rr) (.slice va vn vc)
      have HZ := blk_put7 pz (.int .i64 kk) (.int .i64 ff) (.int .i64 tt) (.int .i64 nn) (.int .i64 aa) (.int .i64 rr) (.slice va vn vc)
      have HB := Bz.trans (KZ.toBelow Bz.size (fun q hq => by omega))
      have HO := rowKeep hoz KZ (fun g hg => by have := (hoz.lt g hg).1; omega)
      obtain ⟨q0, q1, q2, q3, q4, q5, q6⟩ := blk7_cells HZ
      exact bodyPost_ret (v := .tuple #[mailVal ⟨kk, ff, tt, nn, aa, rr, fs⟩ (.slice va vn vc), .bool true]) (by simp [results, Tryd.results54, go_sem, mailVal, q0, q1, q2, q3, q4, q5, q6]) rfl (.inl ⟨_, _, HM.out, rfl, rowLe HO (by omega), HB⟩)
end Go.Proofs.YtpjdkgcdkfmkiaaDoor
