/- The contracts of the program's lines of a plan's text. -/
import Derived.Test.YtddlccepgeekcaaDoorTxPlain
import Derived.Test.YtddlccepgeekcaaDoorTxLay
import Derived.Test.YtddlccepgeekcaaDoorAppS
import Derived.Test.YtddlccepgeekcaaDoorJoined
import Derived.Test.YtddlccepgeekcaaDoorIRightI
namespace Go.Proofs.YtddlccepgeekcaaDoor
open Go Go.RowKit
set_option linter.unusedVariables false
set_option linter.unusedSimpArgs false

set_option maxHeartbeats 2000000 in
set_option maxRecDepth 100000 in
theorem wordOf_any (k : Int) (w : World) : Calls Tryd.prog 22 #[.int .i64 k] w fun e w' => e = .returned (.string ⟨(wordL k).toArray⟩) ∧ w = w' := by
  go_enter Tryd.func22, Tryd.ntmps22
  go_wp2
  all_goals
    go_ret
    refine ⟨?_, rfl⟩
    simp_all [wordL]
def intV (l : List Int) : List Value := l.map (Value.int .i64)
theorem intV_length (l : List Int) : (intV l).length = l.length := by simp [intV]
set_option maxHeartbeats 2000000 in
set_option maxRecDepth 100000 in
theorem lineText_any (d : Nat) (hd : d ≤ 3) (wd : List UInt8) (hwd : wd.length ≤ 100) (a : Option Addr) (cap : Nat) (l : List Int) (hl : l.length ≤ 3) (hn : ∀ n ∈ l, 0 ≤ n ∧ n ≤ 9999) (w : World) (ht : Tab w) (hrow : CellRow w a (intV l)) :
    Calls Tryd.prog 23 #[.int .i64 d, .string ⟨wd.toArray⟩, .slice a l.length cap] w fun e w' => e = .returned (.string ⟨(Lib.repeatL [32, 32] d ++ wd ++ numT l ++ [10]).toArray⟩) ∧ Below w.heap.size w w' := by
  have HN : Hid (∀ n ∈ l, 0 ≤ n ∧ n ≤ 9999) := hn
  clear hn
  have hrl := Lib.repeatL_length [32, 32] d
  obtain ⟨rp, hrp⟩ : ∃ rp, Lib.repeatL [32, 32] d = rp := ⟨_, rfl⟩
  have HRP : Hid (Lib.repeatL [32, 32] d = rp) := hrp
  rw [hrp] at hrl ⊢
  have hrl2 : rp.length ≤ 6 := by rw [hrl]; simp only [List.length_cons, List.length_nil]; omega
  clear hrp hrl
  go_enter Tryd.func23, Tryd.ntmps23
  go_upto_region 2 with (go_at_call 28; refine (repeat_any [32, 32] d (by omega) (by simp) _).mono ?_; rintro e y ⟨rfl, by1⟩; rw [HRP.out])
  have own0 := World.ownsRow_lit (base := w.heap.size) (e := 9) (size := 1) y #[.string ⟨rp.toArray⟩, .string ⟨wd.toArray⟩] 2 by1.size (by simp [maxLen]) rfl
  have B0 := by1.alloc by1.size (.cells #[.string ⟨rp.toArray⟩, .string ⟨wd.toArray⟩] 9)
  obtain ⟨Y, hY⟩ : ∃ Y, y.alloc (.cells #[.string ⟨rp.toArray⟩, .string ⟨wd.toArray⟩] 9) = Y := ⟨_, rfl⟩
  rw [hY] at own0 B0 ⊢
  obtain ⟨kb, hkb⟩ : ∃ k, y.heap.size = k := ⟨_, rfl⟩
  rw [hkb] at own0 ⊢
  clear hY hkb by1
  try simp only [Act.put]
  go_wp2_with fail
  go_loopw [16, 7] (fun i v wr => ∃ (k : Nat) (ps : List ByteArray) (np : Nat), k ≤ l.length ∧ i = .int .i64 k ∧ ps.length = np ∧ np ≤ 2 + 2 * k ∧ wr.ownsRow w.heap.size 9 1 v np (strV ps) ∧ cat ps = rp ++ wd ++ numT (l.take k) ∧ Below w.heap.size w wr) (fun i _ _ => l.length - (intOf i).toNat)
  case atStart => exact ⟨0, [⟨rp.toArray⟩, ⟨wd.toArray⟩], 2, Nat.zero_le _, rfl, rfl, Nat.le_refl _, own0, by simp [cat, numT], B0⟩
  case round =>
    obtain ⟨k, ps, np, hk, rfl, hps, hnp, own, hcat, hb⟩ := hrel
    clear own0 B0
    have HC : Hid (cat ps = rp ++ wd ++ numT (l.take k)) := hcat
    have HPS : Hid (ps.length = np) := hps
    clear hcat hps
    have htr := ht.keep hb
    by_cases hk2 : k < l.length
    · obtain ⟨b, off, rfl⟩ := hrow.addr (by rw [intV_length]; omega)
      obtain ⟨x, hlx⟩ : ∃ x, l[k] = x := ⟨_, rfl⟩
      have ck : wr.cell? ⟨b, off + k, none⟩ = some (.int .i64 x) := by
        rcases hrow.keep hb with h | ⟨b', off', e, hlt, hc⟩
        · have := congrArg List.length h
          rw [intV_length] at this
          simp only [List.length_nil] at this
          omega
        · simp only [Option.some.injEq, Addr.mk.injEq, and_true] at e
          obtain ⟨rfl, rfl⟩ := e
          rw [hc k (by rw [intV_length]; exact hk2)]
          simp [intV, hlx]
      have HX : Hid (0 ≤ x ∧ x ≤ 9999) := HN.out x (hlx ▸ List.getElem_mem hk2)
      have HT : Hid (l.take (k + 1) = l.take k ++ [x]) := by show _ = _; rw [List.take_succ_eq_append_getElem hk2, hlx]
      have hk' : (k : Int) < (l.length : Int) := by omega
      clear hlx
      go_wp2_with (first
        | (go_at_call 29; refine (formatInt_any x HX.out.1 HX.out.2 _ htr).mono ?_; rintro e z ⟨rfl, bz⟩; have own1 := rowBelow (rowBelow own bz) ((Below.refl z.heap.size z).alloc (Nat.le_refl _) (.cells #[.string ⟨#[32]⟩, .string ⟨(Lib.itoa x).toArray⟩] 9)); have hb1 := (hb.trans (bz.mono hb.size)).alloc (Nat.le_trans hb.size bz.size) (.cells #[.string ⟨#[32]⟩, .string ⟨(Lib.itoa x).toArray⟩] 9))
        | (at_builtin; refine append_strs rfl _ _ rfl w.heap.size _ np (strV ps) rfl own1 z.heap.size 2 [⟨#[32]⟩, ⟨(Lib.itoa x).toArray⟩] 2 rfl rfl (BlkIs.new z 9 #[.string ⟨#[32]⟩, .string ⟨(Lib.itoa x).toArray⟩]) (by omega) hb1.size ?_))
      intro v' w2 own2 hg
      have hb2 : Below w.heap.size w w2 := hb1.grown hg (by have := hb1.size; omega) (fun g hgg => (own1.lt g hgg).1)
      rw [← strV_append] at own2
      have HC2 : Hid (cat (ps ++ [⟨#[32]⟩, ⟨(Lib.itoa x).toArray⟩]) = rp ++ wd ++ numT (l.take (k + 1))) := by
        show _ = _
        rw [cat_append, HC.out, HT.out, numT_append]
        simp [cat, numT]
      clear hg own1 hb1 bz ck own hb htr
      go_wp2
      go_roundw
      case rel => exact ⟨k + 1, ps ++ [⟨#[32]⟩, ⟨(Lib.itoa x).toArray⟩], np + 2, by omega, by go_num, by rw [List.length_append, HPS.out]; rfl, by omega, own2, HC2.out, hb2⟩
      case measure => simp [intOf]; omega
    · obtain rfl : k = l.length := by omega
      have HC1 : Hid (cat ps = rp ++ wd ++ numT l) := by have h := HC.out; rw [List.take_length] at h; exact h
      have hnl : (numT l).length ≤ 15 := by have := numT_len l HN.out; omega
      have own1 := rowBelow own ((Below.refl wr.heap.size wr).alloc (Nat.le_refl _) (.cells #[.string ⟨#[10]⟩] 9))
      have hb1 := hb.alloc hb.size (.cells #[.string ⟨#[10]⟩] 9)
      clear HC
      go_wp2_with (at_builtin; refine append_strs rfl _ _ rfl w.heap.size _ np (strV ps) rfl own1 wr.heap.size 1 [⟨#[10]⟩] 1 rfl rfl (BlkIs.new wr 9 #[.string ⟨#[10]⟩]) (by omega) hb1.size ?_)
      intro v' w2 own2 hg
      have hb2 : Below w.heap.size w w2 := hb1.grown hg (by have := hb1.size; omega) (fun g hgg => (own1.lt g hgg).1)
      rw [← strV_append] at own2
      have HC2 : Hid (cat (ps ++ [⟨#[10]⟩]) = rp ++ wd ++ numT l ++ [10]) := by
        show _ = _
        rw [cat_append, HC1.out]
        simp [cat]
      have hsum : (cat (ps ++ [⟨#[10]⟩])).length ≤ 1000000000 := by
        rw [HC2.out]
        simp only [List.length_append, List.length_cons, List.length_nil]
        omega
      have hlen2 : np + 1 = (ps ++ [(⟨#[10]⟩ : ByteArray)]).length := by rw [List.length_append, HPS.out]; rfl
      rw [hlen2] at own2
      obtain ⟨gb, gc, rfl, hgb, hglt, hgcell⟩ := strs_cell own2 (by rw [← hlen2]; omega)
      obtain ⟨qs, hqs⟩ : ∃ q, ps ++ [(⟨#[10]⟩ : ByteArray)] = q := ⟨_, rfl⟩
      rw [hqs] at hlen2 hgcell HC2 hsum ⊢
      clear hg own1 hb1 own hb htr own2 hqs
      go_wp2_with fail
      refine (joined_any qs gb gc _ (by omega) hsum hglt hgcell).mono ?_
      rintro e w3 ⟨rfl, b3⟩
      have hb3 := hb2.trans (b3.mono hb2.size)
      clear hlen2 hgcell hsum
      go_wp2
      go_ret
      exact ⟨by rw [← HC2.out]; rfl, hb3⟩
/-- The numbers of a line, in a block of their own. -/
theorem litRow (w : World) (l : List Int) {t : Nat} : CellRow (w.alloc (.cells (intV l).toArray t)) (some ⟨w.heap.size, 0, none⟩) (intV l) := by
  refine .inr ⟨w.heap.size, 0, rfl, by simp, fun i hi => ?_⟩
  rw [Nat.zero_add, (BlkIs.new w t (intV l).toArray).cell i]
  simp
set_option maxHeartbeats 4000000 in
set_option maxRecDepth 100000 in
theorem itemText_any (x : ItemV) (d : Int) (hd0 : 0 ≤ d) (hd3 : d ≤ 3) (hx : x.ok) (hs0 : 0 ≤ x.stand d) (hs3 : x.stand d ≤ 3) (w : World) (ht : Tab w) :
    Calls Tryd.prog 14 #[x.val, .int .i64 d, .int .i64 (x.deep d)] w fun e w' => e = .returned (.string ⟨(lineL x (x.stand d).toNat ++ [10]).toArray⟩) ∧ Below w.heap.size w w' := by
  have HNU : Hid (∀ n ∈ numsT x, 0 ≤ n ∧ n ≤ 9999) := ok_nums hx
  have hmin := ItemV.stand_min x d
  obtain ⟨sd, hsd⟩ : ∃ s : Nat, x.stand d = s := ⟨(x.stand d).toNat, by omega⟩
  have HL : Hid (lineL x (x.stand d).toNat = Lib.repeatL [32, 32] sd ++ wordL x.kind ++ numT (numsT x)) := by show _ = _; rw [hsd]; rfl
  obtain ⟨dp, hdp⟩ : ∃ s, x.deep d = s := ⟨_, rfl⟩
  rw [hdp, hsd] at hmin
  rw [hdp]
  have hsd3 : sd ≤ 3 := by omega
  have HW : Hid ((wordL x.kind).length ≤ 100) := by have := wordL_len x.kind; show _ ≤ _; omega
  obtain ⟨x1, x2, x3, x4⟩ := x
  have HNN : Hid (numsT ⟨x1, x2, x3, x4⟩ = if x1 = 9 then [] else if x1 = 4 then [x2] else if x1 = 8 then [x2, x3, x4] else [x2, x3]) := rfl
  have B0 := (Below.refl w.heap.size w).alloc (Nat.le_refl _) (.cells #[.int .i64 x1, .int .i64 x2, .int .i64 x3, .int .i64 x4] 32)
  have P0 := BlkIs.new w 32 #[.int .i64 x1, .int .i64 x2, .int .i64 x3, .int .i64 x4]
  have ht0 := ht.keep B0
  dsimp only at HW HL
  clear hx hs0 hs3 hsd hdp ht
  unfold ItemV.val
  go_enter Tryd.func14, Tryd.ntmps14
  go_upto_region 1 with fail
  obtain ⟨W, hW⟩ : ∃ W, w.alloc (.cells #[.int .i64 x1, .int .i64 x2, .int .i64 x3, .int .i64 x4] 32) = W := ⟨_, rfl⟩
  rw [hW] at P0 B0 ht0 ⊢
  clear hW
  have c0 : W.cell? ⟨w.heap.size, 0, none⟩ = some (.int .i64 x1) := P0.cell 0
  have c1 : W.cell? ⟨w.heap.size, 1, none⟩ = some (.int .i64 x2) := P0.cell 1
  have c2 : W.cell? ⟨w.heap.size, 2, none⟩ = some (.int .i64 x3) := P0.cell 2
  have c3 : W.cell? ⟨w.heap.size, 3, none⟩ = some (.int .i64 x4) := P0.cell 3
  go_upto_region 2 with (go_at_call 22; refine (wordOf_any x1 _).mono ?_; rintro e y ⟨rfl, rfl⟩)
  have hmin2 : min d dp = (sd : Int) := hmin.symm
  try simp only [Act.put]
  try rw [hmin2]
  clear hmin hmin2
  by_cases h9 : x1 = 9
  · subst h9
    have HM : Hid (numsT ⟨9, x2, x3, x4⟩ = []) := rfl
    have hc := lineText_any sd hsd3 (wordL 9) HW.out none 0 [] (by simp) (by simp) W ht0 (.inl rfl)
    go_wp2_with (go_at_call 23; refine hc.mono ?_; rintro e y ⟨rfl, by1⟩)
    go_ret
    exact ⟨by rw [HL.out, HM.out]; simp only [List.append_assoc]; rfl, B0.trans (by1.mono B0.size)⟩
  · have e9 : (x1 == 9) = false := beq_eq_false_iff_ne.2 h9
    by_cases h4 : x1 = 4
    · subst h4
      have HM : Hid (numsT ⟨4, x2, x3, x4⟩ = [x2]) := rfl
      have HQ : Hid (∀ n ∈ [x2], 0 ≤ n ∧ n ≤ 9999) := by show ∀ n ∈ [x2], 0 ≤ n ∧ n ≤ 9999; rw [← HM.out]; exact HNU.out
      have ht1 := ht0.keep ((Below.refl W.heap.size W).alloc (Nat.le_refl _) (.cells (intV [x2]).toArray 2))
      have B1 := B0.alloc B0.size (.cells (intV [x2]).toArray 2)
      have hc := lineText_any sd hsd3 (wordL 4) HW.out (some ⟨W.heap.size, 0, none⟩) 1 [x2] (by simp) HQ.out (W.alloc (.cells #[.int .i64 x2] 2)) ht1 (litRow W [x2])
      go_wp2_with (go_at_call 23; refine hc.mono ?_; rintro e y ⟨rfl, by1⟩)
      go_ret
      exact ⟨by rw [HL.out, HM.out]; simp only [List.append_assoc]; rfl, B1.trans (by1.mono B1.size)⟩
    · have e4 : (x1 == 4) = false := beq_eq_false_iff_ne.2 h4
      by_cases h8 : x1 = 8
      · subst h8
        have HM : Hid (numsT ⟨8, x2, x3, x4⟩ = [x2, x3, x4]) := rfl
        have HQ : Hid (∀ n ∈ [x2, x3, x4], 0 ≤ n ∧ n ≤ 9999) := by show ∀ n ∈ [x2, x3, x4], 0 ≤ n ∧ n ≤ 9999; rw [← HM.out]; exact HNU.out
        have ht1 := ht0.keep ((Below.refl W.heap.size W).alloc (Nat.le_refl _) (.cells (intV [x2, x3, x4]).toArray 2))
        have B1 := B0.alloc B0.size (.cells (intV [x2, x3, x4]).toArray 2)
        have hc := lineText_any sd hsd3 (wordL 8) HW.out (some ⟨W.heap.size, 0, none⟩) 3 [x2, x3, x4] (by simp) HQ.out (W.alloc (.cells #[.int .i64 x2, .int .i64 x3, .int .i64 x4] 2)) ht1 (litRow W [x2, x3, x4])
        go_wp2_with (go_at_call 23; refine hc.mono ?_; rintro e y ⟨rfl, by1⟩)
        go_ret
        exact ⟨by rw [HL.out, HM.out]; simp only [List.append_assoc]; rfl, B1.trans (by1.mono B1.size)⟩
      · have e8 : (x1 == 8) = false := beq_eq_false_iff_ne.2 h8
        have HM : Hid (numsT ⟨x1, x2, x3, x4⟩ = [x2, x3]) := by show _ = _; rw [HNN.out, if_neg h9, if_neg h4, if_neg h8]
        have HQ : Hid (∀ n ∈ [x2, x3], 0 ≤ n ∧ n ≤ 9999) := by show ∀ n ∈ [x2, x3], 0 ≤ n ∧ n ≤ 9999; rw [← HM.out]; exact HNU.out
        have ht1 := ht0.keep ((Below.refl W.heap.size W).alloc (Nat.le_refl _) (.cells (intV [x2, x3]).toArray 2))
        have B1 := B0.alloc B0.size (.cells (intV [x2, x3]).toArray 2)
        clear h9 h4 h8
        have hc := lineText_any sd hsd3 (wordL x1) HW.out (some ⟨W.heap.size, 0, none⟩) 2 [x2, x3] (by simp) HQ.out (W.alloc (.cells #[.int .i64 x2, .int .i64 x3] 2)) ht1 (litRow W [x2, x3])
        go_wp2_with (go_at_call 23; refine hc.mono ?_; rintro e y ⟨rfl, by1⟩)
        go_ret
        exact ⟨by rw [HL.out, HM.out]; simp only [List.append_assoc]; rfl, B1.trans (by1.mono B1.size)⟩
end Go.Proofs.YtddlccepgeekcaaDoor
