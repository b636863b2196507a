/- The contract of the program's toldOnceMore: a map of what is sent, more of what is told, and what is left. -/
import Derived.Test.YtenefjnahanfbaaRMap
namespace Go.Proofs.Ytenefjnahanfbaa
open Go Go.RowKit Go.Maps
set_option linter.unusedVariables false
set_option linter.unusedSimpArgs false

theorem toldR_snoc {l P : List RumV} {x : RumV} : toldR (l ++ [x]) P = toldR l P ++ (toldS P x).toList := by
  unfold toldR
  rw [List.filterMap_append]
  cases h : toldS P x <;> simp [h]
theorem SentIs.grown {w w' : World} {b n : Nat} {S : Int → Option Int} {row : Option Nat} (h : SentIs w b n S) (hg : w.grownBy w' row) (hne : some b ≠ row) : SentIs w' b n S := h.block (hg.block b h.lt hne)
set_option maxHeartbeats 4000000 in
set_option maxRecDepth 100000 in
theorem told_any (a : Option Addr) (cap : Nat) (l : List RumV) (a1 : Option Addr) (cap1 : Nat) (P : List RumV) (w : World) (hr : rightR l) (hP : rightR P) (hsub : ∀ x ∈ P, x ∈ l) (hrow : CellRow w a (cellsOf RumV.cells l)) (hrow1 : CellRow w a1 (cellsOf FactV.cells (factsR P))) :
    Calls Try.prog 35 #[.slice a l.length cap, .slice a1 (factsR P).length cap1] w fun e w' => ∃ v, e = .returned v ∧ w'.ownsRow w.heap.size 39 4 v (toldR l P).length (cellsOf RumV.cells (toldR l P)) ∧ Below w.heap.size w w' := by
  have hPf : ∀ d ∈ P, d.fact.ok := fun d hd => (hP.1 d hd).1
  have hl6 := rightR_len hr
  have hrv := factsR_right hPf
  have hf6 := rightV_len hrv
  have HR : Hid (rightR l) := hr
  have HP : Hid (rightR P) := hP
  have HS : Hid (∀ x ∈ P, x ∈ l) := hsub
  have HRV : Hid (rightV (factsR P)) := hrv
  have HTM : Hid (∀ x ∈ l, toldS P x = (moreOf l (factsR P) x.node).map fun s => ⟨x.node, x.inc, x.st, s⟩) := fun x hx => told_more hPf hP.2 hr.2 hx
  have HFS : Hid (∀ f ∈ factsR P, nodeR f.node ∧ ∃ s, sentOf l f.node = some s ∧ 0 ≤ s ∧ s ≤ 3) := fun f hf => by
    obtain ⟨y, hy, rfl⟩ := facts_rum hPf hP.2 hf
    have hyl := hsub y hy
    exact ⟨(hPf y hy).1, y.sent, sentOf_mem hr.2 hyl, (hr.1 y hyl).2.1, (hr.1 y hyl).2.2⟩
  have M0 := sentIs_made w
  have B0 := (Below.refl w.heap.size w).alloc (Nat.le_refl _) (.map #[] 0)
  obtain ⟨W, hW⟩ : ∃ W, w.alloc (.map #[] 0) = W := ⟨_, rfl⟩
  rw [hW] at M0 B0
  have HW : Hid (_ = W) := hW
  obtain ⟨fs, hfs⟩ : ∃ fs, factsR P = fs := ⟨_, rfl⟩
  rw [hfs] at hrow1 hf6 HRV HTM HFS ⊢
  clear hW hr hP hsub hPf hrv hfs
  go_enter Try.func35, Try.ntmps35
  have hmm := @run_makeMap Try.prog
  go_upto_region 2 with fail
  rw [HW.out]
  clear HW hmm
  go_wp2
  go_loopw [18] (fun i wr => ∃ k : Nat, k ≤ l.length ∧ i = .int .i64 k ∧ SentIs wr w.heap.size k (sentOf (l.take k)) ∧ Below w.heap.size w wr) (fun i _ => l.length - (intOf i).toNat)
  case atStart => exact ⟨0, Nat.zero_le _, rfl, M0, B0⟩
  case round =>
    obtain ⟨k, hk, rfl, hM, hb⟩ := hrel
    clear M0 B0
    by_cases hx : k < l.length
    · obtain ⟨b, off, rfl⟩ := hrow.addr (by rw [cellsOf_length RumV.cells_len]; omega)
      obtain ⟨x, hlx⟩ : ∃ x, l[k] = x := ⟨_, rfl⟩
      have dm := (hrow.keep hb).rum hx hlx
      have hxl : x ∈ l := by rw [← hlx]; exact List.getElem_mem hx
      have hxo := HR.out.1 x hxl
      have hkI : (k : Int) < (l.length : Int) := by omega
      have HT : Hid (∀ n, updS (sentOf (l.take k)) x.node (some x.sent) n = sentOf (l.take (k + 1)) n) := fun n => by
        rw [List.take_succ_eq_append_getElem hx, hlx]
        refine sentOf_snoc (fun y hy e => ?_) n
        have := (rightR_step hx).1 (rightR_take HR.out (k + 1))
        rw [hlx] at this
        exact this.2.2 y hy e
      obtain ⟨x1, x2, x3, x4⟩ := x
      have hn1 : nodeR x1 := hxo.1.1
      have hs0 : 0 ≤ x4 := hxo.2.1
      have hs3 : x4 ≤ 3 := hxo.2.2
      have b1 : Below wr.heap.size wr (wr.alloc (.cells #[.int .i64 x1, .int .i64 x2, .int .i64 x3, .int .i64 x4] 39)) := (Below.refl _ _).alloc (Nat.le_refl _) _
      have M1 := hM.keep b1
      have B1 := hb.trans (b1.mono hb.size)
      obtain ⟨Y, hY⟩ : ∃ Y, wr.alloc (.cells #[.int .i64 x1, .int .i64 x2, .int .i64 x3, .int .i64 x4] 39) = Y := ⟨_, rfl⟩
      have P1 := BlkIs.new wr 39 #[.int .i64 x1, .int .i64 x2, .int .i64 x3, .int .i64 x4]
      rw [hY] at M1 B1 P1
      have HY : Hid (_ = Y) := hY
      obtain ⟨w2, hrun, M2, g2⟩ := M1.put hn1 (by omega) (show -1000 ≤ x4 by omega) (show x4 ≤ 1000 by omega)
      have M3 := M2.same (fun n _ => HT.out n)
      have B2 := B1.grown g2 B1.size (fun g e => by obtain rfl := Option.some.inj e; exact Nat.le_refl _)
      have q0 : Y.cell? ⟨wr.heap.size, 0, none⟩ = some (.int .i64 x1) := P1.cell 0
      have q3 : Y.cell? ⟨wr.heap.size, 3, none⟩ = some (.int .i64 x4) := P1.cell 3
      obtain ⟨_, c0, c1, c2, c3⟩ := dm
      dsimp only at c0 c1 c2 c3
      clear hlx hxl hxo b1 M1 hM hb hY P1 M2 g2 HT hn1 B1
      go_upto_region 5 with fail
      rw [HY.out]
      clear HY c0 c1 c2 c3
      go_wp2
      go_roundw
      case rel => exact ⟨k + 1, by omega, by go_num, M3, B2⟩
      case measure => simp [intOf]; omega
    · obtain rfl : k = l.length := by omega
      rw [List.take_length] at hM
      have M0 := hM.same (fun n _ => (moreOf_nil l n).symm)
      clear hM
      go_wp2
      go_loopw [31] (fun i wr => ∃ k n : Nat, k ≤ fs.length ∧ i = .int .i64 k ∧ n ≤ l.length + k ∧ SentIs wr w.heap.size n (moreOf l (fs.take k)) ∧ Below w.heap.size w wr) (fun i _ => fs.length - (intOf i).toNat)
      case atStart => exact ⟨0, l.length, Nat.zero_le _, rfl, by omega, M0, hb⟩
      case round =>
        obtain ⟨k, n, hk, rfl, hnk, hM, hb⟩ := hrel
        clear M0
        by_cases hx : k < fs.length
        · obtain ⟨b, off, rfl⟩ := hrow1.addr (by rw [cellsOf_length FactV.cells_len]; omega)
          obtain ⟨x, hlx⟩ : ∃ x, fs[k] = x := ⟨_, rfl⟩
          have dm := (hrow1.keep hb).fact hx hlx
          have hxl : x ∈ fs := by rw [← hlx]; exact List.getElem_mem hx
          obtain ⟨hn1, s, hs, hs0, hs3⟩ := HFS.out x hxl
          have hno : x.node ∉ (fs.take k).map FactV.node := fun h => by
            obtain ⟨y, hy, e⟩ := List.mem_map.1 h
            obtain ⟨j, hj, rfl⟩ := List.getElem_of_mem hy
            rw [List.length_take] at hj
            rw [List.getElem_take] at e
            have := rise_at (rightV_rise HRV.out) (show j < k by omega) hx
            rw [hlx] at this
            omega
          have hkI : (k : Int) < (fs.length : Int) := by omega
          have HT : Hid (∀ n, updS (moreOf l (fs.take k)) x.node (if s = 3 then none else some (s + 1)) n = moreOf l (fs.take (k + 1)) n) := fun n => by
            rw [List.take_succ_eq_append_getElem hx, hlx]
            exact moreOf_snoc hs n
          have hlook : moreOf l (fs.take k) x.node = some s := by rw [moreOf_not hno, hs]
          obtain ⟨x1, x2, x3⟩ := x
          have b1 : Below wr.heap.size wr (wr.alloc (.cells #[.int .i64 x1, .int .i64 x2, .int .i64 x3] 25)) := (Below.refl _ _).alloc (Nat.le_refl _) _
          have M1 := hM.keep b1
          have B1 := hb.trans (b1.mono hb.size)
          obtain ⟨Y, hY⟩ : ∃ Y, wr.alloc (.cells #[.int .i64 x1, .int .i64 x2, .int .i64 x3] 25) = Y := ⟨_, rfl⟩
          have P1 := BlkIs.new wr 25 #[.int .i64 x1, .int .i64 x2, .int .i64 x3]
          rw [hY] at M1 B1 P1
          have HY : Hid (_ = Y) := hY
          have hl1 := M1.look hn1
          dsimp only at hlook
          rw [hlook] at hl1
          simp only [Option.getD_some] at hl1
          obtain ⟨w2, hrun, M2, g2⟩ := M1.put hn1 (by omega) (show -1000 ≤ s + 1 by omega) (show s + 1 ≤ 1000 by omega)
          have hl2 := M2.look hn1
          have hu : updS (moreOf l (fs.take k)) x1 (some (s + 1)) x1 = some (s + 1) := by unfold updS; rw [if_pos rfl]
          dsimp only at hl2
          rw [hu] at hl2
          simp only [Option.getD_some] at hl2
          have hgb : ∀ g, (some w.heap.size : Option Nat) = some g → w.heap.size ≤ g := fun g e => by obtain rfl := Option.some.inj e; exact Nat.le_refl _
          have B2 := B1.grown g2 B1.size hgb
          have P2 : BlkIs w2 wr.heap.size 25 #[.int .i64 x1, .int .i64 x2, .int .i64 x3] := (g2.block _ P1.lt (fun e => by have := hM.lt; have := Option.some.inj e; omega)).trans P1
          have hws : IntKind.i64.wrap (s + 1) = s + 1 := by rw [IntKind.wrap_i64]; omega
          have q0 : Y.cell? ⟨wr.heap.size, 0, none⟩ = some (.int .i64 x1) := P1.cell 0
          have r0 : w2.cell? ⟨wr.heap.size, 0, none⟩ = some (.int .i64 x1) := P2.cell 0
          obtain ⟨_, c0, c1, c2⟩ := dm
          dsimp only at c0 c1 c2
          have HN : Hid (nodeR x1) := hn1
          clear hlx hxl hno b1 M1 hM hb hY P1 hlook hu B1 hs hn1
          by_cases e3 : s = 3
          · subst e3
            rw [show (3 : Int) + 1 = 4 from rfl] at hrun hl2
            have M2' : SentIs w2 w.heap.size (n + 1) (updS (moreOf l (fs.take k)) x1 (some (3 + 1))) := M2
            obtain ⟨w3, hdel, M3, g3⟩ := M2'.del HN.out 0
            have M4 := M3.same (S' := moreOf l (fs.take (k + 1))) (fun q hq => by rw [← HT.out q]; unfold updS; by_cases e : q = x1 <;> simp [e])
            have B3 := B2.grown g3 B2.size hgb
            clear M2 M2' M3 g3 g2 HT P2
            go_upto_region 10 with fail
            rw [HY.out]
            clear HY c0 c1 c2
            go_wp2
            go_roundw
            case rel => exact ⟨k + 1, n + 1, by omega, by go_num, by omega, M4, B3⟩
            case measure => simp [intOf]; omega
          · have M4 := M2.same (S' := moreOf l (fs.take (k + 1))) (fun q hq => by rw [← HT.out q]; unfold updS; by_cases e : q = x1 <;> simp [e, e3])
            have e4 : ¬ s + 1 = 4 := by omega
            have e4' : (s + 1 == 4) = false := beq_eq_false_iff_ne.2 e4
            clear M2 g2 HT P2
            go_upto_region 10 with fail
            rw [HY.out]
            clear HY c0 c1 c2
            go_wp2
            go_roundw
            case rel => exact ⟨k + 1, n + 1, by omega, by go_num, by omega, M4, B2⟩
            case measure => simp [intOf]; omega
        · obtain rfl : k = fs.length := by omega
          rw [List.take_length] at hM
          go_wp2
          go_loopw [51, 10] (fun i v wr => ∃ k : Nat, k ≤ l.length ∧ i = .int .i64 k ∧ SentIs wr w.heap.size n (moreOf l fs) ∧ wr.ownsRow w.heap.size 39 4 v (toldR (l.take k) P).length (cellsOf RumV.cells (toldR (l.take k) P)) ∧ Below w.heap.size w wr) (fun i _ _ => l.length - (intOf i).toNat)
          case atStart => exact ⟨0, Nat.zero_le _, rfl, hM, ownsNilR _ _, hb⟩
          case round =>
            obtain ⟨j, hj, rfl, hM2, hown, hb2⟩ := hrel
            clear hM hb
            by_cases hx : j < l.length
            · obtain ⟨b, off, rfl⟩ := hrow.addr (by rw [cellsOf_length RumV.cells_len]; omega)
              obtain ⟨x, hlx⟩ : ∃ x, l[j] = x := ⟨_, rfl⟩
              have dm := (hrow.keep hb2).rum hx hlx
              have hxl : x ∈ l := by rw [← hlx]; exact List.getElem_mem hx
              have hxo := HR.out.1 x hxl
              have hjI : (j : Int) < (l.length : Int) := by omega
              have htm := HTM.out x hxl
              have HT : Hid (toldR (l.take (j + 1)) P = toldR (l.take j) P ++ (toldS P x).toList) := by show _ = _; rw [List.take_succ_eq_append_getElem hx, hlx, toldR_snoc]
              have htl : (toldR (l.take j) P).length ≤ 6 := by have := toldR_len (l.take j) P; rw [List.length_take] at this; omega
              obtain ⟨x1, x2, x3, x4⟩ := x
              have hn1 : nodeR x1 := hxo.1.1
              have b1 : Below wr.heap.size wr (wr.alloc (.cells #[.int .i64 x1, .int .i64 x2, .int .i64 x3, .int .i64 x4] 39)) := (Below.refl _ _).alloc (Nat.le_refl _) _
              have M1 := hM2.keep b1
              have B1 := hb2.trans (b1.mono hb2.size)
              have O1 := rowBelow hown b1
              have P1 := BlkIs.new wr 39 #[.int .i64 x1, .int .i64 x2, .int .i64 x3, .int .i64 x4]
              obtain ⟨Y, hY⟩ : ∃ Y, wr.alloc (.cells #[.int .i64 x1, .int .i64 x2, .int .i64 x3, .int .i64 x4] 39) = Y := ⟨_, rfl⟩
              rw [hY] at M1 B1 P1 O1
              have HY : Hid (_ = Y) := hY
              have q0 : Y.cell? ⟨wr.heap.size, 0, none⟩ = some (.int .i64 x1) := P1.cell 0
              have q1 : Y.cell? ⟨wr.heap.size, 1, none⟩ = some (.int .i64 x2) := P1.cell 1
              have q2 : Y.cell? ⟨wr.heap.size, 2, none⟩ = some (.int .i64 x3) := P1.cell 2
              have hl1 := M1.lookOk hn1
              dsimp only at htm
              obtain ⟨_, c0, c1, c2, c3⟩ := dm
              dsimp only at c0 c1 c2 c3
              cases hm : moreOf l fs x1 with
              | none =>
                rw [hm] at hl1 htm
                simp only [Option.getD_none, Option.isSome_none, Option.map_none] at hl1 htm
                have ho : Y.ownsRow w.heap.size 39 4 u10 (toldR (l.take (j + 1)) P).length (cellsOf RumV.cells (toldR (l.take (j + 1)) P)) := by rw [HT.out, htm]; simpa using O1
                clear hlx hxl hxo b1 hM2 hown hb2 hY P1 O1 hm htm HT hn1
                go_upto_region 18 with fail
                rw [HY.out]
                clear HY c0 c1 c2 c3
                go_wp2
                go_roundw
                case rel => exact ⟨j + 1, by omega, by go_num, M1, ho, B1⟩
                case measure => simp [intOf]; omega
              | some s =>
                rw [hm] at hl1 htm
                simp only [Option.getD_some, Option.isSome_some, Option.map_some] at hl1 htm
                have HE : Hid (toldR (l.take (j + 1)) P = toldR (l.take j) P ++ [⟨x1, x2, x3, s⟩]) := by show _ = _; rw [HT.out, htm]; rfl
                have hn2 := oneRowR Y ⟨x1, x2, x3, s⟩
                have bA : Below Y.heap.size Y (Y.alloc (.cells #[.int .i64 x1, .int .i64 x2, .int .i64 x3, .int .i64 s] 39)) := (Below.refl _ _).alloc (Nat.le_refl _) _
                have O2 := rowBelow O1 bA
                have M2 := M1.keep bA
                have B2 := B1.trans (bA.mono B1.size)
                have hbz := B2.size
                clear hlx hxl hxo b1 hM2 hown hb2 hY P1 O1 hm htm HT hn1 bA M1 B1
                go_upto_region 18 with fail
                rw [HY.out]
                clear HY c0 c1 c2 c3
                go_wp2_with (at_builtin; refine append_rumsL rfl rfl _ _ rfl w.heap.size _ _ _ rfl O2 ⟨Y.heap.size, 0, none⟩ 1 1 [⟨x1, x2, x3, s⟩] rfl rfl hn2 (by omega) hbz ?_)
                intro v' w2 own2 gr2 _
                have B3 : Below w.heap.size w w2 := B2.grown gr2 hbz (fun g hg => (O2.lt g hg).1)
                have M3 := M2.grown gr2 (fun e => M2.not_row O2 e.symm)
                have ho : w2.ownsRow w.heap.size 39 4 v' (toldR (l.take (j + 1)) P).length (cellsOf RumV.cells (toldR (l.take (j + 1)) P)) := by
                  rw [HE.out, cellsOf_append, List.length_append]; exact own2
                clear own2 gr2 O2 B2 hbz hn2 q0 q1 q2 HE M2 hl1
                go_wp2
                go_roundw
                case rel => exact ⟨j + 1, by omega, by go_num, M3, ho, B3⟩
                case measure => simp [intOf]; omega
            · obtain rfl : j = l.length := by omega
              rw [List.take_length] at hown
              go_wp2
              go_ret
              exact ⟨_, rfl, hown, hb2⟩
end Go.Proofs.Ytenefjnahanfbaa
