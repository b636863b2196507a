/- The contract of the program's PlanText. -/
import Derived.Test.YtddlccepgeekcaaDoorTxI
import Derived.Test.YtddlccepgeekcaaDoorJoinedG
import Derived.Test.YtddlccepgeekcaaDoorPRight
namespace Go.Proofs.YtddlccepgeekcaaDoor
open Go Go.RowKit
set_option linter.unusedVariables false
set_option linter.unusedSimpArgs false

set_option maxHeartbeats 4000000 in
set_option maxRecDepth 100000 in
theorem implPText_any (a : Option Addr) (cap : Nat) (l : List ItemV) (t : List UInt8) (hT : TextIs l t) (w : World) (hl : l.length ≤ 1048576) (ht : Tab w) (hrow : CellRow w a (cellsOf ItemV.cells l)) :
    Calls Tryd.prog 7 #[.slice a l.length cap] w fun e w' => e = .returned (.string ⟨t.toArray⟩) ∧ Below w.heap.size w w' := by
  have HT : Hid (TextIs l t) := hT
  obtain ⟨r, hr⟩ := tells_bool (planR l)
  have HR : Hid (r = true ↔ planR l) := hr
  clear hT hr
  go_enter Tryd.func7, Tryd.ntmps7
  go_wp2_with fail
  refine (implPRight_is a cap l _ r HR.out hl hrow).mono ?_
  rintro e X ⟨rfl, bx⟩
  cases r with
  | false =>
    have HZ : Hid (t = []) := by
      rcases HT.out with ⟨h, _⟩ | ⟨_, h⟩
      · have := HR.out.2 h; cases this
      · exact h
    clear HT HR
    go_wp2
    go_ret
    exact ⟨by rw [HZ.out]; rfl, bx⟩
  | true =>
    have hp : planR l := HR.out.1 rfl
    have HZ : Hid (t = textFrom 0 l) := by
      rcases HT.out with ⟨_, h⟩ | ⟨h, _⟩
      · exact h
      · exact absurd hp h
    have hl40 : l.length ≤ 40 := hp.1
    have HP : Hid (TextAt l 0 0 []) := TextAt.zero hp.2
    have own0 : X.ownsRow w.heap.size 9 1 (.slice none 0 0) 0 (strV []) := ⟨rfl, .inl ⟨rfl, rfl⟩⟩
    clear hp HT HR
    go_wp2_with fail
    go_loopw [13, 3, 4] (fun i v dv wr => ∃ (k : Nat) (d : Int) (ps : List ByteArray) (np : Nat), k ≤ l.length ∧ i = .int .i64 k ∧ dv = .int .i64 d ∧ ps.length = np ∧ np ≤ k ∧ wr.ownsRow w.heap.size 9 1 v np (strV ps) ∧ TextAt l k d (cat ps) ∧ Below w.heap.size w wr) (fun i _ _ _ => l.length - (intOf i).toNat)
    case atStart => exact ⟨0, 0, [], 0, Nat.zero_le _, rfl, rfl, rfl, Nat.le_refl _, own0, HP.out, bx⟩
    case round =>
      obtain ⟨k, d, ps, np, hk, rfl, rfl, hps, hnp, own, hta, hb⟩ := hrel
      have HA : Hid (TextAt l k d (cat ps)) := hta
      have HPS : Hid (ps.length = np) := hps
      have hd0 := hta.lo
      have hd3 := hta.hi
      have htr := ht.keep hb
      clear own0 bx hta hps HP
      by_cases hk2 : k < l.length
      · obtain ⟨b, off, rfl⟩ := hrow.addr (by rw [cellsOf_length ItemV.cells_len]; omega)
        obtain ⟨x, hlx⟩ : ∃ x, l[k] = x := ⟨_, rfl⟩
        have d0 := (hrow.keep hb).item hk2 hlx
        obtain ⟨hxo, hs0, hs3, ⟨hn0, hn3⟩, hta2⟩ := HA.out.step hk2 hlx
        have HX : Hid (x.ok) := hxo
        have HS : Hid (0 ≤ x.stand d ∧ x.stand d ≤ 3) := ⟨hs0, hs3⟩
        have HA2 : Hid (TextAt l (k + 1) (x.deep d) (cat ps ++ (lineL x (x.stand d).toNat ++ [10]))) := hta2
        obtain ⟨dn, hdn⟩ : ∃ dn, x.deep d = dn := ⟨_, rfl⟩
        have HDN : Hid (x.deep d = dn) := hdn
        rw [hdn] at hn0 hn3
        obtain ⟨x1, x2, x3, x4⟩ := x
        obtain ⟨_, c0, c1, c2, c3⟩ := d0
        dsimp only at c0 c1 c2 c3
        have hk' : (k : Int) < (l.length : Int) := by omega
        have P1 := BlkIs.new wr 32 #[.int .i64 x1, .int .i64 x2, .int .i64 x3, .int .i64 x4]
        have b1 : Below wr.heap.size wr (wr.alloc (.cells #[.int .i64 x1, .int .i64 x2, .int .i64 x3, .int .i64 x4] 32)) := (Below.refl _ _).alloc (Nat.le_refl _) _
        have own1 := rowBelow own b1
        have ht1 := htr.keep b1
        have hb1 := hb.trans (b1.mono hb.size)
        obtain ⟨Y, hY⟩ : ∃ Y, wr.alloc (.cells #[.int .i64 x1, .int .i64 x2, .int .i64 x3, .int .i64 x4] 32) = Y := ⟨_, rfl⟩
        rw [hY] at P1 own1 ht1 hb1
        have HY : Hid (_ = Y) := hY
        clear hlx hb b1 hY hdn hxo hs0 hs3 hta2 htr own HA
        go_upto_region 8 with fail
        rw [HY.out]
        clear c0 c1 c2 c3 HY
        have p0 : Y.cell? ⟨wr.heap.size, 0, none⟩ = some (.int .i64 x1) := P1.cell 0
        have p1 : Y.cell? ⟨wr.heap.size, 1, none⟩ = some (.int .i64 x2) := P1.cell 1
        have p2 : Y.cell? ⟨wr.heap.size, 2, none⟩ = some (.int .i64 x3) := P1.cell 2
        have p3 : Y.cell? ⟨wr.heap.size, 3, none⟩ = some (.int .i64 x4) := P1.cell 3
        go_wp2_with fail
        refine (openBehind_any ⟨x1, x2, x3, x4⟩ d _ hd0 hd3).mono ?_
        rintro e Z1 ⟨rfl, bz⟩
        rw [HDN.out]
        replace P1 := P1.keep bz
        replace own1 := rowBelow own1 bz
        replace ht1 := ht1.keep bz
        replace hb1 := hb1.trans (bz.mono hb1.size)
        clear p0 p1 p2 p3 bz
        have p0 : Z1.cell? ⟨wr.heap.size, 0, none⟩ = some (.int .i64 x1) := P1.cell 0
        have p1 : Z1.cell? ⟨wr.heap.size, 1, none⟩ = some (.int .i64 x2) := P1.cell 1
        have p2 : Z1.cell? ⟨wr.heap.size, 2, none⟩ = some (.int .i64 x3) := P1.cell 2
        have p3 : Z1.cell? ⟨wr.heap.size, 3, none⟩ = some (.int .i64 x4) := P1.cell 3
        have hc := itemText_any ⟨x1, x2, x3, x4⟩ d hd0 hd3 HX.out HS.out.1 HS.out.2 Z1 ht1
        rw [HDN.out] at hc
        unfold ItemV.val at hc
        obtain ⟨tx, htx⟩ : ∃ q, lineL ⟨x1, x2, x3, x4⟩ (ItemV.stand ⟨x1, x2, x3, x4⟩ d).toNat ++ [10] = q := ⟨_, rfl⟩
        have HA3 : Hid (TextAt l (k + 1) dn (cat (ps ++ [⟨tx.toArray⟩]))) := by
          have h := HA2.out
          rw [HDN.out, htx] at h
          show TextAt _ _ _ _
          rw [cat_append]
          simpa [cat] using h
        dsimp only at hc htx
        rw [htx] at hc
        clear HA2 HX HS HDN htx
        go_wp2_with (first
          | (go_at_call 14; refine hc.mono ?_; rintro e z ⟨rfl, bz⟩; have own2 := rowBelow (rowBelow own1 bz) ((Below.refl z.heap.size z).alloc (Nat.le_refl _) (.cells #[.string ⟨tx.toArray⟩] 9)); have hb2 := (hb1.trans (bz.mono hb1.size)).alloc (Nat.le_trans hb1.size bz.size) (.cells #[.string ⟨tx.toArray⟩] 9))
          | (at_builtin; refine append_strs rfl _ _ rfl w.heap.size _ np (strV ps) rfl own2 z.heap.size 1 [⟨tx.toArray⟩] 1 rfl rfl (BlkIs.new z 9 #[.string ⟨tx.toArray⟩]) (by omega) hb2.size ?_))
        intro v' w2 own3 hg
        have hb3 : Below w.heap.size w w2 := hb2.grown hg (by have := hb2.size; omega) (fun g hgg => (own2.lt g hgg).1)
        rw [← strV_append] at own3
        clear hg own2 hb2 bz own1 hb1 ht1 p0 p1 p2 p3 P1
        go_wp2
        go_roundw
        case rel => exact ⟨k + 1, dn, ps ++ [⟨tx.toArray⟩], np + 1, by omega, by go_num, rfl, by rw [List.length_append, HPS.out]; rfl, by omega, own3, HA3.out, hb3⟩
        case measure => simp [intOf]; omega
      · obtain rfl : k = l.length := by omega
        have HE : Hid (cat ps = t) := by show _ = _; rw [HZ.out]; exact HA.out.done
        have hsz := HA.out.size
        have hadr : 0 < ps.length → ∃ bb cc, u3 = .slice (some ⟨bb, 0, none⟩) ps.length cc ∧ bb < wr.heap.size ∧ ∀ j (hj : j < ps.length), wr.cell? ⟨bb, j, none⟩ = some (.string ps[j]) := fun h => by
          have own' : wr.ownsRow w.heap.size 9 1 u3 ps.length (strV ps) := by rw [HPS.out]; exact own
          obtain ⟨b, c, h1, _, h3, h4⟩ := strs_cell own' h
          exact ⟨b, c, h1, h3, h4⟩
        obtain ⟨aa, bb, cc, hu3, hbb, hcells⟩ : ∃ aa bb cc, u3 = .slice aa ps.length cc ∧ (0 < ps.length → aa = some ⟨bb, 0, none⟩ ∧ bb < wr.heap.size) ∧ ∀ j (hj : j < ps.length), wr.cell? ⟨bb, j, none⟩ = some (.string ps[j]) := by
          by_cases h0 : 0 < ps.length
          · obtain ⟨b, c, h1, h2, h3⟩ := hadr h0
            exact ⟨_, b, c, h1, fun _ => ⟨rfl, h2⟩, h3⟩
          · obtain ⟨sa, sn, sc, hs⟩ := rowShape own
            have h1 : sn = ps.length := by
              rcases own.2 with ⟨hv, hn⟩ | ⟨g, c, cur, hv, _⟩
              · rw [hs] at hv
                simp only [Value.slice.injEq] at hv
                omega
              · rw [hs] at hv
                simp only [Value.slice.injEq] at hv
                have := HPS.out
                omega
            exact ⟨sa, 0, sc, by rw [hs, h1], fun h => absurd h h0, fun j hj => by omega⟩
        subst hu3
        clear hadr own HA
        go_wp2_with fail
        refine (joined_gen ps aa bb cc _ (by have := HPS.out; omega) (by omega) hbb hcells).mono ?_
        rintro e w3 ⟨rfl, b3⟩
        have hb3 := hb.trans (b3.mono hb.size)
        clear hbb hcells hsz
        go_wp2
        go_ret
        exact ⟨by rw [← HE.out]; rfl, hb3⟩
end Go.Proofs.YtddlccepgeekcaaDoor
