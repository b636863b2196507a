/- The contract of the specification's PlanText. -/
import Derived.Test.YtddlccepgeekcaaDoorTxS
import Derived.Test.YtddlccepgeekcaaDoorPRight
import Derived.Lib.AppendStr
import Derived.Laws.OwnMore
namespace Go.Proofs.YtddlccepgeekcaaDoor
open Go Go.RowKit
set_option linter.unusedVariables false
set_option linter.unusedSimpArgs false

def byV (l : List UInt8) : List Value := l.map fun b => Value.int .u8 (b.toNat : Int)
theorem byV_append (l m : List UInt8) : byV (l ++ m) = byV l ++ byV m := by simp [byV]
theorem strCells_of (l : List UInt8) : Lib.strCells ⟨l.toArray⟩ = byV l := by simp [Lib.strCells, byV]
theorem size_of (l : List UInt8) : (⟨l.toArray⟩ : ByteArray).size = l.length := by simp [ByteArray.size]
theorem Tryd.infoByte : (Tryd.prog.info? 5).map (fun i => (i.zero, i.size, i.bytes)) = some (some (.int .u8 0), 1, 1) := by kernel_rfl
/-- string(b), b bytes of one's own. -/
theorem conv_own {w : World} {base : Nat} {v : Value} {n : Nat} {l : List UInt8} (h : w.ownsRow base 5 1 v n (byV l)) (hn : l.length = n) : (convert 30 9 v).run Tryd.prog w = .ok (.string ⟨l.toArray⟩) w := by
  subst hn
  have h' := h
  rcases h.2 with ⟨hv, h0⟩ | ⟨g, cap, cur, hv, hb, hg, hnc, hcm, hcs, ht⟩
  · have hl : l = [] := List.eq_nil_of_length_eq_zero h0
    subst hl hv
    rw [run_convert_bytes_string w 30 9 5 none 0 0 Tryd.underlying30 Tryd.underlying5 Tryd.underlying9]
    rfl
  · subst hv
    refine run_convert_bytes_back (P := Tryd.prog) w 30 9 5 ⟨g, 0, none⟩ cap l Tryd.underlying30 Tryd.underlying5 Tryd.underlying9 (fun j hj => ?_)
    have e : (⟨g, 0, none⟩ : Addr).add j = ⟨g, j, none⟩ := by by_cases e0 : j = 0 <;> simp [Addr.add, e0]
    rw [e, h'.cellAt j (by omega), byV, List.getElem?_map, List.getElem?_eq_getElem hj]
    rfl
set_option maxHeartbeats 4000000 in
set_option maxRecDepth 100000 in
theorem specPText_any (a : Option Addr) (cap : Nat) (l : List ItemV) (t : List UInt8) (hT : TextIs l t) (w : World) (hl : l.length ≤ 1048576) (hrow : CellRow w a (cellsOf ItemV.cells l)) :
    Calls Tryd.prog 5 #[.slice a l.length cap] w fun e w' => e = .returned (.string ⟨t.toArray⟩) ∧ Below w.heap.size w w' := by
  obtain ⟨i0, hi, hz⟩ := Option.map_eq_some_iff.1 Tryd.infoByte
  simp only [Prod.mk.injEq] at hz
  obtain ⟨hz0, hz1, hz2⟩ := hz
  have HT : Hid (TextIs l t) := hT
  obtain ⟨r, hr⟩ := tells_bool (planR l)
  have HR : Hid (r = true ↔ planR l) := hr
  clear hT hr
  go_enter Tryd.func5, Tryd.ntmps5
  go_wp2_with fail
  refine (specPRight_is a cap l _ r HR.out hl hrow).mono ?_
  rintro e X ⟨rfl, bx⟩
  cases r with
  | false =>
    have HZ : Hid (t = []) := by
      rcases HT.out with ⟨h, _⟩ | ⟨_, h⟩
      · have := HR.out.2 h; cases this
      · exact h
    clear HT HR
    go_wp2
    go_ret
    exact ⟨by rw [HZ.out]; rfl, bx⟩
  | true =>
    have hp : planR l := HR.out.1 rfl
    have HZ : Hid (t = textFrom 0 l) := by
      rcases HT.out with ⟨_, h⟩ | ⟨h, _⟩
      · exact h
      · exact absurd hp h
    have hl40 : l.length ≤ 40 := hp.1
    have HP : Hid (TextAt l 0 0 []) := TextAt.zero hp.2
    have own0 := World.ownsRow_lit (base := w.heap.size) (e := 5) (size := 1) X #[] 0 bx.size (by simp [maxLen]) rfl
    have B0 := bx.alloc bx.size (.cells #[] 5)
    clear hp HT HR
    go_wp2_with fail
    go_loopw [5, 3, 4] (fun i v dv wr => ∃ (k : Nat) (d : Int) (t : List UInt8) (tn : Nat), k ≤ l.length ∧ i = .int .i64 k ∧ dv = .int .i64 d ∧ t.length = tn ∧ tn ≤ 100 * k ∧ wr.ownsRow w.heap.size 5 1 v tn (byV t) ∧ TextAt l k d t ∧ Below w.heap.size w wr) (fun i _ _ _ => l.length - (intOf i).toNat)
    case atStart => exact ⟨0, 0, [], 0, Nat.zero_le _, rfl, rfl, rfl, Nat.le_refl _, own0, HP.out, B0⟩
    case round =>
      obtain ⟨k, d, t, tn, hk, rfl, rfl, htn, htk, own, hta, hb⟩ := hrel
      have HA : Hid (TextAt l k d t) := hta
      have HTN : Hid (t.length = tn) := htn
      have hd0 := hta.lo
      have hd3 := hta.hi
      clear own0 B0 bx hta htn HP
      by_cases hk2 : k < l.length
      · obtain ⟨b, off, rfl⟩ := hrow.addr (by rw [cellsOf_length ItemV.cells_len]; omega)
        obtain ⟨x, hlx⟩ : ∃ x, l[k] = x := ⟨_, rfl⟩
        have d0 := (hrow.keep hb).item hk2 hlx
        obtain ⟨hxo, hs0, hs3, _, hta2⟩ := HA.out.step hk2 hlx
        have HX : Hid (x.ok) := hxo
        have HS : Hid (0 ≤ x.stand d ∧ x.stand d ≤ 3) := ⟨hs0, hs3⟩
        have HA2 : Hid (TextAt l (k + 1) (x.deep d) (t ++ (lineL x (x.stand d).toNat ++ [10]))) := hta2
        obtain ⟨x1, x2, x3, x4⟩ := x
        have D0 := d0
        obtain ⟨_, c0, c1, c2, c3⟩ := d0
        dsimp only at c0 c1 c2 c3
        have hk' : (k : Int) < (l.length : Int) := by omega
        clear hxo hs0 hs3 hta2 HA
        by_cases h9 : x1 = 9
        · subst h9
          have hwr : IntKind.i64.wrap (d - 1) = d - 1 := by rw [IntKind.wrap_i64]; omega
          have HST : Hid (ItemV.stand ⟨9, x2, x3, x4⟩ d = d - 1) := (by unfold ItemV.stand; exact if_pos rfl)
          have HDP : Hid (ItemV.deep ⟨9, x2, x3, x4⟩ d = d - 1) := (ItemV.deep_end rfl)
          obtain ⟨sd, hsd⟩ : ∃ s : Nat, d - 1 = (s : Int) := ⟨(d - 1).toNat, by have := HS.out.1; rw [HST.out] at this; omega⟩
          have hsd3 : sd ≤ 3 := by have := HS.out.2; rw [HST.out] at this; omega
          have HLN : Hid (lineL ⟨9, x2, x3, x4⟩ (ItemV.stand ⟨9, x2, x3, x4⟩ d).toNat = lineL ⟨9, x2, x3, x4⟩ sd) := by show _ = _; rw [HST.out, hsd]; rfl
          have hlen := lineL_len HX.out sd hsd3
          have HA3 : Hid (TextAt l (k + 1) (d - 1) (t ++ (lineL ⟨9, x2, x3, x4⟩ sd ++ [10]))) := by have h := HA2.out; rw [HLN.out, HDP.out] at h; exact h
          clear HA2 HS HST HDP HLN
          obtain ⟨ln, hln⟩ : ∃ q, lineL ⟨9, x2, x3, x4⟩ sd = q := ⟨_, rfl⟩
          have hc := l09Line_any ⟨9, x2, x3, x4⟩ sd hsd3 HX.out
          unfold ItemV.val at hc
          dsimp only at hc
          rw [hln] at hlen HA3 hc
          clear HX hln
          have hsz : ¬ 9223372036854775807 < ln.length + 1 := by omega
          go_wp2_with (first
            | (go_at_call 10; refine (hc _).mono ?_; rintro e z ⟨rfl, bz⟩; have own1 := rowBelow own bz; have hb1 := hb.trans (bz.mono hb.size); have q0 := (D0.keep bz).c0; dsimp only at q0)
            | (at_builtin; refine Lib.wpList_append_own_string _ rfl _ _ 30 9 rfl w.heap.size 5 i0 Tryd.underlying30 Tryd.underlying9 hi hz0 hz1 hz2 _ tn (byV t) rfl own1 ⟨(ln ++ [10]).toArray⟩ ?c1 ?c2 ?c3 hb1.size ?_))
          case c1 => exact congrArg Value.string (bytes_both ln [10])
          case c2 => rw [size_of, List.length_append]; simp only [List.length_cons, List.length_nil]; unfold maxLen; omega
          case c3 => rw [size_of, List.length_append]; simp only [List.length_cons, List.length_nil]; omega
          intro v' w2 own2 hg _
          have hb2 : Below w.heap.size w w2 := hb1.grown hg hb1.size (fun g hgg => (own1.lt g hgg).1)
          have q0w : w2.cell? ⟨b, off + k * 4, none⟩ = some (.int .i64 9) := by
            have h := (hrow.keep hb2).item hk2 hlx
            exact h.c0
          rw [strCells_of, ← byV_append] at own2
          clear hg own1 hb1 bz q0 hc
          go_wp2
          go_roundw
          case rel => exact ⟨k + 1, d - 1, t ++ (ln ++ [10]), tn + (ln.length + 1), by omega, by go_num, (by rw [hsd]), by rw [List.length_append, HTN.out, List.length_append]; rfl, by omega, own2, HA3.out, hb2⟩
          case measure => simp [intOf]; omega
        · have e9 : (x1 == 9) = false := beq_eq_false_iff_ne.2 h9
          by_cases h8 : x1 = 8
          · subst h8
            have hwr : IntKind.i64.wrap (d + 1) = d + 1 := by rw [IntKind.wrap_i64]; omega
            have HST : Hid (ItemV.stand ⟨8, x2, x3, x4⟩ d = d) := (by unfold ItemV.stand; exact if_neg (by show ¬ (8 : Int) = 9; omega))
            have HDP : Hid (ItemV.deep ⟨8, x2, x3, x4⟩ d = d + 1) := (ItemV.deep_loop rfl)
            obtain ⟨sd, hsd⟩ : ∃ s : Nat, d = (s : Int) := ⟨(d).toNat, by have := HS.out.1; rw [HST.out] at this; omega⟩
            have hsd3 : sd ≤ 3 := by have := HS.out.2; rw [HST.out] at this; omega
            have HLN : Hid (lineL ⟨8, x2, x3, x4⟩ (ItemV.stand ⟨8, x2, x3, x4⟩ d).toNat = lineL ⟨8, x2, x3, x4⟩ sd) := by show _ = _; rw [HST.out, hsd]; rfl
            have hlen := lineL_len HX.out sd hsd3
            have HA3 : Hid (TextAt l (k + 1) (d + 1) (t ++ (lineL ⟨8, x2, x3, x4⟩ sd ++ [10]))) := by have h := HA2.out; rw [HLN.out, HDP.out] at h; exact h
            clear HA2 HS HST HDP HLN
            obtain ⟨ln, hln⟩ : ∃ q, lineL ⟨8, x2, x3, x4⟩ sd = q := ⟨_, rfl⟩
            have hc := l09Line_any ⟨8, x2, x3, x4⟩ sd hsd3 HX.out
            unfold ItemV.val at hc
            dsimp only at hc
            rw [hln] at hlen HA3 hc
            clear HX hln
            have hsz : ¬ 9223372036854775807 < ln.length + 1 := by omega
            go_wp2_with (first
              | (go_at_call 10; refine (hc _).mono ?_; rintro e z ⟨rfl, bz⟩; have own1 := rowBelow own bz; have hb1 := hb.trans (bz.mono hb.size); have q0 := (D0.keep bz).c0; dsimp only at q0)
              | (at_builtin; refine Lib.wpList_append_own_string _ rfl _ _ 30 9 rfl w.heap.size 5 i0 Tryd.underlying30 Tryd.underlying9 hi hz0 hz1 hz2 _ tn (byV t) rfl own1 ⟨(ln ++ [10]).toArray⟩ ?c1 ?c2 ?c3 hb1.size ?_))
            case c1 => exact congrArg Value.string (bytes_both ln [10])
            case c2 => rw [size_of, List.length_append]; simp only [List.length_cons, List.length_nil]; unfold maxLen; omega
            case c3 => rw [size_of, List.length_append]; simp only [List.length_cons, List.length_nil]; omega
            intro v' w2 own2 hg _
            have hb2 : Below w.heap.size w w2 := hb1.grown hg hb1.size (fun g hgg => (own1.lt g hgg).1)
            have q0w : w2.cell? ⟨b, off + k * 4, none⟩ = some (.int .i64 8) := by
              have h := (hrow.keep hb2).item hk2 hlx
              exact h.c0
            rw [strCells_of, ← byV_append] at own2
            clear hg own1 hb1 bz q0 hc
            go_wp2
            go_roundw
            case rel => exact ⟨k + 1, d + 1, t ++ (ln ++ [10]), tn + (ln.length + 1), by omega, by go_num, (by rw [hsd]), by rw [List.length_append, HTN.out, List.length_append]; rfl, by omega, own2, HA3.out, hb2⟩
            case measure => simp [intOf]; omega
          · have e8 : (x1 == 8) = false := beq_eq_false_iff_ne.2 h8
            have HST : Hid (ItemV.stand ⟨x1, x2, x3, x4⟩ d = d) := (by unfold ItemV.stand; exact if_neg h9)
            have HDP : Hid (ItemV.deep ⟨x1, x2, x3, x4⟩ d = d) := (ItemV.deep_same h8 h9)
            clear h8 h9
            obtain ⟨sd, hsd⟩ : ∃ s : Nat, d = (s : Int) := ⟨(d).toNat, by have := HS.out.1; rw [HST.out] at this; omega⟩
            have hsd3 : sd ≤ 3 := by have := HS.out.2; rw [HST.out] at this; omega
            have HLN : Hid (lineL ⟨x1, x2, x3, x4⟩ (ItemV.stand ⟨x1, x2, x3, x4⟩ d).toNat = lineL ⟨x1, x2, x3, x4⟩ sd) := by show _ = _; rw [HST.out, hsd]; rfl
            have hlen := lineL_len HX.out sd hsd3
            have HA3 : Hid (TextAt l (k + 1) (d) (t ++ (lineL ⟨x1, x2, x3, x4⟩ sd ++ [10]))) := by have h := HA2.out; rw [HLN.out, HDP.out] at h; exact h
            clear HA2 HS HST HDP HLN
            obtain ⟨ln, hln⟩ : ∃ q, lineL ⟨x1, x2, x3, x4⟩ sd = q := ⟨_, rfl⟩
            have hc := l09Line_any ⟨x1, x2, x3, x4⟩ sd hsd3 HX.out
            unfold ItemV.val at hc
            dsimp only at hc
            rw [hln] at hlen HA3 hc
            clear HX hln
            have hsz : ¬ 9223372036854775807 < ln.length + 1 := by omega
            go_wp2_with (first
              | (go_at_call 10; refine (hc _).mono ?_; rintro e z ⟨rfl, bz⟩; have own1 := rowBelow own bz; have hb1 := hb.trans (bz.mono hb.size); have q0 := (D0.keep bz).c0; dsimp only at q0)
              | (at_builtin; refine Lib.wpList_append_own_string _ rfl _ _ 30 9 rfl w.heap.size 5 i0 Tryd.underlying30 Tryd.underlying9 hi hz0 hz1 hz2 _ tn (byV t) rfl own1 ⟨(ln ++ [10]).toArray⟩ ?c1 ?c2 ?c3 hb1.size ?_))
            case c1 => exact congrArg Value.string (bytes_both ln [10])
            case c2 => rw [size_of, List.length_append]; simp only [List.length_cons, List.length_nil]; unfold maxLen; omega
            case c3 => rw [size_of, List.length_append]; simp only [List.length_cons, List.length_nil]; omega
            intro v' w2 own2 hg _
            have hb2 : Below w.heap.size w w2 := hb1.grown hg hb1.size (fun g hgg => (own1.lt g hgg).1)
            have q0w : w2.cell? ⟨b, off + k * 4, none⟩ = some (.int .i64 x1) := by
              have h := (hrow.keep hb2).item hk2 hlx
              exact h.c0
            rw [strCells_of, ← byV_append] at own2
            clear hg own1 hb1 bz q0 hc
            go_wp2
            go_roundw
            case rel => exact ⟨k + 1, d, t ++ (ln ++ [10]), tn + (ln.length + 1), by omega, by go_num, (by rw [hsd]), by rw [List.length_append, HTN.out, List.length_append]; rfl, by omega, own2, HA3.out, hb2⟩
            case measure => simp [intOf]; omega
      · obtain rfl : k = l.length := by omega
        have HE : Hid (t = textFrom 0 l) := HA.out.done
        have hcv := conv_own own HTN.out
        clear HA own
        go_wp2
        go_ret
        exact ⟨by rw [HZ.out, ← HE.out]; rfl, hb⟩
end Go.Proofs.YtddlccepgeekcaaDoor
