/- The contract of the specification's RecsBytes. -/
import Derived.Test.YtgmdgjkmdnpmiaaRcsP
namespace Go.Proofs.Ytgmdgjkmdnpmiaa
open Go Go.RowKit
set_option linter.unusedVariables false
set_option linter.unusedSimpArgs false

set_option maxHeartbeats 4000000 in
set_option maxRecDepth 100000 in
theorem specRecsB_any (a : Option Addr) (cap : Nat) (l : List RecV) (w : World) (q : Bool) (hq : q = true ↔ recsR l) (hl : l.length ≤ 1048576) (hrow : CellRow w a (cellsOf RecV.cells l)) :
    Calls Try.prog 12 #[.slice a l.length cap] w fun e w' => e = .returned (.string ⟨(recsO l q).toArray⟩) ∧ Below w.heap.size w w' := by
  obtain ⟨i0, hi, hz⟩ := Option.map_eq_some_iff.1 Try.infoByteR
  simp only [Prod.mk.injEq] at hz
  obtain ⟨hz0, hz1, hz2⟩ := hz
  have HQ : Hid (q = true ↔ recsR l) := hq
  clear hq
  have own0 := World.ownsRow_lit (base := w.heap.size) (e := 5) (size := 1) w #[] 0 (Nat.le_refl _) (by simp [maxLen]) rfl
  have B0 := (Below.refl w.heap.size w).alloc (Nat.le_refl _) (.cells #[] 5)
  go_enter Try.func12, Try.ntmps12
  go_wp2_with fail
  go_loopw [4, 3, 5] (fun i v _ wr => ∃ (k : Nat) (t : List UInt8) (tn : Nat), k ≤ l.length ∧ i = .int .i64 k ∧ t.length = tn ∧ tn ≤ 80 * k ∧ wr.ownsRow w.heap.size 5 1 v tn (byVR t) ∧ (t = recsB (l.take k) ∧ (∀ x ∈ l.take k, x.ok) ∧ (400 < l.length → k = 0)) ∧ Below w.heap.size w wr) (fun i _ _ _ => l.length - (intOf i).toNat)
  case atStart => exact ⟨0, [], 0, Nat.zero_le _, rfl, rfl, Nat.le_refl _, own0, ⟨rfl, fun x hx => by simp at hx, fun _ => rfl⟩, B0⟩
  case round =>
    obtain ⟨k, t, tn, hk, rfl, htn, htk, own, hinv, hb⟩ := hrel
    have HI : Hid (t = recsB (l.take k) ∧ (∀ x ∈ l.take k, x.ok) ∧ (400 < l.length → k = 0)) := hinv
    have HTN : Hid (t.length = tn) := htn
    clear own0 B0 hinv htn
    by_cases hk2 : k < l.length ∧ l.length ≤ 400
    · obtain ⟨hk2, h400⟩ := hk2
      obtain ⟨b, off, rfl⟩ := hrow.addr (by rw [cellsOf_length RecV.cells_len]; omega)
      obtain ⟨x1, x2, x3, x4, x5, x6, hlx⟩ : ∃ x1 x2 x3 x4 x5 x6, l[k] = ⟨x1, x2, x3, x4, x5, x6⟩ := ⟨_, _, _, _, _, _, rfl⟩
      have hrow2 := hrow.keep hb
      have q0 := hrow2.thing0 RecV.cells_len (i := k) (v := .int .i64 x1) hk2 (by omega) (by rw [hlx]; rfl)
      have q1 := hrow2.thingj RecV.cells_len (i := k) (j := 1) (v := .int .i64 x2) hk2 (by omega) (by rw [hlx]; rfl)
      have q2 := hrow2.thingj RecV.cells_len (i := k) (j := 2) (v := .int .i64 x3) hk2 (by omega) (by rw [hlx]; rfl)
      have q3 := hrow2.thingj RecV.cells_len (i := k) (j := 3) (v := .int .i64 x4) hk2 (by omega) (by rw [hlx]; rfl)
      have q4 := hrow2.thingj RecV.cells_len (i := k) (j := 4) (v := .int .i64 x5) hk2 (by omega) (by rw [hlx]; rfl)
      have q5 := hrow2.thingj RecV.cells_len (i := k) (j := 5) (v := .int .i64 x6) hk2 (by omega) (by rw [hlx]; rfl)
      have HL : Hid (l[k] = ⟨x1, x2, x3, x4, x5, x6⟩) := hlx
      obtain ⟨r, hr⟩ := tells_bool (RecV.ok ⟨x1, x2, x3, x4, x5, x6⟩)
      have HR : Hid (r = true ↔ RecV.ok ⟨x1, x2, x3, x4, x5, x6⟩) := hr
      have hk' : (k : Int) < (l.length : Int) := by omega
      have h400' : (l.length : Int) ≤ 400 := by omega
      clear hr hlx hrow2
      go_wp2_with fail
      refine (specRecB_any ⟨x1, x2, x3, x4, x5, x6⟩ _ r HR.out).mono ?_
      rintro e z ⟨rfl, bz⟩
      have own1 := rowBelowR own bz
      have hb1 := hb.trans (bz.mono hb.size)
      clear own bz hb q0 q1 q2 q3 q4 q5
      cases r with
      | false =>
        have HF : Hid (q = false) := by
          cases q with
          | false => rfl
          | true =>
            have h := (HQ.out.1 rfl).2 l[k] (List.getElem_mem hk2)
            rw [HL.out] at h
            have := HR.out.2 h
            cases this
        clear own1
        have e0 : RecV.out ⟨x1, x2, x3, x4, x5, x6⟩ false = [] := rfl
        rw [e0]
        go_wp2
        go_ret
        exact ⟨by rw [HF.out]; rfl, hb1⟩
      | true =>
        obtain ⟨s, hs⟩ : ∃ s, RecV.bytes ⟨x1, x2, x3, x4, x5, x6⟩ = s := ⟨_, rfl⟩
        have hpos := RecV.bytes_pos ⟨x1, x2, x3, x4, x5, x6⟩
        have hlen := RecV.bytes_len ⟨x1, x2, x3, x4, x5, x6⟩
        have e0 : RecV.out ⟨x1, x2, x3, x4, x5, x6⟩ true = s := hs
        rw [hs] at hpos hlen
        have HS : Hid (RecV.bytes ⟨x1, x2, x3, x4, x5, x6⟩ = s) := hs
        rw [e0]
        clear e0 hs
        obtain ⟨c, s', rfl⟩ : ∃ c s', s = c :: s' := by
          cases s with
          | nil => simp at hpos
          | cons c s' => exact ⟨c, s', rfl⟩
        have HO : Hid (RecV.ok ⟨x1, x2, x3, x4, x5, x6⟩) := show RecV.ok ⟨x1, x2, x3, x4, x5, x6⟩ from by simpa using HR.out
        clear hpos
        go_wp2_with (at_builtin; refine Lib.wpList_append_own_string _ rfl _ _ 44 9 rfl w.heap.size 5 i0 Try.underlying44 Try.underlying9 hi hz0 hz1 hz2 _ tn (byVR t) rfl own1 ⟨(c :: s').toArray⟩ rfl ?c2 ?c3 hb1.size ?_)
        case c2 => rw [size_mkB]; unfold maxLen; omega
        case c3 => rw [size_mkB]; omega
        intro v' w2 own2 hg _
        have hb2 : Below w.heap.size w w2 := hb1.grown hg hb1.size (fun g hgg => (own1.lt g hgg).1)
        rw [strCells_ofR, ← byVR_append] at own2
        have HJ : Hid (t ++ (c :: s') = recsB (l.take (k + 1)) ∧ (∀ x ∈ l.take (k + 1), x.ok) ∧ (400 < l.length → k + 1 = 0)) := by
          refine ⟨?_, ?_, fun h => by omega⟩
          · rw [recsB_take hk2 HL.out, ← HI.out.1, HS.out]
          · intro x hx
            rw [List.take_succ_eq_append_getElem hk2, List.mem_append, HL.out] at hx
            rcases hx with hx | hx
            · exact HI.out.2.1 x hx
            · simp only [List.mem_singleton] at hx
              rw [hx]; exact HO.out
        have HL2 : Hid ((t ++ (c :: s')).length = tn + (s'.length + 1)) := by show _ = _; rw [List.length_append, HTN.out]; rfl
        clear hg own1 hb1 HI HS HR HL HO
        obtain ⟨T, hT⟩ : ∃ T, t ++ (c :: s') = T := ⟨_, rfl⟩
        obtain ⟨TN, hTN⟩ : ∃ n, tn + (s'.length + 1) = n := ⟨_, rfl⟩
        have hlen3 : s'.length + 1 ≤ 80 := by simpa using hlen
        rw [hT, hTN] at own2
        rw [hT] at HJ
        rw [hT, hTN] at HL2
        have hTN2 : TN ≤ 80 * (k + 1) := by omega
        clear hT hTN hlen hlen3 htk
        go_wp2
        go_roundw
        case rel => exact ⟨k + 1, T, TN, by omega, by go_num, HL2.out, hTN2, own2, HJ.out, hb2⟩
        case measure => simp [intOf]; omega
    · have HE : Hid (recsO l q = if 8000 < (tn : Int) then [] else t) := by
        show _ = _
        by_cases h4 : l.length ≤ 400
        · have e : k = l.length := by omega
          have h1 := HI.out.1
          have h2 := HI.out.2.1
          rw [e, List.take_length] at h1 h2
          have : q = true := HQ.out.2 ⟨h4, h2⟩
          subst this
          unfold recsO
          rw [if_pos rfl, ← h1, HTN.out]
        · have e : k = 0 := HI.out.2.2 (by omega)
          have h1 := HI.out.1
          have : q = false := by
            cases q with
            | false => rfl
            | true => exact absurd (HQ.out.1 rfl).1 h4
          subst this
          subst e
          have h3 : tn = 0 := by omega
          rw [h3, h1]
          rfl
      have hcv := conv_ownR own HTN.out
      obtain ⟨va, vc, rfl⟩ := own_lenR own
      have hno : ¬ ((k : Int) < (l.length : Int) ∧ (l.length : Int) ≤ 400) := by omega
      clear HI own hk2
      by_cases h8 : 8000 < (tn : Int)
      · have HF : Hid (recsO l q = []) := by show _ = _; rw [HE.out, if_pos h8]
        clear HE hcv HTN
        by_cases hkl : (k : Int) < (l.length : Int)
        · have h4 : ¬ (l.length : Int) ≤ 400 := fun h => hno ⟨hkl, h⟩
          go_wp2
          go_ret
          exact ⟨by rw [HF.out]; rfl, hb⟩
        · go_wp2
          go_ret
          exact ⟨by rw [HF.out]; rfl, hb⟩
      · have HF : Hid (recsO l q = t) := by show _ = _; rw [HE.out, if_neg h8]
        clear HE HTN
        by_cases hkl : (k : Int) < (l.length : Int)
        · have h4 : ¬ (l.length : Int) ≤ 400 := fun h => hno ⟨hkl, h⟩
          go_wp2
          go_ret
          exact ⟨by rw [HF.out]; rfl, hb⟩
        · go_wp2
          go_ret
          exact ⟨by rw [HF.out]; rfl, hb⟩
end Go.Proofs.Ytgmdgjkmdnpmiaa
