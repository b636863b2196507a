/- A mail of the draws. -/
import Derived.Test.YtpjdkgcdkfmkiaaDoorFView
import Derived.Test.YtpjdkgcdkfmkiaaDoorG21
import Derived.Test.YtpjdkgcdkfmkiaaDoorMailOf
import Derived.Deep.DeepCutAuto
import Derived.Deep.CutBlock
namespace Go.Proofs.YtpjdkgcdkfmkiaaDoor
open Go Go.RowKit
set_option linter.unusedVariables false
set_option linter.unusedSimpArgs false

/-- A row of facts to read, in a block from lo on. -/
def RowAt (w : World) (lo : Nat) (p : Option Addr) (l : List FactV) : Prop := ∃ g, p = some ⟨g, 0, none⟩ ∧ lo ≤ g ∧ g < w.heap.size ∧ CellRow w p (cellsOf FactV.cells l)
theorem CellRow.keepG {w w' : World} {g off : Nat} {cs : List Value} (h : CellRow w (some ⟨g, off, none⟩) cs) {G : Nat → Prop} (k : Keeps G w w') (hg : G g) : CellRow w' (some ⟨g, off, none⟩) cs := by
  rcases h with h | ⟨b, o, e, hlt, hc⟩
  · exact .inl h
  · simp only [Option.some.injEq, Addr.mk.injEq, and_true] at e
    obtain ⟨rfl, rfl⟩ := e
    exact .inr ⟨g, off, rfl, Nat.lt_of_lt_of_le hlt k.size, fun i hi => (k.cell (p := ⟨g, off + i, none⟩) hlt hg).trans (hc i hi)⟩
theorem RowAt.keepK {w w' : World} {lo : Nat} {p : Option Addr} {l : List FactV} (h : RowAt w lo p l) {G : Nat → Prop} (k : Keeps G w w') (hg : ∀ q, lo ≤ q → G q) : RowAt w' lo p l := by
  obtain ⟨g, rfl, h1, h2, h3⟩ := h
  exact ⟨g, rfl, h1, Nat.lt_of_lt_of_le h2 k.size, h3.keepG k (hg g h1)⟩
theorem RowAt.keep {w w' : World} {lo : Nat} {p : Option Addr} {l : List FactV} (h : RowAt w lo p l) (k : Below w.heap.size w w') : RowAt w' lo p l := by
  obtain ⟨g, rfl, h1, h2, h3⟩ := h
  exact ⟨g, rfl, h1, Nat.lt_of_lt_of_le h2 k.size, h3.keep k⟩
theorem RowAt.grown {w w' : World} {lo b : Nat} {p : Option Addr} {l : List FactV} (h : RowAt w lo p l) (k : w.grownBy w' (some b)) (hb : b < lo) : RowAt w' lo p l :=
  h.keepK (G := fun q => q ≠ b) ((Keeps.refl _ _).grown k (fun q e h => h (Option.some.inj e).symm)) (fun q hq => by omega)
theorem RowAt.mono {w : World} {lo lo' : Nat} {p : Option Addr} {l : List FactV} (h : RowAt w lo p l) (hl : lo' ≤ lo) : RowAt w lo' p l := by
  obtain ⟨g, rfl, h1, h2⟩ := h
  exact ⟨g, rfl, Nat.le_trans hl h1, h2⟩
theorem Src.keepM {w w' : World} {b mb : Nat} {a : Option Addr} {len cap : Nat} {zs : List Int} (h : Src w b a len cap zs) (k : Keeps (fun q => q ≠ mb) w w') (h1 : b ≠ mb) (h2 : 0 < len → ∀ x, a = some x → x.block < mb) : Src w' b a len cap zs := by
  obtain ⟨hl, hr, hn, at0, m, sz, c0, c1, c2, c3, hf, rest⟩ := h
  have hb : b < w.heap.size := cell_lt c0
  refine ⟨hl, ?_, hn, at0, m, sz, (k.cell (p := ⟨b, 0, none⟩) hb h1).trans c0, (k.cell (p := ⟨b, 1, none⟩) hb h1).trans c1, (k.cell (p := ⟨b, 2, none⟩) hb h1).trans c2, (k.cell (p := ⟨b, 3, none⟩) hb h1).trans c3, fun j => (k.frozen (p := ⟨b, j, none⟩) hb h1).trans (hf j), rest⟩
  rcases hr with h | ⟨x, rfl, e, hlt, hl2, hc, hz⟩
  · exact .inl h
  · by_cases h0 : len = 0
    · exact .inl h0
    · have := h2 (by omega) x rfl
      exact .inr ⟨x, rfl, e, Nat.lt_of_lt_of_le hlt k.size, hl2, fun i hi => (k.cell (p := ⟨x.block, x.off + i, none⟩) hlt (by show x.block ≠ mb; omega)).trans (hc i hi), hz⟩
theorem grown_trans2 {w w1 w2 : World} {b mb : Nat} (h : w.grownBy w1 (some b)) (k : Keeps (fun q => q ≠ mb) w1 w2) (hm : w.heap.size ≤ mb) : w.grownBy w2 (some b) :=
  ⟨k.os.trans h.os, k.tape.trans h.tape, k.output.trans h.output, Nat.le_trans h.size k.size, fun i hi hne => (k.block i (Nat.lt_of_lt_of_le hi h.size) (by omega)).trans (h.block i hi hne)⟩
def MailDrawn (b : Nat) (a : Option Addr) (len cap : Nat) (zs : List Int) (w : World) (e : Ending) (w' : World) : Prop :=
  ∃ (m : MailV) (p : Option Addr) (c : Nat), e = .returned (mailVal m (.slice p m.facts.length c)) ∧ RowAt w' w.heap.size p m.facts ∧ m.facts.length ≤ 7 ∧ Src w' b a len cap zs ∧ w.grownBy w' (some b)
set_option maxHeartbeats 4000000 in
set_option maxRecDepth 100000 in
theorem mailDraw_any (b : Nat) (a : Option Addr) (len cap : Nat) (zs : List Int) (w : World) (hs0 : Src w b a len cap zs) : Calls Tryd.prog 19 #[.pointer (some ⟨b, 0, none⟩)] w (MailDrawn b a len cap zs w) := by
  have hlt := hs0.lt
  have hrl0 := hs0.row_lt
  have hs := hs0.alloc (.cells #[.int .i64 0, .int .i64 0, .int .i64 0, .int .i64 0, .int .i64 0, .int .i64 0, .slice none 0 0] 25)
  have gw := World.grownBy_alloc w (.cells #[.int .i64 0, .int .i64 0, .int .i64 0, .int .i64 0, .int .i64 0, .int .i64 0, .slice none 0 0] 25) (some b)
  have pR := BlkIs.new w 25 #[.int .i64 0, .int .i64 0, .int .i64 0, .int .i64 0, .int .i64 0, .int .i64 0, .slice none 0 0]
  obtain ⟨W, hW⟩ : ∃ W, w.alloc (.cells #[.int .i64 0, .int .i64 0, .int .i64 0, .int .i64 0, .int .i64 0, .int .i64 0, .slice none 0 0] 25) = W := ⟨_, rfl⟩
  rw [hW] at hs gw pR
  have HW : Hid (_ = W) := hW
  have hRb : w.heap.size ≠ b := by omega
  clear hW hs0
  go_enter Tryd.func19, Tryd.ntmps19
  go_wp2_with fail
  rw [HW.out]
  clear HW
  refine (n_any b a len cap zs 5 (by omega) _ hs).mono ?_
  rintro e w1 ⟨r1, rfl, _, hrr1, hs1, hg⟩
  replace hs := hs1
  replace gw := grown_trans gw hg
  replace pR := pR.grown hg hRb
  clear hs1 hg
  replace hrr1 := hrr1 (by omega)
  have hw1 : IntKind.i64.wrap (1 + r1) = 1 + r1 := by rw [IntKind.wrap_i64]; omega
  go_wp2_with fail
  refine (n_any b a len cap zs 4 (by omega) _ hs).mono ?_
  rintro e w2 ⟨r2, rfl, _, hrr2, hs1, hg⟩
  replace hs := hs1
  replace gw := grown_trans gw hg
  replace pR := pR.grown hg hRb
  clear hs1 hg
  replace hrr2 := hrr2 (by omega)
  have hw2 : IntKind.i64.wrap (1 + r2) = 1 + r2 := by rw [IntKind.wrap_i64]; omega
  go_wp2_with fail
  refine (n_any b a len cap zs 5 (by omega) _ hs).mono ?_
  rintro e w3 ⟨r3, rfl, _, hrr3, hs1, hg⟩
  replace hs := hs1
  replace gw := grown_trans gw hg
  replace pR := pR.grown hg hRb
  clear hs1 hg
  replace hrr3 := hrr3 (by omega)
  go_upto_region 2 with fail
  have pm := BlkIs.new w3 25 #[.int .i64 (1 + r1), .int .i64 (1 + r2), .int .i64 0, .int .i64 r3, .int .i64 0, .int .i64 0, .slice none 0 0]
  have bA : Below w3.heap.size w3 (w3.alloc (.cells #[.int .i64 (1 + r1), .int .i64 (1 + r2), .int .i64 0, .int .i64 r3, .int .i64 0, .int .i64 0, .slice none 0 0] 25)) := (Below.refl _ _).alloc (Nat.le_refl _) _
  have hwm0 := pR.lt
  have hbm0 := hs.lt
  have hrl0' := hs.row_lt
  replace hs := hs.alloc (.cells #[.int .i64 (1 + r1), .int .i64 (1 + r2), .int .i64 0, .int .i64 r3, .int .i64 0, .int .i64 0, .slice none 0 0] 25)
  replace gw := grown_alloc gw (.cells #[.int .i64 (1 + r1), .int .i64 (1 + r2), .int .i64 0, .int .i64 r3, .int .i64 0, .int .i64 0, .slice none 0 0] 25)
  replace pR := pR.keep bA
  clear bA
  generalize w3.alloc (.cells #[.int .i64 (1 + r1), .int .i64 (1 + r2), .int .i64 0, .int .i64 r3, .int .i64 0, .int .i64 0, .slice none 0 0] 25) = w4 at *
  obtain ⟨mb, hmb0⟩ : ∃ mb, w3.heap.size = mb := ⟨_, rfl⟩
  rw [hmb0] at pm hwm0 hbm0 hrl0' ⊢
  have hwm : w.heap.size ≤ mb := by omega
  have hmb : mb ≠ b := by omega
  have hbm : b < mb + 1 := by omega
  have hmR : w.heap.size ≠ mb := by omega
  have hrl : 0 < len → ∀ x, a = some x → x.block < mb := hrl0'
  clear hmb0 hrl0'
  obtain ⟨k, hk⟩ : ∃ k, 1 + r1 = k := ⟨_, rfl⟩
  obtain ⟨f, hf⟩ : ∃ f, 1 + r2 = f := ⟨_, rfl⟩
  rw [hk, hf] at pm ⊢
  have hk2 : 1 ≤ k ∧ k ≤ 5 := by omega
  have hf2 : 1 ≤ f ∧ f ≤ 4 := by omega
  clear hk hf hw1 hw2 hrr1 hrr2
  have c1 := pm.cell 1
  have d2 := pm.cell 2
  have f2 := pm.fz 2
  simp only [List.getElem?_toArray, List.getElem?_cons_zero, List.getElem?_cons_succ] at c1 d2
  go_cut [] (fun wc => ∃ x2 : Int, BlkIs wc mb 25 #[.int .i64 k, .int .i64 f, .int .i64 x2, .int .i64 r3, .int .i64 0, .int .i64 0, .slice none 0 0] ∧ BlkIs wc w.heap.size 25 #[.int .i64 0, .int .i64 0, .int .i64 0, .int .i64 0, .int .i64 0, .int .i64 0, .slice none 0 0] ∧ Src wc b a len cap zs ∧ w.grownBy wc (some b))
  case first =>
    go_wp2
    go_meet
    case rel => exact ⟨_, by simpa using pm.put 2 _, pR.keepK ((Keeps.refl (fun q => q ≠ mb) w4).setCell (fun h => h rfl) _) (by omega), hs.keepM ((Keeps.refl (fun q => q ≠ mb) w4).setCell (fun h => h rfl) _) (Ne.symm hmb) hrl, grown_trans2 gw ((Keeps.refl (fun q => q ≠ mb) w4).setCell (fun h => h rfl) _) hwm⟩
  case rest =>
    clear pm pR hs gw c1 d2 f2
    obtain ⟨x2, pm, pR, hs, gw⟩ := hcut
    have c0 := pm.cell 0
    simp only [List.getElem?_toArray, List.getElem?_cons_zero, List.getElem?_cons_succ] at c0
    go_upto_block 0 with fail
    clear c0
    go_cut [] (fun wc => ∃ x4 x5 : Int, BlkIs wc mb 25 #[.int .i64 k, .int .i64 f, .int .i64 x2, .int .i64 r3, .int .i64 x4, .int .i64 x5, .slice none 0 0] ∧ BlkIs wc w.heap.size 25 #[.int .i64 0, .int .i64 0, .int .i64 0, .int .i64 0, .int .i64 0, .int .i64 0, .slice none 0 0] ∧ Src wc b a len cap zs ∧ w.grownBy wc (some b))
    case first =>
      by_cases h1 : k = 1
      · subst h1
        go_wp2_with fail
        refine (n_any b a len cap zs 3 (by omega) _ hs).mono ?_
        rintro e y1 ⟨r4, rfl, _, hrr4, hs1, hg⟩
        replace hs := hs1
        replace gw := grown_trans gw hg
        replace pR := pR.grown hg hRb
        replace pm := pm.grown hg hmb
        clear hs1 hg
        replace hrr4 := hrr4 (by omega)
        have c5 := pm.cell 5
        simp only [List.getElem?_toArray, List.getElem?_cons_zero, List.getElem?_cons_succ] at c5
        have f5 := pm.fz 5
        go_wp2
        go_meet
        case rel => exact ⟨_, _, by simpa using pm.put 5 _, pR.keepK ((Keeps.refl (fun q => q ≠ mb) y1).setCell (fun h => h rfl) _) (by omega), hs.keepM ((Keeps.refl (fun q => q ≠ mb) y1).setCell (fun h => h rfl) _) (Ne.symm hmb) hrl, grown_trans2 gw ((Keeps.refl (fun q => q ≠ mb) y1).setCell (fun h => h rfl) _) hwm⟩
      by_cases h2 : k = 2
      · subst h2
        have c1 := pm.cell 1
        have c4 := pm.cell 4
        simp only [List.getElem?_toArray, List.getElem?_cons_zero, List.getElem?_cons_succ] at c1 c4
        have f1 := pm.fz 1
        have f4 := pm.fz 4
        go_upto_region 8 with fail
        clear c1 c4 f1 f4
        have K2 : Keeps (fun q => q ≠ mb) wc (wc.setCell ⟨mb, 4, none⟩ (.int .i64 f)) := (Keeps.refl _ _).setCell (fun h => h rfl) _
        have pm2 : BlkIs (wc.setCell ⟨mb, 4, none⟩ (.int .i64 f)) mb 25 #[.int .i64 2, .int .i64 f, .int .i64 x2, .int .i64 r3, .int .i64 f, .int .i64 0, .slice none 0 0] := by simpa using pm.put 4 (.int .i64 f)
        replace pR := pR.keepK K2 hmR
        replace hs := hs.keepM K2 (Ne.symm hmb) hrl
        replace gw := grown_trans2 gw K2 hwm
        replace pm := pm2
        clear K2 pm2
        generalize (wc.setCell ⟨mb, 4, none⟩ (.int .i64 f)) = y0 at *
        go_wp2_with fail
        refine (n_any b a len cap zs 3 (by omega) _ hs).mono ?_
        rintro e y1 ⟨r4, rfl, _, hrr4, hs1, hg⟩
        replace hs := hs1
        replace gw := grown_trans gw hg
        replace pR := pR.grown hg hRb
        replace pm := pm.grown hg hmb
        clear hs1 hg
        replace hrr4 := hrr4 (by omega)
        have c5 := pm.cell 5
        simp only [List.getElem?_toArray, List.getElem?_cons_zero, List.getElem?_cons_succ] at c5
        have f5 := pm.fz 5
        go_wp2
        go_meet
        case rel => exact ⟨_, _, by simpa using pm.put 5 _, pR.keepK ((Keeps.refl (fun q => q ≠ mb) y1).setCell (fun h => h rfl) _) (by omega), hs.keepM ((Keeps.refl (fun q => q ≠ mb) y1).setCell (fun h => h rfl) _) (Ne.symm hmb) hrl, grown_trans2 gw ((Keeps.refl (fun q => q ≠ mb) y1).setCell (fun h => h rfl) _) hwm⟩
      by_cases h3 : k = 3
      · subst h3
        have c2 := pm.cell 2
        have c4 := pm.cell 4
        simp only [List.getElem?_toArray, List.getElem?_cons_zero, List.getElem?_cons_succ] at c2 c4
        have f2 := pm.fz 2
        have f4 := pm.fz 4
        go_wp2
        go_meet
        case rel => exact ⟨_, _, by simpa using pm.put 4 _, pR.keepK ((Keeps.refl (fun q => q ≠ mb) wc).setCell (fun h => h rfl) _) (by omega), hs.keepM ((Keeps.refl (fun q => q ≠ mb) wc).setCell (fun h => h rfl) _) (Ne.symm hmb) hrl, grown_trans2 gw ((Keeps.refl (fun q => q ≠ mb) wc).setCell (fun h => h rfl) _) hwm⟩
      · go_wp2
        go_meet
        case rel => exact ⟨_, _, pm, pR, hs, gw⟩
    case rest =>
      clear pm pR hs gw
      obtain ⟨x4, x5, pm, pR, hs, gw⟩ := hcut
      obtain ⟨y2, hy2⟩ : ∃ y, y = wc := ⟨wc, rfl⟩
      rw [← hy2] at pm pR hs gw ⊢
      clear hy2
      go_wp2_with fail
      refine (viewOf_any b a len cap zs _ hs).mono ?_
      rintro e y3 ⟨v, l, rfl, hl7, S1, hs1, hg⟩
      obtain ⟨g, cp, rfl, own, row, hcp, _, hgl, hgb⟩ := S1.parts
      have hym := pm.lt
      replace hs := hs1
      replace gw := grown_trans gw hg
      replace pR := pR.grown hg hRb
      replace pm := pm.grown hg hmb
      have rw1 : RowAt y3 (mb + 1) (some ⟨g, 0, none⟩) l := ⟨g, rfl, by omega, hgl, row⟩
      clear hs1 hg S1 own row
      have c6 := pm.cell 6
      simp only [List.getElem?_toArray, List.getElem?_cons_zero, List.getElem?_cons_succ] at c6
      have f6 := pm.fz 6
      go_upto_region 12 with fail
      clear c6 f6
      have K2 : Keeps (fun q => q ≠ mb) y3 (y3.setCell ⟨mb, 6, none⟩ (.slice (some ⟨g, 0, none⟩) l.length cp)) := (Keeps.refl _ _).setCell (fun h => h rfl) _
      have pm2 : BlkIs (y3.setCell ⟨mb, 6, none⟩ (.slice (some ⟨g, 0, none⟩) l.length cp)) mb 25 #[.int .i64 k, .int .i64 f, .int .i64 x2, .int .i64 r3, .int .i64 x4, .int .i64 x5, .slice (some ⟨g, 0, none⟩) l.length cp] := by simpa using pm.put 6 (.slice (some ⟨g, 0, none⟩) l.length cp)
      replace pR := pR.keepK K2 hmR
      replace hs := hs.keepM K2 (Ne.symm hmb) hrl
      replace gw := grown_trans2 gw K2 hwm
      replace rw1 := rw1.keepK K2 (fun q hq => by omega)
      replace pm := pm2
      clear K2 pm2
      generalize (y3.setCell ⟨mb, 6, none⟩ (.slice (some ⟨g, 0, none⟩) l.length cp)) = y4 at *
      have c0 := pm.cell 0
      have c6 := pm.cell 6
      simp only [List.getElem?_toArray, List.getElem?_cons_zero, List.getElem?_cons_succ] at c0 c6
      have f0 := pm.fz 0
      have f6 := pm.fz 6
      obtain ⟨d, hd⟩ := tells_bool (k ≤ 3 ∧ 3 < l.length)
      have HD : Hid (d = true ↔ k ≤ 3 ∧ 3 < l.length) := hd
      clear hd
      go_cut [51] (fun vc wc => vc = .bool d ∧ wc = y4)
      case first =>
        by_cases hk : k ≤ 3
        · by_cases h3 : 3 < l.length
          · have h3I : (3 : Int) < (l.length : Int) := by omega
            obtain rfl : d = true := HD.out.2 ⟨hk, h3⟩
            clear HD
            go_wp2
            go_meet
            case rel => exact ⟨rfl, rfl⟩
          · have h3I : ¬ (3 : Int) < (l.length : Int) := by omega
            obtain rfl : d = false := by
              cases d with
              | false => rfl
              | true => exact absurd (HD.out.1 rfl).2 h3
            clear HD
            go_wp2
            go_meet
            case rel => exact ⟨rfl, rfl⟩
        · obtain rfl : d = false := by
            cases d with
            | false => rfl
            | true => exact absurd (HD.out.1 rfl).1 hk
          clear HD
          go_wp2
          go_meet
          case rel => exact ⟨rfl, rfl⟩
      case rest =>
        obtain ⟨rfl, rfl⟩ := hcut
        go_upto_if 51 with fail
        go_cut [] (fun wc => ∃ (p : Option Addr) (cc : Nat) (ll : List FactV), BlkIs wc mb 25 #[.int .i64 k, .int .i64 f, .int .i64 x2, .int .i64 r3, .int .i64 x4, .int .i64 x5, .slice p ll.length cc] ∧ RowAt wc (mb + 1) p ll ∧ ll.length ≤ 7 ∧ BlkIs wc w.heap.size 25 #[.int .i64 0, .int .i64 0, .int .i64 0, .int .i64 0, .int .i64 0, .int .i64 0, .slice none 0 0] ∧ Src wc b a len cap zs ∧ w.grownBy wc (some b))
        case first =>
          cases d with
          | true =>
            have h3 : 3 < l.length := (HD.out.1 rfl).2
            clear HD
            have h3I : (3 : Int) < (l.length : Int) := by omega
            have h3c : (3 : Int) ≤ (cp : Int) := by omega
            have ht : (l.take 3).length = 3 := by rw [List.length_take]; omega
            have HT : Hid ((l.take 3).length = 3) := ht
            have rw2 : RowAt wc (mb + 1) (some ⟨g, 0, none⟩) (l.take 3) := by
              obtain ⟨g', e, q1, q2, q3⟩ := rw1
              simp only [Option.some.injEq, Addr.mk.injEq, and_true] at e
              subst e
              exact ⟨g, rfl, q1, q2, q3.takeF 3 (by omega)⟩
            clear ht rw1
            have rw1 := rw2
            clear rw2
            have hl7 : (l.take 3).length ≤ 7 := by have := HT.out; omega
            go_wp2
            go_meet
            case rel => exact ⟨some ⟨g, 0, none⟩, cp, l.take 3, by rw [HT.out]; simpa using pm.put 6 _, rw1.keepK ((Keeps.refl (fun q => q ≠ mb) wc).setCell (fun h => h rfl) _) (fun q hq => by omega), hl7, pR.keepK ((Keeps.refl (fun q => q ≠ mb) wc).setCell (fun h => h rfl) _) (by omega), hs.keepM ((Keeps.refl (fun q => q ≠ mb) wc).setCell (fun h => h rfl) _) (Ne.symm hmb) hrl, grown_trans2 gw ((Keeps.refl (fun q => q ≠ mb) wc).setCell (fun h => h rfl) _) hwm⟩
          | false =>
            clear HD
            go_wp2
            go_meet
            case rel => exact ⟨_, _, l, pm, rw1, hl7, pR, hs, gw⟩
        case rest =>
          clear pm pR hs gw rw1 c0 c6 f0 f6 hl7
          obtain ⟨p, cc, ll, pm, rw1, hl7, pR, hs, gw⟩ := hcut
          obtain ⟨y5, hy5⟩ : ∃ y, y = wc := ⟨wc, rfl⟩
          rw [← hy5] at pm pR hs gw rw1 ⊢
          clear hy5
          go_wp2_with fail
          refine (one_any b a len cap zs 12 (by omega) _ hs).mono ?_
          rintro e y6 ⟨b1, rfl, hs1, hg⟩
          replace hs := hs1
          replace gw := grown_trans gw hg
          replace pR := pR.grown hg hRb
          replace pm := pm.grown hg hmb
          replace rw1 := rw1.grown hg hbm
          clear hs1 hg
          cases b1 with
          | false =>
            have g0 := pm.cell 0
            have g1 := pm.cell 1
            have g2 := pm.cell 2
            have g3 := pm.cell 3
            have g4 := pm.cell 4
            have g5 := pm.cell 5
            have g6 := pm.cell 6
            simp only [List.getElem?_toArray, List.getElem?_cons_zero, List.getElem?_cons_succ] at g0 g1 g2 g3 g4 g5 g6
            have d0 := pR.cell 0
            have d1 := pR.cell 1
            have d2 := pR.cell 2
            have d3 := pR.cell 3
            have d4 := pR.cell 4
            have d5 := pR.cell 5
            have d6 := pR.cell 6
            simp only [List.getElem?_toArray, List.getElem?_cons_zero, List.getElem?_cons_succ] at d0 d1 d2 d3 d4 d5 d6
            have f0 := pR.fz 0
            have f1 := pR.fz 1
            have f2 := pR.fz 2
            have f3 := pR.fz 3
            have f4 := pR.fz 4
            have f5 := pR.fz 5
            have f6 := pR.fz 6
            go_wp2
            have KZ := keeps_seven y6 w.heap.size (.int .i64 k) (.int .i64 f) (.int .i64 x2) (.int .i64 r3) (.int .i64 x4) (.int .i64 x5) (.slice p ll.length cc)
            have HZ := blk_put7 pR (.int .i64 k) (.int .i64 f) (.int .i64 x2) (.int .i64 r3) (.int .i64 x4) (.int .i64 x5) (.slice p ll.length cc)
            obtain ⟨q0, q1, q2, q3, q4, q5, q6⟩ := blk7_cells HZ
            exact bodyPost_ret (v := mailVal ⟨k, f, x2, r3, x4, x5, ll⟩ (.slice p ll.length cc)) (by simp [results, Tryd.results19, go_sem, mailVal, q0, q1, q2, q3, q4, q5, q6]) rfl ⟨⟨k, f, x2, r3, x4, x5, ll⟩, p, cc, rfl, (rw1.keepK KZ (fun q hq => by omega)).mono (by omega), hl7, hs.keepM KZ (Ne.symm hRb) hrl0, grown_trans2 gw KZ (Nat.le_refl _)⟩
          | true =>
            go_wp2_with fail
            refine (n_any b a len cap zs 5 (by omega) _ hs).mono ?_
            rintro e y7 ⟨r5, rfl, _, hrr5, hs1, hg⟩
            replace hs := hs1
            replace gw := grown_trans gw hg
            replace pR := pR.grown hg hRb
            replace pm := pm.grown hg hmb
            replace rw1 := rw1.grown hg hbm
            clear hs1 hg
            replace hrr5 := hrr5 (by omega)
            by_cases h0 : r5 = 0
            · subst h0
              go_wp2_with fail
              refine (n_any b a len cap zs 7 (by omega) _ hs).mono ?_
              rintro e y8 ⟨r6, rfl, _, hrr6, hs1, hg⟩
              replace hs := hs1
              replace gw := grown_trans gw hg
              replace pR := pR.grown hg hRb
              replace pm := pm.grown hg hmb
              replace rw1 := rw1.grown hg hbm
              clear hs1 hg
              replace hrr6 := hrr6 (by omega)
              have c0 := pm.cell 0
              simp only [List.getElem?_toArray, List.getElem?_cons_zero, List.getElem?_cons_succ] at c0
              have f0 := pm.fz 0
              go_upto_region 25 with fail
              clear c0 f0
              have K2 : Keeps (fun q => q ≠ mb) y8 (y8.setCell ⟨mb, 0, none⟩ (.int .i64 r6)) := (Keeps.refl _ _).setCell (fun h => h rfl) _
              have pm2 : BlkIs (y8.setCell ⟨mb, 0, none⟩ (.int .i64 r6)) mb 25 #[.int .i64 r6, .int .i64 f, .int .i64 x2, .int .i64 r3, .int .i64 x4, .int .i64 x5, .slice p ll.length cc] := by simpa using pm.put 0 (.int .i64 r6)
              replace pR := pR.keepK K2 hmR
              replace hs := hs.keepM K2 (Ne.symm hmb) hrl
              replace gw := grown_trans2 gw K2 hwm
              replace rw1 := rw1.keepK K2 (fun q hq => by omega)
              replace pm := pm2
              clear K2 pm2
              generalize (y8.setCell ⟨mb, 0, none⟩ (.int .i64 r6)) = y9 at *
              have g0 := pm.cell 0
              have g1 := pm.cell 1
              have g2 := pm.cell 2
              have g3 := pm.cell 3
              have g4 := pm.cell 4
              have g5 := pm.cell 5
              have g6 := pm.cell 6
              simp only [List.getElem?_toArray, List.getElem?_cons_zero, List.getElem?_cons_succ] at g0 g1 g2 g3 g4 g5 g6
              have d0 := pR.cell 0
              have d1 := pR.cell 1
              have d2 := pR.cell 2
              have d3 := pR.cell 3
              have d4 := pR.cell 4
              have d5 := pR.cell 5
              have d6 := pR.cell 6
              simp only [List.getElem?_toArray, List.getElem?_cons_zero, List.getElem?_cons_succ] at d0 d1 d2 d3 d4 d5 d6
              have f0 := pR.fz 0
              have f1 := pR.fz 1
              have f2 := pR.fz 2
              have f3 := pR.fz 3
              have f4 := pR.fz 4
              have f5 := pR.fz 5
              have f6 := pR.fz 6
              go_wp2
              have KZ := keeps_seven y9 w.heap.size (.int .i64 r6) (.int .i64 f) (.int .i64 x2) (.int .i64 r3) (.int .i64 x4) (.int .i64 x5) (.slice p ll.length cc)
              have HZ := blk_put7 pR (.int .i64 r6) (.int .i64 f) (.int .i64 x2) (.int .i64 r3) (.int .i64 x4) (.int .i64 x5) (.slice p ll.length cc)
              obtain ⟨q0, q1, q2, q3, q4, q5, q6⟩ := blk7_cells HZ
              exact bodyPost_ret (v := mailVal ⟨r6, f, x2, r3, x4, x5, ll⟩ (.slice p ll.length cc)) (by simp [results, Tryd.results19, go_sem, mailVal, q0, q1, q2, q3, q4, q5, q6]) rfl ⟨⟨r6, f, x2, r3, x4, x5, ll⟩, p, cc, rfl, (rw1.keepK KZ (fun q hq => by omega)).mono (by omega), hl7, hs.keepM KZ (Ne.symm hRb) hrl0, grown_trans2 gw KZ (Nat.le_refl _)⟩
            by_cases h1 : r5 = 1
            · subst h1
              go_wp2_with fail
              refine (n_any b a len cap zs 8 (by omega) _ hs).mono ?_
              rintro e y8 ⟨r6, rfl, _, hrr6, hs1, hg⟩
              replace hs := hs1
              replace gw := grown_trans gw hg
              replace pR := pR.grown hg hRb
              replace pm := pm.grown hg hmb
              replace rw1 := rw1.grown hg hbm
              clear hs1 hg
              replace hrr6 := hrr6 (by omega)
              have c2 := pm.cell 2
              simp only [List.getElem?_toArray, List.getElem?_cons_zero, List.getElem?_cons_succ] at c2
              have f2 := pm.fz 2
              go_upto_region 25 with fail
              clear c2 f2
              have K2 : Keeps (fun q => q ≠ mb) y8 (y8.setCell ⟨mb, 2, none⟩ (.int .i64 r6)) := (Keeps.refl _ _).setCell (fun h => h rfl) _
              have pm2 : BlkIs (y8.setCell ⟨mb, 2, none⟩ (.int .i64 r6)) mb 25 #[.int .i64 k, .int .i64 f, .int .i64 r6, .int .i64 r3, .int .i64 x4, .int .i64 x5, .slice p ll.length cc] := by simpa using pm.put 2 (.int .i64 r6)
              replace pR := pR.keepK K2 hmR
              replace hs := hs.keepM K2 (Ne.symm hmb) hrl
              replace gw := grown_trans2 gw K2 hwm
              replace rw1 := rw1.keepK K2 (fun q hq => by omega)
              replace pm := pm2
              clear K2 pm2
              generalize (y8.setCell ⟨mb, 2, none⟩ (.int .i64 r6)) = y9 at *
              have g0 := pm.cell 0
              have g1 := pm.cell 1
              have g2 := pm.cell 2
              have g3 := pm.cell 3
              have g4 := pm.cell 4
              have g5 := pm.cell 5
              have g6 := pm.cell 6
              simp only [List.getElem?_toArray, List.getElem?_cons_zero, List.getElem?_cons_succ] at g0 g1 g2 g3 g4 g5 g6
              have d0 := pR.cell 0
              have d1 := pR.cell 1
              have d2 := pR.cell 2
              have d3 := pR.cell 3
              have d4 := pR.cell 4
              have d5 := pR.cell 5
              have d6 := pR.cell 6
              simp only [List.getElem?_toArray, List.getElem?_cons_zero, List.getElem?_cons_succ] at d0 d1 d2 d3 d4 d5 d6
              have f0 := pR.fz 0
              have f1 := pR.fz 1
              have f2 := pR.fz 2
              have f3 := pR.fz 3
              have f4 := pR.fz 4
              have f5 := pR.fz 5
              have f6 := pR.fz 6
              go_wp2
              have KZ := keeps_seven y9 w.heap.size (.int .i64 k) (.int .i64 f) (.int .i64 r6) (.int .i64 r3) (.int .i64 x4) (.int .i64 x5) (.slice p ll.length cc)
              have HZ := blk_put7 pR (.int .i64 k) (.int .i64 f) (.int .i64 r6) (.int .i64 r3) (.int .i64 x4) (.int .i64 x5) (.slice p ll.length cc)
              obtain ⟨q0, q1, q2, q3, q4, q5, q6⟩ := blk7_cells HZ
              exact bodyPost_ret (v := mailVal ⟨k, f, r6, r3, x4, x5, ll⟩ (.slice p ll.length cc)) (by simp [results, Tryd.results19, go_sem, mailVal, q0, q1, q2, q3, q4, q5, q6]) rfl ⟨⟨k, f, r6, r3, x4, x5, ll⟩, p, cc, rfl, (rw1.keepK KZ (fun q hq => by omega)).mono (by omega), hl7, hs.keepM KZ (Ne.symm hRb) hrl0, grown_trans2 gw KZ (Nat.le_refl _)⟩
            by_cases h2 : r5 = 2
            · subst h2
              go_wp2_with fail
              refine (n_any b a len cap zs 8 (by omega) _ hs).mono ?_
              rintro e y8 ⟨r6, rfl, _, hrr6, hs1, hg⟩
              replace hs := hs1
              replace gw := grown_trans gw hg
              replace pR := pR.grown hg hRb
              replace pm := pm.grown hg hmb
              replace rw1 := rw1.grown hg hbm
              clear hs1 hg
              replace hrr6 := hrr6 (by omega)
              have c4 := pm.cell 4
              simp only [List.getElem?_toArray, List.getElem?_cons_zero, List.getElem?_cons_succ] at c4
              have f4 := pm.fz 4
              go_upto_region 25 with fail
              clear c4 f4
              have K2 : Keeps (fun q => q ≠ mb) y8 (y8.setCell ⟨mb, 4, none⟩ (.int .i64 r6)) := (Keeps.refl _ _).setCell (fun h => h rfl) _
              have pm2 : BlkIs (y8.setCell ⟨mb, 4, none⟩ (.int .i64 r6)) mb 25 #[.int .i64 k, .int .i64 f, .int .i64 x2, .int .i64 r3, .int .i64 r6, .int .i64 x5, .slice p ll.length cc] := by simpa using pm.put 4 (.int .i64 r6)
              replace pR := pR.keepK K2 hmR
              replace hs := hs.keepM K2 (Ne.symm hmb) hrl
              replace gw := grown_trans2 gw K2 hwm
              replace rw1 := rw1.keepK K2 (fun q hq => by omega)
              replace pm := pm2
              clear K2 pm2
              generalize (y8.setCell ⟨mb, 4, none⟩ (.int .i64 r6)) = y9 at *
              have g0 := pm.cell 0
              have g1 := pm.cell 1
              have g2 := pm.cell 2
              have g3 := pm.cell 3
              have g4 := pm.cell 4
              have g5 := pm.cell 5
              have g6 := pm.cell 6
              simp only [List.getElem?_toArray, List.getElem?_cons_zero, List.getElem?_cons_succ] at g0 g1 g2 g3 g4 g5 g6
              have d0 := pR.cell 0
              have d1 := pR.cell 1
              have d2 := pR.cell 2
              have d3 := pR.cell 3
              have d4 := pR.cell 4
              have d5 := pR.cell 5
              have d6 := pR.cell 6
              simp only [List.getElem?_toArray, List.getElem?_cons_zero, List.getElem?_cons_succ] at d0 d1 d2 d3 d4 d5 d6
              have f0 := pR.fz 0
              have f1 := pR.fz 1
              have f2 := pR.fz 2
              have f3 := pR.fz 3
              have f4 := pR.fz 4
              have f5 := pR.fz 5
              have f6 := pR.fz 6
              go_wp2
              have KZ := keeps_seven y9 w.heap.size (.int .i64 k) (.int .i64 f) (.int .i64 x2) (.int .i64 r3) (.int .i64 r6) (.int .i64 x5) (.slice p ll.length cc)
              have HZ := blk_put7 pR (.int .i64 k) (.int .i64 f) (.int .i64 x2) (.int .i64 r3) (.int .i64 r6) (.int .i64 x5) (.slice p ll.length cc)
              obtain ⟨q0, q1, q2, q3, q4, q5, q6⟩ := blk7_cells HZ
              exact bodyPost_ret (v := mailVal ⟨k, f, x2, r3, r6, x5, ll⟩ (.slice p ll.length cc)) (by simp [results, Tryd.results19, go_sem, mailVal, q0, q1, q2, q3, q4, q5, q6]) rfl ⟨⟨k, f, x2, r3, r6, x5, ll⟩, p, cc, rfl, (rw1.keepK KZ (fun q hq => by omega)).mono (by omega), hl7, hs.keepM KZ (Ne.symm hRb) hrl0, grown_trans2 gw KZ (Nat.le_refl _)⟩
            by_cases h3 : r5 = 3
            · subst h3
              go_wp2_with fail
              refine (n_any b a len cap zs 8 (by omega) _ hs).mono ?_
              rintro e y8 ⟨r6, rfl, _, hrr6, hs1, hg⟩
              replace hs := hs1
              replace gw := grown_trans gw hg
              replace pR := pR.grown hg hRb
              replace pm := pm.grown hg hmb
              replace rw1 := rw1.grown hg hbm
              clear hs1 hg
              replace hrr6 := hrr6 (by omega)
              have c5 := pm.cell 5
              simp only [List.getElem?_toArray, List.getElem?_cons_zero, List.getElem?_cons_succ] at c5
              have f5 := pm.fz 5
              go_upto_region 25 with fail
              clear c5 f5
              have K2 : Keeps (fun q => q ≠ mb) y8 (y8.setCell ⟨mb, 5, none⟩ (.int .i64 r6)) := (Keeps.refl _ _).setCell (fun h => h rfl) _
              have pm2 : BlkIs (y8.setCell ⟨mb, 5, none⟩ (.int .i64 r6)) mb 25 #[.int .i64 k, .int .i64 f, .int .i64 x2, .int .i64 r3, .int .i64 x4, .int .i64 r6, .slice p ll.length cc] := by simpa using pm.put 5 (.int .i64 r6)
              replace pR := pR.keepK K2 hmR
              replace hs := hs.keepM K2 (Ne.symm hmb) hrl
              replace gw := grown_trans2 gw K2 hwm
              replace rw1 := rw1.keepK K2 (fun q hq => by omega)
              replace pm := pm2
              clear K2 pm2
              generalize (y8.setCell ⟨mb, 5, none⟩ (.int .i64 r6)) = y9 at *
              have g0 := pm.cell 0
              have g1 := pm.cell 1
              have g2 := pm.cell 2
              have g3 := pm.cell 3
              have g4 := pm.cell 4
              have g5 := pm.cell 5
              have g6 := pm.cell 6
              simp only [List.getElem?_toArray, List.getElem?_cons_zero, List.getElem?_cons_succ] at g0 g1 g2 g3 g4 g5 g6
              have d0 := pR.cell 0
              have d1 := pR.cell 1
              have d2 := pR.cell 2
              have d3 := pR.cell 3
              have d4 := pR.cell 4
              have d5 := pR.cell 5
              have d6 := pR.cell 6
              simp only [List.getElem?_toArray, List.getElem?_cons_zero, List.getElem?_cons_succ] at d0 d1 d2 d3 d4 d5 d6
              have f0 := pR.fz 0
              have f1 := pR.fz 1
              have f2 := pR.fz 2
              have f3 := pR.fz 3
              have f4 := pR.fz 4
              have f5 := pR.fz 5
              have f6 := pR.fz 6
              go_wp2
              have KZ := keeps_seven y9 w.heap.size (.int .i64 k) (.int .i64 f) (.int .i64 x2) (.int .i64 r3) (.int .i64 x4) (.int .i64 r6) (.slice p ll.length cc)
              have HZ := blk_put7 pR (.int .i64 k) (.int .i64 f) (.int .i64 x2) (.int .i64 r3) (.int .i64 x4) (.int .i64 r6) (.slice p ll.length cc)
              obtain ⟨q0, q1, q2, q3, q4, q5, q6⟩ := blk7_cells HZ
              exact bodyPost_ret (v := mailVal ⟨k, f, x2, r3, x4, r6, ll⟩ (.slice p ll.length cc)) (by simp [results, Tryd.results19, go_sem, mailVal, q0, q1, q2, q3, q4, q5, q6]) rfl ⟨⟨k, f, x2, r3, x4, r6, ll⟩, p, cc, rfl, (rw1.keepK KZ (fun q hq => by omega)).mono (by omega), hl7, hs.keepM KZ (Ne.symm hRb) hrl0, grown_trans2 gw KZ (Nat.le_refl _)⟩
            · go_wp2_with fail
              refine (edge_any b a len cap zs _ hs).mono ?_
              rintro e y8 ⟨r6, rfl, _, hs1, hg⟩
              replace hs := hs1
              replace gw := grown_trans gw hg
              replace pR := pR.grown hg hRb
              replace pm := pm.grown hg hmb
              replace rw1 := rw1.grown hg hbm
              clear hs1 hg
              have c3 := pm.cell 3
              simp only [List.getElem?_toArray, List.getElem?_cons_zero, List.getElem?_cons_succ] at c3
              have f3 := pm.fz 3
              go_upto_region 25 with fail
              clear c3 f3
              have K2 : Keeps (fun q => q ≠ mb) y8 (y8.setCell ⟨mb, 3, none⟩ (.int .i64 r6)) := (Keeps.refl _ _).setCell (fun h => h rfl) _
              have pm2 : BlkIs (y8.setCell ⟨mb, 3, none⟩ (.int .i64 r6)) mb 25 #[.int .i64 k, .int .i64 f, .int .i64 x2, .int .i64 r6, .int .i64 x4, .int .i64 x5, .slice p ll.length cc] := by simpa using pm.put 3 (.int .i64 r6)
              replace pR := pR.keepK K2 hmR
              replace hs := hs.keepM K2 (Ne.symm hmb) hrl
              replace gw := grown_trans2 gw K2 hwm
              replace rw1 := rw1.keepK K2 (fun q hq => by omega)
              replace pm := pm2
              clear K2 pm2
              generalize (y8.setCell ⟨mb, 3, none⟩ (.int .i64 r6)) = y9 at *
              have g0 := pm.cell 0
              have g1 := pm.cell 1
              have g2 := pm.cell 2
              have g3 := pm.cell 3
              have g4 := pm.cell 4
              have g5 := pm.cell 5
              have g6 := pm.cell 6
              simp only [List.getElem?_toArray, List.getElem?_cons_zero, List.getElem?_cons_succ] at g0 g1 g2 g3 g4 g5 g6
              have d0 := pR.cell 0
              have d1 := pR.cell 1
              have d2 := pR.cell 2
              have d3 := pR.cell 3
              have d4 := pR.cell 4
              have d5 := pR.cell 5
              have d6 := pR.cell 6
              simp only [List.getElem?_toArray, List.getElem?_cons_zero, List.getElem?_cons_succ] at d0 d1 d2 d3 d4 d5 d6
              have f0 := pR.fz 0
              have f1 := pR.fz 1
              have f2 := pR.fz 2
              have f3 := pR.fz 3
              have f4 := pR.fz 4
              have f5 := pR.fz 5
              have f6 := pR.fz 6
              go_wp2
              have KZ := keeps_seven y9 w.heap.size (.int .i64 k) (.int .i64 f) (.int .i64 x2) (.int .i64 r6) (.int .i64 x4) (.int .i64 x5) (.slice p ll.length cc)
              have HZ := blk_put7 pR (.int .i64 k) (.int .i64 f) (.int .i64 x2) (.int .i64 r6) (.int .i64 x4) (.int .i64 x5) (.slice p ll.length cc)
              obtain ⟨q0, q1, q2, q3, q4, q5, q6⟩ := blk7_cells HZ
              exact bodyPost_ret (v := mailVal ⟨k, f, x2, r6, x4, x5, ll⟩ (.slice p ll.length cc)) (by simp [results, Tryd.results19, go_sem, mailVal, q0, q1, q2, q3, q4, q5, q6]) rfl ⟨⟨k, f, x2, r6, x4, x5, ll⟩, p, cc, rfl, (rw1.keepK KZ (fun q hq => by omega)).mono (by omega), hl7, hs.keepM KZ (Ne.symm hRb) hrl0, grown_trans2 gw KZ (Nat.le_refl _)⟩
end Go.Proofs.YtpjdkgcdkfmkiaaDoor
