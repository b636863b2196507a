/- The contract of the program's MailBytes. -/
import Derived.Test.YtpjdkgcdkfmkiaaDoorG32
import Derived.Test.YtpjdkgcdkfmkiaaDoorMRight
namespace Go.Proofs.YtpjdkgcdkfmkiaaDoor
open Go Go.RowKit
set_option linter.unusedVariables false
set_option linter.unusedSimpArgs false

theorem cells_three (w : World) (t : TypeId) (u0 u1 u2 : Value) : ∀ (j : Nat) u, [u0, u1, u2][j]? = some u → (w.alloc (.cells #[u0, u1, u2] t)).cell? ((⟨w.heap.size, 0, none⟩ : Addr).add j) = some u := by
  intro j u h
  rw [addr_add, (BlkIs.new w t #[u0, u1, u2]).cell j]
  simpa using h
set_option maxHeartbeats 1000000 in
set_option maxRecDepth 100000 in
theorem implMBytes_any (k f t n a r : Int) (p : Option Addr) (cap : Nat) (l : List FactV) (w : World) (q : Bool) (hq : q = true ↔ MailV.ok ⟨k, f, t, n, a, r, l⟩) (hl : l.length ≤ 1048576) (hrow : CellRow w p (cellsOf FactV.cells l)) :
    Calls Tryd.prog 6 #[.agg #[.int .i64 k, .int .i64 f, .int .i64 t, .int .i64 n, .int .i64 a, .int .i64 r, .slice p l.length cap]] w fun e w' => e = .returned (.string ⟨(MailV.out ⟨k, f, t, n, a, r, l⟩ q).toArray⟩) ∧ Below w.heap.size w w' := by
  have b1 := (Below.refl w.heap.size w).alloc (Nat.le_refl _) (.cells #[.int .i64 k, .int .i64 f, .int .i64 t, .int .i64 n, .int .i64 a, .int .i64 r, .slice p l.length cap] 25)
  have p1 := BlkIs.new w 25 #[.int .i64 k, .int .i64 f, .int .i64 t, .int .i64 n, .int .i64 a, .int .i64 r, .slice p l.length cap]
  obtain ⟨W, hW⟩ : ∃ W, w.alloc (.cells #[.int .i64 k, .int .i64 f, .int .i64 t, .int .i64 n, .int .i64 a, .int .i64 r, .slice p l.length cap] 25) = W := ⟨_, rfl⟩
  rw [hW] at b1 p1
  have HW : Hid (_ = W) := hW
  have HQ : Hid (q = true ↔ MailV.ok ⟨k, f, t, n, a, r, l⟩) := hq
  have hrow1 := hrow.keep b1
  clear hW hq
  go_enter Tryd.func6, Tryd.ntmps6
  go_wp2_with fail
  rw [HW.out]
  refine (implMRight_is k f t n a r p cap l _ q HQ.out hl hrow1).mono ?_
  rintro e x1 ⟨rfl, bx⟩
  have b2 := b1.trans (bx.mono b1.size)
  have p2 := p1.keep bx
  clear b1 bx HW p1 hrow1
  cases q with
  | false =>
    clear HQ p2
    go_wp2
    go_ret
    exact ⟨rfl, b2⟩
  | true =>
  have HO : Hid (MailV.ok ⟨k, f, t, n, a, r, l⟩) := HQ.out.1 rfl
  have hlen : l.length ≤ 6 := rightV_len HO.out.2.2.1
  have HWF : Hid (∀ x ∈ MailV.nums ⟨k, f, t, n, a, r, l⟩, (Lit.int .i64 x).wf = true) := mail_wf HO.out
  have HNL : Hid ((MailV.nums ⟨k, f, t, n, a, r, l⟩).length ≤ 25) := nums_len HO.out
  clear HQ HO
  obtain ⟨c0, c1, c2, c3, c4, c5, c6⟩ := (⟨p2.cell 0, p2.cell 1, p2.cell 2, p2.cell 3, p2.cell 4, p2.cell 5, p2.cell 6⟩ : x1.cell? ⟨w.heap.size, 0, none⟩ = some (.int .i64 k) ∧ x1.cell? ⟨w.heap.size, 1, none⟩ = some (.int .i64 f) ∧ x1.cell? ⟨w.heap.size, 2, none⟩ = some (.int .i64 t) ∧ x1.cell? ⟨w.heap.size, 3, none⟩ = some (.int .i64 n) ∧ x1.cell? ⟨w.heap.size, 4, none⟩ = some (.int .i64 a) ∧ x1.cell? ⟨w.heap.size, 5, none⟩ = some (.int .i64 r) ∧ x1.cell? ⟨w.heap.size, 6, none⟩ = some (.slice p l.length cap))
  have hrow2 := hrow.keep b2
  obtain ⟨i0, hi, hz0, hz1, hz2⟩ := info_partsI
  go_upto_region 4 with fail
  have O0 := World.ownsRow_lit (base := w.heap.size) (e := 2) (size := 1) x1 #[.int .i64 k, .int .i64 f, .int .i64 t, .int .i64 n, .int .i64 a, .int .i64 r, .int .i64 l.length] 7 b2.size (by simp [maxLen]) rfl
  have B0 := b2.alloc b2.size (.cells #[.int .i64 k, .int .i64 f, .int .i64 t, .int .i64 n, .int .i64 a, .int .i64 r, .int .i64 l.length] 2)
  have d6 := (p2.keep ((Below.refl _ _).alloc (Nat.le_refl _) (.cells #[.int .i64 k, .int .i64 f, .int .i64 t, .int .i64 n, .int .i64 a, .int .i64 r, .int .i64 l.length] 2))).cell 6
  simp only [List.getElem?_toArray, List.getElem?_cons_succ, List.getElem?_cons_zero] at d6
  obtain ⟨Y, hY⟩ : ∃ Y, x1.alloc (.cells #[.int .i64 k, .int .i64 f, .int .i64 t, .int .i64 n, .int .i64 a, .int .i64 r, .int .i64 l.length] 2) = Y := ⟨_, rfl⟩
  rw [hY] at O0 B0 d6 ⊢
  clear c0 c1 c2 c3 c4 c5 c6 hY p2
  go_wp2
  go_loopw [28, 3, 5] (fun i v _ wr => ∃ j : Nat, j ≤ l.length ∧ i = .int .i64 j ∧ wr.ownsRow w.heap.size 2 1 v (7 + 3 * j) (numsV (MailV.head ⟨k, f, t, n, a, r, l⟩ ++ factsN (l.take j))) ∧ Below w.heap.size w wr) (fun i _ _ _ => l.length - (intOf i).toNat)
  case atStart => exact ⟨0, Nat.zero_le _, rfl, O0, B0⟩
  case round =>
    obtain ⟨j, hj, rfl, hown, hb⟩ := hrel
    by_cases hx : j < l.length
    · obtain ⟨b, off, rfl⟩ := hrow.addr (by rw [cellsOf_length FactV.cells_len]; omega)
      obtain ⟨x, hlx⟩ : ∃ x, l[j] = x := ⟨_, rfl⟩
      obtain ⟨y1, y2, y3⟩ := x
      obtain ⟨_, q0, q1, q2⟩ := (hrow.keep hb).fact hx hlx
      have HT : Hid (factsN (l.take (j + 1)) = factsN (l.take j) ++ [y1, y2, y3]) := by
        show _ = _
        rw [factsN_take l j hx, hlx]; rfl
      have hx' : (j : Int) < (l.length : Int) := by omega
      clear hlx
      dsimp only at q0 q1 q2
      have hsz := hb.size
      have B1 := hb.alloc hb.size (.cells #[.int .i64 y1, .int .i64 y2, .int .i64 y3] 43)
      have B2 := B1.alloc B1.size (.cells #[.int .i64 y1, .int .i64 y2, .int .i64 y3] 2)
      have hown2 := (hown.alloc (.cells #[.int .i64 y1, .int .i64 y2, .int .i64 y3] 43)).alloc (.cells #[.int .i64 y1, .int .i64 y2, .int .i64 y3] 2)
      have hc3 := cells_three (wr.alloc (.cells #[.int .i64 y1, .int .i64 y2, .int .i64 y3] 43)) 2 (.int .i64 y1) (.int .i64 y2) (.int .i64 y3)
      rw [World.size_alloc] at hc3
      have HC : Hid (∀ (j : Nat) u, [Value.int .i64 y1, .int .i64 y2, .int .i64 y3][j]? = some u → ((wr.alloc (.cells #[.int .i64 y1, .int .i64 y2, .int .i64 y3] 43)).alloc (.cells #[.int .i64 y1, .int .i64 y2, .int .i64 y3] 2)).cell? ((⟨wr.heap.size + 1, 0, none⟩ : Addr).add j) = some u) := hc3
      clear hc3
      go_wp2_with (at_builtin; refine wpList_append_own _ rfl _ _ 41 rfl w.heap.size 2 i0 (.int .i64 0) 1 8 Tryd.underlying41 hi hz0 hz1 hz2 rfl (by decide) _ _ _ rfl hown2 ⟨wr.heap.size + 1, 0, none⟩ 3 3 [.int .i64 y1, .int .i64 y2, .int .i64 y3] rfl rfl HC.out ?c2 ?c3 ?c4 ?c5 ?_)
      case c2 => intro u hu; simp at hu; rcases hu with rfl | rfl | rfl <;> rfl
      case c3 => unfold maxLen; omega
      case c4 => omega
      case c5 => exact B2.size
      · intro v' w1 hown' hgrow _
        have hb2 : Below w.heap.size w w1 := B2.grown hgrow B2.size (fun g hg => (hown2.lt g hg).1)
        have ho : w1.ownsRow w.heap.size 2 1 v' (7 + 3 * (j + 1)) (numsV (MailV.head ⟨k, f, t, n, a, r, l⟩ ++ factsN (l.take (j + 1)))) := by
          rw [HT.out, ← List.append_assoc, numsV_append]
          exact hown'
        clear hown' hgrow hown hown2 B1 B2 HT HC hb q0 q1 q2
        go_wp2
        go_roundw
        case rel => exact ⟨j + 1, by omega, by go_num, ho, hb2⟩
        case measure => simp [intOf]; omega
    · obtain rfl : j = l.length := by omega
      rw [List.take_length] at hown
      have hN : MailV.head ⟨k, f, t, n, a, r, l⟩ ++ factsN l = MailV.nums ⟨k, f, t, n, a, r, l⟩ := rfl
      rw [hN] at hown
      have hL : 7 + 3 * l.length = (MailV.nums ⟨k, f, t, n, a, r, l⟩).length := by
        simp only [MailV.nums, MailV.head, List.length_append, factsN_length, List.length_cons, List.length_nil]
      rw [hL] at hown
      obtain ⟨N, hNN⟩ : ∃ N, MailV.nums ⟨k, f, t, n, a, r, l⟩ = N := ⟨_, rfl⟩
      have HB : Hid (MailV.out ⟨k, f, t, n, a, r, l⟩ true = sealB ⟨(numsB N).toArray⟩) := by rw [← hNN]; rfl
      have HP : Hid (0 < N.length) := by show 0 < N.length; rw [← hNN, ← hL]; omega
      rw [hNN] at hown HWF HNL
      clear hN hL hNN
      obtain ⟨aa, cc, rfl, on⟩ := own_nums hown
      have nr := on.row
      have HSZ : Hid ((⟨(numsB N).toArray⟩ : ByteArray).size ≤ 250) := by
        show (numsB N).toArray.size ≤ 250
        have := numsB_len N
        have := HNL.out
        simp only [List.size_toArray]
        omega
      clear on hown
      go_wp2_with fail
      refine (numsText_any _ _ N _ HP.out (Nat.le_trans HNL.out (by omega)) HWF.out nr).mono ?_
      rintro e x ⟨rfl, bx⟩
      have b3 := hb.trans (bx.mono hb.size)
      clear bx nr hb
      go_wp2_with fail
      refine (implSeal_any ⟨(numsB N).toArray⟩ _ (Nat.le_trans HSZ.out (by unfold maxLen; omega))).mono ?_
      rintro e x' ⟨rfl, bx⟩
      have b4 := b3.trans (bx.mono b3.size)
      clear bx b3
      go_wp2
      go_ret
      exact ⟨by rw [HB.out]; rfl, b4⟩
end Go.Proofs.YtpjdkgcdkfmkiaaDoor
