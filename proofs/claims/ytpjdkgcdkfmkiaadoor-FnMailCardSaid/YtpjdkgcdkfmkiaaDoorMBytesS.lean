/- The contract of the specification's MailBytes. -/
import Derived.Test.YtpjdkgcdkfmkiaaDoorG29
import Derived.Test.YtpjdkgcdkfmkiaaDoorMRightS
import Derived.Test.YtpjdkgcdkfmkiaaDoorG27
import Derived.Test.YtpjdkgcdkfmkiaaDoorG11
import Derived.Test.YtpjdkgcdkfmkiaaDoorG8
namespace Go.Proofs.YtpjdkgcdkfmkiaaDoor
open Go Go.RowKit
set_option linter.unusedVariables false
set_option linter.unusedSimpArgs false

theorem bytes_two (l m : List UInt8) : (⟨l.toArray⟩ : ByteArray) ++ (⟨m.toArray⟩ : ByteArray) = ⟨(l ++ m).toArray⟩ := by rw [bytes_append]
set_option maxHeartbeats 2000000 in
set_option maxRecDepth 100000 in
theorem specL05_any (k f t n a r : Int) (p : Option Addr) (cap : Nat) (l : List FactV) (w : World) (hok : MailV.ok ⟨k, f, t, n, a, r, l⟩) (hrow : CellRow w p (cellsOf FactV.cells l)) :
    Calls Tryd.prog 28 #[.agg #[.int .i64 k, .int .i64 f, .int .i64 t, .int .i64 n, .int .i64 a, .int .i64 r, .slice p l.length cap]] w fun e w' => e = .returned (.string ⟨(MailV.bytes ⟨k, f, t, n, a, r, l⟩).toArray⟩) ∧ Below w.heap.size w w' := by
  have hlen : l.length ≤ 6 := rightV_len hok.2.2.1
  have HWF : Hid (∀ x ∈ MailV.nums ⟨k, f, t, n, a, r, l⟩, (Lit.int .i64 x).wf = true) := mail_wf hok
  have HNL : Hid ((MailV.nums ⟨k, f, t, n, a, r, l⟩).length ≤ 25) := nums_len hok
  have hf := rightV_ok hok.2.2.1
  have HF : Hid (∀ d ∈ l, ∀ x ∈ factN d, (Lit.int .i64 x).wf = true) := fun d hd => fact_wf (hf d hd)
  clear hf hok
  have hw0 : ∀ x ∈ MailV.head ⟨k, f, t, n, a, r, l⟩, (Lit.int .i64 x).wf = true := fun x hx => HWF.out x (List.mem_append_left _ hx)
  have H0 : Hid ((Lit.int .i64 k).wf = true ∧ (Lit.int .i64 f).wf = true ∧ (Lit.int .i64 t).wf = true ∧ (Lit.int .i64 n).wf = true ∧ (Lit.int .i64 a).wf = true ∧ (Lit.int .i64 r).wf = true ∧ (Lit.int .i64 (l.length : Int)).wf = true) := by
    simpa [MailV.head, Hid] using hw0
  clear hw0
  have b1 := (Below.refl w.heap.size w).alloc (Nat.le_refl _) (.cells #[.int .i64 k, .int .i64 f, .int .i64 t, .int .i64 n, .int .i64 a, .int .i64 r, .slice p l.length cap] 25)
  have p1 := BlkIs.new w 25 #[.int .i64 k, .int .i64 f, .int .i64 t, .int .i64 n, .int .i64 a, .int .i64 r, .slice p l.length cap]
  obtain ⟨W, hW⟩ : ∃ W, w.alloc (.cells #[.int .i64 k, .int .i64 f, .int .i64 t, .int .i64 n, .int .i64 a, .int .i64 r, .slice p l.length cap] 25) = W := ⟨_, rfl⟩
  rw [hW] at b1 p1
  have HW : Hid (_ = W) := hW
  clear hW
  go_enter Tryd.func28, Tryd.ntmps28
  go_upto_region 1 with fail
  rw [HW.out]
  clear HW
  have L0 := putN_len k
  have L1 := putN_len f
  have L2 := putN_len t
  have L3 := putN_len n
  have L4 := putN_len a
  have L5 := putN_len r
  have L6 := putN_len (l.length : Int)
  refine wp_region_held_drew (S := (fun w' => Below W.heap.size W w')) (by kernel_rfl) ?hS0 (fun hHeld => ?_)
  case hS0 => exact (Below.refl _ _).drew
  refine takeG 0 (v := .pointer (some ⟨w.heap.size, 0, none⟩)) rfl (by kernel_rfl) (by kernel_rfl) (by kernel_rfl) (by kernel_rfl) (fun _ _ _ h => h) ?hy (by assumption) ?_
  case hy => (intro w' hSw; go_simp)
  try simp only [List.setIfInBounds_toArray, List.set_cons_zero, List.set_cons_succ]
  refine takeG 1 (v := .int .i64 k) rfl (by kernel_rfl) (by kernel_rfl) (by kernel_rfl) (by kernel_rfl) (fun _ _ _ h => h) ?hy (by assumption) ?_
  case hy => (intro w' hSw; have s0 := (p1.keep hSw).cell 0; (try dsimp only at s0); go_simp)
  try simp only [List.setIfInBounds_toArray, List.set_cons_zero, List.set_cons_succ]
  refine takeG 3 (v := .pointer (some ⟨w.heap.size, 1, none⟩)) rfl (by kernel_rfl) (by kernel_rfl) (by kernel_rfl) (by kernel_rfl) (fun _ _ _ h => h) ?hy (by assumption) ?_
  case hy => (intro w' hSw; go_simp)
  try simp only [List.setIfInBounds_toArray, List.set_cons_zero, List.set_cons_succ]
  refine takeG 4 (v := .int .i64 f) rfl (by kernel_rfl) (by kernel_rfl) (by kernel_rfl) (by kernel_rfl) (fun _ _ _ h => h) ?hy (by assumption) ?_
  case hy => (intro w' hSw; have s0 := (p1.keep hSw).cell 1; (try dsimp only at s0); go_simp)
  try simp only [List.setIfInBounds_toArray, List.set_cons_zero, List.set_cons_succ]
  refine takeG 7 (v := .pointer (some ⟨w.heap.size, 2, none⟩)) rfl (by kernel_rfl) (by kernel_rfl) (by kernel_rfl) (by kernel_rfl) (fun _ _ _ h => h) ?hy (by assumption) ?_
  case hy => (intro w' hSw; go_simp)
  try simp only [List.setIfInBounds_toArray, List.set_cons_zero, List.set_cons_succ]
  refine takeG 8 (v := .int .i64 t) rfl (by kernel_rfl) (by kernel_rfl) (by kernel_rfl) (by kernel_rfl) (fun _ _ _ h => h) ?hy (by assumption) ?_
  case hy => (intro w' hSw; have s0 := (p1.keep hSw).cell 2; (try dsimp only at s0); go_simp)
  try simp only [List.setIfInBounds_toArray, List.set_cons_zero, List.set_cons_succ]
  refine takeG 11 (v := .pointer (some ⟨w.heap.size, 3, none⟩)) rfl (by kernel_rfl) (by kernel_rfl) (by kernel_rfl) (by kernel_rfl) (fun _ _ _ h => h) ?hy (by assumption) ?_
  case hy => (intro w' hSw; go_simp)
  try simp only [List.setIfInBounds_toArray, List.set_cons_zero, List.set_cons_succ]
  refine takeG 12 (v := .int .i64 n) rfl (by kernel_rfl) (by kernel_rfl) (by kernel_rfl) (by kernel_rfl) (fun _ _ _ h => h) ?hy (by assumption) ?_
  case hy => (intro w' hSw; have s0 := (p1.keep hSw).cell 3; (try dsimp only at s0); go_simp)
  try simp only [List.setIfInBounds_toArray, List.set_cons_zero, List.set_cons_succ]
  refine takeG 15 (v := .pointer (some ⟨w.heap.size, 4, none⟩)) rfl (by kernel_rfl) (by kernel_rfl) (by kernel_rfl) (by kernel_rfl) (fun _ _ _ h => h) ?hy (by assumption) ?_
  case hy => (intro w' hSw; go_simp)
  try simp only [List.setIfInBounds_toArray, List.set_cons_zero, List.set_cons_succ]
  refine takeG 16 (v := .int .i64 a) rfl (by kernel_rfl) (by kernel_rfl) (by kernel_rfl) (by kernel_rfl) (fun _ _ _ h => h) ?hy (by assumption) ?_
  case hy => (intro w' hSw; have s0 := (p1.keep hSw).cell 4; (try dsimp only at s0); go_simp)
  try simp only [List.setIfInBounds_toArray, List.set_cons_zero, List.set_cons_succ]
  refine takeG 19 (v := .pointer (some ⟨w.heap.size, 5, none⟩)) rfl (by kernel_rfl) (by kernel_rfl) (by kernel_rfl) (by kernel_rfl) (fun _ _ _ h => h) ?hy (by assumption) ?_
  case hy => (intro w' hSw; go_simp)
  try simp only [List.setIfInBounds_toArray, List.set_cons_zero, List.set_cons_succ]
  refine takeG 20 (v := .int .i64 r) rfl (by kernel_rfl) (by kernel_rfl) (by kernel_rfl) (by kernel_rfl) (fun _ _ _ h => h) ?hy (by assumption) ?_
  case hy => (intro w' hSw; have s0 := (p1.keep hSw).cell 5; (try dsimp only at s0); go_simp)
  try simp only [List.setIfInBounds_toArray, List.set_cons_zero, List.set_cons_succ]
  refine takeG 23 (v := .pointer (some ⟨w.heap.size, 6, none⟩)) rfl (by kernel_rfl) (by kernel_rfl) (by kernel_rfl) (by kernel_rfl) (fun _ _ _ h => h) ?hy (by assumption) ?_
  case hy => (intro w' hSw; go_simp)
  try simp only [List.setIfInBounds_toArray, List.set_cons_zero, List.set_cons_succ]
  refine takeG 24 (v := .slice p l.length cap) rfl (by kernel_rfl) (by kernel_rfl) (by kernel_rfl) (by kernel_rfl) (fun _ _ _ h => h) ?hy (by assumption) ?_
  case hy => (intro w' hSw; have s0 := (p1.keep hSw).cell 6; (try dsimp only at s0); go_simp)
  try simp only [List.setIfInBounds_toArray, List.set_cons_zero, List.set_cons_succ]
  refine takeG 25 (v := .int .i64 (l.length : Int)) rfl (by kernel_rfl) (by kernel_rfl) (by kernel_rfl) (by kernel_rfl) (fun _ _ _ h => h) ?hy (by assumption) ?_
  case hy => (intro w' hSw; go_simp)
  try simp only [List.setIfInBounds_toArray, List.set_cons_zero, List.set_cons_succ]
  refine runG 2 (by kernel_rfl) rfl (by kernel_rfl) ?_
  go_simp
  refine (specPut_any k _ H0.out.1).mono ?_
  rintro e z0 ⟨rfl, bz⟩
  replace hHeld : Below W.heap.size W z0 := hHeld.trans (bz.mono hHeld.size)
  refine ⟨hHeld, ?_⟩
  clear bz
  try simp only [Act.put, List.setIfInBounds_toArray, List.set_cons_zero, List.set_cons_succ]
  refine runG 5 (by kernel_rfl) rfl (by kernel_rfl) ?_
  go_simp
  refine (specPut_any f _ H0.out.2.1).mono ?_
  rintro e z1 ⟨rfl, bz⟩
  replace hHeld : Below W.heap.size W z1 := hHeld.trans (bz.mono hHeld.size)
  refine ⟨hHeld, ?_⟩
  clear bz
  try simp only [Act.put, List.setIfInBounds_toArray, List.set_cons_zero, List.set_cons_succ]
  refine takeG 6 (v := .string ((⟨(putN k).toArray⟩ : ByteArray) ++ (⟨(putN f).toArray⟩ : ByteArray))) rfl (by kernel_rfl) (by kernel_rfl) (by kernel_rfl) (by kernel_rfl) (fun _ _ _ h => h) ?hy (by assumption) ?_
  case hy => (intro w' hSw; go_simp; omega)
  try simp only [List.setIfInBounds_toArray, List.set_cons_zero, List.set_cons_succ]
  refine runG 9 (by kernel_rfl) rfl (by kernel_rfl) ?_
  go_simp
  refine (specPut_any t _ H0.out.2.2.1).mono ?_
  rintro e z2 ⟨rfl, bz⟩
  replace hHeld : Below W.heap.size W z2 := hHeld.trans (bz.mono hHeld.size)
  refine ⟨hHeld, ?_⟩
  clear bz
  try simp only [Act.put, List.setIfInBounds_toArray, List.set_cons_zero, List.set_cons_succ]
  refine takeG 10 (v := .string (((⟨(putN k).toArray⟩ : ByteArray) ++ (⟨(putN f).toArray⟩ : ByteArray)) ++ (⟨(putN t).toArray⟩ : ByteArray))) rfl (by kernel_rfl) (by kernel_rfl) (by kernel_rfl) (by kernel_rfl) (fun _ _ _ h => h) ?hy (by assumption) ?_
  case hy => (intro w' hSw; go_simp; omega)
  try simp only [List.setIfInBounds_toArray, List.set_cons_zero, List.set_cons_succ]
  refine runG 13 (by kernel_rfl) rfl (by kernel_rfl) ?_
  go_simp
  refine (specPut_any n _ H0.out.2.2.2.1).mono ?_
  rintro e z3 ⟨rfl, bz⟩
  replace hHeld : Below W.heap.size W z3 := hHeld.trans (bz.mono hHeld.size)
  refine ⟨hHeld, ?_⟩
  clear bz
  try simp only [Act.put, List.setIfInBounds_toArray, List.set_cons_zero, List.set_cons_succ]
  refine takeG 14 (v := .string ((((⟨(putN k).toArray⟩ : ByteArray) ++ (⟨(putN f).toArray⟩ : ByteArray)) ++ (⟨(putN t).toArray⟩ : ByteArray)) ++ (⟨(putN n).toArray⟩ : ByteArray))) rfl (by kernel_rfl) (by kernel_rfl) (by kernel_rfl) (by kernel_rfl) (fun _ _ _ h => h) ?hy (by assumption) ?_
  case hy => (intro w' hSw; go_simp; omega)
  try simp only [List.setIfInBounds_toArray, List.set_cons_zero, List.set_cons_succ]
  refine runG 17 (by kernel_rfl) rfl (by kernel_rfl) ?_
  go_simp
  refine (specPut_any a _ H0.out.2.2.2.2.1).mono ?_
  rintro e z4 ⟨rfl, bz⟩
  replace hHeld : Below W.heap.size W z4 := hHeld.trans (bz.mono hHeld.size)
  refine ⟨hHeld, ?_⟩
  clear bz
  try simp only [Act.put, List.setIfInBounds_toArray, List.set_cons_zero, List.set_cons_succ]
  refine takeG 18 (v := .string (((((⟨(putN k).toArray⟩ : ByteArray) ++ (⟨(putN f).toArray⟩ : ByteArray)) ++ (⟨(putN t).toArray⟩ : ByteArray)) ++ (⟨(putN n).toArray⟩ : ByteArray)) ++ (⟨(putN a).toArray⟩ : ByteArray))) rfl (by kernel_rfl) (by kernel_rfl) (by kernel_rfl) (by kernel_rfl) (fun _ _ _ h => h) ?hy (by assumption) ?_
  case hy => (intro w' hSw; go_simp; omega)
  try simp only [List.setIfInBounds_toArray, List.set_cons_zero, List.set_cons_succ]
  refine runG 21 (by kernel_rfl) rfl (by kernel_rfl) ?_
  go_simp
  refine (specPut_any r _ H0.out.2.2.2.2.2.1).mono ?_
  rintro e z5 ⟨rfl, bz⟩
  replace hHeld : Below W.heap.size W z5 := hHeld.trans (bz.mono hHeld.size)
  refine ⟨hHeld, ?_⟩
  clear bz
  try simp only [Act.put, List.setIfInBounds_toArray, List.set_cons_zero, List.set_cons_succ]
  refine takeG 22 (v := .string ((((((⟨(putN k).toArray⟩ : ByteArray) ++ (⟨(putN f).toArray⟩ : ByteArray)) ++ (⟨(putN t).toArray⟩ : ByteArray)) ++ (⟨(putN n).toArray⟩ : ByteArray)) ++ (⟨(putN a).toArray⟩ : ByteArray)) ++ (⟨(putN r).toArray⟩ : ByteArray))) rfl (by kernel_rfl) (by kernel_rfl) (by kernel_rfl) (by kernel_rfl) (fun _ _ _ h => h) ?hy (by assumption) ?_
  case hy => (intro w' hSw; go_simp; omega)
  try simp only [List.setIfInBounds_toArray, List.set_cons_zero, List.set_cons_succ]
  refine runG 26 (by kernel_rfl) rfl (by kernel_rfl) ?_
  go_simp
  refine (specPut_any (l.length : Int) _ H0.out.2.2.2.2.2.2).mono ?_
  rintro e z6 ⟨rfl, bz⟩
  replace hHeld : Below W.heap.size W z6 := hHeld.trans (bz.mono hHeld.size)
  refine ⟨hHeld, ?_⟩
  clear bz
  try simp only [Act.put, List.setIfInBounds_toArray, List.set_cons_zero, List.set_cons_succ]
  refine takeG 27 (v := .string (((((((⟨(putN k).toArray⟩ : ByteArray) ++ (⟨(putN f).toArray⟩ : ByteArray)) ++ (⟨(putN t).toArray⟩ : ByteArray)) ++ (⟨(putN n).toArray⟩ : ByteArray)) ++ (⟨(putN a).toArray⟩ : ByteArray)) ++ (⟨(putN r).toArray⟩ : ByteArray)) ++ (⟨(putN (l.length : Int)).toArray⟩ : ByteArray))) rfl (by kernel_rfl) (by kernel_rfl) (by kernel_rfl) (by kernel_rfl) (fun _ _ _ h => h) ?hy (by assumption) ?_
  case hy => (intro w' hSw; go_simp; omega)
  try simp only [List.setIfInBounds_toArray, List.set_cons_zero, List.set_cons_succ]
  refine takeG 28 (v := .string (((((((⟨(putN k).toArray⟩ : ByteArray) ++ (⟨(putN f).toArray⟩ : ByteArray)) ++ (⟨(putN t).toArray⟩ : ByteArray)) ++ (⟨(putN n).toArray⟩ : ByteArray)) ++ (⟨(putN a).toArray⟩ : ByteArray)) ++ (⟨(putN r).toArray⟩ : ByteArray)) ++ (⟨(putN (l.length : Int)).toArray⟩ : ByteArray))) rfl (by kernel_rfl) (by kernel_rfl) (by kernel_rfl) (by kernel_rfl) (fun _ _ _ h => h) ?hy (by assumption) ?_
  case hy => (intro w' hSw; go_simp)
  try simp only [List.setIfInBounds_toArray, List.set_cons_zero, List.set_cons_succ]
  refine wpAnyH_done (by kernel_rfl) ?_ _
  have b2 := b1.trans (hHeld.mono b1.size)
  have p2 := p1.keep hHeld
  have e0 : (((((((⟨(putN k).toArray⟩ : ByteArray) ++ (⟨(putN f).toArray⟩ : ByteArray)) ++ (⟨(putN t).toArray⟩ : ByteArray)) ++ (⟨(putN n).toArray⟩ : ByteArray)) ++ (⟨(putN a).toArray⟩ : ByteArray)) ++ (⟨(putN r).toArray⟩ : ByteArray)) ++ (⟨(putN (l.length : Int)).toArray⟩ : ByteArray)) = ⟨(numsB (MailV.head ⟨k, f, t, n, a, r, l⟩ ++ factsN (l.take 0))).toArray⟩ := by
    simp only [bytes_two, numsB, MailV.head, factsN, List.take_zero, List.flatMap_nil, List.append_nil, List.flatMap_cons, List.append_assoc]
  rw [e0]
  clear e0 hHeld H0 b1 p1 L0 L1 L2 L3 L4 L5 L6
  go_wp2
  go_loopw [4, 3] (fun i v wr => ∃ j : Nat, j ≤ l.length ∧ i = .int .i64 j ∧ v = .string ⟨(numsB (MailV.head ⟨k, f, t, n, a, r, l⟩ ++ factsN (l.take j))).toArray⟩ ∧ Below z6.heap.size z6 wr) (fun i _ _ => l.length - (intOf i).toNat)
  case atStart => exact ⟨0, Nat.zero_le _, rfl, rfl, Below.refl _ _⟩
  case round =>
    obtain ⟨j, hj, rfl, rfl, hb⟩ := hrel
    have p3 := p2.keep hb
    have b3 := b2.trans (hb.mono b2.size)
    have c6 := p3.cell 6
    simp only [List.getElem?_toArray, List.getElem?_cons_succ, List.getElem?_cons_zero] at c6
    obtain ⟨T, hT⟩ : ∃ T, numsB (MailV.head ⟨k, f, t, n, a, r, l⟩ ++ factsN (l.take j)) = T := ⟨_, rfl⟩
    rw [hT]
    have HT : Hid (numsB (MailV.head ⟨k, f, t, n, a, r, l⟩ ++ factsN (l.take j)) = T) := hT
    have hTl : T.length ≤ 250 := by
      have h1 := numsB_len (MailV.head ⟨k, f, t, n, a, r, l⟩ ++ factsN (l.take j))
      rw [hT] at h1
      simp only [MailV.head, List.length_append, factsN_length, List.length_cons, List.length_nil, List.length_take] at h1
      omega
    clear hT
    by_cases hx : j < l.length
    · obtain ⟨b, off, rfl⟩ := hrow.addr (by rw [cellsOf_length FactV.cells_len]; omega)
      obtain ⟨x, hlx⟩ : ∃ x, l[j] = x := ⟨_, rfl⟩
      obtain ⟨y1, y2, y3⟩ := x
      have d0 := (hrow.keep b3).fact hx hlx
      have HY : Hid ((Lit.int .i64 y1).wf = true ∧ (Lit.int .i64 y2).wf = true ∧ (Lit.int .i64 y3).wf = true) := by
        have := HF.out l[j] (List.getElem_mem hx)
        rw [hlx] at this
        simpa [factN, Hid] using this
      have HN : Hid (((((⟨T.toArray⟩ : ByteArray) ++ (⟨(putN y1).toArray⟩ : ByteArray)) ++ (⟨(putN y2).toArray⟩ : ByteArray)) ++ (⟨(putN y3).toArray⟩ : ByteArray)) = ⟨(numsB (MailV.head ⟨k, f, t, n, a, r, l⟩ ++ factsN (l.take (j + 1)))).toArray⟩) := by
        show _ = _
        rw [factsN_take l j hx, hlx, ← List.append_assoc, numsB_append, HT.out]
        simp only [bytes_two, numsB, factN, List.flatMap_cons, List.flatMap_nil, List.append_nil, List.append_assoc]
      have hx' : (j : Int) < (l.length : Int) := by omega
      clear hlx
      have L1 := putN_len y1
      have L2 := putN_len y2
      have L3 := putN_len y3
      go_upto_region 5 with fail
      clear c6
      refine wp_region_held_drew (S := (fun w' => Below wr.heap.size wr w')) (by kernel_rfl) ?hS0 (fun hHeld => ?_)
      case hS0 => exact (Below.refl _ _).drew
      refine takeG 0 (v := .string ⟨T.toArray⟩) rfl (by kernel_rfl) (by kernel_rfl) (by kernel_rfl) (by kernel_rfl) (fun _ _ _ h => h) ?hy (by assumption) ?_
      case hy => (intro w' hSw; go_simp)
      try simp only [List.setIfInBounds_toArray, List.set_cons_zero, List.set_cons_succ]
      refine takeG 1 (v := .pointer (some ⟨w.heap.size, 6, none⟩)) rfl (by kernel_rfl) (by kernel_rfl) (by kernel_rfl) (by kernel_rfl) (fun _ _ _ h => h) ?hy (by assumption) ?_
      case hy => (intro w' hSw; go_simp)
      try simp only [List.setIfInBounds_toArray, List.set_cons_zero, List.set_cons_succ]
      refine takeG 2 (v := .slice (some ⟨b, off, none⟩) l.length cap) rfl (by kernel_rfl) (by kernel_rfl) (by kernel_rfl) (by kernel_rfl) (fun _ _ _ h => h) ?hy (by assumption) ?_
      case hy => (intro w' hSw; have s0 := (p3.keep hSw).cell 6; (try dsimp only at s0); go_simp)
      try simp only [List.setIfInBounds_toArray, List.set_cons_zero, List.set_cons_succ]
      refine takeG 3 (v := .int .i64 (j : Int)) rfl (by kernel_rfl) (by kernel_rfl) (by kernel_rfl) (by kernel_rfl) (fun _ _ _ h => h) ?hy (by assumption) ?_
      case hy => (intro w' hSw; go_simp)
      try simp only [List.setIfInBounds_toArray, List.set_cons_zero, List.set_cons_succ]
      refine takeG 4 (v := .pointer (some ⟨b, off + j * 3, none⟩)) rfl (by kernel_rfl) (by kernel_rfl) (by kernel_rfl) (by kernel_rfl) (fun _ _ _ h => h) ?hy (by assumption) ?_
      case hy => (intro w' hSw; go_simp)
      try simp only [List.setIfInBounds_toArray, List.set_cons_zero, List.set_cons_succ]
      refine takeG 5 (v := .pointer (some ⟨b, off + j * 3, none⟩)) rfl (by kernel_rfl) (by kernel_rfl) (by kernel_rfl) (by kernel_rfl) (fun _ _ _ h => h) ?hy (by assumption) ?_
      case hy => (intro w' hSw; go_simp)
      try simp only [List.setIfInBounds_toArray, List.set_cons_zero, List.set_cons_succ]
      refine takeG 6 (v := .int .i64 y1) rfl (by kernel_rfl) (by kernel_rfl) (by kernel_rfl) (by kernel_rfl) (fun _ _ _ h => h) ?hy (by assumption) ?_
      case hy => (intro w' hSw; obtain ⟨_, s0, s1, s2⟩ := (d0).keep hSw; dsimp only at s0 s1 s2; go_simp)
      try simp only [List.setIfInBounds_toArray, List.set_cons_zero, List.set_cons_succ]
      refine takeG 9 (v := .pointer (some ⟨w.heap.size, 6, none⟩)) rfl (by kernel_rfl) (by kernel_rfl) (by kernel_rfl) (by kernel_rfl) (fun _ _ _ h => h) ?hy (by assumption) ?_
      case hy => (intro w' hSw; go_simp)
      try simp only [List.setIfInBounds_toArray, List.set_cons_zero, List.set_cons_succ]
      refine takeG 10 (v := .slice (some ⟨b, off, none⟩) l.length cap) rfl (by kernel_rfl) (by kernel_rfl) (by kernel_rfl) (by kernel_rfl) (fun _ _ _ h => h) ?hy (by assumption) ?_
      case hy => (intro w' hSw; have s0 := (p3.keep hSw).cell 6; (try dsimp only at s0); go_simp)
      try simp only [List.setIfInBounds_toArray, List.set_cons_zero, List.set_cons_succ]
      refine takeG 11 (v := .int .i64 (j : Int)) rfl (by kernel_rfl) (by kernel_rfl) (by kernel_rfl) (by kernel_rfl) (fun _ _ _ h => h) ?hy (by assumption) ?_
      case hy => (intro w' hSw; go_simp)
      try simp only [List.setIfInBounds_toArray, List.set_cons_zero, List.set_cons_succ]
      refine takeG 12 (v := .pointer (some ⟨b, off + j * 3, none⟩)) rfl (by kernel_rfl) (by kernel_rfl) (by kernel_rfl) (by kernel_rfl) (fun _ _ _ h => h) ?hy (by assumption) ?_
      case hy => (intro w' hSw; go_simp)
      try simp only [List.setIfInBounds_toArray, List.set_cons_zero, List.set_cons_succ]
      refine takeG 13 (v := .pointer (some ⟨b, off + j * 3 + 1, none⟩)) rfl (by kernel_rfl) (by kernel_rfl) (by kernel_rfl) (by kernel_rfl) (fun _ _ _ h => h) ?hy (by assumption) ?_
      case hy => (intro w' hSw; go_simp)
      try simp only [List.setIfInBounds_toArray, List.set_cons_zero, List.set_cons_succ]
      refine takeG 14 (v := .int .i64 y2) rfl (by kernel_rfl) (by kernel_rfl) (by kernel_rfl) (by kernel_rfl) (fun _ _ _ h => h) ?hy (by assumption) ?_
      case hy => (intro w' hSw; obtain ⟨_, s0, s1, s2⟩ := (d0).keep hSw; dsimp only at s0 s1 s2; go_simp)
      try simp only [List.setIfInBounds_toArray, List.set_cons_zero, List.set_cons_succ]
      refine takeG 17 (v := .pointer (some ⟨w.heap.size, 6, none⟩)) rfl (by kernel_rfl) (by kernel_rfl) (by kernel_rfl) (by kernel_rfl) (fun _ _ _ h => h) ?hy (by assumption) ?_
      case hy => (intro w' hSw; go_simp)
      try simp only [List.setIfInBounds_toArray, List.set_cons_zero, List.set_cons_succ]
      refine takeG 18 (v := .slice (some ⟨b, off, none⟩) l.length cap) rfl (by kernel_rfl) (by kernel_rfl) (by kernel_rfl) (by kernel_rfl) (fun _ _ _ h => h) ?hy (by assumption) ?_
      case hy => (intro w' hSw; have s0 := (p3.keep hSw).cell 6; (try dsimp only at s0); go_simp)
      try simp only [List.setIfInBounds_toArray, List.set_cons_zero, List.set_cons_succ]
      refine takeG 19 (v := .int .i64 (j : Int)) rfl (by kernel_rfl) (by kernel_rfl) (by kernel_rfl) (by kernel_rfl) (fun _ _ _ h => h) ?hy (by assumption) ?_
      case hy => (intro w' hSw; go_simp)
      try simp only [List.setIfInBounds_toArray, List.set_cons_zero, List.set_cons_succ]
      refine takeG 20 (v := .pointer (some ⟨b, off + j * 3, none⟩)) rfl (by kernel_rfl) (by kernel_rfl) (by kernel_rfl) (by kernel_rfl) (fun _ _ _ h => h) ?hy (by assumption) ?_
      case hy => (intro w' hSw; go_simp)
      try simp only [List.setIfInBounds_toArray, List.set_cons_zero, List.set_cons_succ]
      refine takeG 21 (v := .pointer (some ⟨b, off + j * 3 + 2, none⟩)) rfl (by kernel_rfl) (by kernel_rfl) (by kernel_rfl) (by kernel_rfl) (fun _ _ _ h => h) ?hy (by assumption) ?_
      case hy => (intro w' hSw; go_simp)
      try simp only [List.setIfInBounds_toArray, List.set_cons_zero, List.set_cons_succ]
      refine takeG 22 (v := .int .i64 y3) rfl (by kernel_rfl) (by kernel_rfl) (by kernel_rfl) (by kernel_rfl) (fun _ _ _ h => h) ?hy (by assumption) ?_
      case hy => (intro w' hSw; obtain ⟨_, s0, s1, s2⟩ := (d0).keep hSw; dsimp only at s0 s1 s2; go_simp)
      try simp only [List.setIfInBounds_toArray, List.set_cons_zero, List.set_cons_succ]
      refine runG 7 (by kernel_rfl) rfl (by kernel_rfl) ?_
      go_simp
      refine (specPut_any y1 _ HY.out.1).mono ?_
      rintro e u0 ⟨rfl, bz⟩
      replace hHeld : Below wr.heap.size wr u0 := hHeld.trans (bz.mono hHeld.size)
      refine ⟨hHeld, ?_⟩
      clear bz
      try simp only [Act.put, List.setIfInBounds_toArray, List.set_cons_zero, List.set_cons_succ]
      refine takeG 8 (v := .string ((⟨T.toArray⟩ : ByteArray) ++ (⟨(putN y1).toArray⟩ : ByteArray))) rfl (by kernel_rfl) (by kernel_rfl) (by kernel_rfl) (by kernel_rfl) (fun _ _ _ h => h) ?hy (by assumption) ?_
      case hy => (intro w' hSw; go_simp; omega)
      try simp only [List.setIfInBounds_toArray, List.set_cons_zero, List.set_cons_succ]
      refine runG 15 (by kernel_rfl) rfl (by kernel_rfl) ?_
      go_simp
      refine (specPut_any y2 _ HY.out.2.1).mono ?_
      rintro e u1 ⟨rfl, bz⟩
      replace hHeld : Below wr.heap.size wr u1 := hHeld.trans (bz.mono hHeld.size)
      refine ⟨hHeld, ?_⟩
      clear bz
      try simp only [Act.put, List.setIfInBounds_toArray, List.set_cons_zero, List.set_cons_succ]
      refine takeG 16 (v := .string (((⟨T.toArray⟩ : ByteArray) ++ (⟨(putN y1).toArray⟩ : ByteArray)) ++ (⟨(putN y2).toArray⟩ : ByteArray))) rfl (by kernel_rfl) (by kernel_rfl) (by kernel_rfl) (by kernel_rfl) (fun _ _ _ h => h) ?hy (by assumption) ?_
      case hy => (intro w' hSw; go_simp; omega)
      try simp only [List.setIfInBounds_toArray, List.set_cons_zero, List.set_cons_succ]
      refine runG 23 (by kernel_rfl) rfl (by kernel_rfl) ?_
      go_simp
      refine (specPut_any y3 _ HY.out.2.2).mono ?_
      rintro e u2 ⟨rfl, bz⟩
      replace hHeld : Below wr.heap.size wr u2 := hHeld.trans (bz.mono hHeld.size)
      refine ⟨hHeld, ?_⟩
      clear bz
      try simp only [Act.put, List.setIfInBounds_toArray, List.set_cons_zero, List.set_cons_succ]
      refine takeG 24 (v := .string ((((⟨T.toArray⟩ : ByteArray) ++ (⟨(putN y1).toArray⟩ : ByteArray)) ++ (⟨(putN y2).toArray⟩ : ByteArray)) ++ (⟨(putN y3).toArray⟩ : ByteArray))) rfl (by kernel_rfl) (by kernel_rfl) (by kernel_rfl) (by kernel_rfl) (fun _ _ _ h => h) ?hy (by assumption) ?_
      case hy => (intro w' hSw; go_simp; omega)
      try simp only [List.setIfInBounds_toArray, List.set_cons_zero, List.set_cons_succ]
      refine takeG 25 (v := .string ((((⟨T.toArray⟩ : ByteArray) ++ (⟨(putN y1).toArray⟩ : ByteArray)) ++ (⟨(putN y2).toArray⟩ : ByteArray)) ++ (⟨(putN y3).toArray⟩ : ByteArray))) rfl (by kernel_rfl) (by kernel_rfl) (by kernel_rfl) (by kernel_rfl) (fun _ _ _ h => h) ?hy (by assumption) ?_
      case hy => (intro w' hSw; go_simp)
      try simp only [List.setIfInBounds_toArray, List.set_cons_zero, List.set_cons_succ]
      refine wpAnyH_done (by kernel_rfl) ?_ _
      have hb4 := hb.trans (hHeld.mono hb.size)
      clear hHeld HT
      go_wp2
      refine ⟨?_, ?measure⟩
      (repeat apply Exists.intro)
      refine ⟨?rel, rfl⟩
      case rel => exact ⟨j + 1, by omega, by go_num, by rw [← HN.out], hb4⟩
      case measure => simp [intOf]; omega
    · obtain rfl : j = l.length := by omega
      rw [List.take_length] at HT
      have HB : Hid (MailV.bytes ⟨k, f, t, n, a, r, l⟩ = sealB ⟨T.toArray⟩) := by
        show _ = _
        rw [← HT.out]; rfl
      have HSZ : Hid ((⟨T.toArray⟩ : ByteArray).size ≤ 250) := by
        show T.toArray.size ≤ 250
        have h1 := numsB_len (MailV.nums ⟨k, f, t, n, a, r, l⟩)
        have h2 := HNL.out
        have h3 : numsB (MailV.nums ⟨k, f, t, n, a, r, l⟩) = T := HT.out
        rw [h3] at h1
        simp only [List.size_toArray]
        omega
      clear HT
      go_wp2_with fail
      refine (specSeal_any ⟨T.toArray⟩ _ (Nat.le_trans HSZ.out (by unfold maxLen; omega))).mono ?_
      rintro e x' ⟨rfl, bx⟩
      have b4 := b3.trans (bx.mono b3.size)
      clear bx b3
      go_wp2
      go_ret
      exact ⟨by rw [HB.out]; rfl, b4⟩
theorem specMBytes_any (k f t n a r : Int) (p : Option Addr) (cap : Nat) (l : List FactV) (w : World) (q : Bool) (hq : q = true ↔ MailV.ok ⟨k, f, t, n, a, r, l⟩) (hl : l.length ≤ 1048576) (hrow : CellRow w p (cellsOf FactV.cells l)) :
    Calls Tryd.prog 9 #[.agg #[.int .i64 k, .int .i64 f, .int .i64 t, .int .i64 n, .int .i64 a, .int .i64 r, .slice p l.length cap]] w fun e w' => e = .returned (.string ⟨(MailV.out ⟨k, f, t, n, a, r, l⟩ q).toArray⟩) ∧ Below w.heap.size w w' := by
  have b1 := (Below.refl w.heap.size w).alloc (Nat.le_refl _) (.cells #[.int .i64 k, .int .i64 f, .int .i64 t, .int .i64 n, .int .i64 a, .int .i64 r, .slice p l.length cap] 25)
  have p1 := BlkIs.new w 25 #[.int .i64 k, .int .i64 f, .int .i64 t, .int .i64 n, .int .i64 a, .int .i64 r, .slice p l.length cap]
  obtain ⟨W, hW⟩ : ∃ W, w.alloc (.cells #[.int .i64 k, .int .i64 f, .int .i64 t, .int .i64 n, .int .i64 a, .int .i64 r, .slice p l.length cap] 25) = W := ⟨_, rfl⟩
  rw [hW] at b1 p1
  have HW : Hid (_ = W) := hW
  have HQ : Hid (q = true ↔ MailV.ok ⟨k, f, t, n, a, r, l⟩) := hq
  have hrow1 := hrow.keep b1
  clear hW hq
  go_enter Tryd.func9, Tryd.ntmps9
  go_wp2_with fail
  rw [HW.out]
  refine (specMRight_is k f t n a r p cap l _ q HQ.out hl hrow1).mono ?_
  rintro e x1 ⟨rfl, bx⟩
  have b2 := b1.trans (bx.mono b1.size)
  have p2 := p1.keep bx
  clear b1 bx HW p1 hrow1
  cases q with
  | false =>
    clear HQ p2
    go_wp2
    go_ret
    exact ⟨rfl, b2⟩
  | true =>
  have HO : Hid (MailV.ok ⟨k, f, t, n, a, r, l⟩) := HQ.out.1 rfl
  clear HQ
  have c0 := p2.cell 0
  have c1 := p2.cell 1
  have c2 := p2.cell 2
  have c3 := p2.cell 3
  have c4 := p2.cell 4
  have c5 := p2.cell 5
  have c6 := p2.cell 6
  simp only [List.getElem?_toArray, List.getElem?_cons_succ, List.getElem?_cons_zero] at c0 c1 c2 c3 c4 c5 c6
  go_wp2_with fail
  clear c0 c1 c2 c3 c4 c5 c6 p2
  refine (specL05_any k f t n a r p cap l _ HO.out (hrow.keep b2)).mono ?_
  rintro e x2 ⟨rfl, bx⟩
  have b3 := b2.trans (bx.mono b2.size)
  clear bx
  go_wp2
  go_ret
  exact ⟨rfl, b3⟩
end Go.Proofs.YtpjdkgcdkfmkiaaDoor
