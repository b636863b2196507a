/- The contracts of RecBytes, the program's and the specification's. -/
import Derived.Test.YtgmdgjkmdnpmiaaRcR
import Derived.Test.YtgmdgjkmdnpmiaaNumsText
import Derived.Test.YtgmdgjkmdnpmiaaReg
namespace Go.Proofs.Ytgmdgjkmdnpmiaa
open Go Go.RowKit
set_option linter.unusedVariables false
set_option linter.unusedSimpArgs false

theorem bytes_twoR (l m : List UInt8) : (⟨l.toArray⟩ : ByteArray) ++ (⟨m.toArray⟩ : ByteArray) = ⟨(l ++ m).toArray⟩ := by rw [bytes_append]
/-- A right record's bytes. -/
def RecV.bytes (x : RecV) : List UInt8 := putTextB ⟨(sealB ⟨(numsB x.nums).toArray⟩).toArray⟩
def RecV.out (x : RecV) (q : Bool) : List UInt8 := if q then x.bytes else []
theorem RecV.wf {x : RecV} (h : x.ok) : ∀ n ∈ x.nums, (Lit.int .i64 n).wf = true := fun n hn => by
  have := RecV.ok_bound h n hn
  exact wf_of (by omega) (by omega)
theorem recSize (x : RecV) : (⟨(numsB x.nums).toArray⟩ : ByteArray).size ≤ 60 := by
  have h := numsB_len x.nums
  have e : x.nums.length = 6 := rfl
  show (numsB x.nums).toArray.size ≤ 60
  rw [List.size_toArray]
  omega
theorem size_mkB (l : List UInt8) : (⟨l.toArray⟩ : ByteArray).size = l.length := by
  show l.toArray.size = _
  simp
theorem list_mkB (l : List UInt8) : (⟨l.toArray⟩ : ByteArray).data.toList = l := by simp
theorem fourB_len4 (n : Int) : (fourB n).length = 4 := rfl
theorem recSealSize (x : RecV) : (⟨(sealB ⟨(numsB x.nums).toArray⟩).toArray⟩ : ByteArray).size ≤ 64 := by
  have h := recSize x
  rw [sealB_yes (by omega), size_mkB, List.length_append, fourB_len4, list_mkB]
  rw [size_mkB] at h
  omega
theorem RecV.bytes_len (x : RecV) : x.bytes.length ≤ 80 := by
  have h := recSealSize x
  unfold RecV.bytes
  rw [putTextB_yes (by omega), List.length_append]
  have h2 := putN_len ((⟨(sealB ⟨(numsB x.nums).toArray⟩).toArray⟩ : ByteArray).size : Int)
  rw [list_mkB]
  rw [size_mkB] at h
  omega
theorem RecV.bytes_pos (x : RecV) : 0 < x.bytes.length := by
  have h := recSealSize x
  unfold RecV.bytes
  rw [putTextB_yes (by omega), List.length_append, sealB_yes (by have := recSize x; omega)]
  simp only [List.length_append, list_mkB, fourB_len4]
  omega
set_option maxHeartbeats 2000000 in
set_option maxRecDepth 100000 in
theorem specL10_any (d : RecV) (w : World) (hok : d.ok) : Calls Try.prog 21 #[d.val] w fun e w' => e = .returned (.string ⟨d.bytes.toArray⟩) ∧ Below w.heap.size w w' := by
  have hw := RecV.wf hok
  have hz1 := recSize d
  have hz2 := recSealSize d
  obtain ⟨x1, x2, x3, x4, x5, x6⟩ := d
  unfold RecV.val
  simp only [RecV.nums, List.mem_cons, List.not_mem_nil, or_false, forall_eq_or_imp, forall_eq] at hw
  have H0 : Hid (_ ∧ _) := hw
  have B0 := (Below.refl w.heap.size w).alloc (Nat.le_refl _) (.cells #[.int .i64 x1, .int .i64 x2, .int .i64 x3, .int .i64 x4, .int .i64 x5, .int .i64 x6] 25)
  have P0 := BlkIs.new w 25 #[.int .i64 x1, .int .i64 x2, .int .i64 x3, .int .i64 x4, .int .i64 x5, .int .i64 x6]
  obtain ⟨W, hW⟩ : ∃ W, w.alloc (.cells #[.int .i64 x1, .int .i64 x2, .int .i64 x3, .int .i64 x4, .int .i64 x5, .int .i64 x6] 25) = W := ⟨_, rfl⟩
  rw [hW] at B0 P0
  have HW : Hid (_ = W) := hW
  have e0 : ((((((⟨(putN x1).toArray⟩ : ByteArray) ++ (⟨(putN x2).toArray⟩ : ByteArray)) ++ (⟨(putN x3).toArray⟩ : ByteArray)) ++ (⟨(putN x4).toArray⟩ : ByteArray)) ++ (⟨(putN x5).toArray⟩ : ByteArray)) ++ (⟨(putN x6).toArray⟩ : ByteArray)) = ⟨(numsB (RecV.nums ⟨x1, x2, x3, x4, x5, x6⟩)).toArray⟩ := by
    simp only [bytes_twoR, numsB, RecV.nums, List.flatMap_nil, List.append_nil, List.flatMap_cons, List.append_assoc]
  have HE : Hid (((((((⟨(putN x1).toArray⟩ : ByteArray) ++ (⟨(putN x2).toArray⟩ : ByteArray)) ++ (⟨(putN x3).toArray⟩ : ByteArray)) ++ (⟨(putN x4).toArray⟩ : ByteArray)) ++ (⟨(putN x5).toArray⟩ : ByteArray)) ++ (⟨(putN x6).toArray⟩ : ByteArray)) = ⟨(numsB (RecV.nums ⟨x1, x2, x3, x4, x5, x6⟩)).toArray⟩) := e0
  have HZ1 : Hid (_ ≤ 60) := hz1
  have HZ2 : Hid (_ ≤ 64) := hz2
  have HB : Hid (RecV.bytes ⟨x1, x2, x3, x4, x5, x6⟩ = putTextB ⟨(sealB ⟨(numsB (RecV.nums ⟨x1, x2, x3, x4, x5, x6⟩)).toArray⟩).toArray⟩) := rfl
  clear hW hw e0 hz1 hz2 hok
  go_enter Try.func21, Try.ntmps21
  go_upto_region 1 with fail
  rw [HW.out]
  clear HW
  have L0 := putN_len x1
  have L1 := putN_len x2
  have L2 := putN_len x3
  have L3 := putN_len x4
  have L4 := putN_len x5
  have L5 := putN_len x6
  refine wp_region_held_drew (S := (fun w' => Below W.heap.size W w')) (by kernel_rfl) ?hS0 (fun hHeld => ?_)
  case hS0 => exact (Below.refl _ _).drew
  refine takeG 0 (v := .pointer (some ⟨w.heap.size, 0, none⟩)) rfl (by kernel_rfl) (by kernel_rfl) (by kernel_rfl) (by kernel_rfl) (fun _ _ _ h => h) ?hy (by assumption) ?_
  case hy => (intro w' hSw; go_simp)
  try simp only [List.setIfInBounds_toArray, List.set_cons_zero, List.set_cons_succ]
  refine takeG 1 (v := .int .i64 x1) rfl (by kernel_rfl) (by kernel_rfl) (by kernel_rfl) (by kernel_rfl) (fun _ _ _ h => h) ?hy (by assumption) ?_
  case hy => (intro w' hSw; have s0 := (P0.keep hSw).cell 0; (try dsimp only at s0); go_simp)
  try simp only [List.setIfInBounds_toArray, List.set_cons_zero, List.set_cons_succ]
  refine takeG 3 (v := .pointer (some ⟨w.heap.size, 1, none⟩)) rfl (by kernel_rfl) (by kernel_rfl) (by kernel_rfl) (by kernel_rfl) (fun _ _ _ h => h) ?hy (by assumption) ?_
  case hy => (intro w' hSw; go_simp)
  try simp only [List.setIfInBounds_toArray, List.set_cons_zero, List.set_cons_succ]
  refine takeG 4 (v := .int .i64 x2) rfl (by kernel_rfl) (by kernel_rfl) (by kernel_rfl) (by kernel_rfl) (fun _ _ _ h => h) ?hy (by assumption) ?_
  case hy => (intro w' hSw; have s0 := (P0.keep hSw).cell 1; (try dsimp only at s0); go_simp)
  try simp only [List.setIfInBounds_toArray, List.set_cons_zero, List.set_cons_succ]
  refine takeG 7 (v := .pointer (some ⟨w.heap.size, 2, none⟩)) rfl (by kernel_rfl) (by kernel_rfl) (by kernel_rfl) (by kernel_rfl) (fun _ _ _ h => h) ?hy (by assumption) ?_
  case hy => (intro w' hSw; go_simp)
  try simp only [List.setIfInBounds_toArray, List.set_cons_zero, List.set_cons_succ]
  refine takeG 8 (v := .int .i64 x3) rfl (by kernel_rfl) (by kernel_rfl) (by kernel_rfl) (by kernel_rfl) (fun _ _ _ h => h) ?hy (by assumption) ?_
  case hy => (intro w' hSw; have s0 := (P0.keep hSw).cell 2; (try dsimp only at s0); go_simp)
  try simp only [List.setIfInBounds_toArray, List.set_cons_zero, List.set_cons_succ]
  refine takeG 11 (v := .pointer (some ⟨w.heap.size, 3, none⟩)) rfl (by kernel_rfl) (by kernel_rfl) (by kernel_rfl) (by kernel_rfl) (fun _ _ _ h => h) ?hy (by assumption) ?_
  case hy => (intro w' hSw; go_simp)
  try simp only [List.setIfInBounds_toArray, List.set_cons_zero, List.set_cons_succ]
  refine takeG 12 (v := .int .i64 x4) rfl (by kernel_rfl) (by kernel_rfl) (by kernel_rfl) (by kernel_rfl) (fun _ _ _ h => h) ?hy (by assumption) ?_
  case hy => (intro w' hSw; have s0 := (P0.keep hSw).cell 3; (try dsimp only at s0); go_simp)
  try simp only [List.setIfInBounds_toArray, List.set_cons_zero, List.set_cons_succ]
  refine takeG 15 (v := .pointer (some ⟨w.heap.size, 4, none⟩)) rfl (by kernel_rfl) (by kernel_rfl) (by kernel_rfl) (by kernel_rfl) (fun _ _ _ h => h) ?hy (by assumption) ?_
  case hy => (intro w' hSw; go_simp)
  try simp only [List.setIfInBounds_toArray, List.set_cons_zero, List.set_cons_succ]
  refine takeG 16 (v := .int .i64 x5) rfl (by kernel_rfl) (by kernel_rfl) (by kernel_rfl) (by kernel_rfl) (fun _ _ _ h => h) ?hy (by assumption) ?_
  case hy => (intro w' hSw; have s0 := (P0.keep hSw).cell 4; (try dsimp only at s0); go_simp)
  try simp only [List.setIfInBounds_toArray, List.set_cons_zero, List.set_cons_succ]
  refine takeG 19 (v := .pointer (some ⟨w.heap.size, 5, none⟩)) rfl (by kernel_rfl) (by kernel_rfl) (by kernel_rfl) (by kernel_rfl) (fun _ _ _ h => h) ?hy (by assumption) ?_
  case hy => (intro w' hSw; go_simp)
  try simp only [List.setIfInBounds_toArray, List.set_cons_zero, List.set_cons_succ]
  refine takeG 20 (v := .int .i64 x6) rfl (by kernel_rfl) (by kernel_rfl) (by kernel_rfl) (by kernel_rfl) (fun _ _ _ h => h) ?hy (by assumption) ?_
  case hy => (intro w' hSw; have s0 := (P0.keep hSw).cell 5; (try dsimp only at s0); go_simp)
  try simp only [List.setIfInBounds_toArray, List.set_cons_zero, List.set_cons_succ]
  refine runG 2 (by kernel_rfl) rfl (by kernel_rfl) ?_
  go_simp
  refine (specPut_any x1 _ H0.out.1).mono ?_
  rintro e z0 ⟨rfl, bz⟩
  replace hHeld : Below W.heap.size W z0 := hHeld.trans (bz.mono hHeld.size)
  refine ⟨hHeld, ?_⟩
  clear bz
  try simp only [Act.put, List.setIfInBounds_toArray, List.set_cons_zero, List.set_cons_succ]
  refine runG 5 (by kernel_rfl) rfl (by kernel_rfl) ?_
  go_simp
  refine (specPut_any x2 _ H0.out.2.1).mono ?_
  rintro e z1 ⟨rfl, bz⟩
  replace hHeld : Below W.heap.size W z1 := hHeld.trans (bz.mono hHeld.size)
  refine ⟨hHeld, ?_⟩
  clear bz
  try simp only [Act.put, List.setIfInBounds_toArray, List.set_cons_zero, List.set_cons_succ]
  refine takeG 6 (v := .string ((⟨(putN x1).toArray⟩ : ByteArray) ++ (⟨(putN x2).toArray⟩ : ByteArray))) rfl (by kernel_rfl) (by kernel_rfl) (by kernel_rfl) (by kernel_rfl) (fun _ _ _ h => h) ?hy (by assumption) ?_
  case hy => (intro w' hSw; go_simp; omega)
  try simp only [List.setIfInBounds_toArray, List.set_cons_zero, List.set_cons_succ]
  refine runG 9 (by kernel_rfl) rfl (by kernel_rfl) ?_
  go_simp
  refine (specPut_any x3 _ H0.out.2.2.1).mono ?_
  rintro e z2 ⟨rfl, bz⟩
  replace hHeld : Below W.heap.size W z2 := hHeld.trans (bz.mono hHeld.size)
  refine ⟨hHeld, ?_⟩
  clear bz
  try simp only [Act.put, List.setIfInBounds_toArray, List.set_cons_zero, List.set_cons_succ]
  refine takeG 10 (v := .string (((⟨(putN x1).toArray⟩ : ByteArray) ++ (⟨(putN x2).toArray⟩ : ByteArray)) ++ (⟨(putN x3).toArray⟩ : ByteArray))) rfl (by kernel_rfl) (by kernel_rfl) (by kernel_rfl) (by kernel_rfl) (fun _ _ _ h => h) ?hy (by assumption) ?_
  case hy => (intro w' hSw; go_simp; omega)
  try simp only [List.setIfInBounds_toArray, List.set_cons_zero, List.set_cons_succ]
  refine runG 13 (by kernel_rfl) rfl (by kernel_rfl) ?_
  go_simp
  refine (specPut_any x4 _ H0.out.2.2.2.1).mono ?_
  rintro e z3 ⟨rfl, bz⟩
  replace hHeld : Below W.heap.size W z3 := hHeld.trans (bz.mono hHeld.size)
  refine ⟨hHeld, ?_⟩
  clear bz
  try simp only [Act.put, List.setIfInBounds_toArray, List.set_cons_zero, List.set_cons_succ]
  refine takeG 14 (v := .string ((((⟨(putN x1).toArray⟩ : ByteArray) ++ (⟨(putN x2).toArray⟩ : ByteArray)) ++ (⟨(putN x3).toArray⟩ : ByteArray)) ++ (⟨(putN x4).toArray⟩ : ByteArray))) rfl (by kernel_rfl) (by kernel_rfl) (by kernel_rfl) (by kernel_rfl) (fun _ _ _ h => h) ?hy (by assumption) ?_
  case hy => (intro w' hSw; go_simp; omega)
  try simp only [List.setIfInBounds_toArray, List.set_cons_zero, List.set_cons_succ]
  refine runG 17 (by kernel_rfl) rfl (by kernel_rfl) ?_
  go_simp
  refine (specPut_any x5 _ H0.out.2.2.2.2.1).mono ?_
  rintro e z4 ⟨rfl, bz⟩
  replace hHeld : Below W.heap.size W z4 := hHeld.trans (bz.mono hHeld.size)
  refine ⟨hHeld, ?_⟩
  clear bz
  try simp only [Act.put, List.setIfInBounds_toArray, List.set_cons_zero, List.set_cons_succ]
  refine takeG 18 (v := .string (((((⟨(putN x1).toArray⟩ : ByteArray) ++ (⟨(putN x2).toArray⟩ : ByteArray)) ++ (⟨(putN x3).toArray⟩ : ByteArray)) ++ (⟨(putN x4).toArray⟩ : ByteArray)) ++ (⟨(putN x5).toArray⟩ : ByteArray))) rfl (by kernel_rfl) (by kernel_rfl) (by kernel_rfl) (by kernel_rfl) (fun _ _ _ h => h) ?hy (by assumption) ?_
  case hy => (intro w' hSw; go_simp; omega)
  try simp only [List.setIfInBounds_toArray, List.set_cons_zero, List.set_cons_succ]
  refine runG 21 (by kernel_rfl) rfl (by kernel_rfl) ?_
  go_simp
  refine (specPut_any x6 _ H0.out.2.2.2.2.2).mono ?_
  rintro e z5 ⟨rfl, bz⟩
  replace hHeld : Below W.heap.size W z5 := hHeld.trans (bz.mono hHeld.size)
  refine ⟨hHeld, ?_⟩
  clear bz
  try simp only [Act.put, List.setIfInBounds_toArray, List.set_cons_zero, List.set_cons_succ]
  refine takeG 22 (v := .string ((((((⟨(putN x1).toArray⟩ : ByteArray) ++ (⟨(putN x2).toArray⟩ : ByteArray)) ++ (⟨(putN x3).toArray⟩ : ByteArray)) ++ (⟨(putN x4).toArray⟩ : ByteArray)) ++ (⟨(putN x5).toArray⟩ : ByteArray)) ++ (⟨(putN x6).toArray⟩ : ByteArray))) rfl (by kernel_rfl) (by kernel_rfl) (by kernel_rfl) (by kernel_rfl) (fun _ _ _ h => h) ?hy (by assumption) ?_
  case hy => (intro w' hSw; go_simp; omega)
  try simp only [List.setIfInBounds_toArray, List.set_cons_zero, List.set_cons_succ]
  try rw [HE.out]
  refine runG 23 (by kernel_rfl) rfl (by kernel_rfl) ?_
  go_simp
  refine (specSeal_any ⟨(numsB (RecV.nums ⟨x1, x2, x3, x4, x5, x6⟩)).toArray⟩ _ (Nat.le_trans HZ1.out (by unfold maxLen; omega))).mono ?_
  rintro e z6 ⟨rfl, bz⟩
  replace hHeld : Below W.heap.size W z6 := hHeld.trans (bz.mono hHeld.size)
  refine ⟨hHeld, ?_⟩
  clear bz
  try simp only [Act.put, List.setIfInBounds_toArray, List.set_cons_zero, List.set_cons_succ]
  refine runG 24 (by kernel_rfl) rfl (by kernel_rfl) ?_
  go_simp
  refine (specPutText_any ⟨(sealB ⟨(numsB (RecV.nums ⟨x1, x2, x3, x4, x5, x6⟩)).toArray⟩).toArray⟩ _ (Nat.le_trans HZ2.out (by unfold maxLen; omega))).mono ?_
  rintro e z7 ⟨rfl, bz⟩
  replace hHeld : Below W.heap.size W z7 := hHeld.trans (bz.mono hHeld.size)
  refine ⟨hHeld, ?_⟩
  clear bz
  try simp only [Act.put, List.setIfInBounds_toArray, List.set_cons_zero, List.set_cons_succ]
  refine takeG 25 (v := .string ⟨(putTextB ⟨(sealB ⟨(numsB (RecV.nums ⟨x1, x2, x3, x4, x5, x6⟩)).toArray⟩).toArray⟩).toArray⟩) rfl (by kernel_rfl) (by kernel_rfl) (by kernel_rfl) (by kernel_rfl) (fun _ _ _ h => h) ?hy (by assumption) ?_
  case hy => (intro w' hSw; go_simp)
  try simp only [List.setIfInBounds_toArray, List.set_cons_zero, List.set_cons_succ]
  refine wpAnyH_done (by kernel_rfl) ?_ _
  have b2 := B0.trans (hHeld.mono B0.size)
  clear L0 L1 L2 L3 L4 L5
  go_wp2
  go_ret
  exact ⟨by rw [HB.out]; rfl, b2⟩
set_option maxHeartbeats 2000000 in
set_option maxRecDepth 100000 in
theorem specRecB_any (d : RecV) (w : World) (q : Bool) (hq : q = true ↔ d.ok) : Calls Try.prog 9 #[d.val] w fun e w' => e = .returned (.string ⟨(d.out q).toArray⟩) ∧ Below w.heap.size w w' := by
  obtain ⟨x1, x2, x3, x4, x5, x6⟩ := d
  unfold RecV.val
  have B0 := (Below.refl w.heap.size w).alloc (Nat.le_refl _) (.cells #[.int .i64 x1, .int .i64 x2, .int .i64 x3, .int .i64 x4, .int .i64 x5, .int .i64 x6] 25)
  have P0 := BlkIs.new w 25 #[.int .i64 x1, .int .i64 x2, .int .i64 x3, .int .i64 x4, .int .i64 x5, .int .i64 x6]
  obtain ⟨W, hW⟩ : ∃ W, w.alloc (.cells #[.int .i64 x1, .int .i64 x2, .int .i64 x3, .int .i64 x4, .int .i64 x5, .int .i64 x6] 25) = W := ⟨_, rfl⟩
  rw [hW] at B0 P0
  have HW : Hid (_ = W) := hW
  have HQ : Hid (q = true ↔ RecV.ok ⟨x1, x2, x3, x4, x5, x6⟩) := hq
  clear hW hq
  have c0 : W.cell? ⟨w.heap.size, 0, none⟩ = some (.int .i64 x1) := P0.cell 0
  have c1 : W.cell? ⟨w.heap.size, 1, none⟩ = some (.int .i64 x2) := P0.cell 1
  have c2 : W.cell? ⟨w.heap.size, 2, none⟩ = some (.int .i64 x3) := P0.cell 2
  have c3 : W.cell? ⟨w.heap.size, 3, none⟩ = some (.int .i64 x4) := P0.cell 3
  have c4 : W.cell? ⟨w.heap.size, 4, none⟩ = some (.int .i64 x5) := P0.cell 4
  have c5 : W.cell? ⟨w.heap.size, 5, none⟩ = some (.int .i64 x6) := P0.cell 5
  go_enter Try.func9, Try.ntmps9
  go_wp2_with fail
  rw [HW.out]
  clear HW
  refine (specRec_is ⟨x1, x2, x3, x4, x5, x6⟩ _ q HQ.out).mono ?_
  rintro e z1 ⟨rfl, bz⟩
  replace P0 := P0.keep bz
  replace B0 := B0.trans (bz.mono B0.size)
  clear c0 c1 c2 c3 c4 c5 bz
  cases q with
  | false =>
    go_wp2
    go_ret
    exact ⟨rfl, B0⟩
  | true =>
  have c0 : z1.cell? ⟨w.heap.size, 0, none⟩ = some (.int .i64 x1) := P0.cell 0
  have c1 : z1.cell? ⟨w.heap.size, 1, none⟩ = some (.int .i64 x2) := P0.cell 1
  have c2 : z1.cell? ⟨w.heap.size, 2, none⟩ = some (.int .i64 x3) := P0.cell 2
  have c3 : z1.cell? ⟨w.heap.size, 3, none⟩ = some (.int .i64 x4) := P0.cell 3
  have c4 : z1.cell? ⟨w.heap.size, 4, none⟩ = some (.int .i64 x5) := P0.cell 4
  have c5 : z1.cell? ⟨w.heap.size, 5, none⟩ = some (.int .i64 x6) := P0.cell 5
  go_wp2_with fail
  refine (specL10_any ⟨x1, x2, x3, x4, x5, x6⟩ _ (by simpa using HQ.out)).mono ?_
  rintro e z2 ⟨rfl, bz⟩
  replace B0 := B0.trans (bz.mono B0.size)
  clear c0 c1 c2 c3 c4 c5 bz HQ P0
  go_wp2
  go_ret
  exact ⟨rfl, B0⟩
set_option maxHeartbeats 2000000 in
set_option maxRecDepth 100000 in
theorem implRecB_any (d : RecV) (w : World) (q : Bool) (hq : q = true ↔ d.ok) : Calls Try.prog 10 #[d.val] w fun e w' => e = .returned (.string ⟨(d.out q).toArray⟩) ∧ Below w.heap.size w w' := by
  have hz1 := recSize d
  have hz2 := recSealSize d
  obtain ⟨x1, x2, x3, x4, x5, x6⟩ := d
  have HZ1 : Hid (_ ≤ 60) := hz1
  have HZ2 : Hid (_ ≤ 64) := hz2
  have HB : Hid (RecV.out ⟨x1, x2, x3, x4, x5, x6⟩ true = putTextB ⟨(sealB ⟨(numsB (RecV.nums ⟨x1, x2, x3, x4, x5, x6⟩)).toArray⟩).toArray⟩) := rfl
  clear hz1 hz2
  unfold RecV.val
  have B0 := (Below.refl w.heap.size w).alloc (Nat.le_refl _) (.cells #[.int .i64 x1, .int .i64 x2, .int .i64 x3, .int .i64 x4, .int .i64 x5, .int .i64 x6] 25)
  have P0 := BlkIs.new w 25 #[.int .i64 x1, .int .i64 x2, .int .i64 x3, .int .i64 x4, .int .i64 x5, .int .i64 x6]
  obtain ⟨W, hW⟩ : ∃ W, w.alloc (.cells #[.int .i64 x1, .int .i64 x2, .int .i64 x3, .int .i64 x4, .int .i64 x5, .int .i64 x6] 25) = W := ⟨_, rfl⟩
  rw [hW] at B0 P0
  have HW : Hid (_ = W) := hW
  have HQ : Hid (q = true ↔ RecV.ok ⟨x1, x2, x3, x4, x5, x6⟩) := hq
  clear hW hq
  have c0 : W.cell? ⟨w.heap.size, 0, none⟩ = some (.int .i64 x1) := P0.cell 0
  have c1 : W.cell? ⟨w.heap.size, 1, none⟩ = some (.int .i64 x2) := P0.cell 1
  have c2 : W.cell? ⟨w.heap.size, 2, none⟩ = some (.int .i64 x3) := P0.cell 2
  have c3 : W.cell? ⟨w.heap.size, 3, none⟩ = some (.int .i64 x4) := P0.cell 3
  have c4 : W.cell? ⟨w.heap.size, 4, none⟩ = some (.int .i64 x5) := P0.cell 4
  have c5 : W.cell? ⟨w.heap.size, 5, none⟩ = some (.int .i64 x6) := P0.cell 5
  go_enter Try.func10, Try.ntmps10
  go_wp2_with fail
  rw [HW.out]
  clear HW
  refine (implRec_is ⟨x1, x2, x3, x4, x5, x6⟩ _ q HQ.out).mono ?_
  rintro e z1 ⟨rfl, bz⟩
  replace P0 := P0.keep bz
  replace B0 := B0.trans (bz.mono B0.size)
  clear c0 c1 c2 c3 c4 c5 bz
  cases q with
  | false =>
    clear HB HZ1 HZ2
    go_wp2
    go_ret
    exact ⟨rfl, B0⟩
  | true =>
  have c0 : z1.cell? ⟨w.heap.size, 0, none⟩ = some (.int .i64 x1) := P0.cell 0
  have c1 : z1.cell? ⟨w.heap.size, 1, none⟩ = some (.int .i64 x2) := P0.cell 1
  have c2 : z1.cell? ⟨w.heap.size, 2, none⟩ = some (.int .i64 x3) := P0.cell 2
  have c3 : z1.cell? ⟨w.heap.size, 3, none⟩ = some (.int .i64 x4) := P0.cell 3
  have c4 : z1.cell? ⟨w.heap.size, 4, none⟩ = some (.int .i64 x5) := P0.cell 4
  have c5 : z1.cell? ⟨w.heap.size, 5, none⟩ = some (.int .i64 x6) := P0.cell 5
  go_wp2_with fail
  refine (numsOf_any x1 x2 x3 x4 x5 x6 _).mono ?_
  rintro e z2 ⟨rfl, bz⟩
  replace P0 := P0.keep bz
  replace B0 := B0.trans (bz.mono B0.size)
  clear c0 c1 c2 c3 c4 c5 bz
  go_upto_region 4 with (first
    | (refine store_blk (BlkIs.new _ _ _) rfl 39 _ _ rfl rfl rfl (by kernel_rfl) rfl (by kernel_rfl) ?_; intro V P2 kk)
    | fail)
  have bV := ((Below.refl z2.heap.size z2).alloc (Nat.le_refl _) _).trans (kk.belowNe (Nat.le_refl _) (Nat.le_of_lt (by simp)))
  replace B0 := B0.trans (bV.mono B0.size)
  obtain ⟨b, hb⟩ : ∃ b, z2.heap.size = b := ⟨_, rfl⟩
  rw [hb] at P2 ⊢
  clear bV kk hb P0
  have HN : Hid (NumRow V (some ⟨b, 0, none⟩) (RecV.nums ⟨x1, x2, x3, x4, x5, x6⟩)) := .inr ⟨b, 0, rfl, P2.lt, fun i hi => by
    have : i = 0 ∨ i = 1 ∨ i = 2 ∨ i = 3 ∨ i = 4 ∨ i = 5 := by have h : i < 6 := hi; omega
    rcases this with rfl | rfl | rfl | rfl | rfl | rfl <;> exact P2.cell _⟩
  clear P2
  go_wp2_with fail
  refine (numsText_any (some ⟨b, 0, none⟩) 6 (RecV.nums ⟨x1, x2, x3, x4, x5, x6⟩) _ (by show 0 < 6; omega) (by show 6 ≤ 1000; omega) (RecV.wf (by simpa using HQ.out)) HN.out).mono ?_
  rintro e z3 ⟨rfl, bz⟩
  replace B0 := B0.trans (bz.mono B0.size)
  clear HN bz HQ
  go_wp2_with fail
  refine (implSeal_any ⟨(numsB (RecV.nums ⟨x1, x2, x3, x4, x5, x6⟩)).toArray⟩ _ (Nat.le_trans HZ1.out (by unfold maxLen; omega))).mono ?_
  rintro e z4 ⟨rfl, bz⟩
  replace B0 := B0.trans (bz.mono B0.size)
  clear bz
  go_wp2_with fail
  refine (implPutText_any ⟨(sealB ⟨(numsB (RecV.nums ⟨x1, x2, x3, x4, x5, x6⟩)).toArray⟩).toArray⟩ _ (Nat.le_trans HZ2.out (by unfold maxLen; omega))).mono ?_
  rintro e z5 ⟨rfl, bz⟩
  replace B0 := B0.trans (bz.mono B0.size)
  clear bz HZ1 HZ2
  go_wp2
  go_ret
  exact ⟨by rw [HB.out]; rfl, B0⟩
end Go.Proofs.Ytgmdgjkmdnpmiaa
