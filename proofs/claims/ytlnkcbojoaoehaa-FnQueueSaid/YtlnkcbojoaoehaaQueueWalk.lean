/- The walk of promise 4's law. -/
import Derived.Test.YtlnkcbojoaoehaaRows
import Derived.WalkKit
import Derived.ProofKit
import Derived.OpenShut
import Derived.ShutString
import Derived.ChangeOld
import Derived.Below
import Derived.Test.YtlnkcbojoaoehaaQDrawB
import Derived.Test.YtlnkcbojoaoehaaQTakeI
import Derived.Test.YtlnkcbojoaoehaaQSpecTake
import Derived.Test.YtlnkcbojoaoehaaQSpecDrop
import Derived.Test.YtlnkcbojoaoehaaQFault
import Derived.Test.YtlnkcbojoaoehaaReg
namespace Go.Proofs.Ytlnkcbojoaoehaa
open Go Go.ChangeShapes Go.WideShapes Go.ChangeAt Go.RowKit
open Go.ChangeMaps (open_string shut_string)
set_option linter.unusedVariables false

theorem implQ_b (rb : Bool) (a : Option Addr) (cap : Nat) (l : List DueV) (w : World) (hl : l.length ≤ 1048576) (hrow : CellRow w a (cellsOf DueV.cells l)) (h : rb = true ↔ rightQ l) :
    Calls Try.prog 18 #[.slice a l.length cap] w fun e w' => e = .returned (.bool rb) ∧ Below w.heap.size w w' := by
  cases rb with
  | true => exact implQ_yes a cap l w hl hrow (h.1 rfl)
  | false => exact implQ_no a cap l w hl hrow (fun r => by cases h.2 r)
theorem specQ_b (rb : Bool) (a : Option Addr) (cap : Nat) (l : List DueV) (w : World) (hl : l.length ≤ 1048576) (hrow : CellRow w a (cellsOf DueV.cells l)) (h : rb = true ↔ rightQ l) :
    Calls Try.prog 19 #[.slice a l.length cap] w fun e w' => e = .returned (.bool rb) ∧ Below w.heap.size w w' := by
  cases rb with
  | true => exact specQ_yes a cap l w hl hrow (h.1 rfl)
  | false => exact specQ_no a cap l w hl hrow (fun r => by cases h.2 r)
theorem OwnSl.row {w : World} {base : Nat} {p : Option Addr} {q : Nat} {l : List DueV} (h : OwnSl w base (.slice p l.length q) l) : CellRow w p (cellsOf DueV.cells l) := by
  obtain ⟨a, c, e, o, _⟩ := h
  simp only [Value.slice.injEq, true_and] at e
  obtain ⟨rfl, rfl⟩ := e
  exact o.row
theorem ownSl_some {w : World} {base : Nat} {v : Value} {l : List DueV} (h : DSome w base v l) : ∃ g cap, v = .slice (some ⟨g, 0, none⟩) l.length cap ∧ l.length ≤ cap ∧ CellRow w (some ⟨g, 0, none⟩) (cellsOf DueV.cells l) := by
  obtain ⟨g, cap, rfl, o⟩ := h
  exact ⟨g, cap, rfl, DSome.cap o, DSome.row o⟩
theorem field_queue (x0 x1 x2 x3 x4 x5 : Value) (w : World) : (Instr.field 29 (.agg #[x0, x1, x2, x3, x4, x5]) 0).run Try.prog w = .ok x0 w := by kernel_rfl
theorem drop_consD (m : List DueV) (j : Nat) (h : j < m.length) : m.drop j = m[j] :: m.drop (j + 1) := List.drop_eq_getElem_cons h
set_option maxHeartbeats 8000000 in
set_option maxRecDepth 100000 in
theorem FnQueue_walk (a0 : Option Addr) (len0 cap0 : Nat) (z0 : List Int) (a1 : Option Addr) (len1 cap1 : Nat) (z1 : List Int) (w : World) (w0 : ByteRow w a0 len0 cap0 z0) (w1 : ByteRow w a1 len1 cap1 z1) :
    Calls Try.prog 3 #[.slice a0 len0 cap0, .slice a1 len1 cap1] w fun e w' => e = .returned (.bool true) ∧ Below w.heap.size w w' := by
  by_cases h0 : 1048576 < (len0 : Int)
  · go_enter Try.func3, Try.ntmps3
    go_wp2
    go_ret
    exact ⟨rfl, Below.refl _ _⟩
  by_cases h1 : 1048576 < (len1 : Int)
  · go_enter Try.func3, Try.ntmps3
    go_wp2
    go_ret
    exact ⟨rfl, Below.refl _ _⟩
  have hl0 : len0 ≤ 1048576 := by omega
  have ffq := field_queue
  have hl1 : len1 ≤ 1048576 := by omega
  go_enter Try.func3, Try.ntmps3
  go_wp2_with fail
  refine (drawPutQ_any a0 len0 cap0 z0 _ hl0 w0).mono ?_
  rintro e x1 ⟨v1, l, d, rfl, hll, D1, b1⟩
  obtain ⟨e1, e2, e3, e4⟩ := d
  obtain ⟨g1, q1, rfl, hc1, N1⟩ := ownSl_some D1
  unfold DueV.val
  dsimp only
  have al := (Below.refl x1.heap.size x1).alloc (Nat.le_refl _) (.cells #[.int .i64 e1, .int .i64 e2, .int .i64 e3, .string e4] 25)
  have NL := N1.keep al
  have P6 := BlkOf.new x1 ⟨e1, e2, e3, e4⟩
  have B1 := b1.trans (al.mono b1.size)
  dsimp only at P6
  obtain ⟨y1, hy1⟩ : ∃ y, x1.alloc (.cells #[.int .i64 e1, .int .i64 e2, .int .i64 e3, .string e4] 25) = y := ⟨_, rfl⟩
  obtain ⟨k1, hk1⟩ : ∃ k, x1.heap.size = k := ⟨_, rfl⟩
  have HY1 : Hid (x1.alloc (.cells #[.int .i64 e1, .int .i64 e2, .int .i64 e3, .string e4] 25) = y1) := hy1
  rw [hy1] at NL P6 B1
  rw [hk1] at P6
  obtain ⟨c, m, hP⟩ := put_ex l ⟨e1, e2, e3, e4⟩
  have hml : m.length ≤ 1048576 := Nat.le_trans (put_len hP) (by omega)
  have HP : Hid (PutIs l ⟨e1, e2, e3, e4⟩ c m) := hP
  have hl20 : l.length ≤ 1048576 := by omega
  obtain ⟨rb, hrb⟩ : ∃ rb : Bool, rb = true ↔ rightQ l := ⟨@decide (rightQ l) (Classical.propDecidable _), by simp⟩
  have HRB : Hid (rb = true ↔ rightQ l) := hrb
  clear D1 N1 b1 al hy1 hP hrb
  obtain ⟨_, s0, s1, s2, s3⟩ := (id P6)
  dsimp only at s0 s1 s2 s3
  go_wp2_with fail
  rw [HY1.out]
  clear HY1 hk1
  refine (implPutQ_any (some ⟨g1, 0, none⟩) q1 l ⟨e1, e2, e3, e4⟩ c m _ HP.out hl20 NL).mono ?_
  rintro e x2 ⟨v2, rfl, own2, b2⟩
  have s2k := own_sl own2
  obtain ⟨p2, q2, rfl, _, _⟩ := own_sl own2
  unfold outV d0
  dsimp only
  have a2 := (Below.refl x2.heap.size x2).alloc (Nat.le_refl _) (.cells #[.slice p2 m.length q2, .int .i64 0, .int .i64 0, .int .i64 0, .string ⟨#[]⟩, .int .i64 c] 29)
  have ab2 := b2.trans (a2.mono b2.size)
  have G2 := s2k.keep a2
  have O2 : OutIs (x2.alloc (.cells #[.slice p2 m.length q2, .int .i64 0, .int .i64 0, .int .i64 0, .string ⟨#[]⟩, .int .i64 c] 29)) x2.heap.size (.slice p2 m.length q2) (.int .i64 0) (.int .i64 0) (.int .i64 0) (.string ⟨#[]⟩) (.int .i64 c) := heap_alloc_new x2 _
  have NL_1 := NL.keep ab2
  have P6_1 := P6.keep ab2
  have B2 := B1.trans (ab2.mono B1.size)
  obtain ⟨y2, hy2⟩ : ∃ y, x2.alloc (.cells #[.slice p2 m.length q2, .int .i64 0, .int .i64 0, .int .i64 0, .string ⟨#[]⟩, .int .i64 c] 29) = y := ⟨_, rfl⟩
  obtain ⟨k2, hk2⟩ : ∃ k, x2.heap.size = k := ⟨_, rfl⟩
  have HY2 : Hid (x2.alloc (.cells #[.slice p2 m.length q2, .int .i64 0, .int .i64 0, .int .i64 0, .string ⟨#[]⟩, .int .i64 c] 29) = y2) := hy2
  rw [hy2] at NL_1 P6_1 G2 O2 B2
  rw [hk2] at O2
  clear s0 s1 s2 s3 own2 s2k a2 b2 ab2 hy2 B1 NL P6
  have w1_3 := w1.below B2
  go_wp2_with fail
  rw [HY2.out]
  clear HY2 hk2
  refine (drawTakeQ_any a1 len1 cap1 z1 _ hl1 w1_3).mono ?_
  rintro e x3 ⟨v3, tl, rfl, htl, D3, b3⟩
  have NL_2 := NL_1.keep b3
  have P6_2 := P6_1.keep b3
  have G2_2 := G2.keep b3
  have O2_2 := O2.below b3
  have B3 := B2.trans (b3.mono B2.size)
  obtain ⟨g3, q3, rfl, hc3, NT⟩ := ownSl_some D3
  obtain ⟨ct, ty, mt, hT⟩ := take_ex tl
  obtain ⟨t1, t2, t3, t4⟩ := ty
  have hmt : mt.length ≤ 1048576 := Nat.le_trans (take_len' hT) (by omega)
  have HT : Hid (TakeIs tl ct ⟨t1, t2, t3, t4⟩ mt) := hT
  have htl20 : tl.length ≤ 1048576 := by omega
  clear D3 hT
  clear b3 B2 w1_3 NL_1 P6_1 G2 O2
  go_wp2_with fail
  refine (implTakeQ_any (some ⟨g3, 0, none⟩) q3 tl ct ⟨t1, t2, t3, t4⟩ mt _ HT.out htl20 NT).mono ?_
  rintro e x4 ⟨v4, rfl, own4, b4⟩
  have s4k := own_sl own4
  obtain ⟨p4, q4, rfl, _, _⟩ := own_sl own4
  unfold outV
  dsimp only
  have a4 := (Below.refl x4.heap.size x4).alloc (Nat.le_refl _) (.cells #[.slice p4 mt.length q4, .int .i64 t1, .int .i64 t2, .int .i64 t3, .string t4, .int .i64 ct] 29)
  have ab4 := b4.trans (a4.mono b4.size)
  have G4 := s4k.keep a4
  have O4 : OutIs (x4.alloc (.cells #[.slice p4 mt.length q4, .int .i64 t1, .int .i64 t2, .int .i64 t3, .string t4, .int .i64 ct] 29)) x4.heap.size (.slice p4 mt.length q4) (.int .i64 t1) (.int .i64 t2) (.int .i64 t3) (.string t4) (.int .i64 ct) := heap_alloc_new x4 _
  have NL_3 := NL_2.keep ab4
  have P6_3 := P6_2.keep ab4
  have G2_3 := G2_2.keep ab4
  have O2_3 := O2_2.below ab4
  have NT_3 := NT.keep ab4
  have B4 := B3.trans (ab4.mono B3.size)
  obtain ⟨y4, hy4⟩ : ∃ y, x4.alloc (.cells #[.slice p4 mt.length q4, .int .i64 t1, .int .i64 t2, .int .i64 t3, .string t4, .int .i64 ct] 29) = y := ⟨_, rfl⟩
  obtain ⟨k4, hk4⟩ : ∃ k, x4.heap.size = k := ⟨_, rfl⟩
  have HY4 : Hid (x4.alloc (.cells #[.slice p4 mt.length q4, .int .i64 t1, .int .i64 t2, .int .i64 t3, .string t4, .int .i64 ct] 29) = y4) := hy4
  rw [hy4] at NL_3 P6_3 G2_3 O2_3 NT_3 G4 O4 B4
  rw [hk4] at O4
  clear own4 s4k a4 b4 ab4 hy4 B3 NL_2 P6_2 G2_2 O2_2 NT
  have w1_5 := w1.below B4
  go_wp2_with fail
  rw [HY4.out]
  clear HY4 hk4
  refine (drawDropQ_any a1 len1 cap1 z1 _ hl1 w1_5).mono ?_
  rintro e x5 ⟨v5, pl, node, rfl, hpl, D5, b5⟩
  have NL_4 := NL_3.keep b5
  have P6_4 := P6_3.keep b5
  have G2_4 := G2_3.keep b5
  have O2_4 := O2_3.below b5
  have NT_4 := NT_3.keep b5
  have G4_4 := G4.keep b5
  have O4_4 := O4.below b5
  have B5 := B4.trans (b5.mono B4.size)
  obtain ⟨g5, q5, rfl, hc5, NP⟩ := ownSl_some D5
  obtain ⟨cd, md, hD⟩ := drop_ex pl node
  have hmd : md.length ≤ 1048576 := Nat.le_trans (drop_len hD) (by omega)
  have HD : Hid (DropIs pl node cd md) := hD
  have hpl20 : pl.length ≤ 1048576 := by omega
  clear D5 hD
  clear b5 B4 w1_5 NL_3 P6_3 G2_3 O2_3 NT_3 G4 O4
  go_wp2_with fail
  refine (implDropQ_any (some ⟨g5, 0, none⟩) q5 pl node cd md _ HD.out hpl20 NP).mono ?_
  rintro e x6 ⟨v6, rfl, own6, b6⟩
  have s6k := own_sl own6
  obtain ⟨p6, q6, rfl, _, _⟩ := own_sl own6
  unfold outV d0
  dsimp only
  have a6 := (Below.refl x6.heap.size x6).alloc (Nat.le_refl _) (.cells #[.slice p6 md.length q6, .int .i64 0, .int .i64 0, .int .i64 0, .string ⟨#[]⟩, .int .i64 cd] 29)
  have ab6 := b6.trans (a6.mono b6.size)
  have G6 := s6k.keep a6
  have O6 : OutIs (x6.alloc (.cells #[.slice p6 md.length q6, .int .i64 0, .int .i64 0, .int .i64 0, .string ⟨#[]⟩, .int .i64 cd] 29)) x6.heap.size (.slice p6 md.length q6) (.int .i64 0) (.int .i64 0) (.int .i64 0) (.string ⟨#[]⟩) (.int .i64 cd) := heap_alloc_new x6 _
  have NL_5 := NL_4.keep ab6
  have P6_5 := P6_4.keep ab6
  have G2_5 := G2_4.keep ab6
  have O2_5 := O2_4.below ab6
  have NT_5 := NT_4.keep ab6
  have G4_5 := G4_4.keep ab6
  have O4_5 := O4_4.below ab6
  have NP_5 := NP.keep ab6
  have B6 := B5.trans (ab6.mono B5.size)
  obtain ⟨y6, hy6⟩ : ∃ y, x6.alloc (.cells #[.slice p6 md.length q6, .int .i64 0, .int .i64 0, .int .i64 0, .string ⟨#[]⟩, .int .i64 cd] 29) = y := ⟨_, rfl⟩
  obtain ⟨k6, hk6⟩ : ∃ k, x6.heap.size = k := ⟨_, rfl⟩
  have HY6 : Hid (x6.alloc (.cells #[.slice p6 md.length q6, .int .i64 0, .int .i64 0, .int .i64 0, .string ⟨#[]⟩, .int .i64 cd] 29) = y6) := hy6
  rw [hy6] at NL_5 P6_5 G2_5 O2_5 NT_5 G4_5 O4_5 NP_5 G6 O6 B6
  rw [hk6] at O6
  clear own6 s6k a6 b6 ab6 hy6 B5 NL_4 P6_4 G2_4 O2_4 NT_4 G4_4 O4_4 NP
  go_upto_region 9 with fail
  rw [HY6.out]
  clear HY6 hk6
  refine wp_region_held_drew (S := (fun w' => Below y6.heap.size y6 w')) (by kernel_rfl) ?hS0 (fun hHeld => ?_)
  case hS0 => exact (Below.refl _ _).drew
  refine takeG 0 (v := .agg #[.slice p2 m.length q2, .int .i64 0, .int .i64 0, .int .i64 0, .string ⟨#[]⟩, .int .i64 c]) rfl (by kernel_rfl) (by kernel_rfl) (by kernel_rfl) (by kernel_rfl) (fun _ _ _ h => h) ?hy0 (by assumption) ?_
  case hy0 => (intro w' hSw; obtain ⟨s0, s1, s2, s3, s4, s5⟩ := (O2_5.below hSw).cells; go_simp)
  try simp only [List.setIfInBounds_toArray, List.set_cons_zero, List.set_cons_succ]
  refine takeG 1 (v := .slice (some ⟨g1, 0, none⟩) l.length q1) rfl (by kernel_rfl) (by kernel_rfl) (by kernel_rfl) (by kernel_rfl) (fun _ _ _ h => h) ?hy (by assumption) ?_
  case hy => (intro w' hSw; go_simp)
  try simp only [List.setIfInBounds_toArray, List.set_cons_zero, List.set_cons_succ]
  refine takeG 2 (v := .agg #[.int .i64 e1, .int .i64 e2, .int .i64 e3, .string e4]) rfl (by kernel_rfl) (by kernel_rfl) (by kernel_rfl) (by kernel_rfl) (fun _ _ _ h => h) ?hy (by assumption) ?_
  case hy => (intro w' hSw; obtain ⟨_, s0, s1, s2, s3⟩ := (P6_5).keep hSw; dsimp only at s0 s1 s2 s3; go_simp)
  try simp only [List.setIfInBounds_toArray, List.set_cons_zero, List.set_cons_succ]
  refine runG 3 (by kernel_rfl) rfl (by kernel_rfl) ?_
  go_simp
  refine (specPutQ_any g1 0 q1 l ⟨e1, e2, e3, e4⟩ c m _ HP.out hl20 hc1 (NL_5.keep hHeld)).mono ?_
  rintro e ra ⟨vra, rfl, ownra, bb⟩
  have hra : Below y6.heap.size y6 ra := hHeld.trans (bb.mono hHeld.size)
  have Sra := own_sl ownra
  unfold outV d0
  dsimp only
  clear ownra
  refine ⟨hra, ?_⟩
  clear hHeld bb
  try simp only [Act.put, List.setIfInBounds_toArray, List.set_cons_zero, List.set_cons_succ]
  refine runG 4 (by kernel_rfl) rfl (by kernel_rfl) ?_
  go_simp
  refine (lwQueues_same (.slice p2 m.length q2) _ _ _ d0 c m _ hml (G2_5.keep hra) Sra (put_right HP.out)).mono ?_
  rintro e rb1 ⟨rfl, bb⟩
  have hrb1 : Below y6.heap.size y6 rb1 := hra.trans (bb.mono hra.size)
  refine ⟨hrb1, ?_⟩
  clear hra bb
  try simp only [Act.put, List.setIfInBounds_toArray, List.set_cons_zero, List.set_cons_succ]
  refine takeG 5 (v := .bool false) rfl (by kernel_rfl) (by kernel_rfl) (by kernel_rfl) (by kernel_rfl) (fun _ _ _ h => h) ?hy (by assumption) ?_
  case hy => (intro w' hSw; go_simp)
  try simp only [List.setIfInBounds_toArray, List.set_cons_zero, List.set_cons_succ]
  refine takeG 6 (v := .bool false) rfl (by kernel_rfl) (by kernel_rfl) (by kernel_rfl) (by kernel_rfl) (fun _ _ _ h => h) ?hy (by assumption) ?_
  case hy => (intro w' hSw; go_simp)
  try simp only [List.setIfInBounds_toArray, List.set_cons_zero, List.set_cons_succ]
  refine takeG 7 (v := .agg #[.slice p4 mt.length q4, .int .i64 t1, .int .i64 t2, .int .i64 t3, .string t4, .int .i64 ct]) rfl (by kernel_rfl) (by kernel_rfl) (by kernel_rfl) (by kernel_rfl) (fun _ _ _ h => h) ?hy7 (by assumption) ?_
  case hy7 => (intro w' hSw; obtain ⟨s0, s1, s2, s3, s4, s5⟩ := (O4_5.below hSw).cells; go_simp)
  try simp only [List.setIfInBounds_toArray, List.set_cons_zero, List.set_cons_succ]
  refine takeG 8 (v := .slice (some ⟨g3, 0, none⟩) tl.length q3) rfl (by kernel_rfl) (by kernel_rfl) (by kernel_rfl) (by kernel_rfl) (fun _ _ _ h => h) ?hy (by assumption) ?_
  case hy => (intro w' hSw; go_simp)
  try simp only [List.setIfInBounds_toArray, List.set_cons_zero, List.set_cons_succ]
  refine runG 9 (by kernel_rfl) rfl (by kernel_rfl) ?_
  go_simp
  refine (specTakeQ_any (some ⟨g3, 0, none⟩) q3 tl ct ⟨t1, t2, t3, t4⟩ mt _ HT.out htl20 hc3 (NT_5.keep hrb1)).mono ?_
  rintro e rc ⟨vrc, rfl, ownrc, bb⟩
  have hrc : Below y6.heap.size y6 rc := hrb1.trans (bb.mono hrb1.size)
  have Src := own_sl ownrc
  unfold outV
  dsimp only
  clear ownrc
  refine ⟨hrc, ?_⟩
  clear hrb1 bb
  try simp only [Act.put, List.setIfInBounds_toArray, List.set_cons_zero, List.set_cons_succ]
  refine runG 10 (by kernel_rfl) rfl (by kernel_rfl) ?_
  go_simp
  refine (lwQueues_same (.slice p4 mt.length q4) _ _ _ ⟨t1, t2, t3, t4⟩ ct mt _ hmt (G4_5.keep hrc) Src (fun h => right_tail (take_right HT.out h).1)).mono ?_
  rintro e rd ⟨rfl, bb⟩
  have hrd : Below y6.heap.size y6 rd := hrc.trans (bb.mono hrc.size)
  refine ⟨hrd, ?_⟩
  clear hrc bb
  try simp only [Act.put, List.setIfInBounds_toArray, List.set_cons_zero, List.set_cons_succ]
  refine takeG 11 (v := .bool false) rfl (by kernel_rfl) (by kernel_rfl) (by kernel_rfl) (by kernel_rfl) (fun _ _ _ h => h) ?hy (by assumption) ?_
  case hy => (intro w' hSw; go_simp)
  try simp only [List.setIfInBounds_toArray, List.set_cons_zero, List.set_cons_succ]
  refine takeG 12 (v := .bool false) rfl (by kernel_rfl) (by kernel_rfl) (by kernel_rfl) (by kernel_rfl) (fun _ _ _ h => h) ?hy (by assumption) ?_
  case hy => (intro w' hSw; go_simp)
  try simp only [List.setIfInBounds_toArray, List.set_cons_zero, List.set_cons_succ]
  refine takeG 13 (v := .bool false) rfl (by kernel_rfl) (by kernel_rfl) (by kernel_rfl) (by kernel_rfl) (fun _ _ _ h => h) ?hy (by assumption) ?_
  case hy => (intro w' hSw; go_simp)
  try simp only [List.setIfInBounds_toArray, List.set_cons_zero, List.set_cons_succ]
  refine takeG 14 (v := .agg #[.slice p6 md.length q6, .int .i64 0, .int .i64 0, .int .i64 0, .string ⟨#[]⟩, .int .i64 cd]) rfl (by kernel_rfl) (by kernel_rfl) (by kernel_rfl) (by kernel_rfl) (fun _ _ _ h => h) ?hy14 (by assumption) ?_
  case hy14 => (intro w' hSw; obtain ⟨s0, s1, s2, s3, s4, s5⟩ := (O6.below hSw).cells; go_simp)
  try simp only [List.setIfInBounds_toArray, List.set_cons_zero, List.set_cons_succ]
  refine takeG 15 (v := .slice (some ⟨g5, 0, none⟩) pl.length q5) rfl (by kernel_rfl) (by kernel_rfl) (by kernel_rfl) (by kernel_rfl) (fun _ _ _ h => h) ?hy (by assumption) ?_
  case hy => (intro w' hSw; go_simp)
  try simp only [List.setIfInBounds_toArray, List.set_cons_zero, List.set_cons_succ]
  refine takeG 16 (v := .int .i64 node) rfl (by kernel_rfl) (by kernel_rfl) (by kernel_rfl) (by kernel_rfl) (fun _ _ _ h => h) ?hy (by assumption) ?_
  case hy => (intro w' hSw; go_simp)
  try simp only [List.setIfInBounds_toArray, List.set_cons_zero, List.set_cons_succ]
  refine runG 17 (by kernel_rfl) rfl (by kernel_rfl) ?_
  go_simp
  refine (specDropQ_any (some ⟨g5, 0, none⟩) q5 pl node cd md _ HD.out hpl20 (NP_5.keep hrd)).mono ?_
  rintro e re ⟨vre, rfl, ownre, bb⟩
  have hre : Below y6.heap.size y6 re := hrd.trans (bb.mono hrd.size)
  have Sre := own_sl ownre
  unfold outV d0
  dsimp only
  clear ownre
  refine ⟨hre, ?_⟩
  clear hrd bb
  try simp only [Act.put, List.setIfInBounds_toArray, List.set_cons_zero, List.set_cons_succ]
  refine runG 18 (by kernel_rfl) rfl (by kernel_rfl) ?_
  go_simp
  refine (lwQueues_same (.slice p6 md.length q6) _ _ _ d0 cd md _ hmd (G6.keep hre) Sre (drop_right HD.out)).mono ?_
  rintro e rf ⟨rfl, bb⟩
  have hrf : Below y6.heap.size y6 rf := hre.trans (bb.mono hre.size)
  refine ⟨hrf, ?_⟩
  clear hre bb
  try simp only [Act.put, List.setIfInBounds_toArray, List.set_cons_zero, List.set_cons_succ]
  refine takeG 19 (v := .bool false) rfl (by kernel_rfl) (by kernel_rfl) (by kernel_rfl) (by kernel_rfl) (fun _ _ _ h => h) ?hy (by assumption) ?_
  case hy => (intro w' hSw; go_simp)
  try simp only [List.setIfInBounds_toArray, List.set_cons_zero, List.set_cons_succ]
  refine takeG 20 (v := .bool false) rfl (by kernel_rfl) (by kernel_rfl) (by kernel_rfl) (by kernel_rfl) (fun _ _ _ h => h) ?hy (by assumption) ?_
  case hy => (intro w' hSw; go_simp)
  try simp only [List.setIfInBounds_toArray, List.set_cons_zero, List.set_cons_succ]
  refine takeG 21 (v := .bool false) rfl (by kernel_rfl) (by kernel_rfl) (by kernel_rfl) (by kernel_rfl) (fun _ _ _ h => h) ?hy (by assumption) ?_
  case hy => (intro w' hSw; go_simp)
  try simp only [List.setIfInBounds_toArray, List.set_cons_zero, List.set_cons_succ]
  refine takeG 22 (v := .slice (some ⟨g1, 0, none⟩) l.length q1) rfl (by kernel_rfl) (by kernel_rfl) (by kernel_rfl) (by kernel_rfl) (fun _ _ _ h => h) ?hy (by assumption) ?_
  case hy => (intro w' hSw; go_simp)
  try simp only [List.setIfInBounds_toArray, List.set_cons_zero, List.set_cons_succ]
  refine takeG 24 (v := .slice (some ⟨g1, 0, none⟩) l.length q1) rfl (by kernel_rfl) (by kernel_rfl) (by kernel_rfl) (by kernel_rfl) (fun _ _ _ h => h) ?hy (by assumption) ?_
  case hy => (intro w' hSw; go_simp)
  try simp only [List.setIfInBounds_toArray, List.set_cons_zero, List.set_cons_succ]
  refine runG 23 (by kernel_rfl) rfl (by kernel_rfl) ?_
  go_simp
  refine (implQ_b rb (some ⟨g1, 0, none⟩) q1 l _ hl20 (NL_5.keep hrf) HRB.out).mono ?_
  rintro e rg ⟨rfl, bb⟩
  have hrg : Below y6.heap.size y6 rg := hrf.trans (bb.mono hrf.size)
  refine ⟨hrg, ?_⟩
  clear hrf bb
  try simp only [Act.put, List.setIfInBounds_toArray, List.set_cons_zero, List.set_cons_succ]
  refine runG 25 (by kernel_rfl) rfl (by kernel_rfl) ?_
  go_simp
  refine (specQ_b rb (some ⟨g1, 0, none⟩) q1 l _ hl20 (NL_5.keep hrg) HRB.out).mono ?_
  rintro e rh ⟨rfl, bb⟩
  have hrh : Below y6.heap.size y6 rh := hrg.trans (bb.mono hrg.size)
  refine ⟨hrh, ?_⟩
  clear hrg bb
  try simp only [Act.put, List.setIfInBounds_toArray, List.set_cons_zero, List.set_cons_succ]
  refine takeG 26 (v := .bool false) rfl (by kernel_rfl) (by kernel_rfl) (by kernel_rfl) (by kernel_rfl) (fun _ _ _ h => h) ?hy (by assumption) ?_
  case hy => (intro w' hSw; go_simp)
  try simp only [List.setIfInBounds_toArray, List.set_cons_zero, List.set_cons_succ]
  refine takeG 27 (v := .bool false) rfl (by kernel_rfl) (by kernel_rfl) (by kernel_rfl) (by kernel_rfl) (fun _ _ _ h => h) ?hy (by assumption) ?_
  case hy => (intro w' hSw; go_simp)
  try simp only [List.setIfInBounds_toArray, List.set_cons_zero, List.set_cons_succ]
  refine wpAnyH_done (by kernel_rfl) ?_ _
  have NL_6 := NL_5.keep hrh
  have P6_6 := P6_5.keep hrh
  have G2_6 := G2_5.keep hrh
  have O2_6 := O2_5.below hrh
  have NT_6 := NT_5.keep hrh
  have G4_6 := G4_5.keep hrh
  have O4_6 := O4_5.below hrh
  have NP_6 := NP_5.keep hrh
  have G6_6 := G6.keep hrh
  have O6_6 := O6.below hrh
  have BZ := B6.trans (hrh.mono B6.size)
  clear hrh B6 NL_5 P6_5 G2_5 O2_5 NT_5 G4_5 O4_5 NP_5 G6 O6
  obtain ⟨f60, f61, f62, f63, f64, f65⟩ := O6_6.cells
  go_wp2
  go_loop [13] (fun i => ∃ k : Nat, k ≤ md.length ∧ i = .int .i64 k) (fun i => md.length - (intOf i).toNat)
  case atStart => exact ⟨0, Nat.zero_le _, rfl⟩
  case round =>
    obtain ⟨k, hk, rfl⟩ := hrel
    by_cases hx : k < md.length
    · obtain ⟨b, off, rfl⟩ := G6_6.row.addr (by rw [cellsOf_length DueV.cells_len]; omega)
      obtain ⟨u, hlu⟩ : ∃ u, md[k] = u := ⟨_, rfl⟩
      have dm := G6_6.row.duef hx hlu
      have hun : u.node ≠ node := drop_none HD.out u (by rw [← hlu]; exact List.getElem_mem hx)
      obtain ⟨u1, u2, u3, u4⟩ := u
      have hub : (u3 == node) = false := beq_eq_false_iff_ne.2 hun
      obtain ⟨_, d0', d1', d2', d3'⟩ := dm
      dsimp only at d0' d1' d2' d3'
      have hkI : (k : Int) < (md.length : Int) := by omega
      clear hlu hun
      go_wp2
      go_round
      case rel => exact ⟨k + 1, by omega, by go_num⟩
      case measure => simp [intOf]; omega
    · obtain rfl : k = md.length := by omega
      clear hx hk
      obtain ⟨f40, f41, f42, f43, f44, f45⟩ := O4_6.cells
      by_cases hct : ct = 0
      · have hTR := take_right HT.out hct
        have HTR : Hid (rightQ (⟨t1, t2, t3, t4⟩ :: mt)) := hTR.1
        obtain rfl := hTR.2
        subst hct
        clear hTR
        have nm4 := G4_6.row
        go_wp2_with fail
        refine (implPutQ_any p4 q4 mt ⟨t1, t2, t3, t4⟩ 0 (⟨t1, t2, t3, t4⟩ :: mt) _ (put_first HTR.out) hmt nm4).mono ?_
        rintro e x8 ⟨v8, rfl, own8, b8⟩
        obtain ⟨p8, q8, rfl, o8, _⟩ := own_sl own8
        have n8 := o8.row
        unfold outV d0
        dsimp only
        have NL_7 := NL_6.keep b8
        have P6_7 := P6_6.keep b8
        have G2_7 := G2_6.keep b8
        have O2_7 := O2_6.below b8
        have NT_7 := NT_6.keep b8
        have G4_7 := G4_6.keep b8
        have O4_7 := O4_6.below b8
        have NP_7 := NP_6.keep b8
        have G6_7 := G6_6.keep b8
        have O6_7 := O6_6.below b8
        have B8 := BZ.trans (b8.mono BZ.size)
        clear b8 own8 o8 nm4 BZ f40 f41 f42 f43 f44 f45 f60 f61 f62 f63 f64 f65 NL_6 P6_6 G2_6 O2_6 NT_6 G4_6 O4_6 NP_6 G6_6 O6_6
        go_wp2_with fail
        refine (lwQueue_same p8 q8 (some ⟨g3, 0, none⟩) q3 (⟨t1, t2, t3, t4⟩ :: mt) _ htl20 n8 NT_7).mono ?_
        rintro e x9 ⟨rfl, b9⟩
        have NL_8 := NL_7.keep b9
        have P6_8 := P6_7.keep b9
        have G2_8 := G2_7.keep b9
        have O2_8 := O2_7.below b9
        have NT_8 := NT_7.keep b9
        have G4_8 := G4_7.keep b9
        have O4_8 := O4_7.below b9
        have NP_8 := NP_7.keep b9
        have G6_8 := G6_7.keep b9
        have O6_8 := O6_7.below b9
        have B9 := B8.trans (b9.mono B8.size)
        clear b9 B8 n8 NL_7 P6_7 G2_7 O2_7 NT_7 G4_7 O4_7 NP_7 G6_7 O6_7
        obtain ⟨f20, f21, f22, f23, f24, f25⟩ := O2_8.cells
        by_cases hcc : c = 0
        · have HMR : Hid (rightQ m) := put_right HP.out hcc
          subst hcc
          have al2 := (Below.refl x9.heap.size x9).alloc (Nat.le_refl _) (.cells #[] 25)
          have O20 := O2_8.below al2
          obtain ⟨h20, h21, h22, h23, h24, h25⟩ := O20.cells
          have G20 := G2_8.keep al2
          have B20 := B9.trans (al2.mono B9.size)
          go_wp2
          go_loopw [15, 14] (fun i v wr => ∃ k : Nat, k ≤ m.length ∧ i = .int .i64 ((k : Int) - 1) ∧ (∃ a cap, v = .slice a (m.drop k).length cap ∧ CellRow wr a (cellsOf DueV.cells (m.drop k))) ∧ OutIs wr k2 (.slice p2 m.length q2) (.int .i64 0) (.int .i64 0) (.int .i64 0) (.string ⟨#[]⟩) (.int .i64 0) ∧ OwnSl wr y1.heap.size (.slice p2 m.length q2) m ∧ Below w.heap.size w wr) (fun i _ _ => (intOf i + 1).toNat)
          case atStart => exact ⟨m.length, Nat.le_refl _, by first | rfl | (congr 1; omega), ⟨some ⟨x9.heap.size, 0, none⟩, 0, by simp, .inl (by simp [cellsOf])⟩, O20, G20, B20⟩
          case round =>
            clear O20 G20 B20 al2 f20 f21 f22 f23 f24 f25 h20 h21 h22 h23 h24 h25
            obtain ⟨k, hk, rfl, ⟨ba, bc, rfl, nb⟩, or, gr, br⟩ := hrel
            obtain ⟨f20, f21, f22, f23, f24, f25⟩ := or.cells
            cases k with
            | zero =>
              have n2 := gr.row
              rw [List.drop_zero] at nb ⊢
              go_wp2_with fail
              refine (lwQueue_same ba bc p2 q2 m _ hml nb n2).mono ?_
              rintro e xf ⟨rfl, bf⟩
              have BF := br.trans (bf.mono br.size)
              clear nb or gr br bf f20 f21 f22 f23 f24 f25
              go_wp2
              go_ret
              exact ⟨rfl, BF⟩
            | succ j =>
              have hj : j < m.length := by omega
              have ej : ((j + 1 : Nat) : Int) - 1 = (j : Int) := by omega
              rw [ej]
              clear ej
              obtain ⟨b, off, rfl⟩ := gr.row.addr (by rw [cellsOf_length DueV.cells_len]; omega)
              obtain ⟨u, hlu⟩ : ∃ u, m[j] = u := ⟨_, rfl⟩
              have dm := gr.row.duef hj hlu
              have HCO : Hid (m.drop j = u :: m.drop (j + 1)) := by show _ = _; rw [drop_consD m j hj, hlu]
              have HRQ : Hid (rightQ (u :: m.drop (j + 1))) := by show rightQ _; rw [← HCO.out]; exact right_drop HMR.out j
              obtain ⟨u1, u2, u3, u4⟩ := u
              obtain ⟨_, d0', d1', d2', d3'⟩ := dm
              dsimp only at d0' d1' d2' d3'
              have hjI : (j : Int) < (m.length : Int) := by omega
              have hdl : (m.drop (j + 1)).length ≤ 1048576 := by rw [List.length_drop]; omega
              have hj0 : (0 : Int) ≤ (j : Int) := by omega
              clear hlu
              obtain ⟨dl, hdle⟩ : ∃ dl, m.drop (j + 1) = dl := ⟨_, rfl⟩
              rw [hdle] at nb hdl HCO HRQ ⊢
              clear hdle
              go_wp2_with fail
              refine (implPutQ_any ba bc dl ⟨u1, u2, u3, u4⟩ 0 (⟨u1, u2, u3, u4⟩ :: dl) _ (put_first HRQ.out) hdl nb).mono ?_
              rintro e xf ⟨vf, rfl, ownf, bf⟩
              obtain ⟨pf, qf, rfl, of, _⟩ := own_sl ownf
              unfold outV d0
              dsimp only
              have BF := br.trans (bf.mono br.size)
              have orf := or.below bf
              have grf := gr.keep bf
              have HNF : Hid (CellRow xf pf (cellsOf DueV.cells (m.drop j))) := by show CellRow _ _ _; rw [HCO.out]; exact of.row
              have HLE : Hid ((m.drop j).length = (DueV.mk u1 u2 u3 u4 :: dl).length) := by show _ = _; rw [HCO.out]
              clear nb or gr br bf ownf of f20 f21 f22 f23 f24 f25 d0' d1' d2' d3'
              go_wp2
              go_roundw
              case rel => exact ⟨j, by omega, by go_num, ⟨pf, qf, by rw [HLE.out]; rfl, HNF.out⟩, orf, grf, BF⟩
              case measure => simp [intOf]
        · have hccb : (c != 0) = true := by simp [hcc]
          go_wp2
          go_ret
          exact ⟨rfl, B9⟩
      · have hctb : (ct == 0) = false := beq_eq_false_iff_ne.2 hct
        go_upto_region 18 with fail
        clear f40 f41 f42 f43 f44 f45 f60 f61 f62 f63 f64 f65
        obtain ⟨f20, f21, f22, f23, f24, f25⟩ := O2_6.cells
        by_cases hcc : c = 0
        · have HMR : Hid (rightQ m) := put_right HP.out hcc
          subst hcc
          have al2 := (Below.refl rh.heap.size rh).alloc (Nat.le_refl _) (.cells #[] 25)
          have O20 := O2_6.below al2
          obtain ⟨h20, h21, h22, h23, h24, h25⟩ := O20.cells
          have G20 := G2_6.keep al2
          have B20 := BZ.trans (al2.mono BZ.size)
          go_wp2
          go_loopw [15, 14] (fun i v wr => ∃ k : Nat, k ≤ m.length ∧ i = .int .i64 ((k : Int) - 1) ∧ (∃ a cap, v = .slice a (m.drop k).length cap ∧ CellRow wr a (cellsOf DueV.cells (m.drop k))) ∧ OutIs wr k2 (.slice p2 m.length q2) (.int .i64 0) (.int .i64 0) (.int .i64 0) (.string ⟨#[]⟩) (.int .i64 0) ∧ OwnSl wr y1.heap.size (.slice p2 m.length q2) m ∧ Below w.heap.size w wr) (fun i _ _ => (intOf i + 1).toNat)
          case atStart => exact ⟨m.length, Nat.le_refl _, by first | rfl | (congr 1; omega), ⟨some ⟨rh.heap.size, 0, none⟩, 0, by simp, .inl (by simp [cellsOf])⟩, O20, G20, B20⟩
          case round =>
            clear O20 G20 B20 al2 f20 f21 f22 f23 f24 f25 h20 h21 h22 h23 h24 h25
            obtain ⟨k, hk, rfl, ⟨ba, bc, rfl, nb⟩, or, gr, br⟩ := hrel
            obtain ⟨f20, f21, f22, f23, f24, f25⟩ := or.cells
            cases k with
            | zero =>
              have n2 := gr.row
              rw [List.drop_zero] at nb ⊢
              go_wp2_with fail
              refine (lwQueue_same ba bc p2 q2 m _ hml nb n2).mono ?_
              rintro e xf ⟨rfl, bf⟩
              have BF := br.trans (bf.mono br.size)
              clear nb or gr br bf f20 f21 f22 f23 f24 f25
              go_wp2
              go_ret
              exact ⟨rfl, BF⟩
            | succ j =>
              have hj : j < m.length := by omega
              have ej : ((j + 1 : Nat) : Int) - 1 = (j : Int) := by omega
              rw [ej]
              clear ej
              obtain ⟨b, off, rfl⟩ := gr.row.addr (by rw [cellsOf_length DueV.cells_len]; omega)
              obtain ⟨u, hlu⟩ : ∃ u, m[j] = u := ⟨_, rfl⟩
              have dm := gr.row.duef hj hlu
              have HCO : Hid (m.drop j = u :: m.drop (j + 1)) := by show _ = _; rw [drop_consD m j hj, hlu]
              have HRQ : Hid (rightQ (u :: m.drop (j + 1))) := by show rightQ _; rw [← HCO.out]; exact right_drop HMR.out j
              obtain ⟨u1, u2, u3, u4⟩ := u
              obtain ⟨_, d0', d1', d2', d3'⟩ := dm
              dsimp only at d0' d1' d2' d3'
              have hjI : (j : Int) < (m.length : Int) := by omega
              have hdl : (m.drop (j + 1)).length ≤ 1048576 := by rw [List.length_drop]; omega
              have hj0 : (0 : Int) ≤ (j : Int) := by omega
              clear hlu
              obtain ⟨dl, hdle⟩ : ∃ dl, m.drop (j + 1) = dl := ⟨_, rfl⟩
              rw [hdle] at nb hdl HCO HRQ ⊢
              clear hdle
              go_wp2_with fail
              refine (implPutQ_any ba bc dl ⟨u1, u2, u3, u4⟩ 0 (⟨u1, u2, u3, u4⟩ :: dl) _ (put_first HRQ.out) hdl nb).mono ?_
              rintro e xf ⟨vf, rfl, ownf, bf⟩
              obtain ⟨pf, qf, rfl, of, _⟩ := own_sl ownf
              unfold outV d0
              dsimp only
              have BF := br.trans (bf.mono br.size)
              have orf := or.below bf
              have grf := gr.keep bf
              have HNF : Hid (CellRow xf pf (cellsOf DueV.cells (m.drop j))) := by show CellRow _ _ _; rw [HCO.out]; exact of.row
              have HLE : Hid ((m.drop j).length = (DueV.mk u1 u2 u3 u4 :: dl).length) := by show _ = _; rw [HCO.out]
              clear nb or gr br bf ownf of f20 f21 f22 f23 f24 f25 d0' d1' d2' d3'
              go_wp2
              go_roundw
              case rel => exact ⟨j, by omega, by go_num, ⟨pf, qf, by rw [HLE.out]; rfl, HNF.out⟩, orf, grf, BF⟩
              case measure => simp [intOf]
        · have hccb : (c != 0) = true := by simp [hcc]
          go_wp2
          go_ret
          exact ⟨rfl, BZ⟩
end Go.Proofs.Ytlnkcbojoaoehaa
