/- The walk of promise 7's law. -/
import Derived.Test.YtenefjnahanfbaaRDraw
import Derived.Test.YtenefjnahanfbaaRLw
import Derived.Test.YtenefjnahanfbaaRWPlain
import Derived.Test.YtenefjnahanfbaaRPickI
import Derived.Test.YtenefjnahanfbaaRegN
namespace Go.Proofs.Ytenefjnahanfbaa
open Go Go.RowKit
set_option linter.unusedVariables false
set_option linter.unusedSimpArgs false

theorem put_code {l : List RumV} {f : FactV} {c : Int} {m : List RumV} (h : PutRIs l f c m) : c = 0 → rightR m := fun e => by
  rcases h with ⟨_, e2, _⟩ | ⟨_, _, e2, _⟩ | ⟨h1, h2, _, rfl⟩
  · omega
  · omega
  · exact putR_right h1 h2
theorem pick_code {l : List RumV} {but : Int} {c : Int} {m : List RumV} {fs : List FactV} (h : PickRIs l but c m fs) : c = 0 → rightR m := fun e => by
  rcases h with ⟨_, e2, _⟩ | ⟨_, _, e2, _⟩ | ⟨h1, _, rfl, _⟩
  · omega
  · omega
  · exact toldR_right h1
theorem at_pair {p : List RumV} {but : Int} {fs : List FactV} (hr : rightR p) (hfs : fs = factsR (pickedR p but)) {x t : RumV} (hx : x ∈ p) (ht : t ∈ p) {g h : FactV} (hg : AtIs fs x.node g) (hh : AtIs fs t.node h) :
    ¬ 0 < g.node ∨ (0 < g.node ∧ h.node ≠ 0) ∨ (0 < g.node ∧ h.node = 0 ∧ t.node = but) ∨ (0 < g.node ∧ h.node = 0 ∧ t.node ≠ but ∧ ¬ t.sent < x.sent) := by
  have hv : rightV fs := by rw [hfs]; exact factsR_right (fun d hd => ((picked_right hr but).1 d hd).1)
  have eg : g = atF fs x.node := hg.elim (fun h => h.2) (fun h => absurd hv h.1)
  have eh : h = atF fs t.node := hh.elim (fun h => h.2) (fun h => absurd hv h.1)
  rw [hfs] at eg eh
  by_cases c1 : 0 < g.node
  · by_cases c2 : h.node = 0
    · by_cases c3 : t.node = but
      · exact .inr (.inr (.inl ⟨c1, c2, c3⟩))
      · refine .inr (.inr (.inr ⟨c1, c2, c3, ?_⟩))
        have p1 : x.node ∈ (pickedR p but).map RumV.node := by
          rcases at_picked hr but hx with ⟨h1, _⟩ | ⟨_, h2⟩
          · exact h1
          · rw [h2] at eg; rw [eg] at c1; unfold factZ at c1; dsimp only at c1; omega
        have p2 : t.node ∉ (pickedR p but).map RumV.node := by
          rcases at_picked hr but ht with ⟨_, h2⟩ | ⟨h1, _⟩
          · rw [h2] at eh
            rw [eh] at c2
            have : 1 ≤ t.node := (hr.1 t ht).1.1.1
            have e : t.fact.node = t.node := rfl
            omega
          · exact h1
        exact told_least hr hx ht p1 p2 c3
    · exact .inr (.inl ⟨c1, c2⟩)
  · exact .inl c1
set_option maxHeartbeats 16000000 in
set_option maxRecDepth 100000 in
theorem FnRumors_walk (a0 : Option Addr) (len0 cap0 : Nat) (z0 : List Int) (a1 : Option Addr) (len1 cap1 : Nat) (z1 : List Int) (w : World) (w0 : ByteRow w a0 len0 cap0 z0) (w1 : ByteRow w a1 len1 cap1 z1) :
    Calls Try.prog 3 #[.slice a0 len0 cap0, .slice a1 len1 cap1] w fun e w' => e = .returned (.bool true) ∧ Below w.heap.size w w' := by
  by_cases hs0 : 1048576 < (len0 : Int)
  · go_enter Try.func3, Try.ntmps3
    go_wp2
    go_ret
    exact ⟨rfl, Below.refl _ _⟩
  by_cases hs1 : 1048576 < (len1 : Int)
  · go_enter Try.func3, Try.ntmps3
    go_wp2
    go_ret
    exact ⟨rfl, Below.refl _ _⟩
  go_enter Try.func3, Try.ntmps3
  go_wp2_with fail
  refine (drawRPut_any a0 len0 cap0 z0 w (by omega) w0).mono ?_
  rintro e x1 ⟨v1, l, f, rfl, hl7, R1, B⟩
  obtain ⟨al, el, rfl, rl⟩ := R1.parts
  obtain ⟨cx, m, hPx⟩ := putR_ex l f
  obtain ⟨f1, f2, f3⟩ := f
  have HPX : Hid (PutRIs l ⟨f1, f2, f3⟩ cx m) := hPx
  have hm6 := putR_len hPx
  replace w1 := w1.below B
  unfold FactV.val
  clear w0 R1 hPx
  have bA : Below x1.heap.size x1 (x1.alloc (.cells #[.int .i64 f1, .int .i64 f2, .int .i64 f3] 25)) := (Below.refl _ _).alloc (Nat.le_refl _) _
  have PF := BlkIs.new x1 25 #[.int .i64 f1, .int .i64 f2, .int .i64 f3]
  replace rl := rl.keep bA
  replace w1 := w1.below bA
  replace B := B.trans (bA.mono B.size)
  obtain ⟨y1, hy1⟩ : ∃ y, x1.alloc (.cells #[.int .i64 f1, .int .i64 f2, .int .i64 f3] 25) = y := ⟨_, rfl⟩
  obtain ⟨kf, hkf⟩ : ∃ k, x1.heap.size = k := ⟨_, rfl⟩
  rw [hy1] at PF B rl w1
  rw [hkf] at PF
  have Hy1 : Hid (_ = y1) := hy1
  have HKkf : Hid (x1.heap.size = kf) := hkf
  clear bA hy1 hkf
  have c0 : y1.cell? ⟨kf, 0, none⟩ = some (.int .i64 f1) := PF.cell 0
  have c1 : y1.cell? ⟨kf, 1, none⟩ = some (.int .i64 f2) := PF.cell 1
  have c2 : y1.cell? ⟨kf, 2, none⟩ = some (.int .i64 f3) := PF.cell 2
  go_upto_region 4 with fail
  rw [Hy1.out, HKkf.out]
  clear Hy1 HKkf
  go_wp2_with fail
  refine (implRPut_any al el l ⟨f1, f2, f3⟩ cx m _ HPX.out (by omega) rl).mono ?_
  rintro e x2 ⟨vx, ux, rfl, ox, oxf, b2⟩
  obtain ⟨px, ex, rfl, rx⟩ := OwnsRow.cellRowR ox
  obtain ⟨qx, qn, dx, rfl⟩ := rowShape oxf
  obtain rfl : qn = 0 := by
    rcases oxf.2 with ⟨e, _⟩ | ⟨_, _, _, e, _⟩
    · simp only [Value.slice.injEq] at e; exact e.2.1
    · simp only [Value.slice.injEq] at e; exact e.2.1
  unfold outR
  clear c0 c1 c2 ox oxf
  replace rl := rl.keep b2
  replace PF := PF.keep b2
  replace w1 := w1.below b2
  replace B := B.trans (b2.mono B.size)
  clear b2
  have bA : Below x2.heap.size x2 (x2.alloc (.cells #[.slice px m.length ex, .slice qx 0 dx, .int .i64 cx] 30)) := (Below.refl _ _).alloc (Nat.le_refl _) _
  have PX := BlkIs.new x2 30 #[.slice px m.length ex, .slice qx 0 dx, .int .i64 cx]
  replace rl := rl.keep bA
  replace PF := PF.keep bA
  replace rx := rx.keep bA
  replace w1 := w1.below bA
  replace B := B.trans (bA.mono B.size)
  obtain ⟨y2, hy2⟩ : ∃ y, x2.alloc (.cells #[.slice px m.length ex, .slice qx 0 dx, .int .i64 cx] 30) = y := ⟨_, rfl⟩
  obtain ⟨kx, hkx⟩ : ∃ k, x2.heap.size = k := ⟨_, rfl⟩
  rw [hy2] at PX B rl PF rx w1
  rw [hkx] at PX
  have Hy2 : Hid (_ = y2) := hy2
  have HKkx : Hid (x2.heap.size = kx) := hkx
  clear bA hy2 hkx
  go_wp2_with fail
  rw [Hy2.out, HKkx.out]
  clear Hy2 HKkx
  refine (drawRPick_any a1 len1 cap1 z1 _ (by omega) w1).mono ?_
  rintro e x3 ⟨v3, p, but, rfl, hp7, R3, b3⟩
  obtain ⟨ap, ep, rfl, rp⟩ := R3.parts
  clear R3
  replace rl := rl.keep b3
  replace PF := PF.keep b3
  replace rx := rx.keep b3
  replace PX := PX.keep b3
  replace w1 := w1.below b3
  replace B := B.trans (b3.mono B.size)
  clear b3
  obtain ⟨cy, m2, fs, hPy⟩ := pickR_ex p but
  have HPY : Hid (PickRIs p but cy m2 fs) := hPy
  have hm26 := (pickR_len hPy).1
  have hfs6 := (pickR_len hPy).2
  clear hPy w1
  go_wp2_with fail
  refine (implRPick_any ap ep p but cy m2 fs _ HPY.out (by omega) rp).mono ?_
  rintro e x4 ⟨vy, uy, rfl, oy, oyf, b4⟩
  obtain ⟨py, ey, rfl, ry⟩ := OwnsRow.cellRowR oy
  obtain ⟨qy, dy, rfl, ryf⟩ := OwnsRow.cellRow oyf
  unfold outR
  clear oy oyf
  replace rl := rl.keep b4
  replace PF := PF.keep b4
  replace rx := rx.keep b4
  replace PX := PX.keep b4
  replace rp := rp.keep b4
  replace B := B.trans (b4.mono B.size)
  clear b4
  have bA : Below x4.heap.size x4 (x4.alloc (.cells #[.slice py m2.length ey, .slice qy fs.length dy, .int .i64 cy] 30)) := (Below.refl _ _).alloc (Nat.le_refl _) _
  have PY := BlkIs.new x4 30 #[.slice py m2.length ey, .slice qy fs.length dy, .int .i64 cy]
  replace rl := rl.keep bA
  replace PF := PF.keep bA
  replace rx := rx.keep bA
  replace PX := PX.keep bA
  replace rp := rp.keep bA
  replace ry := ry.keep bA
  replace ryf := ryf.keep bA
  replace B := B.trans (bA.mono B.size)
  obtain ⟨y6, hy6⟩ : ∃ y, x4.alloc (.cells #[.slice py m2.length ey, .slice qy fs.length dy, .int .i64 cy] 30) = y := ⟨_, rfl⟩
  obtain ⟨ky, hky⟩ : ∃ k, x4.heap.size = k := ⟨_, rfl⟩
  rw [hy6] at PY B rl PF rx PX rp ry ryf
  rw [hky] at PY
  have Hy6 : Hid (_ = y6) := hy6
  have HKky : Hid (x4.heap.size = ky) := hky
  clear bA hy6 hky
  obtain ⟨qr, hqr⟩ := tells_bool (rightR l)
  have HQR : Hid (qr = true ↔ rightR l) := hqr
  clear hqr
  go_upto_region 7 with fail
  rw [Hy6.out, HKky.out]
  clear Hy6 HKky
  go_cut [64] (fun v wc => v = .bool false ∧ Below y6.heap.size y6 wc)
  case first =>
    as_aux_lemma =>
      refine wp_region_held_drew (S := fun w' => Below y6.heap.size y6 w') (by kernel_rfl) ?hS0 (fun hHeld => ?_)
      case hS0 => exact (Below.refl _ _).drew
      refine takeG 0 (v := .agg #[.slice px m.length ex, .slice qx 0 dx, .int .i64 cx]) rfl (by kernel_rfl) (by kernel_rfl) (by kernel_rfl) (by kernel_rfl) (fun _ _ _ h => h) ?hy (by assumption) ?_
      case hy => (intro w' hSw; have s0 : w'.cell? ⟨kx, 0, none⟩ = some (.slice px m.length ex) := (PX.keep hSw).cell 0; have s1 : w'.cell? ⟨kx, 1, none⟩ = some (.slice qx 0 dx) := (PX.keep hSw).cell 1; have s2 : w'.cell? ⟨kx, 2, none⟩ = some (.int .i64 cx) := (PX.keep hSw).cell 2; go_simp)
      try simp only [Act.put, List.setIfInBounds_toArray, List.set_cons_zero, List.set_cons_succ]
      refine takeG 1 (v := .slice al l.length el) rfl (by kernel_rfl) (by kernel_rfl) (by kernel_rfl) (by kernel_rfl) (fun _ _ _ h => h) ?hy (by assumption) ?_
      case hy => (intro w' hSw; go_simp)
      try simp only [Act.put, List.setIfInBounds_toArray, List.set_cons_zero, List.set_cons_succ]
      refine takeG 2 (v := .agg #[.int .i64 f1, .int .i64 f2, .int .i64 f3]) rfl (by kernel_rfl) (by kernel_rfl) (by kernel_rfl) (by kernel_rfl) (fun _ _ _ h => h) ?hy (by assumption) ?_
      case hy => (intro w' hSw; have s0 : w'.cell? ⟨kf, 0, none⟩ = some (.int .i64 f1) := (PF.keep hSw).cell 0; have s1 : w'.cell? ⟨kf, 1, none⟩ = some (.int .i64 f2) := (PF.keep hSw).cell 1; have s2 : w'.cell? ⟨kf, 2, none⟩ = some (.int .i64 f3) := (PF.keep hSw).cell 2; go_simp)
      try simp only [Act.put, List.setIfInBounds_toArray, List.set_cons_zero, List.set_cons_succ]
      refine runG 3 (by kernel_rfl) rfl (by kernel_rfl) ?_
      go_simp
      refine (specRPut_any al el l ⟨f1, f2, f3⟩ cx m _ HPX.out (by omega) (rl.keep hHeld)).mono ?_
      rintro e g1 ⟨vz, uz, rfl, oz, ozf, bb⟩
      have hg1 : (fun z => Below y6.heap.size y6 z) g1 := hHeld.trans (bb.mono hHeld.size)
      obtain ⟨pz, ez, rfl, rz⟩ := OwnsRow.cellRowR oz
      obtain ⟨qz, qn, dz, rfl⟩ := rowShape ozf
      obtain rfl : qn = 0 := by
        rcases ozf.2 with ⟨e, _⟩ | ⟨_, _, _, e, _⟩
        · simp only [Value.slice.injEq] at e; exact e.2.1
        · simp only [Value.slice.injEq] at e; exact e.2.1
      unfold outR
      clear oz ozf
      refine ⟨hg1, ?_⟩
      clear hHeld bb
      try simp only [Act.put, List.setIfInBounds_toArray, List.set_cons_zero, List.set_cons_succ]
      refine runG 4 (by kernel_rfl) rfl (by kernel_rfl) ?_
      go_simp
      refine (lwRumors_same px ex pz ez qx dx qz dz cx m [] _ (by omega) (by simp) (rx.keep hg1) rz (.inl rfl) (.inl rfl) (put_code HPX.out)).mono ?_
      rintro e g2 ⟨rfl, bb⟩
      have hg2 : (fun z => Below y6.heap.size y6 z) g2 := hg1.trans (bb.mono hg1.size)
      clear rz
      refine ⟨hg2, ?_⟩
      clear hg1 bb
      try simp only [Act.put, List.setIfInBounds_toArray, List.set_cons_zero, List.set_cons_succ]
      refine takeG 5 (v := .bool false) rfl (by kernel_rfl) (by kernel_rfl) (by kernel_rfl) (by kernel_rfl) (fun _ _ _ h => h) ?hy (by assumption) ?_
      case hy => (intro w' hSw; go_simp)
      try simp only [Act.put, List.setIfInBounds_toArray, List.set_cons_zero, List.set_cons_succ]
      refine takeG 6 (v := .bool false) rfl (by kernel_rfl) (by kernel_rfl) (by kernel_rfl) (by kernel_rfl) (fun _ _ _ h => h) ?hy (by assumption) ?_
      case hy => (intro w' hSw; go_simp)
      try simp only [Act.put, List.setIfInBounds_toArray, List.set_cons_zero, List.set_cons_succ]
      refine takeG 7 (v := .agg #[.slice py m2.length ey, .slice qy fs.length dy, .int .i64 cy]) rfl (by kernel_rfl) (by kernel_rfl) (by kernel_rfl) (by kernel_rfl) (fun _ _ _ h => h) ?hy (by assumption) ?_
      case hy => (intro w' hSw; have s0 : w'.cell? ⟨ky, 0, none⟩ = some (.slice py m2.length ey) := (PY.keep hSw).cell 0; have s1 : w'.cell? ⟨ky, 1, none⟩ = some (.slice qy fs.length dy) := (PY.keep hSw).cell 1; have s2 : w'.cell? ⟨ky, 2, none⟩ = some (.int .i64 cy) := (PY.keep hSw).cell 2; go_simp)
      try simp only [Act.put, List.setIfInBounds_toArray, List.set_cons_zero, List.set_cons_succ]
      refine takeG 8 (v := .slice ap p.length ep) rfl (by kernel_rfl) (by kernel_rfl) (by kernel_rfl) (by kernel_rfl) (fun _ _ _ h => h) ?hy (by assumption) ?_
      case hy => (intro w' hSw; go_simp)
      try simp only [Act.put, List.setIfInBounds_toArray, List.set_cons_zero, List.set_cons_succ]
      refine takeG 9 (v := .int .i64 but) rfl (by kernel_rfl) (by kernel_rfl) (by kernel_rfl) (by kernel_rfl) (fun _ _ _ h => h) ?hy (by assumption) ?_
      case hy => (intro w' hSw; go_simp)
      try simp only [Act.put, List.setIfInBounds_toArray, List.set_cons_zero, List.set_cons_succ]
      refine runG 10 (by kernel_rfl) rfl (by kernel_rfl) ?_
      go_simp
      refine (specRPick_any ap ep p but cy m2 fs _ HPY.out (by omega) (rp.keep hg2)).mono ?_
      rintro e g3 ⟨vz, uz, rfl, oz, ozf, bb⟩
      have hg3 : (fun z => Below y6.heap.size y6 z) g3 := hg2.trans (bb.mono hg2.size)
      obtain ⟨pz, ez, rfl, rz⟩ := OwnsRow.cellRowR oz
      obtain ⟨qz, dz, rfl, rzf⟩ := OwnsRow.cellRow ozf
      unfold outR
      clear oz ozf
      refine ⟨hg3, ?_⟩
      clear hg2 bb
      try simp only [Act.put, List.setIfInBounds_toArray, List.set_cons_zero, List.set_cons_succ]
      refine runG 11 (by kernel_rfl) rfl (by kernel_rfl) ?_
      go_simp
      refine (lwRumors_same py ey pz ez qy dy qz dz cy m2 fs _ (by omega) (by omega) (ry.keep hg3) rz (ryf.keep hg3) rzf (pick_code HPY.out)).mono ?_
      rintro e g4 ⟨rfl, bb⟩
      have hg4 : (fun z => Below y6.heap.size y6 z) g4 := hg3.trans (bb.mono hg3.size)
      clear rz rzf
      refine ⟨hg4, ?_⟩
      clear hg3 bb
      try simp only [Act.put, List.setIfInBounds_toArray, List.set_cons_zero, List.set_cons_succ]
      refine takeG 12 (v := .bool false) rfl (by kernel_rfl) (by kernel_rfl) (by kernel_rfl) (by kernel_rfl) (fun _ _ _ h => h) ?hy (by assumption) ?_
      case hy => (intro w' hSw; go_simp)
      try simp only [Act.put, List.setIfInBounds_toArray, List.set_cons_zero, List.set_cons_succ]
      refine takeG 13 (v := .bool false) rfl (by kernel_rfl) (by kernel_rfl) (by kernel_rfl) (by kernel_rfl) (fun _ _ _ h => h) ?hy (by assumption) ?_
      case hy => (intro w' hSw; go_simp)
      try simp only [Act.put, List.setIfInBounds_toArray, List.set_cons_zero, List.set_cons_succ]
      refine takeG 14 (v := .bool false) rfl (by kernel_rfl) (by kernel_rfl) (by kernel_rfl) (by kernel_rfl) (fun _ _ _ h => h) ?hy (by assumption) ?_
      case hy => (intro w' hSw; go_simp)
      try simp only [Act.put, List.setIfInBounds_toArray, List.set_cons_zero, List.set_cons_succ]
      refine takeG 15 (v := .slice al l.length el) rfl (by kernel_rfl) (by kernel_rfl) (by kernel_rfl) (by kernel_rfl) (fun _ _ _ h => h) ?hy (by assumption) ?_
      case hy => (intro w' hSw; go_simp)
      try simp only [Act.put, List.setIfInBounds_toArray, List.set_cons_zero, List.set_cons_succ]
      refine takeG 17 (v := .slice al l.length el) rfl (by kernel_rfl) (by kernel_rfl) (by kernel_rfl) (by kernel_rfl) (fun _ _ _ h => h) ?hy (by assumption) ?_
      case hy => (intro w' hSw; go_simp)
      try simp only [Act.put, List.setIfInBounds_toArray, List.set_cons_zero, List.set_cons_succ]
      refine runG 16 (by kernel_rfl) rfl (by kernel_rfl) ?_
      go_simp
      refine (implRRight_is al el l _ qr HQR.out (by omega) (rl.keep hg4)).mono ?_
      rintro e g5 ⟨rfl, bb⟩
      have hg5 : (fun z => Below y6.heap.size y6 z) g5 := hg4.trans (bb.mono hg4.size)
      refine ⟨hg5, ?_⟩
      clear hg4 bb
      try simp only [Act.put, List.setIfInBounds_toArray, List.set_cons_zero, List.set_cons_succ]
      refine runG 18 (by kernel_rfl) rfl (by kernel_rfl) ?_
      go_simp
      refine (specRRight_is al el l _ qr HQR.out (by omega) (rl.keep hg5)).mono ?_
      rintro e g6 ⟨rfl, bb⟩
      have hg6 : (fun z => Below y6.heap.size y6 z) g6 := hg5.trans (bb.mono hg5.size)
      refine ⟨hg6, ?_⟩
      clear hg5 bb
      try simp only [Act.put, List.setIfInBounds_toArray, List.set_cons_zero, List.set_cons_succ]
      refine takeG 19 (v := .bool false) rfl (by kernel_rfl) (by kernel_rfl) (by kernel_rfl) (by kernel_rfl) (fun _ _ _ h => h) ?hy (by assumption) ?_
      case hy => (intro w' hSw; cases qr <;> go_simp)
      try simp only [Act.put, List.setIfInBounds_toArray, List.set_cons_zero, List.set_cons_succ]
      refine takeG 20 (v := .bool false) rfl (by kernel_rfl) (by kernel_rfl) (by kernel_rfl) (by kernel_rfl) (fun _ _ _ h => h) ?hy (by assumption) ?_
      case hy => (intro w' hSw; go_simp)
      try simp only [Act.put, List.setIfInBounds_toArray, List.set_cons_zero, List.set_cons_succ]
      refine wpAnyH_done (by kernel_rfl) ?_ _
      go_wp2_with fail
      go_meet
      case rel => exact ⟨rfl, hg6⟩
  case rest =>
    obtain ⟨rfl, bX⟩ := hcut
    obtain ⟨X, rfl⟩ : ∃ X, X = wc := ⟨wc, rfl⟩
    replace rl := rl.keep bX
    replace PF := PF.keep bX
    replace rx := rx.keep bX
    replace PX := PX.keep bX
    replace rp := rp.keep bX
    replace ry := ry.keep bX
    replace ryf := ryf.keep bX
    replace PY := PY.keep bX
    replace B := B.trans (bX.mono B.size)
    clear bX
    have k2 : X.cell? ⟨ky, 2, none⟩ = some (.int .i64 cy) := PY.cell 2
    go_upto_if 67 with fail
    clear k2
    go_cut [] (fun wc => Below X.heap.size X wc)
    case first =>
      by_cases hcy : cy = 0
      · subst hcy
        have HPYP : Hid (rightR p ∧ fs = factsR (pickedR p but)) := by
          show _ ∧ _
          rcases HPY.out with ⟨_, e, _⟩ | ⟨_, _, e, _⟩ | ⟨h1, _, _, h2⟩
          · cases e
          · cases e
          · exact ⟨h1, h2⟩
        go_wp2
        go_loopw [11] (fun i wr => ∃ k : Nat, k ≤ fs.length ∧ i = .int .i64 k ∧ Below X.heap.size X wr) (fun i _ => fs.length - (intOf i).toNat)
        case atStart => exact ⟨0, Nat.zero_le _, rfl, Below.refl _ _⟩
        case round =>
          obtain ⟨k, hk, rfl, bk⟩ := hrel
          obtain ⟨wk, rfl⟩ : ∃ wk, wk = wr := ⟨wr, rfl⟩
          have q1 : wk.cell? ⟨ky, 1, none⟩ = some (.slice qy fs.length dy) := (PY.keep bk).cell 1
          by_cases hx : k < fs.length
          · obtain ⟨b, off, rfl⟩ := ryf.addr (by rw [cellsOf_length FactV.cells_len]; omega)
            obtain ⟨x, hlx⟩ : ∃ x, fs[k] = x := ⟨_, rfl⟩
            have dk := (ryf.keep bk).fact hx hlx
            have hnb : x.node ≠ but := by
              have hm : x ∈ fs := by rw [← hlx]; exact List.getElem_mem hx
              rw [HPYP.out.2] at hm
              exact fact_not_but HPYP.out.1 but hm
            obtain ⟨x1, x2, x3⟩ := x
            obtain ⟨_, s0, s1, s2⟩ := dk
            dsimp only at s0 s1 s2 hnb
            have hnb' : (x1 == but) = false := beq_eq_false_iff_ne.2 hnb
            have hkI : (k : Int) < (fs.length : Int) := by omega
            clear hlx hnb
            go_wp2
            go_roundw
            case rel => exact ⟨k + 1, by omega, by go_num, bk⟩
            case measure => simp [intOf]; omega
          · obtain rfl : k = fs.length := by omega
            go_wp2
            clear q1
            go_loopw [12] (fun i wr => ∃ k : Nat, k ≤ p.length ∧ i = .int .i64 k ∧ Below X.heap.size X wr) (fun i _ => p.length - (intOf i).toNat)
            case atStart => exact ⟨0, Nat.zero_le _, rfl, bk⟩
            case round =>
              obtain ⟨i, hi, rfl, bi⟩ := hrel
              obtain ⟨wi, rfl⟩ : ∃ wi, wi = wr := ⟨wr, rfl⟩
              clear bk
              by_cases hxi : i < p.length
              · have hiI : (i : Int) < (p.length : Int) := by omega
                go_wp2
                go_loopw [13] (fun q wr => ∃ k : Nat, k ≤ p.length ∧ q = .int .i64 k ∧ Below X.heap.size X wr) (fun q _ => p.length - (intOf q).toNat)
                case atStart => exact ⟨0, Nat.zero_le _, rfl, bi⟩
                case round =>
                  obtain ⟨j, hj, rfl, bj⟩ := hrel
                  obtain ⟨wj, rfl⟩ : ∃ wj, wj = wr := ⟨wr, rfl⟩
                  by_cases hxj : j < p.length
                  · have hjI : (j : Int) < (p.length : Int) := by omega
                    obtain ⟨b, off, rfl⟩ := rp.addr (by rw [cellsOf_length RumV.cells_len]; omega)
                    obtain ⟨x, hlx⟩ : ∃ x, p[i] = x := ⟨_, rfl⟩
                    obtain ⟨t, hlt⟩ : ∃ t, p[j] = t := ⟨_, rfl⟩
                    have di := rp.rum hxi hlx
                    have dj := rp.rum hxj hlt
                    have hxp : x ∈ p := by rw [← hlx]; exact List.getElem_mem hxi
                    have htp : t ∈ p := by rw [← hlt]; exact List.getElem_mem hxj
                    obtain ⟨gg, hgg⟩ : ∃ m, AtIs fs x.node m := atIs_ex _ _
                    obtain ⟨hh, hhh⟩ : ∃ m, AtIs fs t.node m := atIs_ex _ _
                    have HGH := at_pair HPYP.out.1 HPYP.out.2 hxp htp hgg hhh
                    obtain ⟨x1, x2, x3, x4⟩ := x
                    obtain ⟨t1, t2, t3, t4⟩ := t
                    obtain ⟨g1, g2, g3⟩ := gg
                    obtain ⟨h1, h2, h3⟩ := hh
                    have HG : Hid (AtIs fs x1 ⟨g1, g2, g3⟩) := hgg
                    have HH : Hid (AtIs fs t1 ⟨h1, h2, h3⟩) := hhh
                    have HC : Hid (¬ 0 < g1 ∨ (0 < g1 ∧ h1 ≠ 0) ∨ (0 < g1 ∧ h1 = 0 ∧ t1 = but) ∨ (0 < g1 ∧ h1 = 0 ∧ t1 ≠ but ∧ ¬ t4 < x4)) := HGH
                    clear hlx hlt hxp htp hgg hhh HGH
                    go_upto_region 21 with fail
                    go_cut [14, 15] (fun vg vh wc => ∃ kg kh, vg = .pointer (some ⟨kg, 0, none⟩) ∧ vh = .pointer (some ⟨kh, 0, none⟩) ∧ BlkIs wc kg 25 #[.int .i64 g1, .int .i64 g2, .int .i64 g3] ∧ BlkIs wc kh 25 #[.int .i64 h1, .int .i64 h2, .int .i64 h3] ∧ Below wj.heap.size wj wc)
                    case first =>
                      as_aux_lemma =>
                      refine wp_region_any (by kernel_rfl) ?_
                      refine wpAny_pre 20 2 (fun i => [95, 96, 97, 98, 99, 100, 101, 102, 103, 104, 105, 106, 107, 108, 109, 110, 111, 112, 14, 15].getD i 0) (fun kq v wq => match kq with | 0 => v = .pointer (some ⟨ky, 1, none⟩) | 1 => v = .slice qy fs.length dy | 2 => v = .slice (some ⟨b, off, none⟩) p.length ep | 3 => v = .int .i64 (i : Int) | 4 => v = .pointer (some ⟨b, off + i * 4, none⟩) | 5 => v = .pointer (some ⟨b, off + i * 4, none⟩) | 6 => v = .pointer (some ⟨b, off + i * 4, none⟩) | 7 => v = .int .i64 x1 | 8 => v = .agg #[.int .i64 g1, .int .i64 g2, .int .i64 g3] | 9 => v = .pointer (some ⟨ky, 1, none⟩) | 10 => v = .slice qy fs.length dy | 11 => v = .slice (some ⟨b, off, none⟩) p.length ep | 12 => v = .int .i64 (j : Int) | 13 => v = .pointer (some ⟨b, off + j * 4, none⟩) | 14 => v = .pointer (some ⟨b, off + j * 4, none⟩) | 15 => v = .pointer (some ⟨b, off + j * 4, none⟩) | 16 => v = .int .i64 t1 | 17 => v = .agg #[.int .i64 h1, .int .i64 h2, .int .i64 h3] | 18 => ∃ kn, v = .pointer (some ⟨kn, 0, none⟩) ∧ BlkIs wq kn 25 #[.int .i64 0, .int .i64 0, .int .i64 0] ∧ wj.heap.size ≤ kn | 19 => ∃ kn, v = .pointer (some ⟨kn, 0, none⟩) ∧ BlkIs wq kn 25 #[.int .i64 0, .int .i64 0, .int .i64 0] ∧ wj.heap.size ≤ kn | _ => True) (fun i j u v => (i = 18 ∧ j = 19 → u ≠ v) ∧ (i = 19 ∧ j = 18 → u ≠ v)) _ wj (by kernel_rfl) ?winj ?wstab ?wstep ?wrest 20 (List.range 20) _ _ _ rfl (by decide) (fun i hi => List.mem_range.1 hi) ?wun rfl ?wup ?wdown ⟨rfl, rfl, fun _ _ => rfl⟩ (Below.refl _ _).drew ?wnone ?wnone2
                      case winj => exact (show ∀ i, i < 20 → ∀ j, j < 20 → [95, 96, 97, 98, 99, 100, 101, 102, 103, 104, 105, 106, 107, 108, 109, 110, 111, 112, 14, 15].getD i 0 = [95, 96, 97, 98, 99, 100, 101, 102, 103, 104, 105, 106, 107, 108, 109, 110, 111, 112, 14, 15].getD j 0 → i = j by decide)
                      case wun => exact fun i hi => ⟨fun _ => List.mem_range.2 hi, fun _ => rep_no _ _⟩
                      case wup => exact fun j hj => rep_no _ _
                      case wdown =>
                        intro j hj
                        rw [rep_no] at hj
                        cases hj
                      case wnone =>
                        intro i hi hj
                        rw [rep_no] at hj
                        cases hj
                      case wnone2 =>
                        intro i j hi hj hij hl
                        rw [rep_no] at hl
                        cases hl
                      case wstab =>
                        intro kq u wa wb h hB
                        match kq, h with
                        | 0, h => exact h
                        | 1, h => exact h
                        | 2, h => exact h
                        | 3, h => exact h
                        | 4, h => exact h
                        | 5, h => exact h
                        | 6, h => exact h
                        | 7, h => exact h
                        | 8, h => exact h
                        | 9, h => exact h
                        | 10, h => exact h
                        | 11, h => exact h
                        | 12, h => exact h
                        | 13, h => exact h
                        | 14, h => exact h
                        | 15, h => exact h
                        | 16, h => exact h
                        | 17, h => exact h
                        | 18, h => exact (show ∃ kn, u = _ ∧ BlkIs wb kn 25 #[.int .i64 0, .int .i64 0, .int .i64 0] ∧ wj.heap.size ≤ kn from by obtain ⟨kn, h1, h2, h3⟩ := h; exact ⟨kn, h1, h2.keep hB, h3⟩)
                        | 19, h => exact (show ∃ kn, u = _ ∧ BlkIs wb kn 25 #[.int .i64 0, .int .i64 0, .int .i64 0] ∧ wj.heap.size ≤ kn from by obtain ⟨kn, h1, h2, h3⟩ := h; exact ⟨kn, h1, h2.keep hB, h3⟩)
                        | _ + 20, _ => exact trivial
                      case wstep =>
                        intro q o hin ho fa fw hF hJ hpre
                        have hJX : Below X.heap.size X fw := bj.trans (hJ.mono bj.size)
                        obtain rfl | rfl | rfl | rfl | rfl | rfl | rfl | rfl | rfl | rfl | rfl | rfl | rfl | rfl | rfl | rfl | rfl | rfl | rfl | rfl : q = 0 ∨ q = 1 ∨ q = 2 ∨ q = 3 ∨ q = 4 ∨ q = 5 ∨ q = 6 ∨ q = 7 ∨ q = 8 ∨ q = 9 ∨ q = 10 ∨ q = 11 ∨ q = 12 ∨ q = 13 ∨ q = 14 ∨ q = 15 ∨ q = 16 ∨ q = 17 ∨ q = 18 ∨ q = 19 := by omega
                        all_goals (obtain rfl := Option.some.inj ho)
                        · have hs10 : fa.tmps[10]?.getD undef = .pointer (some ⟨ky, 0, none⟩) := by
                            have := hF.2.2 10 (show ∀ i, i < 20 → [95, 96, 97, 98, 99, 100, 101, 102, 103, 104, 105, 106, 107, 108, 109, 110, 111, 112, 14, 15].getD i 0 ≠ 10 by decide)
                            simpa using this
                          exact step_val (v := .pointer (some ⟨ky, 1, none⟩)) (w' := fw) (by go_simp) ⟨_, rfl, rfl, Below.refl _ _, fun j u hj hne hu => ⟨⟨fun h => absurd h (by omega), fun h => absurd h (by omega)⟩, ⟨fun h => absurd h (by omega), fun h => absurd h (by omega)⟩⟩⟩
                        · have hd0 : fa.tmps[95]?.getD undef = .pointer (some ⟨ky, 1, none⟩) := by simpa using (hpre ⟨0, .data⟩ (by simp) rfl : fa.tmps.getD 95 undef = .pointer (some ⟨ky, 1, none⟩))
                          have s1 : fw.cell? ⟨ky, 1, none⟩ = some (.slice qy fs.length dy) := (PY.keep hJX).cell 1
                          exact step_val (v := .slice qy fs.length dy) (w' := fw) (by go_simp) ⟨_, rfl, rfl, Below.refl _ _, fun j u hj hne hu => ⟨⟨fun h => absurd h (by omega), fun h => absurd h (by omega)⟩, ⟨fun h => absurd h (by omega), fun h => absurd h (by omega)⟩⟩⟩
                        · have hs8 : fa.tmps[8]?.getD undef = .slice (some ⟨b, off, none⟩) p.length ep := by
                            have := hF.2.2 8 (show ∀ i, i < 20 → [95, 96, 97, 98, 99, 100, 101, 102, 103, 104, 105, 106, 107, 108, 109, 110, 111, 112, 14, 15].getD i 0 ≠ 8 by decide)
                            simpa using this
                          exact step_val (v := .slice (some ⟨b, off, none⟩) p.length ep) (w' := fw) (by go_simp) ⟨_, rfl, rfl, Below.refl _ _, fun j u hj hne hu => ⟨⟨fun h => absurd h (by omega), fun h => absurd h (by omega)⟩, ⟨fun h => absurd h (by omega), fun h => absurd h (by omega)⟩⟩⟩
                        · have hs12 : fa.tmps[12]?.getD undef = .int .i64 (i : Int) := by
                            have := hF.2.2 12 (show ∀ i, i < 20 → [95, 96, 97, 98, 99, 100, 101, 102, 103, 104, 105, 106, 107, 108, 109, 110, 111, 112, 14, 15].getD i 0 ≠ 12 by decide)
                            simpa using this
                          exact step_val (v := .int .i64 (i : Int)) (w' := fw) (by go_simp) ⟨_, rfl, rfl, Below.refl _ _, fun j u hj hne hu => ⟨⟨fun h => absurd h (by omega), fun h => absurd h (by omega)⟩, ⟨fun h => absurd h (by omega), fun h => absurd h (by omega)⟩⟩⟩
                        · have hd2 : fa.tmps[97]?.getD undef = .slice (some ⟨b, off, none⟩) p.length ep := by simpa using (hpre ⟨2, .data⟩ (by simp) rfl : fa.tmps.getD 97 undef = .slice (some ⟨b, off, none⟩) p.length ep)
                          have hd3 : fa.tmps[98]?.getD undef = .int .i64 (i : Int) := by simpa using (hpre ⟨3, .data⟩ (by simp) rfl : fa.tmps.getD 98 undef = .int .i64 (i : Int))
                          exact step_val (v := .pointer (some ⟨b, off + i * 4, none⟩)) (w' := fw) (by go_simp) ⟨_, rfl, rfl, Below.refl _ _, fun j u hj hne hu => ⟨⟨fun h => absurd h (by omega), fun h => absurd h (by omega)⟩, ⟨fun h => absurd h (by omega), fun h => absurd h (by omega)⟩⟩⟩
                        · have hd4 : fa.tmps[99]?.getD undef = .pointer (some ⟨b, off + i * 4, none⟩) := by simpa using (hpre ⟨4, .data⟩ (by simp) rfl : fa.tmps.getD 99 undef = .pointer (some ⟨b, off + i * 4, none⟩))
                          exact step_val (v := .pointer (some ⟨b, off + i * 4, none⟩)) (w' := fw) (by go_simp) ⟨_, rfl, rfl, Below.refl _ _, fun j u hj hne hu => ⟨⟨fun h => absurd h (by omega), fun h => absurd h (by omega)⟩, ⟨fun h => absurd h (by omega), fun h => absurd h (by omega)⟩⟩⟩
                        · have hd5 : fa.tmps[100]?.getD undef = .pointer (some ⟨b, off + i * 4, none⟩) := by simpa using (hpre ⟨5, .data⟩ (by simp) rfl : fa.tmps.getD 100 undef = .pointer (some ⟨b, off + i * 4, none⟩))
                          exact step_val (v := .pointer (some ⟨b, off + i * 4, none⟩)) (w' := fw) (by go_simp) ⟨_, rfl, rfl, Below.refl _ _, fun j u hj hne hu => ⟨⟨fun h => absurd h (by omega), fun h => absurd h (by omega)⟩, ⟨fun h => absurd h (by omega), fun h => absurd h (by omega)⟩⟩⟩
                        · have hd6 : fa.tmps[101]?.getD undef = .pointer (some ⟨b, off + i * 4, none⟩) := by simpa using (hpre ⟨6, .data⟩ (by simp) rfl : fa.tmps.getD 101 undef = .pointer (some ⟨b, off + i * 4, none⟩))
                          obtain ⟨_, s0, _, _, _⟩ := di.keep hJX
                          dsimp only at s0
                          exact step_val (v := .int .i64 x1) (w' := fw) (by go_simp) ⟨_, rfl, rfl, Below.refl _ _, fun j u hj hne hu => ⟨⟨fun h => absurd h (by omega), fun h => absurd h (by omega)⟩, ⟨fun h => absurd h (by omega), fun h => absurd h (by omega)⟩⟩⟩
                        · have hd1 : fa.tmps[96]?.getD undef = .slice qy fs.length dy := by simpa using (hpre ⟨1, .data⟩ (by simp) rfl : fa.tmps.getD 96 undef = .slice qy fs.length dy)
                          have hd7 : fa.tmps[102]?.getD undef = .int .i64 x1 := by simpa using (hpre ⟨7, .data⟩ (by simp) rfl : fa.tmps.getD 102 undef = .int .i64 x1)
                          go_simp
                          refine (specAt_any qy dy fs x1 ⟨g1, g2, g3⟩ HG.out _ (by omega) (ryf.keep hJX)).mono ?_
                          rintro e w3 ⟨rfl, b3⟩
                          first | exact ⟨_, rfl, rfl, b3⟩ | exact ⟨_, rfl, rfl, b3, fun j u hj hne hu => ⟨⟨fun h => absurd h (by omega), fun h => absurd h (by omega)⟩, ⟨fun h => absurd h (by omega), fun h => absurd h (by omega)⟩⟩⟩
                        · have hs10 : fa.tmps[10]?.getD undef = .pointer (some ⟨ky, 0, none⟩) := by
                            have := hF.2.2 10 (show ∀ i, i < 20 → [95, 96, 97, 98, 99, 100, 101, 102, 103, 104, 105, 106, 107, 108, 109, 110, 111, 112, 14, 15].getD i 0 ≠ 10 by decide)
                            simpa using this
                          exact step_val (v := .pointer (some ⟨ky, 1, none⟩)) (w' := fw) (by go_simp) ⟨_, rfl, rfl, Below.refl _ _, fun j u hj hne hu => ⟨⟨fun h => absurd h (by omega), fun h => absurd h (by omega)⟩, ⟨fun h => absurd h (by omega), fun h => absurd h (by omega)⟩⟩⟩
                        · have hd9 : fa.tmps[104]?.getD undef = .pointer (some ⟨ky, 1, none⟩) := by simpa using (hpre ⟨9, .data⟩ (by simp) rfl : fa.tmps.getD 104 undef = .pointer (some ⟨ky, 1, none⟩))
                          have s1 : fw.cell? ⟨ky, 1, none⟩ = some (.slice qy fs.length dy) := (PY.keep hJX).cell 1
                          exact step_val (v := .slice qy fs.length dy) (w' := fw) (by go_simp) ⟨_, rfl, rfl, Below.refl _ _, fun j u hj hne hu => ⟨⟨fun h => absurd h (by omega), fun h => absurd h (by omega)⟩, ⟨fun h => absurd h (by omega), fun h => absurd h (by omega)⟩⟩⟩
                        · have hs8 : fa.tmps[8]?.getD undef = .slice (some ⟨b, off, none⟩) p.length ep := by
                            have := hF.2.2 8 (show ∀ i, i < 20 → [95, 96, 97, 98, 99, 100, 101, 102, 103, 104, 105, 106, 107, 108, 109, 110, 111, 112, 14, 15].getD i 0 ≠ 8 by decide)
                            simpa using this
                          exact step_val (v := .slice (some ⟨b, off, none⟩) p.length ep) (w' := fw) (by go_simp) ⟨_, rfl, rfl, Below.refl _ _, fun j u hj hne hu => ⟨⟨fun h => absurd h (by omega), fun h => absurd h (by omega)⟩, ⟨fun h => absurd h (by omega), fun h => absurd h (by omega)⟩⟩⟩
                        · have hs13 : fa.tmps[13]?.getD undef = .int .i64 (j : Int) := by
                            have := hF.2.2 13 (show ∀ i, i < 20 → [95, 96, 97, 98, 99, 100, 101, 102, 103, 104, 105, 106, 107, 108, 109, 110, 111, 112, 14, 15].getD i 0 ≠ 13 by decide)
                            simpa using this
                          exact step_val (v := .int .i64 (j : Int)) (w' := fw) (by go_simp) ⟨_, rfl, rfl, Below.refl _ _, fun j u hj hne hu => ⟨⟨fun h => absurd h (by omega), fun h => absurd h (by omega)⟩, ⟨fun h => absurd h (by omega), fun h => absurd h (by omega)⟩⟩⟩
                        · have hd11 : fa.tmps[106]?.getD undef = .slice (some ⟨b, off, none⟩) p.length ep := by simpa using (hpre ⟨11, .data⟩ (by simp) rfl : fa.tmps.getD 106 undef = .slice (some ⟨b, off, none⟩) p.length ep)
                          have hd12 : fa.tmps[107]?.getD undef = .int .i64 (j : Int) := by simpa using (hpre ⟨12, .data⟩ (by simp) rfl : fa.tmps.getD 107 undef = .int .i64 (j : Int))
                          exact step_val (v := .pointer (some ⟨b, off + j * 4, none⟩)) (w' := fw) (by go_simp) ⟨_, rfl, rfl, Below.refl _ _, fun j u hj hne hu => ⟨⟨fun h => absurd h (by omega), fun h => absurd h (by omega)⟩, ⟨fun h => absurd h (by omega), fun h => absurd h (by omega)⟩⟩⟩
                        · have hd13 : fa.tmps[108]?.getD undef = .pointer (some ⟨b, off + j * 4, none⟩) := by simpa using (hpre ⟨13, .data⟩ (by simp) rfl : fa.tmps.getD 108 undef = .pointer (some ⟨b, off + j * 4, none⟩))
                          exact step_val (v := .pointer (some ⟨b, off + j * 4, none⟩)) (w' := fw) (by go_simp) ⟨_, rfl, rfl, Below.refl _ _, fun j u hj hne hu => ⟨⟨fun h => absurd h (by omega), fun h => absurd h (by omega)⟩, ⟨fun h => absurd h (by omega), fun h => absurd h (by omega)⟩⟩⟩
                        · have hd14 : fa.tmps[109]?.getD undef = .pointer (some ⟨b, off + j * 4, none⟩) := by simpa using (hpre ⟨14, .data⟩ (by simp) rfl : fa.tmps.getD 109 undef = .pointer (some ⟨b, off + j * 4, none⟩))
                          exact step_val (v := .pointer (some ⟨b, off + j * 4, none⟩)) (w' := fw) (by go_simp) ⟨_, rfl, rfl, Below.refl _ _, fun j u hj hne hu => ⟨⟨fun h => absurd h (by omega), fun h => absurd h (by omega)⟩, ⟨fun h => absurd h (by omega), fun h => absurd h (by omega)⟩⟩⟩
                        · have hd15 : fa.tmps[110]?.getD undef = .pointer (some ⟨b, off + j * 4, none⟩) := by simpa using (hpre ⟨15, .data⟩ (by simp) rfl : fa.tmps.getD 110 undef = .pointer (some ⟨b, off + j * 4, none⟩))
                          obtain ⟨_, s0, _, _, _⟩ := dj.keep hJX
                          dsimp only at s0
                          exact step_val (v := .int .i64 t1) (w' := fw) (by go_simp) ⟨_, rfl, rfl, Below.refl _ _, fun j u hj hne hu => ⟨⟨fun h => absurd h (by omega), fun h => absurd h (by omega)⟩, ⟨fun h => absurd h (by omega), fun h => absurd h (by omega)⟩⟩⟩
                        · have hd10 : fa.tmps[105]?.getD undef = .slice qy fs.length dy := by simpa using (hpre ⟨10, .data⟩ (by simp) rfl : fa.tmps.getD 105 undef = .slice qy fs.length dy)
                          have hd16 : fa.tmps[111]?.getD undef = .int .i64 t1 := by simpa using (hpre ⟨16, .data⟩ (by simp) rfl : fa.tmps.getD 111 undef = .int .i64 t1)
                          go_simp
                          refine (specAt_any qy dy fs t1 ⟨h1, h2, h3⟩ HH.out _ (by omega) (ryf.keep hJX)).mono ?_
                          rintro e w3 ⟨rfl, b3⟩
                          first | exact ⟨_, rfl, rfl, b3⟩ | exact ⟨_, rfl, rfl, b3, fun j u hj hne hu => ⟨⟨fun h => absurd h (by omega), fun h => absurd h (by omega)⟩, ⟨fun h => absurd h (by omega), fun h => absurd h (by omega)⟩⟩⟩
                        · refine step_val (v := .pointer (some ⟨fw.heap.size, 0, none⟩)) (w' := fw.alloc (.cells #[.int .i64 0, .int .i64 0, .int .i64 0] 25)) (by go_simp) ⟨_, rfl, ⟨fw.heap.size, rfl, BlkIs.new _ _ _, hJ.size⟩, (Below.refl _ _).alloc (Nat.le_refl _) _, fun j u hj hne hu => ?_⟩
                          have hd : j = 19 → u ≠ .pointer (some ⟨fw.heap.size, 0, none⟩) := fun e => by
                            subst e
                            obtain ⟨kn, rfl, h2, _⟩ := (hu : ∃ kn, u = .pointer (some ⟨kn, 0, none⟩) ∧ BlkIs fw kn 25 #[.int .i64 0, .int .i64 0, .int .i64 0] ∧ wj.heap.size ≤ kn)
                            intro e
                            simp only [Value.pointer.injEq, Option.some.injEq, Addr.mk.injEq, and_true] at e
                            have := h2.lt
                            omega
                          exact ⟨⟨fun h => (fun e => hd (by omega) e.symm), fun h => (fun e => hd (by omega) e.symm)⟩, ⟨fun h => hd (by omega), fun h => hd (by omega)⟩⟩
                        · refine step_val (v := .pointer (some ⟨fw.heap.size, 0, none⟩)) (w' := fw.alloc (.cells #[.int .i64 0, .int .i64 0, .int .i64 0] 25)) (by go_simp) ⟨_, rfl, ⟨fw.heap.size, rfl, BlkIs.new _ _ _, hJ.size⟩, (Below.refl _ _).alloc (Nat.le_refl _) _, fun j u hj hne hu => ?_⟩
                          have hd : j = 18 → u ≠ .pointer (some ⟨fw.heap.size, 0, none⟩) := fun e => by
                            subst e
                            obtain ⟨kn, rfl, h2, _⟩ := (hu : ∃ kn, u = .pointer (some ⟨kn, 0, none⟩) ∧ BlkIs fw kn 25 #[.int .i64 0, .int .i64 0, .int .i64 0] ∧ wj.heap.size ≤ kn)
                            intro e
                            simp only [Value.pointer.injEq, Option.some.injEq, Addr.mk.injEq, and_true] at e
                            have := h2.lt
                            omega
                          exact ⟨⟨fun h => (fun e => hd (by omega) e.symm), fun h => (fun e => hd (by omega) e.symm)⟩, ⟨fun h => hd (by omega), fun h => hd (by omega)⟩⟩
                      case wrest =>
                        intro fa fw hF hJ hφ hψ
                        have q8 := (hφ 8 (by decide) : fa.tmps.getD 103 undef = .agg #[.int .i64 g1, .int .i64 g2, .int .i64 g3])
                        have q17 := (hφ 17 (by decide) : fa.tmps.getD 112 undef = .agg #[.int .i64 h1, .int .i64 h2, .int .i64 h3])
                        obtain ⟨kg, q18, pg, hkg⟩ := (hφ 18 (by decide) : ∃ kn, fa.tmps.getD 14 undef = .pointer (some ⟨kn, 0, none⟩) ∧ BlkIs fw kn 25 #[.int .i64 0, .int .i64 0, .int .i64 0] ∧ wj.heap.size ≤ kn)
                        obtain ⟨kh, q19, ph, hkh⟩ := (hφ 19 (by decide) : ∃ kn, fa.tmps.getD 15 undef = .pointer (some ⟨kn, 0, none⟩) ∧ BlkIs fw kn 25 #[.int .i64 0, .int .i64 0, .int .i64 0] ∧ wj.heap.size ≤ kn)
                        have hne : kg ≠ kh := fun e => (hψ 18 19 (by decide) (by decide) (by decide)).1 ⟨rfl, rfl⟩ (q18.trans ((congrArg (fun k => Value.pointer (some ⟨k, 0, none⟩)) e).trans q19.symm))
                        have hd8 : fa.tmps[103]?.getD undef = .agg #[.int .i64 g1, .int .i64 g2, .int .i64 g3] := by simpa using q8
                        have hd17 : fa.tmps[112]?.getD undef = .agg #[.int .i64 h1, .int .i64 h2, .int .i64 h3] := by simpa using q17
                        have hd18 : fa.tmps[14]?.getD undef = .pointer (some ⟨kg, 0, none⟩) := by simpa using q18
                        have hd19 : fa.tmps[15]?.getD undef = .pointer (some ⟨kh, 0, none⟩) := by simpa using q19
                        have a0 : fw.cell? ⟨kg, 0, none⟩ = some (.int .i64 0) := pg.cell 0
                        have a1 : fw.cell? ⟨kg, 1, none⟩ = some (.int .i64 0) := pg.cell 1
                        have a2 : fw.cell? ⟨kg, 2, none⟩ = some (.int .i64 0) := pg.cell 2
                        have z0 := pg.fz 0
                        have z1 := pg.fz 1
                        have z2 := pg.fz 2
                        have pg2 := blk_put3 pg (.int .i64 g1) (.int .i64 g2) (.int .i64 g3)
                        have K1 := keeps_three fw kg (.int .i64 g1) (.int .i64 g2) (.int .i64 g3)
                        have ph2 := ph.keepK K1 (Ne.symm hne)
                        have J1 : Below wj.heap.size wj (((fw.setCell ⟨kg, 0, none⟩ (.int .i64 g1)).setCell ⟨kg, 1, none⟩ (.int .i64 g2)).setCell ⟨kg, 2, none⟩ (.int .i64 g3)) := ((hJ.setCell (p := ⟨kg, 0, none⟩) hkg _).setCell (p := ⟨kg, 1, none⟩) hkg _).setCell (p := ⟨kg, 2, none⟩) hkg _
                        refine anyOne 20 (by kernel_rfl) rfl (step_skip (w' := (((fw.setCell ⟨kg, 0, none⟩ (.int .i64 g1)).setCell ⟨kg, 1, none⟩ (.int .i64 g2)).setCell ⟨kg, 2, none⟩ (.int .i64 g3))) (by go_simp) ?_)
                        obtain ⟨wn, hwn⟩ : ∃ wn, (((fw.setCell ⟨kg, 0, none⟩ (.int .i64 g1)).setCell ⟨kg, 1, none⟩ (.int .i64 g2)).setCell ⟨kg, 2, none⟩ (.int .i64 g3)) = wn := ⟨_, rfl⟩
                        rw [hwn] at pg2 ph2 J1 ⊢
                        clear hwn a0 a1 a2 z0 z1 z2 K1 pg ph
                        have a0 : wn.cell? ⟨kh, 0, none⟩ = some (.int .i64 0) := ph2.cell 0
                        have a1 : wn.cell? ⟨kh, 1, none⟩ = some (.int .i64 0) := ph2.cell 1
                        have a2 : wn.cell? ⟨kh, 2, none⟩ = some (.int .i64 0) := ph2.cell 2
                        have z0 := ph2.fz 0
                        have z1 := ph2.fz 1
                        have z2 := ph2.fz 2
                        have ph3 := blk_put3 ph2 (.int .i64 h1) (.int .i64 h2) (.int .i64 h3)
                        have K2 := keeps_three wn kh (.int .i64 h1) (.int .i64 h2) (.int .i64 h3)
                        have pg3 := pg2.keepK K2 hne
                        have J2 : Below wj.heap.size wj (((wn.setCell ⟨kh, 0, none⟩ (.int .i64 h1)).setCell ⟨kh, 1, none⟩ (.int .i64 h2)).setCell ⟨kh, 2, none⟩ (.int .i64 h3)) := ((J1.setCell (p := ⟨kh, 0, none⟩) hkh _).setCell (p := ⟨kh, 1, none⟩) hkh _).setCell (p := ⟨kh, 2, none⟩) hkh _
                        refine anyOne 21 (by kernel_rfl) rfl (step_skip (w' := (((wn.setCell ⟨kh, 0, none⟩ (.int .i64 h1)).setCell ⟨kh, 1, none⟩ (.int .i64 h2)).setCell ⟨kh, 2, none⟩ (.int .i64 h3))) (by go_simp) ?_)
                        obtain ⟨wm, hwm⟩ : ∃ wm, (((wn.setCell ⟨kh, 0, none⟩ (.int .i64 h1)).setCell ⟨kh, 1, none⟩ (.int .i64 h2)).setCell ⟨kh, 2, none⟩ (.int .i64 h3)) = wm := ⟨_, rfl⟩
                        rw [hwm] at pg3 ph3 J2 ⊢
                        clear hwm a0 a1 a2 z0 z1 z2 K2 pg2 ph2 J1
                        refine anyEnd (by kernel_rfl) ?_
                        obtain ⟨ft, fd⟩ := fa
                        obtain ⟨hd, hz, hs⟩ := hF
                        have e := tmps_slots ft 176 hz
                        simp only [List.range, List.range.loop, List.map] at e
                        have hu : ∀ s, (∀ i, i < 20 → [95, 96, 97, 98, 99, 100, 101, 102, 103, 104, 105, 106, 107, 108, 109, 110, 111, 112, 14, 15].getD i 0 ≠ s) → ft.getD s undef = _ := hs
                        rw [hu 0 (by decide), hu 1 (by decide), hu 2 (by decide), hu 3 (by decide), hu 4 (by decide), hu 5 (by decide), hu 6 (by decide), hu 7 (by decide), hu 8 (by decide), hu 9 (by decide), hu 10 (by decide), hu 11 (by decide), hu 12 (by decide), hu 13 (by decide), hu 16 (by decide), hu 17 (by decide), hu 18 (by decide), hu 19 (by decide), hu 20 (by decide), hu 21 (by decide), hu 22 (by decide), hu 23 (by decide), hu 24 (by decide), hu 25 (by decide), hu 26 (by decide), hu 27 (by decide), hu 28 (by decide), hu 29 (by decide), hu 30 (by decide), hu 31 (by decide), hu 32 (by decide), hu 33 (by decide), hu 34 (by decide), hu 35 (by decide), hu 36 (by decide), hu 37 (by decide), hu 38 (by decide), hu 39 (by decide), hu 40 (by decide), hu 41 (by decide), hu 42 (by decide), hu 43 (by decide), hu 44 (by decide), hu 45 (by decide), hu 46 (by decide), hu 47 (by decide), hu 48 (by decide), hu 49 (by decide), hu 50 (by decide), hu 51 (by decide), hu 52 (by decide), hu 53 (by decide), hu 54 (by decide), hu 55 (by decide), hu 56 (by decide), hu 57 (by decide), hu 58 (by decide), hu 59 (by decide), hu 60 (by decide), hu 61 (by decide), hu 62 (by decide), hu 63 (by decide), hu 64 (by decide), hu 65 (by decide), hu 66 (by decide), hu 67 (by decide), hu 68 (by decide), hu 69 (by decide), hu 70 (by decide), hu 71 (by decide), hu 72 (by decide), hu 73 (by decide), hu 74 (by decide), hu 75 (by decide), hu 76 (by decide), hu 77 (by decide), hu 78 (by decide), hu 79 (by decide), hu 80 (by decide), hu 81 (by decide), hu 82 (by decide), hu 83 (by decide), hu 84 (by decide), hu 85 (by decide), hu 86 (by decide), hu 87 (by decide), hu 88 (by decide), hu 89 (by decide), hu 90 (by decide), hu 91 (by decide), hu 92 (by decide), hu 93 (by decide), hu 94 (by decide), hu 113 (by decide), hu 114 (by decide), hu 115 (by decide), hu 116 (by decide), hu 117 (by decide), hu 118 (by decide), hu 119 (by decide), hu 120 (by decide), hu 121 (by decide), hu 122 (by decide), hu 123 (by decide), hu 124 (by decide), hu 125 (by decide), hu 126 (by decide), hu 127 (by decide), hu 128 (by decide), hu 129 (by decide), hu 130 (by decide), hu 131 (by decide), hu 132 (by decide), hu 133 (by decide), hu 134 (by decide), hu 135 (by decide), hu 136 (by decide), hu 137 (by decide), hu 138 (by decide), hu 139 (by decide), hu 140 (by decide), hu 141 (by decide), hu 142 (by decide), hu 143 (by decide), hu 144 (by decide), hu 145 (by decide), hu 146 (by decide), hu 147 (by decide), hu 148 (by decide), hu 149 (by decide), hu 150 (by decide), hu 151 (by decide), hu 152 (by decide), hu 153 (by decide), hu 154 (by decide), hu 155 (by decide), hu 156 (by decide), hu 157 (by decide), hu 158 (by decide), hu 159 (by decide), hu 160 (by decide), hu 161 (by decide), hu 162 (by decide), hu 163 (by decide), hu 164 (by decide), hu 165 (by decide), hu 166 (by decide), hu 167 (by decide), hu 168 (by decide), hu 169 (by decide), hu 170 (by decide), hu 171 (by decide), hu 172 (by decide), hu 173 (by decide), hu 174 (by decide), hu 175 (by decide)] at e
                        obtain ⟨y95, hy95⟩ : ∃ z, ft.getD 95 undef = z := ⟨_, rfl⟩
                        obtain ⟨y96, hy96⟩ : ∃ z, ft.getD 96 undef = z := ⟨_, rfl⟩
                        obtain ⟨y97, hy97⟩ : ∃ z, ft.getD 97 undef = z := ⟨_, rfl⟩
                        obtain ⟨y98, hy98⟩ : ∃ z, ft.getD 98 undef = z := ⟨_, rfl⟩
                        obtain ⟨y99, hy99⟩ : ∃ z, ft.getD 99 undef = z := ⟨_, rfl⟩
                        obtain ⟨y100, hy100⟩ : ∃ z, ft.getD 100 undef = z := ⟨_, rfl⟩
                        obtain ⟨y101, hy101⟩ : ∃ z, ft.getD 101 undef = z := ⟨_, rfl⟩
                        obtain ⟨y102, hy102⟩ : ∃ z, ft.getD 102 undef = z := ⟨_, rfl⟩
                        obtain ⟨y103, hy103⟩ : ∃ z, ft.getD 103 undef = z := ⟨_, rfl⟩
                        obtain ⟨y104, hy104⟩ : ∃ z, ft.getD 104 undef = z := ⟨_, rfl⟩
                        obtain ⟨y105, hy105⟩ : ∃ z, ft.getD 105 undef = z := ⟨_, rfl⟩
                        obtain ⟨y106, hy106⟩ : ∃ z, ft.getD 106 undef = z := ⟨_, rfl⟩
                        obtain ⟨y107, hy107⟩ : ∃ z, ft.getD 107 undef = z := ⟨_, rfl⟩
                        obtain ⟨y108, hy108⟩ : ∃ z, ft.getD 108 undef = z := ⟨_, rfl⟩
                        obtain ⟨y109, hy109⟩ : ∃ z, ft.getD 109 undef = z := ⟨_, rfl⟩
                        obtain ⟨y110, hy110⟩ : ∃ z, ft.getD 110 undef = z := ⟨_, rfl⟩
                        obtain ⟨y111, hy111⟩ : ∃ z, ft.getD 111 undef = z := ⟨_, rfl⟩
                        obtain ⟨y112, hy112⟩ : ∃ z, ft.getD 112 undef = z := ⟨_, rfl⟩
                        obtain ⟨y14, hy14⟩ : ∃ z, ft.getD 14 undef = z := ⟨_, rfl⟩
                        obtain ⟨y15, hy15⟩ : ∃ z, ft.getD 15 undef = z := ⟨_, rfl⟩
                        rw [hy95, hy96, hy97, hy98, hy99, hy100, hy101, hy102, hy103, hy104, hy105, hy106, hy107, hy108, hy109, hy110, hy111, hy112, hy14, hy15] at e
                        have hyg : y14 = .pointer (some ⟨kg, 0, none⟩) := by rw [← hy14]; exact q18
                        have hyh : y15 = .pointer (some ⟨kh, 0, none⟩) := by rw [← hy15]; exact q19
                        clear hy95 hy96 hy97 hy98 hy99 hy100 hy101 hy102 hy103 hy104 hy105 hy106 hy107 hy108 hy109 hy110 hy111 hy112 hy14 hy15 hu hs hz hφ hψ hd8 hd17 hd18 hd19 q8 q17 q18 q19
                        subst e
                        subst hyg
                        subst hyh
                        obtain rfl : fd = [] := hd
                        go_wp2_with fail
                        go_meet
                        case rel => exact ⟨kg, kh, rfl, rfl, pg3, ph3, J2⟩
                    case rest =>
                      obtain ⟨kg, kh, rfl, rfl, pg, ph, bv⟩ := hcut
                      obtain ⟨wv, rfl⟩ : ∃ wv, wv = wc := ⟨wc, rfl⟩
                      have bw := bj.trans (bv.mono bj.size)
                      replace di := di.keep bw
                      replace dj := dj.keep bw
                      clear bv bj HG HH
                      go_upto_region 22 with fail
                      go_cut [143] (fun v wc => v = .bool false ∧ Below wv.heap.size wv wc)
                      case first =>
                        as_aux_lemma =>
                        rcases HC.out with c1 | ⟨c1, c2⟩ | ⟨c1, c2, c3⟩ | ⟨c1, c2, c3, c4⟩
                        · have e1 : decide (0 < g1) = false := decide_eq_false c1
                          clear HC c1
                          refine wp_region_held_drew (S := (fun w' => Below wv.heap.size wv w')) (by kernel_rfl) ?hS0 (fun hHeld => ?_)
                          case hS0 => exact (Below.refl _ _).drew
                          refine takeG 0 (v := .pointer (some ⟨kg, 0, none⟩)) rfl (by kernel_rfl) (by kernel_rfl) (by kernel_rfl) (by kernel_rfl) (fun _ _ _ h => h) ?hy (by assumption) ?_
                          case hy => (intro w' hSw; go_simp)
                          try simp only [Act.put, List.setIfInBounds_toArray, List.set_cons_zero, List.set_cons_succ]
                          refine takeG 1 (v := .int .i64 g1) rfl (by kernel_rfl) (by kernel_rfl) (by kernel_rfl) (by kernel_rfl) (fun _ _ _ h => h) ?hy (by assumption) ?_
                          case hy => (intro w' hSw; have s0 : w'.cell? ⟨kg, 0, none⟩ = some (.int .i64 g1) := (pg.keep hSw).cell 0; go_simp)
                          try simp only [Act.put, List.setIfInBounds_toArray, List.set_cons_zero, List.set_cons_succ]
                          refine takeG 2 (v := .bool false) rfl (by kernel_rfl) (by kernel_rfl) (by kernel_rfl) (by kernel_rfl) (fun _ _ _ h => h) ?hy (by assumption) ?_
                          case hy => (intro w' hSw; go_simp)
                          try simp only [Act.put, List.setIfInBounds_toArray, List.set_cons_zero, List.set_cons_succ]
                          refine takeG 3 (v := .bool false) rfl (by kernel_rfl) (by kernel_rfl) (by kernel_rfl) (by kernel_rfl) (fun _ _ _ h => h) ?hy (by assumption) ?_
                          case hy => (intro w' hSw; go_simp)
                          try simp only [Act.put, List.setIfInBounds_toArray, List.set_cons_zero, List.set_cons_succ]
                          refine skipG 4 rfl (by kernel_rfl) (by kernel_rfl) (by kernel_rfl) (by kernel_rfl) (fun _ _ _ h => h) (by assumption) ?_
                          try simp only [Act.put, List.setIfInBounds_toArray, List.set_cons_zero, List.set_cons_succ]
                          refine skipG 5 rfl (by kernel_rfl) (by kernel_rfl) (by kernel_rfl) (by kernel_rfl) (fun _ _ _ h => h) (by assumption) ?_
                          try simp only [Act.put, List.setIfInBounds_toArray, List.set_cons_zero, List.set_cons_succ]
                          refine skipG 6 rfl (by kernel_rfl) (by kernel_rfl) (by kernel_rfl) (by kernel_rfl) (fun _ _ _ h => h) (by assumption) ?_
                          try simp only [Act.put, List.setIfInBounds_toArray, List.set_cons_zero, List.set_cons_succ]
                          refine takeG 7 (v := .bool false) rfl (by kernel_rfl) (by kernel_rfl) (by kernel_rfl) (by kernel_rfl) (fun _ _ _ h => h) ?hy (by assumption) ?_
                          case hy => (intro w' hSw; go_simp)
                          try simp only [Act.put, List.setIfInBounds_toArray, List.set_cons_zero, List.set_cons_succ]
                          refine takeG 8 (v := .bool false) rfl (by kernel_rfl) (by kernel_rfl) (by kernel_rfl) (by kernel_rfl) (fun _ _ _ h => h) ?hy (by assumption) ?_
                          case hy => (intro w' hSw; go_simp)
                          try simp only [Act.put, List.setIfInBounds_toArray, List.set_cons_zero, List.set_cons_succ]
                          refine skipG 9 rfl (by kernel_rfl) (by kernel_rfl) (by kernel_rfl) (by kernel_rfl) (fun _ _ _ h => h) (by assumption) ?_
                          try simp only [Act.put, List.setIfInBounds_toArray, List.set_cons_zero, List.set_cons_succ]
                          refine skipG 10 rfl (by kernel_rfl) (by kernel_rfl) (by kernel_rfl) (by kernel_rfl) (fun _ _ _ h => h) (by assumption) ?_
                          try simp only [Act.put, List.setIfInBounds_toArray, List.set_cons_zero, List.set_cons_succ]
                          refine skipG 11 rfl (by kernel_rfl) (by kernel_rfl) (by kernel_rfl) (by kernel_rfl) (fun _ _ _ h => h) (by assumption) ?_
                          try simp only [Act.put, List.setIfInBounds_toArray, List.set_cons_zero, List.set_cons_succ]
                          refine skipG 12 rfl (by kernel_rfl) (by kernel_rfl) (by kernel_rfl) (by kernel_rfl) (fun _ _ _ h => h) (by assumption) ?_
                          try simp only [Act.put, List.setIfInBounds_toArray, List.set_cons_zero, List.set_cons_succ]
                          refine skipG 13 rfl (by kernel_rfl) (by kernel_rfl) (by kernel_rfl) (by kernel_rfl) (fun _ _ _ h => h) (by assumption) ?_
                          try simp only [Act.put, List.setIfInBounds_toArray, List.set_cons_zero, List.set_cons_succ]
                          refine skipG 14 rfl (by kernel_rfl) (by kernel_rfl) (by kernel_rfl) (by kernel_rfl) (fun _ _ _ h => h) (by assumption) ?_
                          try simp only [Act.put, List.setIfInBounds_toArray, List.set_cons_zero, List.set_cons_succ]
                          refine skipG 15 rfl (by kernel_rfl) (by kernel_rfl) (by kernel_rfl) (by kernel_rfl) (fun _ _ _ h => h) (by assumption) ?_
                          try simp only [Act.put, List.setIfInBounds_toArray, List.set_cons_zero, List.set_cons_succ]
                          refine skipG 16 rfl (by kernel_rfl) (by kernel_rfl) (by kernel_rfl) (by kernel_rfl) (fun _ _ _ h => h) (by assumption) ?_
                          try simp only [Act.put, List.setIfInBounds_toArray, List.set_cons_zero, List.set_cons_succ]
                          refine takeG 17 (v := .bool false) rfl (by kernel_rfl) (by kernel_rfl) (by kernel_rfl) (by kernel_rfl) (fun _ _ _ h => h) ?hy (by assumption) ?_
                          case hy => (intro w' hSw; go_simp)
                          try simp only [Act.put, List.setIfInBounds_toArray, List.set_cons_zero, List.set_cons_succ]
                          refine takeG 18 (v := .bool false) rfl (by kernel_rfl) (by kernel_rfl) (by kernel_rfl) (by kernel_rfl) (fun _ _ _ h => h) ?hy (by assumption) ?_
                          case hy => (intro w' hSw; go_simp)
                          try simp only [Act.put, List.setIfInBounds_toArray, List.set_cons_zero, List.set_cons_succ]
                          refine skipG 19 rfl (by kernel_rfl) (by kernel_rfl) (by kernel_rfl) (by kernel_rfl) (fun _ _ _ h => h) (by assumption) ?_
                          try simp only [Act.put, List.setIfInBounds_toArray, List.set_cons_zero, List.set_cons_succ]
                          refine skipG 20 rfl (by kernel_rfl) (by kernel_rfl) (by kernel_rfl) (by kernel_rfl) (fun _ _ _ h => h) (by assumption) ?_
                          try simp only [Act.put, List.setIfInBounds_toArray, List.set_cons_zero, List.set_cons_succ]
                          refine skipG 21 rfl (by kernel_rfl) (by kernel_rfl) (by kernel_rfl) (by kernel_rfl) (fun _ _ _ h => h) (by assumption) ?_
                          try simp only [Act.put, List.setIfInBounds_toArray, List.set_cons_zero, List.set_cons_succ]
                          refine skipG 22 rfl (by kernel_rfl) (by kernel_rfl) (by kernel_rfl) (by kernel_rfl) (fun _ _ _ h => h) (by assumption) ?_
                          try simp only [Act.put, List.setIfInBounds_toArray, List.set_cons_zero, List.set_cons_succ]
                          refine skipG 23 rfl (by kernel_rfl) (by kernel_rfl) (by kernel_rfl) (by kernel_rfl) (fun _ _ _ h => h) (by assumption) ?_
                          try simp only [Act.put, List.setIfInBounds_toArray, List.set_cons_zero, List.set_cons_succ]
                          refine skipG 24 rfl (by kernel_rfl) (by kernel_rfl) (by kernel_rfl) (by kernel_rfl) (fun _ _ _ h => h) (by assumption) ?_
                          try simp only [Act.put, List.setIfInBounds_toArray, List.set_cons_zero, List.set_cons_succ]
                          refine skipG 25 rfl (by kernel_rfl) (by kernel_rfl) (by kernel_rfl) (by kernel_rfl) (fun _ _ _ h => h) (by assumption) ?_
                          try simp only [Act.put, List.setIfInBounds_toArray, List.set_cons_zero, List.set_cons_succ]
                          refine skipG 26 rfl (by kernel_rfl) (by kernel_rfl) (by kernel_rfl) (by kernel_rfl) (fun _ _ _ h => h) (by assumption) ?_
                          try simp only [Act.put, List.setIfInBounds_toArray, List.set_cons_zero, List.set_cons_succ]
                          refine skipG 27 rfl (by kernel_rfl) (by kernel_rfl) (by kernel_rfl) (by kernel_rfl) (fun _ _ _ h => h) (by assumption) ?_
                          try simp only [Act.put, List.setIfInBounds_toArray, List.set_cons_zero, List.set_cons_succ]
                          refine skipG 28 rfl (by kernel_rfl) (by kernel_rfl) (by kernel_rfl) (by kernel_rfl) (fun _ _ _ h => h) (by assumption) ?_
                          try simp only [Act.put, List.setIfInBounds_toArray, List.set_cons_zero, List.set_cons_succ]
                          refine skipG 29 rfl (by kernel_rfl) (by kernel_rfl) (by kernel_rfl) (by kernel_rfl) (fun _ _ _ h => h) (by assumption) ?_
                          try simp only [Act.put, List.setIfInBounds_toArray, List.set_cons_zero, List.set_cons_succ]
                          refine takeG 30 (v := .bool false) rfl (by kernel_rfl) (by kernel_rfl) (by kernel_rfl) (by kernel_rfl) (fun _ _ _ h => h) ?hy (by assumption) ?_
                          case hy => (intro w' hSw; go_simp)
                          try simp only [Act.put, List.setIfInBounds_toArray, List.set_cons_zero, List.set_cons_succ]
                          refine wpAnyH_done (by kernel_rfl) ?_ _
                          go_wp2_with fail
                          go_meet
                          case rel => exact ⟨rfl, hHeld⟩
                        · have e1 : decide (0 < g1) = true := decide_eq_true c1
                          have e2 : (h1 == 0) = false := beq_eq_false_iff_ne.2 c2
                          clear HC c1 c2
                          refine wp_region_held_drew (S := (fun w' => Below wv.heap.size wv w')) (by kernel_rfl) ?hS0 (fun hHeld => ?_)
                          case hS0 => exact (Below.refl _ _).drew
                          refine takeG 0 (v := .pointer (some ⟨kg, 0, none⟩)) rfl (by kernel_rfl) (by kernel_rfl) (by kernel_rfl) (by kernel_rfl) (fun _ _ _ h => h) ?hy (by assumption) ?_
                          case hy => (intro w' hSw; go_simp)
                          try simp only [Act.put, List.setIfInBounds_toArray, List.set_cons_zero, List.set_cons_succ]
                          refine takeG 1 (v := .int .i64 g1) rfl (by kernel_rfl) (by kernel_rfl) (by kernel_rfl) (by kernel_rfl) (fun _ _ _ h => h) ?hy (by assumption) ?_
                          case hy => (intro w' hSw; have s0 : w'.cell? ⟨kg, 0, none⟩ = some (.int .i64 g1) := (pg.keep hSw).cell 0; go_simp)
                          try simp only [Act.put, List.setIfInBounds_toArray, List.set_cons_zero, List.set_cons_succ]
                          refine takeG 2 (v := .bool true) rfl (by kernel_rfl) (by kernel_rfl) (by kernel_rfl) (by kernel_rfl) (fun _ _ _ h => h) ?hy (by assumption) ?_
                          case hy => (intro w' hSw; go_simp)
                          try simp only [Act.put, List.setIfInBounds_toArray, List.set_cons_zero, List.set_cons_succ]
                          refine takeG 3 (v := .bool true) rfl (by kernel_rfl) (by kernel_rfl) (by kernel_rfl) (by kernel_rfl) (fun _ _ _ h => h) ?hy (by assumption) ?_
                          case hy => (intro w' hSw; go_simp)
                          try simp only [Act.put, List.setIfInBounds_toArray, List.set_cons_zero, List.set_cons_succ]
                          refine takeG 4 (v := .pointer (some ⟨kh, 0, none⟩)) rfl (by kernel_rfl) (by kernel_rfl) (by kernel_rfl) (by kernel_rfl) (fun _ _ _ h => h) ?hy (by assumption) ?_
                          case hy => (intro w' hSw; go_simp)
                          try simp only [Act.put, List.setIfInBounds_toArray, List.set_cons_zero, List.set_cons_succ]
                          refine takeG 5 (v := .int .i64 h1) rfl (by kernel_rfl) (by kernel_rfl) (by kernel_rfl) (by kernel_rfl) (fun _ _ _ h => h) ?hy (by assumption) ?_
                          case hy => (intro w' hSw; have s0 : w'.cell? ⟨kh, 0, none⟩ = some (.int .i64 h1) := (ph.keep hSw).cell 0; go_simp)
                          try simp only [Act.put, List.setIfInBounds_toArray, List.set_cons_zero, List.set_cons_succ]
                          refine takeG 6 (v := .bool false) rfl (by kernel_rfl) (by kernel_rfl) (by kernel_rfl) (by kernel_rfl) (fun _ _ _ h => h) ?hy (by assumption) ?_
                          case hy => (intro w' hSw; go_simp)
                          try simp only [Act.put, List.setIfInBounds_toArray, List.set_cons_zero, List.set_cons_succ]
                          refine takeG 7 (v := .bool false) rfl (by kernel_rfl) (by kernel_rfl) (by kernel_rfl) (by kernel_rfl) (fun _ _ _ h => h) ?hy (by assumption) ?_
                          case hy => (intro w' hSw; go_simp)
                          try simp only [Act.put, List.setIfInBounds_toArray, List.set_cons_zero, List.set_cons_succ]
                          refine takeG 8 (v := .bool false) rfl (by kernel_rfl) (by kernel_rfl) (by kernel_rfl) (by kernel_rfl) (fun _ _ _ h => h) ?hy (by assumption) ?_
                          case hy => (intro w' hSw; go_simp)
                          try simp only [Act.put, List.setIfInBounds_toArray, List.set_cons_zero, List.set_cons_succ]
                          refine skipG 9 rfl (by kernel_rfl) (by kernel_rfl) (by kernel_rfl) (by kernel_rfl) (fun _ _ _ h => h) (by assumption) ?_
                          try simp only [Act.put, List.setIfInBounds_toArray, List.set_cons_zero, List.set_cons_succ]
                          refine skipG 10 rfl (by kernel_rfl) (by kernel_rfl) (by kernel_rfl) (by kernel_rfl) (fun _ _ _ h => h) (by assumption) ?_
                          try simp only [Act.put, List.setIfInBounds_toArray, List.set_cons_zero, List.set_cons_succ]
                          refine skipG 11 rfl (by kernel_rfl) (by kernel_rfl) (by kernel_rfl) (by kernel_rfl) (fun _ _ _ h => h) (by assumption) ?_
                          try simp only [Act.put, List.setIfInBounds_toArray, List.set_cons_zero, List.set_cons_succ]
                          refine skipG 12 rfl (by kernel_rfl) (by kernel_rfl) (by kernel_rfl) (by kernel_rfl) (fun _ _ _ h => h) (by assumption) ?_
                          try simp only [Act.put, List.setIfInBounds_toArray, List.set_cons_zero, List.set_cons_succ]
                          refine skipG 13 rfl (by kernel_rfl) (by kernel_rfl) (by kernel_rfl) (by kernel_rfl) (fun _ _ _ h => h) (by assumption) ?_
                          try simp only [Act.put, List.setIfInBounds_toArray, List.set_cons_zero, List.set_cons_succ]
                          refine skipG 14 rfl (by kernel_rfl) (by kernel_rfl) (by kernel_rfl) (by kernel_rfl) (fun _ _ _ h => h) (by assumption) ?_
                          try simp only [Act.put, List.setIfInBounds_toArray, List.set_cons_zero, List.set_cons_succ]
                          refine skipG 15 rfl (by kernel_rfl) (by kernel_rfl) (by kernel_rfl) (by kernel_rfl) (fun _ _ _ h => h) (by assumption) ?_
                          try simp only [Act.put, List.setIfInBounds_toArray, List.set_cons_zero, List.set_cons_succ]
                          refine skipG 16 rfl (by kernel_rfl) (by kernel_rfl) (by kernel_rfl) (by kernel_rfl) (fun _ _ _ h => h) (by assumption) ?_
                          try simp only [Act.put, List.setIfInBounds_toArray, List.set_cons_zero, List.set_cons_succ]
                          refine takeG 17 (v := .bool false) rfl (by kernel_rfl) (by kernel_rfl) (by kernel_rfl) (by kernel_rfl) (fun _ _ _ h => h) ?hy (by assumption) ?_
                          case hy => (intro w' hSw; go_simp)
                          try simp only [Act.put, List.setIfInBounds_toArray, List.set_cons_zero, List.set_cons_succ]
                          refine takeG 18 (v := .bool false) rfl (by kernel_rfl) (by kernel_rfl) (by kernel_rfl) (by kernel_rfl) (fun _ _ _ h => h) ?hy (by assumption) ?_
                          case hy => (intro w' hSw; go_simp)
                          try simp only [Act.put, List.setIfInBounds_toArray, List.set_cons_zero, List.set_cons_succ]
                          refine skipG 19 rfl (by kernel_rfl) (by kernel_rfl) (by kernel_rfl) (by kernel_rfl) (fun _ _ _ h => h) (by assumption) ?_
                          try simp only [Act.put, List.setIfInBounds_toArray, List.set_cons_zero, List.set_cons_succ]
                          refine skipG 20 rfl (by kernel_rfl) (by kernel_rfl) (by kernel_rfl) (by kernel_rfl) (fun _ _ _ h => h) (by assumption) ?_
                          try simp only [Act.put, List.setIfInBounds_toArray, List.set_cons_zero, List.set_cons_succ]
                          refine skipG 21 rfl (by kernel_rfl) (by kernel_rfl) (by kernel_rfl) (by kernel_rfl) (fun _ _ _ h => h) (by assumption) ?_
                          try simp only [Act.put, List.setIfInBounds_toArray, List.set_cons_zero, List.set_cons_succ]
                          refine skipG 22 rfl (by kernel_rfl) (by kernel_rfl) (by kernel_rfl) (by kernel_rfl) (fun _ _ _ h => h) (by assumption) ?_
                          try simp only [Act.put, List.setIfInBounds_toArray, List.set_cons_zero, List.set_cons_succ]
                          refine skipG 23 rfl (by kernel_rfl) (by kernel_rfl) (by kernel_rfl) (by kernel_rfl) (fun _ _ _ h => h) (by assumption) ?_
                          try simp only [Act.put, List.setIfInBounds_toArray, List.set_cons_zero, List.set_cons_succ]
                          refine skipG 24 rfl (by kernel_rfl) (by kernel_rfl) (by kernel_rfl) (by kernel_rfl) (fun _ _ _ h => h) (by assumption) ?_
                          try simp only [Act.put, List.setIfInBounds_toArray, List.set_cons_zero, List.set_cons_succ]
                          refine skipG 25 rfl (by kernel_rfl) (by kernel_rfl) (by kernel_rfl) (by kernel_rfl) (fun _ _ _ h => h) (by assumption) ?_
                          try simp only [Act.put, List.setIfInBounds_toArray, List.set_cons_zero, List.set_cons_succ]
                          refine skipG 26 rfl (by kernel_rfl) (by kernel_rfl) (by kernel_rfl) (by kernel_rfl) (fun _ _ _ h => h) (by assumption) ?_
                          try simp only [Act.put, List.setIfInBounds_toArray, List.set_cons_zero, List.set_cons_succ]
                          refine skipG 27 rfl (by kernel_rfl) (by kernel_rfl) (by kernel_rfl) (by kernel_rfl) (fun _ _ _ h => h) (by assumption) ?_
                          try simp only [Act.put, List.setIfInBounds_toArray, List.set_cons_zero, List.set_cons_succ]
                          refine skipG 28 rfl (by kernel_rfl) (by kernel_rfl) (by kernel_rfl) (by kernel_rfl) (fun _ _ _ h => h) (by assumption) ?_
                          try simp only [Act.put, List.setIfInBounds_toArray, List.set_cons_zero, List.set_cons_succ]
                          refine skipG 29 rfl (by kernel_rfl) (by kernel_rfl) (by kernel_rfl) (by kernel_rfl) (fun _ _ _ h => h) (by assumption) ?_
                          try simp only [Act.put, List.setIfInBounds_toArray, List.set_cons_zero, List.set_cons_succ]
                          refine takeG 30 (v := .bool false) rfl (by kernel_rfl) (by kernel_rfl) (by kernel_rfl) (by kernel_rfl) (fun _ _ _ h => h) ?hy (by assumption) ?_
                          case hy => (intro w' hSw; go_simp)
                          try simp only [Act.put, List.setIfInBounds_toArray, List.set_cons_zero, List.set_cons_succ]
                          refine wpAnyH_done (by kernel_rfl) ?_ _
                          go_wp2_with fail
                          go_meet
                          case rel => exact ⟨rfl, hHeld⟩
                        · have e1 : decide (0 < g1) = true := decide_eq_true c1
                          have e2 : (h1 == 0) = true := beq_iff_eq.2 c2
                          have e3 : (t1 != but) = false := by simp [c3]
                          clear HC c1 c2 c3
                          refine wp_region_held_drew (S := (fun w' => Below wv.heap.size wv w')) (by kernel_rfl) ?hS0 (fun hHeld => ?_)
                          case hS0 => exact (Below.refl _ _).drew
                          refine takeG 0 (v := .pointer (some ⟨kg, 0, none⟩)) rfl (by kernel_rfl) (by kernel_rfl) (by kernel_rfl) (by kernel_rfl) (fun _ _ _ h => h) ?hy (by assumption) ?_
                          case hy => (intro w' hSw; go_simp)
                          try simp only [Act.put, List.setIfInBounds_toArray, List.set_cons_zero, List.set_cons_succ]
                          refine takeG 1 (v := .int .i64 g1) rfl (by kernel_rfl) (by kernel_rfl) (by kernel_rfl) (by kernel_rfl) (fun _ _ _ h => h) ?hy (by assumption) ?_
                          case hy => (intro w' hSw; have s0 : w'.cell? ⟨kg, 0, none⟩ = some (.int .i64 g1) := (pg.keep hSw).cell 0; go_simp)
                          try simp only [Act.put, List.setIfInBounds_toArray, List.set_cons_zero, List.set_cons_succ]
                          refine takeG 2 (v := .bool true) rfl (by kernel_rfl) (by kernel_rfl) (by kernel_rfl) (by kernel_rfl) (fun _ _ _ h => h) ?hy (by assumption) ?_
                          case hy => (intro w' hSw; go_simp)
                          try simp only [Act.put, List.setIfInBounds_toArray, List.set_cons_zero, List.set_cons_succ]
                          refine takeG 3 (v := .bool true) rfl (by kernel_rfl) (by kernel_rfl) (by kernel_rfl) (by kernel_rfl) (fun _ _ _ h => h) ?hy (by assumption) ?_
                          case hy => (intro w' hSw; go_simp)
                          try simp only [Act.put, List.setIfInBounds_toArray, List.set_cons_zero, List.set_cons_succ]
                          refine takeG 4 (v := .pointer (some ⟨kh, 0, none⟩)) rfl (by kernel_rfl) (by kernel_rfl) (by kernel_rfl) (by kernel_rfl) (fun _ _ _ h => h) ?hy (by assumption) ?_
                          case hy => (intro w' hSw; go_simp)
                          try simp only [Act.put, List.setIfInBounds_toArray, List.set_cons_zero, List.set_cons_succ]
                          refine takeG 5 (v := .int .i64 h1) rfl (by kernel_rfl) (by kernel_rfl) (by kernel_rfl) (by kernel_rfl) (fun _ _ _ h => h) ?hy (by assumption) ?_
                          case hy => (intro w' hSw; have s0 : w'.cell? ⟨kh, 0, none⟩ = some (.int .i64 h1) := (ph.keep hSw).cell 0; go_simp)
                          try simp only [Act.put, List.setIfInBounds_toArray, List.set_cons_zero, List.set_cons_succ]
                          refine takeG 6 (v := .bool true) rfl (by kernel_rfl) (by kernel_rfl) (by kernel_rfl) (by kernel_rfl) (fun _ _ _ h => h) ?hy (by assumption) ?_
                          case hy => (intro w' hSw; go_simp)
                          try simp only [Act.put, List.setIfInBounds_toArray, List.set_cons_zero, List.set_cons_succ]
                          refine takeG 7 (v := .bool true) rfl (by kernel_rfl) (by kernel_rfl) (by kernel_rfl) (by kernel_rfl) (fun _ _ _ h => h) ?hy (by assumption) ?_
                          case hy => (intro w' hSw; go_simp)
                          try simp only [Act.put, List.setIfInBounds_toArray, List.set_cons_zero, List.set_cons_succ]
                          refine takeG 8 (v := .bool true) rfl (by kernel_rfl) (by kernel_rfl) (by kernel_rfl) (by kernel_rfl) (fun _ _ _ h => h) ?hy (by assumption) ?_
                          case hy => (intro w' hSw; go_simp)
                          try simp only [Act.put, List.setIfInBounds_toArray, List.set_cons_zero, List.set_cons_succ]
                          refine takeG 9 (v := .slice (some ⟨b, off, none⟩) p.length ep) rfl (by kernel_rfl) (by kernel_rfl) (by kernel_rfl) (by kernel_rfl) (fun _ _ _ h => h) ?hy (by assumption) ?_
                          case hy => (intro w' hSw; go_simp)
                          try simp only [Act.put, List.setIfInBounds_toArray, List.set_cons_zero, List.set_cons_succ]
                          refine takeG 10 (v := .int .i64 (j : Int)) rfl (by kernel_rfl) (by kernel_rfl) (by kernel_rfl) (by kernel_rfl) (fun _ _ _ h => h) ?hy (by assumption) ?_
                          case hy => (intro w' hSw; go_simp)
                          try simp only [Act.put, List.setIfInBounds_toArray, List.set_cons_zero, List.set_cons_succ]
                          refine takeG 11 (v := .pointer (some ⟨b, off + j * 4, none⟩)) rfl (by kernel_rfl) (by kernel_rfl) (by kernel_rfl) (by kernel_rfl) (fun _ _ _ h => h) ?hy (by assumption) ?_
                          case hy => (intro w' hSw; go_simp)
                          try simp only [Act.put, List.setIfInBounds_toArray, List.set_cons_zero, List.set_cons_succ]
                          refine takeG 12 (v := .pointer (some ⟨b, off + j * 4, none⟩)) rfl (by kernel_rfl) (by kernel_rfl) (by kernel_rfl) (by kernel_rfl) (fun _ _ _ h => h) ?hy (by assumption) ?_
                          case hy => (intro w' hSw; go_simp)
                          try simp only [Act.put, List.setIfInBounds_toArray, List.set_cons_zero, List.set_cons_succ]
                          refine takeG 13 (v := .pointer (some ⟨b, off + j * 4, none⟩)) rfl (by kernel_rfl) (by kernel_rfl) (by kernel_rfl) (by kernel_rfl) (fun _ _ _ h => h) ?hy (by assumption) ?_
                          case hy => (intro w' hSw; go_simp)
                          try simp only [Act.put, List.setIfInBounds_toArray, List.set_cons_zero, List.set_cons_succ]
                          refine takeG 14 (v := .int .i64 t1) rfl (by kernel_rfl) (by kernel_rfl) (by kernel_rfl) (by kernel_rfl) (fun _ _ _ h => h) ?hy (by assumption) ?_
                          case hy => (intro w' hSw; obtain ⟨_, s0, s1, s2, s3⟩ := (dj).keep hSw; dsimp only at s0 s1 s2 s3; go_simp)
                          try simp only [Act.put, List.setIfInBounds_toArray, List.set_cons_zero, List.set_cons_succ]
                          refine takeG 15 (v := .int .i64 but) rfl (by kernel_rfl) (by kernel_rfl) (by kernel_rfl) (by kernel_rfl) (fun _ _ _ h => h) ?hy (by assumption) ?_
                          case hy => (intro w' hSw; go_simp)
                          try simp only [Act.put, List.setIfInBounds_toArray, List.set_cons_zero, List.set_cons_succ]
                          refine takeG 16 (v := .bool false) rfl (by kernel_rfl) (by kernel_rfl) (by kernel_rfl) (by kernel_rfl) (fun _ _ _ h => h) ?hy (by assumption) ?_
                          case hy => (intro w' hSw; go_simp)
                          try simp only [Act.put, List.setIfInBounds_toArray, List.set_cons_zero, List.set_cons_succ]
                          refine takeG 17 (v := .bool false) rfl (by kernel_rfl) (by kernel_rfl) (by kernel_rfl) (by kernel_rfl) (fun _ _ _ h => h) ?hy (by assumption) ?_
                          case hy => (intro w' hSw; go_simp)
                          try simp only [Act.put, List.setIfInBounds_toArray, List.set_cons_zero, List.set_cons_succ]
                          refine takeG 18 (v := .bool false) rfl (by kernel_rfl) (by kernel_rfl) (by kernel_rfl) (by kernel_rfl) (fun _ _ _ h => h) ?hy (by assumption) ?_
                          case hy => (intro w' hSw; go_simp)
                          try simp only [Act.put, List.setIfInBounds_toArray, List.set_cons_zero, List.set_cons_succ]
                          refine skipG 19 rfl (by kernel_rfl) (by kernel_rfl) (by kernel_rfl) (by kernel_rfl) (fun _ _ _ h => h) (by assumption) ?_
                          try simp only [Act.put, List.setIfInBounds_toArray, List.set_cons_zero, List.set_cons_succ]
                          refine skipG 20 rfl (by kernel_rfl) (by kernel_rfl) (by kernel_rfl) (by kernel_rfl) (fun _ _ _ h => h) (by assumption) ?_
                          try simp only [Act.put, List.setIfInBounds_toArray, List.set_cons_zero, List.set_cons_succ]
                          refine skipG 21 rfl (by kernel_rfl) (by kernel_rfl) (by kernel_rfl) (by kernel_rfl) (fun _ _ _ h => h) (by assumption) ?_
                          try simp only [Act.put, List.setIfInBounds_toArray, List.set_cons_zero, List.set_cons_succ]
                          refine skipG 22 rfl (by kernel_rfl) (by kernel_rfl) (by kernel_rfl) (by kernel_rfl) (fun _ _ _ h => h) (by assumption) ?_
                          try simp only [Act.put, List.setIfInBounds_toArray, List.set_cons_zero, List.set_cons_succ]
                          refine skipG 23 rfl (by kernel_rfl) (by kernel_rfl) (by kernel_rfl) (by kernel_rfl) (fun _ _ _ h => h) (by assumption) ?_
                          try simp only [Act.put, List.setIfInBounds_toArray, List.set_cons_zero, List.set_cons_succ]
                          refine skipG 24 rfl (by kernel_rfl) (by kernel_rfl) (by kernel_rfl) (by kernel_rfl) (fun _ _ _ h => h) (by assumption) ?_
                          try simp only [Act.put, List.setIfInBounds_toArray, List.set_cons_zero, List.set_cons_succ]
                          refine skipG 25 rfl (by kernel_rfl) (by kernel_rfl) (by kernel_rfl) (by kernel_rfl) (fun _ _ _ h => h) (by assumption) ?_
                          try simp only [Act.put, List.setIfInBounds_toArray, List.set_cons_zero, List.set_cons_succ]
                          refine skipG 26 rfl (by kernel_rfl) (by kernel_rfl) (by kernel_rfl) (by kernel_rfl) (fun _ _ _ h => h) (by assumption) ?_
                          try simp only [Act.put, List.setIfInBounds_toArray, List.set_cons_zero, List.set_cons_succ]
                          refine skipG 27 rfl (by kernel_rfl) (by kernel_rfl) (by kernel_rfl) (by kernel_rfl) (fun _ _ _ h => h) (by assumption) ?_
                          try simp only [Act.put, List.setIfInBounds_toArray, List.set_cons_zero, List.set_cons_succ]
                          refine skipG 28 rfl (by kernel_rfl) (by kernel_rfl) (by kernel_rfl) (by kernel_rfl) (fun _ _ _ h => h) (by assumption) ?_
                          try simp only [Act.put, List.setIfInBounds_toArray, List.set_cons_zero, List.set_cons_succ]
                          refine skipG 29 rfl (by kernel_rfl) (by kernel_rfl) (by kernel_rfl) (by kernel_rfl) (fun _ _ _ h => h) (by assumption) ?_
                          try simp only [Act.put, List.setIfInBounds_toArray, List.set_cons_zero, List.set_cons_succ]
                          refine takeG 30 (v := .bool false) rfl (by kernel_rfl) (by kernel_rfl) (by kernel_rfl) (by kernel_rfl) (fun _ _ _ h => h) ?hy (by assumption) ?_
                          case hy => (intro w' hSw; go_simp)
                          try simp only [Act.put, List.setIfInBounds_toArray, List.set_cons_zero, List.set_cons_succ]
                          refine wpAnyH_done (by kernel_rfl) ?_ _
                          go_wp2_with fail
                          go_meet
                          case rel => exact ⟨rfl, hHeld⟩
                        · have e1 : decide (0 < g1) = true := decide_eq_true c1
                          have e2 : (h1 == 0) = true := beq_iff_eq.2 c2
                          have e3 : (t1 != but) = true := by simp [c3]
                          have e4 : decide (t4 < x4) = false := decide_eq_false c4
                          clear HC c1 c2 c3 c4
                          refine wp_region_held_drew (S := (fun w' => Below wv.heap.size wv w')) (by kernel_rfl) ?hS0 (fun hHeld => ?_)
                          case hS0 => exact (Below.refl _ _).drew
                          refine takeG 0 (v := .pointer (some ⟨kg, 0, none⟩)) rfl (by kernel_rfl) (by kernel_rfl) (by kernel_rfl) (by kernel_rfl) (fun _ _ _ h => h) ?hy (by assumption) ?_
                          case hy => (intro w' hSw; go_simp)
                          try simp only [Act.put, List.setIfInBounds_toArray, List.set_cons_zero, List.set_cons_succ]
                          refine takeG 1 (v := .int .i64 g1) rfl (by kernel_rfl) (by kernel_rfl) (by kernel_rfl) (by kernel_rfl) (fun _ _ _ h => h) ?hy (by assumption) ?_
                          case hy => (intro w' hSw; have s0 : w'.cell? ⟨kg, 0, none⟩ = some (.int .i64 g1) := (pg.keep hSw).cell 0; go_simp)
                          try simp only [Act.put, List.setIfInBounds_toArray, List.set_cons_zero, List.set_cons_succ]
                          refine takeG 2 (v := .bool true) rfl (by kernel_rfl) (by kernel_rfl) (by kernel_rfl) (by kernel_rfl) (fun _ _ _ h => h) ?hy (by assumption) ?_
                          case hy => (intro w' hSw; go_simp)
                          try simp only [Act.put, List.setIfInBounds_toArray, List.set_cons_zero, List.set_cons_succ]
                          refine takeG 3 (v := .bool true) rfl (by kernel_rfl) (by kernel_rfl) (by kernel_rfl) (by kernel_rfl) (fun _ _ _ h => h) ?hy (by assumption) ?_
                          case hy => (intro w' hSw; go_simp)
                          try simp only [Act.put, List.setIfInBounds_toArray, List.set_cons_zero, List.set_cons_succ]
                          refine takeG 4 (v := .pointer (some ⟨kh, 0, none⟩)) rfl (by kernel_rfl) (by kernel_rfl) (by kernel_rfl) (by kernel_rfl) (fun _ _ _ h => h) ?hy (by assumption) ?_
                          case hy => (intro w' hSw; go_simp)
                          try simp only [Act.put, List.setIfInBounds_toArray, List.set_cons_zero, List.set_cons_succ]
                          refine takeG 5 (v := .int .i64 h1) rfl (by kernel_rfl) (by kernel_rfl) (by kernel_rfl) (by kernel_rfl) (fun _ _ _ h => h) ?hy (by assumption) ?_
                          case hy => (intro w' hSw; have s0 : w'.cell? ⟨kh, 0, none⟩ = some (.int .i64 h1) := (ph.keep hSw).cell 0; go_simp)
                          try simp only [Act.put, List.setIfInBounds_toArray, List.set_cons_zero, List.set_cons_succ]
                          refine takeG 6 (v := .bool true) rfl (by kernel_rfl) (by kernel_rfl) (by kernel_rfl) (by kernel_rfl) (fun _ _ _ h => h) ?hy (by assumption) ?_
                          case hy => (intro w' hSw; go_simp)
                          try simp only [Act.put, List.setIfInBounds_toArray, List.set_cons_zero, List.set_cons_succ]
                          refine takeG 7 (v := .bool true) rfl (by kernel_rfl) (by kernel_rfl) (by kernel_rfl) (by kernel_rfl) (fun _ _ _ h => h) ?hy (by assumption) ?_
                          case hy => (intro w' hSw; go_simp)
                          try simp only [Act.put, List.setIfInBounds_toArray, List.set_cons_zero, List.set_cons_succ]
                          refine takeG 8 (v := .bool true) rfl (by kernel_rfl) (by kernel_rfl) (by kernel_rfl) (by kernel_rfl) (fun _ _ _ h => h) ?hy (by assumption) ?_
                          case hy => (intro w' hSw; go_simp)
                          try simp only [Act.put, List.setIfInBounds_toArray, List.set_cons_zero, List.set_cons_succ]
                          refine takeG 9 (v := .slice (some ⟨b, off, none⟩) p.length ep) rfl (by kernel_rfl) (by kernel_rfl) (by kernel_rfl) (by kernel_rfl) (fun _ _ _ h => h) ?hy (by assumption) ?_
                          case hy => (intro w' hSw; go_simp)
                          try simp only [Act.put, List.setIfInBounds_toArray, List.set_cons_zero, List.set_cons_succ]
                          refine takeG 10 (v := .int .i64 (j : Int)) rfl (by kernel_rfl) (by kernel_rfl) (by kernel_rfl) (by kernel_rfl) (fun _ _ _ h => h) ?hy (by assumption) ?_
                          case hy => (intro w' hSw; go_simp)
                          try simp only [Act.put, List.setIfInBounds_toArray, List.set_cons_zero, List.set_cons_succ]
                          refine takeG 11 (v := .pointer (some ⟨b, off + j * 4, none⟩)) rfl (by kernel_rfl) (by kernel_rfl) (by kernel_rfl) (by kernel_rfl) (fun _ _ _ h => h) ?hy (by assumption) ?_
                          case hy => (intro w' hSw; go_simp)
                          try simp only [Act.put, List.setIfInBounds_toArray, List.set_cons_zero, List.set_cons_succ]
                          refine takeG 12 (v := .pointer (some ⟨b, off + j * 4, none⟩)) rfl (by kernel_rfl) (by kernel_rfl) (by kernel_rfl) (by kernel_rfl) (fun _ _ _ h => h) ?hy (by assumption) ?_
                          case hy => (intro w' hSw; go_simp)
                          try simp only [Act.put, List.setIfInBounds_toArray, List.set_cons_zero, List.set_cons_succ]
                          refine takeG 13 (v := .pointer (some ⟨b, off + j * 4, none⟩)) rfl (by kernel_rfl) (by kernel_rfl) (by kernel_rfl) (by kernel_rfl) (fun _ _ _ h => h) ?hy (by assumption) ?_
                          case hy => (intro w' hSw; go_simp)
                          try simp only [Act.put, List.setIfInBounds_toArray, List.set_cons_zero, List.set_cons_succ]
                          refine takeG 14 (v := .int .i64 t1) rfl (by kernel_rfl) (by kernel_rfl) (by kernel_rfl) (by kernel_rfl) (fun _ _ _ h => h) ?hy (by assumption) ?_
                          case hy => (intro w' hSw; obtain ⟨_, s0, s1, s2, s3⟩ := (dj).keep hSw; dsimp only at s0 s1 s2 s3; go_simp)
                          try simp only [Act.put, List.setIfInBounds_toArray, List.set_cons_zero, List.set_cons_succ]
                          refine takeG 15 (v := .int .i64 but) rfl (by kernel_rfl) (by kernel_rfl) (by kernel_rfl) (by kernel_rfl) (fun _ _ _ h => h) ?hy (by assumption) ?_
                          case hy => (intro w' hSw; go_simp)
                          try simp only [Act.put, List.setIfInBounds_toArray, List.set_cons_zero, List.set_cons_succ]
                          refine takeG 16 (v := .bool true) rfl (by kernel_rfl) (by kernel_rfl) (by kernel_rfl) (by kernel_rfl) (fun _ _ _ h => h) ?hy (by assumption) ?_
                          case hy => (intro w' hSw; go_simp)
                          try simp only [Act.put, List.setIfInBounds_toArray, List.set_cons_zero, List.set_cons_succ]
                          refine takeG 17 (v := .bool true) rfl (by kernel_rfl) (by kernel_rfl) (by kernel_rfl) (by kernel_rfl) (fun _ _ _ h => h) ?hy (by assumption) ?_
                          case hy => (intro w' hSw; go_simp)
                          try simp only [Act.put, List.setIfInBounds_toArray, List.set_cons_zero, List.set_cons_succ]
                          refine takeG 18 (v := .bool true) rfl (by kernel_rfl) (by kernel_rfl) (by kernel_rfl) (by kernel_rfl) (fun _ _ _ h => h) ?hy (by assumption) ?_
                          case hy => (intro w' hSw; go_simp)
                          try simp only [Act.put, List.setIfInBounds_toArray, List.set_cons_zero, List.set_cons_succ]
                          refine takeG 19 (v := .slice (some ⟨b, off, none⟩) p.length ep) rfl (by kernel_rfl) (by kernel_rfl) (by kernel_rfl) (by kernel_rfl) (fun _ _ _ h => h) ?hy (by assumption) ?_
                          case hy => (intro w' hSw; go_simp)
                          try simp only [Act.put, List.setIfInBounds_toArray, List.set_cons_zero, List.set_cons_succ]
                          refine takeG 20 (v := .int .i64 (j : Int)) rfl (by kernel_rfl) (by kernel_rfl) (by kernel_rfl) (by kernel_rfl) (fun _ _ _ h => h) ?hy (by assumption) ?_
                          case hy => (intro w' hSw; go_simp)
                          try simp only [Act.put, List.setIfInBounds_toArray, List.set_cons_zero, List.set_cons_succ]
                          refine takeG 21 (v := .pointer (some ⟨b, off + j * 4, none⟩)) rfl (by kernel_rfl) (by kernel_rfl) (by kernel_rfl) (by kernel_rfl) (fun _ _ _ h => h) ?hy (by assumption) ?_
                          case hy => (intro w' hSw; go_simp)
                          try simp only [Act.put, List.setIfInBounds_toArray, List.set_cons_zero, List.set_cons_succ]
                          refine takeG 22 (v := .pointer (some ⟨b, off + j * 4 + 3, none⟩)) rfl (by kernel_rfl) (by kernel_rfl) (by kernel_rfl) (by kernel_rfl) (fun _ _ _ h => h) ?hy (by assumption) ?_
                          case hy => (intro w' hSw; go_simp)
                          try simp only [Act.put, List.setIfInBounds_toArray, List.set_cons_zero, List.set_cons_succ]
                          refine takeG 23 (v := .int .i64 t4) rfl (by kernel_rfl) (by kernel_rfl) (by kernel_rfl) (by kernel_rfl) (fun _ _ _ h => h) ?hy (by assumption) ?_
                          case hy => (intro w' hSw; obtain ⟨_, s0, s1, s2, s3⟩ := (dj).keep hSw; dsimp only at s0 s1 s2 s3; go_simp)
                          try simp only [Act.put, List.setIfInBounds_toArray, List.set_cons_zero, List.set_cons_succ]
                          refine takeG 24 (v := .slice (some ⟨b, off, none⟩) p.length ep) rfl (by kernel_rfl) (by kernel_rfl) (by kernel_rfl) (by kernel_rfl) (fun _ _ _ h => h) ?hy (by assumption) ?_
                          case hy => (intro w' hSw; go_simp)
                          try simp only [Act.put, List.setIfInBounds_toArray, List.set_cons_zero, List.set_cons_succ]
                          refine takeG 25 (v := .int .i64 (i : Int)) rfl (by kernel_rfl) (by kernel_rfl) (by kernel_rfl) (by kernel_rfl) (fun _ _ _ h => h) ?hy (by assumption) ?_
                          case hy => (intro w' hSw; go_simp)
                          try simp only [Act.put, List.setIfInBounds_toArray, List.set_cons_zero, List.set_cons_succ]
                          refine takeG 26 (v := .pointer (some ⟨b, off + i * 4, none⟩)) rfl (by kernel_rfl) (by kernel_rfl) (by kernel_rfl) (by kernel_rfl) (fun _ _ _ h => h) ?hy (by assumption) ?_
                          case hy => (intro w' hSw; go_simp)
                          try simp only [Act.put, List.setIfInBounds_toArray, List.set_cons_zero, List.set_cons_succ]
                          refine takeG 27 (v := .pointer (some ⟨b, off + i * 4 + 3, none⟩)) rfl (by kernel_rfl) (by kernel_rfl) (by kernel_rfl) (by kernel_rfl) (fun _ _ _ h => h) ?hy (by assumption) ?_
                          case hy => (intro w' hSw; go_simp)
                          try simp only [Act.put, List.setIfInBounds_toArray, List.set_cons_zero, List.set_cons_succ]
                          refine takeG 28 (v := .int .i64 x4) rfl (by kernel_rfl) (by kernel_rfl) (by kernel_rfl) (by kernel_rfl) (fun _ _ _ h => h) ?hy (by assumption) ?_
                          case hy => (intro w' hSw; obtain ⟨_, s0, s1, s2, s3⟩ := (di).keep hSw; dsimp only at s0 s1 s2 s3; go_simp)
                          try simp only [Act.put, List.setIfInBounds_toArray, List.set_cons_zero, List.set_cons_succ]
                          refine takeG 29 (v := .bool false) rfl (by kernel_rfl) (by kernel_rfl) (by kernel_rfl) (by kernel_rfl) (fun _ _ _ h => h) ?hy (by assumption) ?_
                          case hy => (intro w' hSw; go_simp)
                          try simp only [Act.put, List.setIfInBounds_toArray, List.set_cons_zero, List.set_cons_succ]
                          refine takeG 30 (v := .bool false) rfl (by kernel_rfl) (by kernel_rfl) (by kernel_rfl) (by kernel_rfl) (fun _ _ _ h => h) ?hy (by assumption) ?_
                          case hy => (intro w' hSw; go_simp)
                          try simp only [Act.put, List.setIfInBounds_toArray, List.set_cons_zero, List.set_cons_succ]
                          refine wpAnyH_done (by kernel_rfl) ?_ _
                          go_wp2_with fail
                          go_meet
                          case rel => exact ⟨rfl, hHeld⟩
                      case rest =>
                        obtain ⟨rfl, bu⟩ := hcut
                        have bz := bw.trans (bu.mono bw.size)
                        clear bu bw pg ph di dj HC
                        go_wp2
                        go_roundw
                        case rel => exact ⟨j + 1, by omega, by go_num, bz⟩
                        case measure => simp [intOf]; omega
                  · obtain rfl : j = p.length := by omega
                    go_wp2
                    go_roundw
                    case rel => exact ⟨i + 1, by omega, by go_num, bj⟩
                    case measure => simp [intOf]; omega
              · obtain rfl : i = p.length := by omega
                go_wp2_with fail
                go_meet
                case rel => exact bi
      · have hcy' : (cy == 0) = false := beq_eq_false_iff_ne.2 hcy
        go_wp2_with fail
        go_meet
        case rel => exact Below.refl _ _
    case rest =>
      obtain ⟨V, rfl⟩ : ∃ V, V = wc := ⟨wc, rfl⟩
      have bV := hcut
      clear hcut
      replace PF := PF.keep bV
      replace rx := rx.keep bV
      replace PX := PX.keep bV
      replace B := B.trans (bV.mono B.size)
      clear bV rl rp ry ryf PY HPY HQR
      have k0 : V.cell? ⟨kx, 0, none⟩ = some (.slice px m.length ex) := PX.cell 0
      have k2 : V.cell? ⟨kx, 2, none⟩ = some (.int .i64 cx) := PX.cell 2
      by_cases hcx : cx ≠ 0
      · have hcx' : (cx == 0) = false := beq_eq_false_iff_ne.2 hcx
        go_wp2
        go_ret
        exact ⟨rfl, B⟩
      obtain rfl : cx = 0 := by omega
      clear hcx
      have HPXP : Hid (rightR l ∧ FactV.ok ⟨f1, f2, f3⟩ ∧ m = putR l ⟨f1, f2, f3⟩) := by
        show _ ∧ _ ∧ _
        rcases HPX.out with ⟨_, e, _⟩ | ⟨_, _, e, _⟩ | ⟨h1, h2, _, h3⟩
        · cases e
        · cases e
        · exact ⟨h1, h2, h3⟩
      have HT0 : Hid (TellTo ⟨f1, f2, f3⟩ 0 m 0) := by
        show TellTo _ _ _ _
        have := tell_0 HPXP.out.1 HPXP.out.2.1
        rw [HPXP.out.2.2]; exact this
      have HFO : Hid (FactV.ok ⟨f1, f2, f3⟩) := HPXP.out.2.1
      clear HPX HPXP
      go_wp2
      clear k0 k2
      go_loopw [18, 16, 17] (fun i t v wr => ∃ (n : Nat) (r : List RumV) (tt : Int) (ar : Option Addr) (er : Nat), i = .int .i64 n ∧ t = .int .i64 tt ∧ v = .slice ar r.length er ∧ n ≤ 30 ∧ TellTo ⟨f1, f2, f3⟩ n r tt ∧ CellRow wr ar (cellsOf RumV.cells r) ∧ Below V.heap.size V wr) (fun i _ _ _ => 30 - (intOf i).toNat)
      case atStart => exact ⟨0, m, 0, px, ex, rfl, rfl, rfl, by omega, HT0.out, rx, Below.refl _ _⟩
      case round =>
        obtain ⟨n, r, tt, ar, er, rfl, rfl, rfl, hn30, hTell, rr, br⟩ := hrel
        obtain ⟨wn, rfl⟩ : ∃ wn, wn = wr := ⟨wr, rfl⟩
        have HTL : Hid (TellTo ⟨f1, f2, f3⟩ n r tt) := hTell
        have hr6 := rightR_len hTell.1
        have hrr : rightR r := hTell.1
        have hPk : PickRIs r 0 0 (tellR r) (factsR (pickedR r 0)) := .inr (.inr ⟨hrr, rfl, rfl, rfl⟩)
        have hz6 := (pickR_len hPk).2
        have HPK : Hid (PickRIs r 0 0 (tellR r) (factsR (pickedR r 0))) := hPk
        have htt : tt ≤ 4 ∧ 0 ≤ tt := by
          refine ⟨?_, hTell.2.2.2⟩
          rcases hTell.2.1 with ⟨_, _, _, _, h⟩ | ⟨h, _⟩ <;> omega
        clear hTell hPk HT0
        by_cases hn : n < 30
        · have hnI : (n : Int) < 30 := by omega
          go_wp2_with fail
          refine (implRPick_any ar er r 0 0 (tellR r) (factsR (pickedR r 0)) _ HPK.out (by omega) rr).mono ?_
          rintro e wz ⟨vz, uz, rfl, oz, ozf, bz⟩
          obtain ⟨pz, ez, rfl, rz⟩ := OwnsRow.cellRowR oz
          obtain ⟨qz, dz, rfl, rzf⟩ := OwnsRow.cellRow ozf
          unfold outR
          have BZ := br.trans (bz.mono br.size)
          clear oz ozf rr br bz
          have bA : Below wz.heap.size wz (wz.alloc (.cells #[.slice pz (tellR r).length ez, .slice qz (factsR (pickedR r 0)).length dz, .int .i64 0] 30)) := (Below.refl _ _).alloc (Nat.le_refl _) _
          have PZ := BlkIs.new wz 30 #[.slice pz (tellR r).length ez, .slice qz (factsR (pickedR r 0)).length dz, .int .i64 0]
          replace rz := rz.keep bA
          replace rzf := rzf.keep bA
          replace BZ := BZ.trans (bA.mono BZ.size)
          obtain ⟨wy, hwy⟩ : ∃ y, wz.alloc (.cells #[.slice pz (tellR r).length ez, .slice qz (factsR (pickedR r 0)).length dz, .int .i64 0] 30) = y := ⟨_, rfl⟩
          obtain ⟨kz, hkz⟩ : ∃ k, wz.heap.size = k := ⟨_, rfl⟩
          rw [hwy] at PZ rz rzf BZ
          rw [hkz] at PZ
          have HWY : Hid (_ = wy) := hwy
          have HKZ : Hid (wz.heap.size = kz) := hkz
          have PFY := PF.keep BZ
          obtain ⟨gg, hgg⟩ : ∃ m, AtIs (factsR (pickedR r 0)) f1 m := atIs_ex _ _
          have hge : gg = atF (factsR (pickedR r 0)) f1 := by
            rcases hgg with ⟨_, e⟩ | ⟨h, _⟩
            · exact e
            · exact absurd (factsR_right (fun d hd => ((picked_right hrr 0).1 d hd).1)) h
          have hnx := tell_next HFO.out HTL.out
          dsimp only at hnx
          rw [← hge] at hnx
          obtain ⟨tq, htq⟩ := tells_bool (gg = (⟨f1, f2, f3⟩ : FactV))
          have HNX : Hid ((tq = true ∧ TellTo ⟨f1, f2, f3⟩ (n + 1) (tellR r) (tt + 1)) ∨ (tq = false ∧ TellTo ⟨f1, f2, f3⟩ (n + 1) (tellR r) tt)) := by
            rcases hnx with ⟨e, h⟩ | ⟨e, h⟩
            · exact .inl ⟨htq.2 e, h⟩
            · right
              refine ⟨?_, h⟩
              cases tq with
              | false => rfl
              | true => exact absurd (htq.1 rfl) e
          have hgu := guardF
          have hneq := eqF_q htq
          obtain ⟨g1, g2, g3⟩ := gg
          dsimp only at hneq
          have HAT : Hid (AtIs (factsR (pickedR r 0)) f1 ⟨g1, g2, g3⟩) := hgg
          clear hgg hge hnx htq bA hwy hkz hrr HTL HPK
          have m2c : wy.cell? ⟨kz, 2, none⟩ = some (.int .i64 0) := PZ.cell 2
          go_upto_region 32 with fail
          rw [HWY.out, HKZ.out]
          clear HWY HKZ
          go_upto_region 34 with fail
          clear m2c
          go_cut [164] (fun v wc => v = .bool tq ∧ Below wy.heap.size wy wc)
          case first =>
            as_aux_lemma =>
            refine wp_region_held_drew (S := fun w' => Below wy.heap.size wy w') (by kernel_rfl) ?hS0 (fun hHeld => ?_)
            case hS0 => exact (Below.refl _ _).drew
            refine takeG 0 (v := .pointer (some ⟨kz, 1, none⟩)) rfl (by kernel_rfl) (by kernel_rfl) (by kernel_rfl) (by kernel_rfl) (fun _ _ _ h => h) ?hy (by assumption) ?_
            case hy => (intro w' hSw; go_simp)
            try simp only [Act.put, List.setIfInBounds_toArray, List.set_cons_zero, List.set_cons_succ]
            refine takeG 1 (v := .slice qz (factsR (pickedR r 0)).length dz) rfl (by kernel_rfl) (by kernel_rfl) (by kernel_rfl) (by kernel_rfl) (fun _ _ _ h => h) ?hy (by assumption) ?_
            case hy => (intro w' hSw; have s0 : w'.cell? ⟨kz, 1, none⟩ = some (.slice qz (factsR (pickedR r 0)).length dz) := (PZ.keep hSw).cell 1; go_simp)
            try simp only [Act.put, List.setIfInBounds_toArray, List.set_cons_zero, List.set_cons_succ]
            refine takeG 2 (v := .pointer (some ⟨kf, 0, none⟩)) rfl (by kernel_rfl) (by kernel_rfl) (by kernel_rfl) (by kernel_rfl) (fun _ _ _ h => h) ?hy (by assumption) ?_
            case hy => (intro w' hSw; go_simp)
            try simp only [Act.put, List.setIfInBounds_toArray, List.set_cons_zero, List.set_cons_succ]
            refine takeG 3 (v := .int .i64 f1) rfl (by kernel_rfl) (by kernel_rfl) (by kernel_rfl) (by kernel_rfl) (fun _ _ _ h => h) ?hy (by assumption) ?_
            case hy => (intro w' hSw; have s0 : w'.cell? ⟨kf, 0, none⟩ = some (.int .i64 f1) := (PFY.keep hSw).cell 0; go_simp)
            try simp only [Act.put, List.setIfInBounds_toArray, List.set_cons_zero, List.set_cons_succ]
            refine takeG 5 (v := .agg #[.int .i64 f1, .int .i64 f2, .int .i64 f3]) rfl (by kernel_rfl) (by kernel_rfl) (by kernel_rfl) (by kernel_rfl) (fun _ _ _ h => h) ?hy (by assumption) ?_
            case hy => (intro w' hSw; have s0 : w'.cell? ⟨kf, 0, none⟩ = some (.int .i64 f1) := (PFY.keep hSw).cell 0; have s1 : w'.cell? ⟨kf, 1, none⟩ = some (.int .i64 f2) := (PFY.keep hSw).cell 1; have s2 : w'.cell? ⟨kf, 2, none⟩ = some (.int .i64 f3) := (PFY.keep hSw).cell 2; go_simp)
            try simp only [Act.put, List.setIfInBounds_toArray, List.set_cons_zero, List.set_cons_succ]
            refine runG 4 (by kernel_rfl) rfl (by kernel_rfl) ?_
            go_simp
            refine (implAt_any qz dz (factsR (pickedR r 0)) f1 ⟨g1, g2, g3⟩ HAT.out _ (by omega) (rzf.keep hHeld)).mono ?_
            rintro e g1 ⟨rfl, bb⟩
            have hg1 : (fun z => Below wy.heap.size wy z) g1 := hHeld.trans (bb.mono hHeld.size)
            unfold FactV.val
            dsimp only
            refine ⟨hg1, ?_⟩
            clear hHeld bb
            try simp only [Act.put, List.setIfInBounds_toArray, List.set_cons_zero, List.set_cons_succ]
            refine takeG 6 (v := .bool tq) rfl (by kernel_rfl) (by kernel_rfl) (by kernel_rfl) (by kernel_rfl) (fun _ _ _ h => h) ?hy (by assumption) ?_
            case hy => (intro w' hSw; go_simp)
            try simp only [Act.put, List.setIfInBounds_toArray, List.set_cons_zero, List.set_cons_succ]
            refine wpAnyH_done (by kernel_rfl) ?_ _
            go_wp2_with fail
            go_meet
            case rel => exact ⟨rfl, hg1⟩
          case rest =>
            obtain ⟨rfl, bq⟩ := hcut
            have BQ := BZ.trans (bq.mono BZ.size)
            have PZ2 := PZ.keep bq
            have rz2 := rz.keep bq
            have m0c : wc.cell? ⟨kz, 0, none⟩ = some (.slice pz (tellR r).length ez) := PZ2.cell 0
            clear bq PZ PZ2 rz rzf PFY HAT hneq hgu BZ
            rcases HNX.out with ⟨rfl, hT⟩ | ⟨rfl, hT⟩
            · have HT2 : Hid (TellTo ⟨f1, f2, f3⟩ (n + 1) (tellR r) (tt + 1)) := hT
              have hwt : IntKind.i64.wrap (tt + 1) = tt + 1 := by rw [IntKind.wrap_i64]; omega
              clear hT HNX
              go_wp2
              go_roundw
              case rel => exact ⟨n + 1, tellR r, tt + 1, pz, ez, by go_num, rfl, rfl, by omega, HT2.out, rz2, BQ⟩
              case measure => simp [intOf]; omega
            · have HT2 : Hid (TellTo ⟨f1, f2, f3⟩ (n + 1) (tellR r) tt) := hT
              clear hT HNX
              go_wp2
              go_roundw
              case rel => exact ⟨n + 1, tellR r, tt, pz, ez, by go_num, rfl, rfl, by omega, HT2.out, rz2, BQ⟩
              case measure => simp [intOf]; omega
        · obtain rfl : n = 30 := by omega
          have hE := tell_end HTL.out (by omega)
          have BE := B.trans (br.mono B.size)
          obtain ⟨e4, e0⟩ := hE
          subst e4
          have e0I : ((r.length : Nat) : Int) = 0 := by omega
          rw [e0]
          clear HTL e0 e0I HPK rr hr6 hrr hz6
          go_wp2
          go_ret
          exact ⟨rfl, BE⟩
end Go.Proofs.Ytenefjnahanfbaa
