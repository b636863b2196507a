/- The laws' own comparison of answers of rumors. -/
import Derived.Test.YtenefjnahanfbaaRumEq
import Derived.Test.YtenefjnahanfbaaWView
namespace Go.Proofs.Ytenefjnahanfbaa
open Go Go.RowKit
set_option linter.unusedVariables false
set_option linter.unusedSimpArgs false

theorem eqR_same (a b c d : Int) (w : World) : (Op.equalIn 10000 39 (.agg #[.int .i64 a, .int .i64 b, .int .i64 c, .int .i64 d]) (.agg #[.int .i64 a, .int .i64 b, .int .i64 c, .int .i64 d])).run Try.prog w = .ok true w := by
  have u := Try.underlying2
  have hS : Try.prog.underlying 39 = some (.struct (Try.prog.fieldsOf 39)) := by kernel_rfl
  have hp : Try.prog.stoodInHeld 39 = false := by kernel_rfl
  rw [show (10000 : Nat) = 9999 + 1 from rfl, run_equalIn_agg w 9999 39 _ _ hS hp]
  simp only [Program.fieldsOf, Try.underlying39]
  go_simp
theorem guardR : Try.prog.eqGuardType Try.prog.depth 39 = false := by kernel_rfl
set_option maxHeartbeats 2000000 in
set_option maxRecDepth 100000 in
theorem lwRumors_same (a1 : Option Addr) (c1 : Nat) (a2 : Option Addr) (c2 : Nat) (a3 : Option Addr) (c3 : Nat) (a4 : Option Addr) (c4 : Nat) (c : Int) (m : List RumV) (fs : List FactV) (w : World) (hl : m.length ≤ 1000) (hf : fs.length ≤ 1000)
    (n1 : CellRow w a1 (cellsOf RumV.cells m)) (n2 : CellRow w a2 (cellsOf RumV.cells m)) (n3 : CellRow w a3 (cellsOf FactV.cells fs)) (n4 : CellRow w a4 (cellsOf FactV.cells fs)) (hr : c = 0 → rightR m) :
    Calls Try.prog 11 #[.agg #[.slice a1 m.length c1, .slice a3 fs.length c3, .int .i64 c], .agg #[.slice a2 m.length c2, .slice a4 fs.length c4, .int .i64 c]] w fun e w' => e = .returned (.bool true) ∧ Below w.heap.size w w' := by
  have HR : Hid (c = 0 → rightR m) := hr
  clear hr
  have B0 : Below w.heap.size w ((w.alloc (.cells #[.slice a1 m.length c1, .slice a3 fs.length c3, .int .i64 c] 30)).alloc (.cells #[.slice a2 m.length c2, .slice a4 fs.length c4, .int .i64 c] 30)) := ((Below.refl _ _).alloc (Nat.le_refl _) _).alloc (by simp) _
  have p1 := (BlkIs.new w 30 #[.slice a1 m.length c1, .slice a3 fs.length c3, .int .i64 c]).keep ((Below.refl _ _).alloc (Nat.le_refl _) (.cells #[.slice a2 m.length c2, .slice a4 fs.length c4, .int .i64 c] 30))
  have p2 := BlkIs.new (w.alloc (.cells #[.slice a1 m.length c1, .slice a3 fs.length c3, .int .i64 c] 30)) 30 #[.slice a2 m.length c2, .slice a4 fs.length c4, .int .i64 c]
  rw [World.size_alloc] at p2
  have m1 := n1.keep B0
  have m2 := n2.keep B0
  have m3 := n3.keep B0
  have m4 := n4.keep B0
  obtain ⟨W, hW⟩ : ∃ W, (w.alloc (.cells #[.slice a1 m.length c1, .slice a3 fs.length c3, .int .i64 c] 30)).alloc (.cells #[.slice a2 m.length c2, .slice a4 fs.length c4, .int .i64 c] 30) = W := ⟨_, rfl⟩
  rw [hW] at B0 p1 p2 m1 m2 m3 m4
  have HW : Hid (_ = W) := hW
  clear hW n1 n2 n3 n4
  have d0 : W.cell? ⟨w.heap.size, 0, none⟩ = some (.slice a1 m.length c1) := p1.cell 0
  have d1 : W.cell? ⟨w.heap.size, 1, none⟩ = some (.slice a3 fs.length c3) := p1.cell 1
  have d2 : W.cell? ⟨w.heap.size, 2, none⟩ = some (.int .i64 c) := p1.cell 2
  have f0 : W.cell? ⟨w.heap.size + 1, 0, none⟩ = some (.slice a2 m.length c2) := p2.cell 0
  have f1 : W.cell? ⟨w.heap.size + 1, 1, none⟩ = some (.slice a4 fs.length c4) := p2.cell 1
  have f2 : W.cell? ⟨w.heap.size + 1, 2, none⟩ = some (.int .i64 c) := p2.cell 2
  go_enter Try.func11, Try.ntmps11
  go_upto_region 1 with fail
  rw [HW.out]
  clear HW
  go_wp2_with fail
  refine (lwView_same a3 c3 a4 c4 fs _ (by omega) m3 m4).mono ?_
  rintro e z ⟨rfl, bz⟩
  have q1 := p1.keep bz
  have q2 := p2.keep bz
  have k1 := m1.keep bz
  have k2 := m2.keep bz
  have B1 := B0.trans (bz.mono B0.size)
  clear p1 p2 m1 m2 m3 m4 B0 bz d0 d1 d2 f0 f1 f2
  have e0 : z.cell? ⟨w.heap.size, 0, none⟩ = some (.slice a1 m.length c1) := q1.cell 0
  go_wp2
  clear e0
  go_loopw [5] (fun i wr => ∃ k : Nat, k ≤ m.length ∧ i = .int .i64 k ∧ Below z.heap.size z wr) (fun i _ => m.length - (intOf i).toNat)
  case atStart => exact ⟨0, Nat.zero_le _, rfl, Below.refl _ _⟩
  case round =>
    obtain ⟨k, hk, rfl, bk⟩ := hrel
    have r1 := q1.keep bk
    have r2 := q2.keep bk
    have B2 := B1.trans (bk.mono B1.size)
    have e0 : wr.cell? ⟨w.heap.size, 0, none⟩ = some (.slice a1 m.length c1) := r1.cell 0
    by_cases hx : k < m.length
    · obtain ⟨b1, o1, rfl⟩ := k1.addr (by rw [cellsOf_length RumV.cells_len]; omega)
      obtain ⟨b2, o2, rfl⟩ := k2.addr (by rw [cellsOf_length RumV.cells_len]; omega)
      obtain ⟨x, hlx⟩ : ∃ x, m[k] = x := ⟨_, rfl⟩
      have s1 := (k1.keep bk).rum hx hlx
      have s2 := (k2.keep bk).rum hx hlx
      have g0 : wr.cell? ⟨w.heap.size + 1, 0, none⟩ = some (.slice (some ⟨b2, o2, none⟩) m.length c2) := r2.cell 0
      obtain ⟨x1, x2, x3, x4⟩ := x
      obtain ⟨_, t0, t1, t2, t3⟩ := s1
      obtain ⟨_, u0, u1, u2, u3⟩ := s2
      dsimp only at t0 t1 t2 t3 u0 u1 u2 u3
      have hgu := guardR
      have hneq := eqR_same x1 x2 x3 x4
      have hkI : (k : Int) < (m.length : Int) := by omega
      have bd := bk.drew
      clear hlx
      go_wp2
      go_region
      all_goals
        go_wp2
        go_roundw
        case rel => exact ⟨k + 1, by omega, by go_num, bd⟩
        case measure => simp [intOf]; omega
    · obtain rfl : k = m.length := by omega
      have e2 : wr.cell? ⟨w.heap.size, 2, none⟩ = some (.int .i64 c) := r1.cell 2
      have kk := k1.keep bk
      by_cases hc : c = 0
      · have HQ : Hid (rightR m) := HR.out hc
        subst hc
        go_wp2_with fail
        refine (specRRight_is a1 c1 m _ true (by simp [HQ.out]) (by omega) kk).mono ?_
        rintro e z2 ⟨rfl, bz2⟩
        have B3 := B2.trans (bz2.mono B2.size)
        clear bz2 B2
        go_wp2
        go_ret
        exact ⟨rfl, B3⟩
      · have hcb : (c == 0) = false := by simp [hc]
        go_wp2
        go_ret
        exact ⟨rfl, B2⟩
end Go.Proofs.Ytenefjnahanfbaa
