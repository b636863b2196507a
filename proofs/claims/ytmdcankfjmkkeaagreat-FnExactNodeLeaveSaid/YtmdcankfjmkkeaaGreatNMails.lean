/- Rows of mails, and the contracts of the exact laws' helpers over them: compare, mark, hold. -/
import Derived.Test.YtmdcankfjmkkeaaGreatNHelp
import Derived.Test.YtmdcankfjmkkeaaGreatG27
namespace Go.Proofs.YtmdcankfjmkkeaaGreat
open Go Go.RowKit
set_option linter.unusedVariables false
set_option linter.unusedSimpArgs false

def MailA.cells (m : MailA) : List Value := [.int .i64 m.k, .int .i64 m.f, .int .i64 m.t, .int .i64 m.n, .int .i64 m.a, .int .i64 m.r, .slice m.p m.l.length m.cap]
theorem MailA.cells_len (m : MailA) : m.cells.length = 7 := rfl
/-- A row of mails, to read. -/
structure MailsAt (w : World) (a : Option Addr) (ms : List MailA) : Prop where
  row : CellRow w a (cellsOf MailA.cells ms)
  facts : ∀ i (h : i < ms.length), CellRow w ms[i].p (cellsOf FactV.cells ms[i].l)
theorem MailsAt.keep {w w' : World} {a : Option Addr} {ms : List MailA} (h : MailsAt w a ms) (hb : Below w.heap.size w w') : MailsAt w' a ms := ⟨h.row.keep hb, fun i hi => (h.facts i hi).keep hb⟩
def Alike (x y : MailA) : Prop := x.k = y.k ∧ x.f = y.f ∧ x.t = y.t ∧ x.n = y.n ∧ x.a = y.a ∧ x.r = y.r ∧ x.l = y.l
set_option maxHeartbeats 2000000 in
set_option maxRecDepth 100000 in
theorem eqMails_same (a1 a2 : Option Addr) (c1 c2 : Nat) (ms ns : List MailA) (w : World) (hlen : ns.length = ms.length) (hal : ∀ i (h : i < ms.length) (h' : i < ns.length), Alike ms[i] ns[i]) (hl : ms.length ≤ 1048576) (hfl : ∀ i (h : i < ms.length), ms[i].l.length ≤ 1048576) (h1 : MailsAt w a1 ms) (h2 : MailsAt w a2 ns) :
    Calls Tryz.prog 109 #[.slice a1 ms.length c1, .slice a2 ms.length c2] w fun e w' => e = .returned (.bool true) ∧ Below w.heap.size w w' := by
  have HLEN : Hid (ns.length = ms.length) := hlen
  clear hlen
  go_enter Tryz.func109, Tryz.ntmps109
  go_wp2
  go_loopw [5] (fun i wr => ∃ k : Nat, k ≤ ms.length ∧ i = .int .i64 k ∧ Below w.heap.size w wr) (fun i _ => ms.length - (intOf i).toNat)
  case atStart => exact ⟨0, Nat.zero_le _, rfl, Below.refl _ _⟩
  case round =>
    obtain ⟨k, hk, rfl, hb⟩ := hrel
    obtain ⟨X, rfl⟩ : ∃ X, X = wr := ⟨wr, rfl⟩
    by_cases hx : k < ms.length
    · have hx2 : k < ns.length := by have := HLEN.out; omega
      have hA := hal k hx hx2
      have hf1 := h1.facts k hx
      have hf2 := h2.facts k hx2
      have hfk := hfl k hx
      have R1 := h1.row
      have R2 := h2.row
      obtain ⟨b1, o1, rfl⟩ := R1.addr (by rw [cellsOf_length MailA.cells_len]; omega)
      obtain ⟨b2, o2, rfl⟩ := R2.addr (by rw [cellsOf_length MailA.cells_len]; omega)
      replace R1 := R1.keep hb
      replace R2 := R2.keep hb
      obtain ⟨x, hlx⟩ : ∃ x, ms[k] = x := ⟨_, rfl⟩
      obtain ⟨y, hly⟩ : ∃ y, ns[k] = y := ⟨_, rfl⟩
      rw [hlx] at hf1 hfk
      rw [hly] at hf2
      rw [hlx, hly] at hA
      obtain ⟨k1, k2, k3, k4, k5, k6, p1, e1, l⟩ := x
      obtain ⟨_, _, _, _, _, _, p2, e2, _⟩ := y
      obtain ⟨rfl, rfl, rfl, rfl, rfl, rfl, rfl⟩ := hA
      dsimp only at hf1 hf2 hfk
      have u0 : X.cell? ⟨b1, o1 + k * 7, none⟩ = some (.int .i64 k1) := R1.thing0 MailA.cells_len (i := k) (v := .int .i64 k1) hx (by omega) (by rw [hlx]; rfl)
      have u1 : X.cell? ⟨b1, o1 + k * 7 + 1, none⟩ = some (.int .i64 k2) := R1.thingj MailA.cells_len (i := k) (j := 1) (v := .int .i64 k2) hx (by omega) (by rw [hlx]; rfl)
      have u2 : X.cell? ⟨b1, o1 + k * 7 + 2, none⟩ = some (.int .i64 k3) := R1.thingj MailA.cells_len (i := k) (j := 2) (v := .int .i64 k3) hx (by omega) (by rw [hlx]; rfl)
      have u3 : X.cell? ⟨b1, o1 + k * 7 + 3, none⟩ = some (.int .i64 k4) := R1.thingj MailA.cells_len (i := k) (j := 3) (v := .int .i64 k4) hx (by omega) (by rw [hlx]; rfl)
      have u4 : X.cell? ⟨b1, o1 + k * 7 + 4, none⟩ = some (.int .i64 k5) := R1.thingj MailA.cells_len (i := k) (j := 4) (v := .int .i64 k5) hx (by omega) (by rw [hlx]; rfl)
      have u5 : X.cell? ⟨b1, o1 + k * 7 + 5, none⟩ = some (.int .i64 k6) := R1.thingj MailA.cells_len (i := k) (j := 5) (v := .int .i64 k6) hx (by omega) (by rw [hlx]; rfl)
      have u6 : X.cell? ⟨b1, o1 + k * 7 + 6, none⟩ = some (.slice p1 l.length e1) := R1.thingj MailA.cells_len (i := k) (j := 6) (v := .slice p1 l.length e1) hx (by omega) (by rw [hlx]; rfl)
      have v0 : X.cell? ⟨b2, o2 + k * 7, none⟩ = some (.int .i64 k1) := R2.thing0 MailA.cells_len (i := k) (v := .int .i64 k1) hx2 (by omega) (by rw [hly]; rfl)
      have v1 : X.cell? ⟨b2, o2 + k * 7 + 1, none⟩ = some (.int .i64 k2) := R2.thingj MailA.cells_len (i := k) (j := 1) (v := .int .i64 k2) hx2 (by omega) (by rw [hly]; rfl)
      have v2 : X.cell? ⟨b2, o2 + k * 7 + 2, none⟩ = some (.int .i64 k3) := R2.thingj MailA.cells_len (i := k) (j := 2) (v := .int .i64 k3) hx2 (by omega) (by rw [hly]; rfl)
      have v3 : X.cell? ⟨b2, o2 + k * 7 + 3, none⟩ = some (.int .i64 k4) := R2.thingj MailA.cells_len (i := k) (j := 3) (v := .int .i64 k4) hx2 (by omega) (by rw [hly]; rfl)
      have v4 : X.cell? ⟨b2, o2 + k * 7 + 4, none⟩ = some (.int .i64 k5) := R2.thingj MailA.cells_len (i := k) (j := 4) (v := .int .i64 k5) hx2 (by omega) (by rw [hly]; rfl)
      have v5 : X.cell? ⟨b2, o2 + k * 7 + 5, none⟩ = some (.int .i64 k6) := R2.thingj MailA.cells_len (i := k) (j := 5) (v := .int .i64 k6) hx2 (by omega) (by rw [hly]; rfl)
      have v6 : X.cell? ⟨b2, o2 + k * 7 + 6, none⟩ = some (.slice p2 l.length e2) := R2.thingj MailA.cells_len (i := k) (j := 6) (v := .slice p2 l.length e2) hx2 (by omega) (by rw [hly]; rfl)
      have q1 : b1 < X.heap.size := by
        rcases R1 with h | ⟨b, off, e, hlt, _⟩
        · have := cellsOf_length MailA.cells_len ms; rw [h] at this; simp at this; omega
        · have : b1 = b := by simpa using congrArg (Option.map Addr.block) e
          omega
      have q2 : b2 < X.heap.size := by
        rcases R2 with h | ⟨b, off, e, hlt, _⟩
        · have := cellsOf_length MailA.cells_len ns; rw [h] at this; simp at this; omega
        · have : b2 = b := by simpa using congrArg (Option.map Addr.block) e
          omega
      have hx' : (k : Int) < (ms.length : Int) := by omega
      clear R1 R2 hlx hly h1 h2 hal hfl
      go_upto_region 6 with fail
      refine wp_region_held_drew (S := fun w' => Below X.heap.size X w') (by kernel_rfl) ?hS0 (fun hHeld => ?_)
      case hS0 => exact (Below.refl _ _).drew
      refine takeG 0 (v := .slice (some ⟨b1, o1, none⟩) ms.length c1) rfl (by kernel_rfl) (by kernel_rfl) (by kernel_rfl) (by kernel_rfl) (fun _ _ _ h => h) ?hy (by assumption) ?_
      case hy => (intro w' hSw; go_simp)
      try simp only [List.setIfInBounds_toArray, List.set_cons_zero, List.set_cons_succ]
      refine takeG 1 (v := .int .i64 (k : Int)) rfl (by kernel_rfl) (by kernel_rfl) (by kernel_rfl) (by kernel_rfl) (fun _ _ _ h => h) ?hy (by assumption) ?_
      case hy => (intro w' hSw; go_simp)
      try simp only [List.setIfInBounds_toArray, List.set_cons_zero, List.set_cons_succ]
      refine takeG 2 (v := .pointer (some ⟨b1, o1 + k * 7, none⟩)) rfl (by kernel_rfl) (by kernel_rfl) (by kernel_rfl) (by kernel_rfl) (fun _ _ _ h => h) ?hy (by assumption) ?_
      case hy => (intro w' hSw; go_simp)
      try simp only [List.setIfInBounds_toArray, List.set_cons_zero, List.set_cons_succ]
      refine takeG 3 (v := .agg #[.int .i64 k1, .int .i64 k2, .int .i64 k3, .int .i64 k4, .int .i64 k5, .int .i64 k6, .slice p1 l.length e1]) rfl (by kernel_rfl) (by kernel_rfl) (by kernel_rfl) (by kernel_rfl) (fun _ _ _ h => h) ?hy (by assumption) ?_
      case hy => (intro w' hSw; have s0 := show w'.cell? ⟨b1, o1 + k * 7, none⟩ = some (.int .i64 k1) from (hSw.cell (p := ⟨b1, o1 + k * 7, none⟩) q1).trans u0; (try dsimp only at s0); have s1 := show w'.cell? ⟨b1, o1 + k * 7 + 1, none⟩ = some (.int .i64 k2) from (hSw.cell (p := ⟨b1, o1 + k * 7 + 1, none⟩) q1).trans u1; (try dsimp only at s1); have s2 := show w'.cell? ⟨b1, o1 + k * 7 + 2, none⟩ = some (.int .i64 k3) from (hSw.cell (p := ⟨b1, o1 + k * 7 + 2, none⟩) q1).trans u2; (try dsimp only at s2); have s3 := show w'.cell? ⟨b1, o1 + k * 7 + 3, none⟩ = some (.int .i64 k4) from (hSw.cell (p := ⟨b1, o1 + k * 7 + 3, none⟩) q1).trans u3; (try dsimp only at s3); have s4 := show w'.cell? ⟨b1, o1 + k * 7 + 4, none⟩ = some (.int .i64 k5) from (hSw.cell (p := ⟨b1, o1 + k * 7 + 4, none⟩) q1).trans u4; (try dsimp only at s4); have s5 := show w'.cell? ⟨b1, o1 + k * 7 + 5, none⟩ = some (.int .i64 k6) from (hSw.cell (p := ⟨b1, o1 + k * 7 + 5, none⟩) q1).trans u5; (try dsimp only at s5); have s6 := show w'.cell? ⟨b1, o1 + k * 7 + 6, none⟩ = some (.slice p1 l.length e1) from (hSw.cell (p := ⟨b1, o1 + k * 7 + 6, none⟩) q1).trans u6; (try dsimp only at s6); go_simp)
      try simp only [List.setIfInBounds_toArray, List.set_cons_zero, List.set_cons_succ]
      refine takeG 4 (v := .slice (some ⟨b2, o2, none⟩) ms.length c2) rfl (by kernel_rfl) (by kernel_rfl) (by kernel_rfl) (by kernel_rfl) (fun _ _ _ h => h) ?hy (by assumption) ?_
      case hy => (intro w' hSw; go_simp)
      try simp only [List.setIfInBounds_toArray, List.set_cons_zero, List.set_cons_succ]
      refine takeG 5 (v := .int .i64 (k : Int)) rfl (by kernel_rfl) (by kernel_rfl) (by kernel_rfl) (by kernel_rfl) (fun _ _ _ h => h) ?hy (by assumption) ?_
      case hy => (intro w' hSw; go_simp)
      try simp only [List.setIfInBounds_toArray, List.set_cons_zero, List.set_cons_succ]
      refine takeG 6 (v := .pointer (some ⟨b2, o2 + k * 7, none⟩)) rfl (by kernel_rfl) (by kernel_rfl) (by kernel_rfl) (by kernel_rfl) (fun _ _ _ h => h) ?hy (by assumption) ?_
      case hy => (intro w' hSw; go_simp)
      try simp only [List.setIfInBounds_toArray, List.set_cons_zero, List.set_cons_succ]
      refine takeG 7 (v := .agg #[.int .i64 k1, .int .i64 k2, .int .i64 k3, .int .i64 k4, .int .i64 k5, .int .i64 k6, .slice p2 l.length e2]) rfl (by kernel_rfl) (by kernel_rfl) (by kernel_rfl) (by kernel_rfl) (fun _ _ _ h => h) ?hy (by assumption) ?_
      case hy => (intro w' hSw; have s0 := show w'.cell? ⟨b2, o2 + k * 7, none⟩ = some (.int .i64 k1) from (hSw.cell (p := ⟨b2, o2 + k * 7, none⟩) q2).trans v0; (try dsimp only at s0); have s1 := show w'.cell? ⟨b2, o2 + k * 7 + 1, none⟩ = some (.int .i64 k2) from (hSw.cell (p := ⟨b2, o2 + k * 7 + 1, none⟩) q2).trans v1; (try dsimp only at s1); have s2 := show w'.cell? ⟨b2, o2 + k * 7 + 2, none⟩ = some (.int .i64 k3) from (hSw.cell (p := ⟨b2, o2 + k * 7 + 2, none⟩) q2).trans v2; (try dsimp only at s2); have s3 := show w'.cell? ⟨b2, o2 + k * 7 + 3, none⟩ = some (.int .i64 k4) from (hSw.cell (p := ⟨b2, o2 + k * 7 + 3, none⟩) q2).trans v3; (try dsimp only at s3); have s4 := show w'.cell? ⟨b2, o2 + k * 7 + 4, none⟩ = some (.int .i64 k5) from (hSw.cell (p := ⟨b2, o2 + k * 7 + 4, none⟩) q2).trans v4; (try dsimp only at s4); have s5 := show w'.cell? ⟨b2, o2 + k * 7 + 5, none⟩ = some (.int .i64 k6) from (hSw.cell (p := ⟨b2, o2 + k * 7 + 5, none⟩) q2).trans v5; (try dsimp only at s5); have s6 := show w'.cell? ⟨b2, o2 + k * 7 + 6, none⟩ = some (.slice p2 l.length e2) from (hSw.cell (p := ⟨b2, o2 + k * 7 + 6, none⟩) q2).trans v6; (try dsimp only at s6); go_simp)
      try simp only [List.setIfInBounds_toArray, List.set_cons_zero, List.set_cons_succ]
      refine runG 8 (by kernel_rfl) rfl (by kernel_rfl) ?_
      go_simp
      refine (eqMail_same k1 k2 k3 k4 k5 k6 p1 p2 e1 e2 l _ hfk ((hf1.keep hb).keep hHeld) ((hf2.keep hb).keep hHeld)).mono ?_
      rintro e y1 ⟨rfl, by1⟩
      have bX := hHeld.trans (by1.mono hHeld.size)
      clear hHeld by1
      refine ⟨bX, ?_⟩
      try simp only [Act.put, List.setIfInBounds_toArray, List.set_cons_zero, List.set_cons_succ]
      refine takeG 9 (v := .bool false) rfl (by kernel_rfl) (by kernel_rfl) (by kernel_rfl) (by kernel_rfl) (fun _ _ _ h => h) ?hy (by assumption) ?_
      case hy => (intro w' hSw; go_simp)
      try simp only [List.setIfInBounds_toArray, List.set_cons_zero, List.set_cons_succ]
      refine wpAnyH_done (by kernel_rfl) ?_ _
      have hb1 := hb.trans (bX.mono hb.size)
      clear u0 v0 u1 v1 u2 v2 u3 v3 u4 v4 u5 v5 u6 v6 bX
      go_wp2
      go_roundw
      case rel => exact ⟨k + 1, by omega, by go_num, hb1⟩
      case measure => simp [intOf]; omega
    · obtain rfl : k = ms.length := by omega
      go_wp2
      go_ret
      exact ⟨rfl, hb⟩
/-- What is left where mails are marked. -/
def markM : Nat → List MailA → List MailA
  | _, [] => []
  | k, m :: r => ⟨(k : Nat), (k + 1 : Nat), (k + 2 : Nat), (k + 3 : Nat), (k + 4 : Nat), (k + 5 : Nat), m.p, m.cap, markL m.l.length (k + 6)⟩ :: markM (k + 6 + 3 * m.l.length) r
def kM : Nat → List MailA → Nat
  | k, [] => k
  | k, m :: r => kM (k + 6 + 3 * m.l.length) r
def markedM (k : Nat) (m : MailA) : MailA := ⟨(k : Nat), (k + 1 : Nat), (k + 2 : Nat), (k + 3 : Nat), (k + 4 : Nat), (k + 5 : Nat), m.p, m.cap, markL m.l.length (k + 6)⟩
theorem markM_length (k : Nat) (ms : List MailA) : (markM k ms).length = ms.length := by
  induction ms generalizing k with
  | nil => rfl
  | cons m r ih => simp [markM, ih]
theorem kM_step (k : Nat) (ms : List MailA) (q : Nat) (hq : q < ms.length) : kM k (ms.take (q + 1)) = kM k (ms.take q) + 6 + 3 * ms[q].l.length := by
  induction ms generalizing k q with
  | nil => simp at hq
  | cons m r ih =>
    cases q with
    | zero => simp [kM]
    | succ q => simpa [kM] using ih (k + 6 + 3 * m.l.length) q (by simpa using hq)
theorem kM_le (k : Nat) (ms : List MailA) (q : Nat) : kM k (ms.take q) ≤ kM k ms ∧ k ≤ kM k (ms.take q) := by
  induction ms generalizing k q with
  | nil => simp [kM]
  | cons m r ih =>
    cases q with
    | zero =>
      have := (ih (k + 6 + 3 * m.l.length) r.length).2
      rw [List.take_length] at this
      simp [kM]
      omega
    | succ q =>
      have := ih (k + 6 + 3 * m.l.length) q
      simp [kM]
      omega
theorem markM_at (k : Nat) (ms : List MailA) (q : Nat) (hq : q < ms.length) : (markM k ms)[q]'(by rw [markM_length]; exact hq) = markedM (kM k (ms.take q)) ms[q] := by
  induction ms generalizing k q with
  | nil => simp at hq
  | cons m r ih =>
    cases q with
    | zero => simp [markM, kM, markedM]
    | succ q => simpa [markM, kM] using ih (k + 6 + 3 * m.l.length) q (by simpa using hq)
set_option maxHeartbeats 2000000 in
set_option maxRecDepth 100000 in
theorem heldMails_any (a : Option Addr) (cap k : Nat) (ms : List MailA) (w : World) (hl : ms.length ≤ 1048576) (hfl : ∀ i (h : i < ms.length), ms[i].l.length ≤ 1048576) (hk0 : 0 < k) (hk : kM k ms ≤ 90000000) (h1 : MailsAt w a (markM k ms)) :
    Calls Tryz.prog 121 #[.slice a ms.length cap, .int .i64 k] w fun e w' => e = .returned (.int .i64 (kM k ms : Nat)) ∧ Below w.heap.size w w' := by
  go_enter Tryz.func121, Tryz.ntmps121
  go_wp2
  go_loopw [5, 1] (fun i t wr => ∃ q : Nat, q ≤ ms.length ∧ i = .int .i64 q ∧ t = .int .i64 (kM k (ms.take q) : Nat) ∧ Below w.heap.size w wr) (fun i _ _ => ms.length - (intOf i).toNat)
  case atStart => exact ⟨0, Nat.zero_le _, rfl, rfl, Below.refl _ _⟩
  case round =>
    obtain ⟨q, hq, rfl, rfl, hb⟩ := hrel
    obtain ⟨X, rfl⟩ : ∃ X, X = wr := ⟨wr, rfl⟩
    by_cases hx : q < ms.length
    · have hxm : q < (markM k ms).length := by rw [markM_length]; exact hx
      have hlx := markM_at k ms q hx
      have hf := h1.facts q hxm
      have hfk := hfl q hx
      have R1 := h1.row
      obtain ⟨b1, o1, rfl⟩ := R1.addr (by rw [cellsOf_length MailA.cells_len, markM_length]; omega)
      replace R1 := R1.keep hb
      have HST : Hid (kM k (ms.take (q + 1)) = kM k (ms.take q) + 6 + 3 * ms[q].l.length) := kM_step k ms q hx
      have hKle := (kM_le k ms q).1
      have hKge := (kM_le k ms q).2
      obtain ⟨K, hKe⟩ : ∃ K, kM k (ms.take q) = K := ⟨_, rfl⟩
      obtain ⟨x, hxe⟩ : ∃ x, ms[q] = x := ⟨_, rfl⟩
      obtain ⟨j1, j2, j3, j4, j5, j6, p, e, l⟩ := x
      rw [hKe, hxe] at hlx HST
      rw [hKe] at hKle hKge ⊢
      rw [hlx] at hf
      rw [hxe] at hfk
      unfold markedM at hlx hf
      dsimp only at hlx hf hfk HST
      have hml : (markL l.length (K + 6)).length = l.length := markL_length _ _
      have u0 : X.cell? ⟨b1, o1 + q * 7, none⟩ = some (.int .i64 (K : Int)) := R1.thing0 MailA.cells_len (i := q) (v := .int .i64 (K : Int)) hxm (by omega) (by rw [hlx]; rfl)
      have u1 : X.cell? ⟨b1, o1 + q * 7 + 1, none⟩ = some (.int .i64 ((K : Int) + 1)) := R1.thingj MailA.cells_len (i := q) (j := 1) (v := .int .i64 ((K : Int) + 1)) hxm (by omega) (by rw [hlx]; simp only [MailA.cells, List.getElem?_cons_succ, List.getElem?_cons_zero]; exact congrArg (fun z => some (Value.int .i64 z)) (by omega))
      have u2 : X.cell? ⟨b1, o1 + q * 7 + 2, none⟩ = some (.int .i64 ((K : Int) + 1 + 1)) := R1.thingj MailA.cells_len (i := q) (j := 2) (v := .int .i64 ((K : Int) + 1 + 1)) hxm (by omega) (by rw [hlx]; simp only [MailA.cells, List.getElem?_cons_succ, List.getElem?_cons_zero]; exact congrArg (fun z => some (Value.int .i64 z)) (by omega))
      have u3 : X.cell? ⟨b1, o1 + q * 7 + 3, none⟩ = some (.int .i64 ((K : Int) + 1 + 1 + 1)) := R1.thingj MailA.cells_len (i := q) (j := 3) (v := .int .i64 ((K : Int) + 1 + 1 + 1)) hxm (by omega) (by rw [hlx]; simp only [MailA.cells, List.getElem?_cons_succ, List.getElem?_cons_zero]; exact congrArg (fun z => some (Value.int .i64 z)) (by omega))
      have u4 : X.cell? ⟨b1, o1 + q * 7 + 4, none⟩ = some (.int .i64 ((K : Int) + 1 + 1 + 1 + 1)) := R1.thingj MailA.cells_len (i := q) (j := 4) (v := .int .i64 ((K : Int) + 1 + 1 + 1 + 1)) hxm (by omega) (by rw [hlx]; simp only [MailA.cells, List.getElem?_cons_succ, List.getElem?_cons_zero]; exact congrArg (fun z => some (Value.int .i64 z)) (by omega))
      have u5 : X.cell? ⟨b1, o1 + q * 7 + 5, none⟩ = some (.int .i64 ((K : Int) + 1 + 1 + 1 + 1 + 1)) := R1.thingj MailA.cells_len (i := q) (j := 5) (v := .int .i64 ((K : Int) + 1 + 1 + 1 + 1 + 1)) hxm (by omega) (by rw [hlx]; simp only [MailA.cells, List.getElem?_cons_succ, List.getElem?_cons_zero]; exact congrArg (fun z => some (Value.int .i64 z)) (by omega))
      have u6 : X.cell? ⟨b1, o1 + q * 7 + 6, none⟩ = some (.slice p l.length e) := R1.thingj MailA.cells_len (i := q) (j := 6) (v := .slice p l.length e) hxm (by omega) (by rw [hlx]; simp [MailA.cells, markL_length])
      have w1 : IntKind.i64.wrap ((K : Int) + 1) = (K : Int) + 1 := by rw [IntKind.wrap_i64]; omega
      have w2 : IntKind.i64.wrap ((K : Int) + 1 + 1) = (K : Int) + 1 + 1 := by rw [IntKind.wrap_i64]; omega
      have w3 : IntKind.i64.wrap ((K : Int) + 1 + 1 + 1) = (K : Int) + 1 + 1 + 1 := by rw [IntKind.wrap_i64]; omega
      have w4 : IntKind.i64.wrap ((K : Int) + 1 + 1 + 1 + 1) = (K : Int) + 1 + 1 + 1 + 1 := by rw [IntKind.wrap_i64]; omega
      have w5 : IntKind.i64.wrap ((K : Int) + 1 + 1 + 1 + 1 + 1) = (K : Int) + 1 + 1 + 1 + 1 + 1 := by rw [IntKind.wrap_i64]; omega
      have w6 : IntKind.i64.wrap ((K : Int) + 1 + 1 + 1 + 1 + 1 + 1) = (K : Int) + 1 + 1 + 1 + 1 + 1 + 1 := by rw [IntKind.wrap_i64]; omega
      have hx' : (q : Int) < (ms.length : Int) := by omega
      have HXE : Hid (ms[q].l.length = l.length) := by show _ = _; rw [hxe]
      clear R1 hlx hxe hKe h1 hfl hml
      go_wp2_with fail
      refine (heldF_any p l.length e (K + 6) _ hfk (by omega) (by omega) (hf.keep hb)).mono ?_
      rintro e1 y1 ⟨rfl, by1⟩
      have hb1 := hb.trans (by1.mono hb.size)
      clear u0 u1 u2 u3 u4 u5 u6 by1
      have hpos : ¬ ((K + 6 + 3 * l.length : Nat) : Int) < 0 := by omega
      go_wp2
      go_roundw
      case rel => exact ⟨q + 1, by omega, by go_num, by rw [HST.out]; exact congrArg (Value.int .i64) (by omega), hb1⟩
      case measure => simp [intOf]; omega
    · obtain rfl : q = ms.length := by omega
      rw [List.take_length]
      go_wp2
      go_ret
      exact ⟨rfl, hb⟩
def slM (m : MailA) : Value := .slice m.p m.l.length m.cap
/-- A row of mails of one's own: no two lists of it in one block. -/
structure OwnMails (w : World) (lo : Nat) (v : Value) (ms : List MailA) : Prop where
  row : ∃ a cap, v = .slice a ms.length cap ∧ OwnCells w lo a (cellsOf MailA.cells ms) ∧ (a = none ∨ ∃ g, a = some ⟨g, 0, none⟩)
  facts : ∀ i (h : i < ms.length), OwnSl w lo (slM ms[i]) ms[i].l
  apart : ∀ i (h : i < ms.length) g, (slM ms[i]).ownBlock = some g → ms[i].l.length = 0 ∨ v.ownBlock ≠ some g
  apart2 : ∀ i j (hi : i < ms.length) (hj : j < ms.length), i ≠ j → ∀ g, (slM ms[i]).ownBlock = some g → (slM ms[j]).ownBlock = some g → ms[i].l.length = 0 ∨ ms[j].l.length = 0
/-- What marks leave alone. -/
def offM (v : Value) (ms : List MailA) (g : Nat) : Prop := blkOf v ms.length g ∧ ∀ i (h : i < ms.length), blkOf (slM ms[i]) ms[i].l.length g
def curM (k : Nat) (ms : List MailA) (q : Nat) : List MailA := markM k (ms.take q) ++ ms.drop q
theorem markM_snoc (k : Nat) (ms : List MailA) (m : MailA) : markM k (ms ++ [m]) = markM k ms ++ [markedM (kM k ms) m] := by
  induction ms generalizing k with
  | nil => simp [markM, kM, markedM]
  | cons x r ih => simp [markM, kM, ih]
theorem curM_length (k : Nat) (ms : List MailA) (q : Nat) (hq : q ≤ ms.length) : (curM k ms q).length = ms.length := by
  unfold curM
  rw [List.length_append, markM_length, List.length_take, List.length_drop]
  omega
theorem curM_at (k : Nat) (ms : List MailA) (q : Nat) (hq : q < ms.length) : (curM k ms q)[q]'(by rw [curM_length k ms q (by omega)]; exact hq) = ms[q] := by
  have h1 : (markM k (ms.take q)).length = q := by rw [markM_length, List.length_take]; omega
  unfold curM
  rw [List.getElem_append_right (by omega)]
  simp [h1]
theorem curM_set (k : Nat) (ms : List MailA) (q : Nat) (hq : q < ms.length) : (curM k ms q).set q (markedM (kM k (ms.take q)) ms[q]) = curM k ms (q + 1) := by
  have h1 : (markM k (ms.take q)).length = q := by rw [markM_length, List.length_take]; omega
  unfold curM
  rw [List.set_append_right _ _ (by omega), h1, Nat.sub_self, List.drop_eq_getElem_cons hq, List.set_cons_zero, List.take_succ_eq_append_getElem hq, markM_snoc, List.append_assoc]
  rfl
theorem set_six {X Y : List Value} {a b c d e f g h i j k l : Value} {n : Nat} (hn : X.length = n) : ((((((X ++ a :: b :: c :: d :: e :: f :: Y).set n g).set (n + 1) h).set (n + 2) i).set (n + 3) j).set (n + 4) k).set (n + 5) l = X ++ g :: h :: i :: j :: k :: l :: Y := by
  subst hn
  rw [List.set_append_right _ _ (Nat.le_refl _), List.set_append_right _ _ (by omega), List.set_append_right _ _ (by omega), List.set_append_right _ _ (by omega), List.set_append_right _ _ (by omega), List.set_append_right _ _ (by omega)]
  simp
theorem cellsOf_setM {L : List MailA} {q K : Nat} (hq : q < L.length) : cellsOf MailA.cells (L.set q (markedM K L[q])) = ((((((cellsOf MailA.cells L).set (q * 7) (.int .i64 (K : Int))).set (q * 7 + 1) (.int .i64 ((K : Int) + 1))).set (q * 7 + 2) (.int .i64 ((K : Int) + 1 + 1))).set (q * 7 + 3) (.int .i64 ((K : Int) + 1 + 1 + 1))).set (q * 7 + 4) (.int .i64 ((K : Int) + 1 + 1 + 1 + 1))).set (q * 7 + 5) (.int .i64 ((K : Int) + 1 + 1 + 1 + 1 + 1)) := by
  obtain ⟨a, y, b, rfl, ha⟩ : ∃ a y b, L = a ++ y :: b ∧ a.length = q := ⟨L.take q, L[q], L.drop (q + 1), by rw [← List.drop_eq_getElem_cons hq, List.take_append_drop], by rw [List.length_take]; omega⟩
  subst ha
  have hy : (a ++ y :: b)[a.length]'hq = y := by simp
  rw [hy]
  have hl : (cellsOf MailA.cells a).length = a.length * 7 := cellsOf_length MailA.cells_len a
  have e1 : cellsOf MailA.cells (a ++ y :: b) = cellsOf MailA.cells a ++ .int .i64 y.k :: .int .i64 y.f :: .int .i64 y.t :: .int .i64 y.n :: .int .i64 y.a :: .int .i64 y.r :: (.slice y.p y.l.length y.cap :: cellsOf MailA.cells b) := by
    rw [cellsOf_append]; rfl
  rw [e1, set_six hl, List.set_append_right _ _ (Nat.le_refl _)]
  simp only [Nat.sub_self, List.set_cons_zero]
  rw [cellsOf_append]
  have e2 : cellsOf MailA.cells (markedM K y :: b) = (markedM K y).cells ++ cellsOf MailA.cells b := by simp [cellsOf]
  rw [e2]
  have e3 : (markedM K y).cells = [.int .i64 (K : Int), .int .i64 ((K : Int) + 1), .int .i64 ((K : Int) + 1 + 1), .int .i64 ((K : Int) + 1 + 1 + 1), .int .i64 ((K : Int) + 1 + 1 + 1 + 1), .int .i64 ((K : Int) + 1 + 1 + 1 + 1 + 1), .slice y.p y.l.length y.cap] := by
    unfold markedM MailA.cells
    dsimp only
    rw [markL_length]
    simp only [Int.natCast_add, Int.natCast_one, List.cons.injEq, Value.int.injEq, true_and, and_true]
    refine ⟨?_, ?_, ?_, ?_⟩ <;> omega
  rw [e3]
  rfl
theorem OwnCells.keepAt {w w' : World} {lo b : Nat} {cs : List Value} (h : OwnCells w lo (some ⟨b, 0, none⟩) cs) {G : Nat → Prop} (k : Keeps G w w') (hg : G b) : OwnCells w' lo (some ⟨b, 0, none⟩) cs := by
  rcases h with h | ⟨q, off, e, hlo, hlt, hc, hf⟩
  · exact .inl h
  · simp only [Option.some.injEq, Addr.mk.injEq, and_true] at e
    obtain ⟨rfl, rfl⟩ := e
    exact .inr ⟨b, 0, rfl, hlo, Nat.lt_of_lt_of_le hlt k.size, fun i hi => (k.cell (p := ⟨b, 0 + i, none⟩) hlt hg).trans (hc i hi), fun i hi => (k.frozen (p := ⟨b, 0 + i, none⟩) hlt hg).trans (hf i hi)⟩
theorem OwnSl.empty {w w' : World} {base : Nat} {v : Value} {l : List FactV} (h : OwnSl w base v l) (h0 : l.length = 0) : OwnSl w' base v l := by
  obtain ⟨a, cap, e, _, hz⟩ := h
  obtain rfl := List.eq_nil_of_length_eq_zero h0
  exact ⟨a, cap, e, .inl rfl, hz⟩
/-- The facts of mail i, when q mails are marked. -/
def atM (k : Nat) (ms : List MailA) (q i : Nat) (h : i < ms.length) : List FactV := if i < q then markL ms[i].l.length (kM k (ms.take i) + 6) else ms[i].l
theorem atM_length (k : Nat) (ms : List MailA) (q i : Nat) (h : i < ms.length) : (atM k ms q i h).length = ms[i].l.length := by
  unfold atM
  split
  · exact markL_length _ _
  · rfl
set_option maxHeartbeats 4000000 in
set_option maxRecDepth 100000 in
theorem markMails_some (lo b cap k : Nat) (ms : List MailA) (w : World) (hne : 0 < ms.length) (hl : ms.length ≤ 1048576) (hfl : ∀ i (h : i < ms.length), ms[i].l.length ≤ 1048576) (hk0 : 0 < k) (hk : kM k ms ≤ 90000000) (ho : OwnMails w lo (.slice (some ⟨b, 0, none⟩) ms.length cap) ms) :
    Calls Tryz.prog 119 #[.slice (some ⟨b, 0, none⟩) ms.length cap, .int .i64 k] w fun e w' => e = .returned (.int .i64 (kM k ms : Nat)) ∧ OwnMails w' lo (.slice (some ⟨b, 0, none⟩) ms.length cap) (markM k ms) ∧ Keeps (offM (.slice (some ⟨b, 0, none⟩) ms.length cap) ms) w w' := by
  obtain ⟨⟨a, cp, e, hrow, _⟩, hfacts, hap, hap2⟩ := ho
  simp only [Value.slice.injEq] at e
  obtain ⟨rfl, _, rfl⟩ := e
  have HAP : Hid (∀ i (h : i < ms.length) g, (slM ms[i]).ownBlock = some g → ms[i].l.length = 0 ∨ g ≠ b) := fun i h g hg => (hap i h g hg).imp id (fun h2 e => h2 (by rw [e]; rfl))
  have HAP0 : Hid (∀ i (h : i < ms.length) g, (slM ms[i]).ownBlock = some g → ms[i].l.length = 0 ∨ Value.ownBlock (.slice (some ⟨b, 0, none⟩) ms.length cap) ≠ some g) := hap
  have HAP2 : Hid (∀ i j (hi : i < ms.length) (hj : j < ms.length), i ≠ j → ∀ g, (slM ms[i]).ownBlock = some g → (slM ms[j]).ownBlock = some g → ms[i].l.length = 0 ∨ ms[j].l.length = 0) := hap2
  have HOFF : Hid (¬ offM (.slice (some ⟨b, 0, none⟩) ms.length cap) ms b) := fun h => h.1.elim (fun h => by omega) (fun h => h rfl)
  clear hap hap2
  go_enter Tryz.func119, Tryz.ntmps119
  go_wp2
  go_loopw [5, 1] (fun i t wr => ∃ q : Nat, q ≤ ms.length ∧ i = .int .i64 q ∧ t = .int .i64 (kM k (ms.take q) : Nat) ∧ OwnCells wr lo (some ⟨b, 0, none⟩) (cellsOf MailA.cells (curM k ms q)) ∧ (∀ i (h : i < ms.length), OwnSl wr lo (slM ms[i]) (atM k ms q i h)) ∧ Keeps (offM (.slice (some ⟨b, 0, none⟩) ms.length cap) ms) w wr) (fun i _ _ => ms.length - (intOf i).toNat)
  case atStart => exact ⟨0, Nat.zero_le _, rfl, rfl, by simpa [curM, markM] using hrow, fun i h => by unfold atM; rw [if_neg (by omega)]; exact hfacts i h, Keeps.refl _ _⟩
  case round =>
    obtain ⟨q, hq, rfl, rfl, hO, hF, hK⟩ := hrel
    obtain ⟨X, rfl⟩ : ∃ X, X = wr := ⟨wr, rfl⟩
    clear hrow hfacts
    by_cases hx : q < ms.length
    · have HST : Hid (kM k (ms.take (q + 1)) = kM k (ms.take q) + 6 + 3 * ms[q].l.length) := kM_step k ms q hx
      have hKle := (kM_le k ms q).1
      have hKge := (kM_le k ms q).2
      have hfk := hfl q hx
      have HC := cellsOf_setM (L := curM k ms q) (q := q) (K := kM k (ms.take q)) (by rw [curM_length k ms q hq]; exact hx)
      rw [curM_at k ms q hx, curM_set k ms q hx] at HC
      have hLl : (cellsOf MailA.cells (curM k ms q)).length = ms.length * 7 := by rw [cellsOf_length MailA.cells_len, curM_length k ms q hq]
      obtain ⟨K, hKe⟩ : ∃ K, kM k (ms.take q) = K := ⟨_, rfl⟩
      obtain ⟨L, hLe⟩ : ∃ L, cellsOf MailA.cells (curM k ms q) = L := ⟨_, rfl⟩
      rw [hLe] at hO HC hLl
      rw [hKe] at HC HST hKle hKge ⊢
      have HCH : Hid (_ = _) := HC
      have HKE : Hid (kM k (ms.take q) = K) := hKe
      have HFQ := hF q hx
      have HFQ0 : atM k ms q q hx = ms[q].l := by unfold atM; rw [if_neg (by omega)]
      rw [HFQ0] at HFQ
      obtain ⟨m, hm⟩ : ∃ m, ms[q] = m := ⟨_, rfl⟩
      rw [hm] at hfk HST HFQ
      have HM : Hid (ms[q] = m) := hm
      have hx' : (q : Int) < (ms.length : Int) := by omega
      have w1 : IntKind.i64.wrap ((K : Int) + 1) = (K : Int) + 1 := by rw [IntKind.wrap_i64]; omega
      have w2 : IntKind.i64.wrap ((K : Int) + 1 + 1) = (K : Int) + 1 + 1 := by rw [IntKind.wrap_i64]; omega
      have w3 : IntKind.i64.wrap ((K : Int) + 1 + 1 + 1) = (K : Int) + 1 + 1 + 1 := by rw [IntKind.wrap_i64]; omega
      have w4 : IntKind.i64.wrap ((K : Int) + 1 + 1 + 1 + 1) = (K : Int) + 1 + 1 + 1 + 1 := by rw [IntKind.wrap_i64]; omega
      have w5 : IntKind.i64.wrap ((K : Int) + 1 + 1 + 1 + 1 + 1) = (K : Int) + 1 + 1 + 1 + 1 + 1 := by rw [IntKind.wrap_i64]; omega
      have w6 : IntKind.i64.wrap ((K : Int) + 1 + 1 + 1 + 1 + 1 + 1) = (K : Int) + 1 + 1 + 1 + 1 + 1 + 1 := by rw [IntKind.wrap_i64]; omega
      clear HC hKe hLe HFQ0 hm
      obtain ⟨c0, f0⟩ := hO.at0 (n := q * 7) (by (try simp only [List.length_set]); omega)
      obtain ⟨t0, ht0⟩ : ∃ t, (L)[q * 7]'(by (try simp only [List.length_set]); omega) = t := ⟨_, rfl⟩
      rw [ht0] at c0
      go_upto_region 6 with fail
      have K1 : Keeps (fun q => q ≠ b) X (X.setCell ⟨b, q * 7, none⟩ (.int .i64 (K : Int))) := (Keeps.refl _ _).setCell (fun h => h rfl) _
      replace hO := hO.put0 (n := q * 7) (.int .i64 (K : Int)) (by (try simp only [List.length_set]); omega)
      replace hK := hK.setCell (p := ⟨b, q * 7, none⟩) HOFF.out (.int .i64 (K : Int))
      obtain ⟨X0, hX0⟩ : ∃ Y, X.setCell ⟨b, q * 7, none⟩ (.int .i64 (K : Int)) = Y := ⟨_, rfl⟩
      rw [hX0] at hO hK K1 ⊢
      have KK0 : Keeps (fun q => q ≠ b) X X0 := K1
      clear hX0 c0 f0 t0 ht0 K1
      obtain ⟨c0, f0⟩ := hO.at0 (n := q * 7 + 1) (by (try simp only [List.length_set]); omega)
      obtain ⟨t0, ht0⟩ : ∃ t, ((L).set (q * 7) (.int .i64 (K : Int)))[q * 7 + 1]'(by (try simp only [List.length_set]); omega) = t := ⟨_, rfl⟩
      rw [ht0] at c0
      go_upto_region 8 with fail
      have K1 : Keeps (fun q => q ≠ b) X0 (X0.setCell ⟨b, q * 7 + 1, none⟩ (.int .i64 ((K : Int) + 1))) := (Keeps.refl _ _).setCell (fun h => h rfl) _
      replace hO := hO.put0 (n := q * 7 + 1) (.int .i64 ((K : Int) + 1)) (by (try simp only [List.length_set]); omega)
      replace hK := hK.setCell (p := ⟨b, q * 7 + 1, none⟩) HOFF.out (.int .i64 ((K : Int) + 1))
      obtain ⟨X1, hX1⟩ : ∃ Y, X0.setCell ⟨b, q * 7 + 1, none⟩ (.int .i64 ((K : Int) + 1)) = Y := ⟨_, rfl⟩
      rw [hX1] at hO hK K1 ⊢
      have KK1 : Keeps (fun q => q ≠ b) X X1 := KK0.trans K1
      clear hX1 c0 f0 t0 ht0 K1 KK0
      obtain ⟨c0, f0⟩ := hO.at0 (n := q * 7 + 2) (by (try simp only [List.length_set]); omega)
      obtain ⟨t0, ht0⟩ : ∃ t, (((L).set (q * 7) (.int .i64 (K : Int))).set (q * 7 + 1) (.int .i64 ((K : Int) + 1)))[q * 7 + 2]'(by (try simp only [List.length_set]); omega) = t := ⟨_, rfl⟩
      rw [ht0] at c0
      go_upto_region 10 with fail
      have K1 : Keeps (fun q => q ≠ b) X1 (X1.setCell ⟨b, q * 7 + 2, none⟩ (.int .i64 ((K : Int) + 1 + 1))) := (Keeps.refl _ _).setCell (fun h => h rfl) _
      replace hO := hO.put0 (n := q * 7 + 2) (.int .i64 ((K : Int) + 1 + 1)) (by (try simp only [List.length_set]); omega)
      replace hK := hK.setCell (p := ⟨b, q * 7 + 2, none⟩) HOFF.out (.int .i64 ((K : Int) + 1 + 1))
      obtain ⟨X2, hX2⟩ : ∃ Y, X1.setCell ⟨b, q * 7 + 2, none⟩ (.int .i64 ((K : Int) + 1 + 1)) = Y := ⟨_, rfl⟩
      rw [hX2] at hO hK K1 ⊢
      have KK2 : Keeps (fun q => q ≠ b) X X2 := KK1.trans K1
      clear hX2 c0 f0 t0 ht0 K1 KK1
      obtain ⟨c0, f0⟩ := hO.at0 (n := q * 7 + 3) (by (try simp only [List.length_set]); omega)
      obtain ⟨t0, ht0⟩ : ∃ t, ((((L).set (q * 7) (.int .i64 (K : Int))).set (q * 7 + 1) (.int .i64 ((K : Int) + 1))).set (q * 7 + 2) (.int .i64 ((K : Int) + 1 + 1)))[q * 7 + 3]'(by (try simp only [List.length_set]); omega) = t := ⟨_, rfl⟩
      rw [ht0] at c0
      go_upto_region 12 with fail
      have K1 : Keeps (fun q => q ≠ b) X2 (X2.setCell ⟨b, q * 7 + 3, none⟩ (.int .i64 ((K : Int) + 1 + 1 + 1))) := (Keeps.refl _ _).setCell (fun h => h rfl) _
      replace hO := hO.put0 (n := q * 7 + 3) (.int .i64 ((K : Int) + 1 + 1 + 1)) (by (try simp only [List.length_set]); omega)
      replace hK := hK.setCell (p := ⟨b, q * 7 + 3, none⟩) HOFF.out (.int .i64 ((K : Int) + 1 + 1 + 1))
      obtain ⟨X3, hX3⟩ : ∃ Y, X2.setCell ⟨b, q * 7 + 3, none⟩ (.int .i64 ((K : Int) + 1 + 1 + 1)) = Y := ⟨_, rfl⟩
      rw [hX3] at hO hK K1 ⊢
      have KK3 : Keeps (fun q => q ≠ b) X X3 := KK2.trans K1
      clear hX3 c0 f0 t0 ht0 K1 KK2
      obtain ⟨c0, f0⟩ := hO.at0 (n := q * 7 + 4) (by (try simp only [List.length_set]); omega)
      obtain ⟨t0, ht0⟩ : ∃ t, (((((L).set (q * 7) (.int .i64 (K : Int))).set (q * 7 + 1) (.int .i64 ((K : Int) + 1))).set (q * 7 + 2) (.int .i64 ((K : Int) + 1 + 1))).set (q * 7 + 3) (.int .i64 ((K : Int) + 1 + 1 + 1)))[q * 7 + 4]'(by (try simp only [List.length_set]); omega) = t := ⟨_, rfl⟩
      rw [ht0] at c0
      go_upto_region 14 with fail
      have K1 : Keeps (fun q => q ≠ b) X3 (X3.setCell ⟨b, q * 7 + 4, none⟩ (.int .i64 ((K : Int) + 1 + 1 + 1 + 1))) := (Keeps.refl _ _).setCell (fun h => h rfl) _
      replace hO := hO.put0 (n := q * 7 + 4) (.int .i64 ((K : Int) + 1 + 1 + 1 + 1)) (by (try simp only [List.length_set]); omega)
      replace hK := hK.setCell (p := ⟨b, q * 7 + 4, none⟩) HOFF.out (.int .i64 ((K : Int) + 1 + 1 + 1 + 1))
      obtain ⟨X4, hX4⟩ : ∃ Y, X3.setCell ⟨b, q * 7 + 4, none⟩ (.int .i64 ((K : Int) + 1 + 1 + 1 + 1)) = Y := ⟨_, rfl⟩
      rw [hX4] at hO hK K1 ⊢
      have KK4 : Keeps (fun q => q ≠ b) X X4 := KK3.trans K1
      clear hX4 c0 f0 t0 ht0 K1 KK3
      obtain ⟨c0, f0⟩ := hO.at0 (n := q * 7 + 5) (by (try simp only [List.length_set]); omega)
      obtain ⟨t0, ht0⟩ : ∃ t, ((((((L).set (q * 7) (.int .i64 (K : Int))).set (q * 7 + 1) (.int .i64 ((K : Int) + 1))).set (q * 7 + 2) (.int .i64 ((K : Int) + 1 + 1))).set (q * 7 + 3) (.int .i64 ((K : Int) + 1 + 1 + 1))).set (q * 7 + 4) (.int .i64 ((K : Int) + 1 + 1 + 1 + 1)))[q * 7 + 5]'(by (try simp only [List.length_set]); omega) = t := ⟨_, rfl⟩
      rw [ht0] at c0
      go_upto_region 16 with fail
      have K1 : Keeps (fun q => q ≠ b) X4 (X4.setCell ⟨b, q * 7 + 5, none⟩ (.int .i64 ((K : Int) + 1 + 1 + 1 + 1 + 1))) := (Keeps.refl _ _).setCell (fun h => h rfl) _
      replace hO := hO.put0 (n := q * 7 + 5) (.int .i64 ((K : Int) + 1 + 1 + 1 + 1 + 1)) (by (try simp only [List.length_set]); omega)
      replace hK := hK.setCell (p := ⟨b, q * 7 + 5, none⟩) HOFF.out (.int .i64 ((K : Int) + 1 + 1 + 1 + 1 + 1))
      obtain ⟨X5, hX5⟩ : ∃ Y, X4.setCell ⟨b, q * 7 + 5, none⟩ (.int .i64 ((K : Int) + 1 + 1 + 1 + 1 + 1)) = Y := ⟨_, rfl⟩
      rw [hX5] at hO hK K1 ⊢
      have KK5 : Keeps (fun q => q ≠ b) X X5 := KK4.trans K1
      clear hX5 c0 f0 t0 ht0 K1 KK4
      rw [← HCH.out] at hO
      clear HCH
      have hF2 : ∀ i (h : i < ms.length), OwnSl X5 lo (slM ms[i]) (atM k ms q i h) := fun i h => by
        by_cases h0 : ms[i].l.length = 0
        · exact (hF i h).empty (by rw [atM_length]; exact h0)
        · exact (hF i h).keepK KK5 (fun g hg => (HAP.out i h g hg).resolve_left h0)
      have HFQ2 : OwnSl X5 lo (slM m) m.l := by
        by_cases h0 : m.l.length = 0
        · exact HFQ.empty h0
        · exact HFQ.keepK KK5 (fun g hg => (HAP.out q hx g (by rw [HM.out]; exact hg)).resolve_left (by rw [HM.out]; exact h0))
      have c6 : X5.cell? ⟨b, q * 7 + 6, none⟩ = some (slM m) := by
        obtain ⟨c, _⟩ := hO.at0 (n := q * 7 + 6) (by rw [cellsOf_length MailA.cells_len, curM_length k ms (q + 1) hx]; omega)
        rw [c]
        congr 1
        have hlen : (curM k ms (q + 1)).length = ms.length := curM_length k ms (q + 1) hx
        have := cellsOf_at MailA.cells_len (curM k ms (q + 1)) q 6 (by rw [hlen]; exact hx) (by omega)
        rw [List.getElem?_eq_getElem (by rw [cellsOf_length MailA.cells_len, hlen]; omega)] at this
        have e2 : (curM k ms (q + 1))[q]'(by rw [hlen]; exact hx) = markedM K m := by
          have e3 := curM_set k ms q hx
          rw [HKE.out, HM.out] at e3
          simp only [← e3]
          simp
        rw [e2] at this
        simpa [MailA.cells, slM, markedM, markL_length] using this
      clear hF HFQ KK5
      unfold slM at c6
      go_wp2_with fail
      refine (markF_any lo (slM m) m.l (K + 6) _ hfk (by omega) (by omega) HFQ2).mono ?_
      rintro e1 Y ⟨rfl, oy, ky⟩
      have HOY : Hid (OwnSl Y lo (slM m) (markL m.l.length (K + 6))) := oy
      have HO2 : Hid (OwnCells Y lo (some ⟨b, 0, none⟩) (cellsOf MailA.cells (curM k ms (q + 1)))) := by
        refine hO.keepAt ky ?_
        by_cases h0 : m.l.length = 0
        · exact .inl h0
        · exact .inr (fun hg => (HAP.out q hx b (by rw [HM.out]; exact hg)).elim (fun h => h0 (by rw [HM.out] at h; exact h)) (fun h => h rfl))
      have HF3 : Hid (∀ i (h : i < ms.length), OwnSl Y lo (slM ms[i]) (atM k ms (q + 1) i h)) := fun i h => by
        by_cases e : i = q
        · subst e
          unfold atM
          rw [if_pos (by omega), HKE.out, HM.out]
          exact HOY.out
        · have ea : atM k ms (q + 1) i h = atM k ms q i h := by
            unfold atM
            by_cases h1 : i < q
            · rw [if_pos h1, if_pos (by omega)]
            · rw [if_neg h1, if_neg (by omega)]
          rw [ea]
          by_cases h0 : ms[i].l.length = 0
          · exact (hF2 i h).empty (by rw [atM_length]; exact h0)
          · refine (hF2 i h).keepB ky (fun g hg => ?_)
            by_cases h1 : m.l.length = 0
            · exact .inl h1
            · exact .inr (fun hg2 => (HAP2.out i q h hx e g hg (by rw [HM.out]; exact hg2)).elim h0 (fun h => h1 (by rw [HM.out] at h; exact h)))
      have HK2 : Hid (Keeps (offM (.slice (some ⟨b, 0, none⟩) ms.length cap) ms) w Y) := hK.trans (ky.mono (fun g _ hg => by have := hg.2 q hx; rw [HM.out] at this; exact this))
      clear hO hF2 HFQ2 c6 oy ky hK
      go_wp2
      go_roundw
      case rel => exact ⟨q + 1, by omega, by go_num, by rw [HST.out]; exact congrArg (Value.int .i64) (by omega), HO2.out, HF3.out, HK2.out⟩
      case measure => simp [intOf]; omega
    · obtain rfl : q = ms.length := by omega
      have hcm : curM k ms ms.length = markM k ms := by unfold curM; rw [List.take_length, List.drop_length, List.append_nil]
      rw [hcm] at hO
      rw [List.take_length]
      have HEND : Hid (OwnMails X lo (.slice (some ⟨b, 0, none⟩) ms.length cap) (markM k ms)) := by
        have hat : ∀ i (h : i < (markM k ms).length), slM (markM k ms)[i] = slM (ms[i]'(by rw [markM_length] at h; exact h)) ∧ (markM k ms)[i].l = markL (ms[i]'(by rw [markM_length] at h; exact h)).l.length (kM k (ms.take i) + 6) := fun i h => by
          rw [markM_length] at h
          rw [markM_at k ms i h]
          simp [markedM, slM, markL_length]
        refine ⟨⟨_, cap, by rw [markM_length], hO, .inr ⟨b, rfl⟩⟩, fun i h => ?_, fun i h g hg => ?_, fun i j hi hj hij g hg hg2 => ?_⟩
        · have h2 := hF i (by rw [markM_length] at h; exact h)
          unfold atM at h2
          rw [if_pos (by rw [markM_length] at h; exact h)] at h2
          rw [(hat i h).1, (hat i h).2]
          exact h2
        · rw [(hat i h).1] at hg
          rw [(hat i h).2, markL_length]
          exact HAP0.out i (by rw [markM_length] at h; exact h) g hg
        · rw [(hat i hi).1] at hg
          rw [(hat j hj).1] at hg2
          rw [(hat i hi).2, (hat j hj).2, markL_length, markL_length]
          exact HAP2.out i j (by rw [markM_length] at hi; exact hi) (by rw [markM_length] at hj; exact hj) hij g hg hg2
      clear hO hF
      go_wp2
      go_ret
      exact ⟨rfl, HEND.out, hK⟩
end Go.Proofs.YtmdcankfjmkkeaaGreat
