/- The contract of the program's MailRight: the kinds behind their interface. -/
import Derived.Test.YtpjdkgcdkfmkiaaDoorMRightI
namespace Go.Proofs.YtpjdkgcdkfmkiaaDoor
open Go Go.RowKit
set_option linter.unusedVariables false
set_option linter.unusedSimpArgs false

theorem saidOf_ping (f t n a r : Int) (p : Option Addr) (cap : Nat) (l : List FactV) (w : World) : Calls Tryd.prog 31 #[.agg #[.int .i64 1, .int .i64 f, .int .i64 t, .int .i64 n, .int .i64 a, .int .i64 r, .slice p l.length cap]] w fun e w' => e = .returned (.iface 95 (.agg #[.int .i64 1, .int .i64 f, .int .i64 t, .int .i64 n, .int .i64 a, .int .i64 r, .slice p l.length cap])) ∧ Below w.heap.size w w' := by
  have b1 := (Below.refl w.heap.size w).alloc (Nat.le_refl _) (.cells #[.int .i64 1, .int .i64 f, .int .i64 t, .int .i64 n, .int .i64 a, .int .i64 r, .slice p l.length cap] 25)
  go_enter Tryd.func31, Tryd.ntmps31
  go_wp2
  go_ret
  exact ⟨rfl, b1⟩
theorem factsMost_ping (v : Value) (w : World) : Calls Tryd.prog 34 #[.iface 95 v] w fun e w' => e = .returned (.int .i64 3) ∧ w = w' := by
  have asping : (Instr.typeAssert (.iface 95 v) 61 95 true).run Tryd.prog w = .ok (.tuple #[v, .bool true]) w := by kernel_rfl
  have asack : (Instr.typeAssert (.iface 95 v) 61 96 true).run Tryd.prog w = .ok (.tuple #[.agg #[.int .i64 0, .int .i64 0, .int .i64 0, .int .i64 0, .int .i64 0, .int .i64 0, .slice none 0 0], .bool false]) w := by kernel_rfl
  have asask : (Instr.typeAssert (.iface 95 v) 61 97 true).run Tryd.prog w = .ok (.tuple #[.agg #[.int .i64 0, .int .i64 0, .int .i64 0, .int .i64 0, .int .i64 0, .int .i64 0, .slice none 0 0], .bool false]) w := by kernel_rfl
  have assync : (Instr.typeAssert (.iface 95 v) 61 98 true).run Tryd.prog w = .ok (.tuple #[.agg #[.int .i64 0, .int .i64 0, .int .i64 0, .int .i64 0, .int .i64 0, .int .i64 0, .slice none 0 0], .bool false]) w := by kernel_rfl
  have astell : (Instr.typeAssert (.iface 95 v) 61 99 true).run Tryd.prog w = .ok (.tuple #[.agg #[.int .i64 0, .int .i64 0, .int .i64 0, .int .i64 0, .int .i64 0, .int .i64 0, .slice none 0 0], .bool false]) w := by kernel_rfl
  go_enter Tryd.func34, Tryd.ntmps34
  go_wp2
  go_ret
  exact ⟨rfl, rfl⟩

theorem saidOf_ack (f t n a r : Int) (p : Option Addr) (cap : Nat) (l : List FactV) (w : World) : Calls Tryd.prog 31 #[.agg #[.int .i64 2, .int .i64 f, .int .i64 t, .int .i64 n, .int .i64 a, .int .i64 r, .slice p l.length cap]] w fun e w' => e = .returned (.iface 96 (.agg #[.int .i64 2, .int .i64 f, .int .i64 t, .int .i64 n, .int .i64 a, .int .i64 r, .slice p l.length cap])) ∧ Below w.heap.size w w' := by
  have b1 := (Below.refl w.heap.size w).alloc (Nat.le_refl _) (.cells #[.int .i64 2, .int .i64 f, .int .i64 t, .int .i64 n, .int .i64 a, .int .i64 r, .slice p l.length cap] 25)
  go_enter Tryd.func31, Tryd.ntmps31
  go_wp2
  go_ret
  exact ⟨rfl, b1⟩
theorem factsMost_ack (v : Value) (w : World) : Calls Tryd.prog 34 #[.iface 96 v] w fun e w' => e = .returned (.int .i64 3) ∧ w = w' := by
  have asping : (Instr.typeAssert (.iface 96 v) 61 95 true).run Tryd.prog w = .ok (.tuple #[.agg #[.int .i64 0, .int .i64 0, .int .i64 0, .int .i64 0, .int .i64 0, .int .i64 0, .slice none 0 0], .bool false]) w := by kernel_rfl
  have asack : (Instr.typeAssert (.iface 96 v) 61 96 true).run Tryd.prog w = .ok (.tuple #[v, .bool true]) w := by kernel_rfl
  have asask : (Instr.typeAssert (.iface 96 v) 61 97 true).run Tryd.prog w = .ok (.tuple #[.agg #[.int .i64 0, .int .i64 0, .int .i64 0, .int .i64 0, .int .i64 0, .int .i64 0, .slice none 0 0], .bool false]) w := by kernel_rfl
  have assync : (Instr.typeAssert (.iface 96 v) 61 98 true).run Tryd.prog w = .ok (.tuple #[.agg #[.int .i64 0, .int .i64 0, .int .i64 0, .int .i64 0, .int .i64 0, .int .i64 0, .slice none 0 0], .bool false]) w := by kernel_rfl
  have astell : (Instr.typeAssert (.iface 96 v) 61 99 true).run Tryd.prog w = .ok (.tuple #[.agg #[.int .i64 0, .int .i64 0, .int .i64 0, .int .i64 0, .int .i64 0, .int .i64 0, .slice none 0 0], .bool false]) w := by kernel_rfl
  go_enter Tryd.func34, Tryd.ntmps34
  go_wp2
  go_ret
  exact ⟨rfl, rfl⟩

theorem saidOf_ask (f t n a r : Int) (p : Option Addr) (cap : Nat) (l : List FactV) (w : World) : Calls Tryd.prog 31 #[.agg #[.int .i64 3, .int .i64 f, .int .i64 t, .int .i64 n, .int .i64 a, .int .i64 r, .slice p l.length cap]] w fun e w' => e = .returned (.iface 97 (.agg #[.int .i64 3, .int .i64 f, .int .i64 t, .int .i64 n, .int .i64 a, .int .i64 r, .slice p l.length cap])) ∧ Below w.heap.size w w' := by
  have b1 := (Below.refl w.heap.size w).alloc (Nat.le_refl _) (.cells #[.int .i64 3, .int .i64 f, .int .i64 t, .int .i64 n, .int .i64 a, .int .i64 r, .slice p l.length cap] 25)
  go_enter Tryd.func31, Tryd.ntmps31
  go_wp2
  go_ret
  exact ⟨rfl, b1⟩
theorem factsMost_ask (v : Value) (w : World) : Calls Tryd.prog 34 #[.iface 97 v] w fun e w' => e = .returned (.int .i64 3) ∧ w = w' := by
  have asping : (Instr.typeAssert (.iface 97 v) 61 95 true).run Tryd.prog w = .ok (.tuple #[.agg #[.int .i64 0, .int .i64 0, .int .i64 0, .int .i64 0, .int .i64 0, .int .i64 0, .slice none 0 0], .bool false]) w := by kernel_rfl
  have asack : (Instr.typeAssert (.iface 97 v) 61 96 true).run Tryd.prog w = .ok (.tuple #[.agg #[.int .i64 0, .int .i64 0, .int .i64 0, .int .i64 0, .int .i64 0, .int .i64 0, .slice none 0 0], .bool false]) w := by kernel_rfl
  have asask : (Instr.typeAssert (.iface 97 v) 61 97 true).run Tryd.prog w = .ok (.tuple #[v, .bool true]) w := by kernel_rfl
  have assync : (Instr.typeAssert (.iface 97 v) 61 98 true).run Tryd.prog w = .ok (.tuple #[.agg #[.int .i64 0, .int .i64 0, .int .i64 0, .int .i64 0, .int .i64 0, .int .i64 0, .slice none 0 0], .bool false]) w := by kernel_rfl
  have astell : (Instr.typeAssert (.iface 97 v) 61 99 true).run Tryd.prog w = .ok (.tuple #[.agg #[.int .i64 0, .int .i64 0, .int .i64 0, .int .i64 0, .int .i64 0, .int .i64 0, .slice none 0 0], .bool false]) w := by kernel_rfl
  go_enter Tryd.func34, Tryd.ntmps34
  go_wp2
  go_ret
  exact ⟨rfl, rfl⟩

theorem saidOf_sync (f t n a r : Int) (p : Option Addr) (cap : Nat) (l : List FactV) (w : World) : Calls Tryd.prog 31 #[.agg #[.int .i64 4, .int .i64 f, .int .i64 t, .int .i64 n, .int .i64 a, .int .i64 r, .slice p l.length cap]] w fun e w' => e = .returned (.iface 98 (.agg #[.int .i64 4, .int .i64 f, .int .i64 t, .int .i64 n, .int .i64 a, .int .i64 r, .slice p l.length cap])) ∧ Below w.heap.size w w' := by
  have b1 := (Below.refl w.heap.size w).alloc (Nat.le_refl _) (.cells #[.int .i64 4, .int .i64 f, .int .i64 t, .int .i64 n, .int .i64 a, .int .i64 r, .slice p l.length cap] 25)
  go_enter Tryd.func31, Tryd.ntmps31
  go_wp2
  go_ret
  exact ⟨rfl, b1⟩
theorem factsMost_sync (v : Value) (w : World) : Calls Tryd.prog 34 #[.iface 98 v] w fun e w' => e = .returned (.int .i64 6) ∧ w = w' := by
  have asping : (Instr.typeAssert (.iface 98 v) 61 95 true).run Tryd.prog w = .ok (.tuple #[.agg #[.int .i64 0, .int .i64 0, .int .i64 0, .int .i64 0, .int .i64 0, .int .i64 0, .slice none 0 0], .bool false]) w := by kernel_rfl
  have asack : (Instr.typeAssert (.iface 98 v) 61 96 true).run Tryd.prog w = .ok (.tuple #[.agg #[.int .i64 0, .int .i64 0, .int .i64 0, .int .i64 0, .int .i64 0, .int .i64 0, .slice none 0 0], .bool false]) w := by kernel_rfl
  have asask : (Instr.typeAssert (.iface 98 v) 61 97 true).run Tryd.prog w = .ok (.tuple #[.agg #[.int .i64 0, .int .i64 0, .int .i64 0, .int .i64 0, .int .i64 0, .int .i64 0, .slice none 0 0], .bool false]) w := by kernel_rfl
  have assync : (Instr.typeAssert (.iface 98 v) 61 98 true).run Tryd.prog w = .ok (.tuple #[v, .bool true]) w := by kernel_rfl
  have astell : (Instr.typeAssert (.iface 98 v) 61 99 true).run Tryd.prog w = .ok (.tuple #[.agg #[.int .i64 0, .int .i64 0, .int .i64 0, .int .i64 0, .int .i64 0, .int .i64 0, .slice none 0 0], .bool false]) w := by kernel_rfl
  go_enter Tryd.func34, Tryd.ntmps34
  go_wp2
  go_ret
  exact ⟨rfl, rfl⟩

theorem saidOf_tell (f t n a r : Int) (p : Option Addr) (cap : Nat) (l : List FactV) (w : World) : Calls Tryd.prog 31 #[.agg #[.int .i64 5, .int .i64 f, .int .i64 t, .int .i64 n, .int .i64 a, .int .i64 r, .slice p l.length cap]] w fun e w' => e = .returned (.iface 99 (.agg #[.int .i64 5, .int .i64 f, .int .i64 t, .int .i64 n, .int .i64 a, .int .i64 r, .slice p l.length cap])) ∧ Below w.heap.size w w' := by
  have b1 := (Below.refl w.heap.size w).alloc (Nat.le_refl _) (.cells #[.int .i64 5, .int .i64 f, .int .i64 t, .int .i64 n, .int .i64 a, .int .i64 r, .slice p l.length cap] 25)
  go_enter Tryd.func31, Tryd.ntmps31
  go_wp2
  go_ret
  exact ⟨rfl, b1⟩
theorem factsMost_tell (v : Value) (w : World) : Calls Tryd.prog 34 #[.iface 99 v] w fun e w' => e = .returned (.int .i64 6) ∧ w = w' := by
  have asping : (Instr.typeAssert (.iface 99 v) 61 95 true).run Tryd.prog w = .ok (.tuple #[.agg #[.int .i64 0, .int .i64 0, .int .i64 0, .int .i64 0, .int .i64 0, .int .i64 0, .slice none 0 0], .bool false]) w := by kernel_rfl
  have asack : (Instr.typeAssert (.iface 99 v) 61 96 true).run Tryd.prog w = .ok (.tuple #[.agg #[.int .i64 0, .int .i64 0, .int .i64 0, .int .i64 0, .int .i64 0, .int .i64 0, .slice none 0 0], .bool false]) w := by kernel_rfl
  have asask : (Instr.typeAssert (.iface 99 v) 61 97 true).run Tryd.prog w = .ok (.tuple #[.agg #[.int .i64 0, .int .i64 0, .int .i64 0, .int .i64 0, .int .i64 0, .int .i64 0, .slice none 0 0], .bool false]) w := by kernel_rfl
  have assync : (Instr.typeAssert (.iface 99 v) 61 98 true).run Tryd.prog w = .ok (.tuple #[.agg #[.int .i64 0, .int .i64 0, .int .i64 0, .int .i64 0, .int .i64 0, .int .i64 0, .slice none 0 0], .bool false]) w := by kernel_rfl
  have astell : (Instr.typeAssert (.iface 99 v) 61 99 true).run Tryd.prog w = .ok (.tuple #[v, .bool true]) w := by kernel_rfl
  go_enter Tryd.func34, Tryd.ntmps34
  go_wp2
  go_ret
  exact ⟨rfl, rfl⟩

theorem saidOf_none (k : Int) (f t n a r : Int) (p : Option Addr) (cap : Nat) (l : List FactV) (w : World) (h1 : k ≠ 1) (h2 : k ≠ 2) (h3 : k ≠ 3) (h4 : k ≠ 4) (h5 : k ≠ 5) : Calls Tryd.prog 31 #[.agg #[.int .i64 k, .int .i64 f, .int .i64 t, .int .i64 n, .int .i64 a, .int .i64 r, .slice p l.length cap]] w fun e w' => e = .returned .nilIface ∧ Below w.heap.size w w' := by
  have b1 := (Below.refl w.heap.size w).alloc (Nat.le_refl _) (.cells #[.int .i64 k, .int .i64 f, .int .i64 t, .int .i64 n, .int .i64 a, .int .i64 r, .slice p l.length cap] 25)
  go_enter Tryd.func31, Tryd.ntmps31
  go_wp2
  go_ret
  exact ⟨rfl, b1⟩
theorem mRight_none (k : Int) (f t n a r : Int) (p : Option Addr) (cap : Nat) (l : List FactV) (w : World) (h1 : k ≠ 1) (h2 : k ≠ 2) (h3 : k ≠ 3) (h4 : k ≠ 4) (h5 : k ≠ 5) :
    Calls Tryd.prog 12 #[.agg #[.int .i64 k, .int .i64 f, .int .i64 t, .int .i64 n, .int .i64 a, .int .i64 r, .slice p l.length cap]] w fun e w' => Tells (MailV.ok ⟨k, f, t, n, a, r, l⟩) e ∧ Below w.heap.size w w' := by
  have HN : Hid (¬ MailV.ok ⟨k, f, t, n, a, r, l⟩) := fun h => by
    have := MailV.own_kind h.1
    dsimp only at this
    omega
  have b1 := (Below.refl w.heap.size w).alloc (Nat.le_refl _) (.cells #[.int .i64 k, .int .i64 f, .int .i64 t, .int .i64 n, .int .i64 a, .int .i64 r, .slice p l.length cap] 25)
  obtain ⟨W, hW⟩ : ∃ W, w.alloc (.cells #[.int .i64 k, .int .i64 f, .int .i64 t, .int .i64 n, .int .i64 a, .int .i64 r, .slice p l.length cap] 25) = W := ⟨_, rfl⟩
  rw [hW] at b1
  have HW : Hid (_ = W) := hW
  clear hW
  go_enter Tryd.func12, Tryd.ntmps12
  go_wp2_with fail
  rw [HW.out]
  refine (saidOf_none k f t n a r p cap l _ h1 h2 h3 h4 h5).mono ?_
  rintro e x1 ⟨rfl, bx⟩
  have b2 := b1.trans (bx.mono b1.size)
  clear b1 bx HW h1 h2 h3 h4 h5
  go_wp2
  go_ret
  exact ⟨.no HN.out, b2⟩

set_option maxHeartbeats 1000000 in
set_option maxRecDepth 100000 in
theorem mRight_ping (f t n a r : Int) (p : Option Addr) (cap : Nat) (l : List FactV) (w : World) (hl : l.length ≤ 1048576) (hrow : CellRow w p (cellsOf FactV.cells l)) :
    Calls Tryd.prog 12 #[.agg #[.int .i64 1, .int .i64 f, .int .i64 t, .int .i64 n, .int .i64 a, .int .i64 r, .slice p l.length cap]] w fun e w' => Tells (MailV.ok ⟨1, f, t, n, a, r, l⟩) e ∧ Below w.heap.size w w' := by
  have HO : Hid (MailV.ok ⟨1, f, t, n, a, r, l⟩ ↔ ((a = 0 ∧ forR r) ∧ (nodeR f ∧ nodeR t ∧ f ≠ t ∧ timeR n) ∧ rightV l ∧ l.length ≤ 3)) := by
    show _ ↔ _
    unfold MailV.ok MailV.own MailV.alike mostF
    simp
  have b1 := (Below.refl w.heap.size w).alloc (Nat.le_refl _) (.cells #[.int .i64 1, .int .i64 f, .int .i64 t, .int .i64 n, .int .i64 a, .int .i64 r, .slice p l.length cap] 25)
  have p1 := BlkIs.new w 25 #[.int .i64 1, .int .i64 f, .int .i64 t, .int .i64 n, .int .i64 a, .int .i64 r, .slice p l.length cap]
  obtain ⟨W, hW⟩ : ∃ W, w.alloc (.cells #[.int .i64 1, .int .i64 f, .int .i64 t, .int .i64 n, .int .i64 a, .int .i64 r, .slice p l.length cap] 25) = W := ⟨_, rfl⟩
  rw [hW] at b1 p1
  have HW : Hid (_ = W) := hW
  clear hW
  go_enter Tryd.func12, Tryd.ntmps12
  go_wp2_with fail
  rw [HW.out]
  refine (saidOf_ping f t n a r p cap l _).mono ?_
  rintro e x1 ⟨rfl, bx⟩
  have b2 := b1.trans (bx.mono b1.size)
  have p2 := p1.keep bx
  clear b1 bx HW p1
  go_wp2_with fail
  refine (pingOwn_any 1 f t n a r _ _).mono ?_
  rintro e x2 ⟨⟨q, rfl, hq⟩, bx⟩
  have HQ : Hid (q = true ↔ (a = 0 ∧ forR r)) := hq
  have b3 := b2.trans (bx.mono b2.size)
  have p3 := p2.keep bx
  clear b2 bx p2 hq
  cases q with
  | false =>
    have HN : Hid (¬ MailV.ok ⟨1, f, t, n, a, r, l⟩) := fun h => by simpa using HQ.out.2 (HO.out.1 h).1
    clear HQ HO p3
    go_wp2
    go_ret
    exact ⟨.no HN.out, b3⟩
  | true =>
  have HP : Hid (a = 0 ∧ forR r) := HQ.out.1 rfl
  clear HQ
  have c1 := p3.cell 1
  have c2 := p3.cell 2
  have c3 := p3.cell 3
  simp only [List.getElem?_toArray, List.getElem?_cons_succ, List.getElem?_cons_zero] at c1 c2 c3
  go_wp2_with fail
  refine (nodeRight_any f _).mono ?_
  rintro e x3 ⟨⟨q, rfl, hq⟩, rfl⟩
  have HQ : Hid (q = true ↔ nodeR f) := hq
  clear hq
  cases q with
  | false =>
    have HN : Hid (¬ MailV.ok ⟨1, f, t, n, a, r, l⟩) := fun h => by simpa using HQ.out.2 (HO.out.1 h).2.1.1
    clear HQ HO p3
    go_wp2
    go_ret
    exact ⟨.no HN.out, b3⟩
  | true =>
  have HF : Hid (nodeR f) := HQ.out.1 rfl
  clear HQ
  go_wp2_with fail
  refine (nodeRight_any t _).mono ?_
  rintro e x3 ⟨⟨q, rfl, hq⟩, rfl⟩
  have HQ : Hid (q = true ↔ nodeR t) := hq
  clear hq
  cases q with
  | false =>
    have HN : Hid (¬ MailV.ok ⟨1, f, t, n, a, r, l⟩) := fun h => by simpa using HQ.out.2 (HO.out.1 h).2.1.2.1
    clear HQ HO p3
    go_wp2
    go_ret
    exact ⟨.no HN.out, b3⟩
  | true =>
  have HT : Hid (nodeR t) := HQ.out.1 rfl
  clear HQ
  by_cases hft : f = t
  · have hd : (f == t) = true := by simpa using hft
    have HN : Hid (¬ MailV.ok ⟨1, f, t, n, a, r, l⟩) := fun h => (HO.out.1 h).2.1.2.2.1 hft
    clear HO p3 hft
    go_wp2
    go_ret
    exact ⟨.no HN.out, b3⟩
  have hd : (f == t) = false := by simpa using hft
  have HE : Hid (f ≠ t) := hft
  clear hft
  go_wp2_with fail
  refine (timeRight_any n _).mono ?_
  rintro e x3 ⟨⟨q, rfl, hq⟩, rfl⟩
  have HQ : Hid (q = true ↔ timeR n) := hq
  clear hq
  cases q with
  | false =>
    have HN : Hid (¬ MailV.ok ⟨1, f, t, n, a, r, l⟩) := fun h => by simpa using HQ.out.2 (HO.out.1 h).2.1.2.2.2
    clear HQ HO p3
    go_wp2
    go_ret
    exact ⟨.no HN.out, b3⟩
  | true =>
  have HM : Hid (timeR n) := HQ.out.1 rfl
  clear HQ c1 c2 c3 hd
  have hrow3 := hrow.keep b3
  go_upto_region 6 with fail
  by_cases hlen : l.length ≤ 3
  · have hdl : decide ((l.length : Int) ≤ 3) = true := decide_eq_true (by omega)
    refine wp_region_held_drew (S := (fun w' => Below x2.heap.size x2 w')) (by kernel_rfl) ?hS0 (fun hHeld => ?_)
    case hS0 => exact (Below.refl _ _).drew
    refine takeG 0 (v := .pointer (some ⟨w.heap.size, 6, none⟩)) rfl (by kernel_rfl) (by kernel_rfl) (by kernel_rfl) (by kernel_rfl) (fun _ _ _ h => h) ?hy (by assumption) ?_
    case hy => (intro w' hSw; go_simp)
    try simp only [List.setIfInBounds_toArray, List.set_cons_zero, List.set_cons_succ]
    refine takeG 1 (v := .slice p l.length cap) rfl (by kernel_rfl) (by kernel_rfl) (by kernel_rfl) (by kernel_rfl) (fun _ _ _ h => h) ?hy (by assumption) ?_
    case hy => (intro w' hSw; have s0 := (p3.keep hSw).cell 6; (try dsimp only at s0); go_simp)
    try simp only [List.setIfInBounds_toArray, List.set_cons_zero, List.set_cons_succ]
    refine takeG 2 (v := .int .i64 l.length) rfl (by kernel_rfl) (by kernel_rfl) (by kernel_rfl) (by kernel_rfl) (fun _ _ _ h => h) ?hy (by assumption) ?_
    case hy => (intro w' hSw; go_simp)
    try simp only [List.setIfInBounds_toArray, List.set_cons_zero, List.set_cons_succ]
    refine takeG 3 (v := .iface 95 (.agg #[.int .i64 1, .int .i64 f, .int .i64 t, .int .i64 n, .int .i64 a, .int .i64 r, .slice p l.length cap])) rfl (by kernel_rfl) (by kernel_rfl) (by kernel_rfl) (by kernel_rfl) (fun _ _ _ h => h) ?hy (by assumption) ?_
    case hy => (intro w' hSw; go_simp)
    try simp only [List.setIfInBounds_toArray, List.set_cons_zero, List.set_cons_succ]
    refine runG 4 (by kernel_rfl) rfl (by kernel_rfl) ?_
    go_simp
    refine (factsMost_ping _ _).mono ?_
    rintro e z1 ⟨rfl, rfl⟩
    refine ⟨hHeld, ?_⟩
    try simp only [Act.put, List.setIfInBounds_toArray, List.set_cons_zero, List.set_cons_succ]
    refine takeG 5 (v := .bool true) rfl (by kernel_rfl) (by kernel_rfl) (by kernel_rfl) (by kernel_rfl) (fun _ _ _ h => h) ?hy (by assumption) ?_
    case hy => (intro w' hSw; go_simp)
    try simp only [List.setIfInBounds_toArray, List.set_cons_zero, List.set_cons_succ]
    refine takeG 6 (v := .bool true) rfl (by kernel_rfl) (by kernel_rfl) (by kernel_rfl) (by kernel_rfl) (fun _ _ _ h => h) ?hy (by assumption) ?_
    case hy => (intro w' hSw; go_simp)
    try simp only [List.setIfInBounds_toArray, List.set_cons_zero, List.set_cons_succ]
    refine takeG 7 (v := .pointer (some ⟨w.heap.size, 6, none⟩)) rfl (by kernel_rfl) (by kernel_rfl) (by kernel_rfl) (by kernel_rfl) (fun _ _ _ h => h) ?hy (by assumption) ?_
    case hy => (intro w' hSw; go_simp)
    try simp only [List.setIfInBounds_toArray, List.set_cons_zero, List.set_cons_succ]
    refine takeG 8 (v := .slice p l.length cap) rfl (by kernel_rfl) (by kernel_rfl) (by kernel_rfl) (by kernel_rfl) (fun _ _ _ h => h) ?hy (by assumption) ?_
    case hy => (intro w' hSw; have s0 := (p3.keep hSw).cell 6; (try dsimp only at s0); go_simp)
    try simp only [List.setIfInBounds_toArray, List.set_cons_zero, List.set_cons_succ]
    refine runG 9 (by kernel_rfl) rfl (by kernel_rfl) ?_
    go_simp
    refine (implVRight_any p cap l _ hl (hrow3.keep hHeld)).mono ?_
    rintro e z2 ⟨⟨q, rfl, hq⟩, bz⟩
    have HQ : Hid (q = true ↔ rightV l) := hq
    have hz : Below x2.heap.size x2 z2 := hHeld.trans (bz.mono hHeld.size)
    have b4 := b3.trans (hz.mono b3.size)
    refine ⟨hz, ?_⟩
    clear hHeld hq bz
    try simp only [Act.put, List.setIfInBounds_toArray, List.set_cons_zero, List.set_cons_succ]
    refine takeG 10 (v := .bool q) rfl (by kernel_rfl) (by kernel_rfl) (by kernel_rfl) (by kernel_rfl) (fun _ _ _ h => h) ?hy (by assumption) ?_
    case hy => (intro w' hSw; go_simp)
    try simp only [List.setIfInBounds_toArray, List.set_cons_zero, List.set_cons_succ]
    refine takeG 11 (v := .bool q) rfl (by kernel_rfl) (by kernel_rfl) (by kernel_rfl) (by kernel_rfl) (fun _ _ _ h => h) ?hy (by assumption) ?_
    case hy => (intro w' hSw; go_simp)
    try simp only [List.setIfInBounds_toArray, List.set_cons_zero, List.set_cons_succ]
    refine wpAnyH_done (by kernel_rfl) ?_ _
    go_wp2
    go_ret
    exact ⟨⟨q, rfl, HQ.out.trans ⟨fun h => HO.out.2 ⟨HP.out, ⟨HF.out, HT.out, HE.out, HM.out⟩, h, hlen⟩, fun h => (HO.out.1 h).2.2.1⟩⟩, b4⟩
  · have hdl : decide ((l.length : Int) ≤ 3) = false := decide_eq_false (by omega)
    have HN : Hid (¬ MailV.ok ⟨1, f, t, n, a, r, l⟩) := fun h => hlen (HO.out.1 h).2.2.2
    refine wp_region_held_drew (S := (fun w' => Below x2.heap.size x2 w')) (by kernel_rfl) ?hS0 (fun hHeld => ?_)
    case hS0 => exact (Below.refl _ _).drew
    refine takeG 0 (v := .pointer (some ⟨w.heap.size, 6, none⟩)) rfl (by kernel_rfl) (by kernel_rfl) (by kernel_rfl) (by kernel_rfl) (fun _ _ _ h => h) ?hy (by assumption) ?_
    case hy => (intro w' hSw; go_simp)
    try simp only [List.setIfInBounds_toArray, List.set_cons_zero, List.set_cons_succ]
    refine takeG 1 (v := .slice p l.length cap) rfl (by kernel_rfl) (by kernel_rfl) (by kernel_rfl) (by kernel_rfl) (fun _ _ _ h => h) ?hy (by assumption) ?_
    case hy => (intro w' hSw; have s0 := (p3.keep hSw).cell 6; (try dsimp only at s0); go_simp)
    try simp only [List.setIfInBounds_toArray, List.set_cons_zero, List.set_cons_succ]
    refine takeG 2 (v := .int .i64 l.length) rfl (by kernel_rfl) (by kernel_rfl) (by kernel_rfl) (by kernel_rfl) (fun _ _ _ h => h) ?hy (by assumption) ?_
    case hy => (intro w' hSw; go_simp)
    try simp only [List.setIfInBounds_toArray, List.set_cons_zero, List.set_cons_succ]
    refine takeG 3 (v := .iface 95 (.agg #[.int .i64 1, .int .i64 f, .int .i64 t, .int .i64 n, .int .i64 a, .int .i64 r, .slice p l.length cap])) rfl (by kernel_rfl) (by kernel_rfl) (by kernel_rfl) (by kernel_rfl) (fun _ _ _ h => h) ?hy (by assumption) ?_
    case hy => (intro w' hSw; go_simp)
    try simp only [List.setIfInBounds_toArray, List.set_cons_zero, List.set_cons_succ]
    refine runG 4 (by kernel_rfl) rfl (by kernel_rfl) ?_
    go_simp
    refine (factsMost_ping _ _).mono ?_
    rintro e z1 ⟨rfl, rfl⟩
    refine ⟨hHeld, ?_⟩
    try simp only [Act.put, List.setIfInBounds_toArray, List.set_cons_zero, List.set_cons_succ]
    refine takeG 5 (v := .bool false) rfl (by kernel_rfl) (by kernel_rfl) (by kernel_rfl) (by kernel_rfl) (fun _ _ _ h => h) ?hy (by assumption) ?_
    case hy => (intro w' hSw; go_simp)
    try simp only [List.setIfInBounds_toArray, List.set_cons_zero, List.set_cons_succ]
    refine takeG 6 (v := .bool false) rfl (by kernel_rfl) (by kernel_rfl) (by kernel_rfl) (by kernel_rfl) (fun _ _ _ h => h) ?hy (by assumption) ?_
    case hy => (intro w' hSw; go_simp)
    try simp only [List.setIfInBounds_toArray, List.set_cons_zero, List.set_cons_succ]
    refine skipG 7 rfl (by kernel_rfl) (by kernel_rfl) (by kernel_rfl) (by kernel_rfl) (fun _ _ _ h => h) (by assumption) ?_
    try simp only [List.setIfInBounds_toArray, List.set_cons_zero, List.set_cons_succ]
    refine skipG 8 rfl (by kernel_rfl) (by kernel_rfl) (by kernel_rfl) (by kernel_rfl) (fun _ _ _ h => h) (by assumption) ?_
    try simp only [List.setIfInBounds_toArray, List.set_cons_zero, List.set_cons_succ]
    refine skipG 9 rfl (by kernel_rfl) (by kernel_rfl) (by kernel_rfl) (by kernel_rfl) (fun _ _ _ h => h) (by assumption) ?_
    try simp only [List.setIfInBounds_toArray, List.set_cons_zero, List.set_cons_succ]
    refine takeG 10 (v := .bool false) rfl (by kernel_rfl) (by kernel_rfl) (by kernel_rfl) (by kernel_rfl) (fun _ _ _ h => h) ?hy (by assumption) ?_
    case hy => (intro w' hSw; go_simp)
    try simp only [List.setIfInBounds_toArray, List.set_cons_zero, List.set_cons_succ]
    refine takeG 11 (v := .bool false) rfl (by kernel_rfl) (by kernel_rfl) (by kernel_rfl) (by kernel_rfl) (fun _ _ _ h => h) ?hy (by assumption) ?_
    case hy => (intro w' hSw; go_simp)
    try simp only [List.setIfInBounds_toArray, List.set_cons_zero, List.set_cons_succ]
    refine wpAnyH_done (by kernel_rfl) ?_ _
    have b4 := b3.trans (hHeld.mono b3.size)
    go_wp2
    go_ret
    exact ⟨.no HN.out, b4⟩

set_option maxHeartbeats 1000000 in
set_option maxRecDepth 100000 in
theorem mRight_ack (f t n a r : Int) (p : Option Addr) (cap : Nat) (l : List FactV) (w : World) (hl : l.length ≤ 1048576) (hrow : CellRow w p (cellsOf FactV.cells l)) :
    Calls Tryd.prog 12 #[.agg #[.int .i64 2, .int .i64 f, .int .i64 t, .int .i64 n, .int .i64 a, .int .i64 r, .slice p l.length cap]] w fun e w' => Tells (MailV.ok ⟨2, f, t, n, a, r, l⟩) e ∧ Below w.heap.size w w' := by
  have HO : Hid (MailV.ok ⟨2, f, t, n, a, r, l⟩ ↔ ((nodeR a ∧ forR r) ∧ (nodeR f ∧ nodeR t ∧ f ≠ t ∧ timeR n) ∧ rightV l ∧ l.length ≤ 3)) := by
    show _ ↔ _
    unfold MailV.ok MailV.own MailV.alike mostF
    simp
  have b1 := (Below.refl w.heap.size w).alloc (Nat.le_refl _) (.cells #[.int .i64 2, .int .i64 f, .int .i64 t, .int .i64 n, .int .i64 a, .int .i64 r, .slice p l.length cap] 25)
  have p1 := BlkIs.new w 25 #[.int .i64 2, .int .i64 f, .int .i64 t, .int .i64 n, .int .i64 a, .int .i64 r, .slice p l.length cap]
  obtain ⟨W, hW⟩ : ∃ W, w.alloc (.cells #[.int .i64 2, .int .i64 f, .int .i64 t, .int .i64 n, .int .i64 a, .int .i64 r, .slice p l.length cap] 25) = W := ⟨_, rfl⟩
  rw [hW] at b1 p1
  have HW : Hid (_ = W) := hW
  clear hW
  go_enter Tryd.func12, Tryd.ntmps12
  go_wp2_with fail
  rw [HW.out]
  refine (saidOf_ack f t n a r p cap l _).mono ?_
  rintro e x1 ⟨rfl, bx⟩
  have b2 := b1.trans (bx.mono b1.size)
  have p2 := p1.keep bx
  clear b1 bx HW p1
  go_wp2_with fail
  refine (ackOwn_any 2 f t n a r _ _).mono ?_
  rintro e x2 ⟨⟨q, rfl, hq⟩, bx⟩
  have HQ : Hid (q = true ↔ (nodeR a ∧ forR r)) := hq
  have b3 := b2.trans (bx.mono b2.size)
  have p3 := p2.keep bx
  clear b2 bx p2 hq
  cases q with
  | false =>
    have HN : Hid (¬ MailV.ok ⟨2, f, t, n, a, r, l⟩) := fun h => by simpa using HQ.out.2 (HO.out.1 h).1
    clear HQ HO p3
    go_wp2
    go_ret
    exact ⟨.no HN.out, b3⟩
  | true =>
  have HP : Hid (nodeR a ∧ forR r) := HQ.out.1 rfl
  clear HQ
  have c1 := p3.cell 1
  have c2 := p3.cell 2
  have c3 := p3.cell 3
  simp only [List.getElem?_toArray, List.getElem?_cons_succ, List.getElem?_cons_zero] at c1 c2 c3
  go_wp2_with fail
  refine (nodeRight_any f _).mono ?_
  rintro e x3 ⟨⟨q, rfl, hq⟩, rfl⟩
  have HQ : Hid (q = true ↔ nodeR f) := hq
  clear hq
  cases q with
  | false =>
    have HN : Hid (¬ MailV.ok ⟨2, f, t, n, a, r, l⟩) := fun h => by simpa using HQ.out.2 (HO.out.1 h).2.1.1
    clear HQ HO p3
    go_wp2
    go_ret
    exact ⟨.no HN.out, b3⟩
  | true =>
  have HF : Hid (nodeR f) := HQ.out.1 rfl
  clear HQ
  go_wp2_with fail
  refine (nodeRight_any t _).mono ?_
  rintro e x3 ⟨⟨q, rfl, hq⟩, rfl⟩
  have HQ : Hid (q = true ↔ nodeR t) := hq
  clear hq
  cases q with
  | false =>
    have HN : Hid (¬ MailV.ok ⟨2, f, t, n, a, r, l⟩) := fun h => by simpa using HQ.out.2 (HO.out.1 h).2.1.2.1
    clear HQ HO p3
    go_wp2
    go_ret
    exact ⟨.no HN.out, b3⟩
  | true =>
  have HT : Hid (nodeR t) := HQ.out.1 rfl
  clear HQ
  by_cases hft : f = t
  · have hd : (f == t) = true := by simpa using hft
    have HN : Hid (¬ MailV.ok ⟨2, f, t, n, a, r, l⟩) := fun h => (HO.out.1 h).2.1.2.2.1 hft
    clear HO p3 hft
    go_wp2
    go_ret
    exact ⟨.no HN.out, b3⟩
  have hd : (f == t) = false := by simpa using hft
  have HE : Hid (f ≠ t) := hft
  clear hft
  go_wp2_with fail
  refine (timeRight_any n _).mono ?_
  rintro e x3 ⟨⟨q, rfl, hq⟩, rfl⟩
  have HQ : Hid (q = true ↔ timeR n) := hq
  clear hq
  cases q with
  | false =>
    have HN : Hid (¬ MailV.ok ⟨2, f, t, n, a, r, l⟩) := fun h => by simpa using HQ.out.2 (HO.out.1 h).2.1.2.2.2
    clear HQ HO p3
    go_wp2
    go_ret
    exact ⟨.no HN.out, b3⟩
  | true =>
  have HM : Hid (timeR n) := HQ.out.1 rfl
  clear HQ c1 c2 c3 hd
  have hrow3 := hrow.keep b3
  go_upto_region 6 with fail
  by_cases hlen : l.length ≤ 3
  · have hdl : decide ((l.length : Int) ≤ 3) = true := decide_eq_true (by omega)
    refine wp_region_held_drew (S := (fun w' => Below x2.heap.size x2 w')) (by kernel_rfl) ?hS0 (fun hHeld => ?_)
    case hS0 => exact (Below.refl _ _).drew
    refine takeG 0 (v := .pointer (some ⟨w.heap.size, 6, none⟩)) rfl (by kernel_rfl) (by kernel_rfl) (by kernel_rfl) (by kernel_rfl) (fun _ _ _ h => h) ?hy (by assumption) ?_
    case hy => (intro w' hSw; go_simp)
    try simp only [List.setIfInBounds_toArray, List.set_cons_zero, List.set_cons_succ]
    refine takeG 1 (v := .slice p l.length cap) rfl (by kernel_rfl) (by kernel_rfl) (by kernel_rfl) (by kernel_rfl) (fun _ _ _ h => h) ?hy (by assumption) ?_
    case hy => (intro w' hSw; have s0 := (p3.keep hSw).cell 6; (try dsimp only at s0); go_simp)
    try simp only [List.setIfInBounds_toArray, List.set_cons_zero, List.set_cons_succ]
    refine takeG 2 (v := .int .i64 l.length) rfl (by kernel_rfl) (by kernel_rfl) (by kernel_rfl) (by kernel_rfl) (fun _ _ _ h => h) ?hy (by assumption) ?_
    case hy => (intro w' hSw; go_simp)
    try simp only [List.setIfInBounds_toArray, List.set_cons_zero, List.set_cons_succ]
    refine takeG 3 (v := .iface 96 (.agg #[.int .i64 2, .int .i64 f, .int .i64 t, .int .i64 n, .int .i64 a, .int .i64 r, .slice p l.length cap])) rfl (by kernel_rfl) (by kernel_rfl) (by kernel_rfl) (by kernel_rfl) (fun _ _ _ h => h) ?hy (by assumption) ?_
    case hy => (intro w' hSw; go_simp)
    try simp only [List.setIfInBounds_toArray, List.set_cons_zero, List.set_cons_succ]
    refine runG 4 (by kernel_rfl) rfl (by kernel_rfl) ?_
    go_simp
    refine (factsMost_ack _ _).mono ?_
    rintro e z1 ⟨rfl, rfl⟩
    refine ⟨hHeld, ?_⟩
    try simp only [Act.put, List.setIfInBounds_toArray, List.set_cons_zero, List.set_cons_succ]
    refine takeG 5 (v := .bool true) rfl (by kernel_rfl) (by kernel_rfl) (by kernel_rfl) (by kernel_rfl) (fun _ _ _ h => h) ?hy (by assumption) ?_
    case hy => (intro w' hSw; go_simp)
    try simp only [List.setIfInBounds_toArray, List.set_cons_zero, List.set_cons_succ]
    refine takeG 6 (v := .bool true) rfl (by kernel_rfl) (by kernel_rfl) (by kernel_rfl) (by kernel_rfl) (fun _ _ _ h => h) ?hy (by assumption) ?_
    case hy => (intro w' hSw; go_simp)
    try simp only [List.setIfInBounds_toArray, List.set_cons_zero, List.set_cons_succ]
    refine takeG 7 (v := .pointer (some ⟨w.heap.size, 6, none⟩)) rfl (by kernel_rfl) (by kernel_rfl) (by kernel_rfl) (by kernel_rfl) (fun _ _ _ h => h) ?hy (by assumption) ?_
    case hy => (intro w' hSw; go_simp)
    try simp only [List.setIfInBounds_toArray, List.set_cons_zero, List.set_cons_succ]
    refine takeG 8 (v := .slice p l.length cap) rfl (by kernel_rfl) (by kernel_rfl) (by kernel_rfl) (by kernel_rfl) (fun _ _ _ h => h) ?hy (by assumption) ?_
    case hy => (intro w' hSw; have s0 := (p3.keep hSw).cell 6; (try dsimp only at s0); go_simp)
    try simp only [List.setIfInBounds_toArray, List.set_cons_zero, List.set_cons_succ]
    refine runG 9 (by kernel_rfl) rfl (by kernel_rfl) ?_
    go_simp
    refine (implVRight_any p cap l _ hl (hrow3.keep hHeld)).mono ?_
    rintro e z2 ⟨⟨q, rfl, hq⟩, bz⟩
    have HQ : Hid (q = true ↔ rightV l) := hq
    have hz : Below x2.heap.size x2 z2 := hHeld.trans (bz.mono hHeld.size)
    have b4 := b3.trans (hz.mono b3.size)
    refine ⟨hz, ?_⟩
    clear hHeld hq bz
    try simp only [Act.put, List.setIfInBounds_toArray, List.set_cons_zero, List.set_cons_succ]
    refine takeG 10 (v := .bool q) rfl (by kernel_rfl) (by kernel_rfl) (by kernel_rfl) (by kernel_rfl) (fun _ _ _ h => h) ?hy (by assumption) ?_
    case hy => (intro w' hSw; go_simp)
    try simp only [List.setIfInBounds_toArray, List.set_cons_zero, List.set_cons_succ]
    refine takeG 11 (v := .bool q) rfl (by kernel_rfl) (by kernel_rfl) (by kernel_rfl) (by kernel_rfl) (fun _ _ _ h => h) ?hy (by assumption) ?_
    case hy => (intro w' hSw; go_simp)
    try simp only [List.setIfInBounds_toArray, List.set_cons_zero, List.set_cons_succ]
    refine wpAnyH_done (by kernel_rfl) ?_ _
    go_wp2
    go_ret
    exact ⟨⟨q, rfl, HQ.out.trans ⟨fun h => HO.out.2 ⟨HP.out, ⟨HF.out, HT.out, HE.out, HM.out⟩, h, hlen⟩, fun h => (HO.out.1 h).2.2.1⟩⟩, b4⟩
  · have hdl : decide ((l.length : Int) ≤ 3) = false := decide_eq_false (by omega)
    have HN : Hid (¬ MailV.ok ⟨2, f, t, n, a, r, l⟩) := fun h => hlen (HO.out.1 h).2.2.2
    refine wp_region_held_drew (S := (fun w' => Below x2.heap.size x2 w')) (by kernel_rfl) ?hS0 (fun hHeld => ?_)
    case hS0 => exact (Below.refl _ _).drew
    refine takeG 0 (v := .pointer (some ⟨w.heap.size, 6, none⟩)) rfl (by kernel_rfl) (by kernel_rfl) (by kernel_rfl) (by kernel_rfl) (fun _ _ _ h => h) ?hy (by assumption) ?_
    case hy => (intro w' hSw; go_simp)
    try simp only [List.setIfInBounds_toArray, List.set_cons_zero, List.set_cons_succ]
    refine takeG 1 (v := .slice p l.length cap) rfl (by kernel_rfl) (by kernel_rfl) (by kernel_rfl) (by kernel_rfl) (fun _ _ _ h => h) ?hy (by assumption) ?_
    case hy => (intro w' hSw; have s0 := (p3.keep hSw).cell 6; (try dsimp only at s0); go_simp)
    try simp only [List.setIfInBounds_toArray, List.set_cons_zero, List.set_cons_succ]
    refine takeG 2 (v := .int .i64 l.length) rfl (by kernel_rfl) (by kernel_rfl) (by kernel_rfl) (by kernel_rfl) (fun _ _ _ h => h) ?hy (by assumption) ?_
    case hy => (intro w' hSw; go_simp)
    try simp only [List.setIfInBounds_toArray, List.set_cons_zero, List.set_cons_succ]
    refine takeG 3 (v := .iface 96 (.agg #[.int .i64 2, .int .i64 f, .int .i64 t, .int .i64 n, .int .i64 a, .int .i64 r, .slice p l.length cap])) rfl (by kernel_rfl) (by kernel_rfl) (by kernel_rfl) (by kernel_rfl) (fun _ _ _ h => h) ?hy (by assumption) ?_
    case hy => (intro w' hSw; go_simp)
    try simp only [List.setIfInBounds_toArray, List.set_cons_zero, List.set_cons_succ]
    refine runG 4 (by kernel_rfl) rfl (by kernel_rfl) ?_
    go_simp
    refine (factsMost_ack _ _).mono ?_
    rintro e z1 ⟨rfl, rfl⟩
    refine ⟨hHeld, ?_⟩
    try simp only [Act.put, List.setIfInBounds_toArray, List.set_cons_zero, List.set_cons_succ]
    refine takeG 5 (v := .bool false) rfl (by kernel_rfl) (by kernel_rfl) (by kernel_rfl) (by kernel_rfl) (fun _ _ _ h => h) ?hy (by assumption) ?_
    case hy => (intro w' hSw; go_simp)
    try simp only [List.setIfInBounds_toArray, List.set_cons_zero, List.set_cons_succ]
    refine takeG 6 (v := .bool false) rfl (by kernel_rfl) (by kernel_rfl) (by kernel_rfl) (by kernel_rfl) (fun _ _ _ h => h) ?hy (by assumption) ?_
    case hy => (intro w' hSw; go_simp)
    try simp only [List.setIfInBounds_toArray, List.set_cons_zero, List.set_cons_succ]
    refine skipG 7 rfl (by kernel_rfl) (by kernel_rfl) (by kernel_rfl) (by kernel_rfl) (fun _ _ _ h => h) (by assumption) ?_
    try simp only [List.setIfInBounds_toArray, List.set_cons_zero, List.set_cons_succ]
    refine skipG 8 rfl (by kernel_rfl) (by kernel_rfl) (by kernel_rfl) (by kernel_rfl) (fun _ _ _ h => h) (by assumption) ?_
    try simp only [List.setIfInBounds_toArray, List.set_cons_zero, List.set_cons_succ]
    refine skipG 9 rfl (by kernel_rfl) (by kernel_rfl) (by kernel_rfl) (by kernel_rfl) (fun _ _ _ h => h) (by assumption) ?_
    try simp only [List.setIfInBounds_toArray, List.set_cons_zero, List.set_cons_succ]
    refine takeG 10 (v := .bool false) rfl (by kernel_rfl) (by kernel_rfl) (by kernel_rfl) (by kernel_rfl) (fun _ _ _ h => h) ?hy (by assumption) ?_
    case hy => (intro w' hSw; go_simp)
    try simp only [List.setIfInBounds_toArray, List.set_cons_zero, List.set_cons_succ]
    refine takeG 11 (v := .bool false) rfl (by kernel_rfl) (by kernel_rfl) (by kernel_rfl) (by kernel_rfl) (fun _ _ _ h => h) ?hy (by assumption) ?_
    case hy => (intro w' hSw; go_simp)
    try simp only [List.setIfInBounds_toArray, List.set_cons_zero, List.set_cons_succ]
    refine wpAnyH_done (by kernel_rfl) ?_ _
    have b4 := b3.trans (hHeld.mono b3.size)
    go_wp2
    go_ret
    exact ⟨.no HN.out, b4⟩

set_option maxHeartbeats 1000000 in
set_option maxRecDepth 100000 in
theorem mRight_ask (f t n a r : Int) (p : Option Addr) (cap : Nat) (l : List FactV) (w : World) (hl : l.length ≤ 1048576) (hrow : CellRow w p (cellsOf FactV.cells l)) :
    Calls Tryd.prog 12 #[.agg #[.int .i64 3, .int .i64 f, .int .i64 t, .int .i64 n, .int .i64 a, .int .i64 r, .slice p l.length cap]] w fun e w' => Tells (MailV.ok ⟨3, f, t, n, a, r, l⟩) e ∧ Below w.heap.size w w' := by
  have HO : Hid (MailV.ok ⟨3, f, t, n, a, r, l⟩ ↔ ((nodeR a ∧ a ≠ f ∧ a ≠ t ∧ r = 0) ∧ (nodeR f ∧ nodeR t ∧ f ≠ t ∧ timeR n) ∧ rightV l ∧ l.length ≤ 3)) := by
    show _ ↔ _
    unfold MailV.ok MailV.own MailV.alike mostF
    simp
  have b1 := (Below.refl w.heap.size w).alloc (Nat.le_refl _) (.cells #[.int .i64 3, .int .i64 f, .int .i64 t, .int .i64 n, .int .i64 a, .int .i64 r, .slice p l.length cap] 25)
  have p1 := BlkIs.new w 25 #[.int .i64 3, .int .i64 f, .int .i64 t, .int .i64 n, .int .i64 a, .int .i64 r, .slice p l.length cap]
  obtain ⟨W, hW⟩ : ∃ W, w.alloc (.cells #[.int .i64 3, .int .i64 f, .int .i64 t, .int .i64 n, .int .i64 a, .int .i64 r, .slice p l.length cap] 25) = W := ⟨_, rfl⟩
  rw [hW] at b1 p1
  have HW : Hid (_ = W) := hW
  clear hW
  go_enter Tryd.func12, Tryd.ntmps12
  go_wp2_with fail
  rw [HW.out]
  refine (saidOf_ask f t n a r p cap l _).mono ?_
  rintro e x1 ⟨rfl, bx⟩
  have b2 := b1.trans (bx.mono b1.size)
  have p2 := p1.keep bx
  clear b1 bx HW p1
  go_wp2_with fail
  refine (askOwn_any 3 f t n a r _ _).mono ?_
  rintro e x2 ⟨⟨q, rfl, hq⟩, bx⟩
  have HQ : Hid (q = true ↔ (nodeR a ∧ a ≠ f ∧ a ≠ t ∧ r = 0)) := hq
  have b3 := b2.trans (bx.mono b2.size)
  have p3 := p2.keep bx
  clear b2 bx p2 hq
  cases q with
  | false =>
    have HN : Hid (¬ MailV.ok ⟨3, f, t, n, a, r, l⟩) := fun h => by simpa using HQ.out.2 (HO.out.1 h).1
    clear HQ HO p3
    go_wp2
    go_ret
    exact ⟨.no HN.out, b3⟩
  | true =>
  have HP : Hid (nodeR a ∧ a ≠ f ∧ a ≠ t ∧ r = 0) := HQ.out.1 rfl
  clear HQ
  have c1 := p3.cell 1
  have c2 := p3.cell 2
  have c3 := p3.cell 3
  simp only [List.getElem?_toArray, List.getElem?_cons_succ, List.getElem?_cons_zero] at c1 c2 c3
  go_wp2_with fail
  refine (nodeRight_any f _).mono ?_
  rintro e x3 ⟨⟨q, rfl, hq⟩, rfl⟩
  have HQ : Hid (q = true ↔ nodeR f) := hq
  clear hq
  cases q with
  | false =>
    have HN : Hid (¬ MailV.ok ⟨3, f, t, n, a, r, l⟩) := fun h => by simpa using HQ.out.2 (HO.out.1 h).2.1.1
    clear HQ HO p3
    go_wp2
    go_ret
    exact ⟨.no HN.out, b3⟩
  | true =>
  have HF : Hid (nodeR f) := HQ.out.1 rfl
  clear HQ
  go_wp2_with fail
  refine (nodeRight_any t _).mono ?_
  rintro e x3 ⟨⟨q, rfl, hq⟩, rfl⟩
  have HQ : Hid (q = true ↔ nodeR t) := hq
  clear hq
  cases q with
  | false =>
    have HN : Hid (¬ MailV.ok ⟨3, f, t, n, a, r, l⟩) := fun h => by simpa using HQ.out.2 (HO.out.1 h).2.1.2.1
    clear HQ HO p3
    go_wp2
    go_ret
    exact ⟨.no HN.out, b3⟩
  | true =>
  have HT : Hid (nodeR t) := HQ.out.1 rfl
  clear HQ
  by_cases hft : f = t
  · have hd : (f == t) = true := by simpa using hft
    have HN : Hid (¬ MailV.ok ⟨3, f, t, n, a, r, l⟩) := fun h => (HO.out.1 h).2.1.2.2.1 hft
    clear HO p3 hft
    go_wp2
    go_ret
    exact ⟨.no HN.out, b3⟩
  have hd : (f == t) = false := by simpa using hft
  have HE : Hid (f ≠ t) := hft
  clear hft
  go_wp2_with fail
  refine (timeRight_any n _).mono ?_
  rintro e x3 ⟨⟨q, rfl, hq⟩, rfl⟩
  have HQ : Hid (q = true ↔ timeR n) := hq
  clear hq
  cases q with
  | false =>
    have HN : Hid (¬ MailV.ok ⟨3, f, t, n, a, r, l⟩) := fun h => by simpa using HQ.out.2 (HO.out.1 h).2.1.2.2.2
    clear HQ HO p3
    go_wp2
    go_ret
    exact ⟨.no HN.out, b3⟩
  | true =>
  have HM : Hid (timeR n) := HQ.out.1 rfl
  clear HQ c1 c2 c3 hd
  have hrow3 := hrow.keep b3
  go_upto_region 6 with fail
  by_cases hlen : l.length ≤ 3
  · have hdl : decide ((l.length : Int) ≤ 3) = true := decide_eq_true (by omega)
    refine wp_region_held_drew (S := (fun w' => Below x2.heap.size x2 w')) (by kernel_rfl) ?hS0 (fun hHeld => ?_)
    case hS0 => exact (Below.refl _ _).drew
    refine takeG 0 (v := .pointer (some ⟨w.heap.size, 6, none⟩)) rfl (by kernel_rfl) (by kernel_rfl) (by kernel_rfl) (by kernel_rfl) (fun _ _ _ h => h) ?hy (by assumption) ?_
    case hy => (intro w' hSw; go_simp)
    try simp only [List.setIfInBounds_toArray, List.set_cons_zero, List.set_cons_succ]
    refine takeG 1 (v := .slice p l.length cap) rfl (by kernel_rfl) (by kernel_rfl) (by kernel_rfl) (by kernel_rfl) (fun _ _ _ h => h) ?hy (by assumption) ?_
    case hy => (intro w' hSw; have s0 := (p3.keep hSw).cell 6; (try dsimp only at s0); go_simp)
    try simp only [List.setIfInBounds_toArray, List.set_cons_zero, List.set_cons_succ]
    refine takeG 2 (v := .int .i64 l.length) rfl (by kernel_rfl) (by kernel_rfl) (by kernel_rfl) (by kernel_rfl) (fun _ _ _ h => h) ?hy (by assumption) ?_
    case hy => (intro w' hSw; go_simp)
    try simp only [List.setIfInBounds_toArray, List.set_cons_zero, List.set_cons_succ]
    refine takeG 3 (v := .iface 97 (.agg #[.int .i64 3, .int .i64 f, .int .i64 t, .int .i64 n, .int .i64 a, .int .i64 r, .slice p l.length cap])) rfl (by kernel_rfl) (by kernel_rfl) (by kernel_rfl) (by kernel_rfl) (fun _ _ _ h => h) ?hy (by assumption) ?_
    case hy => (intro w' hSw; go_simp)
    try simp only [List.setIfInBounds_toArray, List.set_cons_zero, List.set_cons_succ]
    refine runG 4 (by kernel_rfl) rfl (by kernel_rfl) ?_
    go_simp
    refine (factsMost_ask _ _).mono ?_
    rintro e z1 ⟨rfl, rfl⟩
    refine ⟨hHeld, ?_⟩
    try simp only [Act.put, List.setIfInBounds_toArray, List.set_cons_zero, List.set_cons_succ]
    refine takeG 5 (v := .bool true) rfl (by kernel_rfl) (by kernel_rfl) (by kernel_rfl) (by kernel_rfl) (fun _ _ _ h => h) ?hy (by assumption) ?_
    case hy => (intro w' hSw; go_simp)
    try simp only [List.setIfInBounds_toArray, List.set_cons_zero, List.set_cons_succ]
    refine takeG 6 (v := .bool true) rfl (by kernel_rfl) (by kernel_rfl) (by kernel_rfl) (by kernel_rfl) (fun _ _ _ h => h) ?hy (by assumption) ?_
    case hy => (intro w' hSw; go_simp)
    try simp only [List.setIfInBounds_toArray, List.set_cons_zero, List.set_cons_succ]
    refine takeG 7 (v := .pointer (some ⟨w.heap.size, 6, none⟩)) rfl (by kernel_rfl) (by kernel_rfl) (by kernel_rfl) (by kernel_rfl) (fun _ _ _ h => h) ?hy (by assumption) ?_
    case hy => (intro w' hSw; go_simp)
    try simp only [List.setIfInBounds_toArray, List.set_cons_zero, List.set_cons_succ]
    refine takeG 8 (v := .slice p l.length cap) rfl (by kernel_rfl) (by kernel_rfl) (by kernel_rfl) (by kernel_rfl) (fun _ _ _ h => h) ?hy (by assumption) ?_
    case hy => (intro w' hSw; have s0 := (p3.keep hSw).cell 6; (try dsimp only at s0); go_simp)
    try simp only [List.setIfInBounds_toArray, List.set_cons_zero, List.set_cons_succ]
    refine runG 9 (by kernel_rfl) rfl (by kernel_rfl) ?_
    go_simp
    refine (implVRight_any p cap l _ hl (hrow3.keep hHeld)).mono ?_
    rintro e z2 ⟨⟨q, rfl, hq⟩, bz⟩
    have HQ : Hid (q = true ↔ rightV l) := hq
    have hz : Below x2.heap.size x2 z2 := hHeld.trans (bz.mono hHeld.size)
    have b4 := b3.trans (hz.mono b3.size)
    refine ⟨hz, ?_⟩
    clear hHeld hq bz
    try simp only [Act.put, List.setIfInBounds_toArray, List.set_cons_zero, List.set_cons_succ]
    refine takeG 10 (v := .bool q) rfl (by kernel_rfl) (by kernel_rfl) (by kernel_rfl) (by kernel_rfl) (fun _ _ _ h => h) ?hy (by assumption) ?_
    case hy => (intro w' hSw; go_simp)
    try simp only [List.setIfInBounds_toArray, List.set_cons_zero, List.set_cons_succ]
    refine takeG 11 (v := .bool q) rfl (by kernel_rfl) (by kernel_rfl) (by kernel_rfl) (by kernel_rfl) (fun _ _ _ h => h) ?hy (by assumption) ?_
    case hy => (intro w' hSw; go_simp)
    try simp only [List.setIfInBounds_toArray, List.set_cons_zero, List.set_cons_succ]
    refine wpAnyH_done (by kernel_rfl) ?_ _
    go_wp2
    go_ret
    exact ⟨⟨q, rfl, HQ.out.trans ⟨fun h => HO.out.2 ⟨HP.out, ⟨HF.out, HT.out, HE.out, HM.out⟩, h, hlen⟩, fun h => (HO.out.1 h).2.2.1⟩⟩, b4⟩
  · have hdl : decide ((l.length : Int) ≤ 3) = false := decide_eq_false (by omega)
    have HN : Hid (¬ MailV.ok ⟨3, f, t, n, a, r, l⟩) := fun h => hlen (HO.out.1 h).2.2.2
    refine wp_region_held_drew (S := (fun w' => Below x2.heap.size x2 w')) (by kernel_rfl) ?hS0 (fun hHeld => ?_)
    case hS0 => exact (Below.refl _ _).drew
    refine takeG 0 (v := .pointer (some ⟨w.heap.size, 6, none⟩)) rfl (by kernel_rfl) (by kernel_rfl) (by kernel_rfl) (by kernel_rfl) (fun _ _ _ h => h) ?hy (by assumption) ?_
    case hy => (intro w' hSw; go_simp)
    try simp only [List.setIfInBounds_toArray, List.set_cons_zero, List.set_cons_succ]
    refine takeG 1 (v := .slice p l.length cap) rfl (by kernel_rfl) (by kernel_rfl) (by kernel_rfl) (by kernel_rfl) (fun _ _ _ h => h) ?hy (by assumption) ?_
    case hy => (intro w' hSw; have s0 := (p3.keep hSw).cell 6; (try dsimp only at s0); go_simp)
    try simp only [List.setIfInBounds_toArray, List.set_cons_zero, List.set_cons_succ]
    refine takeG 2 (v := .int .i64 l.length) rfl (by kernel_rfl) (by kernel_rfl) (by kernel_rfl) (by kernel_rfl) (fun _ _ _ h => h) ?hy (by assumption) ?_
    case hy => (intro w' hSw; go_simp)
    try simp only [List.setIfInBounds_toArray, List.set_cons_zero, List.set_cons_succ]
    refine takeG 3 (v := .iface 97 (.agg #[.int .i64 3, .int .i64 f, .int .i64 t, .int .i64 n, .int .i64 a, .int .i64 r, .slice p l.length cap])) rfl (by kernel_rfl) (by kernel_rfl) (by kernel_rfl) (by kernel_rfl) (fun _ _ _ h => h) ?hy (by assumption) ?_
    case hy => (intro w' hSw; go_simp)
    try simp only [List.setIfInBounds_toArray, List.set_cons_zero, List.set_cons_succ]
    refine runG 4 (by kernel_rfl) rfl (by kernel_rfl) ?_
    go_simp
    refine (factsMost_ask _ _).mono ?_
    rintro e z1 ⟨rfl, rfl⟩
    refine ⟨hHeld, ?_⟩
    try simp only [Act.put, List.setIfInBounds_toArray, List.set_cons_zero, List.set_cons_succ]
    refine takeG 5 (v := .bool false) rfl (by kernel_rfl) (by kernel_rfl) (by kernel_rfl) (by kernel_rfl) (fun _ _ _ h => h) ?hy (by assumption) ?_
    case hy => (intro w' hSw; go_simp)
    try simp only [List.setIfInBounds_toArray, List.set_cons_zero, List.set_cons_succ]
    refine takeG 6 (v := .bool false) rfl (by kernel_rfl) (by kernel_rfl) (by kernel_rfl) (by kernel_rfl) (fun _ _ _ h => h) ?hy (by assumption) ?_
    case hy => (intro w' hSw; go_simp)
    try simp only [List.setIfInBounds_toArray, List.set_cons_zero, List.set_cons_succ]
    refine skipG 7 rfl (by kernel_rfl) (by kernel_rfl) (by kernel_rfl) (by kernel_rfl) (fun _ _ _ h => h) (by assumption) ?_
    try simp only [List.setIfInBounds_toArray, List.set_cons_zero, List.set_cons_succ]
    refine skipG 8 rfl (by kernel_rfl) (by kernel_rfl) (by kernel_rfl) (by kernel_rfl) (fun _ _ _ h => h) (by assumption) ?_
    try simp only [List.setIfInBounds_toArray, List.set_cons_zero, List.set_cons_succ]
    refine skipG 9 rfl (by kernel_rfl) (by kernel_rfl) (by kernel_rfl) (by kernel_rfl) (fun _ _ _ h => h) (by assumption) ?_
    try simp only [List.setIfInBounds_toArray, List.set_cons_zero, List.set_cons_succ]
    refine takeG 10 (v := .bool false) rfl (by kernel_rfl) (by kernel_rfl) (by kernel_rfl) (by kernel_rfl) (fun _ _ _ h => h) ?hy (by assumption) ?_
    case hy => (intro w' hSw; go_simp)
    try simp only [List.setIfInBounds_toArray, List.set_cons_zero, List.set_cons_succ]
    refine takeG 11 (v := .bool false) rfl (by kernel_rfl) (by kernel_rfl) (by kernel_rfl) (by kernel_rfl) (fun _ _ _ h => h) ?hy (by assumption) ?_
    case hy => (intro w' hSw; go_simp)
    try simp only [List.setIfInBounds_toArray, List.set_cons_zero, List.set_cons_succ]
    refine wpAnyH_done (by kernel_rfl) ?_ _
    have b4 := b3.trans (hHeld.mono b3.size)
    go_wp2
    go_ret
    exact ⟨.no HN.out, b4⟩

set_option maxHeartbeats 1000000 in
set_option maxRecDepth 100000 in
theorem mRight_sync (f t n a r : Int) (p : Option Addr) (cap : Nat) (l : List FactV) (w : World) (hl : l.length ≤ 1048576) (hrow : CellRow w p (cellsOf FactV.cells l)) :
    Calls Tryd.prog 12 #[.agg #[.int .i64 4, .int .i64 f, .int .i64 t, .int .i64 n, .int .i64 a, .int .i64 r, .slice p l.length cap]] w fun e w' => Tells (MailV.ok ⟨4, f, t, n, a, r, l⟩) e ∧ Below w.heap.size w w' := by
  have HO : Hid (MailV.ok ⟨4, f, t, n, a, r, l⟩ ↔ ((a = 0 ∧ r = 0) ∧ (nodeR f ∧ nodeR t ∧ f ≠ t ∧ timeR n) ∧ rightV l ∧ l.length ≤ 6)) := by
    show _ ↔ _
    unfold MailV.ok MailV.own MailV.alike mostF
    simp
  have b1 := (Below.refl w.heap.size w).alloc (Nat.le_refl _) (.cells #[.int .i64 4, .int .i64 f, .int .i64 t, .int .i64 n, .int .i64 a, .int .i64 r, .slice p l.length cap] 25)
  have p1 := BlkIs.new w 25 #[.int .i64 4, .int .i64 f, .int .i64 t, .int .i64 n, .int .i64 a, .int .i64 r, .slice p l.length cap]
  obtain ⟨W, hW⟩ : ∃ W, w.alloc (.cells #[.int .i64 4, .int .i64 f, .int .i64 t, .int .i64 n, .int .i64 a, .int .i64 r, .slice p l.length cap] 25) = W := ⟨_, rfl⟩
  rw [hW] at b1 p1
  have HW : Hid (_ = W) := hW
  clear hW
  go_enter Tryd.func12, Tryd.ntmps12
  go_wp2_with fail
  rw [HW.out]
  refine (saidOf_sync f t n a r p cap l _).mono ?_
  rintro e x1 ⟨rfl, bx⟩
  have b2 := b1.trans (bx.mono b1.size)
  have p2 := p1.keep bx
  clear b1 bx HW p1
  go_wp2_with fail
  refine (syncOwn_any 4 f t n a r _ _).mono ?_
  rintro e x2 ⟨⟨q, rfl, hq⟩, bx⟩
  have HQ : Hid (q = true ↔ (a = 0 ∧ r = 0)) := hq
  have b3 := b2.trans (bx.mono b2.size)
  have p3 := p2.keep bx
  clear b2 bx p2 hq
  cases q with
  | false =>
    have HN : Hid (¬ MailV.ok ⟨4, f, t, n, a, r, l⟩) := fun h => by simpa using HQ.out.2 (HO.out.1 h).1
    clear HQ HO p3
    go_wp2
    go_ret
    exact ⟨.no HN.out, b3⟩
  | true =>
  have HP : Hid (a = 0 ∧ r = 0) := HQ.out.1 rfl
  clear HQ
  have c1 := p3.cell 1
  have c2 := p3.cell 2
  have c3 := p3.cell 3
  simp only [List.getElem?_toArray, List.getElem?_cons_succ, List.getElem?_cons_zero] at c1 c2 c3
  go_wp2_with fail
  refine (nodeRight_any f _).mono ?_
  rintro e x3 ⟨⟨q, rfl, hq⟩, rfl⟩
  have HQ : Hid (q = true ↔ nodeR f) := hq
  clear hq
  cases q with
  | false =>
    have HN : Hid (¬ MailV.ok ⟨4, f, t, n, a, r, l⟩) := fun h => by simpa using HQ.out.2 (HO.out.1 h).2.1.1
    clear HQ HO p3
    go_wp2
    go_ret
    exact ⟨.no HN.out, b3⟩
  | true =>
  have HF : Hid (nodeR f) := HQ.out.1 rfl
  clear HQ
  go_wp2_with fail
  refine (nodeRight_any t _).mono ?_
  rintro e x3 ⟨⟨q, rfl, hq⟩, rfl⟩
  have HQ : Hid (q = true ↔ nodeR t) := hq
  clear hq
  cases q with
  | false =>
    have HN : Hid (¬ MailV.ok ⟨4, f, t, n, a, r, l⟩) := fun h => by simpa using HQ.out.2 (HO.out.1 h).2.1.2.1
    clear HQ HO p3
    go_wp2
    go_ret
    exact ⟨.no HN.out, b3⟩
  | true =>
  have HT : Hid (nodeR t) := HQ.out.1 rfl
  clear HQ
  by_cases hft : f = t
  · have hd : (f == t) = true := by simpa using hft
    have HN : Hid (¬ MailV.ok ⟨4, f, t, n, a, r, l⟩) := fun h => (HO.out.1 h).2.1.2.2.1 hft
    clear HO p3 hft
    go_wp2
    go_ret
    exact ⟨.no HN.out, b3⟩
  have hd : (f == t) = false := by simpa using hft
  have HE : Hid (f ≠ t) := hft
  clear hft
  go_wp2_with fail
  refine (timeRight_any n _).mono ?_
  rintro e x3 ⟨⟨q, rfl, hq⟩, rfl⟩
  have HQ : Hid (q = true ↔ timeR n) := hq
  clear hq
  cases q with
  | false =>
    have HN : Hid (¬ MailV.ok ⟨4, f, t, n, a, r, l⟩) := fun h => by simpa using HQ.out.2 (HO.out.1 h).2.1.2.2.2
    clear HQ HO p3
    go_wp2
    go_ret
    exact ⟨.no HN.out, b3⟩
  | true =>
  have HM : Hid (timeR n) := HQ.out.1 rfl
  clear HQ c1 c2 c3 hd
  have hrow3 := hrow.keep b3
  go_upto_region 6 with fail
  by_cases hlen : l.length ≤ 6
  · have hdl : decide ((l.length : Int) ≤ 6) = true := decide_eq_true (by omega)
    refine wp_region_held_drew (S := (fun w' => Below x2.heap.size x2 w')) (by kernel_rfl) ?hS0 (fun hHeld => ?_)
    case hS0 => exact (Below.refl _ _).drew
    refine takeG 0 (v := .pointer (some ⟨w.heap.size, 6, none⟩)) rfl (by kernel_rfl) (by kernel_rfl) (by kernel_rfl) (by kernel_rfl) (fun _ _ _ h => h) ?hy (by assumption) ?_
    case hy => (intro w' hSw; go_simp)
    try simp only [List.setIfInBounds_toArray, List.set_cons_zero, List.set_cons_succ]
    refine takeG 1 (v := .slice p l.length cap) rfl (by kernel_rfl) (by kernel_rfl) (by kernel_rfl) (by kernel_rfl) (fun _ _ _ h => h) ?hy (by assumption) ?_
    case hy => (intro w' hSw; have s0 := (p3.keep hSw).cell 6; (try dsimp only at s0); go_simp)
    try simp only [List.setIfInBounds_toArray, List.set_cons_zero, List.set_cons_succ]
    refine takeG 2 (v := .int .i64 l.length) rfl (by kernel_rfl) (by kernel_rfl) (by kernel_rfl) (by kernel_rfl) (fun _ _ _ h => h) ?hy (by assumption) ?_
    case hy => (intro w' hSw; go_simp)
    try simp only [List.setIfInBounds_toArray, List.set_cons_zero, List.set_cons_succ]
    refine takeG 3 (v := .iface 98 (.agg #[.int .i64 4, .int .i64 f, .int .i64 t, .int .i64 n, .int .i64 a, .int .i64 r, .slice p l.length cap])) rfl (by kernel_rfl) (by kernel_rfl) (by kernel_rfl) (by kernel_rfl) (fun _ _ _ h => h) ?hy (by assumption) ?_
    case hy => (intro w' hSw; go_simp)
    try simp only [List.setIfInBounds_toArray, List.set_cons_zero, List.set_cons_succ]
    refine runG 4 (by kernel_rfl) rfl (by kernel_rfl) ?_
    go_simp
    refine (factsMost_sync _ _).mono ?_
    rintro e z1 ⟨rfl, rfl⟩
    refine ⟨hHeld, ?_⟩
    try simp only [Act.put, List.setIfInBounds_toArray, List.set_cons_zero, List.set_cons_succ]
    refine takeG 5 (v := .bool true) rfl (by kernel_rfl) (by kernel_rfl) (by kernel_rfl) (by kernel_rfl) (fun _ _ _ h => h) ?hy (by assumption) ?_
    case hy => (intro w' hSw; go_simp)
    try simp only [List.setIfInBounds_toArray, List.set_cons_zero, List.set_cons_succ]
    refine takeG 6 (v := .bool true) rfl (by kernel_rfl) (by kernel_rfl) (by kernel_rfl) (by kernel_rfl) (fun _ _ _ h => h) ?hy (by assumption) ?_
    case hy => (intro w' hSw; go_simp)
    try simp only [List.setIfInBounds_toArray, List.set_cons_zero, List.set_cons_succ]
    refine takeG 7 (v := .pointer (some ⟨w.heap.size, 6, none⟩)) rfl (by kernel_rfl) (by kernel_rfl) (by kernel_rfl) (by kernel_rfl) (fun _ _ _ h => h) ?hy (by assumption) ?_
    case hy => (intro w' hSw; go_simp)
    try simp only [List.setIfInBounds_toArray, List.set_cons_zero, List.set_cons_succ]
    refine takeG 8 (v := .slice p l.length cap) rfl (by kernel_rfl) (by kernel_rfl) (by kernel_rfl) (by kernel_rfl) (fun _ _ _ h => h) ?hy (by assumption) ?_
    case hy => (intro w' hSw; have s0 := (p3.keep hSw).cell 6; (try dsimp only at s0); go_simp)
    try simp only [List.setIfInBounds_toArray, List.set_cons_zero, List.set_cons_succ]
    refine runG 9 (by kernel_rfl) rfl (by kernel_rfl) ?_
    go_simp
    refine (implVRight_any p cap l _ hl (hrow3.keep hHeld)).mono ?_
    rintro e z2 ⟨⟨q, rfl, hq⟩, bz⟩
    have HQ : Hid (q = true ↔ rightV l) := hq
    have hz : Below x2.heap.size x2 z2 := hHeld.trans (bz.mono hHeld.size)
    have b4 := b3.trans (hz.mono b3.size)
    refine ⟨hz, ?_⟩
    clear hHeld hq bz
    try simp only [Act.put, List.setIfInBounds_toArray, List.set_cons_zero, List.set_cons_succ]
    refine takeG 10 (v := .bool q) rfl (by kernel_rfl) (by kernel_rfl) (by kernel_rfl) (by kernel_rfl) (fun _ _ _ h => h) ?hy (by assumption) ?_
    case hy => (intro w' hSw; go_simp)
    try simp only [List.setIfInBounds_toArray, List.set_cons_zero, List.set_cons_succ]
    refine takeG 11 (v := .bool q) rfl (by kernel_rfl) (by kernel_rfl) (by kernel_rfl) (by kernel_rfl) (fun _ _ _ h => h) ?hy (by assumption) ?_
    case hy => (intro w' hSw; go_simp)
    try simp only [List.setIfInBounds_toArray, List.set_cons_zero, List.set_cons_succ]
    refine wpAnyH_done (by kernel_rfl) ?_ _
    go_wp2
    go_ret
    exact ⟨⟨q, rfl, HQ.out.trans ⟨fun h => HO.out.2 ⟨HP.out, ⟨HF.out, HT.out, HE.out, HM.out⟩, h, hlen⟩, fun h => (HO.out.1 h).2.2.1⟩⟩, b4⟩
  · have hdl : decide ((l.length : Int) ≤ 6) = false := decide_eq_false (by omega)
    have HN : Hid (¬ MailV.ok ⟨4, f, t, n, a, r, l⟩) := fun h => hlen (HO.out.1 h).2.2.2
    refine wp_region_held_drew (S := (fun w' => Below x2.heap.size x2 w')) (by kernel_rfl) ?hS0 (fun hHeld => ?_)
    case hS0 => exact (Below.refl _ _).drew
    refine takeG 0 (v := .pointer (some ⟨w.heap.size, 6, none⟩)) rfl (by kernel_rfl) (by kernel_rfl) (by kernel_rfl) (by kernel_rfl) (fun _ _ _ h => h) ?hy (by assumption) ?_
    case hy => (intro w' hSw; go_simp)
    try simp only [List.setIfInBounds_toArray, List.set_cons_zero, List.set_cons_succ]
    refine takeG 1 (v := .slice p l.length cap) rfl (by kernel_rfl) (by kernel_rfl) (by kernel_rfl) (by kernel_rfl) (fun _ _ _ h => h) ?hy (by assumption) ?_
    case hy => (intro w' hSw; have s0 := (p3.keep hSw).cell 6; (try dsimp only at s0); go_simp)
    try simp only [List.setIfInBounds_toArray, List.set_cons_zero, List.set_cons_succ]
    refine takeG 2 (v := .int .i64 l.length) rfl (by kernel_rfl) (by kernel_rfl) (by kernel_rfl) (by kernel_rfl) (fun _ _ _ h => h) ?hy (by assumption) ?_
    case hy => (intro w' hSw; go_simp)
    try simp only [List.setIfInBounds_toArray, List.set_cons_zero, List.set_cons_succ]
    refine takeG 3 (v := .iface 98 (.agg #[.int .i64 4, .int .i64 f, .int .i64 t, .int .i64 n, .int .i64 a, .int .i64 r, .slice p l.length cap])) rfl (by kernel_rfl) (by kernel_rfl) (by kernel_rfl) (by kernel_rfl) (fun _ _ _ h => h) ?hy (by assumption) ?_
    case hy => (intro w' hSw; go_simp)
    try simp only [List.setIfInBounds_toArray, List.set_cons_zero, List.set_cons_succ]
    refine runG 4 (by kernel_rfl) rfl (by kernel_rfl) ?_
    go_simp
    refine (factsMost_sync _ _).mono ?_
    rintro e z1 ⟨rfl, rfl⟩
    refine ⟨hHeld, ?_⟩
    try simp only [Act.put, List.setIfInBounds_toArray, List.set_cons_zero, List.set_cons_succ]
    refine takeG 5 (v := .bool false) rfl (by kernel_rfl) (by kernel_rfl) (by kernel_rfl) (by kernel_rfl) (fun _ _ _ h => h) ?hy (by assumption) ?_
    case hy => (intro w' hSw; go_simp)
    try simp only [List.setIfInBounds_toArray, List.set_cons_zero, List.set_cons_succ]
    refine takeG 6 (v := .bool false) rfl (by kernel_rfl) (by kernel_rfl) (by kernel_rfl) (by kernel_rfl) (fun _ _ _ h => h) ?hy (by assumption) ?_
    case hy => (intro w' hSw; go_simp)
    try simp only [List.setIfInBounds_toArray, List.set_cons_zero, List.set_cons_succ]
    refine skipG 7 rfl (by kernel_rfl) (by kernel_rfl) (by kernel_rfl) (by kernel_rfl) (fun _ _ _ h => h) (by assumption) ?_
    try simp only [List.setIfInBounds_toArray, List.set_cons_zero, List.set_cons_succ]
    refine skipG 8 rfl (by kernel_rfl) (by kernel_rfl) (by kernel_rfl) (by kernel_rfl) (fun _ _ _ h => h) (by assumption) ?_
    try simp only [List.setIfInBounds_toArray, List.set_cons_zero, List.set_cons_succ]
    refine skipG 9 rfl (by kernel_rfl) (by kernel_rfl) (by kernel_rfl) (by kernel_rfl) (fun _ _ _ h => h) (by assumption) ?_
    try simp only [List.setIfInBounds_toArray, List.set_cons_zero, List.set_cons_succ]
    refine takeG 10 (v := .bool false) rfl (by kernel_rfl) (by kernel_rfl) (by kernel_rfl) (by kernel_rfl) (fun _ _ _ h => h) ?hy (by assumption) ?_
    case hy => (intro w' hSw; go_simp)
    try simp only [List.setIfInBounds_toArray, List.set_cons_zero, List.set_cons_succ]
    refine takeG 11 (v := .bool false) rfl (by kernel_rfl) (by kernel_rfl) (by kernel_rfl) (by kernel_rfl) (fun _ _ _ h => h) ?hy (by assumption) ?_
    case hy => (intro w' hSw; go_simp)
    try simp only [List.setIfInBounds_toArray, List.set_cons_zero, List.set_cons_succ]
    refine wpAnyH_done (by kernel_rfl) ?_ _
    have b4 := b3.trans (hHeld.mono b3.size)
    go_wp2
    go_ret
    exact ⟨.no HN.out, b4⟩

set_option maxHeartbeats 1000000 in
set_option maxRecDepth 100000 in
theorem mRight_tell (f t n a r : Int) (p : Option Addr) (cap : Nat) (l : List FactV) (w : World) (hl : l.length ≤ 1048576) (hrow : CellRow w p (cellsOf FactV.cells l)) :
    Calls Tryd.prog 12 #[.agg #[.int .i64 5, .int .i64 f, .int .i64 t, .int .i64 n, .int .i64 a, .int .i64 r, .slice p l.length cap]] w fun e w' => Tells (MailV.ok ⟨5, f, t, n, a, r, l⟩) e ∧ Below w.heap.size w w' := by
  have HO : Hid (MailV.ok ⟨5, f, t, n, a, r, l⟩ ↔ ((a = 0 ∧ r = 0) ∧ (nodeR f ∧ nodeR t ∧ f ≠ t ∧ timeR n) ∧ rightV l ∧ l.length ≤ 6)) := by
    show _ ↔ _
    unfold MailV.ok MailV.own MailV.alike mostF
    simp
  have b1 := (Below.refl w.heap.size w).alloc (Nat.le_refl _) (.cells #[.int .i64 5, .int .i64 f, .int .i64 t, .int .i64 n, .int .i64 a, .int .i64 r, .slice p l.length cap] 25)
  have p1 := BlkIs.new w 25 #[.int .i64 5, .int .i64 f, .int .i64 t, .int .i64 n, .int .i64 a, .int .i64 r, .slice p l.length cap]
  obtain ⟨W, hW⟩ : ∃ W, w.alloc (.cells #[.int .i64 5, .int .i64 f, .int .i64 t, .int .i64 n, .int .i64 a, .int .i64 r, .slice p l.length cap] 25) = W := ⟨_, rfl⟩
  rw [hW] at b1 p1
  have HW : Hid (_ = W) := hW
  clear hW
  go_enter Tryd.func12, Tryd.ntmps12
  go_wp2_with fail
  rw [HW.out]
  refine (saidOf_tell f t n a r p cap l _).mono ?_
  rintro e x1 ⟨rfl, bx⟩
  have b2 := b1.trans (bx.mono b1.size)
  have p2 := p1.keep bx
  clear b1 bx HW p1
  go_wp2_with fail
  refine (tellOwn_any 5 f t n a r _ _).mono ?_
  rintro e x2 ⟨⟨q, rfl, hq⟩, bx⟩
  have HQ : Hid (q = true ↔ (a = 0 ∧ r = 0)) := hq
  have b3 := b2.trans (bx.mono b2.size)
  have p3 := p2.keep bx
  clear b2 bx p2 hq
  cases q with
  | false =>
    have HN : Hid (¬ MailV.ok ⟨5, f, t, n, a, r, l⟩) := fun h => by simpa using HQ.out.2 (HO.out.1 h).1
    clear HQ HO p3
    go_wp2
    go_ret
    exact ⟨.no HN.out, b3⟩
  | true =>
  have HP : Hid (a = 0 ∧ r = 0) := HQ.out.1 rfl
  clear HQ
  have c1 := p3.cell 1
  have c2 := p3.cell 2
  have c3 := p3.cell 3
  simp only [List.getElem?_toArray, List.getElem?_cons_succ, List.getElem?_cons_zero] at c1 c2 c3
  go_wp2_with fail
  refine (nodeRight_any f _).mono ?_
  rintro e x3 ⟨⟨q, rfl, hq⟩, rfl⟩
  have HQ : Hid (q = true ↔ nodeR f) := hq
  clear hq
  cases q with
  | false =>
    have HN : Hid (¬ MailV.ok ⟨5, f, t, n, a, r, l⟩) := fun h => by simpa using HQ.out.2 (HO.out.1 h).2.1.1
    clear HQ HO p3
    go_wp2
    go_ret
    exact ⟨.no HN.out, b3⟩
  | true =>
  have HF : Hid (nodeR f) := HQ.out.1 rfl
  clear HQ
  go_wp2_with fail
  refine (nodeRight_any t _).mono ?_
  rintro e x3 ⟨⟨q, rfl, hq⟩, rfl⟩
  have HQ : Hid (q = true ↔ nodeR t) := hq
  clear hq
  cases q with
  | false =>
    have HN : Hid (¬ MailV.ok ⟨5, f, t, n, a, r, l⟩) := fun h => by simpa using HQ.out.2 (HO.out.1 h).2.1.2.1
    clear HQ HO p3
    go_wp2
    go_ret
    exact ⟨.no HN.out, b3⟩
  | true =>
  have HT : Hid (nodeR t) := HQ.out.1 rfl
  clear HQ
  by_cases hft : f = t
  · have hd : (f == t) = true := by simpa using hft
    have HN : Hid (¬ MailV.ok ⟨5, f, t, n, a, r, l⟩) := fun h => (HO.out.1 h).2.1.2.2.1 hft
    clear HO p3 hft
    go_wp2
    go_ret
    exact ⟨.no HN.out, b3⟩
  have hd : (f == t) = false := by simpa using hft
  have HE : Hid (f ≠ t) := hft
  clear hft
  go_wp2_with fail
  refine (timeRight_any n _).mono ?_
  rintro e x3 ⟨⟨q, rfl, hq⟩, rfl⟩
  have HQ : Hid (q = true ↔ timeR n) := hq
  clear hq
  cases q with
  | false =>
    have HN : Hid (¬ MailV.ok ⟨5, f, t, n, a, r, l⟩) := fun h => by simpa using HQ.out.2 (HO.out.1 h).2.1.2.2.2
    clear HQ HO p3
    go_wp2
    go_ret
    exact ⟨.no HN.out, b3⟩
  | true =>
  have HM : Hid (timeR n) := HQ.out.1 rfl
  clear HQ c1 c2 c3 hd
  have hrow3 := hrow.keep b3
  go_upto_region 6 with fail
  by_cases hlen : l.length ≤ 6
  · have hdl : decide ((l.length : Int) ≤ 6) = true := decide_eq_true (by omega)
    refine wp_region_held_drew (S := (fun w' => Below x2.heap.size x2 w')) (by kernel_rfl) ?hS0 (fun hHeld => ?_)
    case hS0 => exact (Below.refl _ _).drew
    refine takeG 0 (v := .pointer (some ⟨w.heap.size, 6, none⟩)) rfl (by kernel_rfl) (by kernel_rfl) (by kernel_rfl) (by kernel_rfl) (fun _ _ _ h => h) ?hy (by assumption) ?_
    case hy => (intro w' hSw; go_simp)
    try simp only [List.setIfInBounds_toArray, List.set_cons_zero, List.set_cons_succ]
    refine takeG 1 (v := .slice p l.length cap) rfl (by kernel_rfl) (by kernel_rfl) (by kernel_rfl) (by kernel_rfl) (fun _ _ _ h => h) ?hy (by assumption) ?_
    case hy => (intro w' hSw; have s0 := (p3.keep hSw).cell 6; (try dsimp only at s0); go_simp)
    try simp only [List.setIfInBounds_toArray, List.set_cons_zero, List.set_cons_succ]
    refine takeG 2 (v := .int .i64 l.length) rfl (by kernel_rfl) (by kernel_rfl) (by kernel_rfl) (by kernel_rfl) (fun _ _ _ h => h) ?hy (by assumption) ?_
    case hy => (intro w' hSw; go_simp)
    try simp only [List.setIfInBounds_toArray, List.set_cons_zero, List.set_cons_succ]
    refine takeG 3 (v := .iface 99 (.agg #[.int .i64 5, .int .i64 f, .int .i64 t, .int .i64 n, .int .i64 a, .int .i64 r, .slice p l.length cap])) rfl (by kernel_rfl) (by kernel_rfl) (by kernel_rfl) (by kernel_rfl) (fun _ _ _ h => h) ?hy (by assumption) ?_
    case hy => (intro w' hSw; go_simp)
    try simp only [List.setIfInBounds_toArray, List.set_cons_zero, List.set_cons_succ]
    refine runG 4 (by kernel_rfl) rfl (by kernel_rfl) ?_
    go_simp
    refine (factsMost_tell _ _).mono ?_
    rintro e z1 ⟨rfl, rfl⟩
    refine ⟨hHeld, ?_⟩
    try simp only [Act.put, List.setIfInBounds_toArray, List.set_cons_zero, List.set_cons_succ]
    refine takeG 5 (v := .bool true) rfl (by kernel_rfl) (by kernel_rfl) (by kernel_rfl) (by kernel_rfl) (fun _ _ _ h => h) ?hy (by assumption) ?_
    case hy => (intro w' hSw; go_simp)
    try simp only [List.setIfInBounds_toArray, List.set_cons_zero, List.set_cons_succ]
    refine takeG 6 (v := .bool true) rfl (by kernel_rfl) (by kernel_rfl) (by kernel_rfl) (by kernel_rfl) (fun _ _ _ h => h) ?hy (by assumption) ?_
    case hy => (intro w' hSw; go_simp)
    try simp only [List.setIfInBounds_toArray, List.set_cons_zero, List.set_cons_succ]
    refine takeG 7 (v := .pointer (some ⟨w.heap.size, 6, none⟩)) rfl (by kernel_rfl) (by kernel_rfl) (by kernel_rfl) (by kernel_rfl) (fun _ _ _ h => h) ?hy (by assumption) ?_
    case hy => (intro w' hSw; go_simp)
    try simp only [List.setIfInBounds_toArray, List.set_cons_zero, List.set_cons_succ]
    refine takeG 8 (v := .slice p l.length cap) rfl (by kernel_rfl) (by kernel_rfl) (by kernel_rfl) (by kernel_rfl) (fun _ _ _ h => h) ?hy (by assumption) ?_
    case hy => (intro w' hSw; have s0 := (p3.keep hSw).cell 6; (try dsimp only at s0); go_simp)
    try simp only [List.setIfInBounds_toArray, List.set_cons_zero, List.set_cons_succ]
    refine runG 9 (by kernel_rfl) rfl (by kernel_rfl) ?_
    go_simp
    refine (implVRight_any p cap l _ hl (hrow3.keep hHeld)).mono ?_
    rintro e z2 ⟨⟨q, rfl, hq⟩, bz⟩
    have HQ : Hid (q = true ↔ rightV l) := hq
    have hz : Below x2.heap.size x2 z2 := hHeld.trans (bz.mono hHeld.size)
    have b4 := b3.trans (hz.mono b3.size)
    refine ⟨hz, ?_⟩
    clear hHeld hq bz
    try simp only [Act.put, List.setIfInBounds_toArray, List.set_cons_zero, List.set_cons_succ]
    refine takeG 10 (v := .bool q) rfl (by kernel_rfl) (by kernel_rfl) (by kernel_rfl) (by kernel_rfl) (fun _ _ _ h => h) ?hy (by assumption) ?_
    case hy => (intro w' hSw; go_simp)
    try simp only [List.setIfInBounds_toArray, List.set_cons_zero, List.set_cons_succ]
    refine takeG 11 (v := .bool q) rfl (by kernel_rfl) (by kernel_rfl) (by kernel_rfl) (by kernel_rfl) (fun _ _ _ h => h) ?hy (by assumption) ?_
    case hy => (intro w' hSw; go_simp)
    try simp only [List.setIfInBounds_toArray, List.set_cons_zero, List.set_cons_succ]
    refine wpAnyH_done (by kernel_rfl) ?_ _
    go_wp2
    go_ret
    exact ⟨⟨q, rfl, HQ.out.trans ⟨fun h => HO.out.2 ⟨HP.out, ⟨HF.out, HT.out, HE.out, HM.out⟩, h, hlen⟩, fun h => (HO.out.1 h).2.2.1⟩⟩, b4⟩
  · have hdl : decide ((l.length : Int) ≤ 6) = false := decide_eq_false (by omega)
    have HN : Hid (¬ MailV.ok ⟨5, f, t, n, a, r, l⟩) := fun h => hlen (HO.out.1 h).2.2.2
    refine wp_region_held_drew (S := (fun w' => Below x2.heap.size x2 w')) (by kernel_rfl) ?hS0 (fun hHeld => ?_)
    case hS0 => exact (Below.refl _ _).drew
    refine takeG 0 (v := .pointer (some ⟨w.heap.size, 6, none⟩)) rfl (by kernel_rfl) (by kernel_rfl) (by kernel_rfl) (by kernel_rfl) (fun _ _ _ h => h) ?hy (by assumption) ?_
    case hy => (intro w' hSw; go_simp)
    try simp only [List.setIfInBounds_toArray, List.set_cons_zero, List.set_cons_succ]
    refine takeG 1 (v := .slice p l.length cap) rfl (by kernel_rfl) (by kernel_rfl) (by kernel_rfl) (by kernel_rfl) (fun _ _ _ h => h) ?hy (by assumption) ?_
    case hy => (intro w' hSw; have s0 := (p3.keep hSw).cell 6; (try dsimp only at s0); go_simp)
    try simp only [List.setIfInBounds_toArray, List.set_cons_zero, List.set_cons_succ]
    refine takeG 2 (v := .int .i64 l.length) rfl (by kernel_rfl) (by kernel_rfl) (by kernel_rfl) (by kernel_rfl) (fun _ _ _ h => h) ?hy (by assumption) ?_
    case hy => (intro w' hSw; go_simp)
    try simp only [List.setIfInBounds_toArray, List.set_cons_zero, List.set_cons_succ]
    refine takeG 3 (v := .iface 99 (.agg #[.int .i64 5, .int .i64 f, .int .i64 t, .int .i64 n, .int .i64 a, .int .i64 r, .slice p l.length cap])) rfl (by kernel_rfl) (by kernel_rfl) (by kernel_rfl) (by kernel_rfl) (fun _ _ _ h => h) ?hy (by assumption) ?_
    case hy => (intro w' hSw; go_simp)
    try simp only [List.setIfInBounds_toArray, List.set_cons_zero, List.set_cons_succ]
    refine runG 4 (by kernel_rfl) rfl (by kernel_rfl) ?_
    go_simp
    refine (factsMost_tell _ _).mono ?_
    rintro e z1 ⟨rfl, rfl⟩
    refine ⟨hHeld, ?_⟩
    try simp only [Act.put, List.setIfInBounds_toArray, List.set_cons_zero, List.set_cons_succ]
    refine takeG 5 (v := .bool false) rfl (by kernel_rfl) (by kernel_rfl) (by kernel_rfl) (by kernel_rfl) (fun _ _ _ h => h) ?hy (by assumption) ?_
    case hy => (intro w' hSw; go_simp)
    try simp only [List.setIfInBounds_toArray, List.set_cons_zero, List.set_cons_succ]
    refine takeG 6 (v := .bool false) rfl (by kernel_rfl) (by kernel_rfl) (by kernel_rfl) (by kernel_rfl) (fun _ _ _ h => h) ?hy (by assumption) ?_
    case hy => (intro w' hSw; go_simp)
    try simp only [List.setIfInBounds_toArray, List.set_cons_zero, List.set_cons_succ]
    refine skipG 7 rfl (by kernel_rfl) (by kernel_rfl) (by kernel_rfl) (by kernel_rfl) (fun _ _ _ h => h) (by assumption) ?_
    try simp only [List.setIfInBounds_toArray, List.set_cons_zero, List.set_cons_succ]
    refine skipG 8 rfl (by kernel_rfl) (by kernel_rfl) (by kernel_rfl) (by kernel_rfl) (fun _ _ _ h => h) (by assumption) ?_
    try simp only [List.setIfInBounds_toArray, List.set_cons_zero, List.set_cons_succ]
    refine skipG 9 rfl (by kernel_rfl) (by kernel_rfl) (by kernel_rfl) (by kernel_rfl) (fun _ _ _ h => h) (by assumption) ?_
    try simp only [List.setIfInBounds_toArray, List.set_cons_zero, List.set_cons_succ]
    refine takeG 10 (v := .bool false) rfl (by kernel_rfl) (by kernel_rfl) (by kernel_rfl) (by kernel_rfl) (fun _ _ _ h => h) ?hy (by assumption) ?_
    case hy => (intro w' hSw; go_simp)
    try simp only [List.setIfInBounds_toArray, List.set_cons_zero, List.set_cons_succ]
    refine takeG 11 (v := .bool false) rfl (by kernel_rfl) (by kernel_rfl) (by kernel_rfl) (by kernel_rfl) (fun _ _ _ h => h) ?hy (by assumption) ?_
    case hy => (intro w' hSw; go_simp)
    try simp only [List.setIfInBounds_toArray, List.set_cons_zero, List.set_cons_succ]
    refine wpAnyH_done (by kernel_rfl) ?_ _
    have b4 := b3.trans (hHeld.mono b3.size)
    go_wp2
    go_ret
    exact ⟨.no HN.out, b4⟩

theorem implMRight_any (k f t n a r : Int) (p : Option Addr) (cap : Nat) (l : List FactV) (w : World) (hl : l.length ≤ 1048576) (hrow : CellRow w p (cellsOf FactV.cells l)) :
    Calls Tryd.prog 12 #[.agg #[.int .i64 k, .int .i64 f, .int .i64 t, .int .i64 n, .int .i64 a, .int .i64 r, .slice p l.length cap]] w fun e w' => Tells (MailV.ok ⟨k, f, t, n, a, r, l⟩) e ∧ Below w.heap.size w w' := by
  by_cases h1 : k = 1
  · subst h1; exact mRight_ping f t n a r p cap l w hl hrow
  by_cases h2 : k = 2
  · subst h2; exact mRight_ack f t n a r p cap l w hl hrow
  by_cases h3 : k = 3
  · subst h3; exact mRight_ask f t n a r p cap l w hl hrow
  by_cases h4 : k = 4
  · subst h4; exact mRight_sync f t n a r p cap l w hl hrow
  by_cases h5 : k = 5
  · subst h5; exact mRight_tell f t n a r p cap l w hl hrow
  exact mRight_none k f t n a r p cap l w h1 h2 h3 h4 h5
theorem implMRight_is (k f t n a r : Int) (p : Option Addr) (cap : Nat) (l : List FactV) (w : World) (q : Bool) (hq : q = true ↔ MailV.ok ⟨k, f, t, n, a, r, l⟩) (hl : l.length ≤ 1048576) (hrow : CellRow w p (cellsOf FactV.cells l)) :
    Calls Tryd.prog 12 #[.agg #[.int .i64 k, .int .i64 f, .int .i64 t, .int .i64 n, .int .i64 a, .int .i64 r, .slice p l.length cap]] w fun e w' => e = .returned (.bool q) ∧ Below w.heap.size w w' := (implMRight_any k f t n a r p cap l w hl hrow).mono fun e w' h => ⟨h.1.is hq, h.2⟩
end Go.Proofs.YtpjdkgcdkfmkiaaDoor
