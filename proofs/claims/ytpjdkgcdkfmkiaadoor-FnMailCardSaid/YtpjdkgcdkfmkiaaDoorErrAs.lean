/- errors.As at the target badBytes, for a chain of badParts that ends in a badBytes: the code is found. -/
import Derived.Test.YtpjdkgcdkfmkiaaDoorErrFacts
import Derived.Deep.LoopGhost
namespace Go.Proofs.YtpjdkgcdkfmkiaaDoor
open Go Go.RowKit Go.Extern.Stop Go.Stop Go.Extern
set_option linter.unusedVariables false

set_option maxHeartbeats 1000000 in
set_option maxRecDepth 100000 in
theorem as_any (ps : List ByteArray) (c : Int) (t : Addr) (va : Addr) (old : Value) (w : World) (hva : w.cell? va = some (.pointer (some t))) (ht : w.cell? t = some old) (hf : w.frozen? t = false) :
    Calls Tryd.prog 73 #[errV ps c, .iface 90 (.pointer (some t)), .agg #[.pointer (some ⟨1, 90, none⟩), .pointer (some va), .int .u64 150], .iface 133 (.agg #[.pointer (some ⟨1, 86, none⟩)])] w
      fun e w' => e = .returned (.bool true) ∧ ∃ w1, Below w.heap.size w w1 ∧ w' = w1.setCell t (.int .i64 c) := by
  have h1 := @run_callFunc_extern Tryd.prog 82 _ ReflectliteType.typeOf Tryd.func82 (by kernel_rfl) (by kernel_rfl) (by kernel_rfl) (by kernel_rfl)
  have h2 := @run_callFunc_extern Tryd.prog 118 _ (ReflectliteType.relation "AssignableTo" ReflectliteType.assignableTo) Tryd.func118 (by kernel_rfl) (by kernel_rfl) (by kernel_rfl) (by kernel_rfl)
  have h3 := @run_callFunc_extern Tryd.prog 83 _ (ReflectliteValue.method (ReflectliteValue.valueError "reflectlite.Value.Elem" 0) ReflectliteValue.elem) Tryd.func83 (by kernel_rfl) (by kernel_rfl) (by kernel_rfl) (by kernel_rfl)
  have h4 := @run_callFunc_extern Tryd.prog 70 _ (fun args => ReflectliteValue.unpack (args.getD 0 (.tuple #[]))) Tryd.func70 (by kernel_rfl) (by kernel_rfl) (by kernel_rfl) (by kernel_rfl)
  have h5 := @run_callFunc_extern Tryd.prog 84 _ ReflectliteValue.set Tryd.func84 (by kernel_rfl) (by kernel_rfl) (by kernel_rfl) (by kernel_rfl)
  have f1 := era.typeOfE
  have f2 := era.typeOfP
  have f3 := era.assignableE
  have f4 := era.assignableP
  have f5 := era.valueOfE
  have m1 := era.methodAssignableTo
  have m2 := era.methodUnwrap
  have ta1 := era.notAs
  have ta2 := era.isUnwrap
  go_enter Tryd.func73, Tryd.ntmps73
  go_wp2
  go_loopg [0, 9, 10, 11, 12, 14, 15] ps.length (fun k e _ _ _ _ _ _ wr => ∃ qs : List ByteArray, qs.length = k ∧ e = errV qs c ∧ Below (w.heap.size + 1) (w.alloc (.cells #[.pointer (some ⟨1, 90, none⟩), .pointer (some va), .int .u64 150] 114)) wr)
  case atStart => exact ⟨ps, rfl, rfl, Below.refl _ _⟩
  case round =>
    obtain ⟨qs, rfl, rfl, hnx⟩ := hrel
    have c0 : wr.cell? ⟨w.heap.size, 0, none⟩ = some (.pointer (some ⟨1, 90, none⟩)) := by rw [hnx.cell (by simp), World.cell?_alloc_at _ _ _ _ rfl]; rfl
    have c1 : wr.cell? ⟨w.heap.size, 1, none⟩ = some (.pointer (some va)) := by rw [hnx.cell (by simp), World.cell?_alloc_at _ _ _ _ rfl]; rfl
    have c2 : wr.cell? ⟨w.heap.size, 2, none⟩ = some (.int .u64 150) := by rw [hnx.cell (by simp), World.cell?_alloc_at _ _ _ _ rfl]; rfl
    have hv' := keep hnx hva
    have ht' := keep hnx ht
    have hf' := keepF hnx ht hf
    have e1 := era.elemV va t wr hv'
    have st := era.setE t ⟨wr.heap.size, 0, none⟩ c old (wr.alloc (.cells #[.int .i64 c] 86)) (by rw [World.cell?_alloc_at _ _ _ _ rfl]; rfl) (by rw [World.cell?_alloc_lt _ _ t (cell_lt ht')]; exact ht') (by rw [World.frozen?_alloc_old _ _ t (Nat.ne_of_lt (cell_lt ht'))]; exact hf')
    have hb0 : Below w.heap.size w wr := ((Below.refl _ _).alloc (Nat.le_refl _) _).trans (hnx.mono (by omega))
    have hb1 : Below w.heap.size w (wr.alloc (.cells #[.int .i64 c] 86)) := hb0.alloc hb0.size _
    clear hva ht hf hv' ht' hf'
    cases qs with
    | nil =>
      unfold errV
      go_wp2
      go_ret
      exact ⟨rfl, _, hb1, rfl⟩
    | cons p qs =>
      unfold errV
      obtain ⟨ty, x, hx⟩ := errV_iface qs c
      rw [hx]
      have HX : Hid (errV qs c = .iface ty x) := hx
      clear hx
      go_wp2
      go_roundg qs.length
      case measure => simp
      case rel => exact ⟨qs, rfl, HX.out.symm, hnx.alloc (by have := hnx.size; simpa using this) _⟩

/-- What the listed variable's cell holds. -/
def errCell (w : World) : Prop := w.cell? ⟨0, 0, none⟩ = some (.iface 133 (.agg #[.pointer (some ⟨1, 51, none⟩)]))
theorem errCell.keep {w w' : World} (h : errCell w) (hb : Below w.heap.size w w') : errCell w' := by
  unfold errCell at *
  rw [hb.cell (cell_lt h)]; exact h

set_option maxHeartbeats 1000000 in
set_option maxRecDepth 100000 in
theorem As_any (ps : List ByteArray) (c : Int) (t : Addr) (old : Value) (w : World) (hg : errCell w) (ht : w.cell? t = some old) (hf : w.frozen? t = false) :
    Calls Tryd.prog 55 #[errV ps c, .iface 90 (.pointer (some t))] w
      fun e w' => e = .returned (.bool true) ∧ ∃ w1, Below w.heap.size w w1 ∧ w' = w1.setCell t (.int .i64 c) := by
  have h1 := @run_callFunc_extern Tryd.prog 70 _ (fun args => ReflectliteValue.unpack (args.getD 0 (.tuple #[]))) Tryd.func70 (by kernel_rfl) (by kernel_rfl) (by kernel_rfl) (by kernel_rfl)
  have h2 := @run_callFunc_extern Tryd.prog 71 _ (ReflectliteValue.methodAny (ReflectliteValue.valueError "reflectlite.Value.Type" 0) (fun t _ _ _ => ReflectliteType.toType t)) Tryd.func71 (by kernel_rfl) (by kernel_rfl) (by kernel_rfl) (by kernel_rfl)
  have h3 := @run_callFunc_extern Tryd.prog 72 _ (ReflectliteValue.method (ReflectliteValue.valueError "reflectlite.Value.IsNil" 0) ReflectliteValue.isNil) Tryd.func72 (by kernel_rfl) (by kernel_rfl) (by kernel_rfl) (by kernel_rfl)
  have h4 := @run_callFunc_extern Tryd.prog 102 _ (ReflectliteType.abiMethod fun t => do pure (.int .u8 (← Rtype.kind t))) Tryd.func102 (by kernel_rfl) (by kernel_rfl) (by kernel_rfl) (by kernel_rfl)
  have h5 := @run_callFunc_extern Tryd.prog 120 _ (ReflectliteType.method ReflectliteType.elem) Tryd.func120 (by kernel_rfl) (by kernel_rfl) (by kernel_rfl) (by kernel_rfl)
  have h6 := @run_callFunc_extern Tryd.prog 121 _ (ReflectliteType.relation "Implements" ReflectliteType.implements_) Tryd.func121 (by kernel_rfl) (by kernel_rfl) (by kernel_rfl) (by kernel_rfl)
  have f1 := era.valueOfT
  have f2 := era.typeT
  have f3 := era.kindT
  have f4 := era.kindE
  have f5 := era.elemT
  have f6 := era.implementsE
  have m1 := era.methodKind
  have m2 := era.methodElem
  have m3 := era.methodImplements
  have hl0 := cell_lt hg
  have htl := cell_lt ht
  have n8 := era.isNilT ⟨w.heap.size, 0, none⟩ t ((w.alloc (.cells #[.pointer (some t)] 90)).alloc (.cells #[.pointer (some ⟨1, 90, none⟩), .pointer (some ⟨w.heap.size, 0, none⟩), .int .u64 150] 114)) (by simp)
  have hg2 : ((w.alloc (.cells #[.pointer (some t)] 90)).alloc (.cells #[.pointer (some ⟨1, 90, none⟩), .pointer (some ⟨w.heap.size, 0, none⟩), .int .u64 150] 114)).cell? ⟨0, 0, none⟩ = some (.iface 133 (.agg #[.pointer (some ⟨1, 51, none⟩)])) := by
    rw [World.cell?_alloc_lt _ _ _ (by simp), World.cell?_alloc_lt _ _ _ hl0]; exact hg
  have hb2 : Below w.heap.size w ((w.alloc (.cells #[.pointer (some t)] 90)).alloc (.cells #[.pointer (some ⟨1, 90, none⟩), .pointer (some ⟨w.heap.size, 0, none⟩), .int .u64 150] 114)) := ((Below.refl _ _).alloc (Nat.le_refl _) _).alloc (by simp) _
  have hv2 : ((w.alloc (.cells #[.pointer (some t)] 90)).alloc (.cells #[.pointer (some ⟨1, 90, none⟩), .pointer (some ⟨w.heap.size, 0, none⟩), .int .u64 150] 114)).cell? ⟨w.heap.size, 0, none⟩ = some (.pointer (some t)) := by simp
  have ht2 := (hb2.cell htl).trans ht
  have hf2 := (hb2.frozen htl).trans hf
  obtain ⟨ty, x, hx⟩ := errV_iface ps c
  rw [hx]
  have HX : Hid (errV ps c = .iface ty x) := hx
  clear hx
  go_enter Tryd.func55, Tryd.ntmps55
  go_wp2_with (go_at_call 73; rw [← HX.out]; refine (as_any ps c t ⟨w.heap.size, 0, none⟩ old _ hv2 ht2 hf2).mono ?_; rintro e w' ⟨rfl, w1, hb, rfl⟩)
  go_ret
  exact ⟨rfl, w1, hb2.trans (hb.mono hb2.size), rfl⟩

theorem As_cell (ps : List ByteArray) (c : Int) (t : Addr) (old : Value) (w : World) (hg : errCell w) (ht : w.cell? t = some old) (hf : w.frozen? t = false) :
    Calls Tryd.prog 55 #[errV ps c, .iface 90 (.pointer (some t))] w
      fun e w' => e = .returned (.bool true) ∧ w'.cell? t = some (.int .i64 c) ∧ Below t.block w w' := by
  refine (As_any ps c t old w hg ht hf).mono ?_
  rintro e w' ⟨rfl, w1, hb, rfl⟩
  have hc : w1.cell? t = some old := (hb.cell (cell_lt ht)).trans ht
  exact ⟨rfl, World.cell?_setCell_same' _ _ _ (by rw [hc]; rfl), (hb.mono (Nat.le_of_lt (cell_lt ht))).setCell (Nat.le_refl _) _⟩

set_option maxHeartbeats 1000000 in
set_option maxRecDepth 100000 in
/-- codeOf tells the code of the innermost error. -/
theorem codeOf_any (ps : List ByteArray) (c : Int) (w : World) (hg : errCell w) :
    Calls Tryd.prog 27 #[errV ps c] w fun e w' => e = .returned (.int .i64 c) ∧ Below w.heap.size w w' := by
  have hb0 : Below w.heap.size w (w.alloc (.cells #[.int .i64 0] 86)) := (Below.refl _ _).alloc (Nat.le_refl _) _
  have hg1 := hg.keep hb0
  obtain ⟨ty, x, hx⟩ := errV_iface ps c
  rw [hx]
  have HX : Hid (errV ps c = .iface ty x) := hx
  clear hx
  go_enter Tryd.func27, Tryd.ntmps27
  go_wp2_with (go_at_call 55; rw [← HX.out]; refine (As_cell ps c ⟨w.heap.size, 0, none⟩ (.int .i64 0) _ hg1 (by simp) (by simp)).mono ?_; rintro e w' ⟨rfl, hc, hb⟩)
  go_ret
  exact ⟨rfl, hb0.trans hb⟩
end Go.Proofs.YtpjdkgcdkfmkiaaDoor
