/- errors.As at the target badBytes, for a chain of badParts that ends in a badBytes: the code is found. -/
import Derived.Test.YtpjdkgcdkfmkiaaDoorChecked
import Derived.Test.YtpjdkgcdkfmkiaaDoorPlain1
import Derived.WalkKit
import Derived.WalkLawsBesides
import Derived.WalkSpells
import Derived.LaidEql
import Derived.Stop.Asserts
import Derived.RowKitTokens
namespace Go.Proofs.YtpjdkgcdkfmkiaaDoor
open Go Go.RowKit Go.Extern.Stop Go.Stop Go.Extern
set_option linter.unusedVariables false

/-- The error value: the parts from the outside in, and the code in the innermost. -/
def errV : List ByteArray → Int → Value
  | [], c => .iface 86 (.agg #[.int .i64 c])
  | p :: ps, c => .iface 82 (.agg #[.string p, errV ps c])

theorem cell_lt {w : World} {x : Addr} {v : Value} (h : w.cell? x = some v) : x.block < w.heap.size := by
  rcases Nat.lt_or_ge x.block w.heap.size with k | k
  · exact k
  · simp [World.cell?, Array.getElem?_eq_none k] at h
theorem keep {w wr : World} {o : Obj} {x : Addr} {v : Value} (hb : Below (w.heap.size + 1) (w.alloc o) wr) (h : w.cell? x = some v) : wr.cell? x = some v := by
  have hl := cell_lt h
  rw [hb.cell (by omega), World.cell?_alloc_lt _ _ x hl]; exact h
theorem keepF {w wr : World} {o : Obj} {x : Addr} {v : Value} (hb : Below (w.heap.size + 1) (w.alloc o) wr) (h : w.cell? x = some v) (hf : w.frozen? x = false) : wr.frozen? x = false := by
  have hl := cell_lt h
  rw [hb.frozen (by omega), World.frozen?_alloc_old _ _ x (Nat.ne_of_lt hl)]; exact hf
/- The targets: T the pointer's type, E its element's. -/
theorem era.valueOfT (t : Addr) (w : World) : (ReflectliteValue.unpack (.iface 90 (.pointer (some t)))).run Tryd.prog w
    = .ok (.agg #[.pointer (some ⟨1, 90, none⟩), .pointer (some ⟨w.heap.size, 0, none⟩), .int .u64 150]) (w.alloc (.cells #[.pointer (some t)] 90)) := by kernel_rfl
theorem era.typeT (a : Addr) (w : World) : (ReflectliteValue.methodAny (ReflectliteValue.valueError "reflectlite.Value.Type" 0) (fun t _ _ _ => ReflectliteType.toType t) #[.agg #[.pointer (some ⟨1, 90, none⟩), .pointer (some a), .int .u64 150]]).run Tryd.prog w
    = .ok (.iface 133 (.agg #[.pointer (some ⟨1, 90, none⟩)])) w := by kernel_rfl
theorem era.kindT (w : World) : ((ReflectliteType.abiMethod fun t => (fun a : Nat => Value.int IntKind.u8 (a : Int)) <$> Rtype.kind t) #[.pointer (some ⟨1, 90, none⟩)]).run Tryd.prog w = .ok (.int .u8 22) w := by kernel_rfl
theorem era.kindE (w : World) : ((ReflectliteType.abiMethod fun t => (fun a : Nat => Value.int IntKind.u8 (a : Int)) <$> Rtype.kind t) #[.pointer (some ⟨1, 86, none⟩)]).run Tryd.prog w = .ok (.int .u8 25) w := by kernel_rfl
theorem era.elemT (w : World) : (ReflectliteType.method ReflectliteType.elem #[.agg #[.pointer (some ⟨1, 90, none⟩)]]).run Tryd.prog w = .ok (.iface 133 (.agg #[.pointer (some ⟨1, 86, none⟩)])) w := by kernel_rfl
theorem era.implementsE (w : World) : (ReflectliteType.relation "Implements" ReflectliteType.implements_ #[.agg #[.pointer (some ⟨1, 86, none⟩)], .iface 133 (.agg #[.pointer (some ⟨1, 51, none⟩)])]).run Tryd.prog w = .ok (.bool true) w := by kernel_rfl
theorem era.typeOfE (v : Value) (w : World) : (ReflectliteType.typeOf #[.iface 86 v]).run Tryd.prog w = .ok (.iface 133 (.agg #[.pointer (some ⟨1, 86, none⟩)])) w := by kernel_rfl
theorem era.typeOfP (v : Value) (w : World) : (ReflectliteType.typeOf #[.iface 82 v]).run Tryd.prog w = .ok (.iface 133 (.agg #[.pointer (some ⟨1, 82, none⟩)])) w := by kernel_rfl
theorem era.assignableE (w : World) : (ReflectliteType.relation "AssignableTo" ReflectliteType.assignableTo #[.agg #[.pointer (some ⟨1, 86, none⟩)], .iface 133 (.agg #[.pointer (some ⟨1, 86, none⟩)])]).run Tryd.prog w = .ok (.bool true) w := by kernel_rfl
theorem era.assignableP (w : World) : (ReflectliteType.relation "AssignableTo" ReflectliteType.assignableTo #[.agg #[.pointer (some ⟨1, 82, none⟩)], .iface 133 (.agg #[.pointer (some ⟨1, 86, none⟩)])]).run Tryd.prog w = .ok (.bool false) w := by kernel_rfl
theorem era.valueOfE (c : Int) (w : World) : (ReflectliteValue.unpack (.iface 86 (.agg #[.int .i64 c]))).run Tryd.prog w
    = .ok (.agg #[.pointer (some ⟨1, 86, none⟩), .pointer (some ⟨w.heap.size, 0, none⟩), .int .u64 153]) (w.alloc (.cells #[.int .i64 c] 86)) := by kernel_rfl

theorem era.methodKind (h : Value) (w : World) : (Go.method 277 133 (.agg #[h]) "Kind").run Tryd.prog w = .ok (102, h) w := by kernel_rfl
theorem era.methodElem (h : Value) (w : World) : (Go.method 277 133 (.agg #[h]) "Elem").run Tryd.prog w = .ok (120, .agg #[h]) w := by kernel_rfl
theorem era.methodImplements (h : Value) (w : World) : (Go.method 277 133 (.agg #[h]) "Implements").run Tryd.prog w = .ok (121, .agg #[h]) w := by kernel_rfl
theorem era.methodAssignableTo (h : Value) (w : World) : (Go.method 277 133 (.agg #[h]) "AssignableTo").run Tryd.prog w = .ok (118, .agg #[h]) w := by kernel_rfl
theorem era.methodUnwrap (p c : Value) (w : World) : (Go.method 277 82 (.agg #[p, c]) "Unwrap").run Tryd.prog w = .ok (106, .agg #[p, c]) w := by kernel_rfl
theorem era.notAs (x : Value) (w : World) : (Instr.typeAssert (.iface 82 x) 51 138 true).run Tryd.prog w = .ok (.tuple #[.nilIface, .bool false]) w := run_typeAssert_lacksB Tryd.underlying138 (by kernel_rfl) (by kernel_rfl) x 51 w
theorem era.isUnwrap (x : Value) (w : World) : (Instr.typeAssert (.iface 82 x) 51 141 true).run Tryd.prog w = .ok (.tuple #[.iface 82 x, .bool true]) w := by kernel_rfl
theorem errV_iface (ps : List ByteArray) (c : Int) : ∃ ty x, errV ps c = .iface ty x := by
  cases ps with
  | nil => exact ⟨_, _, rfl⟩
  | cons p ps => exact ⟨_, _, rfl⟩
theorem era.rlm (z : Sem Value) (f : TypeId → Addr → Nat → Nat → Sem Value) (v : Value) :
    ReflectliteValue.method z f #[v] = (do match ← ReflectliteValue.parts v with | none => z | some (t, a, fl) => f t a fl (fl % 32)) := rfl
theorem era.partsT (a : Addr) (w : World) : (ReflectliteValue.parts (.agg #[.pointer (some ⟨1, 90, none⟩), .pointer (some a), .int .u64 150])).run Tryd.prog w = .ok (some (90, a, 150)) w := by kernel_rfl
theorem era.isNilT (a p : Addr) (W : World) (ha : W.cell? a = some (.pointer (some p))) :
    (ReflectliteValue.method (ReflectliteValue.valueError "reflectlite.Value.IsNil" 0) ReflectliteValue.isNil #[.agg #[.pointer (some ⟨1, 90, none⟩), .pointer (some a), .int .u64 150]]).run Tryd.prog W = .ok (.bool false) W := by
  rw [era.rlm]
  simp only [Sem.run_bind, era.partsT, Result.andThen]
  simp [ReflectliteValue.isNil, loadVar, isAgg, underlying, Tryd.underlying90, ha, Result.andThen]
theorem era.elemOfT (w : World) : (Rtype.elem? 90).run Tryd.prog w = .ok (some 86) w := by kernel_rfl
theorem era.mkE (p : Addr) (w : World) : (ReflectliteValue.mk 86 p ReflectliteValue.flagAddr).run Tryd.prog w = .ok (.agg #[.pointer (some ⟨1, 86, none⟩), .pointer (some p), .int .u64 409]) w := by kernel_rfl
theorem era.elemV (a p : Addr) (W : World) (ha : W.cell? a = some (.pointer (some p))) :
    (ReflectliteValue.method (ReflectliteValue.valueError "reflectlite.Value.Elem" 0) ReflectliteValue.elem #[.agg #[.pointer (some ⟨1, 90, none⟩), .pointer (some a), .int .u64 150]]).run Tryd.prog W
      = .ok (.agg #[.pointer (some ⟨1, 86, none⟩), .pointer (some p), .int .u64 409]) W := by
  rw [era.rlm]
  simp only [Sem.run_bind, era.partsT, Result.andThen]
  simp [ReflectliteValue.elem, loadVar, isAgg, underlying, Tryd.underlying90, ha, Result.andThen, era.elemOfT, era.mkE]
theorem era.partsEa (a : Addr) (w : World) : (ReflectliteValue.parts (.agg #[.pointer (some ⟨1, 86, none⟩), .pointer (some a), .int .u64 409])).run Tryd.prog w = .ok (some (86, a, 409)) w := by kernel_rfl
theorem era.partsE (a : Addr) (w : World) : (ReflectliteValue.parts (.agg #[.pointer (some ⟨1, 86, none⟩), .pointer (some a), .int .u64 153])).run Tryd.prog w = .ok (some (86, a, 153)) w := by kernel_rfl
theorem era.direct (w : World) : (Rtype.directlyAssignable 86 86).run Tryd.prog w = .ok true w := by kernel_rfl
theorem era.sizeE (w : World) : (sizeOf 86).run Tryd.prog w = .ok 1 w := by kernel_rfl
theorem era.unfoldSet (v x : Value) (b a : Addr) (W W' : World) (val : Value)
    (hv : (ReflectliteValue.parts v).run Tryd.prog W = .ok (some (86, a, 409)) W) (hx : (ReflectliteValue.parts x).run Tryd.prog W = .ok (some (86, b, 153)) W)
    (hl : (loadVar 86 b).run Tryd.prog W = .ok val W) (hs : (storeVar 86 a val).run Tryd.prog W = .ok () W') :
    (ReflectliteValue.set #[v, x]).run Tryd.prog W = .ok (.tuple #[]) W' := by
  delta ReflectliteValue.set ReflectliteValue.set.match_3
  simp only [List.size_toArray, List.length_cons, List.length_nil, Nat.zero_add, Nat.reduceAdd, dite_true, Array.getLit, List.getElem_toArray, List.getElem_cons_zero, List.getElem_cons_succ]
  simp [Sem.run_bind, hv, hx, Result.andThen, ReflectliteValue.flagAddr, hl, era.direct, hs]
theorem era.setE (ta b : Addr) (c : Int) (old : Value) (W : World) (hb : W.cell? b = some (.int .i64 c)) (ht : W.cell? ta = some old) (hf : W.frozen? ta = false) :
    (ReflectliteValue.set #[.agg #[.pointer (some ⟨1, 86, none⟩), .pointer (some ta), .int .u64 409], .agg #[.pointer (some ⟨1, 86, none⟩), .pointer (some b), .int .u64 153]]).run Tryd.prog W
      = .ok (.tuple #[]) (W.setCell ta (.int .i64 c)) := by
  refine era.unfoldSet _ _ b ta W _ (.agg #[.int .i64 c]) (era.partsEa _ _) (era.partsE _ _) ?_ ?_
  · simp [loadVar, isAgg, underlying, Tryd.underlying86]
    have hl := run_loadCells_list (P := Tryd.prog) W b [.int .i64 c] (fun j v hj => by
      match j, hj with
      | 0, hj => simp at hj; subst hj; simpa [Addr.add] using hb)
    simp at hl
    rw [hl]
    rfl
  · simp [storeVar, Value.cells, storeCells, Addr.add]
    rw [run_store Tryd.prog W ta _ _ (by rfl)]
    simp [ht, hf]
end Go.Proofs.YtpjdkgcdkfmkiaaDoor
