/- A slice of rumors that comes in as an argument of a law. -/
import Derived.Test.YtmdcankfjmkkeaaRumSpec
import Derived.Test.YtmdcankfjmkkeaaG27
import Derived.Test.YtmdcankfjmkkeaaG22
import Derived.Test.YtmdcankfjmkkeaaG13
import Derived.Laws.CopyOwn
import Derived.Test.YtmdcankfjmkkeaaG23
namespace Go.Proofs.Ytmdcankfjmkkeaa
open Go Go.RowKit Go.ChangeShapes Go.WideShapes Go.Deep
set_option linter.unusedVariables false

def RumorArg (w : World) (a : Option Addr) (cap : Nat) (l : List RumV) : Prop := CellRow w a (cellsOf RumV.cells l) ∧ l.length ≤ maxLen ∧ l.length ≤ cap
theorem rumorArg_nil (w : World) : RumorArg w none 0 [] := ⟨.inl rfl, Nat.zero_le _, Nat.zero_le _⟩
set_option maxRecDepth 100000 in
theorem cells_rum {H : Type} {enc : TypeId × Value → H} {w : World} {base : Nat} {spare : Nat → Bool} {held : Bool} {n : Nat} {cs : List Value} {x : DataW H × List MemPlace} (hl : cs.length = 4) (h : DataW.trod enc Try.prog w base spare held n 99 cs = some x) :
    ∃ d : RumV, cs = d.cells := by
  obtain ⟨y0, y1, k, _, _, h0, h1⟩ := trod_struct2 Try.underlying99 h
  match cs, hl with
  | [v0, v1, v2, v3], _ =>
    have c3 : Try.prog.cellsOf 96 = 3 := by kernel_rfl
    have c1 : Try.prog.cellsOf 2 = 1 := by kernel_rfl
    simp only [c1, c3, List.drop_zero, List.drop_succ_cons, List.take_succ_cons, List.take_zero] at h0 h1
    obtain ⟨d, hd⟩ := cells_fact rfl h0
    obtain ⟨i3, e3, _, _⟩ := DataW.trod_int Try.underlying2 h1
    simp only [List.cons.injEq, and_true] at e3
    unfold FactV.cells at hd
    simp only [List.cons.injEq, and_true] at hd
    obtain ⟨r0, r1, r2⟩ := hd
    exact ⟨⟨d.node, d.inc, d.st, i3⟩, by rw [r0, r1, r2, e3]; rfl⟩
set_option maxRecDepth 100000 in
theorem rumorArg_open {H : Type} {enc : TypeId × Value → H} {w : World} {spare : Nat → Bool} {held : Bool} {fuel : Nat} {a : Option Addr} {len cap : Nat} {x : DataW H × List MemPlace} (h : DataW.trod enc Try.prog w 0 spare held fuel 23 [.slice a len cap] = some x) :
    ∃ l : List RumV, len = l.length ∧ RumorArg w a cap l := by
  rcases open_slice Try.underlying23 h with ⟨hcs, _⟩ | ⟨ad, len', cap', m, n, D, Pl, hcs, _, hl, hm, hmm, _, hx⟩
  · simp only [List.cons.injEq, Value.slice.injEq, and_true] at hcs
    obtain ⟨rfl, rfl, rfl⟩ := hcs
    exact ⟨[], rfl, rumorArg_nil _⟩
  · simp only [List.cons.injEq, Value.slice.injEq, and_true] at hcs
    obtain ⟨rfl, rfl, rfl⟩ := hcs
    have hle : len ≤ m := by rw [hmm]; split <;> omega
    have c4 : Try.prog.cellsOf 99 = 4 := by kernel_rfl
    rw [c4] at hx
    have each : ∀ i, i < len → ∃ d : RumV, w.cells? 0 (ad.add (i * 4)) 4 = some d.cells := fun i hi => by
      obtain ⟨cs', h1, h2⟩ := hx i (by omega)
      obtain ⟨_, hlen, _⟩ := World.cells?_some h1
      obtain ⟨d, rfl⟩ := cells_rum hlen h2
      exact ⟨d, h1⟩
    obtain ⟨f, hf⟩ := @choose_lt RumV ⟨⟨0, 0, 0, 0⟩⟩ len _ each
    have hlen : ((List.range len).map f).length = len := by simp
    refine ⟨(List.range len).map f, hlen.symm, ?_, by rw [hlen]; omega, by rw [hlen]; exact hl⟩
    by_cases h0 : len = 0
    · exact .inl (by subst h0; rfl)
    have hc0 := hf 0 (by omega)
    obtain ⟨_, _, hcell⟩ := World.cells?_some hc0
    have h00 := hcell 0 (by omega)
    obtain ⟨b, off, spot⟩ := ad
    have hspot : spot = none := by
      have := World.cell?_spot h00
      simpa [Addr.add] using this
    subst hspot
    have hb : b < w.heap.size := by
      rcases Nat.lt_or_ge b w.heap.size with k | k
      · exact k
      · simp [World.cell?, Addr.add, Array.getElem?_eq_none k, RumV.cells] at h00
    refine .inr ⟨b, off, rfl, hb, fun j hj => ?_⟩
    have hjl : j < len * 4 := by rw [cellsOf_length RumV.cells_len, hlen] at hj; exact hj
    have hq : j / 4 < len := by omega
    obtain ⟨_, _, hcell⟩ := World.cells?_some (hf (j / 4) hq)
    have hr := hcell (j % 4) (Nat.mod_lt _ (by omega))
    have hat := cellsOf_at RumV.cells_len ((List.range len).map f) (j / 4) (j % 4) (by rw [hlen]; exact hq) (Nat.mod_lt _ (by omega))
    rw [show j / 4 * 4 + j % 4 = j by omega, List.getElem?_eq_getElem hj] at hat
    have hg : ((List.range len).map f)[j / 4]'(by rw [hlen]; exact hq) = f (j / 4) := by simp
    rw [hg] at hat
    rw [hat, ← hr, add_add]
    have e : (⟨b, off, none⟩ : Addr).add (j / 4 * 4 + j % 4) = ⟨b, off + j, none⟩ := by
      rw [show j / 4 * 4 + j % 4 = j by omega]
      by_cases e0 : j = 0 <;> simp [Addr.add, e0]
    rw [e]
end Go.Proofs.Ytmdcankfjmkkeaa
/- A mail that comes in as an argument of a law; a struct's fields, however many. -/
namespace Go.Proofs.Ytmdcankfjmkkeaa
open Go Go.RowKit Go.ChangeShapes Go.WideShapes Go.Deep
set_option linter.unusedVariables false

theorem trod_fields {H : Type} {enc : TypeId × Value → H} {P : Program} {w : World} {base : Nat} {spare : Nat → Bool} {held : Bool} {t : TypeId} {fs : Array Field} {fuel : Nat} {cs : List Value} {x : DataW H × List MemPlace} (ht : P.underlying t = some (.struct fs)) (h : DataW.trod enc P w base spare held fuel t cs = some x) :
    cs.length = P.cellsOf t ∧ ∃ n, ∀ (i : Nat) (f : Field), fs[i]? = some f → ∃ y, DataW.trod enc P w base spare held n f.type ((cs.drop f.offset).take (P.cellsOf f.type)) = some y := by
  obtain ⟨xs, n, _, rfl, hl, hlen, hf⟩ := DataW.trod_struct ht h
  refine ⟨hl, n, fun i f hi => ?_⟩
  have hif : i < fs.size := (Array.getElem?_eq_some_iff.1 hi).1
  have := hf i f hi
  rw [List.getElem?_eq_getElem (by omega)] at this
  exact ⟨_, this⟩
theorem array7 {α : Type} {cs : Array α} (h : cs.size = 7) : ∃ c0 c1 c2 c3 c4 c5 c6, cs = #[c0, c1, c2, c3, c4, c5, c6] := by
  obtain ⟨l⟩ := cs
  match l, h with
  | [c0, c1, c2, c3, c4, c5, c6], _ => exact ⟨c0, c1, c2, c3, c4, c5, c6, rfl⟩
/-- A mail, and where its facts lie. -/
structure MailA where
  k : Int
  f : Int
  t : Int
  n : Int
  a : Int
  r : Int
  p : Option Addr
  cap : Nat
  l : List FactV
def MailA.val (m : MailA) : Value := .agg #[.int .i64 m.k, .int .i64 m.f, .int .i64 m.t, .int .i64 m.n, .int .i64 m.a, .int .i64 m.r, .slice m.p m.l.length m.cap]
/-- The numbers are such. -/
def MailA.wf (m : MailA) : Prop := (Lit.int .i64 m.k).wf = true ∧ (Lit.int .i64 m.f).wf = true ∧ (Lit.int .i64 m.t).wf = true ∧ (Lit.int .i64 m.n).wf = true ∧ (Lit.int .i64 m.a).wf = true ∧ (Lit.int .i64 m.r).wf = true
end Go.Proofs.Ytmdcankfjmkkeaa
/- The contracts of the program's sets: a copy, what is right, where a number stands, what is in it. -/
namespace Go.Proofs.Ytmdcankfjmkkeaa
open Go Go.RowKit
set_option linter.unusedVariables false

theorem size1I : (Try.prog.info? 2).map (·.size) = some 1 := by
  obtain ⟨i, hi, _, hs, _⟩ := info_partsI
  rw [hi]; simp [hs]
/-- A whole block of numbers. -/
def NumBlk (w : World) (g : Nat) (l : List Int) : Prop := w.heap[g]? = some (.cells (numsV l).toArray 2 (0, 0))
theorem NumBlk.lt {w : World} {g : Nat} {l : List Int} (h : NumBlk w g l) : g < w.heap.size := by
  rcases Nat.lt_or_ge g w.heap.size with k | k
  · exact k
  · unfold NumBlk at h
    rw [Array.getElem?_eq_none k] at h
    cases h
theorem NumBlk.keep {w w' : World} {g : Nat} {l : List Int} (h : NumBlk w g l) (hb : Below w.heap.size w w') : NumBlk w' g l := (hb.block g h.lt).trans h
theorem NumBlk.owns {w : World} {g base : Nat} {l : List Int} (h : NumBlk w g l) (hb : base ≤ g) (hl : l.length ≤ 1048576) : w.ownsRow base 2 1 (.slice (some ⟨g, 0, none⟩) l.length l.length) l.length (numsV l) := by
  refine ⟨by rw [numsV_length]; omega, .inr ⟨g, l.length, (numsV l).toArray, rfl, hb, h, Nat.le_refl _, by unfold maxLen; omega, by simp [numsV], ?_⟩⟩
  rw [List.toList_toArray, Nat.mul_one, List.take_of_length_le (by rw [numsV_length]; exact Nat.le_refl _)]
theorem numsV_one {l : List Int} : ∀ v ∈ numsV l, v.oneCell' = true := by
  intro v hv
  obtain ⟨q, _, rfl⟩ := List.mem_map.1 hv
  rfl
theorem splice_all {L M : List Value} (h : M.length = L.length) : splice M 0 L = L := by simp [splice, h]
theorem NumRow.src {w : World} {a : Option Addr} {l : List Int} (h : NumRow w a l) (hne : 0 < l.length) : ∃ ad, a = some ad ∧ ∀ j v, (numsV l)[j]? = some v → w.cell? (ad.add j) = some v := by
  rcases h with h | ⟨b, off, e, hlt, hc⟩
  · rw [h] at hne; simp at hne
  · refine ⟨_, e, fun j v hj => ?_⟩
    have hjl : j < l.length := by
      have := (List.getElem?_eq_some_iff.1 hj).1
      rwa [numsV_length] at this
    rw [addr_off, hc j hjl]
    rw [numsV, List.getElem?_map, List.getElem?_eq_getElem hjl] at hj
    exact hj

set_option maxHeartbeats 1000000 in
set_option maxRecDepth 100000 in
/-- A copy: new memory, whole. -/
theorem copied_any (a : Option Addr) (cap : Nat) (l : List Int) (w : World) (hl : l.length ≤ 1048576) (hne : 0 < l.length) (hrow : NumRow w a l) :
    Calls Try.prog 79 #[.slice a l.length cap] w fun e w' => e = .returned (.slice (some ⟨w.heap.size, 0, none⟩) l.length l.length) ∧ NumBlk w' w.heap.size l ∧ Below w.heap.size w w' := by
  have hmk := run_make_row' (P := Try.prog) 24 2 (.int .i64 0) 8 Try.underlying24 Try.infoI64 rfl .i64 .i64 l.length (by omega) (by omega)
  have hb0 : Below w.heap.size w (w.alloc (.cells (madeCells #[.int .i64 0] l.length) 2)) := (Below.refl _ _).alloc (Nat.le_refl _) _
  have hg0 : (w.alloc (.cells (madeCells #[.int .i64 0] l.length) 2)).heap[w.heap.size]? = some (.cells (List.replicate l.length (.int .i64 0)).toArray 2 (0, 0)) := by
    rw [heap_alloc_new, ← toList_madeCells_one, Array.toArray_toList]
  have hrow1 := hrow.keep hb0
  have hm : (numsV l).length = Nat.min l.length l.length := by rw [numsV_length]; exact (Nat.min_self _).symm
  have hfit : 0 + (numsV l).length ≤ (List.replicate l.length (Value.int .i64 0)).length := by rw [numsV_length]; simp
  have hz : ((l.length : Int) == 0) = false := beq_eq_false_iff_ne.2 (by omega)
  go_enter Try.func79, Try.ntmps79
  go_wp2_with (refine wpList_copy_splice rfl _ _ 24 24 rfl 2 Try.underlying24 size1I (some ⟨w.heap.size, 0, none⟩) a l.length l.length l.length cap rfl rfl w.heap.size 0 (List.replicate l.length (.int .i64 0)) 2 hg0 (numsV l) hm (fun _ => ⟨rfl, hrow1.src hne⟩) hfit numsV_one w.heap.size w hb0 (Nat.le_refl _) ?_)
  intro w2 hg2 hb2
  have HG : Hid (NumBlk w2 w.heap.size l) := by
    have := hg2.out
    rw [splice_all (by rw [numsV_length]; simp)] at this
    exact this
  clear hg2 hg0
  go_wp2
  go_ret
  exact ⟨rfl, HG.out, hb2⟩
set_option maxRecDepth 100000 in
theorem copied_nil (a : Option Addr) (cap : Nat) (w : World) :
    Calls Try.prog 79 #[.slice a 0 cap] w fun e w' => e = .returned (.slice none 0 0) ∧ w' = w := by
  go_enter Try.func79, Try.ntmps79
  go_wp2
  go_ret
  exact ⟨rfl, rfl⟩
/-- A copy, in the words of a row of one's own. -/
theorem copied_own (a : Option Addr) (cap : Nat) (l : List Int) (w : World) (hl : l.length ≤ 1048576) (hrow : NumRow w a l) :
    Calls Try.prog 79 #[.slice a l.length cap] w fun e w' => ∃ v, e = .returned v ∧ w'.ownsRow w.heap.size 2 1 v l.length (numsV l) ∧ Below w.heap.size w w' := by
  by_cases h0 : l.length = 0
  · obtain rfl : l = [] := List.eq_nil_of_length_eq_zero h0
    refine (copied_nil a cap w).mono ?_
    rintro e w' ⟨rfl, rfl⟩
    exact ⟨_, rfl, World.ownsRow_nil _ _ _ _, Below.refl _ _⟩
  · refine (copied_any a cap l w hl (by omega) hrow).mono ?_
    rintro e w' ⟨rfl, hb, hbl⟩
    exact ⟨_, rfl, hb.owns (Nat.le_refl _) hl, hbl⟩

end Go.Proofs.Ytmdcankfjmkkeaa
/- The contracts of the program's Chance: it answers as the specification's. -/
namespace Go.Proofs.Ytmdcankfjmkkeaa
open Go Go.RowKit
set_option linter.unusedVariables false

set_option maxRecDepth 100000 in
theorem seedRight_any (n : Int) (w : World) :
    Calls Try.prog 36 #[.int .i64 n] w fun e w' => e = .returned (.bool (decide (0 ≤ n) && decide (n ≤ 2147483647))) ∧ w' = w := by
  by_cases h1 : 0 ≤ n
  · have HD : Hid ((decide (0 ≤ n) && decide (n ≤ 2147483647)) = decide (n ≤ 2147483647)) := by show _ = _; simp [h1]
    go_enter Try.func36, Try.ntmps36
    go_wp2
    go_ret
    exact ⟨ret_boolE HD.out.symm, rfl⟩
  · have HD : Hid ((decide (0 ≤ n) && decide (n ≤ 2147483647)) = false) := by show _ = _; simp [h1]
    go_enter Try.func36, Try.ntmps36
    go_wp2
    go_ret
    exact ⟨ret_boolE HD.out.symm, rfl⟩
theorem and_seed {x : Nat} (h : (x : Int) < 18446744073709551616) : bits BinOp.and IntKind.u64 (x : Int) 2147483647 = (x : Int) % 2147483648 := by
  have e : bits BinOp.and IntKind.u64 (x : Int) 2147483647 = ((x &&& 2147483647 : Nat) : Int) := by
    have := u64_and_nat x 2147483647 (by omega) (by omega)
    exact this
  rw [e, Nat.and_two_pow_sub_one_eq_mod x 31]
  omega
end Go.Proofs.Ytmdcankfjmkkeaa
