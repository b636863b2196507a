/- The contracts of a copy of what is due, and of a heap made of it. -/
import Derived.Test.YtlnkcbojoaoehaaHeapQ
namespace Go.Proofs.Ytlnkcbojoaoehaa
open Go Go.RowKit
set_option linter.unusedVariables false

/-- A whole row copied into one of one's own: elements of whatever size. -/
theorem run_copy_whole {P : Program} (w : World) (dT sT ty elem : TypeId) (size g n dCap : Nat) (a : Addr) (sCap : Nat) (cur : Array Value) (t : TypeId) (cs : List Value)
    (hu : P.underlying dT = some (.slice elem)) (hs : (P.info? elem).map (·.size) = some size)
    (hg : w.heap[g]? = some (.cells cur t (0, 0))) (hn : cs.length = n * size)
    (hsrc : ∀ j v, cs[j]? = some v → w.cell? (a.add j) = some v) (hfit : cs.length = cur.size) (h1 : ∀ v ∈ cs, v.oneCell' = true) :
    (Builtin.copy_ #[dT, sT] ty #[.slice (some ⟨g, 0, none⟩) n dCap, .slice (some a) n sCap]).run P w = .ok (goInt n) (w.setRow g cs.toArray) := by
  have hl := run_loadCells_list (P := P) w a cs hsrc
  have hst := run_storeCells_at P g 0 t cs 0 cur w hg (by simpa using Nat.le_of_eq hfit) h1
  have e : (cur.toList.take (0 + 0) ++ cs ++ cur.toList.drop (0 + 0 + cs.length)) = cs := by
    rw [Nat.zero_add, List.take_zero, List.nil_append, List.drop_eq_nil_of_le (by simp; omega), List.append_nil]
  rw [e] at hst
  cases hq : P.info? elem with
  | none => simp [hq] at hs
  | some i =>
    have hi : i.size = size := by simpa [hq] using hs
    simp [Builtin.copy_, run_underlying hu, Builtin.lenOf, Builtin.firstCells, sizeOf, typeInfo, hq, hi, ← hn, hl, hst]
theorem cellsOf_one (l : List DueV) : ∀ v ∈ cellsOf DueV.cells l, v.oneCell' = true := by
  intro v hv
  obtain ⟨x, _, hx⟩ := List.mem_flatMap.1 hv
  exact oneCells x v hx
theorem below_setRow {B : Nat} {a w : World} (h : Below B a w) {g : Nat} (hg : B ≤ g) (c : Array Value) : Below B a (w.setRow g c) := by
  refine h.trans ⟨rfl, rfl, rfl, ?_, fun k hk => ?_⟩
  · simp [World.setRow]
  · simp only [World.setRow, Array.getElem?_modify]
    rw [if_neg (by omega)]
set_option maxHeartbeats 1000000 in
set_option maxRecDepth 100000 in
theorem copiedDues_any (a : Option Addr) (cap : Nat) (l : List DueV) (w : World) (hl : l.length ≤ 1048576) (hrow : CellRow w a (cellsOf DueV.cells l)) :
    Calls Try.prog 54 #[.slice a l.length cap] w fun e w' => ∃ v, e = .returned v ∧ w'.ownsRow w.heap.size 25 4 v l.length (cellsOf DueV.cells l) ∧ Below w.heap.size w w' := by
  by_cases h0 : l.length = 0
  · obtain rfl : l = [] := List.eq_nil_of_length_eq_zero h0
    go_enter Try.func54, Try.ntmps54
    go_wp2
    go_ret
    exact ⟨_, rfl, World.ownsRow_nil _ _ _ _, Below.refl _ _⟩
  · have hlen4 := cellsOf_length DueV.cells_len l
    obtain ⟨b, off, rfl⟩ := hrow.addr (by omega)
    obtain ⟨i0, hi0, hz⟩ := Option.map_eq_some_iff.1 Try.infoDue
    simp only [Prod.mk.injEq] at hz
    obtain ⟨wm, hmk, hown, hgr⟩ := run_make_full (P := Try.prog) w w.heap.size 23 25 i0 _ 4 Try.underlying23 hi0 hz.1 hz.2.1 .i64 .i64 l.length (by rw [hz.2.2]; omega) (by unfold maxLen; omega) (Nat.le_refl _)
    have hb0 : Below w.heap.size w wm := (Below.refl _ _).grown hgr (Nat.le_refl _) (fun k e => by cases e)
    obtain ⟨cur, hg0, hcs⟩ : ∃ cur, wm.heap[w.heap.size]? = some (.cells cur 25 (0, 0)) ∧ cur.size = l.length * 4 := by
      rcases hown.2 with ⟨e, _⟩ | ⟨g, c, cur, e, _, h1, _, _, h2, _⟩
      · cases e
      · simp only [Value.slice.injEq, Option.some.injEq, Addr.mk.injEq, and_true, true_and] at e
        obtain ⟨rfl, rfl⟩ := e
        exact ⟨cur, h1, h2⟩
    have hrow2 := hrow.keep hb0
    have hsrc : ∀ j v, (cellsOf DueV.cells l)[j]? = some v → wm.cell? ((⟨b, off, none⟩ : Addr).add j) = some v := by
      intro j v hj
      have e : (⟨b, off, none⟩ : Addr).add j = ⟨b, off + j, none⟩ := by by_cases e0 : j = 0 <;> simp [Addr.add, e0]
      rw [e]
      obtain ⟨hlt, hv⟩ := List.getElem?_eq_some_iff.1 hj
      rcases hrow2 with h | ⟨b', off', e, _, hc⟩
      · rw [h] at hlt; simp at hlt
      · simp only [Option.some.injEq, Addr.mk.injEq, and_true] at e
        obtain ⟨rfl, rfl⟩ := e
        rw [hc j hlt, hv]
    have hcp := run_copy_whole (P := Try.prog) wm 23 23 3 25 4 w.heap.size l.length l.length ⟨b, off, none⟩ cap cur 25 (cellsOf DueV.cells l) Try.underlying23 (by rw [hi0]; simp [hz.2.1]) hg0 hlen4 hsrc (by omega) (cellsOf_one l)
    have HO : Hid ((wm.setRow w.heap.size (cellsOf DueV.cells l).toArray).ownsRow w.heap.size 25 4 (.slice (some ⟨w.heap.size, 0, none⟩) l.length l.length) l.length (cellsOf DueV.cells l)) :=
      ⟨hlen4, .inr ⟨w.heap.size, l.length, (cellsOf DueV.cells l).toArray, rfl, Nat.le_refl _, setRow_heap _ _ _ _ _ _ hg0, Nat.le_refl _, by unfold maxLen; omega, by simpa using hlen4, by show (cellsOf DueV.cells l).take (l.length * 4) = _; exact List.take_of_length_le (by omega)⟩⟩
    have HB : Hid (Below w.heap.size w (wm.setRow w.heap.size (cellsOf DueV.cells l).toArray)) := below_setRow hb0 (Nat.le_refl _) _
    have hz0 : ((l.length : Int) == 0) = false := beq_eq_false_iff_ne.2 (by omega)
    clear hown hgr hsrc hrow2 hlen4 hg0 hcs hb0 h0
    go_enter Try.func54, Try.ntmps54
    go_wp2
    go_ret
    exact ⟨_, rfl, HO.out, HB.out⟩
set_option maxRecDepth 100000 in
theorem hinit_nil (hb : Nat) (w : World) (h : Boxed w hb 80 (.slice none 0 0)) : Calls Try.prog 55 #[.iface 56 (.pointer (some ⟨hb, 0, none⟩))] w fun e w' => e = .returned (.tuple #[]) ∧ w = w' := by
  have m1 := m_len hb _ _ h.cell
  go_enter Try.func55, Try.ntmps55
  go_wp2_with fail
  refine (hlen_any _ _ _ _).mono ?_
  rintro e w' ⟨rfl, rfl⟩
  go_wp2
  refine wp_loop_rounds 1 ?_
  rw [rounds_succ]
  go_wp2
  go_end0
  exact ⟨rfl, rfl⟩
/-- A heap, or none. -/
structure HeapV (w : World) (lo hb : Nat) (v : Value) (l : List DueV) : Prop where
  box : Boxed w hb 80 v
  row : w.ownsRow lo 25 4 v l.length (cellsOf DueV.cells l)
theorem HeapAt.v {w : World} {lo hb g cap : Nat} {l : List DueV} (h : HeapAt w lo hb g cap l) : HeapV w lo hb (.slice (some ⟨g, 0, none⟩) l.length cap) l := ⟨h.box, h.row⟩
theorem HeapV.cases {w : World} {lo hb : Nat} {v : Value} {l : List DueV} (h : HeapV w lo hb v l) : (v = .slice none 0 0 ∧ l = []) ∨ ∃ g cap, v = .slice (some ⟨g, 0, none⟩) l.length cap ∧ HeapAt w lo hb g cap l := by
  rcases h.row.2 with ⟨rfl, h0⟩ | ⟨g, cap, cur, rfl, r⟩
  · exact .inl ⟨rfl, List.eq_nil_of_length_eq_zero h0⟩
  · exact .inr ⟨g, cap, rfl, h.box, h.row⟩
def HeapedPost (l : List DueV) (w : World) (e : Ending) (w' : World) : Prop :=
  ∃ hb v l', e = .returned (.pointer (some ⟨hb, 0, none⟩)) ∧ l'.Perm l ∧ heapFrom l' 0 l'.length ∧ HeapV w' w.heap.size hb v l' ∧ w.heap.size ≤ hb ∧ Below w.heap.size w w'
set_option maxHeartbeats 1000000 in
set_option maxRecDepth 100000 in
theorem heaped_any (a : Option Addr) (cap : Nat) (l : List DueV) (w : World) (hl : l.length ≤ 1000000) (hrow : CellRow w a (cellsOf DueV.cells l)) :
    Calls Try.prog 34 #[.slice a l.length cap] w (HeapedPost l w) := by
  go_enter Try.func34, Try.ntmps34
  go_wp2_with fail
  refine (copiedDues_any a cap l _ (by omega) hrow).mono ?_
  rintro e z1 ⟨v, rfl, hown, b1⟩
  have hbx := Boxed.new z1 80 v
  have hown1 := hown.alloc (.cells #[v] 80)
  have b2 := b1.alloc b1.size (.cells #[v] 80)
  have hV : HeapV (z1.alloc (.cells #[v] 80)) w.heap.size z1.heap.size v l := ⟨hbx, hown1⟩
  have hs1 := b1.size
  rcases hV.cases with ⟨rfl, rfl⟩ | ⟨g, c, rfl, hA⟩
  · clear hown hown1 b1
    go_wp2_with fail
    refine (hinit_nil z1.heap.size _ hbx).mono ?_
    rintro e w' ⟨rfl, rfl⟩
    go_wp2
    go_ret
    exact ⟨z1.heap.size, _, [], rfl, List.Perm.refl _, fun c c0 cn _ => absurd cn (by simp), hV, hs1, b2⟩
  · have hlo := hA.lo.1
    clear hown hown1 b1 hV hbx
    go_wp2_with fail
    refine (hinit_any w.heap.size z1.heap.size g c l _ hA (by omega)).mono ?_
    rintro e z2 ⟨rfl, l2, hT⟩
    have HP : Hid (l2.Perm l) := hT.perm
    have HH : Hid (heapFrom l2 0 l2.length) := by show heapFrom _ _ _; rw [hT.perm.length_eq]; exact hT.heap
    have hA2 := hT.at'
    have b3 := b2.trans (hT.keep.toBelow b2.size (fun k hk => by omega))
    clear hT hA b2
    go_wp2
    go_ret
    exact ⟨z1.heap.size, _, l2, rfl, HP.out, HH.out, hA2.v, hs1, b3⟩
end Go.Proofs.Ytlnkcbojoaoehaa
