/- The contracts of the specification's QueueDrop. -/
import Derived.Test.YtlnkcbojoaoehaaQRightS
import Derived.Test.YtlnkcbojoaoehaaQPutI
import Derived.Test.YtlnkcbojoaoehaaQDropI
import Derived.Laws.AppendOwnNone
namespace Go.Proofs.Ytlnkcbojoaoehaa
open Go Go.RowKit
set_option linter.unusedVariables false

theorem specQ_yes (a : Option Addr) (cap : Nat) (l : List DueV) (w : World) (hl : l.length ≤ 1048576) (hrow : CellRow w a (cellsOf DueV.cells l)) (h : rightQ l) :
    Calls Try.prog 19 #[.slice a l.length cap] w fun e w' => e = .returned (.bool true) ∧ Below w.heap.size w w' :=
  (specQRight_any a cap l w hl hrow).mono fun e w' ⟨⟨r, he, hr⟩, hb⟩ => ⟨by rw [he, hr.2 h], hb⟩
theorem specQ_no (a : Option Addr) (cap : Nat) (l : List DueV) (w : World) (hl : l.length ≤ 1048576) (hrow : CellRow w a (cellsOf DueV.cells l)) (h : ¬ rightQ l) :
    Calls Try.prog 19 #[.slice a l.length cap] w fun e w' => e = .returned (.bool false) ∧ Below w.heap.size w w' :=
  (specQRight_any a cap l w hl hrow).mono fun e w' ⟨⟨r, he, hr⟩, hb⟩ => ⟨by rw [he]; cases r with | false => rfl | true => exact absurd (hr.1 rfl) h, hb⟩
set_option maxRecDepth 100000 in
theorem ill_any (c : Int) (w : World) : Calls Try.prog 40 #[.int .i64 c] w fun e w' => e = .returned (outV (.slice none 0 0) d0 c) ∧ Below w.heap.size w w' := by
  go_enter Try.func40, Try.ntmps40
  go_wp2
  refine bodyPost_ret (v := outV (.slice none 0 0) d0 c) (by simp [results, Try.results40, go_sem, outV, d0]) rfl ?_
  exact ⟨rfl, (Below.refl _ _).alloc (Nat.le_refl _) _⟩
set_option maxHeartbeats 1000000 in
set_option maxRecDepth 100000 in
theorem l03Drop_any (a : Option Addr) (cap : Nat) (l : List DueV) (node : Int) (w : World) (hl : l.length ≤ 1048576) (hrow : CellRow w a (cellsOf DueV.cells l)) :
    Calls Try.prog 43 #[.slice a l.length cap, .int .i64 node] w fun e w' => ∃ v, e = .returned v ∧ w'.ownsRow w.heap.size 25 4 v (dropN l node).length (cellsOf DueV.cells (dropN l node)) ∧ Below w.heap.size w w' := by
  obtain ⟨i0, hi0, hz⟩ := Option.map_eq_some_iff.1 Try.infoDue
  simp only [Prod.mk.injEq] at hz
  go_enter Try.func43, Try.ntmps43
  go_wp2
  go_loopw [6, 5] (fun i v wr => ∃ k : Nat, k ≤ l.length ∧ i = .int .i64 k ∧ wr.ownsRow w.heap.size 25 4 v (dropN (l.take k) node).length (cellsOf DueV.cells (dropN (l.take k) node)) ∧ Below w.heap.size w wr) (fun i _ _ => l.length - (intOf i).toNat)
  case atStart => exact ⟨0, Nat.zero_le _, rfl, World.ownsRow_lit _ #[] 0 (Nat.le_refl _) (by simp [maxLen]) rfl, (Below.refl _ _).alloc (Nat.le_refl _) _⟩
  case round =>
    obtain ⟨k, hk, rfl, hown, hb⟩ := hrel
    by_cases hx : k < l.length
    · obtain ⟨b, off, rfl⟩ := hrow.addr (by rw [cellsOf_length DueV.cells_len]; omega)
      obtain ⟨x, hlx⟩ : ∃ x, l[k] = x := ⟨_, rfl⟩
      obtain ⟨x1, x2, x3, x4⟩ := x
      have dm := (hrow.keep hb).duef hx hlx
      have HT : Hid (l.take (k + 1) = l.take k ++ [⟨x1, x2, x3, x4⟩]) := by
        show _ = _
        rw [List.take_succ_eq_append_getElem hx, hlx]
      have hdl : (dropN (l.take k) node).length ≤ k := by
        have := List.length_filter_le (fun d => d.node != node) (l.take k)
        rw [List.length_take] at this
        show ((l.take k).filter _).length ≤ k
        omega
      obtain ⟨hbl, c0, c1, c2, c3⟩ := dm
      dsimp only at c0 c1 c2 c3
      have hkI : (k : Int) < (l.length : Int) := by omega
      clear hlx
      by_cases e : x3 = node
      · have eb : (x3 != node) = false := by simp [e]
        have ho : wr.ownsRow w.heap.size 25 4 u5 (dropN (l.take (k + 1)) node).length (cellsOf DueV.cells (dropN (l.take (k + 1)) node)) := by rw [HT.out, dropN_snoc, if_pos e]; exact hown
        clear hown e
        go_wp2
        go_roundw
        case rel => exact ⟨k + 1, by omega, by go_num, ho, hb⟩
        case measure => simp [intOf]; omega
      · have eb : (x3 != node) = true := by simp [e]
        have HE : Hid (dropN (l.take (k + 1)) node = dropN (l.take k) node ++ [⟨x1, x2, x3, x4⟩]) := by show _ = _; rw [HT.out, dropN_snoc, if_neg e]
        clear e
        go_wp2_with (at_builtin; refine wpList_append_own _ rfl _ _ 23 rfl w.heap.size 25 i0 _ 4 40 Try.underlying23 hi0 hz.1 hz.2.1 hz.2.2 rfl (by decide) _ _ _ rfl (hown.alloc _) ⟨wr.heap.size, 0, none⟩ 1 1 (DueV.cells ⟨x1, x2, x3, x4⟩) rfl rfl ?c1 ?c2 ?c3 ?c4 ?c5 ?_)
        case c1 => exact newCells0 _ _
        case c2 => exact oneCells _
        case c3 => unfold maxLen; omega
        case c4 => omega
        case c5 => have := hb.size; simp; omega
        · intro v' w2 hown' hgrow _
          have hb2 : Below w.heap.size w w2 := (hb.alloc hb.size _).grown hgrow (by have := hb.size; simp; omega) (fun g hg => (hown.lt g hg).1)
          have ho : w2.ownsRow w.heap.size 25 4 v' (dropN (l.take (k + 1)) node).length (cellsOf DueV.cells (dropN (l.take (k + 1)) node)) := by
            rw [HE.out, cellsOf_append, List.length_append]; exact hown'
          clear hown' hgrow hown
          go_wp2
          go_roundw
          case rel => exact ⟨k + 1, by omega, by go_num, ho, hb2⟩
          case measure => simp [intOf]; omega
    · have e : k = l.length := by omega
      subst e
      rw [List.take_length] at hown
      go_wp2
      go_ret
      exact ⟨_, rfl, hown, hb⟩
end Go.Proofs.Ytlnkcbojoaoehaa
