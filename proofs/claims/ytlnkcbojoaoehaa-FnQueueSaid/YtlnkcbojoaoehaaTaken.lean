/- The contract of the iterator that takes a heap empty. -/
import Derived.Test.YtlnkcbojoaoehaaHeapC
import Derived.Test.YtlnkcbojoaoehaaJoined
import Derived.RangeFuncNested
import Derived.RangeFuncBound
import Derived.RangeFuncCalls
import Derived.RangeFuncLeaves
import Derived.RangeFuncBox
import Derived.Shelf.Abstract
import Derived.Shelf.RegionOpen
import Derived.WalkKit
import Derived.OwnWalkIn
import Derived.TacticsInMore
import Derived.LoopNIn
import Derived.LoopIn
namespace Go.Proofs.Ytlnkcbojoaoehaa
open Go Go.RowKit Go.Shelf
set_option linter.unusedVariables false
attribute [local go_sem] Oper.semAt_some

/-- How many a heap has, by its box. -/
def lenAt (hb : Nat) (w : World) : Nat := match w.cell? ⟨hb, 0, none⟩ with | some (.slice _ n _) => n | _ => 0
theorem HeapV.len {w : World} {lo hb : Nat} {v : Value} {l : List DueV} (h : HeapV w lo hb v l) : lenAt hb w = l.length := by
  rcases h.cases with ⟨rfl, rfl⟩ | ⟨g, cap, rfl, hA⟩
  · simp [lenAt, h.box.cell]
  · simp [lenAt, h.box.cell]
theorem HeapV.keep {w w' : World} {lo hb : Nat} {v : Value} {l : List DueV} (h : HeapV w lo hb v l) {G : Nat → Prop} (k : Keeps G w w') (h1 : G hb) (h2 : ∀ g, v.ownBlock = some g → G g) : HeapV w' lo hb v l := by
  rcases h.cases with ⟨rfl, rfl⟩ | ⟨g, cap, rfl, hA⟩
  · exact ⟨(k.block hb h.box.lt h1).trans h.box, World.ownsRow_nil _ _ _ _⟩
  · exact (hA.keep k h1 (h2 g rfl)).v
theorem BlkOf.keepK {w w' : World} {b : Nat} {x : DueV} (h : BlkOf w b x) {G : Nat → Prop} (k : Keeps G w w') (hg : G b) : BlkOf w' b x :=
  ⟨Nat.lt_of_lt_of_le h.lt k.size, (k.cell (p := ⟨b, 0, none⟩) h.lt hg).trans h.c0, (k.cell (p := ⟨b, 1, none⟩) h.lt hg).trans h.c1, (k.cell (p := ⟨b, 2, none⟩) h.lt hg).trans h.c2, (k.cell (p := ⟨b, 3, none⟩) h.lt hg).trans h.c3⟩
/-- What a round leaves to the iterator. -/
def RoundKeeps (hb Bh : Nat) (gb : Option Nat) (W W' : World) : Prop := Keeps (fun k => k = hb ∨ gb = some k ∨ k = Bh) W W'
set_option maxRecDepth 100000 in
set_option maxHeartbeats 2000000 in
theorem taken1_in (n : Nat) (hn : 1 ≤ n) (l lo hb Bh : Nat) (gb : Option Nat) (S : List DueV) (hS : S.Pairwise DueV.lt) (hT : ∀ d ∈ S, d.text.size ≤ 1000000) (hSl : S.length ≤ 1000000) (J Jx : List DueV → World → Prop)
    (hJ : ∀ pre W W', J pre W → Keeps (fun k => k ≠ hb ∧ gb ≠ some k) W W' → J pre W')
    (hY : ∀ pre x rest W, S = pre ++ x :: rest → J pre W → YieldAt Fence.wide (n - 1) Try.prog l #[x.val] W fun e W' =>
      (e = .returned (.bool true) ∧ J (pre ++ [x]) W' ∧ RoundKeeps hb Bh gb W W') ∨ (e = .returned (.bool false) ∧ Jx (pre ++ [x]) W' ∧ RoundKeeps hb Bh gb W W'))
    (W : World) (v0 : Value) (l0 : List DueV) (hV : HeapV W lo hb v0 l0) (hgb : v0.ownBlock = gb) (hp : l0.Perm S) (hh : heapFrom l0 0 l0.length) (hB : Boxed W Bh 56 (.pointer (some ⟨hb, 0, none⟩))) (h0 : J [] W) :
    CallsIn Fence.wide n Try.prog 58 #[.func (.yield l) #[] #[], .pointer (some ⟨Bh, 0, none⟩)] W fun e W' => (∃ v, e = .returned v) ∧
      ((J S W' ∧ ∃ v, v.ownBlock = gb ∧ HeapV W' lo hb v []) ∨ (∃ pre x rest l' v, S = pre ++ x :: rest ∧ Jx (pre ++ [x]) W' ∧ l'.Perm rest ∧ heapFrom l' 0 l'.length ∧ HeapV W' lo hb v l' ∧ v.ownBlock = gb)) := by
  refine callsIn_of_wp Try.func58 rfl trivial ?_ rfl
  simp only [Try.ntmps58, List.size_toArray, List.length_cons, List.length_nil, Nat.reduceAdd, Nat.reduceSub, Array.replicate_succ, Array.replicate_zero, List.push_toArray, List.append_toArray, List.nil_append, List.cons_append]
  gi_wp2
  gi_loopw [3] (fun _ wr => ∃ pre rest l' v, S = pre ++ rest ∧ l'.Perm rest ∧ heapFrom l' 0 l'.length ∧ HeapV wr lo hb v l' ∧ v.ownBlock = gb ∧ Boxed wr Bh 56 (.pointer (some ⟨hb, 0, none⟩)) ∧ J pre wr) (fun _ wr => lenAt hb wr)
  case atStart => exact ⟨[], S, l0, v0, rfl, hp, hh, hV, hgb, hB, h0⟩
  case round =>
    obtain ⟨pre, rest, l1, v1, hS1, hp1, hh1, hV1, hg1, hB1, hJ1⟩ := hrel
    have k1 := hB1.cell
    have k2 := hV1.box.cell
    have HV : Hid (lenAt hb wr = l1.length) := hV1.len
    rcases hV1.cases with ⟨rfl, rfl⟩ | ⟨g, cap, rfl, hA⟩
    · obtain rfl : rest = [] := List.Perm.nil_eq hp1 |>.symm
      have HJ : Hid (J S wr) := by
        show J S wr
        rw [hS1, List.append_nil]; exact hJ1
      clear hS1
      gi_wp2_with fail
      refine ⟨trivial, (callsIn_wide.2 (hlen_any _ _ _ _)).mono ?_⟩
      rintro e w' ⟨rfl, rfl⟩
      gi_wp2
      go_end0
      exact ⟨⟨_, rfl⟩, .inl ⟨HJ.out, _, hg1, hV1⟩⟩
    · by_cases h1 : l1 = []
      · subst h1
        obtain rfl : rest = [] := List.Perm.nil_eq hp1 |>.symm
        have HJ : Hid (J S wr) := by
          show J S wr
          rw [hS1, List.append_nil]; exact hJ1
        clear hS1
        gi_wp2_with fail
        refine ⟨trivial, (callsIn_wide.2 (hlen_any _ _ _ _)).mono ?_⟩
        rintro e w' ⟨rfl, rfl⟩
        gi_wp2
        go_end0
        exact ⟨⟨_, rfl⟩, .inl ⟨HJ.out, _, hg1, hV1⟩⟩
      · have hl1 : 0 < l1.length := List.length_pos_iff.2 h1
        obtain ⟨y, rest2, rfl⟩ : ∃ y r, rest = y :: r := by
          cases rest with
          | nil => exact absurd hp1.eq_nil h1
          | cons y r => exact ⟨y, r, rfl⟩
        have hS2 := hS
        rw [hS1] at hS2
        have hfirst := heap_first hh1 hp1 (List.pairwise_append.1 hS2).2.1
        have hlen1 : l1.length ≤ 1000000 := by rw [hp1.length_eq]; have := congrArg List.length hS1; simp at this ⊢; omega
        have hty : y.text.size ≤ 1000000 := hT y (by rw [hS1]; simp)
        have hd := hA.due (i := 0) hl1
        rw [hfirst, Nat.zero_mul] at hd
        obtain rfl : gb = some g := hg1.symm
        obtain ⟨x1, x2, x3, x4⟩ := y
        have hW1 := BlkOf.new wr ⟨x1, x2, x3, x4⟩
        have KW : Keeps (fun k => (k ≠ hb ∧ some g ≠ some k) ∧ k < wr.heap.size) wr (wr.alloc (.cells #[.int .i64 x1, .int .i64 x2, .int .i64 x3, .string x4] 25)) := (Keeps.refl _ _).alloc _
        have hA1 := hA.keepB ((Below.refl _ _).alloc (Nat.le_refl _) (.cells #[.int .i64 x1, .int .i64 x2, .int .i64 x3, .string x4] 25))
        have hB2 := hB1.alloc (.cells #[.int .i64 x1, .int .i64 x2, .int .i64 x3, .string x4] 25)
        obtain ⟨_, c0, c1, c2, c3⟩ := hd
        dsimp only at c0 c1 c2 c3
        have HS1 : Hid (S = pre ++ ⟨x1, x2, x3, x4⟩ :: rest2) := hS1
        have HP1 : Hid (l1.Perm (⟨x1, x2, x3, x4⟩ :: rest2)) := hp1
        have HF : Hid (dAt l1 0 = ⟨x1, x2, x3, x4⟩) := hfirst
        have hposI : (0 : Int) < (l1.length : Int) := by omega
        have fz1 : (wr.alloc (.cells #[.int .i64 x1, .int .i64 x2, .int .i64 x3, .string x4] 25)).frozen? ⟨wr.heap.size, 3, none⟩ = false := by simp
        have hbl := hV1.box.lt
        have HNE : Hid (Bh ≠ hb ∧ Bh ≠ g) := ⟨fun e => by have h1 := hB1; rw [e] at h1; have := (show wr.heap[hb]? = _ from h1).symm.trans hV1.box; simp at this, fun e => hB1.not_row (by decide) hA.row (by rw [e]; rfl)⟩
        have hgl := hA.lo.2
        clear hS1 hp1 hfirst hS2 hV1 hg1
        gi_wp2_with fail
        refine ⟨trivial, (callsIn_wide.2 (hlen_any _ _ _ _)).mono ?_⟩
        rintro e w' ⟨rfl, rfl⟩
        have k3 := hB2.cell
        gi_wp2_with fail
        refine ⟨trivial, (callsIn_wide.2 (heapPop_any lo hb g cap l1 _ hA1 hl1 (by omega) hh1)).mono ?_⟩
        rintro e z1 ⟨⟨vp, rfl⟩, l3, hp3, hh3, hA3, hK3⟩
        rw [HF.out] at hp3
        have HP3 : Hid (l3.Perm rest2) := (List.perm_cons _).1 (hp3.trans HP1.out)
        have HL3 : Hid (l3.length < l1.length) := by show _ < _; have := hp3.length_eq; simp at this; omega
        have KW2 : Keeps (fun k => (k ≠ hb ∧ some g ≠ some k) ∧ k < wr.heap.size) wr z1 := KW.trans (hK3.mono (fun k _ hk => ⟨hk.1.1, fun e => hk.1.2 (by rw [e])⟩))
        have hD3 := hW1.keepK hK3 ⟨by omega, by omega⟩
        have fz3 := (hK3.frozen (p := ⟨wr.heap.size, 3, none⟩) hW1.lt ⟨by show wr.heap.size ≠ hb; omega, by show wr.heap.size ≠ g; omega⟩).trans fz1
        have hB3 : Boxed z1 Bh 56 (.pointer (some ⟨hb, 0, none⟩)) := (hK3.block Bh hB2.lt ⟨HNE.out.1, HNE.out.2⟩).trans hB2
        have hdl3 := hD3.lt
        clear hp3 hK3 hA1 hB2 hA c0 c1 c2 c3 k1 k2 k3 KW hW1 fz1
        have q0 := hD3.c3
        dsimp only at q0
        gi_wp2_with fail
        have bz0 : Below z1.heap.size z1 (z1.alloc (.cells #[.string x4] 9)) := (Below.refl _ _).alloc (Nat.le_refl _) _
        refine ⟨trivial, (callsIn_wide.2 (joined_one x4 (z1.alloc (.cells #[.string x4] 9)) z1.heap.size (by simp) hty (by simp))).mono ?_⟩
        rintro e z2 ⟨rfl, bz1⟩
        have bz2 : Below z1.heap.size z1 z2 := bz0.trans (bz1.mono bz0.size)
        have hD4 := hD3.keep bz2
        have fz4 := (bz2.frozen (p := ⟨wr.heap.size, 3, none⟩) hdl3).trans fz3
        have KW4 : Keeps (fun k => (k ≠ hb ∧ some g ≠ some k) ∧ k < wr.heap.size) wr (z2.setCell ⟨wr.heap.size, 3, none⟩ (.string x4)) := (KW2.below bz2).setCell (fun h => absurd h.2 (Nat.lt_irrefl _)) _
        have hJ4 := hJ pre _ _ hJ1 (KW4.mono (fun k hk hk2 => ⟨hk2, hk⟩))
        have hA4 := hA3.keepB bz2
        have hA5 : HeapAt (z2.setCell ⟨wr.heap.size, 3, none⟩ (.string x4)) lo hb g cap l3 := hA4.keep (G := fun k => k ≠ wr.heap.size) ((Keeps.refl _ _).setCell (fun h => h rfl) _) (by omega) (by omega)
        have hB5 : Boxed (z2.setCell ⟨wr.heap.size, 3, none⟩ (.string x4)) Bh 56 (.pointer (some ⟨hb, 0, none⟩)) := (Below.heap_setCell _ _ _ _ (by have := hB1.lt; show Bh ≠ wr.heap.size; omega)).trans ((bz2.block Bh hB3.lt).trans hB3)
        obtain ⟨fn, tmps, assign, body, hy, hR⟩ := hY pre ⟨x1, x2, x3, x4⟩ rest2 _ HS1.out hJ4
        dsimp only [DueV.val] at hy
        obtain ⟨hdl, d0, d1, d2, d3⟩ := hD4
        dsimp only at d0 d1 d2 d3
        clear bz0 bz1 bz2 fz3 q0 hD3 hA3 hA4 hB3 KW2 KW4 hJ1 hJ4 hB1
        gi_wp2
        refine hR.mono ?_
        rintro e W5 (⟨rfl, hJ5, hk5⟩ | ⟨rfl, hJx5, hk5⟩)
        · have hA6 := hA5.keep hk5 (.inl rfl) (.inr (.inl rfl))
          have hB6 : Boxed W5 Bh 56 (.pointer (some ⟨hb, 0, none⟩)) := (Keeps.block hk5 Bh hB5.lt (.inr (.inr rfl))).trans hB5
          have HM : Hid (lenAt hb W5 = l3.length) := hA6.v.len
          clear hR hy hk5
          gi_wp2
          go_roundw
          case rel => exact ⟨pre ++ [⟨x1, x2, x3, x4⟩], rest2, l3, _, by rw [HS1.out]; simp, HP3.out, hh3, hA6.v, rfl, hB6, hJ5⟩
          case measure => rw [HM.out, HV.out]; exact HL3.out
        · have hA6 := hA5.keep hk5 (.inl rfl) (.inr (.inl rfl))
          clear hR hy hk5
          gi_wp2
          refine bodyPost_ret (results_none rfl _ _ _) rfl ?_
          exact ⟨⟨_, rfl⟩, .inr ⟨pre, ⟨x1, x2, x3, x4⟩, rest2, l3, _, HS1.out, hJx5, HP3.out, hh3, hA6.v, rfl⟩⟩
end Go.Proofs.Ytlnkcbojoaoehaa
