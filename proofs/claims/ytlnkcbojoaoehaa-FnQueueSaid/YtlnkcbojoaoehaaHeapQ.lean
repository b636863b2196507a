/- The contracts of a heap's Pop, and of container/heap's Push and Pop. -/
import Derived.Test.YtlnkcbojoaoehaaHeapPP
namespace Go.Proofs.Ytlnkcbojoaoehaa
open Go Go.RowKit
set_option linter.unusedVariables false

def PopPost (lo hb g cap : Nat) (l1 : List DueV) (w : World) (e : Ending) (w' : World) : Prop := (∃ v, e = .returned v) ∧ HeapAt w' lo hb g cap l1 ∧ Keeps (fun k => k ≠ hb) w w'
set_option maxHeartbeats 2000000 in
set_option maxRecDepth 100000 in
theorem hpop_any (lo hb g cap : Nat) (l1 : List DueV) (x : DueV) (w : World) (h : HeapAt w lo hb g cap (l1 ++ [x])) (hl : l1.length ≤ 1048576) :
    Calls Try.prog 86 #[.pointer (some ⟨hb, 0, none⟩)] w (PopPost lo hb g cap l1 w) := by
  have hlen : (l1 ++ [x]).length = l1.length + 1 := by simp
  have hx : dAt (l1 ++ [x]) l1.length = x := by rw [dAt_eq (by rw [hlen]; omega)]; simp
  have hd := h.due (i := l1.length) (by rw [hlen]; omega)
  rw [hx] at hd
  have hbx := h.box
  have hrow := h.row
  have hne := h.ne
  rw [hlen] at hbx hrow
  have hrow1 : w.ownsRow lo 25 4 (.slice (some ⟨g, 0, none⟩) l1.length cap) l1.length (cellsOf DueV.cells l1) := by
    rw [cellsOf_append] at hrow
    exact ownsRow_pop (cellsOf_length DueV.cells_len l1) hrow
  have hcap : l1.length + 1 ≤ cap := by
    rcases hrow.2 with ⟨e, _⟩ | ⟨g', cap', cur, e, _, _, h1, _⟩
    · cases e
    · simp only [Value.slice.injEq] at e
      omega
  have hcm : cap ≤ maxLen := by
    rcases hrow.2 with ⟨e, _⟩ | ⟨g', cap', cur, e, _, _, _, h1, _⟩
    · cases e
    · simp only [Value.slice.injEq] at e
      omega
  have hcap63 : cap ≤ 9223372036854775807 := Nat.le_trans hcm (by unfold maxLen; omega)
  obtain ⟨x1, x2, x3, x4⟩ := x
  obtain ⟨hgl, c0, c1, c2, c3⟩ := hd
  dsimp only at c0 c1 c2 c3
  have b0 := hbx.cell
  have b1 := hbx.frozen
  have hbl := hbx.lt
  have HA : Hid (HeapAt ((w.setCell ⟨hb, 0, none⟩ (.slice (some ⟨g, 0, none⟩) l1.length cap)).alloc (.cells #[.int .i64 x1, .int .i64 x2, .int .i64 x3, .string x4] 25)) lo hb g cap l1) :=
    ⟨(hbx.set _).alloc _, (hrow1.kept (grownBy_setCell' _ hb _) (.inr (fun e => hne (by simpa [Value.ownBlock] using e.symm)))).alloc _⟩
  have HK : Hid (Keeps (fun k => k ≠ hb) w ((w.setCell ⟨hb, 0, none⟩ (.slice (some ⟨g, 0, none⟩) l1.length cap)).alloc (.cells #[.int .i64 x1, .int .i64 x2, .int .i64 x3, .string x4] 25))) := ((Keeps.refl _ _).setCell (fun e => e rfl) _).alloc _
  have hwl : IntKind.i64.wrap (l1.length : Int) = (l1.length : Int) := by rw [IntKind.wrap_i64]; omega
  have hl1 : (l1.length : Int) < (l1.length : Int) + 1 := by omega
  have hl2 : (l1.length : Int) ≤ (cap : Int) := by omega
  clear h hrow hrow1 hx hlen hne
  go_enter Try.func86, Try.ntmps86
  go_wp2
  go_ret
  exact ⟨⟨_, rfl⟩, HA.out, HK.out⟩
theorem hdown_i (lo hb g cap : Nat) (l : List DueV) (i0 n : Nat) (I N : Int) (eI : I = (i0 : Int)) (eN : N = (n : Int)) (w : World) (h : HeapAt w lo hb g cap l) (hn : n ≤ l.length) (hl : l.length ≤ 1048576) (hi0 : i0 ≤ 1048576) (hh : heapFrom l (i0 + 1) n) :
    Calls Try.prog 67 #[.iface 56 (.pointer (some ⟨hb, 0, none⟩)), .int .i64 I, .int .i64 N] w (DownPost lo hb g cap l i0 n w) := by
  subst eI eN; exact hdown_any lo hb g cap l i0 n w h hn hl hi0 hh
theorem hup_i (lo hb g cap : Nat) (l : List DueV) (j0 : Nat) (J : Int) (eJ : J = (j0 : Int)) (w : World) (h : HeapAt w lo hb g cap l) (hj : j0 < l.length) (hl : l.length ≤ 1048576) (hh : heapUp l j0 l.length) :
    Calls Try.prog 56 #[.iface 56 (.pointer (some ⟨hb, 0, none⟩)), .int .i64 J] w (UpPost lo hb g cap l w) := by
  subst eJ; exact hup_any lo hb g cap l j0 w h hj hl hh
theorem heap_ends {l : List DueV} (h : heapFrom l 0 l.length) (h0 : 0 < l.length) : heapFrom (swapD l 0 (l.length - 1)) (0 + 1) (l.length - 1) := fun c c0 cn cp => by
  rw [dAt_swap h0 (by omega), dAt_swap h0 (by omega), if_neg (by omega), if_neg (by omega), if_neg (by omega), if_neg (by omega)]
  exact h c c0 (by omega) (by omega)
theorem pop_split {l l2 : List DueV} (h0 : 0 < l.length) (hp : l2.Perm (swapD l 0 (l.length - 1))) (ht : dAt l2 (l.length - 1) = dAt (swapD l 0 (l.length - 1)) (l.length - 1)) (hh : heapFrom l2 0 (l.length - 1)) :
    ∃ l3, l2 = l3 ++ [dAt l 0] ∧ (dAt l 0 :: l3).Perm l ∧ heapFrom l3 0 l3.length ∧ l3.length + 1 = l.length := by
  obtain ⟨l1, e1, hl1, p1⟩ := pop_perm h0
  have hlen : l2.length = l.length := by rw [hp.length_eq, swapD_length]
  have hne : l2 ≠ [] := fun e => by rw [e] at hlen; simp at hlen; omega
  have hlast : l2.getLast hne = dAt l 0 := by
    rw [List.getLast_eq_getElem]
    have h1 : l2.length - 1 < l2.length := by omega
    rw [← dAt_eq h1, hlen, ht, dAt_swap h0 (by omega), if_pos rfl]
  have e2 : l2 = l2.dropLast ++ [dAt l 0] := by rw [← hlast]; exact (List.dropLast_concat_getLast hne).symm
  have hl3 : l2.dropLast.length = l.length - 1 := by rw [List.length_dropLast, hlen]
  refine ⟨l2.dropLast, e2, ?_, ?_, by omega⟩
  · have p2 : (l2.dropLast ++ [dAt l 0]).Perm (l1 ++ [dAt l 0]) := by rw [← e2, ← e1]; exact hp
    have p3 : l2.dropLast.Perm l1 := (List.perm_append_right_iff _).1 p2
    exact (p3.cons _).trans p1
  · rw [hl3]
    intro c c0 cn cp
    have q : ∀ k, k < l.length - 1 → dAt l2.dropLast k = dAt l2 k := fun k hk => by
      rw [dAt_eq (by omega), dAt_eq (by omega), List.getElem_dropLast]
    rw [q c cn, q _ (by omega)]
    exact hh c c0 cn cp
def TakePost (lo hb g cap : Nat) (l : List DueV) (w : World) (e : Ending) (w' : World) : Prop :=
  (∃ v, e = .returned v) ∧ ∃ l3, (dAt l 0 :: l3).Perm l ∧ heapFrom l3 0 l3.length ∧ HeapAt w' lo hb g cap l3 ∧ Keeps (fun k => k ≠ hb ∧ k ≠ g) w w'
set_option maxHeartbeats 2000000 in
set_option maxRecDepth 100000 in
theorem heapPop_any (lo hb g cap : Nat) (l : List DueV) (w : World) (h : HeapAt w lo hb g cap l) (h0 : 0 < l.length) (hl : l.length ≤ 1048576) (hh : heapFrom l 0 l.length) :
    Calls Try.prog 60 #[.iface 56 (.pointer (some ⟨hb, 0, none⟩))] w (TakePost lo hb g cap l w) := by
  have m1 := m_len hb _ _ h.box.cell
  have m2 := m_swap hb _ _ h.box.cell
  have hw1 : IntKind.i64.wrap ((l.length : Int) - 1) = (l.length : Int) - 1 := by rw [IntKind.wrap_i64]; omega
  go_enter Try.func60, Try.ntmps60
  go_wp2_with fail
  refine (hlen_any _ _ _ _).mono ?_
  rintro e w' ⟨rfl, rfl⟩
  go_wp2_with fail
  refine (hswap_i lo hb g cap l 0 (l.length - 1) _ _ (by omega) (by omega) _ h (by omega) (by omega)).mono ?_
  rintro e z1 ⟨rfl, hA1, hK1⟩
  clear m1 m2 h
  have hL1 : (swapD l 0 (l.length - 1)).length = l.length := swapD_length _ _ _
  have HL1 : Hid ((swapD l 0 (l.length - 1)).length = l.length) := hL1
  clear hL1
  go_wp2_with fail
  refine (hdown_i lo hb g cap (swapD l 0 (l.length - 1)) 0 (l.length - 1) _ _ (by omega) (by omega) _ hA1 (by rw [HL1.out]; omega) (by rw [HL1.out]; omega) (by omega) (heap_ends hh h0)).mono ?_
  rintro e z2 ⟨⟨v, rfl⟩, l2, hT⟩
  obtain ⟨l3, e3, p3, h3, n3⟩ := pop_split h0 hT.perm (hT.tail _ (Nat.le_refl _)) hT.heap
  have hA2 := hT.at'
  rw [e3] at hA2
  have hK2 := hK1.trans hT.keep
  have H3 : Hid ((dAt l 0 :: l3).Perm l) := p3
  have H4 : Hid (heapFrom l3 0 l3.length) := h3
  have hl3 : l3.length ≤ 1048576 := by omega
  clear hT e3 p3 h3 hA1 hK1 n3
  have m3 := m_pop ⟨hb, 0, none⟩ z2
  go_wp2_with fail
  refine (hpop_any lo hb g cap l3 _ _ hA2 hl3).mono ?_
  rintro e z3 ⟨⟨v2, rfl⟩, hA3, hK3⟩
  have hK4 := (hK2.mono (fun k _ (hk : k ≠ hb ∧ k ≠ g) => hk.2)).trans (hK3.mono (fun k _ (hk : k ≠ hb ∧ k ≠ g) => hk.1))
  clear hK2 hK3 m3 hA2
  go_wp2
  go_ret
  exact ⟨⟨_, rfl⟩, l3, H3.out, H4.out, hA3, hK4⟩
def PutPost (lo hb : Nat) (v : Value) (l : List DueV) (d : DueV) (w : World) (e : Ending) (w' : World) : Prop :=
  e = .returned (.tuple #[]) ∧ ∃ g cap l', l'.Perm (l ++ [d]) ∧ heapFrom l' 0 l'.length ∧ HeapAt w' lo hb g cap l' ∧ (v.ownBlock = some g ∨ w.heap.size ≤ g) ∧ Keeps (fun k => k ≠ hb ∧ v.ownBlock ≠ some k) w w'
set_option maxHeartbeats 2000000 in
set_option maxRecDepth 100000 in
theorem heapPush_any (lo hb : Nat) (v : Value) (l : List DueV) (d : DueV) (w : World) (hbx : Boxed w hb 80 v) (hrow : w.ownsRow lo 25 4 v l.length (cellsOf DueV.cells l)) (hl : l.length ≤ 1000000) (hlo : lo ≤ w.heap.size) (hh : heapFrom l 0 l.length) :
    Calls Try.prog 35 #[.iface 56 (.pointer (some ⟨hb, 0, none⟩)), .iface 25 d.val] w (PutPost lo hb v l d w) := by
  have m1 := m_push ⟨hb, 0, none⟩ w
  have hlen : (l ++ [d]).length = l.length + 1 := by simp
  have HLen : Hid ((l ++ [d]).length = l.length + 1) := hlen
  have HU : Hid (heapUp (l ++ [d]) l.length (l ++ [d]).length) := by show heapUp _ _ _; rw [hlen]; exact heapUp_push hh
  clear hlen
  obtain ⟨dv, hdv⟩ : ∃ dv, d.val = dv := ⟨_, rfl⟩
  have HD : Hid (d.val = dv) := hdv
  rw [hdv]
  clear hdv
  go_enter Try.func35, Try.ntmps35
  go_wp2_with fail
  rw [← HD.out]
  refine (hpush_any lo hb v l d _ hbx hrow (by omega) hlo).mono ?_
  rintro e z1 ⟨rfl, g, cap, hA, hg, hK⟩
  rw [HD.out]
  clear m1 hrow hbx
  have m2 := m_len hb _ _ hA.box.cell
  have HG : Hid (v.ownBlock = some g ∨ w.heap.size ≤ g) := hg
  clear hg
  go_wp2_with fail
  refine (hlen_any _ _ _ _).mono ?_
  rintro e w' ⟨rfl, rfl⟩
  clear m2
  have hwl : IntKind.i64.wrap (l.length : Int) = (l.length : Int) := by rw [IntKind.wrap_i64]; omega
  go_wp2_with fail
  refine (hup_i lo hb g cap (l ++ [d]) l.length _ (by omega) _ hA (by rw [HLen.out]; omega) (by rw [HLen.out]; omega) HU.out).mono ?_
  rintro e z2 ⟨rfl, l2, hT⟩
  have HP : Hid (l2.Perm (l ++ [d])) := hT.perm
  have HH : Hid (heapFrom l2 0 l2.length) := by show heapFrom _ _ _; rw [hT.perm.length_eq]; exact hT.heap
  have hA2 := hT.at'
  have hK2 : Keeps (fun k => k ≠ hb ∧ v.ownBlock ≠ some k) w z2 := by
    have k2 := hT.keep
    refine ⟨k2.os.trans hK.os, k2.tape.trans hK.tape, k2.output.trans hK.output, Nat.le_trans hK.size k2.size, fun k hk hgk => (k2.block k (Nat.lt_of_lt_of_le hk hK.size) (fun e => ?_)).trans (hK.block k hk hgk)⟩
    rcases HG.out with q | q
    · exact hgk.2 (by rw [e]; exact q)
    · omega
  clear hT hA hK
  go_wp2
  go_end0
  exact ⟨rfl, g, cap, l2, HP.out, HH.out, hA2, HG.out, hK2⟩
end Go.Proofs.Ytlnkcbojoaoehaa
