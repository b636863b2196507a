/- slices.Chunk by threes, and a range over it: the contract of factsOf. -/
import Derived.Test.YtpjdkgcdkfmkiaaDoorG21
import Derived.Test.YtpjdkgcdkfmkiaaDoorMReadP
import Derived.Test.YtpjdkgcdkfmkiaaDoorG8
import Derived.Test.YtpjdkgcdkfmkiaaDoorMBytesI
import Derived.RangeFuncNested
import Derived.RangeFuncBound
import Derived.RangeFuncCalls
import Derived.RangeFuncLeaves
import Derived.RangeFuncBox
import Derived.Shelf.Abstract
import Derived.Shelf.RegionOpen
import Derived.OwnWalkIn
import Derived.TacticsInMore
import Derived.LoopNIn
import Derived.LoopIn
namespace Go.Proofs.YtpjdkgcdkfmkiaaDoor
open Go Go.RowKit Go.Shelf
set_option linter.unusedVariables false
attribute [local go_sem] Oper.semAt_some

theorem Keeps.putObj {G : Nat → Prop} {a w : World} (h : Keeps G a w) {l : Nat} (hl : ¬ G l) (o : Obj) : Keeps G a (w.putObj l o) :=
  h.trans ⟨rfl, rfl, rfl, by simp, fun k _ hk => World.putObj_heap_other (fun e => hl (e ▸ hk))⟩
set_option maxRecDepth 100000 in
set_option maxHeartbeats 2000000 in
theorem chunk1_in (n : Nat) (hn : 1 ≤ n) (l b off cap k Bs Bn : Nat) (av : Option Addr) (J : Nat → World → Prop) (hav : 0 < k → av = some ⟨b, off, none⟩) (hk : k ≤ 100000) (hcap : k * 3 ≤ cap)
    (hc : ∀ j W, J j W → W.cell? ⟨Bs, 0, none⟩ = some (.slice av (k * 3) cap) ∧ W.cell? ⟨Bn, 0, none⟩ = some (.int .i64 3)) (hd : ∀ j W, J j W → J j W.drew)
    (hY : ∀ j W, j < k → J j W → YieldAt Fence.wide (n - 1) Tryd.prog l #[.slice (some ⟨b, off + j * 3, none⟩) 3 3] W fun e W' => e = .returned (.bool true) ∧ J (j + 1) W') (W : World) (h0 : J 0 W) :
    CallsIn Fence.wide n Tryd.prog 86 #[.func (.yield l) #[] #[], .pointer (some ⟨Bs, 0, none⟩), .pointer (some ⟨Bn, 0, none⟩)] W fun e W' => (∃ v, e = .returned v) ∧ J k W' := by
  refine callsIn_of_wp Tryd.func86 rfl trivial ?_ rfl
  simp only [Tryd.ntmps86, List.size_toArray, List.length_cons, List.length_nil, Nat.reduceAdd, Nat.reduceSub, Array.replicate_succ, Array.replicate_zero, List.push_toArray, List.append_toArray, List.nil_append, List.cons_append]
  gi_wp2
  gi_loopw [4] (fun i wr => ∃ j : Nat, j ≤ k ∧ i = .int .i64 (j * 3 : Nat) ∧ J j wr) (fun i _ => k * 3 - (intOf i).toNat)
  case atStart => exact ⟨0, Nat.zero_le _, rfl, h0⟩
  case round =>
    obtain ⟨j, hj, rfl, hJ⟩ := hrel
    obtain ⟨c1, c2⟩ := hc j _ hJ
    by_cases hx : j < k
    · obtain rfl := hav (by omega)
      have hxI : ((j * 3 : Nat) : Int) < ((k * 3 : Nat) : Int) := by omega
      have q0 : (0 : Int) ≤ (j : Int) * 3 := by omega
      have q1 : (j : Int) * 3 ≤ (k : Int) * 3 := by omega
      have q2 : ((j : Int) * 3).toNat = j * 3 := by omega
      have q3 : ((k * 3 - j * 3 : Nat) : Int) = (k : Int) * 3 - (j : Int) * 3 := by omega
      have q4 : (3 : Int) ≤ (k : Int) * 3 - (j : Int) * 3 := by omega
      gi_wp2
      refine wpIn_wide.2 ?_
      refine wp_region_held_drew (S := fun x => x = wr.drew) (by kernel_rfl) rfl (fun hHeld => ?_)
      clear hHeld
      refine takeG 0 (v := .int .i64 3) rfl (by kernel_rfl) (by kernel_rfl) (by kernel_rfl) (by kernel_rfl) (fun _ _ _ h => h) ?hy rfl ?_
      case hy => (intro w' hSw; subst hSw; go_simp)
      try simp only [List.setIfInBounds_toArray, List.set_cons_zero, List.set_cons_succ]
      refine takeG 1 (v := .slice (some ⟨b, off, none⟩) (k * 3) cap) rfl (by kernel_rfl) (by kernel_rfl) (by kernel_rfl) (by kernel_rfl) (fun _ _ _ h => h) ?hy rfl ?_
      case hy => (intro w' hSw; subst hSw; go_simp)
      try simp only [List.setIfInBounds_toArray, List.set_cons_zero, List.set_cons_succ]
      refine takeG 2 (v := .int .i64 ((j : Int) * 3)) rfl (by kernel_rfl) (by kernel_rfl) (by kernel_rfl) (by kernel_rfl) (fun _ _ _ h => h) ?hy rfl ?_
      case hy => (intro w' hSw; subst hSw; go_simp)
      try simp only [List.setIfInBounds_toArray, List.set_cons_zero, List.set_cons_succ]
      refine takeG 3 (v := .slice (some ⟨b, off + j * 3, none⟩) (k * 3 - j * 3) (cap - j * 3)) rfl (by kernel_rfl) (by kernel_rfl) (by kernel_rfl) (by kernel_rfl) (fun _ _ _ h => h) ?hy rfl ?_
      case hy => (intro w' hSw; subst hSw; go_simp; omega)
      try simp only [List.setIfInBounds_toArray, List.set_cons_zero, List.set_cons_succ]
      refine takeG 4 (v := .int .i64 ((k : Int) * 3 - (j : Int) * 3)) rfl (by kernel_rfl) (by kernel_rfl) (by kernel_rfl) (by kernel_rfl) (fun _ _ _ h => h) ?hy rfl ?_
      case hy => (intro w' hSw; subst hSw; go_simp)
      try simp only [List.setIfInBounds_toArray, List.set_cons_zero, List.set_cons_succ]
      refine takeG 5 (v := .int .i64 3) rfl (by kernel_rfl) (by kernel_rfl) (by kernel_rfl) (by kernel_rfl) (fun _ _ _ h => h) ?hy rfl ?_
      case hy => (intro w' hSw; subst hSw; go_simp; omega)
      try simp only [List.setIfInBounds_toArray, List.set_cons_zero, List.set_cons_succ]
      refine takeG 6 (v := .int .i64 3) rfl (by kernel_rfl) (by kernel_rfl) (by kernel_rfl) (by kernel_rfl) (fun _ _ _ h => h) ?hy rfl ?_
      case hy => (intro w' hSw; subst hSw; go_simp)
      try simp only [List.setIfInBounds_toArray, List.set_cons_zero, List.set_cons_succ]
      refine wpAnyH_done (by kernel_rfl) ?_ _
      obtain ⟨fn, tmps, assign, body, hy, hR⟩ := hY j wr.drew hx (hd _ _ hJ)
      have q5 : IntKind.i64.wrap ((j : Int) * 3 + 3) = (j : Int) * 3 + 3 := by rw [IntKind.wrap_i64]; omega
      have q6 : ((j : Int) * 3 + 3).toNat = j * 3 + 3 := by omega
      have q7 : (j : Int) * 3 + 3 ≤ (cap : Int) := by omega
      have HC := hc
      clear hY hc
      gi_wp2
      refine hR.mono ?_
      rintro e W5 ⟨rfl, hJ5⟩
      obtain ⟨d1, d2⟩ := HC (j + 1) W5 hJ5
      clear hR hy HC
      gi_wp2
      go_roundw
      case rel => exact ⟨j + 1, by omega, by go_num, hJ5⟩
      case measure => simp [intOf]; omega
    · obtain rfl : j = k := by omega
      gi_wp2
      go_end0
      exact ⟨⟨_, rfl⟩, hJ⟩
theorem range_chunk {op : Operand} {ps : Array Tmp} {assign body : Code} {Q : Exit → Act → World → Prop} {a : Act} {w : World} (n : Nat) (h2 : 2 ≤ n) (b off cap k Bs Bn : Nat) (av : Option Addr)
    (hop : a.eval op = .func (.func 86) #[] #[.pointer (some ⟨Bs, 0, none⟩), .pointer (some ⟨Bn, 0, none⟩)]) (hps : ps.size = 1) (hBs : BlkIs w Bs 41 #[.slice av (k * 3) cap]) (hBn : BlkIs w Bn 3 #[.int .i64 3])
    (hav : 0 < k → av = some ⟨b, off, none⟩) (hk : k ≤ 100000) (hcap : k * 3 ≤ cap) (I : Nat → World → Prop) (hI : ∀ j W W', I j W → Keeps (fun q => q ≠ w.heap.size ∧ q ≠ w.heap.size + 1) W W' → I j W') (h0 : I 0 w) (F : Nat → Act)
    (hassign : ∀ (l j : Nat) (W : World) (K : Act → World → Prop), K (F j) W → assign.wpIn (Fence.wide.inRound l) (n - 1 - 1) Tryd.prog (Exit.then K (fun _ _ _ => False)) { tmps := (ps.zip #[.slice (some ⟨b, off + j * 3, none⟩) 3 3]).foldl (fun t (p, v) => t.setIfInBounds p v) a.tmps, defers := [] } W)
    (hbody : ∀ (l j : Nat) (W : World), j < k → I j W → w.heap.size + 2 ≤ W.heap.size →
      body.wpIn (Fence.wide.inRound l) (n - 1 - 1) Tryd.prog (fun e _ W' => e = .normal ∧ Keeps (fun q => q = Bs ∨ q = Bn ∨ q = w.heap.size ∨ q = w.heap.size + 1) W W' ∧ I (j + 1) W') (F j) W)
    (hdone : ∀ W : World, I k W → W.heap[w.heap.size]? = some (.deferred (some [])) → Q .normal { a with defers := { target := .collected w.heap.size, args := #[] } :: a.defers } W) :
    (Code.rangeFunc op ps assign body).wpIn Fence.wide n Tryd.prog Q a w := by
  have hsl := hBs.lt
  have hnl := hBn.lt
  refine wpIn_rangeFunc fun fn hfn => ?_
  obtain ⟨r, hr⟩ : ∃ r : LoopState → Option Code → Loop, r = fun st pe => { state := st, pending := pe, fn, tmps := a.tmps, params := ps, assign, body, defers := w.heap.size } := ⟨_, rfl⟩
  obtain ⟨W1, hW1⟩ : ∃ W1, (w.alloc (.deferred (some []))).alloc (.loop (r .ready none)) = W1 := ⟨_, rfl⟩
  have hL1 : W1.heap[w.heap.size + 1]? = some (.loop (r .ready none)) := by
    have := World.alloc_heap_new (w.alloc (.deferred (some []))) (.loop (r .ready none))
    rw [World.size_alloc, hW1] at this
    exact this
  have hD1 : W1.heap[w.heap.size]? = some (.deferred (some [])) := by
    rw [← hW1]
    exact (Below.heap_alloc _ _ _ (by simp)).trans (World.alloc_heap_new w _)
  have K1 : Keeps (fun _ => True) w W1 := by rw [← hW1]; exact ((Keeps.refl _ _).alloc _).alloc _
  have hI1 : I 0 W1 := hI _ _ _ h0 (K1.mono (fun _ _ _ => trivial))
  refine ⟨w.heap.size + 1, [{ target := .collected w.heap.size, args := #[] }], W1, { target := .fn (.func 86) #[.pointer (some ⟨Bs, 0, none⟩), .pointer (some ⟨Bn, 0, none⟩)], args := #[.func (.yield (w.heap.size + 1)) #[] #[]] }, W1, 86,
    #[.func (.yield (w.heap.size + 1)) #[] #[], .pointer (some ⟨Bs, 0, none⟩), .pointer (some ⟨Bn, 0, none⟩)], W1, ?e1, ?e2, fun _ _ => trivial, ?e3, fun _ => by omega, ?e4⟩
  case e1 => rw [← hW1, hr]; exact run_enterLoop_outer _ _ _ _ _
  case e2 => simp only [resolve, hop]; simp [go_sem]
  case e3 => simp [invoke, go_sem]
  case e4 =>
    refine (chunk1_in (n - 1) (by omega) (w.heap.size + 1) b off cap k Bs Bn av
      (fun j W => I j W ∧ BlkIs W Bs 41 #[.slice av (k * 3) cap] ∧ BlkIs W Bn 3 #[.int .i64 3] ∧ W.heap[w.heap.size + 1]? = some (.loop (r .ready none)) ∧ W.heap[w.heap.size]? = some (.deferred (some [])))
      hav hk hcap (fun j W h => ⟨h.2.1.cell 0, h.2.2.1.cell 0⟩) (fun j W h => ⟨hI _ _ _ h.1 (Keeps.refl _ _).drew, h.2⟩) ?y W1 ⟨hI1, hBs.keepK K1 trivial, hBn.keepK K1 trivial, hL1, hD1⟩).mono ?m
    case y =>
      rintro j W hj ⟨hi, hs, hnn, hl, hd⟩
      have hlt : w.heap.size + 1 < W.heap.size := (Array.getElem?_eq_some_iff.1 hl).1
      have hy := run_yield (P := Tryd.prog) (args := #[.slice (some ⟨b, off + j * 3, none⟩) 3 3]) hl (by rw [hr]; exact hps.symm)
      rw [hr] at hy
      refine ⟨fn, _, assign, body, hy, roundIn_of_wpIn hfn (hassign _ j W _ ?_)⟩
      clear hy
      refine ⟨_, run_beginRound hl (by rw [hr]), ?_⟩
      obtain ⟨Wb, hWb⟩ : ∃ Wb, W.putObj (w.heap.size + 1) (.loop { r .ready none with state := .busy }) = Wb := ⟨_, rfl⟩
      have hlb : Wb.heap[w.heap.size + 1]? = some (.loop { r .ready none with state := .busy }) := by rw [← hWb]; exact World.putObj_heap_same hlt
      have Kb : Keeps (fun k => k ≠ w.heap.size + 1) W Wb := by rw [← hWb]; exact (Keeps.refl _ _).putObj (fun h => h rfl) _
      have hdb := (Kb.block _ (by omega) (by omega)).trans hd
      have hsb := hs.keepK Kb (by omega)
      have hnb := hnn.keepK Kb (by omega)
      rw [hWb]
      refine wpIn_mono (hbody _ j Wb hj (hI _ _ _ hi (Kb.mono (fun k _ h => h.2))) (by have := Kb.size; omega)) ?_
      rintro e a3 W3 ⟨rfl, k3, i3⟩
      have hl3 := (k3.block _ (Array.getElem?_eq_some_iff.1 hlb).1 (.inr (.inr (.inr rfl)))).trans hlb
      have hd3 := (k3.block _ (Array.getElem?_eq_some_iff.1 hdb).1 (.inr (.inr (.inl rfl)))).trans hdb
      have he := run_endRound (P := Tryd.prog) none hl3
      rw [hr] at he
      have k4 : Keeps (fun k => k ≠ w.heap.size + 1) W3 (W3.putObj (w.heap.size + 1) (.loop (r .ready none))) := (Keeps.refl _ _).putObj (fun h => h rfl) _
      refine ⟨_, W3.putObj (w.heap.size + 1) (.loop (r .ready none)), by rw [hr]; exact he, rfl, hI _ _ _ i3 (k4.mono (fun k _ h => h.2)), (hsb.keepK k3 (.inl rfl)).keepK k4 (by omega), (hnb.keepK k3 (.inr (.inl rfl))).keepK k4 (by omega), World.putObj_heap_same (Array.getElem?_eq_some_iff.1 hl3).1, (World.putObj_heap_other (by omega)).trans hd3⟩
    case m =>
      rintro e W2 ⟨⟨v, rfl⟩, hi, hs, hnn, hl, hd⟩
      have he := run_endLoop (P := Tryd.prog) hl (by rw [hr]; simp)
      rw [hr] at he
      exact ⟨none, _, he, hdone _ (hI _ _ _ hi ((Keeps.refl _ _).putObj (fun h => h.2 rfl) _)) ((World.putObj_heap_other (by omega)).trans hd)⟩
end Go.Proofs.YtpjdkgcdkfmkiaaDoor
