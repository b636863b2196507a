/- A range over the iterator that takes a heap empty: one law for its three callers. -/
import Derived.Test.YtlnkcbojoaoehaaTaken
namespace Go.Proofs.Ytlnkcbojoaoehaa
open Go Go.RowKit Go.Shelf
set_option linter.unusedVariables false

theorem Keeps.putObj {G : Nat → Prop} {a w : World} (h : Keeps G a w) {l : Nat} (hl : ¬ G l) (o : Obj) : Keeps G a (w.putObj l o) :=
  h.trans ⟨rfl, rfl, rfl, by simp, fun k _ hk => World.putObj_heap_other (fun e => hl (e ▸ hk))⟩
/-- What a caller's own word may speak of. -/
def Spare (hb : Nat) (gb : Option Nat) (s : Nat) (k : Nat) : Prop := (k ≠ hb ∧ gb ≠ some k) ∧ k ≠ s ∧ k ≠ s + 1
/-- What its round leaves alone. -/
def Held (hb Bh : Nat) (gb : Option Nat) (s : Nat) (k : Nat) : Prop := k = hb ∨ gb = some k ∨ k = Bh ∨ k = s ∨ k = s + 1
/-- How a round may be left. -/
def RoundEnds (hb Bh : Nat) (gb : Option Nat) (s : Nat) (I : List DueV → World → Prop) (Ix : Code → List DueV → World → Prop) (xs : List DueV) (W : World) : Exit → Act → World → Prop
  | .normal, _, W' => Keeps (Held hb Bh gb s) W W' ∧ I xs W'
  | .exit id, _, W' => Keeps (Held hb Bh gb s) W W' ∧ Ix (.exit id) xs W'
  | _, _, _ => False
theorem range_taken {op : Operand} {ps : Array Tmp} {assign body : Code} {Q : Exit → Act → World → Prop} {a : Act} {w : World} (n : Nat) (h2 : 2 ≤ n) (lo hb Bh : Nat) (gb : Option Nat) (S : List DueV) (v0 : Value) (l0 : List DueV)
    (hop : a.eval op = .func (.func 58) #[] #[.pointer (some ⟨Bh, 0, none⟩)]) (hps : ps.size = 1) (hS : S.Pairwise DueV.lt) (hT : ∀ d ∈ S, d.text.size ≤ 1000000) (hSl : S.length ≤ 1000000)
    (hV : HeapV w lo hb v0 l0) (hgb : v0.ownBlock = gb) (hp : l0.Perm S) (hh : heapFrom l0 0 l0.length) (hB : Boxed w Bh 56 (.pointer (some ⟨hb, 0, none⟩)))
    (I : List DueV → World → Prop) (Ix : Code → List DueV → World → Prop) (hI : ∀ xs W W', I xs W → Keeps (Spare hb gb w.heap.size) W W' → I xs W') (hIx : ∀ c xs W W', Ix c xs W → Keeps (Spare hb gb w.heap.size) W W' → Ix c xs W')
    (h0 : I [] w) (F : DueV → Nat → Act)
    (hassign : ∀ (l : Nat) (x : DueV) (W : World) (K : Act → World → Prop), K (F x W.heap.size) (W.alloc (.cells #[.int .i64 x.at0, .int .i64 x.seq, .int .i64 x.node, .string x.text] 25)) →
      assign.wpIn (Fence.wide.inRound l) (n - 1 - 1) Try.prog (Exit.then K (fun _ _ _ => False)) { tmps := (ps.zip #[x.val]).foldl (fun t (p, v) => t.setIfInBounds p v) a.tmps, defers := [] } W)
    (hbody : ∀ (l : Nat) (pre : List DueV) (x : DueV) (rest : List DueV) (Bx : Nat) (W : World), S = pre ++ x :: rest → I pre W → BlkOf W Bx x → w.heap.size + 2 ≤ Bx → gb ≠ some Bx →
      body.wpIn (Fence.wide.inRound l) (n - 1 - 1) Try.prog (RoundEnds hb Bh gb w.heap.size I Ix (pre ++ [x]) W) (F x Bx) W)
    (hdone : ∀ (v : Value) (W : World), I S W → HeapV W lo hb v [] → v.ownBlock = gb → W.heap[w.heap.size]? = some (.deferred (some [])) → Q .normal { a with defers := { target := .collected w.heap.size, args := #[] } :: a.defers } W)
    (hstop : ∀ (c : Code) (pre : List DueV) (x : DueV) (rest l' : List DueV) (v : Value) (W : World), S = pre ++ x :: rest → Ix c (pre ++ [x]) W → l'.Perm rest → heapFrom l' 0 l'.length → HeapV W lo hb v l' → v.ownBlock = gb →
      W.heap[w.heap.size]? = some (.deferred (some [])) → c.wpIn Fence.wide n Try.prog Q { a with defers := { target := .collected w.heap.size, args := #[] } :: a.defers } W) :
    (Code.rangeFunc op ps assign body).wpIn Fence.wide n Try.prog Q a w := by
  have hgl : ∀ k, gb = some k → k < w.heap.size := fun k e => (hV.row.lt k (hgb.trans e)).2
  have hbl := hV.box.lt
  have hBl := hB.lt
  refine wpIn_rangeFunc fun fn hfn => ?_
  obtain ⟨r, hr⟩ : ∃ r : LoopState → Option Code → Loop, r = fun st pe => { state := st, pending := pe, fn, tmps := a.tmps, params := ps, assign, body, defers := w.heap.size } := ⟨_, rfl⟩
  obtain ⟨W1, hW1⟩ : ∃ W1, (w.alloc (.deferred (some []))).alloc (.loop (r .ready none)) = W1 := ⟨_, rfl⟩
  have hs1 : W1.heap.size = w.heap.size + 2 := by rw [← hW1]; simp
  have hL1 : W1.heap[w.heap.size + 1]? = some (.loop (r .ready none)) := by
    have := World.alloc_heap_new (w.alloc (.deferred (some []))) (.loop (r .ready none))
    rw [World.size_alloc, hW1] at this
    exact this
  have hD1 : W1.heap[w.heap.size]? = some (.deferred (some [])) := by
    rw [← hW1]
    exact (Below.heap_alloc _ _ _ (by simp)).trans (World.alloc_heap_new w _)
  have K1 : Keeps (fun _ => True) w W1 := by rw [← hW1]; exact ((Keeps.refl _ _).alloc _).alloc _
  have hV1 := hV.keep K1 trivial (fun _ _ => trivial)
  have hB1 : Boxed W1 Bh 56 (.pointer (some ⟨hb, 0, none⟩)) := (K1.block Bh hBl trivial).trans hB
  have hI1 : I [] W1 := hI _ _ _ h0 (K1.mono (fun _ _ _ => trivial))
  refine ⟨w.heap.size + 1, [{ target := .collected w.heap.size, args := #[] }], W1, { target := .fn (.func 58) #[.pointer (some ⟨Bh, 0, none⟩)], args := #[.func (.yield (w.heap.size + 1)) #[] #[]] }, W1, 58,
    #[.func (.yield (w.heap.size + 1)) #[] #[], .pointer (some ⟨Bh, 0, none⟩)], W1, ?e1, ?e2, fun _ _ => trivial, ?e3, fun _ => by omega, ?e4⟩
  case e1 => rw [← hW1, hr]; exact run_enterLoop_outer _ _ _ _ _
  case e2 => simp only [resolve, hop]; simp [go_sem]
  case e3 => simp [invoke, go_sem]
  case e4 =>
    refine (taken1_in (n - 1) (by omega) (w.heap.size + 1) lo hb Bh gb S hS hT hSl
      (fun xs W => I xs W ∧ W.heap[w.heap.size + 1]? = some (.loop (r .ready none)) ∧ W.heap[w.heap.size]? = some (.deferred (some [])))
      (fun xs W => ∃ c, Ix c xs W ∧ W.heap[w.heap.size + 1]? = some (.loop (r .done (some c))) ∧ W.heap[w.heap.size]? = some (.deferred (some [])))
      ?j ?y W1 v0 l0 hV1 hgb hp hh hB1 ⟨hI1, hL1, hD1⟩).mono ?m
    case j =>
      rintro xs W W' ⟨hi, hl, hd⟩ hk
      have keep : ∀ k o, W.heap[k]? = some o → w.heap.size ≤ k → W'.heap[k]? = some o := fun k o ho hkk => (hk.block k (Array.getElem?_eq_some_iff.1 ho).1 ⟨by omega, fun e => by have := hgl k e; omega⟩).trans ho
      exact ⟨hI _ _ _ hi (hk.mono (fun k _ h => h.1)), keep _ _ hl (by omega), keep _ _ hd (by omega)⟩
    case y =>
      rintro pre x rest W hSx ⟨hi, hl, hd⟩
      have hlt : w.heap.size + 1 < W.heap.size := (Array.getElem?_eq_some_iff.1 hl).1
      have hy := run_yield (P := Try.prog) (args := #[x.val]) hl (by rw [hr]; exact hps.symm)
      rw [hr] at hy
      refine ⟨fn, _, assign, body, hy, roundIn_of_wpIn hfn (hassign _ x W _ ?_)⟩
      clear hy
      obtain ⟨Wa, hWa⟩ : ∃ Wa, W.alloc (.cells #[.int .i64 x.at0, .int .i64 x.seq, .int .i64 x.node, .string x.text] 25) = Wa := ⟨_, rfl⟩
      have Ka : Keeps (fun _ => True) W Wa := by rw [← hWa]; exact (Keeps.refl _ _).alloc _
      have hX := BlkOf.new W x
      rw [hWa] at hX ⊢
      have hla := (Ka.block _ hlt trivial).trans hl
      have hda := (Ka.block _ (by omega) trivial).trans hd
      have hlta := Nat.lt_of_lt_of_le hlt Ka.size
      refine ⟨_, run_beginRound hla (by rw [hr]), ?_⟩
      obtain ⟨Wb, hWb⟩ : ∃ Wb, Wa.putObj (w.heap.size + 1) (.loop { r .ready none with state := .busy }) = Wb := ⟨_, rfl⟩
      have hlb : Wb.heap[w.heap.size + 1]? = some (.loop { r .ready none with state := .busy }) := by rw [← hWb]; exact World.putObj_heap_same hlta
      have Kb : Keeps (fun k => k ≠ w.heap.size + 1) W Wb := by rw [← hWb]; exact (Ka.mono (fun _ _ _ => trivial)).putObj (fun h => h rfl) _
      have Kab : Keeps (fun k => k ≠ w.heap.size + 1) Wa Wb := by rw [← hWb]; exact (Keeps.refl _ _).putObj (fun h => h rfl) _
      have hdb := (Kab.block _ (by omega) (by omega)).trans hda
      rw [hWb]
      refine wpIn_mono (hbody _ pre x rest W.heap.size Wb hSx (hI _ _ _ hi (Kb.mono (fun k _ h => h.2.2))) (hX.keepK Kab (by omega)) (by omega) (fun e => by have := hgl _ e; omega)) ?_
      have fin : ∀ (jump : Option Code) (W3 : World), Keeps (Held hb Bh gb w.heap.size) Wb W3 →
          ∃ W4, (Instr.endRound (w.heap.size + 1) jump).run Try.prog W3 = .ok (.bool jump.isNone) W4 ∧ W4.heap[w.heap.size + 1]? = some (.loop (r (if jump.isNone then .ready else .done) jump)) ∧ W4.heap[w.heap.size]? = some (.deferred (some [])) ∧
            Keeps (fun k => k ≠ w.heap.size + 1) W3 W4 := fun jump W3 hk => by
        have hl3 := (hk.block _ (Array.getElem?_eq_some_iff.1 hlb).1 (.inr (.inr (.inr (.inr rfl))))).trans hlb
        have hd3 := (hk.block _ (Array.getElem?_eq_some_iff.1 hdb).1 (.inr (.inr (.inr (.inl rfl))))).trans hdb
        have he := run_endRound (P := Try.prog) jump hl3
        rw [hr] at he ⊢
        exact ⟨_, he, World.putObj_heap_same (Array.getElem?_eq_some_iff.1 hl3).1, (World.putObj_heap_other (by omega)).trans hd3, (Keeps.refl _ _).putObj (fun h => h rfl) _⟩
      have held : ∀ W3 W4, Keeps (Held hb Bh gb w.heap.size) Wb W3 → Keeps (fun k => k ≠ w.heap.size + 1) W3 W4 → RoundKeeps hb Bh gb W W4 := fun W3 W4 k3 k4 => by
        have hne : ∀ k, k < W.heap.size → (k = hb ∨ gb = some k ∨ k = Bh) → k ≠ w.heap.size + 1 := fun k _ h => by
          rcases h with h | h | h
          · omega
          · have := hgl k h; omega
          · omega
        refine ⟨k4.os.trans (k3.os.trans Kb.os), k4.tape.trans (k3.tape.trans Kb.tape), k4.output.trans (k3.output.trans Kb.output), Nat.le_trans Kb.size (Nat.le_trans k3.size k4.size), fun k hk h => ?_⟩
        have hb2 := Nat.lt_of_lt_of_le hk Kb.size
        exact (k4.block k (Nat.lt_of_lt_of_le hb2 k3.size) (hne k hk h)).trans ((k3.block k hb2 (h.imp id (Or.imp id Or.inl))).trans (Kb.block k hk (hne k hk h)))
      rintro e a3 W3 hpost
      cases e with
      | normal =>
        obtain ⟨k3, i3⟩ := hpost
        obtain ⟨W4, he, hl4, hd4, k4⟩ := fin none W3 k3
        exact ⟨_, W4, he, .inl ⟨rfl, ⟨hI _ _ _ i3 (k4.mono (fun k _ h => h.2.2)), hl4, hd4⟩, held W3 W4 k3 k4⟩⟩
      | exit id =>
        obtain ⟨k3, i3⟩ := hpost
        obtain ⟨W4, he, hl4, hd4, k4⟩ := fin (some (.exit id)) W3 k3
        exact ⟨_, W4, he, .inr ⟨rfl, ⟨.exit id, hIx _ _ _ _ i3 (k4.mono (fun k _ h => h.2.2)), hl4, hd4⟩, held W3 W4 k3 k4⟩⟩
      | ret => exact hpost.elim
      | goto t => exact hpost.elim
      | panic ch => exact hpost.elim
      | outgrown => exact hpost.elim
    case m =>
      have out : ∀ (W2 : World) (st : LoopState) (pe : Option Code), st ≠ .busy → W2.heap[w.heap.size + 1]? = some (.loop (r st pe)) → ∃ W4, (Instr.endLoop (w.heap.size + 1)).run Try.prog W2 = .ok pe W4 ∧ Keeps (fun k => k ≠ w.heap.size + 1) W2 W4 := fun W2 st pe hst hl => by
        have he := run_endLoop (P := Try.prog) hl (by rw [hr]; exact hst)
        rw [hr] at he
        exact ⟨_, he, (Keeps.refl _ _).putObj (fun h => h rfl) _⟩
      have hHV : ∀ {W2 W4 : World} {v : Value} {l' : List DueV}, HeapV W2 lo hb v l' → v.ownBlock = gb → Keeps (fun k => k ≠ w.heap.size + 1) W2 W4 → HeapV W4 lo hb v l' := fun h e k => h.keep k (by omega) (fun g hg => by have := hgl g (e.symm.trans hg); omega)
      rintro e W2 ⟨⟨v, rfl⟩, (⟨⟨hi, hl, hd⟩, v2, hg2, hV2⟩ | ⟨pre, x, rest, l', v2, hSx, ⟨c, hi, hl, hd⟩, hp2, hh2, hV2, hg2⟩)⟩
      · obtain ⟨W4, he, k4⟩ := out W2 .ready none (by simp) hl
        exact ⟨none, W4, he, hdone v2 W4 (hI _ _ _ hi (k4.mono (fun k _ h => h.2.2))) (hHV hV2 hg2 k4) hg2 ((k4.block _ (Array.getElem?_eq_some_iff.1 hd).1 (by omega)).trans hd)⟩
      · obtain ⟨W4, he, k4⟩ := out W2 .done (some c) (by simp) hl
        exact ⟨some c, W4, he, hstop c pre x rest l' v2 W4 hSx (hIx _ _ _ _ hi (k4.mono (fun k _ h => h.2.2))) hp2 hh2 (hHV hV2 hg2 k4) hg2 ((k4.block _ (Array.getElem?_eq_some_iff.1 hd).1 (by omega)).trans hd)⟩
end Go.Proofs.Ytlnkcbojoaoehaa
