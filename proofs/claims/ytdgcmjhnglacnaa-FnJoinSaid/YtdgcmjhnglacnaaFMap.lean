/- A map keyed by facts, that a call makes: how often each was met. -/
import Derived.Test.YtdgcmjhnglacnaaFactOne
import Derived.Test.YtdgcmjhnglacnaaKeep
import Derived.Maps.OwnSet
import Derived.WideKeyEntry
import Derived.DeepKeys4
namespace Go.Proofs.Ytdgcmjhnglacnaa
open Go Go.RowKit Go.Maps Go.WideMaps
set_option linter.unusedVariables false

theorem factLaw : KeyLaw Try.prog 24 := deep_law_laid (show laidOutB Try.prog = true by kernel_rfl) (m := 2) (by omega) (of_decide_eq_true (by kernel_rfl)) (by kernel_rfl) (by rw [Try.underlying24])
theorem factKeyed : Keyed Try.prog 24 := Keyed.of_law factLaw
theorem zeroI64 (w : World) : (zeroValue 2).run Try.prog w = .ok (.int .i64 0) w := by kernel_rfl
theorem wf64 {a : Int} (h0 : -1000000000 ≤ a) (h1 : a ≤ 1000000000) : (Lit.int .i64 a).wf = true := WalkArith.wf_i64 (by omega)
theorem lits_int (d : Nat) {a : Int} (h : (Lit.int .i64 a).wf = true) : Try.prog.keyLits (d + 1) 2 [.int .i64 a] = some [.int .i64 a] := by
  unfold Program.keyLits
  simp [Try.underlying2, h]
theorem lits_fact (d : Nat) {a b c : Int} (w1 : (Lit.int .i64 a).wf = true) (w2 : (Lit.int .i64 b).wf = true) (w3 : (Lit.int .i64 c).wf = true) : Try.prog.keyLits (d + 1 + 1) 24 [.int .i64 a, .int .i64 b, .int .i64 c] = some [.int .i64 a, .int .i64 b, .int .i64 c] := by
  have c1 : Try.prog.cellsOf 2 = 1 := by kernel_rfl
  have c3 : Try.prog.cellsOf 24 = 3 := by kernel_rfl
  unfold Program.keyLits
  simp [Try.underlying24, c1, c3, lits_int d w1, lits_int d w2, lits_int d w3]
theorem fact_key {f : FactV} (h : f.ok) : ∃ l, keyOf Try.prog 24 f.val = some l := by
  have w1 : (Lit.int .i64 f.node).wf = true := wf64 (by have := h.1.1; omega) (by have := h.1.2; omega)
  have w2 : (Lit.int .i64 f.inc).wf = true := wf64 (by have := h.2.1.1; omega) (by have := h.2.1.2; omega)
  have w3 : (Lit.int .i64 f.st).wf = true := wf64 (by have := h.2.2.1; omega) (by have := h.2.2.2; omega)
  obtain ⟨n, hs⟩ : ∃ n, Try.prog.types.size = n + 1 := ⟨104 - 1, by kernel_rfl⟩
  have hk : Try.prog.keyType 24 = true := by kernel_rfl
  have c3 : Try.prog.cellsOf 24 = 3 := by kernel_rfl
  have hf : f.val.formed Try.prog 24 = true := by simp [FactV.val, Value.formed, Try.underlying24, c3]
  have hl := lits_fact n w1 w2 w3
  refine ⟨.string (keyBytes [.int .i64 f.node, .int .i64 f.inc, .int .i64 f.st]), ?_⟩
  unfold keyOf
  rw [Try.underlying24]
  simp only [hk, hf, Bool.and_self, if_true]
  rw [hs]
  have e : f.val.cells.toList = [.int .i64 f.node, .int .i64 f.inc, .int .i64 f.st] := rfl
  rw [e, hl]
  rfl
/-- What its key reads as. -/
theorem val_inj {f g : FactV} (h : f.val = g.val) : f = g := by
  cases f; cases g
  simpa [FactV.val] using h
theorem key_ne {f g : FactV} {k l : Lit} (hf : keyOf Try.prog 24 f.val = some k) (hg : keyOf Try.prog 24 g.val = some l) (h : f ≠ g) : k ≠ l := fun e => h (val_inj (factKeyed.inj hf (e ▸ hg)))
/-- A map of facts: how often each stands in a list. -/
def Counts (w : World) (b n : Nat) (S : List FactV) : Prop := ∃ D : DataW Unit, w.ownsMap Try.prog 24 (plainElem Try.prog 2) b n D ∧ IsMap D ∧
  ∀ f k, keyOf Try.prog 24 f.val = some k → ∃ c : Int, D.atKey k (.lit (.int .i64 0)) = .lit (.int .i64 c) ∧ 0 ≤ c ∧ c ≤ n ∧ (0 < c ↔ f ∈ S)
theorem counts_made (w : World) : Counts (w.alloc (.map #[] 0)) w.heap.size 0 [] :=
  ⟨.map [], World.ownsMap_made _ _ _ _, ⟨_, rfl⟩, fun f k _ => ⟨0, rfl, Int.le_refl _, Int.le_refl _, by simp⟩⟩
theorem Counts.lt {w : World} {b n : Nat} {S : List FactV} (h : Counts w b n S) : b < w.heap.size := by obtain ⟨D, h, _⟩ := h; exact h.lt
theorem Counts.grown {w w' : World} {b n : Nat} {S : List FactV} {row : Option Nat} (h : Counts w b n S) (hg : w.grownBy w' row) (hne : some b ≠ row) : Counts w' b n S := by
  obtain ⟨D, h, r⟩ := h
  exact ⟨D, h.kept hg hne, r⟩
theorem Counts.alloc {w : World} {b n : Nat} {S : List FactV} (h : Counts w b n S) (o : Obj) : Counts (w.alloc o) b n S := h.grown (World.grownBy_alloc w o none) (by simp)
/-- held[f] -/
theorem Counts.look {w : World} {b n : Nat} {S : List FactV} (h : Counts w b n S) {f : FactV} (hf : f.ok) : ∃ c : Int, (Instr.lookup 81 (.map (some b)) f.val false).run Try.prog w = .ok (.int .i64 c) w ∧ 0 ≤ c ∧ c ≤ n ∧ (0 < c ↔ f ∈ S) := by
  obtain ⟨D, hD, hm, hc⟩ := h
  obtain ⟨k, hk⟩ := fact_key hf
  obtain ⟨c, e, c0, c1, c2⟩ := hc f k hk
  obtain ⟨c', hrun, hat, _⟩ := hD.lookup_int factKeyed Try.underlying81 Try.underlying2 (zeroI64 w) hk
  rw [e] at hat
  have : c = c' := by simpa using hat
  subst this
  exact ⟨c, hrun, c0, c1, c2⟩
/-- The place of a fact is taken: what is looked up behind it is what was. -/
theorem Counts.entry {w : World} {b n : Nat} {S : List FactV} (h : Counts w b n S) {f : FactV} (hf : f.ok) (hn : n ≤ 1000000) : ∃ (v0 : Value) (st : Nat) (w1 : World), (Instr.mapEntry 81 (.map (some b)) f.val).run Try.prog w = .ok (.tuple #[v0, .int .i64 (st : Int)]) w1 ∧ w.grownBy w1 (some b) ∧
    ∀ c : Int, (Instr.lookup 81 (.map (some b)) f.val false).run Try.prog w = .ok (.int .i64 c) w → (Instr.lookup 81 (.map (some b)) f.val false).run Try.prog w1 = .ok (.int .i64 c) w1 ∧
      ∃ w2, (Instr.entryStore 81 (.map (some b)) (.int .i64 (st : Int)) (.int .i64 (c + 1))).run Try.prog w1 = .ok () w2 ∧ Counts w2 b (n + 1) (S ++ [f]) ∧ w.grownBy w2 (some b) := by
  obtain ⟨c, hl, c0, c1, c2⟩ := h.look hf
  obtain ⟨D, hD, hm, hc⟩ := h
  obtain ⟨k, hk⟩ := fact_key hf
  have hD' := hD
  obtain ⟨es, clock, hb, F, hs, hDe⟩ := hD'
  have ht := Try.underlying81
  have hz0 : ∀ u : World, (zeroValue 2).run Try.prog u = .ok (.int .i64 0) u := zeroI64
  obtain ⟨v0, st, es1, clock1, he, hv0, hst⟩ := WideElems.entry_then_store factLaw ht (fun u => zeroI64 u) hb F hk
  have gb : ∀ o, w.grownBy (ChangeMaps.setBlock w b o) (some b) := fun o => ⟨rfl, rfl, rfl, by simp [ChangeMaps.setBlock], fun i _ hi => ChangeMaps.heap_setBlock_other hb _ (fun e => hi (by rw [e]))⟩
  refine ⟨v0, st, _, he, gb _, fun c' hc' => ?_⟩
  have e : c' = c := by
    rw [hl] at hc'
    simpa using hc'.symm
  subst e
  refine ⟨?_, ?_⟩
  · -- the entries behind the place's taking: those that were, or one more, of zero
    have hlook : ∃ D1 : DataW Unit, (ChangeMaps.setBlock w b (.map es1 clock1)).ownsMap Try.prog 24 (plainElem Try.prog 2) b (n + 1) D1 ∧ D1.atKey k (.lit (.int .i64 0)) = .lit (.int .i64 c') := by
      rcases factLaw.find w hk es.toList F.keys with ⟨g1, g2⟩ | ⟨j, e0, g1, g2, g3⟩
      · have r1 : (Instr.mapEntry 81 (.map (some b)) f.val).run Try.prog w = .ok (.tuple #[.int .i64 0, goInt clock]) (ChangeMaps.setBlock w b (.map (es.push ⟨f.val, .int .i64 0, clock⟩) (clock + 1))) := by
          simp [Instr.mapEntry, run_underlying ht, MapKept.run_getObj_map hb, factLaw.check w false hk, g1, hz0 w, MapKept.run_setObj_map _ hb, Result.andThen, ChangeMaps.setBlock]
        rw [he] at r1
        have ew : ChangeMaps.setBlock w b (.map es1 clock1) = ChangeMaps.setBlock w b (.map (es.push ⟨f.val, .int .i64 0, clock⟩) (clock + 1)) := by
          have := Result.ok.inj r1
          exact this.2
        obtain ⟨w', hrun, hown, _⟩ := hD.update factKeyed ht (by unfold maxLen; omega) hk (plainElem_int Try.underlying2 (wf64 (a := 0) (by omega) (by omega)))
        have r2 : (Instr.mapUpdate 81 (.map (some b)) f.val (.int .i64 0)).run Try.prog w = .ok () (ChangeMaps.setBlock w b (.map (es.push ⟨f.val, .int .i64 0, clock⟩) (clock + 1))) := by
          simp [Instr.mapUpdate, run_underlying ht, MapKept.run_getObj_map hb, factLaw.check w false hk, g1, MapKept.run_setObj_map _ hb, Result.andThen, ChangeMaps.setBlock]
        rw [hrun] at r2
        have ew2 : w' = ChangeMaps.setBlock w b (.map (es.push ⟨f.val, .int .i64 0, clock⟩) (clock + 1)) := (Result.ok.inj r2).2
        have rl : (Instr.lookup 81 (.map (some b)) f.val false).run Try.prog w = .ok (.int .i64 0) w := by
          rcases Maps.fit_look false factKeyed ht (zeroI64 w) hb F hk with ⟨hr, _, _⟩ | ⟨e0, y, he0, hk0, _⟩
          · exact hr
          · exact absurd hk0 (g2 e0 he0)
        have z : c' = 0 := by
          rw [hl] at rl
          simpa using rl
        refine ⟨_, by rw [ew, ← ew2]; exact hown, ?_⟩
        rw [z]
        exact atKey_put_same hm (factKeyed.key hk) _ _
      · have hj : es[j]? = some e0 := by simpa using g2
        have hsame : es.modify j (fun e => { e with key := f.val }) = es := by
          apply Array.ext'
          rw [Array.toList_modify, ChangeMaps.modify_eq_set _ _ _ _ g2]
          have : ({ e0 with key := f.val } : MapEntry) = e0 := by rw [← g3]
          rw [this]
          exact WideElems.set_self _ _ _ g2
        have r1 : (Instr.mapEntry 81 (.map (some b)) f.val).run Try.prog w = .ok (.tuple #[e0.val, goInt e0.born]) (ChangeMaps.setBlock w b (.map es clock)) := by
          simp [Instr.mapEntry, run_underlying ht, MapKept.run_getObj_map hb, factLaw.check w false hk, g1, hj, g3, factLaw.stays w hk, hsame, MapKept.run_setObj_map _ hb, Result.andThen, ChangeMaps.setBlock]
        rw [he] at r1
        have ew : ChangeMaps.setBlock w b (.map es1 clock1) = ChangeMaps.setBlock w b (.map es clock) := (Result.ok.inj r1).2
        refine ⟨D, by rw [ew]; exact ⟨es, clock, ChangeMaps.heap_setBlock_same hb _, F, Nat.le_succ_of_le hs, hDe⟩, ?_⟩
        obtain ⟨d, e1, _⟩ := hc f k hk
        obtain ⟨d', hrun, hat, _⟩ := hD.lookup_int factKeyed ht Try.underlying2 (zeroI64 w) hk
        rw [hl] at hrun
        have : c' = d' := by simpa using hrun
        rw [this]; exact hat
    obtain ⟨D1, hD1, hat1⟩ := hlook
    obtain ⟨d', hrun, hat, _⟩ := hD1.lookup_int factKeyed ht Try.underlying2 (zeroI64 _) hk
    rw [hat1] at hat
    have : c' = d' := by simpa using hat
    rw [this]; exact hrun
  obtain ⟨es', clock', h1, h2⟩ := hst (ChangeMaps.setBlock w b (.map es1 clock1)) (.int .i64 (c' + 1)) (ChangeMaps.heap_setBlock_same hb _)
  have hw : (Lit.int .i64 (c' + 1)).wf = true := wf64 (by omega) (by omega)
  obtain ⟨w', hrun, hown, hgr⟩ := hD.update factKeyed ht (by unfold maxLen; omega) hk (plainElem_int Try.underlying2 hw)
  rw [h2] at hrun
  have ew : w' = ChangeMaps.setBlock w b (.map es' clock') := by simpa using hrun.symm
  subst ew
  have e2 : ChangeMaps.setBlock (ChangeMaps.setBlock w b (.map es1 clock1)) b (.map es' clock') = ChangeMaps.setBlock w b (.map es' clock') := by
    unfold ChangeMaps.setBlock
    simp
  rw [e2] at h1
  refine ⟨_, h1, ⟨_, hown, hm.put _ _, fun g l hg => ?_⟩, hgr⟩
  by_cases e : g = f
  · subst e
    have : l = k := by rw [hk] at hg; exact (Option.some.inj hg).symm
    subst this
    refine ⟨c' + 1, atKey_put_same hm (factKeyed.key hk) _ _, by omega, by omega, ?_⟩
    simp
    omega
  · obtain ⟨d, e1, d0, d1, d2⟩ := hc g l hg
    refine ⟨d, ?_, d0, by omega, ?_⟩
    · rw [atKey_put_other (key_ne hg hk e)]; exact e1
    · rw [d2]
      simp [e]
end Go.Proofs.Ytdgcmjhnglacnaa
