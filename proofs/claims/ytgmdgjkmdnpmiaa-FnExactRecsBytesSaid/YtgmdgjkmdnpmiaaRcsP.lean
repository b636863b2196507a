/- The bytes of records, plain; bytes of one's own. -/
import Derived.Test.YtgmdgjkmdnpmiaaRcB
import Derived.Lib.AppendStr
import Derived.Laws.OwnMore
namespace Go.Proofs.Ytgmdgjkmdnpmiaa
open Go Go.RowKit
set_option linter.unusedVariables false
set_option linter.unusedSimpArgs false

/-- Right records, and not too many. -/
def recsR (l : List RecV) : Prop := l.length ≤ 400 ∧ ∀ x ∈ l, x.ok
def recsB (l : List RecV) : List UInt8 := l.flatMap RecV.bytes
def recsO (l : List RecV) (q : Bool) : List UInt8 := if q then (if 8000 < ((recsB l).length : Int) then [] else recsB l) else []
theorem recsB_take {l : List RecV} {k : Nat} (h : k < l.length) {x : RecV} (hx : l[k] = x) : recsB (l.take (k + 1)) = recsB (l.take k) ++ x.bytes := by
  subst hx
  unfold recsB
  rw [List.take_succ_eq_append_getElem h, List.flatMap_append]
  simp
theorem recsB_len (l : List RecV) : (recsB l).length ≤ 80 * l.length := by
  induction l with
  | nil => simp [recsB]
  | cons x r ih =>
    have := x.bytes_len
    simp only [recsB, List.flatMap_cons, List.length_append, List.length_cons] at ih ⊢
    omega
theorem recsB_cat (l : List RecV) : cat (l.map fun x => (⟨x.bytes.toArray⟩ : ByteArray)) = recsB l := by
  induction l with
  | nil => rfl
  | cons x r ih => simp only [recsB, List.flatMap_cons, List.map_cons] at ih ⊢; rw [← ih]; simp [cat]
def byVR (l : List UInt8) : List Value := l.map fun b => Value.int .u8 (b.toNat : Int)
theorem byVR_append (l m : List UInt8) : byVR (l ++ m) = byVR l ++ byVR m := by simp [byVR]
theorem strCells_ofR (l : List UInt8) : Lib.strCells ⟨l.toArray⟩ = byVR l := by simp [Lib.strCells, byVR]
theorem Try.infoByteR : (Try.prog.info? 5).map (fun i => (i.zero, i.size, i.bytes)) = some (some (.int .u8 0), 1, 1) := by kernel_rfl
/-- string(b), b bytes of one's own. -/
theorem conv_ownR {w : World} {base : Nat} {v : Value} {n : Nat} {l : List UInt8} (h : w.ownsRow base 5 1 v n (byVR l)) (hn : l.length = n) : (convert 44 9 v).run Try.prog w = .ok (.string ⟨l.toArray⟩) w := by
  subst hn
  have h' := h
  rcases h.2 with ⟨hv, h0⟩ | ⟨g, cap, cur, hv, hb, hg, hnc, hcm, hcs, ht⟩
  · have hl : l = [] := List.eq_nil_of_length_eq_zero h0
    subst hl hv
    rw [run_convert_bytes_string w 44 9 5 none 0 0 Try.underlying44 Try.underlying5 Try.underlying9]
    rfl
  · subst hv
    refine run_convert_bytes_back (P := Try.prog) w 44 9 5 ⟨g, 0, none⟩ cap l Try.underlying44 Try.underlying5 Try.underlying9 (fun j hj => ?_)
    have e : (⟨g, 0, none⟩ : Addr).add j = ⟨g, j, none⟩ := by by_cases e0 : j = 0 <;> simp [Addr.add, e0]
    rw [e, h'.cellAt j (by omega), byVR, List.getElem?_map, List.getElem?_eq_getElem hj]
    rfl
theorem rowBelowR {w w' : World} {base e size n : Nat} {v : Value} {xs : List Value} (h : w.ownsRow base e size v n xs) (hb : Below w.heap.size w w') : w'.ownsRow base e size v n xs := by
  rcases h with ⟨h1, h2⟩
  refine ⟨h1, ?_⟩
  rcases h2 with h2 | ⟨g, cap, cur, hv, hbg, hg, hr⟩
  · exact .inl h2
  · exact .inr ⟨g, cap, cur, hv, hbg, (hb.block g (Array.getElem?_eq_some_iff.1 hg).1).trans hg, hr⟩
theorem own_lenR {w : World} {base e size n : Nat} {v : Value} {xs : List Value} (h : w.ownsRow base e size v n xs) : ∃ a cap, v = .slice a n cap := by
  rcases h.2 with ⟨hv, h0⟩ | ⟨g, cap, cur, hv, _⟩
  · exact ⟨none, 0, by rw [hv, h0]⟩
  · exact ⟨some ⟨g, 0, none⟩, cap, hv⟩
end Go.Proofs.Ytgmdgjkmdnpmiaa
