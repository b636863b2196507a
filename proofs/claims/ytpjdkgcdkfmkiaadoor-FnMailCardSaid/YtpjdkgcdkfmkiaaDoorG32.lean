/- The contracts of the exact laws' helpers over []int64: copy, compare, mark, held. -/
import Derived.Test.YtpjdkgcdkfmkiaaDoorChecked
import Derived.Test.YtpjdkgcdkfmkiaaDoorPlain1
import Derived.WalkKit
import Derived.WalkLawsBesides
import Derived.WalkSpells
import Derived.BigRegion
import Derived.OpenShut
import Derived.Deep.DeepCutAuto
import Derived.Deep.OwnRows
import Derived.Test.YtpjdkgcdkfmkiaaDoorG9
import Derived.Laws.OwnMore
import Derived.Laws.AppendOwnNone
import Derived.Test.YtpjdkgcdkfmkiaaDoorG29
import Derived.Test.YtpjdkgcdkfmkiaaDoorG27
import Derived.Test.YtpjdkgcdkfmkiaaDoorG6
namespace Go.Proofs.YtpjdkgcdkfmkiaaDoor
open Go Go.RowKit
set_option linter.unusedVariables false

theorem Tryd.infoI64 : (Tryd.prog.info? 2).map (fun i => (i.zero, i.size, i.bytes)) = some (some (.int .i64 0), 1, 8) := by kernel_rfl
/-- A slice of numbers, to read. -/
def NumRow (w : World) (a : Option Addr) (l : List Int) : Prop :=
  l = [] ∨ ∃ b off : Nat, a = some ⟨b, off, none⟩ ∧ b < w.heap.size ∧ ∀ i (h : i < l.length), w.cell? ⟨b, off + i, none⟩ = some (.int .i64 l[i])
theorem NumRow.keep {w w' : World} {a : Option Addr} {l : List Int} (h : NumRow w a l) (hb : Below w.heap.size w w') : NumRow w' a l := by
  rcases h with h | ⟨b, off, rfl, hlt, hc⟩
  · exact .inl h
  · exact .inr ⟨b, off, rfl, Nat.lt_of_lt_of_le hlt hb.size, fun i hi => (hb.cell (p := ⟨b, off + i, none⟩) hlt).trans (hc i hi)⟩
theorem NumRow.of_row {w : World} {b t : Nat} {l : List Int} (h : w.rowIs b t l.length (fun j => .int .i64 (l.getD j 0))) : NumRow w (some ⟨b, 0, none⟩) l :=
  .inr ⟨b, 0, rfl, h.lt, fun i hi => by rw [Nat.zero_add, h.cell hi, List.getD_eq_getElem?_getD, List.getElem?_eq_getElem hi]; rfl⟩
theorem ret_boolE {x y : Bool} (h : x = y) : Ending.returned (.bool x) = .returned (.bool y) := by rw [h]
theorem ret_intE {k : IntKind} {x y : Int} (h : x = y) : Ending.returned (.int k x) = .returned (.int k y) := by rw [h]
theorem getD_at {l : List Int} {i : Nat} (h : i < l.length) : l.getD i 0 = l[i] := by rw [List.getD_eq_getElem?_getD, List.getElem?_eq_getElem h]; rfl



/-- A slice of numbers that may be written: its block is no lesser than lo. -/
def OwnNums (w : World) (lo : Nat) (a : Option Addr) (l : List Int) : Prop :=
  l = [] ∨ ∃ b off : Nat, a = some ⟨b, off, none⟩ ∧ lo ≤ b ∧ b < w.heap.size ∧ (∀ i (h : i < l.length), w.cell? ⟨b, off + i, none⟩ = some (.int .i64 l[i])) ∧ ∀ i, i < l.length → w.frozen? ⟨b, off + i, none⟩ = false
theorem OwnNums.row {w : World} {lo : Nat} {a : Option Addr} {l : List Int} (h : OwnNums w lo a l) : NumRow w a l := by
  rcases h with h | ⟨b, off, rfl, _, hlt, hc, _⟩
  · exact .inl h
  · exact .inr ⟨b, off, rfl, hlt, hc⟩
theorem OwnNums.keep {w w' : World} {lo : Nat} {a : Option Addr} {l : List Int} (h : OwnNums w lo a l) (hb : Below w.heap.size w w') : OwnNums w' lo a l := by
  rcases h with h | ⟨b, off, rfl, hlo, hlt, hc, hf⟩
  · exact .inl h
  · exact .inr ⟨b, off, rfl, hlo, Nat.lt_of_lt_of_le hlt hb.size, fun i hi => (hb.cell (p := ⟨b, off + i, none⟩) hlt).trans (hc i hi), fun i hi => (hb.frozen (p := ⟨b, off + i, none⟩) hlt).trans (hf i hi)⟩
theorem OwnNums.of_row {w : World} {lo b t : Nat} {l : List Int} (h : w.rowIs b t l.length (fun j => .int .i64 (l.getD j 0))) (hlo : lo ≤ b) : OwnNums w lo (some ⟨b, 0, none⟩) l :=
  .inr ⟨b, 0, rfl, hlo, h.lt, fun i hi => by rw [Nat.zero_add, h.cell hi, getD_at hi], fun i _ => h.frozen _⟩
/-- The marks: k, k + 1, .. -/
def marks (k : Int) (n : Nat) : List Int := List.map (fun i : Nat => k + (i : Int)) (List.range n)
theorem marks_length (k : Int) (n : Nat) : (marks k n).length = n := by simp [marks]
theorem marks_at (k : Int) (n i : Nat) (h : i < (marks k n).length) : (marks k n)[i] = k + (i : Int) := by simp [marks]

theorem marks_succ (k : Int) (n : Nat) : marks k (n + 1) = marks k n ++ [k + (n : Int)] := by simp [marks, List.range_succ]
theorem marks_step {k : Int} {n : Nat} {l : List Int} (hx : n < l.length) : (marks k n ++ l.drop n).set n (k + (n : Int)) = marks k (n + 1) ++ l.drop (n + 1) := by
  rw [List.set_append_right _ _ (by rw [marks_length]; exact Nat.le_refl _), marks_length, Nat.sub_self, List.drop_eq_getElem_cons hx, List.set_cons_zero, marks_succ, List.append_assoc]
  rfl
theorem own_step {w : World} {lo b off n : Nat} {T : List Int} (x : Int) (hn : n < T.length) (hlo : lo ≤ b) (hlt : b < w.heap.size) (hc : ∀ i (h : i < T.length), w.cell? ⟨b, off + i, none⟩ = some (.int .i64 T[i])) (hf : ∀ i, i < T.length → w.frozen? ⟨b, off + i, none⟩ = false) :
    OwnNums (w.setCell ⟨b, off + n, none⟩ (.int .i64 x)) lo (some ⟨b, off, none⟩) (T.set n x) := by
  refine .inr ⟨b, off, rfl, hlo, by simpa [World.setCell] using hlt, fun i hi => ?_, fun i hi => ?_⟩
  · have hi' : i < T.length := by rw [List.length_set] at hi; exact hi
    by_cases e : i = n
    · subst e
      rw [World.cell?_setCell_same' _ _ _ (by rw [hc i hn]; rfl)]
      simp
    · rw [World.cell?_setCell_other _ _ _ _ (fun q => e (by have := congrArg Addr.off q; simp at this; omega)), hc i hi', List.getElem_set_ne (fun q => e q.symm)]
  · rw [World.frozen?_setCell]
    exact hf i (by rw [List.length_set] at hi; exact hi)


end Go.Proofs.YtpjdkgcdkfmkiaaDoor
/- Numbers as cells; rows of numbers of the call's own. -/
namespace Go.Proofs.YtpjdkgcdkfmkiaaDoor
open Go Go.RowKit
set_option linter.unusedVariables false

def numsV (l : List Int) : List Value := l.map (Value.int .i64)
theorem numsV_length (l : List Int) : (numsV l).length = l.length := by simp [numsV]
theorem numsV_append (l m : List Int) : numsV (l ++ m) = numsV l ++ numsV m := by simp [numsV]
theorem own_nums {w : World} {base : Nat} {v : Value} {l : List Int} (h : w.ownsRow base 2 1 v l.length (numsV l)) : ∃ a cap, v = .slice a l.length cap ∧ OwnNums w base a l := by
  have h' := h
  rcases h.2 with ⟨hv, hn⟩ | ⟨g, cap, cur, hv, hb, hg, hnc, hcm, hcs, ht⟩
  · exact ⟨none, 0, by rw [hv, hn], .inl (List.eq_nil_of_length_eq_zero hn)⟩
  · subst hv
    refine ⟨some ⟨g, 0, none⟩, cap, rfl, .inr ⟨g, 0, rfl, hb, (h'.lt g rfl).2, fun i hi => ?_, fun i hi => h'.frozenAt _⟩⟩
    rw [Nat.zero_add, h'.cellAt i (by omega), numsV, List.getElem?_map, List.getElem?_eq_getElem hi]
    rfl
theorem own_mono {w : World} {base base' e size : Nat} {v : Value} {n : Nat} {xs : List Value} (h : w.ownsRow base e size v n xs) (hb : base' ≤ base) : w.ownsRow base' e size v n xs :=
  ⟨h.1, h.2.imp id fun ⟨g, cap, cur, a, b, c⟩ => ⟨g, cap, cur, a, Nat.le_trans hb b, c⟩⟩
theorem info_partsI : ∃ i, Tryd.prog.info? 2 = some i ∧ i.zero = some (.int .i64 0) ∧ i.size = 1 ∧ i.bytes = 8 := by
  obtain ⟨i, hi, hz⟩ := Option.map_eq_some_iff.1 Tryd.infoI64
  simp only [Prod.mk.injEq] at hz
  exact ⟨i, hi, hz.1, hz.2.1, hz.2.2⟩

theorem OwnNums.beside {w w' : World} {lo b : Nat} {a : Option Addr} {l : List Int} (h : OwnNums w lo a l) (hb : b < lo) (hk : ∀ c, c ≠ b → w'.heap[c]? = w.heap[c]?) (hs : w.heap.size ≤ w'.heap.size) : OwnNums w' lo a l := by
  rcases h with h | ⟨q, off, rfl, hlo, hlt, hc, hf⟩
  · exact .inl h
  · have hq : w'.heap[q]? = w.heap[q]? := hk q (by omega)
    exact .inr ⟨q, off, rfl, hlo, by omega, fun i hi => (World.cell?_of_block (a := ⟨q, off + i, none⟩) hq).trans (hc i hi), fun i hi => (World.frozen?_of_block (a := ⟨q, off + i, none⟩) hq).trans (hf i hi)⟩
theorem addr_off (b off j : Nat) : (⟨b, off, none⟩ : Addr).add j = ⟨b, off + j, none⟩ := by by_cases e0 : j = 0 <;> simp [Addr.add, e0]
end Go.Proofs.YtpjdkgcdkfmkiaaDoor
/- The contract of numsText: PutNum of each, one behind the other. -/
namespace Go.Proofs.YtpjdkgcdkfmkiaaDoor
open Go Go.RowKit
set_option linter.unusedVariables false

theorem Tryd.infoStr : (Tryd.prog.info? 9).map (fun i => (i.zero, i.size, i.bytes)) = some (some (.string ⟨#[]⟩), 1, 16) := by kernel_rfl
def putV (l : List Int) : List Value := l.map fun x => Value.string ⟨(putN x).toArray⟩
theorem putV_length (l : List Int) : (putV l).length = l.length := by simp [putV]
theorem put_step {l : List Int} {Z : List Value} {k : Nat} (hk : k < l.length) (hZ : Z.length = l.length) : (putV (l.take k) ++ Z.drop k).set k (.string ⟨(putN l[k]).toArray⟩) = putV (l.take (k + 1)) ++ Z.drop (k + 1) := by
  have hl : (putV (l.take k)).length = k := by rw [putV_length, List.length_take]; omega
  rw [List.set_append_right _ _ (by omega), hl, Nat.sub_self, List.drop_eq_getElem_cons (by omega), List.set_cons_zero, List.take_succ_eq_append_getElem hk]
  simp only [putV, List.map_append, List.map_cons, List.map_nil, List.append_assoc, List.cons_append, List.nil_append]
set_option maxHeartbeats 1000000 in
set_option maxRecDepth 100000 in
theorem numsText_any (a : Option Addr) (cap : Nat) (l : List Int) (w : World) (hp : 0 < l.length) (hl : l.length ≤ 1000) (hwf : ∀ x ∈ l, (Lit.int .i64 x).wf = true) (hrow : NumRow w a l) :
    Calls Tryd.prog 21 #[.slice a l.length cap] w fun e w' => e = .returned (.string ⟨(numsB l).toArray⟩) ∧ Below w.heap.size w w' := by
  obtain ⟨i0, hi0, hz⟩ := Option.map_eq_some_iff.1 Tryd.infoStr
  simp only [Prod.mk.injEq] at hz
  obtain ⟨wm, hmk, hown, hgr⟩ := run_make_full (P := Tryd.prog) w w.heap.size 76 9 i0 _ 1 Tryd.underlying76 hi0 hz.1 hz.2.1 .i64 .i64 l.length (by rw [hz.2.2]; omega) (by unfold maxLen; omega) (Nat.le_refl _)
  obtain ⟨Z, hZ⟩ : ∃ Z : List Value, Z.length = l.length ∧ OwnCells wm w.heap.size (some ⟨w.heap.size, 0, none⟩) Z := by
    refine ⟨_, by rw [hown.1]; omega, ?_⟩
    by_cases h0 : l.length = 0
    · exact .inl (List.eq_nil_of_length_eq_zero (by rw [hown.1, h0]))
    · exact .inr ⟨w.heap.size, 0, rfl, Nat.le_refl _, (hown.lt _ rfl).2, fun i hi => by rw [Nat.zero_add, hown.cellAt i (by rw [hown.1] at hi; exact hi), List.getElem?_eq_getElem hi], fun i _ => hown.frozenAt _⟩
  have hZl := hZ.1
  have hZo := hZ.2
  have hb0 : Below w.heap.size w wm := (Below.refl _ _).grown hgr (Nat.le_refl _) (fun k e => by cases e)
  have hlt0 : w.heap.size < wm.heap.size ∨ l.length = 0 := by
    by_cases h0 : l.length = 0
    · exact .inr h0
    · exact .inl (hown.lt _ rfl).2
  clear hown hgr hZ
  go_enter Tryd.func21, Tryd.ntmps21
  go_wp2
  go_loopw [11, 4, 5] (fun i _ _ wr => ∃ k : Nat, k ≤ l.length ∧ i = .int .i64 k ∧ OwnCells wr w.heap.size (some ⟨w.heap.size, 0, none⟩) (putV (l.take k) ++ Z.drop k) ∧ Below w.heap.size w wr) (fun i _ _ _ => l.length - (intOf i).toNat)
  case atStart => exact ⟨0, Nat.zero_le _, rfl, by simpa [putV] using hZo, hb0⟩
  case round =>
    obtain ⟨k, hk, rfl, ho, hb⟩ := hrel
    clear hmk hb0 hZo
    by_cases hx : k < l.length
    · rcases hrow.keep hb with h | ⟨b, off, rfl, hlt, hc⟩
      · have : l.length = 0 := by rw [h]; rfl
        omega
      have hck := hc k hx
      have hw := hwf l[k] (List.getElem_mem hx)
      have HS := put_step hx hZl
      have HT : Hid ((putV (l.take k) ++ Z.drop k).set k (.string ⟨(putN l[k]).toArray⟩) = putV (l.take (k + 1)) ++ Z.drop (k + 1)) := HS
      have hTl : k < (putV (l.take k) ++ Z.drop k).length := by rw [List.length_append, putV_length, List.length_take, List.length_drop]; omega
      obtain ⟨y, hy⟩ : ∃ y, l[k] = y := ⟨_, rfl⟩
      rw [hy] at hck hw HT
      clear hc hy HS
      go_wp2_with fail
      refine (implPut_any y _ hw).mono ?_
      rintro e x ⟨rfl, bx⟩
      have ox := ho.keep bx
      have b1 := hb.trans (bx.mono hb.size)
      obtain ⟨q0, q1⟩ := ox.at0 hTl
      have o2 := ox.put0 (.string ⟨(putN y).toArray⟩) hTl
      rw [HT.out] at o2
      have b2 := b1.setCell (p := ⟨w.heap.size, k, none⟩) (Nat.le_refl _) (.string ⟨(putN y).toArray⟩)
      clear ho bx ox b1 hck
      go_wp2
      go_roundw
      case rel => exact ⟨k + 1, by omega, by go_num, o2, b2⟩
      case measure => simp [intOf]; omega
    · obtain rfl : k = l.length := by omega
      rw [List.take_length, List.drop_eq_nil_of_le (by omega), List.append_nil] at ho
      have hcells : ∀ j (h : j < (l.map fun x => (⟨(putN x).toArray⟩ : ByteArray)).length), wr.cell? ⟨w.heap.size, j, none⟩ = some (.string (l.map fun x => (⟨(putN x).toArray⟩ : ByteArray))[j]) := fun j hj => by
        rw [List.length_map] at hj
        rw [(ho.at0 (by rw [putV_length]; exact hj)).1]
        simp [putV]
      have hbw : w.heap.size < wr.heap.size ∨ l.length = 0 := by
        rcases ho with h | ⟨b, off, e, _, hlt, _⟩
        · exact .inr (by rw [← putV_length, h]; rfl)
        · simp only [Option.some.injEq, Addr.mk.injEq, and_true] at e
          exact .inl (by rw [e.1]; exact hlt)
      have hsum : (cat (l.map fun x => (⟨(putN x).toArray⟩ : ByteArray))).length ≤ 1000000000 := by
        rw [numsB_cat]
        have := numsB_len l
        omega
      have hjn := joined_any (l.map fun x => (⟨(putN x).toArray⟩ : ByteArray)) w.heap.size l.length wr (by rw [List.length_map]; omega) hsum (by omega) hcells
      rw [numsB_cat, List.length_map] at hjn
      have HJ : Hid (Calls Tryd.prog 46 #[.slice (some ⟨w.heap.size, 0, none⟩) l.length l.length] wr fun e w' => e = .returned (.string ⟨(numsB l).toArray⟩) ∧ Below wr.heap.size wr w') := hjn
      clear hjn hsum hcells ho
      go_wp2_with fail
      refine HJ.out.mono ?_
      rintro e x ⟨rfl, bx⟩
      have b1 := hb.trans (bx.mono hb.size)
      clear bx HJ
      go_wp2
      go_ret
      exact ⟨rfl, b1⟩
end Go.Proofs.YtpjdkgcdkfmkiaaDoor
