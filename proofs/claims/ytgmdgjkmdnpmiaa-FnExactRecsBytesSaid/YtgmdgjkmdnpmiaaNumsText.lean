/- The contract of numsText: PutNum of each, one behind the other. -/
import Derived.Test.YtgmdgjkmdnpmiaaMPlainB
import Derived.Test.YtgmdgjkmdnpmiaaNumsV
import Derived.Test.YtgmdgjkmdnpmiaaSeal
import Derived.Test.YtgmdgjkmdnpmiaaCells
namespace Go.Proofs.Ytgmdgjkmdnpmiaa
open Go Go.RowKit
set_option linter.unusedVariables false

theorem Try.infoStr : (Try.prog.info? 9).map (fun i => (i.zero, i.size, i.bytes)) = some (some (.string ⟨#[]⟩), 1, 16) := by kernel_rfl
def putV (l : List Int) : List Value := l.map fun x => Value.string ⟨(putN x).toArray⟩
theorem putV_length (l : List Int) : (putV l).length = l.length := by simp [putV]
theorem put_step {l : List Int} {Z : List Value} {k : Nat} (hk : k < l.length) (hZ : Z.length = l.length) : (putV (l.take k) ++ Z.drop k).set k (.string ⟨(putN l[k]).toArray⟩) = putV (l.take (k + 1)) ++ Z.drop (k + 1) := by
  have hl : (putV (l.take k)).length = k := by rw [putV_length, List.length_take]; omega
  rw [List.set_append_right _ _ (by omega), hl, Nat.sub_self, List.drop_eq_getElem_cons (by omega), List.set_cons_zero, List.take_succ_eq_append_getElem hk]
  simp only [putV, List.map_append, List.map_cons, List.map_nil, List.append_assoc, List.cons_append, List.nil_append]
set_option maxHeartbeats 1000000 in
set_option maxRecDepth 100000 in
theorem numsText_any (a : Option Addr) (cap : Nat) (l : List Int) (w : World) (hp : 0 < l.length) (hl : l.length ≤ 1000) (hwf : ∀ x ∈ l, (Lit.int .i64 x).wf = true) (hrow : NumRow w a l) :
    Calls Try.prog 24 #[.slice a l.length cap] w fun e w' => e = .returned (.string ⟨(numsB l).toArray⟩) ∧ Below w.heap.size w w' := by
  obtain ⟨i0, hi0, hz⟩ := Option.map_eq_some_iff.1 Try.infoStr
  simp only [Prod.mk.injEq] at hz
  obtain ⟨wm, hmk, hown, hgr⟩ := run_make_full (P := Try.prog) w w.heap.size 46 9 i0 _ 1 Try.underlying46 hi0 hz.1 hz.2.1 .i64 .i64 l.length (by rw [hz.2.2]; omega) (by unfold maxLen; omega) (Nat.le_refl _)
  obtain ⟨Z, hZ⟩ : ∃ Z : List Value, Z.length = l.length ∧ OwnCells wm w.heap.size (some ⟨w.heap.size, 0, none⟩) Z := by
    refine ⟨_, by rw [hown.1]; omega, ?_⟩
    by_cases h0 : l.length = 0
    · exact .inl (List.eq_nil_of_length_eq_zero (by rw [hown.1, h0]))
    · exact .inr ⟨w.heap.size, 0, rfl, Nat.le_refl _, (hown.lt _ rfl).2, fun i hi => by rw [Nat.zero_add, hown.cellAt i (by rw [hown.1] at hi; exact hi), List.getElem?_eq_getElem hi], fun i _ => hown.frozenAt _⟩
  have hZl := hZ.1
  have hZo := hZ.2
  have hb0 : Below w.heap.size w wm := (Below.refl _ _).grown hgr (Nat.le_refl _) (fun k e => by cases e)
  have hlt0 : w.heap.size < wm.heap.size ∨ l.length = 0 := by
    by_cases h0 : l.length = 0
    · exact .inr h0
    · exact .inl (hown.lt _ rfl).2
  clear hown hgr hZ
  go_enter Try.func24, Try.ntmps24
  go_wp2
  go_loopw [11, 4, 5] (fun i _ _ wr => ∃ k : Nat, k ≤ l.length ∧ i = .int .i64 k ∧ OwnCells wr w.heap.size (some ⟨w.heap.size, 0, none⟩) (putV (l.take k) ++ Z.drop k) ∧ Below w.heap.size w wr) (fun i _ _ _ => l.length - (intOf i).toNat)
  case atStart => exact ⟨0, Nat.zero_le _, rfl, by simpa [putV] using hZo, hb0⟩
  case round =>
    obtain ⟨k, hk, rfl, ho, hb⟩ := hrel
    clear hmk hb0 hZo
    by_cases hx : k < l.length
    · rcases hrow.keep hb with h | ⟨b, off, rfl, hlt, hc⟩
      · have : l.length = 0 := by rw [h]; rfl
        omega
      have hck := hc k hx
      have hw := hwf l[k] (List.getElem_mem hx)
      have HS := put_step hx hZl
      have HT : Hid ((putV (l.take k) ++ Z.drop k).set k (.string ⟨(putN l[k]).toArray⟩) = putV (l.take (k + 1)) ++ Z.drop (k + 1)) := HS
      have hTl : k < (putV (l.take k) ++ Z.drop k).length := by rw [List.length_append, putV_length, List.length_take, List.length_drop]; omega
      obtain ⟨y, hy⟩ : ∃ y, l[k] = y := ⟨_, rfl⟩
      rw [hy] at hck hw HT
      clear hc hy HS
      go_wp2_with fail
      refine (implPut_any y _ hw).mono ?_
      rintro e x ⟨rfl, bx⟩
      have ox := ho.keep bx
      have b1 := hb.trans (bx.mono hb.size)
      obtain ⟨q0, q1⟩ := ox.at0 hTl
      have o2 := ox.put0 (.string ⟨(putN y).toArray⟩) hTl
      rw [HT.out] at o2
      have b2 := b1.setCell (p := ⟨w.heap.size, k, none⟩) (Nat.le_refl _) (.string ⟨(putN y).toArray⟩)
      clear ho bx ox b1 hck
      go_wp2
      go_roundw
      case rel => exact ⟨k + 1, by omega, by go_num, o2, b2⟩
      case measure => simp [intOf]; omega
    · obtain rfl : k = l.length := by omega
      rw [List.take_length, List.drop_eq_nil_of_le (by omega), List.append_nil] at ho
      have hcells : ∀ j (h : j < (l.map fun x => (⟨(putN x).toArray⟩ : ByteArray)).length), wr.cell? ⟨w.heap.size, j, none⟩ = some (.string (l.map fun x => (⟨(putN x).toArray⟩ : ByteArray))[j]) := fun j hj => by
        rw [List.length_map] at hj
        rw [(ho.at0 (by rw [putV_length]; exact hj)).1]
        simp [putV]
      have hbw : w.heap.size < wr.heap.size ∨ l.length = 0 := by
        rcases ho with h | ⟨b, off, e, _, hlt, _⟩
        · exact .inr (by rw [← putV_length, h]; rfl)
        · simp only [Option.some.injEq, Addr.mk.injEq, and_true] at e
          exact .inl (by rw [e.1]; exact hlt)
      have hsum : (cat (l.map fun x => (⟨(putN x).toArray⟩ : ByteArray))).length ≤ 1000000000 := by
        rw [numsB_cat]
        have := numsB_len l
        omega
      have hjn := joined_any (l.map fun x => (⟨(putN x).toArray⟩ : ByteArray)) w.heap.size l.length wr (by rw [List.length_map]; omega) hsum (by omega) hcells
      rw [numsB_cat, List.length_map] at hjn
      have HJ : Hid (Calls Try.prog 26 #[.slice (some ⟨w.heap.size, 0, none⟩) l.length l.length] wr fun e w' => e = .returned (.string ⟨(numsB l).toArray⟩) ∧ Below wr.heap.size wr w') := hjn
      clear hjn hsum hcells ho
      go_wp2_with fail
      refine HJ.out.mono ?_
      rintro e x ⟨rfl, bx⟩
      have b1 := hb.trans (bx.mono hb.size)
      clear bx HJ
      go_wp2
      go_ret
      exact ⟨rfl, b1⟩
end Go.Proofs.Ytgmdgjkmdnpmiaa
