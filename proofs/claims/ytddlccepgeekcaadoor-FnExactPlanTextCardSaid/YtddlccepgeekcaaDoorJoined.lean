/- The contract of joined, in a seat without bytes' own functions. -/
import Derived.Test.YtddlccepgeekcaaDoorChecked
import Derived.Test.YtddlccepgeekcaaDoorPlain1
import Derived.WalkKit
import Derived.WalkLawsBesides
import Derived.WalkSpells
import Derived.Deep.OwnRows
import Derived.Lib.LazyBuf
import Derived.Below
namespace Go.Proofs.YtddlccepgeekcaaDoor
open Go Go.RowKit
set_option linter.unusedVariables false

theorem Tryd.infoU8 : (Tryd.prog.info? 5).map (fun i => (i.zero, i.size, i.bytes)) = some (some (.int .u8 0), 1, 1) := by kernel_rfl
theorem hsz8 (w : World) : (Go.sizeOf 5).run Tryd.prog w = .ok 1 w := by
  obtain ⟨i0, hi, hz0, hz1, hz2⟩ := info_parts Tryd.infoU8
  simp [Go.sizeOf, typeInfo, hi, hz1]
theorem joined_row {e k b : Nat} {ps : List ByteArray} {wr : World} (hlt : k < ps.length) (hrow : wr.rowIs b e (cat ps).length (fun j => .int .u8 (((cat (ps.take k)).getD j 0).toNat : Int))) :
    (wr.setCells b (cat (ps.take k)).length (ps[k].data.toList.map fun x => Value.int .u8 (x.toNat : Int))).rowIs b e (cat ps).length (fun j => .int .u8 (((cat (ps.take (k + 1))).getD j 0).toNat : Int)) := by
  refine (rowIs_setCells _ _ _ _ hrow).congr fun j _ => ?_
  rw [cat_take ps k hlt]
  by_cases h : (cat (ps.take k)).length ≤ j ∧ j < (cat (ps.take k)).length + ps[k].data.toList.length
  · rw [if_pos (by simpa using h)]
    simp only [List.getD_eq_getElem?_getD, List.getElem?_map]
    rw [List.getElem?_append_right h.1, List.getElem?_eq_getElem (by omega)]
    simp
  · rw [if_neg (by simpa using h)]
    simp only [List.getD_eq_getElem?_getD]
    by_cases h2 : j < (cat (ps.take k)).length
    · rw [List.getElem?_append_left h2]
    · rw [List.getElem?_append_right (by omega), List.getElem?_eq_none (by omega), List.getElem?_eq_none (by omega)]

set_option maxHeartbeats 1000000 in
set_option maxRecDepth 100000 in
theorem joined_any (ps : List ByteArray) (b cap : Nat) (w : World) (hlen : ps.length ≤ 1000) (hsum : (cat ps).length ≤ 1000000000) (hbw : b < w.heap.size)
    (hc : ∀ j (h : j < ps.length), w.cell? ⟨b, j, none⟩ = some (.string ps[j])) :
    Calls Tryd.prog 15 #[.slice (some ⟨b, 0, none⟩) ps.length cap] w fun e w' => e = .returned (.string ⟨(cat ps).toArray⟩) ∧ Below w.heap.size w w' := by
  obtain ⟨i0, hi, hz0, hz1, hz2⟩ := info_parts Tryd.infoU8
  go_enter Tryd.func15, Tryd.ntmps15
  go_wp2
  go_loop [12, 3, 5] (fun i z _ => ∃ k : Nat, k ≤ ps.length ∧ i = .int .i64 k ∧ z = .int .i64 (cat (ps.take k)).length) (fun i _ _ => ps.length - (intOf i).toNat)
  case atStart => exact ⟨0, Nat.zero_le _, rfl, rfl⟩
  case round =>
    obtain ⟨k, hk, rfl, rfl⟩ := hrel
    have hle := cat_take_le ps k
    by_cases hlt : k < ps.length
    · have hck := hc k hlt
      have hs := cat_take_succ ps k hlt
      have HS : Hid ((cat (ps.take (k + 1))).length = (cat (ps.take k)).length + ps[k].size) := hs
      have hle1 := cat_take_le ps (k + 1)
      clear hs
      have hz : ((cat (ps.take k)).length : Int) + (ps[k].size : Int) ≤ 1000000000 := by have := HS.out; omega
      go_wp2
      exact ⟨⟨k + 1, by omega, by go_num, by have := HS.out; go_num⟩, by simp [intOf]; omega⟩
    · obtain rfl : k = ps.length := by omega
      rw [List.take_length]
      go_wp2_with (refine wpList_make_row _ rfl _ _ 30 rfl 5 i0 (.int .u8 0) Tryd.underlying30 hi hz0 hz1 rfl _ _ (cat ps).length rfl rfl (by rw [hz2]; omega) (by omega) ?_)
      go_loopw [25, 7, 9] (fun i z _ wr => ∃ k : Nat, k ≤ ps.length ∧ i = .int .i64 k ∧ z = .int .i64 (cat (ps.take k)).length ∧ wr.rowIs w.heap.size 5 (cat ps).length (fun j => .int .u8 (((cat (ps.take k)).getD j 0).toNat : Int)) ∧ Below w.heap.size w wr) (fun i _ _ _ => ps.length - (intOf i).toNat)
      case atStart => exact ⟨0, Nat.zero_le _, rfl, rfl, (World.rowIs_made _ _ _ _).congr (fun _ _ => rfl), (Below.refl _ _).alloc (Nat.le_refl _) _⟩
      case round =>
        obtain ⟨k, hk, rfl, rfl, hrow, hnx⟩ := hrel
        have hle := cat_take_le ps k
        by_cases hlt : k < ps.length
        · have hck : wr.cell? ⟨b, k, none⟩ = some (.string ps[k]) := (hnx.cell hbw).trans (hc k hlt)
          have HS : Hid ((cat (ps.take (k + 1))).length = (cat (ps.take k)).length + ps[k].size) := cat_take_succ ps k hlt
          have hle1 := cat_take_le ps (k + 1)
          have hz : ((cat (ps.take k)).length : Int) + (ps[k].size : Int) ≤ 1000000000 := by have := HS.out; omega
          by_cases heq : (cat ps).length = (cat (ps.take k)).length
          · have h0 : ps[k].size = 0 := by have := HS.out; omega
            have hcp := fun (o : Nat) => run_copy_string (P := Tryd.prog) wr 30 9 3 5 w.heap.size o 0 0 ps[k] Tryd.underlying30 hsz8 (by omega) (fun j hj => by omega) (fun j hj => by omega)
            have hnil : ps[k].data.toList = [] := List.eq_nil_of_length_eq_zero (by simpa using h0)
            simp only [hnil, List.map_nil, World.setCells, h0] at hcp
            have he : cat (ps.take (k + 1)) = cat (ps.take k) := by rw [cat_take ps k hlt, hnil, List.append_nil]
            have HE : Hid (cat (ps.take (k + 1)) = cat (ps.take k)) := he
            have HQ : Hid ((cat ps).length = (cat (ps.take k)).length) := heq
            rw [← heq]
            clear he hnil h0 heq hz hle
            go_wp2
            exact ⟨⟨k + 1, by omega, by go_num, by rw [HE.out, ← HQ.out], by rw [HE.out]; exact hrow, hnx⟩, by simp [intOf]; omega⟩
          · have hle2 : (cat (ps.take k)).length + ps[k].size ≤ (cat ps).length := by have := HS.out; omega
            have hcp := run_copy_string (P := Tryd.prog) wr 30 9 3 5 w.heap.size (cat (ps.take k)).length ((cat ps).length - (cat (ps.take k)).length) ((cat ps).length - (cat (ps.take k)).length) ps[k] Tryd.underlying30 hsz8 (by omega) (fun j hj => by rw [hrow.cell (by omega)]; rfl) (fun j _ => hrow.frozen _)
            have hr := joined_row hlt hrow
            have hb := below_setCells (B := w.heap.size) (Nat.le_refl _) (ps[k].data.toList.map fun x => Value.int .u8 (x.toNat : Int)) (cat (ps.take k)).length wr hnx
            go_wp2
            exact ⟨⟨k + 1, by omega, by go_num, by have := HS.out; go_num, hr, hb⟩, by simp [intOf]; omega⟩
        · obtain rfl : k = ps.length := by omega
          rw [List.take_length] at hrow
          have hcv := run_convert_bytes_back (P := Tryd.prog) wr 30 9 5 ⟨w.heap.size, 0, none⟩ (cat ps).length (cat ps) Tryd.underlying30 Tryd.underlying5 Tryd.underlying9 (fun j hj => by
            rw [addr_add, hrow.cell hj, List.getD_eq_getElem?_getD, List.getElem?_eq_getElem hj]; rfl)
          go_wp2
          go_ret
          exact ⟨rfl, hnx⟩
theorem joined_one (p : ByteArray) (w : World) (b : Nat) (hb : b < w.heap.size) (hp : p.size ≤ 1000000) (hc : w.cell? ⟨b, 0, none⟩ = some (.string p)) :
    Calls Tryd.prog 15 #[.slice (some ⟨b, 0, none⟩) 1 1] w fun e w' => e = .returned (.string p) ∧ Below w.heap.size w w' := by
  have hcat : cat [p] = p.data.toList := by simp [cat]
  refine (joined_any [p] b 1 _ (by simp) (by rw [hcat]; simp; omega) hb (fun j hj => ?_)).mono ?_
  · match j, hj with
    | 0, _ => exact hc
  · rintro e w' ⟨rfl, hb⟩
    exact ⟨by rw [hcat], hb⟩
end Go.Proofs.YtddlccepgeekcaaDoor
