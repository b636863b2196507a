/- The contracts of the specification's TurnNext and Some. -/
import Derived.Test.YtmdcankfjmkkeaaGreatTSpecB
namespace Go.Proofs.YtmdcankfjmkkeaaGreat
open Go Go.RowKit
set_option linter.unusedVariables false
set_option linter.unusedSimpArgs false

end Go.Proofs.YtmdcankfjmkkeaaGreat
/- The contracts of the specification's Some. -/
namespace Go.Proofs.YtmdcankfjmkkeaaGreat
open Go Go.RowKit
set_option linter.unusedVariables false
set_option linter.unusedSimpArgs false

theorem own_takeN {w : World} {base g cap n : Nat} {l : List Int} (h : w.ownsRow base 2 1 (.slice (some ⟨g, 0, none⟩) n cap) n (numsV l)) {k : Nat} (hk : k ≤ n) : w.ownsRow base 2 1 (.slice (some ⟨g, 0, none⟩) k cap) k (numsV (l.take k)) := by
  obtain ⟨hl, h⟩ := h
  have e : numsV (l.take k) = (numsV l).take k := by simp [numsV, List.map_take]
  refine ⟨by rw [e, List.length_take]; omega, .inr ?_⟩
  rcases h with ⟨h, _⟩ | ⟨g', c', cur, h, hb, hc, h1, h2, h3, h4⟩
  · cases h
  · cases h
    refine ⟨g, cap, cur, rfl, hb, hc, by omega, h2, h3, ?_⟩
    rw [e, ← h4, List.take_take]
    congr 1
    omega
def SomePost (l : List Int) (s : Int) (w : World) (e : Ending) (w' : World) : Prop :=
  ∃ v, e = .returned (shufOut s v) ∧ w'.ownsRow w.heap.size 2 1 v l.length (numsV l) ∧ Below w.heap.size w w'
def someL (nodes : List Int) (many seed : Int) : List Int := (mixL (nodes.length - 1) nodes seed).1.take many.toNat
def someS (nodes : List Int) (seed : Int) : Int := (mixL (nodes.length - 1) nodes seed).2

set_option maxHeartbeats 4000000 in
set_option maxRecDepth 100000 in
theorem specL07Some_any (a : Option Addr) (cap : Nat) (nodes : List Int) (many seed : Int) (w : World) (hl : nodes.length ≤ 400) (hcap : a = none → cap = 0) (hrow : NumRow w a nodes) (hm0 : 0 ≤ many) (hm1 : many ≤ 6) (hs0 : 0 ≤ seed) (hs1 : seed ≤ 2147483647) :
    Calls Tryz.prog 197 #[.slice a nodes.length cap, .int .i64 many, .int .i64 seed] w (SomePost (someL nodes many seed) (someS nodes seed) w) := by
  unfold someL someS
  have hml : (mixL (nodes.length - 1) nodes seed).1.length = nodes.length := mixL_length _ _ _
  obtain ⟨mix, ms, hmm⟩ : ∃ m s, mixL (nodes.length - 1) nodes seed = (m, s) := ⟨_, _, rfl⟩
  rw [hmm] at hml ⊢
  dsimp only at hml ⊢
  have HMM : Hid (mixL (nodes.length - 1) nodes seed = (mix, ms)) := hmm
  have HML : Hid (mix.length = nodes.length) := hml
  have hx4 : mix.length ≤ 400 := by omega
  clear hmm hml
  have q0 := BlkIs.new w 199 #[.int .i64 0, .slice none 0 0]
  have B0 : Below w.heap.size w (w.alloc (.cells #[.int .i64 0, .slice none 0 0] 199)) := (Below.refl _ _).alloc (Nat.le_refl _) _
  have s0 := hrow.keep B0
  obtain ⟨W, hW⟩ : ∃ W, w.alloc (.cells #[.int .i64 0, .slice none 0 0] 199) = W := ⟨_, rfl⟩
  rw [hW] at q0 B0 s0
  have HW : Hid (_ = W) := hW
  clear hW
  have hqs := q0.lt
  go_enter Tryz.func197, Tryz.ntmps197
  go_upto_region 1 with fail
  rw [HW.out]
  clear HW
  go_wp2_with fail
  refine (l02Mix_any a cap nodes seed _ hl hcap s0 hs0 hs1).mono ?_
  rintro e z ⟨v, rfl, ov0, bz⟩
  rw [HMM.out] at ov0 ⊢
  dsimp only at ov0 ⊢
  have ov : z.ownsRow W.heap.size 2 1 v mix.length (numsV mix) := by rw [show mix.length = nodes.length from HML.out]; exact ov0
  obtain ⟨va, vc, rfl⟩ : ∃ va vc, v = .slice va mix.length vc := by
    rcases ov.2 with ⟨e, e2⟩ | ⟨g, gc, cur, e, _⟩
    · exact ⟨none, 0, by rw [e, e2]⟩
    · exact ⟨_, gc, e⟩
  have q1 := q0.keep bz
  have B1 := B0.trans (bz.mono B0.size)
  unfold shufOut
  clear q0 s0 B0 bz ov0 HMM HML
  have bA : Below z.heap.size z (z.alloc (.cells #[.int .i64 ms, .slice va mix.length vc] 199)) := (Below.refl _ _).alloc (Nat.le_refl _) _
  have X1 := BlkIs.new z 199 #[.int .i64 ms, .slice va mix.length vc]
  have q2 := q1.keep bA
  have B2 := B1.trans (bA.mono B1.size)
  have ov2 := own_below ov bA
  obtain ⟨Y, hY⟩ : ∃ Y, z.alloc (.cells #[.int .i64 ms, .slice va mix.length vc] 199) = Y := ⟨_, rfl⟩
  obtain ⟨kx, hkx⟩ : ∃ k, z.heap.size = k := ⟨_, rfl⟩
  rw [hY] at X1 q2 B2 ov2
  rw [hkx] at X1
  have HY : Hid (_ = Y) := hY
  have HKX : Hid (z.heap.size = kx) := hkx
  have hzq : w.heap.size < kx := by rw [← hkx]; exact q1.lt
  have hwW : w.heap.size < W.heap.size := hqs
  have hkl := X1.lt
  have hne : ∀ g, Value.ownBlock (.slice va mix.length vc) = some g → W.heap.size ≤ g ∧ g < kx := fun g hg => by rw [← hkx]; exact ov.lt g hg
  clear hY hkx bA q1 B1 ov
  go_upto_region 2 with fail
  rw [HY.out, HKX.out]
  clear HY HKX
  have c0 : Y.cell? ⟨kx, 0, none⟩ = some (.int .i64 ms) := X1.cell 0
  have c1 : Y.cell? ⟨kx, 1, none⟩ = some (.slice va mix.length vc) := X1.cell 1
  by_cases hlt : many < (mix.length : Int)
  · obtain ⟨g, rfl⟩ : ∃ g, va = some ⟨g, 0, none⟩ := by
      rcases ov2.2 with ⟨e, e2⟩ | ⟨g, gc, cur, e, _⟩
      · omega
      · cases e; exact ⟨g, rfl⟩
    have hvc : mix.length ≤ vc := by
      rcases ov2.2 with ⟨e, e2⟩ | ⟨g', gc, cur, e, _, _, h1, _⟩
      · cases e
      · cases e; exact h1
    obtain ⟨k, rfl⟩ : ∃ k : Nat, many = (k : Int) := ⟨many.toNat, by omega⟩
    have hk : k ≤ mix.length := by omega
    have hkc : k ≤ vc := by omega
    have hkm : (k : Int) ≤ (vc : Int) := by omega
    have f1 := X1.fz 1
    go_upto_region 3 with fail
    go_upto_region 4 with fail
    have hgx := hne g rfl
    have KV : Keeps (fun q => q ≠ kx) Y (Y.setCell ⟨kx, 1, none⟩ (.slice (some ⟨g, 0, none⟩) k vc)) := (Keeps.refl _ _).setCell (fun h => h rfl) _
    have XV : BlkIs (Y.setCell ⟨kx, 1, none⟩ (.slice (some ⟨g, 0, none⟩) k vc)) kx 199 #[.int .i64 ms, .slice (some ⟨g, 0, none⟩) k vc] := by have := X1.put 1 (.slice (some ⟨g, 0, none⟩) k vc); simpa using this
    have q4 : BlkIs (Y.setCell ⟨kx, 1, none⟩ (.slice (some ⟨g, 0, none⟩) k vc)) w.heap.size 199 #[.int .i64 0, .slice none 0 0] := (KV.block _ q2.lt (by omega)).trans q2
    have B4 : Below w.heap.size w (Y.setCell ⟨kx, 1, none⟩ (.slice (some ⟨g, 0, none⟩) k vc)) := B2.setCell (p := ⟨kx, 1, none⟩) (by dsimp only; omega) _
    have own := own_takeN (rowKeep (rowLeN ov2 (Nat.le_of_lt hwW)) KV (fun q hq => by have := hne q hq; omega)) hk
    obtain ⟨V, hV⟩ : ∃ V, Y.setCell ⟨kx, 1, none⟩ (.slice (some ⟨g, 0, none⟩) k vc) = V := ⟨_, rfl⟩
    rw [hV] at XV q4 B4 own ⊢
    clear hV KV X1 q2 B2 ov2 c0 c1 f1
    have c0 : V.cell? ⟨kx, 0, none⟩ = some (.int .i64 ms) := XV.cell 0
    have c1 : V.cell? ⟨kx, 1, none⟩ = some (.slice (some ⟨g, 0, none⟩) k vc) := XV.cell 1
    have HT : Hid ((mix.take ((k : Int)).toNat).length = k ∧ mix.take ((k : Int)).toNat = mix.take k) := by
      rw [Int.toNat_natCast, List.length_take]
      exact ⟨by omega, rfl⟩
    have g0 : V.cell? ⟨w.heap.size, 0, none⟩ = some (.int .i64 0) := q4.cell 0
    have z0 := q4.fz 0
    have g1 : V.cell? ⟨w.heap.size, 1, none⟩ = some (.slice none 0 0) := q4.cell 1
    have z1 := q4.fz 1
    have RZ : BlkIs ((V.setCell ⟨w.heap.size, 0, none⟩ (.int .i64 ms)).setCell ⟨w.heap.size, 1, none⟩ (.slice (some ⟨g, 0, none⟩) k vc)) (w.heap.size) 199 #[.int .i64 ms, .slice (some ⟨g, 0, none⟩) k vc] := blk_put2 q4 _ _
    have BZ : Below w.heap.size w ((V.setCell ⟨w.heap.size, 0, none⟩ (.int .i64 ms)).setCell ⟨w.heap.size, 1, none⟩ (.slice (some ⟨g, 0, none⟩) k vc)) := ((B4.setCell (p := ⟨w.heap.size, 0, none⟩) (by dsimp only; omega) (.int .i64 ms)).setCell (p := ⟨w.heap.size, 1, none⟩) (by dsimp only; omega) (.slice (some ⟨g, 0, none⟩) k vc))
    have KZ : Keeps (fun k => k ≠ w.heap.size) V ((V.setCell ⟨w.heap.size, 0, none⟩ (.int .i64 ms)).setCell ⟨w.heap.size, 1, none⟩ (.slice (some ⟨g, 0, none⟩) k vc)) := keeps_two _ _ _ _
    go_wp2
    obtain ⟨Z, hZ⟩ : ∃ Z, ((V.setCell ⟨w.heap.size, 0, none⟩ (.int .i64 ms)).setCell ⟨w.heap.size, 1, none⟩ (.slice (some ⟨g, 0, none⟩) k vc)) = Z := ⟨_, rfl⟩
    rw [hZ] at RZ BZ KZ ⊢
    clear hZ g0 z0 g1 z1
    have h0 : Z.cell? ⟨w.heap.size, 0, none⟩ = some (.int .i64 ms) := RZ.cell 0
    have h1 : Z.cell? ⟨w.heap.size, 1, none⟩ = some (.slice (some ⟨g, 0, none⟩) k vc) := RZ.cell 1
    exact bodyPost_ret (v := .agg #[.int .i64 ms, .slice (some ⟨g, 0, none⟩) k vc]) (by simp [results, Tryz.results197, go_sem, h0, h1]) rfl ⟨_, rfl, by rw [HT.out.1, HT.out.2]; exact rowKeep own KZ (fun q hq => by cases hq; dsimp only; omega), BZ⟩
  · have HT : Hid (mix.take many.toNat = mix) := List.take_of_length_le (by omega)
    have g0 : Y.cell? ⟨w.heap.size, 0, none⟩ = some (.int .i64 0) := q2.cell 0
    have z0 := q2.fz 0
    have g1 : Y.cell? ⟨w.heap.size, 1, none⟩ = some (.slice none 0 0) := q2.cell 1
    have z1 := q2.fz 1
    have RZ : BlkIs ((Y.setCell ⟨w.heap.size, 0, none⟩ (.int .i64 ms)).setCell ⟨w.heap.size, 1, none⟩ (.slice va mix.length vc)) (w.heap.size) 199 #[.int .i64 ms, .slice va mix.length vc] := blk_put2 q2 _ _
    have BZ : Below w.heap.size w ((Y.setCell ⟨w.heap.size, 0, none⟩ (.int .i64 ms)).setCell ⟨w.heap.size, 1, none⟩ (.slice va mix.length vc)) := ((B2.setCell (p := ⟨w.heap.size, 0, none⟩) (by dsimp only; omega) (.int .i64 ms)).setCell (p := ⟨w.heap.size, 1, none⟩) (by dsimp only; omega) (.slice va mix.length vc))
    have KZ : Keeps (fun k => k ≠ w.heap.size) Y ((Y.setCell ⟨w.heap.size, 0, none⟩ (.int .i64 ms)).setCell ⟨w.heap.size, 1, none⟩ (.slice va mix.length vc)) := keeps_two _ _ _ _
    go_wp2
    obtain ⟨Z, hZ⟩ : ∃ Z, ((Y.setCell ⟨w.heap.size, 0, none⟩ (.int .i64 ms)).setCell ⟨w.heap.size, 1, none⟩ (.slice va mix.length vc)) = Z := ⟨_, rfl⟩
    rw [hZ] at RZ BZ KZ ⊢
    clear hZ g0 z0 g1 z1
    have h0 : Z.cell? ⟨w.heap.size, 0, none⟩ = some (.int .i64 ms) := RZ.cell 0
    have h1 : Z.cell? ⟨w.heap.size, 1, none⟩ = some (.slice va mix.length vc) := RZ.cell 1
    exact bodyPost_ret (v := .agg #[.int .i64 ms, .slice va mix.length vc]) (by simp [results, Tryz.results197, go_sem, h0, h1]) rfl ⟨_, rfl, by rw [HT.out]; exact rowKeep (rowLeN ov2 (by omega)) KZ (fun g hg => by have := hne g hg; omega), BZ⟩

def SomeIs (nodes : List Int) (many seed : Int) (l : List Int) (s : Int) : Prop :=
  ((askT nodes seed ∧ 0 ≤ many ∧ many ≤ 6) ∧ l = someL nodes many seed ∧ s = someS nodes seed) ∨ (¬ (askT nodes seed ∧ 0 ≤ many ∧ many ≤ 6) ∧ l = [] ∧ s = 0)

end Go.Proofs.YtmdcankfjmkkeaaGreat
