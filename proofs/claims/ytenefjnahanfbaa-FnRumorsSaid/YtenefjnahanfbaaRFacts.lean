/- The contract of the program's factsBy: up to three facts, by asking again and again. -/
import Derived.Test.YtenefjnahanfbaaRNext
import Derived.Test.YtenefjnahanfbaaWithFact
namespace Go.Proofs.Ytenefjnahanfbaa
open Go Go.RowKit
set_option linter.unusedVariables false
set_option linter.unusedSimpArgs false

/-- So far picked, and what there still is. -/
def PickTo (c : List RumV) (n : Nat) (D d : List RumV) : Prop := n ≤ 3 ∧ picksR 3 c = D ++ picksR (3 - n) d ∧ List.Sublist d c
theorem pickTo_end {c D d : List RumV} {n : Nat} (h : PickTo c n D d) (hd : d = [] ∨ n = 3) : picksR 3 c = D := by
  rw [h.2.1]
  rcases hd with rfl | rfl
  · cases 3 - n with
    | zero => simp [picksR]
    | succ k => simp [picksR, leastR]
  · simp [picksR]
theorem pickTo_next {c D d : List RumV} {n : Nat} {x : RumV} (h : PickTo c n D d) (hn : n < 3) (hx : leastR d = some x) : PickTo c (n + 1) (D ++ [x]) (butR d x.node) := by
  refine ⟨by omega, ?_, (butR_sub d x.node).trans h.2.2⟩
  rw [h.2.1]
  obtain ⟨k, hk⟩ : ∃ k, 3 - n = k + 1 := ⟨3 - n - 1, by omega⟩
  rw [hk, show 3 - (n + 1) = k by omega]
  conv => lhs; unfold picksR
  rw [hx]
  simp
set_option maxHeartbeats 4000000 in
set_option maxRecDepth 100000 in
theorem factsBy_any (pb base : Nat) (v : Value) (c : List RumV) (w : World) (hc : rightR c) (hp : BlkIs w pb 62 #[v]) (ho : w.ownsRow base 39 4 v c.length (cellsOf RumV.cells c)) (hbase : base ≤ w.heap.size) :
    Calls Try.prog 33 #[.func (.func 34) #[.pointer (some ⟨pb, 0, none⟩)] #[]] w fun e w' => ∃ u, e = .returned u ∧ w'.ownsRow w.heap.size 25 3 u (factsR (picksR 3 c)).length (cellsOf FactV.cells (factsR (picksR 3 c))) ∧ Keeps (fun q => q ≠ pb ∧ v.ownBlock ≠ some q) w w' := by
  have HC : Hid (rightR c) := hc
  have hpl := hp.lt
  have hvl : ∀ g, v.ownBlock = some g → g < w.heap.size := fun g e => (ho.lt g e).2
  clear hc
  go_enter Try.func33, Try.ntmps33
  go_wp2
  go_loopw [6, 3] (fun i u wr => ∃ (n : Nat) (D d : List RumV) (v' : Value), i = .int .i64 n ∧ PickTo c n D d ∧ BlkIs wr pb 62 #[v'] ∧ v'.ownBlock = v.ownBlock ∧ wr.ownsRow base 39 4 v' d.length (cellsOf RumV.cells d) ∧ wr.ownsRow w.heap.size 25 3 u (factsR D).length (cellsOf FactV.cells (factsR D)) ∧ Keeps (fun q => q ≠ pb ∧ v.ownBlock ≠ some q) w wr) (fun i _ _ => 3 - (intOf i).toNat)
  case atStart => exact ⟨0, [], c, v, rfl, ⟨by omega, rfl, List.Sublist.refl _⟩, hp, rfl, ho, ownsNilF _ _, Keeps.refl _ _⟩
  case round =>
    obtain ⟨n, D, d, v', rfl, hto, hpr, hbk, hor, hou, hK⟩ := hrel
    have HTO : Hid (PickTo c n D d) := hto
    have hn3 := hto.1
    have hdr : rightR d := rightR_sub HC.out hto.2.2
    have hdl := rightR_len hdr
    have HDR : Hid (rightR d) := hdr
    have hsz := hK.size
    clear hto hdr hp ho
    by_cases hn : n < 3
    · have hnI : (n : Int) < 3 := by omega
      go_wp2_with fail
      refine (next_any pb base v' d _ (by omega) HDR.out.2 hpr hor (by omega)).mono ?_
      rintro e z (⟨rfl, rfl, bz⟩ | ⟨x, v2, hx, rfl, hpz, hoz, hbz, Kz⟩)
      · have HE : Hid (picksR 3 c = D) := pickTo_end HTO.out (.inl rfl)
        have ou := rowBelow hou bz
        have ou2 := rowBelow ou ((Below.refl z.heap.size z).alloc (Nat.le_refl _) (.cells #[.int .i64 0, .int .i64 0, .int .i64 0] 25))
        have K2 := (hK.below bz).alloc (.cells #[.int .i64 0, .int .i64 0, .int .i64 0] 25)
        rw [← HE.out] at ou2
        unfold FactV.val factZ
        dsimp only
        clear HTO HDR hou ou hK bz hor hpr HE
        go_wp2
        go_ret
        exact ⟨_, rfl, ou2, K2⟩
      · have HN : Hid (PickTo c (n + 1) (D ++ [x]) (butR d x.node)) := pickTo_next HTO.out hn hx
        have hxm : x ∈ d := (leastR_mem hx).1
        have hxo : x.fact.ok := (HDR.out.1 x hxm).1
        have hDr : rightV (factsR D) := factsR_right fun q hq => ((picksR_right (n := 3) HC.out).1 q (by rw [HTO.out.2.1]; simp [hq])).1
        have HDV : Hid (rightV (factsR D)) := hDr
        have HXO : Hid (x.fact.ok) := hxo
        have HPL : Hid (placeF (factsR D) x.fact.node (placeN (factsR D) x.fact.node)) := placeN_is (rightV_rise hDr) _
        have HAD : Hid (putL (factsR D) x.fact (placeN (factsR D) x.fact.node) = factsR (D ++ [x])) := by show _ = _; rw [factsR_snoc]; rfl
        have hu1 : u3.ownBlock ≠ some pb := hpr.not_row (by decide) hou
        have hu2 : ∀ g, u3.ownBlock = some g → v'.ownBlock ≠ some g := rows_apart hor hou (by decide)
        have ou := rowKeep hou Kz (fun g hg => ⟨fun e => hu1 (by rw [hg, e]), hu2 g hg⟩)
        have KK : Keeps (fun q => q ≠ pb ∧ v.ownBlock ≠ some q) w z := hK.trans (by rw [hbk] at Kz; exact Kz)
        have bA : Below z.heap.size z (z.alloc (.cells #[.int .i64 x.node, .int .i64 x.inc, .int .i64 x.st] 25)) := (Below.refl _ _).alloc (Nat.le_refl _) _
        have A0 := BlkIs.new z 25 #[.int .i64 x.node, .int .i64 x.inc, .int .i64 x.st]
        have ou2 := rowBelow ou bA
        have P2 := hpz.keep bA
        have O2 := rowBelow hoz bA
        have K2 := KK.below bA
        obtain ⟨ua, un, uc, hsh⟩ := rowShape ou2
        subst hsh
        obtain ⟨x1, x2, x3, x4⟩ := x
        unfold FactV.val RumV.fact
        dsimp only at A0 ou2 P2 O2 K2 ⊢
        obtain ⟨Y, hY⟩ : ∃ Y, z.alloc (.cells #[.int .i64 x1, .int .i64 x2, .int .i64 x3] 25) = Y := ⟨_, rfl⟩
        rw [hY] at A0 ou2 P2 O2 K2
        have HY : Hid (_ = Y) := hY
        have a0 : Y.cell? ⟨z.heap.size, 0, none⟩ = some (.int .i64 x1) := A0.cell 0
        have a1 : Y.cell? ⟨z.heap.size, 1, none⟩ = some (.int .i64 x2) := A0.cell 1
        have a2 : Y.cell? ⟨z.heap.size, 2, none⟩ = some (.int .i64 x3) := A0.cell 2
        have hYs := K2.size
        have hbk2 : v2.ownBlock = v.ownBlock := hbz.trans hbk
        clear hY bA ou hou hK Kz KK hor hpr hpz hoz hbz hu1 hu2 hDr hxo hxm hx HTO A0
        go_upto_region 5 with fail
        rw [HY.out]
        clear HY
        go_wp2_with fail
        refine (withFact_any _ (factsR D) ⟨x1, x2, x3⟩ _ w.heap.size _ HDV.out HXO.out HPL.out ou2 hYs).mono ?_
        rintro e y ⟨u', rfl, hou3, K3⟩
        have hou4 : y.ownsRow w.heap.size 25 3 u' (factsR (D ++ [⟨x1, x2, x3, x4⟩])).length (cellsOf FactV.cells (factsR (D ++ [⟨x1, x2, x3, x4⟩]))) := by rw [← HAD.out]; exact hou3
        clear hou3
        have hu1 : Value.ownBlock (.slice ua un uc) ≠ some pb := P2.not_row (by decide) ou2
        have hu2 : ∀ g, v2.ownBlock = some g → Value.ownBlock (.slice ua un uc) ≠ some g := rows_apart ou2 O2 (by decide)
        have hu3 : ∀ g, Value.ownBlock (.slice ua un uc) = some g → w.heap.size ≤ g := fun g hg => (ou2.lt g hg).1
        have P3 := P2.keepK K3 hu1
        have O3 := rowKeep O2 K3 hu2
        have K4 : Keeps (fun q => q ≠ pb ∧ v.ownBlock ≠ some q) w y := ⟨K3.os.trans K2.os, K3.tape.trans K2.tape, K3.output.trans K2.output, Nat.le_trans K2.size K3.size, fun q hq hg => (K3.block q (by omega) (fun e => by have := hu3 q e; omega)).trans (K2.block q hq hg)⟩
        clear ou2 P2 O2 K2 K3 a0 a1 a2 hu1 hu2 hu3 HAD HPL HXO HDV
        go_wp2
        go_roundw
        case rel => exact ⟨n + 1, _, _, v2, by go_num, HN.out, P3, hbk2, O3, hou4, K4⟩
        case measure => simp [intOf]; omega
    · obtain rfl : n = 3 := by omega
      have HE : Hid (picksR 3 c = D) := pickTo_end HTO.out (.inr rfl)
      rw [← HE.out] at hou
      clear HTO HDR HE
      go_wp2
      go_ret
      exact ⟨_, rfl, hou, hK⟩
end Go.Proofs.Ytenefjnahanfbaa
