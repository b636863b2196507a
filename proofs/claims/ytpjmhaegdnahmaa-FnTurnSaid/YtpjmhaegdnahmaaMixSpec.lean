/- The contracts of chapter 3's specification: what is shuffled. -/
import Derived.Test.YtpjmhaegdnahmaaSetSpecC
import Derived.Test.YtpjmhaegdnahmaaChanceSpec
import Derived.OneCell
namespace Go.Proofs.Ytpjmhaegdnahmaa
open Go Go.RowKit
set_option linter.unusedVariables false

/-- What a shuffle hands back. -/
def shufOut (s : Int) (v : Value) : Value := .agg #[.int .i64 s, v]
theorem numsV_set (m : List Int) (i : Nat) (x : Int) : numsV (m.set i x) = (numsV m).set i (.int .i64 x) := by simp [numsV, List.map_set]
theorem numsV_at {m : List Int} {i : Nat} (h : i < m.length) : (numsV m)[i]? = some (.int .i64 (m.getD i 0)) := by
  rw [numsV, List.getElem?_map, List.getElem?_eq_getElem h, getD_at h]; rfl
/-- A row of one's own with one cell turned. -/
theorem own_set {w : World} {base g cap : Nat} {m : List Int} (h : w.ownsRow base 2 1 (.slice (some ⟨g, 0, none⟩) m.length cap) m.length (numsV m)) (i : Nat) (x : Int) :
    (w.setCell ⟨g, i, none⟩ (.int .i64 x)).ownsRow base 2 1 (.slice (some ⟨g, 0, none⟩) (m.set i x).length cap) (m.set i x).length (numsV (m.set i x)) := by
  have := (h.stored i (.int .i64 x)).1
  rw [numsV_set, List.length_set]
  exact this
theorem own_below {w w' : World} {base e size n : Nat} {v : Value} {xs : List Value} (h : w.ownsRow base e size v n xs) (hb : Below w.heap.size w w') : w'.ownsRow base e size v n xs := by
  refine ⟨h.1, ?_⟩
  rcases h.2 with k | ⟨g, cap, cur, hv, hbg, hg, rest⟩
  · exact .inl k
  · subst hv
    exact .inr ⟨g, cap, cur, rfl, hbg, (hb.block g (h.lt g rfl).2).trans hg, rest⟩
def ResIs (w : World) (r : Nat) : Prop := w.cell? ⟨r, 0, none⟩ = some (.int .i64 0) ∧ w.cell? ⟨r, 1, none⟩ = some (.slice none 0 0) ∧ w.frozen? ⟨r, 0, none⟩ = false ∧ w.frozen? ⟨r, 1, none⟩ = false
theorem ResIs.lt {w : World} {r : Nat} (h : ResIs w r) : r < w.heap.size := by
  rcases Nat.lt_or_ge r w.heap.size with k | k
  · exact k
  · have := h.1
    simp [World.cell?, Array.getElem?_eq_none k] at this
theorem ResIs.keep {w w' : World} {r : Nat} (h : ResIs w r) (hb : Below w.heap.size w w') : ResIs w' r := by
  have hl := h.lt
  obtain ⟨a, b, c, d⟩ := h
  exact ⟨(hb.cell (p := ⟨r, 0, none⟩) hl).trans a, (hb.cell (p := ⟨r, 1, none⟩) hl).trans b, (hb.frozen (p := ⟨r, 0, none⟩) hl).trans c, (hb.frozen (p := ⟨r, 1, none⟩) hl).trans d⟩
theorem ResIs.alloc {w : World} {r : Nat} (h : ResIs w r) (o : Obj) : ResIs (w.alloc o) r := h.keep ((Below.refl _ _).alloc (Nat.le_refl _) o)
theorem ResIs.set {w : World} {r g : Nat} (h : ResIs w r) (hne : g ≠ r) (i : Nat) (v : Value) : ResIs (w.setCell ⟨g, i, none⟩ v) r := by
  obtain ⟨a, b, c, d⟩ := h
  refine ⟨?_, ?_, by rw [World.frozen?_setCell]; exact c, by rw [World.frozen?_setCell]; exact d⟩
  · rw [World.cell?_setCell_other _ _ _ _ (fun e => hne (by have := congrArg Addr.block e; simpa using this))]; exact a
  · rw [World.cell?_setCell_other _ _ _ _ (fun e => hne (by have := congrArg Addr.block e; simpa using this))]; exact b
set_option maxHeartbeats 2000000 in
set_option maxRecDepth 100000 in
theorem l02Mix_any (a : Option Addr) (cap : Nat) (l : List Int) (seed : Int) (w : World) (hl : l.length ≤ 400) (hcap : a = none → cap = 0) (hrow : NumRow w a l) (hs0 : 0 ≤ seed) (hs1 : seed ≤ 2147483647) :
    Calls Try.prog 60 #[.slice a l.length cap, .int .i64 seed] w fun e w' => ∃ v, e = .returned (shufOut (mixL (l.length - 1) l seed).2 v) ∧ w'.ownsRow w.heap.size 2 1 v l.length (numsV (mixL (l.length - 1) l seed).1) ∧ Below w.heap.size w w' := by
  have br : Below w.heap.size w (w.alloc (.cells #[.int .i64 0, .slice none 0 0] 34)) := (Below.refl _ _).alloc (Nat.le_refl _) _
  have bb : Below (w.heap.size + 1) (w.alloc (.cells #[.int .i64 0, .slice none 0 0] 34)) ((w.alloc (.cells #[.int .i64 0, .slice none 0 0] 34)).alloc (.cells #[] 2)) := (Below.refl _ _).alloc (by simp) _
  have hlit : ((w.alloc (.cells #[.int .i64 0, .slice none 0 0] 34)).alloc (.cells #[] 2)).ownsRow (w.heap.size + 1) 2 1 (.slice (some ⟨w.heap.size + 1, 0, none⟩) 0 0) 0 [] := by
    have h := World.ownsRow_lit (base := w.heap.size + 1) (e := 2) (size := 1) (w.alloc (.cells #[.int .i64 0, .slice none 0 0] 34)) #[] 0 (by simp) (by simp [maxLen]) rfl
    have hz : (w.alloc (.cells #[.int .i64 0, .slice none 0 0] 34)).heap.size = w.heap.size + 1 := by simp
    rw [hz] at h
    exact h
  have hrow1 := hrow.keep (br.alloc br.size (.cells #[] 2))
  go_enter Try.func60, Try.ntmps60
  go_wp2_with (at_builtin; refine append_nums rfl _ _ rfl (w.heap.size + 1) _ 0 [] rfl hlit a cap l rfl hcap hrow1 (by omega) (by simp) ?_)
  intro v1 w1 own1 g1
  have b1 : Below (w.heap.size + 1) (w.alloc (.cells #[.int .i64 0, .slice none 0 0] 34)) w1 := bb.grown g1 (by simp) (fun g hg => by obtain rfl := Option.some.inj hg; exact Nat.le_refl _)
  have b1' : Below (w.alloc (.cells #[.int .i64 0, .slice none 0 0] 34)).heap.size (w.alloc (.cells #[.int .i64 0, .slice none 0 0] 34)) w1 := b1.mono (by simp)
  obtain ⟨q0, q1, f0, f1⟩ := two_kept b1'
  have bw1 : Below w.heap.size w w1 := br.trans (b1.mono (by omega))
  have hown : w1.ownsRow (w.heap.size + 1) 2 1 v1 l.length (numsV l) := own_eq own1 (by omega) (by simp)
  clear own1 g1 bb hrow1 b1 hlit
  obtain ⟨a', c', hv1, _⟩ := own_nums hown
  subst hv1
  have hres : ResIs w1 w.heap.size := ⟨q0, q1, f0, f1⟩
  clear q0 q1 f0 f1
  go_wp2
  go_loopw [6, 1] (fun i sv wr => ∃ (x : Int) (k : Nat) (m : List Int) (s : Int), i = .int .i64 x ∧ sv = .int .i64 s ∧ (x = k ∨ x = -1 ∧ k = 0) ∧ (k < l.length ∨ k = 0) ∧ 0 ≤ s ∧ s ≤ 2147483647 ∧ m.length = l.length ∧ mixL k m s = mixL (l.length - 1) l seed ∧ wr.ownsRow (w.heap.size + 1) 2 1 (.slice a' m.length c') m.length (numsV m) ∧ ResIs wr w.heap.size ∧ Below w.heap.size w wr) (fun i _ _ => (intOf i).toNat)
  case atStart => exact ⟨_, l.length - 1, l, seed, rfl, rfl, by omega, by omega, hs0, hs1, rfl, rfl, hown, hres, bw1⟩
  case round =>
    obtain ⟨x, k, m, s, rfl, rfl, hxk, hkl, hk0, hk1, hml, hmix, hown, hres, hb⟩ := hrel
    have HM : Hid (mixL k m s = mixL (l.length - 1) l seed) := hmix
    have HL : Hid (m.length = l.length) := hml
    clear hmix hml
    by_cases hx : 0 < x
    · obtain ⟨j, rfl⟩ : ∃ j, k = j + 1 := ⟨k - 1, by omega⟩
      obtain rfl : x = ((j + 1 : Nat) : Int) := by omega
      have hjm : j + 1 < m.length := by have := HL.out; omega
      rcases hown.2 with ⟨hv, hn⟩ | ⟨g, c, cur, hv, hbg, _⟩
      · omega
      simp only [Value.slice.injEq, true_and] at hv
      obtain ⟨rfl, rfl⟩ := hv
      go_wp2_with fail
      refine (l02Draw_any s _ _ hk0 hk1 (by omega) (by omega)).mono ?_
      rintro e x2 ⟨rfl, b2⟩
      unfold chanceOut
      have hjl : j + 1 < l.length := by have := HL.out; omega
      have hd0 := drawN_bd s (most := (j : Int) + 1 + 1) (by omega)
      have hn0 := nextS_bd s
      have HS : Hid (mixL (j + 1) m s = mixL j (swapL m (j + 1) (drawN s ((j : Int) + 1 + 1)).toNat) (nextS s)) := by
        show _ = _
        rw [mixL, show (j : Int) + 2 = (j : Int) + 1 + 1 from by omega]
      obtain ⟨d, hd⟩ := Int.eq_ofNat_of_zero_le hd0.1
      have hdl : d < m.length := by omega
      have hdl' : d < l.length := by have := HL.out; omega
      rw [hd] at HS ⊢
      rw [Int.toNat_natCast] at HS
      obtain ⟨s2, hs2⟩ : ∃ s2, nextS s = s2 := ⟨_, rfl⟩
      rw [hs2] at HS hn0 ⊢
      clear hd0 hd hs2
      have hg1 := (hown.lt g rfl).1
      have hg2 := (hown.lt g rfl).2
      have hgx : g ≠ x2.heap.size := by have := b2.size; omega
      have hoA := (own_below hown b2).alloc (.cells #[.int .i64 s2, .int .i64 (d : Int)] 74)
      have hoB := own_set hoA (j + 1) (m.getD d 0)
      have hoC := own_set hoB d (m.getD (j + 1) 0)
      have e1 := hoA.cellAt (j + 1) (by omega)
      have e2 := hoA.cellAt d (by omega)
      have e3 := hoB.cellAt d (by rw [List.length_set]; omega)
      rw [numsV_at hjm] at e1
      rw [numsV_at hdl] at e2
      rw [numsV_at (by rw [List.length_set]; exact hdl)] at e3
      have z1 := hoA.frozenAt (j + 1)
      have z3 := hoB.frozenAt d
      have bA := (hb.trans (b2.mono hb.size)).alloc (hb.trans (b2.mono hb.size)).size (.cells #[.int .i64 s2, .int .i64 (d : Int)] 74)
      have bC := (bA.setCell (p := ⟨g, j + 1, none⟩) (by show w.heap.size ≤ g; omega) (.int .i64 (m.getD d 0))).setCell (p := ⟨g, d, none⟩) (by show w.heap.size ≤ g; omega) (.int .i64 (m.getD (j + 1) 0))
      have hrC := (((hres.keep b2).alloc (.cells #[.int .i64 s2, .int .i64 (d : Int)] 74)).set (g := g) (by omega) (j + 1) (.int .i64 (m.getD d 0))).set (g := g) (by omega) d (.int .i64 (m.getD (j + 1) 0))
      have HO : Hid ((((x2.alloc (.cells #[.int .i64 s2, .int .i64 (d : Int)] 74)).setCell ⟨g, j + 1, none⟩ (.int .i64 (m.getD d 0))).setCell ⟨g, d, none⟩ (.int .i64 (m.getD (j + 1) 0))).ownsRow (w.heap.size + 1) 2 1 (.slice (some ⟨g, 0, none⟩) (swapL m (j + 1) d).length c') (swapL m (j + 1) d).length (numsV (swapL m (j + 1) d))) := hoC
      have HR : Hid (ResIs (((x2.alloc (.cells #[.int .i64 s2, .int .i64 (d : Int)] 74)).setCell ⟨g, j + 1, none⟩ (.int .i64 (m.getD d 0))).setCell ⟨g, d, none⟩ (.int .i64 (m.getD (j + 1) 0))) w.heap.size) := hrC
      have HB : Hid (Below w.heap.size w (((x2.alloc (.cells #[.int .i64 s2, .int .i64 (d : Int)] 74)).setCell ⟨g, j + 1, none⟩ (.int .i64 (m.getD d 0))).setCell ⟨g, d, none⟩ (.int .i64 (m.getD (j + 1) 0)))) := bC
      clear hoA hoB hoC bA bC hrC hown hres hb
      obtain ⟨y1, hy1⟩ : ∃ y, m.getD (j + 1) 0 = y := ⟨_, rfl⟩
      obtain ⟨y2, hy2⟩ : ∃ y, m.getD d 0 = y := ⟨_, rfl⟩
      obtain ⟨y3, hy3⟩ : ∃ y, (m.set (j + 1) (m.getD d 0)).getD d 0 = y := ⟨_, rfl⟩
      rw [hy3] at e3
      rw [hy1] at e1 HO HR HB
      rw [hy2] at e2 e3 z3 HO HR HB
      clear hy1 hy2 hy3
      go_wp2
      go_roundw
      case rel => exact ⟨(j : Int), j, swapL m (j + 1) d, s2, by go_num, by go_num, .inl rfl, .inl (by omega), hn0.1, hn0.2, by rw [swapL_length]; exact HL.out, HS.out.symm.trans HM.out, HO.out, HR.out, HB.out⟩
      case measure => simp [intOf]
    · obtain rfl : k = 0 := by omega
      have HF : Hid (mixL (l.length - 1) l seed = (m, s)) := HM.out.symm
      obtain ⟨q0, q1, f0, f1⟩ := hres
      have hr1 : ∀ (u v : Value), Below w.heap.size w ((wr.setCell ⟨w.heap.size, 0, none⟩ u).setCell ⟨w.heap.size, 1, none⟩ v) := fun u v => two_below hb
      have HB : Hid (∀ (u v : Value), Below w.heap.size w ((wr.setCell ⟨w.heap.size, 0, none⟩ u).setCell ⟨w.heap.size, 1, none⟩ v)) := hr1
      have hne : Value.ownBlock (.slice a' m.length c') ≠ some w.heap.size := fun e => by have := (hown.lt _ e).1; omega
      have HO : Hid (∀ (u v : Value), ((wr.setCell ⟨w.heap.size, 0, none⟩ u).setCell ⟨w.heap.size, 1, none⟩ v).ownsRow w.heap.size 2 1 (.slice a' m.length c') m.length (numsV m)) :=
        fun u v => own_mono (ownsRow_setCell_other (ownsRow_setCell_other hown hne u) hne v) (by omega)
      rw [HL.out] at HO
      clear hr1 hne hown hb
      go_wp2
      exact bodyPost_ret (v := .agg #[.int .i64 s, .slice a' l.length c']) (by simp [results, Try.results60, go_sem, q0, q1]) rfl ⟨_, by rw [HF.out]; rfl, by rw [HF.out]; exact HO.out _ _, HB.out _ _⟩


/-- Shuffle. -/
def shufL (l : List Int) (seed : Int) : List Int × Int := if 400 < (l.length : Int) ∨ (decide (0 ≤ seed) && decide (seed ≤ 2147483647)) = false then ([], 0) else mixL (l.length - 1) l seed
end Go.Proofs.Ytpjmhaegdnahmaa
