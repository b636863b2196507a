/- The contracts of GetText. -/
import Derived.Test.YtgngegammingoaaDoorGetSpec
import Derived.Test.YtgngegammingoaaDoorSeal
import Derived.BigRegion
import Derived.ChangeAlike
namespace Go.Proofs.YtgngegammingoaaDoor
open Go Go.RowKit
set_option linter.unusedVariables false

/-- GetText. -/
def getT (s : ByteArray) (a : Int) : ByteArray × Int × Int :=
  if ¬ (getN s a).2.2 = 0 then (⟨#[]⟩, 0, (getN s a).2.2) else if (getN s a).1 < 0 ∨ 8000 < (getN s a).1 then (⟨#[]⟩, 0, 3) else
    if (s.size : Int) - (getN s a).2.1 < (getN s a).1 then (⟨#[]⟩, 0, 4) else (s.extract (getN s a).2.1.toNat ((getN s a).2.1 + (getN s a).1).toNat, (getN s a).2.1 + (getN s a).1, 0)
theorem getT_bad {s : ByteArray} {a c : Int} (h : getN s a = (0, 0, c)) (hc : c ≠ 0) : getT s a = (⟨#[]⟩, 0, c) := by unfold getT; rw [h, if_pos hc]
theorem getT_syn {s : ByteArray} {a n k : Int} (h : getN s a = (n, k, 0)) (hn : n < 0 ∨ 8000 < n) : getT s a = (⟨#[]⟩, 0, 3) := by unfold getT; rw [h, if_neg (by simp), if_pos hn]
theorem getT_short {s : ByteArray} {a n k : Int} (h : getN s a = (n, k, 0)) (hn : ¬ (n < 0 ∨ 8000 < n)) (h2 : (s.size : Int) - k < n) : getT s a = (⟨#[]⟩, 0, 4) := by unfold getT; rw [h, if_neg (by simp), if_neg hn, if_pos h2]
theorem getT_ok {s : ByteArray} {a : Int} {n k : Nat} (h : getN s a = ((n : Int), (k : Int), 0)) (hn : ¬ ((n : Int) < 0 ∨ 8000 < (n : Int))) (h2 : ¬ (s.size : Int) - (k : Int) < (n : Int)) : getT s a = (s.extract k (k + n), (k : Int) + (n : Int), 0) := by
  unfold getT; rw [h, if_neg (by simp), if_neg hn, if_neg h2]
  show (s.extract (k : Int).toNat ((k : Int) + (n : Int)).toNat, _, _) = _
  rw [show (k : Int).toNat = k from by omega, show ((k : Int) + (n : Int)).toNat = k + n from by omega]
/-- The place behind a number that is read lies within the text. -/
theorem getN_place {s : ByteArray} {a n k : Int} (h : getN s a = (n, k, 0)) : 0 ≤ k ∧ k ≤ (s.size : Int) ∧ (s.size : Int) ≤ 8000 ∧ -9223372036854775808 ≤ n ∧ n ≤ 9223372036854775807 := by
  unfold getN at h
  by_cases h1 : 8000 < (s.size : Int)
  · rw [if_pos h1] at h; simp at h
  rw [if_neg h1] at h
  by_cases h2 : a < 0
  · rw [if_pos h2] at h; simp at h
  rw [if_neg h2] at h
  by_cases h3 : (rdOf s a.toNat).2.2 = 0
  · rw [if_pos h3] at h
    have hf := rdOf_fits s a.toNat
    have hp : a.toNat < s.size := by
      rcases Nat.lt_or_ge a.toNat s.size with hl | hl
      · exact hl
      · rw [(RdAt_zero s a.toNat).short (by omega)] at h3; simp at h3
    simp only [Prod.mk.injEq] at h
    have hw := unfold_wf hf.1
    obtain ⟨e1, e2, _⟩ := h
    omega
  · rw [if_neg h3] at h; simp only [Prod.mk.injEq] at h; exact absurd h.2.2 h3

def textV (ps : List ByteArray) (r : ByteArray × Int × Int) : Value := if r.2.2 = 0 then .tuple #[.string r.1, .int .i64 r.2.1, .nilIface] else .tuple #[.string ⟨#[]⟩, .int .i64 0, errV ps r.2.2]
theorem textV_bad {ps : List ByteArray} {r : ByteArray × Int × Int} {c : Int} (h : r = (⟨#[]⟩, 0, c)) (hc : c ≠ 0) : textV ps r = .tuple #[.string ⟨#[]⟩, .int .i64 0, errV ps c] := by
  subst h; unfold textV; rw [if_neg hc]
theorem textV_ok {ps : List ByteArray} {r : ByteArray × Int × Int} {t : ByteArray} {k : Int} (h : r = (t, k, 0)) : textV ps r = .tuple #[.string t, .int .i64 k, .nilIface] := by
  subst h; unfold textV; rw [if_pos rfl]
theorem ret_val {a b : Value} (h : a = b) : Ending.returned a = .returned b := by rw [h]
theorem joined_one (p : ByteArray) (w : World) (hp : p.size ≤ 10000) :
    Calls Tryd.prog 39 #[.slice (some ⟨w.heap.size, 0, none⟩) 1 1] (w.alloc (.cells #[.string p] 9)) fun e w' => e = .returned (.string p) ∧ Below w.heap.size w w' := by
  have hcat : cat [p] = p.data.toList := by simp [cat]
  refine (joined_any [p] w.heap.size 1 _ (by simp) (by rw [hcat]; simp; omega) (by simp) (fun j hj => ?_)).mono ?_
  · match j, hj with
    | 0, _ => exact World.cell?_alloc_at _ _ _ _ rfl
  · rintro e w' ⟨rfl, hb⟩
    exact ⟨ret_str' (by rw [hcat]), ((Below.refl _ _).alloc (Nat.le_refl _) _).trans (hb.mono (by simp))⟩

set_option maxHeartbeats 1000000 in
set_option maxRecDepth 100000 in
theorem readText_any (s : ByteArray) (a : Int) (w : World) :
    Calls Tryd.prog 40 #[.string s, .int .i64 a] w fun e w' => (∃ ps, e = .returned (textV ps (getT s a))) ∧ Below w.heap.size w w' := by
  rcases getN_code s a with ⟨n, k, e⟩ | ⟨c, e, hc⟩
  · have hpl := getN_place e
    have HE : Hid (getN s a = (n, k, 0)) := e
    clear e
    obtain ⟨k, rfl⟩ := Int.eq_ofNat_of_zero_le hpl.1
    obtain ⟨_, hk, hs8, hn1, hn2⟩ := hpl
    by_cases h1 : n < 0
    · go_enter Tryd.func40, Tryd.ntmps40
      go_wp2_with (go_at_call 34; refine (readNum_any s a _).mono ?_; rintro e w' ⟨⟨ps, rfl⟩, rfl⟩; rw [numV_ok' HE.out])
      go_ret3
      exact ⟨⟨[⟨#[108, 101, 110, 103, 116, 104]⟩], ret_val (textV_bad (ps := [⟨#[108, 101, 110, 103, 116, 104]⟩]) (getT_syn HE.out (.inl h1)) (by omega)).symm⟩, Below.refl _ _⟩
    by_cases h2 : 8000 < n
    · go_enter Tryd.func40, Tryd.ntmps40
      go_wp2_with (go_at_call 34; refine (readNum_any s a _).mono ?_; rintro e w' ⟨⟨ps, rfl⟩, rfl⟩; rw [numV_ok' HE.out])
      go_ret3
      exact ⟨⟨[⟨#[108, 101, 110, 103, 116, 104]⟩], ret_val (textV_bad (ps := [⟨#[108, 101, 110, 103, 116, 104]⟩]) (getT_syn HE.out (.inr h2)) (by omega)).symm⟩, Below.refl _ _⟩
    obtain ⟨n, rfl⟩ := Int.eq_ofNat_of_zero_le (show 0 ≤ n by omega)
    by_cases h3 : (s.size : Int) - (k : Int) < (n : Int)
    · go_enter Tryd.func40, Tryd.ntmps40
      go_wp2_with (go_at_call 34; refine (readNum_any s a _).mono ?_; rintro e w' ⟨⟨ps, rfl⟩, rfl⟩; rw [numV_ok' HE.out])
      go_ret3
      exact ⟨⟨[⟨#[116, 101, 120, 116]⟩], ret_val (textV_bad (ps := [⟨#[116, 101, 120, 116]⟩]) (getT_short HE.out (by omega) h3) (by omega)).symm⟩, Below.refl _ _⟩
    · have hkn : k + n ≤ s.size := by omega
      go_enter Tryd.func40, Tryd.ntmps40
      go_wp2_with (first | (go_at_call 34; refine (readNum_any s a _).mono ?_; rintro e w' ⟨⟨ps, rfl⟩, rfl⟩; rw [numV_ok' HE.out]) | (go_at_call 39; refine (joined_one _ _ (by simp; omega)).mono ?_; rintro e w2 ⟨rfl, hb2⟩))
      go_ret3
      exact ⟨⟨[], ret_val (textV_ok (ps := []) (getT_ok HE.out (by omega) (by omega))).symm⟩, hb2⟩
  · have HE : Hid (getN s a = (0, 0, c)) := e
    clear e
    go_enter Tryd.func40, Tryd.ntmps40
    go_wp2_with (go_at_call 34; refine (readNum_any s a _).mono ?_; rintro e w' ⟨⟨ps, rfl⟩, rfl⟩; rw [numV_bad' HE.out hc]; obtain ⟨ty, x, hx⟩ := errV_iface ps c; rw [hx]; have HX : Hid (errV ps c = .iface ty x) := hx; clear hx)
    go_ret3
    exact ⟨⟨⟨#[108, 101, 110, 103, 116, 104]⟩ :: ps, ret_val (by rw [textV_bad (getT_bad HE.out hc) hc]; unfold errV; rw [HX.out]; rfl)⟩, Below.refl _ _⟩

/-- What GetText and Unseal answer. -/
def textOut (r : ByteArray × Int × Int) : Value := .agg #[.string r.1, .int .i64 r.2.1, .int .i64 r.2.2]
theorem getT_code (s : ByteArray) (a : Int) : (∃ t k, getT s a = (t, k, 0)) ∨ ∃ c : Int, getT s a = (⟨#[]⟩, 0, c) ∧ c ≠ 0 := by
  unfold getT
  by_cases h1 : (getN s a).2.2 = 0
  · rw [if_neg (by simpa using h1)]
    by_cases h2 : (getN s a).1 < 0 ∨ 8000 < (getN s a).1
    · rw [if_pos h2]; exact .inr ⟨3, rfl, by omega⟩
    · rw [if_neg h2]
      by_cases h3 : (s.size : Int) - (getN s a).2.1 < (getN s a).1
      · rw [if_pos h3]; exact .inr ⟨4, rfl, by omega⟩
      · rw [if_neg h3]; exact .inl ⟨_, _, rfl⟩
  · rw [if_pos h1]; exact .inr ⟨_, rfl, h1⟩

set_option maxHeartbeats 1000000 in
set_option maxRecDepth 100000 in
theorem implGetText_any (s : ByteArray) (a : Int) (w : World) (hg : errCell w) :
    Calls Tryd.prog 15 #[.string s, .int .i64 a] w fun e w' => e = .returned (textOut (getT s a)) ∧ Below w.heap.size w w' := by
  have hb0 : Below w.heap.size w (w.alloc (.cells #[.string ⟨#[]⟩, .int .i64 0, .int .i64 0] 31)) := (Below.refl _ _).alloc (Nat.le_refl _) _
  have hg0 := hg.keep hb0
  rcases getT_code s a with ⟨t, k, e⟩ | ⟨c, e, hc⟩
  · rw [e]
    have HE : Hid (getT s a = (t, k, 0)) := e
    clear e
    go_enter Tryd.func15, Tryd.ntmps15
    go_wp2_with (go_at_call 40; refine (readText_any s a _).mono ?_; rintro e w1 ⟨⟨ps, rfl⟩, hb1⟩; rw [textV_ok HE.out]; obtain ⟨q0, q1, q2, f0, f1, f2⟩ := three_kept hb1)
    exact bodyPost_ret (v := .agg #[.string t, .int .i64 k, .int .i64 0]) (by simp [results, Tryd.results15, go_sem, q0, q1, q2]) rfl ⟨rfl, three_below (hb0.trans (hb1.mono hb0.size))⟩
  · rw [e]
    have HE : Hid (getT s a = (⟨#[]⟩, 0, c)) := e
    clear e
    go_enter Tryd.func15, Tryd.ntmps15
    go_wp2_with (first | (go_at_call 40; refine (readText_any s a _).mono ?_; rintro e w1 ⟨⟨ps, rfl⟩, hb1⟩; rw [textV_bad HE.out hc]; have hg1 := hg0.keep hb1; obtain ⟨ty, x, hx⟩ := errV_iface ps c; rw [hx]; have HX : Hid (errV ps c = .iface ty x) := hx; clear hx) | (go_at_call 35; rw [← HX.out]; refine (codeOf_any ps c _ hg1).mono ?_; rintro e w2 ⟨rfl, hb2⟩; obtain ⟨q0, q1, q2, f0, f1, f2⟩ := three_kept (hb1.trans (hb2.mono hb1.size))))
    exact bodyPost_ret (v := .agg #[.string ⟨#[]⟩, .int .i64 0, .int .i64 c]) (by simp [results, Tryd.results15, go_sem, q0, q1, q2]) rfl ⟨rfl, three_below (hb0.trans ((hb1.trans (hb2.mono hb1.size)).mono hb0.size))⟩

theorem two_kept {w x1 : World} {x y z a b c : Value} {t u : Nat} (hb : Below (w.alloc (.cells #[x, y, z] t)).heap.size (w.alloc (.cells #[x, y, z] t)) x1) :
    ∀ W, W = x1.alloc (.cells #[a, b, c] u) → W.cell? ⟨w.heap.size, 0, none⟩ = some x ∧ W.cell? ⟨w.heap.size, 1, none⟩ = some y ∧ W.cell? ⟨w.heap.size, 2, none⟩ = some z ∧
      W.frozen? ⟨w.heap.size, 0, none⟩ = false ∧ W.frozen? ⟨w.heap.size, 1, none⟩ = false ∧ W.frozen? ⟨w.heap.size, 2, none⟩ = false := by
  rintro W rfl
  exact three_kept (hb.alloc hb.size _)

set_option maxHeartbeats 1000000 in
set_option maxRecDepth 100000 in
theorem specGetText_any (s : ByteArray) (a : Int) (w : World) :
    Calls Tryd.prog 27 #[.string s, .int .i64 a] w fun e w' => e = .returned (textOut (getT s a)) ∧ Below w.heap.size w w' := by
  have hb0 : Below w.heap.size w (w.alloc (.cells #[.string ⟨#[]⟩, .int .i64 0, .int .i64 0] 31)) := (Below.refl _ _).alloc (Nat.le_refl _) _
  have fin : ∀ {x1 : World} {o : Obj} {x y z : Value}, Below (w.alloc (.cells #[.string ⟨#[]⟩, .int .i64 0, .int .i64 0] 31)).heap.size (w.alloc (.cells #[.string ⟨#[]⟩, .int .i64 0, .int .i64 0] 31)) x1 →
      Below w.heap.size w ((((x1.alloc o).setCell ⟨w.heap.size, 0, none⟩ x).setCell ⟨w.heap.size, 1, none⟩ y).setCell ⟨w.heap.size, 2, none⟩ z) := by
    intro x1 o x y z hb1
    have a1 := hb0.trans (hb1.mono hb0.size)
    exact three_below (a1.alloc a1.size _)
  rcases getN_code s a with ⟨n, k, e⟩ | ⟨c, e, hc⟩
  · have hpl := getN_place e
    have HE : Hid (getN s a = (n, k, 0)) := e
    clear e
    obtain ⟨k, rfl⟩ := Int.eq_ofNat_of_zero_le hpl.1
    obtain ⟨_, hk, hs8, hn1, hn2⟩ := hpl
    by_cases h1 : n < 0
    · rw [getT_syn HE.out (.inl h1)]
      go_enter Tryd.func27, Tryd.ntmps27
      go_wp2_with (go_at_call 25; refine (specGetNum_any s a _).mono ?_; rintro e x1 ⟨rfl, hb1⟩; rw [HE.out]; unfold numOut; obtain ⟨q0, q1, q2, f0, f1, f2⟩ := two_kept (a := .int .i64 n) (b := .int .i64 k) (c := .int .i64 0) (u := 26) hb1 _ rfl)
      exact bodyPost_ret (v := .agg #[.string ⟨#[]⟩, .int .i64 0, .int .i64 3]) (by simp [results, Tryd.results27, go_sem, q0, q1, q2]) rfl ⟨rfl, fin hb1⟩
    by_cases h2 : 8000 < n
    · rw [getT_syn HE.out (.inr h2)]
      go_enter Tryd.func27, Tryd.ntmps27
      go_wp2_with (go_at_call 25; refine (specGetNum_any s a _).mono ?_; rintro e x1 ⟨rfl, hb1⟩; rw [HE.out]; unfold numOut; obtain ⟨q0, q1, q2, f0, f1, f2⟩ := two_kept (a := .int .i64 n) (b := .int .i64 k) (c := .int .i64 0) (u := 26) hb1 _ rfl)
      exact bodyPost_ret (v := .agg #[.string ⟨#[]⟩, .int .i64 0, .int .i64 3]) (by simp [results, Tryd.results27, go_sem, q0, q1, q2]) rfl ⟨rfl, fin hb1⟩
    obtain ⟨n, rfl⟩ := Int.eq_ofNat_of_zero_le (show 0 ≤ n by omega)
    by_cases h3 : (s.size : Int) - (k : Int) < (n : Int)
    · rw [getT_short HE.out (by omega) h3]
      have h3' : (s.size : Int) - (n : Int) < (k : Int) := by omega
      go_enter Tryd.func27, Tryd.ntmps27
      go_wp2_with (go_at_call 25; refine (specGetNum_any s a _).mono ?_; rintro e x1 ⟨rfl, hb1⟩; rw [HE.out]; unfold numOut; obtain ⟨q0, q1, q2, f0, f1, f2⟩ := two_kept (a := .int .i64 n) (b := .int .i64 k) (c := .int .i64 0) (u := 26) hb1 _ rfl)
      exact bodyPost_ret (v := .agg #[.string ⟨#[]⟩, .int .i64 0, .int .i64 4]) (by simp [results, Tryd.results27, go_sem, q0, q1, q2]) rfl ⟨rfl, fin hb1⟩
    · rw [getT_ok HE.out (by omega) h3]
      have hkn : k + n ≤ s.size := by omega
      have h3' : ¬ (s.size : Int) - (n : Int) < (k : Int) := by omega
      go_enter Tryd.func27, Tryd.ntmps27
      go_wp2_with (go_at_call 25; refine (specGetNum_any s a _).mono ?_; rintro e x1 ⟨rfl, hb1⟩; rw [HE.out]; unfold numOut; obtain ⟨q0, q1, q2, f0, f1, f2⟩ := two_kept (a := .int .i64 n) (b := .int .i64 k) (c := .int .i64 0) (u := 26) hb1 _ rfl)
      go_region
      go_wp2
      exact bodyPost_ret (v := .agg #[.string (s.extract k (k + n)), .int .i64 ((k : Int) + (n : Int)), .int .i64 0]) (by simp [results, Tryd.results27, go_sem, q0, q1, q2]) rfl ⟨rfl, (fin hb1).drew⟩
  · rw [getT_bad e hc]
    have HE : Hid (getN s a = (0, 0, c)) := e
    have hc' : (c != 0) = true := by simpa using hc
    clear e
    go_enter Tryd.func27, Tryd.ntmps27
    go_wp2_with (go_at_call 25; refine (specGetNum_any s a _).mono ?_; rintro e x1 ⟨rfl, hb1⟩; rw [HE.out]; unfold numOut; obtain ⟨q0, q1, q2, f0, f1, f2⟩ := two_kept (a := .int .i64 0) (b := .int .i64 0) (c := .int .i64 c) (u := 26) hb1 _ rfl)
    exact bodyPost_ret (v := .agg #[.string ⟨#[]⟩, .int .i64 0, .int .i64 c]) (by simp [results, Tryd.results27, go_sem, q0, q1, q2]) rfl ⟨rfl, fin hb1⟩
end Go.Proofs.YtgngegammingoaaDoor
