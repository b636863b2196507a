/- A text that is spoiled a little. -/
import Derived.Test.YtpjdkgcdkfmkiaaDoorDraw
import Derived.Test.YtpjdkgcdkfmkiaaDoorPlain1
import Derived.Test.YtpjdkgcdkfmkiaaDoorG9
import Derived.Test.YtpjdkgcdkfmkiaaDoorG11
import Derived.Deep.RegionWith
import Derived.Laws.IdiomStrings
namespace Go.Proofs.YtpjdkgcdkfmkiaaDoor
open Go Go.RowKit
set_option linter.unusedVariables false
set_option linter.unusedSimpArgs false

theorem Src.drewS {w : World} {b : Nat} {a : Option Addr} {len cap : Nat} {zs : List Int} (h : Src w b a len cap zs) : Src w.drew b a len cap zs := h
def SpoilPost (b : Nat) (a : Option Addr) (len cap : Nat) (zs : List Int) (t : ByteArray) (w : World) (e : Ending) (w' : World) : Prop :=
  ∃ u : ByteArray, e = .returned (.string u) ∧ u.size ≤ t.size + 1 ∧ Src w' b a len cap zs ∧ w.grownBy w' (some b)
theorem one_conv (c : UInt8) (w : World) : (convert 22 9 (.slice (some ⟨w.heap.size, 0, none⟩) 1 1)).run Tryd.prog (w.alloc (.cells #[.int .u8 (c.toNat : Int)] 5)) = .ok (.string ⟨#[c]⟩) (w.alloc (.cells #[.int .u8 (c.toNat : Int)] 5)) := by
  have := run_convert_bytes_back (P := Tryd.prog) (w.alloc (.cells #[.int .u8 (c.toNat : Int)] 5)) 22 9 5 ⟨w.heap.size, 0, none⟩ 1 [c] Tryd.underlying22 Tryd.underlying5 Tryd.underlying9 (fun j hj => by
    obtain rfl : j = 0 := by simpa using hj
    rw [addr_add, (BlkIs.new w 5 #[.int .u8 (c.toNat : Int)]).cell 0]
    rfl)
  exact this
set_option maxHeartbeats 4000000 in
set_option maxRecDepth 100000 in
theorem spoil_any (b : Nat) (a : Option Addr) (len cap : Nat) (zs : List Int) (t : ByteArray) (w : World) (ht : t.size ≤ 100000) (hs : Src w b a len cap zs) :
    Calls Tryd.prog 23 #[.pointer (some ⟨b, 0, none⟩), .string t] w (SpoilPost b a len cap zs t w) := by
  have hw0 : IntKind.i64.wrap ((t.size : Int) + 1) = (t.size : Int) + 1 := by rw [IntKind.wrap_i64]; omega
  go_enter Tryd.func23, Tryd.ntmps23
  go_wp2_with fail
  refine (n_any b a len cap zs ((t.size : Int) + 1) (by omega) _ hs).mono ?_
  rintro e w1 ⟨r, rfl, h0, h1, hs1, g1⟩
  have hr : 0 ≤ r ∧ r ≤ t.size := by
    by_cases h : (t.size : Int) + 1 ≤ 1
    · have := h0 h; omega
    · have := h1 (by omega); omega
  obtain ⟨k, rfl⟩ := Int.eq_ofNat_of_zero_le hr.1
  have hk : k ≤ t.size := by omega
  clear hs h0 h1 hr hw0
  go_wp2_with fail
  refine (n_any b a len cap zs 17 (by omega) _ hs1).mono ?_
  rintro e w2 ⟨r, rfl, _, h1, hs2, g2⟩
  have h1 := h1 (by omega)
  obtain ⟨i, rfl⟩ := Int.eq_ofNat_of_zero_le h1.1
  have hi : (i : Int) < 17 := h1.2
  have gw := grown_trans g1 g2
  clear hs1 g1 g2 h1
  have hi2 : i < (⟨#[32, 10, 48, 97, 45, 110, 44, 58, 93, 255, 40, 120, 126, 49, 128, 225, 59]⟩ : ByteArray).size := by show i < 17; omega
  obtain ⟨c, hc⟩ : ∃ c : UInt8, (⟨#[32, 10, 48, 97, 45, 110, 44, 58, 93, 255, 40, 120, 126, 49, 128, 225, 59]⟩ : ByteArray)[i]'hi2 = c := ⟨_, rfl⟩
  have hcv := one_conv c w2
  have hs3 := hs2.alloc (.cells #[.int .u8 (c.toNat : Int)] 5)
  have gw3 := grown_alloc gw (.cells #[.int .u8 (c.toNat : Int)] 5)
  go_upto_region 3 with fail
  generalize w2.alloc (.cells #[.int .u8 (c.toNat : Int)] 5) = w3 at *
  clear hc hi2 hi hcv hs2 gw
  by_cases hkt : k = t.size
  · subst hkt
    go_upto_region 4 with fail
    refine wp_region_held_drew (S := fun x => x = w3.drew) (by kernel_rfl) rfl (fun hHeld => ?_)
    clear hHeld
    refine takeG 0 (v := .string t) rfl (by kernel_rfl) (by kernel_rfl) (by kernel_rfl) (by kernel_rfl) (fun _ _ _ h => h) ?hy rfl ?_
    case hy => (intro w' hSw; subst hSw; go_simp <;> (first | omega | (rw [IntKind.wrap_i64]; omega) | (intro hneg; exfalso; omega)))
    try simp only [List.setIfInBounds_toArray, List.set_cons_zero, List.set_cons_succ]
    refine takeG 1 (v := .int .i64 (t.size : Int)) rfl (by kernel_rfl) (by kernel_rfl) (by kernel_rfl) (by kernel_rfl) (fun _ _ _ h => h) ?hy rfl ?_
    case hy => (intro w' hSw; subst hSw; go_simp <;> (first | omega | (rw [IntKind.wrap_i64]; omega) | (intro hneg; exfalso; omega)))
    try simp only [List.setIfInBounds_toArray, List.set_cons_zero, List.set_cons_succ]
    refine takeG 2 (v := .string (t.extract 0 t.size)) rfl (by kernel_rfl) (by kernel_rfl) (by kernel_rfl) (by kernel_rfl) (fun _ _ _ h => h) ?hy rfl ?_
    case hy => (intro w' hSw; subst hSw; go_simp <;> (first | omega | (rw [IntKind.wrap_i64]; omega) | (intro hneg; exfalso; omega)))
    try simp only [List.setIfInBounds_toArray, List.set_cons_zero, List.set_cons_succ]
    refine takeG 3 (v := .string ⟨#[c]⟩) rfl (by kernel_rfl) (by kernel_rfl) (by kernel_rfl) (by kernel_rfl) (fun _ _ _ h => h) ?hy rfl ?_
    case hy => (intro w' hSw; subst hSw; go_simp <;> (first | omega | (rw [IntKind.wrap_i64]; omega) | (intro hneg; exfalso; omega)))
    try simp only [List.setIfInBounds_toArray, List.set_cons_zero, List.set_cons_succ]
    refine takeG 4 (v := .string ((t.extract 0 t.size) ++ ⟨#[c]⟩)) rfl (by kernel_rfl) (by kernel_rfl) (by kernel_rfl) (by kernel_rfl) (fun _ _ _ h => h) ?hy rfl ?_
    case hy => (intro w' hSw; subst hSw; go_simp <;> (first | omega | (rw [IntKind.wrap_i64]; omega) | (intro hneg; exfalso; omega)))
    try simp only [List.setIfInBounds_toArray, List.set_cons_zero, List.set_cons_succ]
    refine takeG 5 (v := .string t) rfl (by kernel_rfl) (by kernel_rfl) (by kernel_rfl) (by kernel_rfl) (fun _ _ _ h => h) ?hy rfl ?_
    case hy => (intro w' hSw; subst hSw; go_simp <;> (first | omega | (rw [IntKind.wrap_i64]; omega) | (intro hneg; exfalso; omega)))
    try simp only [List.setIfInBounds_toArray, List.set_cons_zero, List.set_cons_succ]
    refine takeG 6 (v := .int .i64 (t.size : Int)) rfl (by kernel_rfl) (by kernel_rfl) (by kernel_rfl) (by kernel_rfl) (fun _ _ _ h => h) ?hy rfl ?_
    case hy => (intro w' hSw; subst hSw; go_simp <;> (first | omega | (rw [IntKind.wrap_i64]; omega) | (intro hneg; exfalso; omega)))
    try simp only [List.setIfInBounds_toArray, List.set_cons_zero, List.set_cons_succ]
    refine takeG 7 (v := .string (t.extract t.size t.size)) rfl (by kernel_rfl) (by kernel_rfl) (by kernel_rfl) (by kernel_rfl) (fun _ _ _ h => h) ?hy rfl ?_
    case hy => (intro w' hSw; subst hSw; go_simp <;> (first | omega | (rw [IntKind.wrap_i64]; omega) | (intro hneg; exfalso; omega)))
    try simp only [List.setIfInBounds_toArray, List.set_cons_zero, List.set_cons_succ]
    refine takeG 8 (v := .string ((t.extract 0 t.size) ++ ⟨#[c]⟩ ++ (t.extract t.size t.size))) rfl (by kernel_rfl) (by kernel_rfl) (by kernel_rfl) (by kernel_rfl) (fun _ _ _ h => h) ?hy rfl ?_
    case hy => (intro w' hSw; subst hSw; go_simp <;> (first | omega | (rw [IntKind.wrap_i64]; omega) | (intro hneg; exfalso; omega)))
    try simp only [List.setIfInBounds_toArray, List.set_cons_zero, List.set_cons_succ]
    refine takeG 9 (v := .string ((t.extract 0 t.size) ++ ⟨#[c]⟩ ++ (t.extract t.size t.size))) rfl (by kernel_rfl) (by kernel_rfl) (by kernel_rfl) (by kernel_rfl) (fun _ _ _ h => h) ?hy rfl ?_
    case hy => (intro w' hSw; subst hSw; go_simp <;> (first | omega | (rw [IntKind.wrap_i64]; omega) | (intro hneg; exfalso; omega)))
    try simp only [List.setIfInBounds_toArray, List.set_cons_zero, List.set_cons_succ]
    refine wpAnyH_done (by kernel_rfl) ?_ _
    go_wp2
    refine bodyPost_ret (v := .string ((t.extract 0 t.size) ++ ⟨#[c]⟩ ++ (t.extract t.size t.size))) (by simp [results, Tryd.results23, go_sem]) rfl ⟨_, rfl, ?_, hs3.drewS, grown_drew gw3⟩
    have hcs : (⟨#[c]⟩ : ByteArray).size = 1 := rfl
    simp only [ByteArray.size_append, ByteArray.size_extract, hcs]
    omega
  · have hkI : ((k : Int) == (t.size : Int)) = false := by simp; omega
    have hkI2 : (k : Int) < (t.size : Int) := by omega
    have hkI3 : (k : Int) ≤ (t.size : Int) := by omega
    have hkI4 : (k : Int) + 1 ≤ (t.size : Int) := by omega
    go_wp2_with fail
    refine (one_any b a len cap zs 3 (by omega) _ hs3).mono ?_
    rintro e w4 ⟨r, rfl, hs4, g4⟩
    have gw4 := grown_trans gw3 g4
    clear g4 hs3 gw3
    cases r with
    | true =>
      go_upto_region 4 with fail
      refine wp_region_held_drew (S := fun x => x = w4.drew) (by kernel_rfl) rfl (fun hHeld => ?_)
      clear hHeld
      refine takeG 0 (v := .string t) rfl (by kernel_rfl) (by kernel_rfl) (by kernel_rfl) (by kernel_rfl) (fun _ _ _ h => h) ?hy rfl ?_
      case hy => (intro w' hSw; subst hSw; go_simp <;> (first | omega | (rw [IntKind.wrap_i64]; omega) | (intro hneg; exfalso; omega)))
      try simp only [List.setIfInBounds_toArray, List.set_cons_zero, List.set_cons_succ]
      refine takeG 1 (v := .int .i64 (k : Int)) rfl (by kernel_rfl) (by kernel_rfl) (by kernel_rfl) (by kernel_rfl) (fun _ _ _ h => h) ?hy rfl ?_
      case hy => (intro w' hSw; subst hSw; go_simp <;> (first | omega | (rw [IntKind.wrap_i64]; omega) | (intro hneg; exfalso; omega)))
      try simp only [List.setIfInBounds_toArray, List.set_cons_zero, List.set_cons_succ]
      refine takeG 2 (v := .string (t.extract 0 k)) rfl (by kernel_rfl) (by kernel_rfl) (by kernel_rfl) (by kernel_rfl) (fun _ _ _ h => h) ?hy rfl ?_
      case hy => (intro w' hSw; subst hSw; go_simp <;> (first | omega | (rw [IntKind.wrap_i64]; omega) | (intro hneg; exfalso; omega)))
      try simp only [List.setIfInBounds_toArray, List.set_cons_zero, List.set_cons_succ]
      refine takeG 3 (v := .string ⟨#[c]⟩) rfl (by kernel_rfl) (by kernel_rfl) (by kernel_rfl) (by kernel_rfl) (fun _ _ _ h => h) ?hy rfl ?_
      case hy => (intro w' hSw; subst hSw; go_simp <;> (first | omega | (rw [IntKind.wrap_i64]; omega) | (intro hneg; exfalso; omega)))
      try simp only [List.setIfInBounds_toArray, List.set_cons_zero, List.set_cons_succ]
      refine takeG 4 (v := .string ((t.extract 0 k) ++ ⟨#[c]⟩)) rfl (by kernel_rfl) (by kernel_rfl) (by kernel_rfl) (by kernel_rfl) (fun _ _ _ h => h) ?hy rfl ?_
      case hy => (intro w' hSw; subst hSw; go_simp <;> (first | omega | (rw [IntKind.wrap_i64]; omega) | (intro hneg; exfalso; omega)))
      try simp only [List.setIfInBounds_toArray, List.set_cons_zero, List.set_cons_succ]
      refine takeG 5 (v := .string t) rfl (by kernel_rfl) (by kernel_rfl) (by kernel_rfl) (by kernel_rfl) (fun _ _ _ h => h) ?hy rfl ?_
      case hy => (intro w' hSw; subst hSw; go_simp <;> (first | omega | (rw [IntKind.wrap_i64]; omega) | (intro hneg; exfalso; omega)))
      try simp only [List.setIfInBounds_toArray, List.set_cons_zero, List.set_cons_succ]
      refine takeG 6 (v := .int .i64 (k : Int)) rfl (by kernel_rfl) (by kernel_rfl) (by kernel_rfl) (by kernel_rfl) (fun _ _ _ h => h) ?hy rfl ?_
      case hy => (intro w' hSw; subst hSw; go_simp <;> (first | omega | (rw [IntKind.wrap_i64]; omega) | (intro hneg; exfalso; omega)))
      try simp only [List.setIfInBounds_toArray, List.set_cons_zero, List.set_cons_succ]
      refine takeG 7 (v := .string (t.extract k t.size)) rfl (by kernel_rfl) (by kernel_rfl) (by kernel_rfl) (by kernel_rfl) (fun _ _ _ h => h) ?hy rfl ?_
      case hy => (intro w' hSw; subst hSw; go_simp <;> (first | omega | (rw [IntKind.wrap_i64]; omega) | (intro hneg; exfalso; omega)))
      try simp only [List.setIfInBounds_toArray, List.set_cons_zero, List.set_cons_succ]
      refine takeG 8 (v := .string ((t.extract 0 k) ++ ⟨#[c]⟩ ++ (t.extract k t.size))) rfl (by kernel_rfl) (by kernel_rfl) (by kernel_rfl) (by kernel_rfl) (fun _ _ _ h => h) ?hy rfl ?_
      case hy => (intro w' hSw; subst hSw; go_simp <;> (first | omega | (rw [IntKind.wrap_i64]; omega) | (intro hneg; exfalso; omega)))
      try simp only [List.setIfInBounds_toArray, List.set_cons_zero, List.set_cons_succ]
      refine takeG 9 (v := .string ((t.extract 0 k) ++ ⟨#[c]⟩ ++ (t.extract k t.size))) rfl (by kernel_rfl) (by kernel_rfl) (by kernel_rfl) (by kernel_rfl) (fun _ _ _ h => h) ?hy rfl ?_
      case hy => (intro w' hSw; subst hSw; go_simp <;> (first | omega | (rw [IntKind.wrap_i64]; omega) | (intro hneg; exfalso; omega)))
      try simp only [List.setIfInBounds_toArray, List.set_cons_zero, List.set_cons_succ]
      refine wpAnyH_done (by kernel_rfl) ?_ _
      go_wp2
      refine bodyPost_ret (v := .string ((t.extract 0 k) ++ ⟨#[c]⟩ ++ (t.extract k t.size))) (by simp [results, Tryd.results23, go_sem]) rfl ⟨_, rfl, ?_, hs4.drewS, grown_drew gw4⟩
      have hcs : (⟨#[c]⟩ : ByteArray).size = 1 := rfl
      simp only [ByteArray.size_append, ByteArray.size_extract, hcs]
      omega
    | false =>
      go_wp2_with fail
      refine (one_any b a len cap zs 2 (by omega) _ hs4).mono ?_
      rintro e w5 ⟨r, rfl, hs5, g5⟩
      have gw5 := grown_trans gw4 g5
      clear g5 hs4 gw4
      cases r with
      | true =>
        go_upto_region 6 with fail
        refine wp_region_held_drew (S := fun x => x = w5.drew) (by kernel_rfl) rfl (fun hHeld => ?_)
        clear hHeld
        refine takeG 0 (v := .string t) rfl (by kernel_rfl) (by kernel_rfl) (by kernel_rfl) (by kernel_rfl) (fun _ _ _ h => h) ?hy rfl ?_
        case hy => (intro w' hSw; subst hSw; go_simp <;> (first | omega | (rw [IntKind.wrap_i64]; omega) | (intro hneg; exfalso; omega)))
        try simp only [List.setIfInBounds_toArray, List.set_cons_zero, List.set_cons_succ]
        refine takeG 1 (v := .int .i64 (k : Int)) rfl (by kernel_rfl) (by kernel_rfl) (by kernel_rfl) (by kernel_rfl) (fun _ _ _ h => h) ?hy rfl ?_
        case hy => (intro w' hSw; subst hSw; go_simp <;> (first | omega | (rw [IntKind.wrap_i64]; omega) | (intro hneg; exfalso; omega)))
        try simp only [List.setIfInBounds_toArray, List.set_cons_zero, List.set_cons_succ]
        refine takeG 2 (v := .string (t.extract 0 k)) rfl (by kernel_rfl) (by kernel_rfl) (by kernel_rfl) (by kernel_rfl) (fun _ _ _ h => h) ?hy rfl ?_
        case hy => (intro w' hSw; subst hSw; go_simp <;> (first | omega | (rw [IntKind.wrap_i64]; omega) | (intro hneg; exfalso; omega)))
        try simp only [List.setIfInBounds_toArray, List.set_cons_zero, List.set_cons_succ]
        refine takeG 3 (v := .string t) rfl (by kernel_rfl) (by kernel_rfl) (by kernel_rfl) (by kernel_rfl) (fun _ _ _ h => h) ?hy rfl ?_
        case hy => (intro w' hSw; subst hSw; go_simp <;> (first | omega | (rw [IntKind.wrap_i64]; omega) | (intro hneg; exfalso; omega)))
        try simp only [List.setIfInBounds_toArray, List.set_cons_zero, List.set_cons_succ]
        refine takeG 4 (v := .int .i64 (k : Int)) rfl (by kernel_rfl) (by kernel_rfl) (by kernel_rfl) (by kernel_rfl) (fun _ _ _ h => h) ?hy rfl ?_
        case hy => (intro w' hSw; subst hSw; go_simp <;> (first | omega | (rw [IntKind.wrap_i64]; omega) | (intro hneg; exfalso; omega)))
        try simp only [List.setIfInBounds_toArray, List.set_cons_zero, List.set_cons_succ]
        refine takeG 5 (v := .int .i64 ((k : Int) + 1)) rfl (by kernel_rfl) (by kernel_rfl) (by kernel_rfl) (by kernel_rfl) (fun _ _ _ h => h) ?hy rfl ?_
        case hy => (intro w' hSw; subst hSw; go_simp <;> (first | omega | (rw [IntKind.wrap_i64]; omega) | (intro hneg; exfalso; omega)))
        try simp only [List.setIfInBounds_toArray, List.set_cons_zero, List.set_cons_succ]
        refine takeG 6 (v := .string (t.extract (k + 1) t.size)) rfl (by kernel_rfl) (by kernel_rfl) (by kernel_rfl) (by kernel_rfl) (fun _ _ _ h => h) ?hy rfl ?_
        case hy => (intro w' hSw; subst hSw; go_simp <;> (first | omega | (rw [IntKind.wrap_i64]; omega) | (intro hneg; exfalso; omega)))
        try simp only [List.setIfInBounds_toArray, List.set_cons_zero, List.set_cons_succ]
        refine takeG 7 (v := .string ((t.extract 0 k) ++ (t.extract (k + 1) t.size))) rfl (by kernel_rfl) (by kernel_rfl) (by kernel_rfl) (by kernel_rfl) (fun _ _ _ h => h) ?hy rfl ?_
        case hy => (intro w' hSw; subst hSw; go_simp <;> (first | omega | (rw [IntKind.wrap_i64]; omega) | (intro hneg; exfalso; omega)))
        try simp only [List.setIfInBounds_toArray, List.set_cons_zero, List.set_cons_succ]
        refine takeG 8 (v := .string ((t.extract 0 k) ++ (t.extract (k + 1) t.size))) rfl (by kernel_rfl) (by kernel_rfl) (by kernel_rfl) (by kernel_rfl) (fun _ _ _ h => h) ?hy rfl ?_
        case hy => (intro w' hSw; subst hSw; go_simp <;> (first | omega | (rw [IntKind.wrap_i64]; omega) | (intro hneg; exfalso; omega)))
        try simp only [List.setIfInBounds_toArray, List.set_cons_zero, List.set_cons_succ]
        refine wpAnyH_done (by kernel_rfl) ?_ _
        go_wp2
        refine bodyPost_ret (v := .string ((t.extract 0 k) ++ (t.extract (k + 1) t.size))) (by simp [results, Tryd.results23, go_sem]) rfl ⟨_, rfl, ?_, hs5.drewS, grown_drew gw5⟩
        have hcs : (⟨#[c]⟩ : ByteArray).size = 1 := rfl
        simp only [ByteArray.size_append, ByteArray.size_extract, hcs]
        omega
      | false =>
        go_upto_region 7 with fail
        refine wp_region_held_drew (S := fun x => x = w5.drew) (by kernel_rfl) rfl (fun hHeld => ?_)
        clear hHeld
        refine takeG 0 (v := .string t) rfl (by kernel_rfl) (by kernel_rfl) (by kernel_rfl) (by kernel_rfl) (fun _ _ _ h => h) ?hy rfl ?_
        case hy => (intro w' hSw; subst hSw; go_simp <;> (first | omega | (rw [IntKind.wrap_i64]; omega) | (intro hneg; exfalso; omega)))
        try simp only [List.setIfInBounds_toArray, List.set_cons_zero, List.set_cons_succ]
        refine takeG 1 (v := .int .i64 (k : Int)) rfl (by kernel_rfl) (by kernel_rfl) (by kernel_rfl) (by kernel_rfl) (fun _ _ _ h => h) ?hy rfl ?_
        case hy => (intro w' hSw; subst hSw; go_simp <;> (first | omega | (rw [IntKind.wrap_i64]; omega) | (intro hneg; exfalso; omega)))
        try simp only [List.setIfInBounds_toArray, List.set_cons_zero, List.set_cons_succ]
        refine takeG 2 (v := .string (t.extract 0 k)) rfl (by kernel_rfl) (by kernel_rfl) (by kernel_rfl) (by kernel_rfl) (fun _ _ _ h => h) ?hy rfl ?_
        case hy => (intro w' hSw; subst hSw; go_simp <;> (first | omega | (rw [IntKind.wrap_i64]; omega) | (intro hneg; exfalso; omega)))
        try simp only [List.setIfInBounds_toArray, List.set_cons_zero, List.set_cons_succ]
        refine takeG 3 (v := .string ⟨#[c]⟩) rfl (by kernel_rfl) (by kernel_rfl) (by kernel_rfl) (by kernel_rfl) (fun _ _ _ h => h) ?hy rfl ?_
        case hy => (intro w' hSw; subst hSw; go_simp <;> (first | omega | (rw [IntKind.wrap_i64]; omega) | (intro hneg; exfalso; omega)))
        try simp only [List.setIfInBounds_toArray, List.set_cons_zero, List.set_cons_succ]
        refine takeG 4 (v := .string ((t.extract 0 k) ++ ⟨#[c]⟩)) rfl (by kernel_rfl) (by kernel_rfl) (by kernel_rfl) (by kernel_rfl) (fun _ _ _ h => h) ?hy rfl ?_
        case hy => (intro w' hSw; subst hSw; go_simp <;> (first | omega | (rw [IntKind.wrap_i64]; omega) | (intro hneg; exfalso; omega)))
        try simp only [List.setIfInBounds_toArray, List.set_cons_zero, List.set_cons_succ]
        refine takeG 5 (v := .string t) rfl (by kernel_rfl) (by kernel_rfl) (by kernel_rfl) (by kernel_rfl) (fun _ _ _ h => h) ?hy rfl ?_
        case hy => (intro w' hSw; subst hSw; go_simp <;> (first | omega | (rw [IntKind.wrap_i64]; omega) | (intro hneg; exfalso; omega)))
        try simp only [List.setIfInBounds_toArray, List.set_cons_zero, List.set_cons_succ]
        refine takeG 6 (v := .int .i64 (k : Int)) rfl (by kernel_rfl) (by kernel_rfl) (by kernel_rfl) (by kernel_rfl) (fun _ _ _ h => h) ?hy rfl ?_
        case hy => (intro w' hSw; subst hSw; go_simp <;> (first | omega | (rw [IntKind.wrap_i64]; omega) | (intro hneg; exfalso; omega)))
        try simp only [List.setIfInBounds_toArray, List.set_cons_zero, List.set_cons_succ]
        refine takeG 7 (v := .int .i64 ((k : Int) + 1)) rfl (by kernel_rfl) (by kernel_rfl) (by kernel_rfl) (by kernel_rfl) (fun _ _ _ h => h) ?hy rfl ?_
        case hy => (intro w' hSw; subst hSw; go_simp <;> (first | omega | (rw [IntKind.wrap_i64]; omega) | (intro hneg; exfalso; omega)))
        try simp only [List.setIfInBounds_toArray, List.set_cons_zero, List.set_cons_succ]
        refine takeG 8 (v := .string (t.extract (k + 1) t.size)) rfl (by kernel_rfl) (by kernel_rfl) (by kernel_rfl) (by kernel_rfl) (fun _ _ _ h => h) ?hy rfl ?_
        case hy => (intro w' hSw; subst hSw; go_simp <;> (first | omega | (rw [IntKind.wrap_i64]; omega) | (intro hneg; exfalso; omega)))
        try simp only [List.setIfInBounds_toArray, List.set_cons_zero, List.set_cons_succ]
        refine takeG 9 (v := .string ((t.extract 0 k) ++ ⟨#[c]⟩ ++ (t.extract (k + 1) t.size))) rfl (by kernel_rfl) (by kernel_rfl) (by kernel_rfl) (by kernel_rfl) (fun _ _ _ h => h) ?hy rfl ?_
        case hy => (intro w' hSw; subst hSw; go_simp <;> (first | omega | (rw [IntKind.wrap_i64]; omega) | (intro hneg; exfalso; omega)))
        try simp only [List.setIfInBounds_toArray, List.set_cons_zero, List.set_cons_succ]
        refine takeG 10 (v := .string ((t.extract 0 k) ++ ⟨#[c]⟩ ++ (t.extract (k + 1) t.size))) rfl (by kernel_rfl) (by kernel_rfl) (by kernel_rfl) (by kernel_rfl) (fun _ _ _ h => h) ?hy rfl ?_
        case hy => (intro w' hSw; subst hSw; go_simp <;> (first | omega | (rw [IntKind.wrap_i64]; omega) | (intro hneg; exfalso; omega)))
        try simp only [List.setIfInBounds_toArray, List.set_cons_zero, List.set_cons_succ]
        refine wpAnyH_done (by kernel_rfl) ?_ _
        go_wp2
        refine bodyPost_ret (v := .string ((t.extract 0 k) ++ ⟨#[c]⟩ ++ (t.extract (k + 1) t.size))) (by simp [results, Tryd.results23, go_sem]) rfl ⟨_, rfl, ?_, hs5.drewS, grown_drew gw5⟩
        have hcs : (⟨#[c]⟩ : ByteArray).size = 1 := rfl
        simp only [ByteArray.size_append, ByteArray.size_extract, hcs]
        omega
end Go.Proofs.YtpjdkgcdkfmkiaaDoor
