/- Proved: laws.FnSeal answers true at every two codes: a sealed text comes back, with one byte turned it is refused with ErrSum, and a CRC goes on from text to text. No condition but the card's own: errors.errorType holds what the program's text lays. -/
import Derived.Test.YtgngegammingoaaDoorRows
import Derived.Test.YtgngegammingoaaDoorCards
import Derived.Test.YtgngegammingoaaDoorTie
import Derived.WalkKit
import Derived.ProofKit
import Derived.OpenShut
import Derived.ShutString
import Derived.ChangeOld
import Derived.Below
import Derived.LaidHandle
import Derived.LaidLaws
import Derived.ChangeVars
import Derived.SevenTiedAt
import Derived.Test.YtgngegammingoaaDoorSealP
import Derived.Test.YtgngegammingoaaDoorDrawS
namespace Go.Proofs.YtgngegammingoaaDoor
open Go Go.ChangeShapes Go.WideShapes Go.ChangeAt Go.RowKit
open Go.ChangeMaps (open_string shut_string)
set_option linter.unusedVariables false

theorem below_thenS {w x y : World} (h : Below w.heap.size w x) (k : Below x.heap.size x y) : Below w.heap.size w y := h.trans (k.mono h.size)
theorem field_textS (x y z : Value) (w : World) : (Instr.field 31 (.agg #[x, y, z]) 2).run Tryd.prog w = .ok z w := by kernel_rfl
/-- '[]byte(s)'. -/
theorem conv_bytes (S : List UInt8) (w : World) : ∃ (cap : Nat) (w' : World), (convert 9 22 (.string ⟨S.toArray⟩)).run Tryd.prog w = .ok (.slice (some ⟨w.heap.size, 0, none⟩) S.length cap) w' ∧
    (∀ j (hj : j < S.length), w'.cell? ⟨w.heap.size, j, none⟩ = some (.int .u8 (S[j].toNat : Int))) ∧ (∀ j, j < S.length → w'.frozen? ⟨w.heap.size, j, none⟩ = false) ∧ Below w.heap.size w w' ∧ w'.heap.size = w.heap.size + 1 := by
  have h := run_bytes_of_string (P := Tryd.prog) w 9 22 5 ⟨S.toArray⟩ Tryd.underlying9 Tryd.underlying22 Tryd.underlying5
  have hs : (⟨S.toArray⟩ : ByteArray).size = S.length := size_data
  rw [hs] at h
  generalize hcap : grownCap w S.length 0 5 = cap at h
  refine ⟨_, _, h, fun j hj => ?_, fun j hj => ?_, ((Below.refl w.heap.size w).drew).alloc (Nat.le_refl _) _, by simp [World.alloc, World.drew, -World.alloc_eq, -World.drew_eq]⟩
  · have := World.cell?_alloc_mark w.drew (bytesRow ⟨S.toArray⟩ cap) 5 ((bytesRow ⟨S.toArray⟩ cap).size, (bytesRow ⟨S.toArray⟩ cap).size + 1) j
    refine this.trans ?_
    rw [bytesRow_at _ _ _ (by simpa using hj)]
    simp
  · have := World.frozen?_alloc_mark w.drew (bytesRow ⟨S.toArray⟩ cap) 5 (bytesRow ⟨S.toArray⟩ cap).size ((bytesRow ⟨S.toArray⟩ cap).size + 1) j
    refine this.trans ?_
    have hb : j < (bytesRow ⟨S.toArray⟩ cap).size := by
      unfold bytesRow
      simp
      omega
    simp
    omega
/-- A byte with some bits turned is another. -/
theorem turn_byte (c : UInt8) {r : Int} (h0 : 0 ≤ r) (h1 : r < 255) : ∃ d : UInt8, d ≠ c ∧ bits BinOp.xor IntKind.u8 (c.toNat : Int) (1 + r) = (d.toNat : Int) := by
  obtain ⟨k, rfl⟩ := Int.eq_ofNat_of_zero_le h0
  have hk : k < 255 := by omega
  have hx : bits BinOp.xor IntKind.u8 (c.toNat : Int) (1 + (k : Int)) = ((c.toNat ^^^ (1 + k) : Nat) : Int) := by
    have hc := byte_lt c
    have e1 : (1 + (k : Int)) = ((1 + k : Nat) : Int) := by omega
    rw [e1]
    exact u8_xor_nat c.toNat (1 + k) (by omega) (by omega)
  have hc := byte_lt c
  have hl : c.toNat ^^^ (1 + k) < 2 ^ 8 := Nat.xor_lt_two_pow (by omega) (by omega)
  refine ⟨UInt8.ofNat (c.toNat ^^^ (1 + k)), fun e => ?_, ?_⟩
  · have := congrArg UInt8.toNat e
    rw [UInt8.toNat_ofNat'] at this
    have h2 : c.toNat ^^^ (1 + k) = c.toNat ^^^ 0 := by rw [Nat.xor_zero]; omega
    rw [Nat.xor_comm c.toNat, Nat.xor_comm c.toNat] at h2
    have := xor_cancel h2
    omega
  · rw [hx, UInt8.toNat_ofNat']; omega
theorem set_cells {x : World} {b k : Nat} {S : List UInt8} {d : UInt8} (hk : k < S.length) (h : ∀ j (hj : j < S.length), x.cell? ⟨b, j, none⟩ = some (.int .u8 (S[j].toNat : Int))) :
    ∀ j (hj : j < (S.set k d).length), ((x.setCell ⟨b, k, none⟩ (.int .u8 (d.toNat : Int))).drew).cell? ⟨b, j, none⟩ = some (.int .u8 ((S.set k d)[j].toNat : Int)) := by
  intro j hj
  show (x.setCell ⟨b, k, none⟩ (.int .u8 (d.toNat : Int))).cell? ⟨b, j, none⟩ = _
  have hj : j < S.length := by rw [List.length_set] at hj; exact hj
  by_cases e : j = k
  · subst e
    rw [World.cell?_setCell_same' _ _ _ (by rw [h j hk]; rfl)]
    simp
  · rw [cell_set_other (h j hj) e, List.getElem_set_ne (fun q => e q.symm)]
theorem wrap_turn {r : Int} (h0 : 0 ≤ r) (h1 : r < 255) : IntKind.u8.wrap (IntKind.i64.wrap (1 + r)) = 1 + r := by
  rw [IntKind.wrap_i64, IntKind.wrap_u8']; omega

set_option maxHeartbeats 4000000 in
set_option maxRecDepth 100000 in
theorem FnSeal_walk (a0 : Option Addr) (len0 cap0 : Nat) (z0 : List Int) (a1 : Option Addr) (len1 cap1 : Nat) (z1 : List Int) (w : World) (w0 : ByteRow w a0 len0 cap0 z0) (w1 : ByteRow w a1 len1 cap1 z1) (hg : errCell w) :
    Calls Tryd.prog 4 #[.slice a0 len0 cap0, .slice a1 len1 cap1] w fun e w' => e = .returned (.bool true) ∧ Below w.heap.size w w' := by
  by_cases hs0 : 1048576 < (len0 : Int)
  · go_enter Tryd.func4, Tryd.ntmps4
    go_wp2
    go_ret
    exact ⟨rfl, Below.refl _ _⟩
  by_cases hs1 : 1048576 < (len1 : Int)
  · go_enter Tryd.func4, Tryd.ntmps4
    go_wp2
    go_ret
    exact ⟨rfl, Below.refl _ _⟩
  have ft := field_textS
  go_enter Tryd.func4, Tryd.ntmps4
  go_wp2_with fail
  refine (drawSeal_any a0 len0 cap0 z0 _ (by omega) w0).mono ?_
  rintro e x1 ⟨l, rfl, hl, b1⟩
  clear w0
  have hsz : (⟨l.toArray⟩ : ByteArray).size = l.length := size_data
  have hmax : (⟨l.toArray⟩ : ByteArray).size ≤ maxLen := small_size (by omega)
  rcases hl with hl | hl
  · obtain ⟨S, hS⟩ : ∃ S, sealB ⟨l.toArray⟩ = S := ⟨_, rfl⟩
    have hSl : S.length = l.length + 4 := by rw [← hS, sealB_len (by omega), hsz]
    have HT : Hid (∀ (i : Nat) (d : UInt8) (hi : i < S.length), d ≠ S[i] → getU ⟨(S.set i d).toArray⟩ = (⟨#[]⟩, 0, 5)) := by
      subst hS
      exact fun i d hi hd => getU_turned (by omega) i d hi hd
    have HU : Hid (getU ⟨S.toArray⟩ = (⟨l.toArray⟩, 0, 0)) := by
      subst hS
      exact getU_seal (by omega)
    have HS : Hid (sealB ⟨l.toArray⟩ = S) := hS
    have hSn : ¬ S = [] := by intro h; rw [h] at hSl; simp at hSl
    have hSe : S.isEmpty = false := by cases S with | nil => simp at hSl | cons c r => rfl
    have hS1 : S.length ≤ 23 := by omega
    have hS2 : 4 ≤ S.length := by omega
    clear hS hSl hsz
    go_wp2_with fail
    refine (implSeal_any _ _ hmax).mono ?_
    rintro e x2 ⟨rfl, b2⟩
    rw [HS.out]
    have b2 := below_thenS b1 b2
    go_wp2_with fail
    refine (specSeal_any _ _ hmax).mono ?_
    rintro e x3 ⟨rfl, b3⟩
    rw [HS.out]
    have b3 := below_thenS b2 b3
    obtain ⟨cap, x4, hcv, hcell, hfz, b4, hx4⟩ := conv_bytes S x3
    have b4 := below_thenS b3 b4
    have w4 := w1.below b4
    go_wp2_with fail
    refine (lwAt_any a1 len1 cap1 z1 0 S.length _ (by omega) w4 (by omega) (by omega) (by omega)).mono ?_
    rintro e x5 ⟨r, rfl, hr0, hr1, rfl⟩
    obtain ⟨k, rfl⟩ := Int.eq_ofNat_of_zero_le hr0
    have hk : k < S.length := by have := hr1 (by omega); omega
    have hck := hcell k hk
    have hfk := hfz k hk
    obtain ⟨c, hc⟩ : ∃ c, S[k] = c := ⟨_, rfl⟩
    rw [hc] at hck
    have HC : Hid (S[k] = c) := hc
    have HL : Hid (∀ j (hj : j < S.length), x5.cell? ⟨x3.heap.size, j, none⟩ = some (.int .u8 (S[j].toNat : Int))) := hcell
    clear hc hcell hfz hr0 hr1 hcv
    go_upto_region 10 with fail
    go_cut [] (fun wc => ∃ d : UInt8, d ≠ c ∧ (∀ j (hj : j < (S.set k d).length), wc.cell? ⟨x3.heap.size, j, none⟩ = some (.int .u8 ((S.set k d)[j].toNat : Int))) ∧ Below w.heap.size w wc ∧ x3.heap.size < wc.heap.size)
    case first =>
      go_region_with (go_at_call 19; refine (lwAt_any a1 len1 cap1 z1 1 255 _ (by omega) (by exact w4) (by omega) (by omega) (by omega)).mono ?_; rintro e x6 ⟨r, rfl, hr0, hr1, rfl⟩)
      all_goals
        obtain ⟨d, hd, hx⟩ := turn_byte c hr0 (hr1 (by omega))
        rw [wrap_turn hr0 (hr1 (by omega)), hx]
        go_wp2
        go_meet
        case rel => exact ⟨d, hd, set_cells hk HL.out, (b4.setCell b3.size _).drew, by show _ < (World.setCell _ _ _).heap.size; simp [World.setCell]; omega⟩
    case rest =>
    obtain ⟨d, hd, hcs, b5, hx5⟩ := hcut
    clear HL hck hfk w4 b4
    go_wp2_with fail
    refine (implUnseal_any _ _ (hg.keep b5)).mono ?_
    rintro e x6 ⟨rfl, b6⟩
    rw [HU.out]
    unfold textOut
    have hcv2 := run_convert_bytes_back (P := Tryd.prog) x6 22 9 5 ⟨x3.heap.size, 0, none⟩ cap (S.set k d) Tryd.underlying22 Tryd.underlying5 Tryd.underlying9 (fun j hj => by
      rw [addr_add, b6.cell (p := ⟨x3.heap.size, j, none⟩) hx5]
      exact hcs j hj)
    rw [List.length_set] at hcv2
    have b6 := below_thenS b5 b6
    have HV : Hid (getU ⟨(S.set k d).toArray⟩ = (⟨#[]⟩, 0, 5)) := HT.out k d hk (by rw [HC.out]; exact hd)
    clear hcs HT
    go_wp2_with fail
    refine (implUnseal_any _ _ (hg.keep b6)).mono ?_
    rintro e x7 ⟨rfl, b7⟩
    rw [HV.out]
    unfold textOut
    have b7 := below_thenS b6 b7
    have w7 := w1.below b7
    clear hcv2
    go_wp2_with fail
    refine (drawCrcMore_any a1 len1 cap1 z1 _ (by omega) w7).mono ?_
    rintro e x8 ⟨cr, m, rfl, hcr, hm, b8⟩
    have b8 := below_thenS b7 b8
    have hmm : (⟨m.toArray⟩ : ByteArray).size ≤ maxLen := small_size (by omega)
    have hlm : ((⟨l.toArray⟩ : ByteArray) ++ ⟨m.toArray⟩).size ≤ maxLen := by
      have e1 : (⟨l.toArray⟩ : ByteArray).size = l.length := size_data
      have e2 : (⟨m.toArray⟩ : ByteArray).size = m.length := size_data
      rw [ByteArray.size_append, e1, e2]; unfold maxLen; omega
    have HG : Hid (crcMore ((crcMore 0 l : Nat) : Int) m = crcMore 0 (l ++ m)) := crc_goes_on l m (by omega)
    go_wp2_with fail
    refine (implCrcMore_any _ _ _ hmm).mono ?_
    rintro e x9 ⟨rfl, rfl⟩
    go_wp2_with fail
    refine (specCrcMore_any _ _ _ hmm).mono ?_
    rintro e x9 ⟨rfl, rfl⟩
    go_wp2_with fail
    refine (implCrc_any _ _ hmax).mono ?_
    rintro e x9 ⟨rfl, rfl⟩
    go_wp2_with fail
    refine (implCrcMore_any _ _ _ hmm).mono ?_
    rintro e x9 ⟨rfl, rfl⟩
    go_wp2_with fail
    refine (implCrc_any _ _ hlm).mono ?_
    rintro e x9 ⟨rfl, rfl⟩
    have hcat : ((⟨l.toArray⟩ : ByteArray) ++ ⟨m.toArray⟩).data.toList = l ++ m := by simp
    rw [hcat]
    have hgo : crcMore ((crcMore 0 l : Nat) : Int) m = crcMore 0 (l ++ m) := HG.out
    rw [← hgo]
    go_wp2
    go_ret
    exact ⟨rfl, b8⟩
  · have hp : sealB ⟨l.toArray⟩ = [] := sealB_no (by rw [hsz]; omega)
    have HP : Hid (sealB ⟨l.toArray⟩ = []) := hp
    clear hp
    go_wp2_with fail
    refine (implSeal_any _ _ hmax).mono ?_
    rintro e x2 ⟨rfl, b2⟩
    rw [HP.out]
    have b2 := below_thenS b1 b2
    go_wp2_with fail
    refine (specSeal_any _ _ hmax).mono ?_
    rintro e x3 ⟨rfl, b3⟩
    rw [HP.out]
    have b3 := below_thenS b2 b3
    have w3 := w1.below b3
    go_wp2_with fail
    refine (drawCrcMore_any a1 len1 cap1 z1 _ (by omega) w3).mono ?_
    rintro e x4 ⟨cr, m, rfl, hcr, hm, b4⟩
    have b4 := below_thenS b3 b4
    go_wp2
    go_ret
    exact ⟨rfl, b4⟩

theorem FnSeal_et : Tryd.prog.globalNamed "errors.errorType" = some 0 := by kernel_rfl
theorem FnSeal_rt : (Tryd.prog.cutTypes.find? (·.1 == "internal/reflectlite.rtype")).map (·.2) = some 91 := by kernel_rfl
theorem FnSeal_oneRow : ((List.range 133).filter fun t => Tryd.prog.rowNamed t [101, 114, 114, 111, 114]) = [51] := by kernel_rfl
theorem FnSeal_size : Tryd.prog.types.size = 133 := by kernel_rfl
theorem FnSeal_cell {W : World} (h : laidMetH Tryd.prog Rows.fnSealRow.laid W) : errCell W := by
  have h' : laidMet Tryd.prog [] W ∧ handlesMet Tryd.prog Rows.fnSealRow.laid W := h
  obtain ⟨name, u, ty, e1, e2, e3, e4, e5⟩ := h'.2 _ (List.mem_singleton.2 rfl)
  have en : name = [101, 114, 114, 111, 114] := (Option.some.inj e1).symm
  subst en
  obtain rfl := Option.some.inj (FnSeal_rt.symm.trans e2)
  have hm : ty ∈ (List.range 133).filter fun t => Tryd.prog.rowNamed t [101, 114, 114, 111, 114] := List.mem_filter.2 ⟨List.mem_range.2 (by rw [← FnSeal_size]; exact e3), e4⟩
  rw [FnSeal_oneRow] at hm
  obtain rfl := List.mem_singleton.1 hm
  have hh : typeHandle Tryd.prog 51 = .pointer (some ⟨1, 51, none⟩) := by kernel_rfl
  rw [hh] at e5
  unfold errCell
  simpa using World.var?_cell FnSeal_et e5 0
set_option maxRecDepth 100000 in
theorem FnSeal_lifted (os : Os) (started : os.Started) (H : Type) (enc : TypeId × Value → H) :
    ReturnsInHanded {} Tryd.checked os 4 .any (fun w args => (Rows.fnSealSpec.pre enc Tryd.prog Tryd.f4 [] false w args ∧ laidMetH Tryd.prog Rows.fnSealRow.laid w) ∧ sizedMet enc Tryd.prog Tryd.f4 (OpenSpec.ofChange Rows.fnSealSpec) false w args)
      (Rows.fnSealSpec.post enc Tryd.prog Tryd.f4 false true false false) := by
  refine returnsInHanded_of_change_and (C := Tryd.checked) (X := fun w _ => laidMetH Tryd.prog Rows.fnSealRow.laid w) (fun _ _ _ hh h => h.of_heap hh) (by kernel_rfl) started (by kernel_rfl) Tryd.func4
    (ChangeSpec.witness_at (enc := enc) (C := Tryd.checked) (os := os) (X := fun w _ => laidMetH Tryd.prog Rows.fnSealRow.laid w) false (let w0 := World.holding Tryd.prog os ⟨#[], #[], []⟩; { w0 with heap := w0.heap.modify 0 fun | .cells _ t frozen => .cells #[.iface 91 (.agg #[.pointer (some ⟨1, 51, none⟩)])] t frozen | o => o }) #[.slice none 0 0, .slice none 0 0] 8 rfl (by kernel_rfl) (by kernel_rfl) (by kernel_rfl) (by kernel_rfl) (by kernel_rfl) (laidMetH_of_parts (laidMet_nil _ _) (by kernel_rfl))) ?_
  intro W base args ds gs before hval0 hW _ _ hL _
  have hval : ∀ (j : Nat) t v, Tryd.f4.params[j]? = some t → args[j]? = some v → Value.okWide Tryd.prog W .any base t v := hval0
  have hW' := hW
  obtain ⟨p, q, hA0, hV0, rfl, hfz, hnd⟩ := hW
  have hA : DataW.TrodAll enc Tryd.prog W 0 (fun _ => true) true Tryd.f4.params.toList args.toList ds p := hA0
  have hV : DataW.TrodVars enc Tryd.prog W (fun _ => true) [] gs q := hV0
  rw [Tryd.params4] at hA hval
  obtain ⟨v0, vs0, d0, ds0, p0, q0, hargs, rfl, rfl, h0, r0⟩ := trodAll_cons hA
  obtain ⟨v1, vs1, d1, ds1, p1, q1, rfl, rfl, rfl, h1, r1⟩ := trodAll_cons r0
  obtain ⟨rfl, rfl, rfl⟩ := trodAll_nil r1
  obtain rfl : args = #[v0, v1] := by cases args; simp_all
  obtain ⟨rfl, rfl⟩ : gs = [] ∧ q = [] := by
    cases gs with
    | nil => exact ⟨rfl, hV⟩
    | cons g r => exact absurd hV (by intro h; cases h)
  obtain ⟨a0, len0, cap0, rfl⟩ := okWide_slice Tryd.underlying22 (hval 0 22 v0 rfl rfl)
  have k0 := h0
  have lt0 : ∀ x ∈ p0, x.block < W.heap.size := by obtain ⟨m, hm⟩ := k0; exact DataW.trod_lt m _ _ _ hm
  obtain ⟨z0, w0⟩ : ∃ zs, ByteRow W a0 len0 cap0 zs := by
    obtain ⟨fuel, hf⟩ := h0
    rcases open_ints Tryd.underlying22 Tryd.underlying5 (by kernel_rfl) hf with ⟨hcs, _⟩ | ⟨x, l, c, zs, hcs, _, hl, hm, hz, _, hcell, hwz⟩
    · simp [Value.cells] at hcs
      obtain ⟨rfl, rfl, rfl⟩ := hcs
      exact ⟨[], .inl rfl⟩
    · simp [Value.cells] at hcs
      obtain ⟨rfl, rfl, rfl⟩ := hcs
      exact ⟨zs, byteRow_of hl (by simpa using hz) hcell hwz⟩
  obtain ⟨a1, len1, cap1, rfl⟩ := okWide_slice Tryd.underlying22 (hval 1 22 v1 rfl rfl)
  have k1 := h1
  have lt1 : ∀ x ∈ p1, x.block < W.heap.size := by obtain ⟨m, hm⟩ := k1; exact DataW.trod_lt m _ _ _ hm
  obtain ⟨z1, w1⟩ : ∃ zs, ByteRow W a1 len1 cap1 zs := by
    obtain ⟨fuel, hf⟩ := h1
    rcases open_ints Tryd.underlying22 Tryd.underlying5 (by kernel_rfl) hf with ⟨hcs, _⟩ | ⟨x, l, c, zs, hcs, _, hl, hm, hz, _, hcell, hwz⟩
    · simp [Value.cells] at hcs
      obtain ⟨rfl, rfl, rfl⟩ := hcs
      exact ⟨[], .inl rfl⟩
    · simp [Value.cells] at hcs
      obtain ⟨rfl, rfl, rfl⟩ := hcs
      exact ⟨zs, byteRow_of hl (by simpa using hz) hcell hwz⟩
  clear hA0 hval0
  refine (FnSeal_walk a0 len0 cap0 z0 a1 len1 cap1 z1 W w0 w1 (FnSeal_cell hL)).mono fun e W' ⟨he, bel⟩ => ?_
  subst he
  exact ⟨_, rfl, _, _, _, [], _, [], hW', trodAll_mk1 (shut_bool Tryd.underlying4 _), (trodAll_cons_mk (Below.trod (show laidOutB Tryd.prog = true by kernel_rfl) (by kernel_rfl) (of_decide_eq_true (by kernel_rfl)) k0 bel lt0) (trodAll_cons_mk (Below.trod (show laidOutB Tryd.prog = true by kernel_rfl) (by kernel_rfl) (of_decide_eq_true (by kernel_rfl)) k1 bel lt1) trodAll_mk0)), rfl, bel.frame _, fun h => by cases h⟩
theorem FnSeal_row : Rows.FnSealSaid :=
  OpenClaim.holds_of_wide 4 Tryd.f4 rfl rfl rfl rfl rfl rfl rfl ⟨rfl, rfl, rfl, rfl, rfl⟩ rfl rfl rfl rfl rfl (by kernel_rfl) Tryd.func4 (by kernel_rfl)
    (of_decide_eq_true (by kernel_rfl)) (by unfold Func.isWrapper; rw [if_neg (of_decide_eq_false (by kernel_rfl))]; exact ⟨rfl, rfl⟩)
    (fun os started H enc _ => FnSeal_lifted os started H enc)
/-- The statement. -/
theorem FnSeal_holds : Rows.FnSealCardSaid :=
  Claim7.holds_tied_plain_at .later [] [.handle] true _ true
    FnSeal_row (fun _ h => by cases h) (by kernel_rfl) (fun _ h => by cases h) fnSeal_row_tie rfl ⟨rfl, rfl⟩ (by kernel_rfl) rfl
    (fun f fn hf hfn => by
      obtain rfl : f = 4 := Option.some.inj ((show Tryd.prog.funcNamed Rows.fnSealRow.func = some 4 by kernel_rfl).symm.trans hf) |>.symm
      obtain rfl : fn = Tryd.f4 := (Option.some.inj (Tryd.func4.symm.trans hfn)).symm
      exact ⟨by kernel_rfl, fun j t ht => by
        rw [Tryd.params4] at ht
        rcases j with _ | j
        · obtain rfl : t = 22 := by simpa using ht.symm
          exact (show Tryd.prog.wantsStandIn 22 = false by kernel_rfl)
        rcases j with _ | j
        · obtain rfl : t = 22 := by simpa using ht.symm
          exact (show Tryd.prog.wantsStandIn 22 = false by kernel_rfl)
        simp at ht⟩)
    (by kernel_rfl)
#print axioms FnSeal_holds
end Go.Proofs.YtgngegammingoaaDoor
