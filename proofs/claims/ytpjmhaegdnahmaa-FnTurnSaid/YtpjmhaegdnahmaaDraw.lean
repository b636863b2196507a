/- The contracts of the draws' source: what it tells is within its bounds; it writes its own block alone. -/
import Derived.Test.YtpjmhaegdnahmaaChecked
import Derived.Test.YtpjmhaegdnahmaaPlain1
import Derived.WalkKit
import Derived.WalkLawsBesides
import Derived.WalkSpells
import Derived.BigRegion
import Derived.ChangeAlike
import Derived.Deep.DeepCutAuto
import Derived.OpenShut
import Derived.Deep.OwnRows
namespace Go.Proofs.Ytpjmhaegdnahmaa
open Go Go.RowKit
set_option linter.unusedVariables false

/-- What the walk is told of a slice of bytes that came in. -/
def ByteRow (w : World) (a : Option Addr) (len cap : Nat) (zs : List Int) : Prop :=
  len = 0 ∨ ∃ x : Addr, a = some x ∧ x.spot = none ∧ x.block < w.heap.size ∧ len ≤ zs.length ∧ (∀ i, i < zs.length → w.cell? ⟨x.block, x.off + i, none⟩ = some (.int .u8 (zs.getD i 0))) ∧ ∀ n ∈ zs, 0 ≤ n ∧ n < 256
/-- A source at block b over such a slice. -/
def SrcIs (w : World) (b : Nat) (a : Option Addr) (len cap : Nat) (at0 m sz : Int) : Prop :=
  w.cell? ⟨b, 0, none⟩ = some (.slice a len cap) ∧ w.cell? ⟨b, 1, none⟩ = some (.int .i64 at0) ∧ w.cell? ⟨b, 2, none⟩ = some (.int .u64 m) ∧ w.cell? ⟨b, 3, none⟩ = some (.int .i64 sz) ∧
    (∀ j, w.frozen? ⟨b, j, none⟩ = false) ∧ 0 ≤ at0 ∧ at0 ≤ len ∧ 0 ≤ m ∧ m < 18446744073709551616 ∧ 0 ≤ sz ∧ sz ≤ 12
def Src (w : World) (b : Nat) (a : Option Addr) (len cap : Nat) (zs : List Int) : Prop :=
  len ≤ 1048576 ∧ ByteRow w a len cap zs ∧ (0 < len → ∀ x, a = some x → x.block ≠ b) ∧ ∃ at0 m sz, SrcIs w b a len cap at0 m sz

theorem grown_trans {w w1 w2 : World} {b : Nat} (h : w.grownBy w1 (some b)) (k : w1.grownBy w2 (some b)) : w.grownBy w2 (some b) :=
  ⟨k.os.trans h.os, k.tape.trans h.tape, k.output.trans h.output, Nat.le_trans h.size k.size, fun i hi hne => (k.block i (Nat.lt_of_lt_of_le hi h.size) hne).trans (h.block i hi hne)⟩
theorem grown_set (w : World) (b i : Nat) (v : Value) : w.grownBy (w.setCell ⟨b, i, none⟩ v) (some b) :=
  ⟨rfl, rfl, rfl, by simp [World.setCell], fun k _ hk => Below.heap_setCell _ _ _ _ (fun e => hk (by simp [e]))⟩
theorem grown_drew {w w1 : World} {r : Option Nat} (h : w.grownBy w1 r) : w.grownBy w1.drew r := ⟨h.os, h.tape, h.output, h.size, h.block⟩
theorem SrcIs.drew {w : World} {b : Nat} {a : Option Addr} {len cap : Nat} {at0 m sz : Int} (h : SrcIs w b a len cap at0 m sz) : SrcIs w.drew b a len cap at0 m sz := h
theorem cell_set_other {w : World} {b i j : Nat} {v u : Value} (h : w.cell? ⟨b, i, none⟩ = some u) (hne : i ≠ j) : (w.setCell ⟨b, j, none⟩ v).cell? ⟨b, i, none⟩ = some u := by
  rw [World.cell?_setCell_other _ _ _ _ (fun e => hne (by have := congrArg Addr.off e; simpa using this.symm))]; exact h
theorem SrcIs.mix {w : World} {b : Nat} {a : Option Addr} {len cap : Nat} {at0 m sz : Int} (h : SrcIs w b a len cap at0 m sz) (m' : Int) (h1 : 0 ≤ m') (h2 : m' < 18446744073709551616) :
    SrcIs (w.setCell ⟨b, 2, none⟩ (.int .u64 m')) b a len cap at0 m' sz := by
  obtain ⟨c0, c1, c2, c3, hf, b1, b2, b3, b4, b5, b6⟩ := h
  exact ⟨cell_set_other c0 (by omega), cell_set_other c1 (by omega), World.cell?_setCell_same' _ _ _ (by rw [c2]; rfl), cell_set_other c3 (by omega), fun j => by rw [World.frozen?_setCell]; exact hf j, b1, b2, h1, h2, b5, b6⟩
theorem SrcIs.move {w : World} {b : Nat} {a : Option Addr} {len cap : Nat} {at0 m sz : Int} (h : SrcIs w b a len cap at0 m sz) (at1 : Int) (h1 : 0 ≤ at1) (h2 : at1 ≤ len) :
    SrcIs (w.setCell ⟨b, 1, none⟩ (.int .i64 at1)) b a len cap at1 m sz := by
  obtain ⟨c0, c1, c2, c3, hf, b1, b2, b3, b4, b5, b6⟩ := h
  exact ⟨cell_set_other c0 (by omega), World.cell?_setCell_same' _ _ _ (by rw [c1]; rfl), cell_set_other c2 (by omega), cell_set_other c3 (by omega), fun j => by rw [World.frozen?_setCell]; exact hf j, h1, h2, b3, b4, b5, b6⟩
theorem bits_u64 (op : BinOp) (x y : Int) : 0 ≤ bits op .u64 x y ∧ bits op .u64 x y < 18446744073709551616 := by
  have := wf_bits op .u64 x y
  simp [Lit.wf, IntKind.min, IntKind.max, IntKind.bits, IntKind.signed] at this; omega
theorem n_bound {y most : Int} (h : 1 < most) (hm : most ≤ 9223372036854775807) : 0 ≤ wrap64 (y % most) ∧ wrap64 (y % most) < most := by
  have h1 := Int.emod_nonneg y (show most ≠ 0 by omega)
  have h2 := Int.emod_lt_of_pos y (show 0 < most by omega)
  unfold wrap64; omega
theorem ByteRow.kept {w w' : World} {a : Option Addr} {len cap b : Nat} {zs : List Int} (h : ByteRow w a len cap zs) (hne : 0 < len → ∀ x, a = some x → x.block ≠ b) (hg : w.grownBy w' (some b)) : ByteRow w' a len cap zs := by
  rcases h with h | ⟨x, rfl, e, hlt, hl, hc, hz⟩
  · exact .inl h
  · by_cases h0 : len = 0
    · exact .inl h0
    refine .inr ⟨x, rfl, e, Nat.lt_of_lt_of_le hlt hg.size, hl, fun i hi => ?_, hz⟩
    exact hg.cell (hc i hi) (by simpa using hne (by omega) x rfl)

set_option maxHeartbeats 2000000 in
set_option maxRecDepth 100000 in
theorem n_any (b : Nat) (a : Option Addr) (len cap : Nat) (zs : List Int) (most : Int) (hm : most ≤ 9223372036854775807) (w : World) (hs : Src w b a len cap zs) :
    Calls Try.prog 36 #[.pointer (some ⟨b, 0, none⟩), .int .i64 most] w fun e w' =>
      ∃ r : Int, e = .returned (.int .i64 r) ∧ (most ≤ 1 → r = 0) ∧ (1 < most → 0 ≤ r ∧ r < most) ∧ Src w' b a len cap zs ∧ w.grownBy w' (some b) := by
  by_cases h1 : most ≤ 1
  · go_enter Try.func36, Try.ntmps36
    go_wp2
    go_ret
    exact ⟨0, rfl, fun _ => rfl, fun h => absurd h (by omega), hs, World.grownBy.refl _ _⟩
  obtain ⟨hl, hrow, hne, at0, m, sz, hsrc⟩ := hs
  have HS : Hid (SrcIs w b a len cap at0 m sz) := hsrc
  obtain ⟨c0, c1, c2, c3, hf, b1, b2, b3, b4, b5, b6⟩ := hsrc
  have f0 := hf 0
  have f1 := hf 1
  have f2 := hf 2
  clear hf
  go_enter Try.func36, Try.ntmps36
  go_upto_region 4 with fail
  go_region
  go_upto_if 17 with fail
  go_cut [5] (fun v wc => ∃ at1 x : Int, v = .int .u64 x ∧ 0 ≤ x ∧ x < 256 ∧ SrcIs wc b a len cap at1 m sz ∧ w.grownBy wc (some b))
  case first =>
    by_cases h2 : at0 < len
    · rcases hrow with h0 | ⟨⟨xb, xo, xs⟩, rfl, e, hlt, hlz, hc, hz⟩
      · omega
      subst e
      obtain ⟨k, rfl⟩ := Int.eq_ofNat_of_zero_le b1
      have hk : k < zs.length := by omega
      have hck := hc k hk
      have hzk : 0 ≤ zs.getD k 0 ∧ zs.getD k 0 < 256 := by
        have hm : zs.getD k 0 ∈ zs := by rw [List.getD_eq_getElem?_getD, List.getElem?_eq_getElem hk]; simp
        exact hz _ hm
      obtain ⟨z, hz0⟩ : ∃ z, zs.getD k 0 = z := ⟨_, rfl⟩
      rw [hz0] at hck hzk
      simp only at hck hlt
      have hx1 := hne (by omega) _ rfl
      clear hc hz hz0 hlz hne
      go_wp2
      go_region
      go_wp2
      go_meet
      case rel => exact ⟨(k : Int) + 1, z, rfl, hzk.1, hzk.2, ((HS.out.move _ (by omega) (by omega)).drew).drew, grown_drew (grown_drew (grown_set _ _ _ _))⟩
    · have h2' : decide (at0 < (len : Int)) = false := by simp; omega
      go_wp2
      go_meet
      case rel => exact ⟨at0, 0, rfl, by omega, by omega, HS.out.drew, grown_drew (World.grownBy.refl _ _)⟩
  case rest =>
    obtain ⟨at1, x, rfl, hx0, hx1, hs1, hg1⟩ := hcut
    clear HS c0 c1 c2 c3 b1 b2 b3 b4 b5 b6 f0 f1 f2
    go_upto_region 7 with fail
    go_cut [] (fun wc => ∃ m', SrcIs wc b a len cap at1 m' sz ∧ w.grownBy wc (some b))
    case first =>
      have HS : Hid (SrcIs wc b a len cap at1 m sz) := hs1
      obtain ⟨c0, c1, c2, c3, hf, b1, b2, b3, b4, b5, b6⟩ := hs1
      have f2 := hf 2
      clear hf
      go_region
      go_wp2
      go_meet
      case rel => exact ⟨_, ((HS.out.mix _ (bits_u64 _ _ _).1 (bits_u64 _ _ _).2)).drew, grown_drew (grown_trans hg1 (grown_set _ _ _ _))⟩
    case rest =>
    clear hs1 hg1
    obtain ⟨m, hs1, hg1⟩ := hcut
    go_upto_region 8 with fail
    go_cut [] (fun wc => ∃ m', SrcIs wc b a len cap at1 m' sz ∧ w.grownBy wc (some b))
    case first =>
      have HS : Hid (SrcIs wc b a len cap at1 m sz) := hs1
      obtain ⟨c0, c1, c2, c3, hf, b1, b2, b3, b4, b5, b6⟩ := hs1
      have f2 := hf 2
      clear hf
      go_region
      go_wp2
      go_meet
      case rel => exact ⟨_, ((HS.out.mix _ (bits_u64 _ _ _).1 (bits_u64 _ _ _).2)).drew, grown_drew (grown_trans hg1 (grown_set _ _ _ _))⟩
    case rest =>
    clear hs1 hg1
    obtain ⟨m, hs1, hg1⟩ := hcut
    go_upto_region 9 with fail
    go_cut [] (fun wc => ∃ m', SrcIs wc b a len cap at1 m' sz ∧ w.grownBy wc (some b))
    case first =>
      have HS : Hid (SrcIs wc b a len cap at1 m sz) := hs1
      obtain ⟨c0, c1, c2, c3, hf, b1, b2, b3, b4, b5, b6⟩ := hs1
      have f2 := hf 2
      clear hf
      go_region
      go_wp2
      go_meet
      case rel => exact ⟨_, ((HS.out.mix _ (bits_u64 _ _ _).1 (bits_u64 _ _ _).2)).drew, grown_drew (grown_trans hg1 (grown_set _ _ _ _))⟩
    case rest =>
    clear hs1 hg1
    obtain ⟨m, hs1, hg1⟩ := hcut
    have HS : Hid (SrcIs wc b a len cap at1 m sz) := hs1
    obtain ⟨c0, c1, c2, c3, hf, b1, b2, b3, b4, b5, b6⟩ := hs1
    go_wp2
    go_ret
    exact ⟨_, rfl, fun h => absurd h (by omega), n_bound (by omega) hm, ⟨hl, hrow.kept hne hg1, hne, at1, m, sz, HS.out⟩, hg1⟩

theorem one_any (b : Nat) (a : Option Addr) (len cap : Nat) (zs : List Int) (most : Int) (hm : most ≤ 9223372036854775807) (w : World) (hs : Src w b a len cap zs) :
    Calls Try.prog 34 #[.pointer (some ⟨b, 0, none⟩), .int .i64 most] w fun e w' =>
      ∃ r : Bool, e = .returned (.bool r) ∧ Src w' b a len cap zs ∧ w.grownBy w' (some b) := by
  go_enter Try.func34, Try.ntmps34
  go_wp2_with (go_at_call 36; refine (n_any b a len cap zs most hm _ hs).mono ?_; rintro e w1 ⟨r, rfl, _, _, hs1, hg1⟩)
  go_ret
  exact ⟨_, rfl, hs1, hg1⟩

theorem grown_own {w w1 w2 : World} {b : Nat} {row : Option Nat} (h : w.grownBy w1 (some b)) (k : w1.grownBy w2 row) (hr : ∀ g, row = some g → w.heap.size ≤ g) : w.grownBy w2 (some b) :=
  ⟨k.os.trans h.os, k.tape.trans h.tape, k.output.trans h.output, Nat.le_trans h.size k.size, fun i hi hne => (k.block i (Nat.lt_of_lt_of_le hi h.size) (fun e => by have := hr i e.symm; omega)).trans (h.block i hi hne)⟩
theorem grown_alloc {w w1 : World} {b : Nat} (h : w.grownBy w1 (some b)) (o : Obj) : w.grownBy (w1.alloc o) (some b) := grown_trans h (World.grownBy_alloc w1 o (some b))
theorem Src.lt {w : World} {b : Nat} {a : Option Addr} {len cap : Nat} {zs : List Int} (h : Src w b a len cap zs) : b < w.heap.size := by
  obtain ⟨_, _, _, at0, m, sz, c0, _⟩ := h
  rcases Nat.lt_or_ge b w.heap.size with k | k
  · exact k
  · simp [World.cell?, Array.getElem?_eq_none k] at c0
theorem Src.row_lt {w : World} {b : Nat} {a : Option Addr} {len cap : Nat} {zs : List Int} (h : Src w b a len cap zs) : 0 < len → ∀ x, a = some x → x.block < w.heap.size := by
  rintro h0 x rfl
  obtain ⟨_, hr, _⟩ := h
  rcases hr with e | ⟨y, e, _, hlt, _⟩
  · omega
  · obtain rfl := Option.some.inj e; exact hlt
/-- The source stays where nothing below B has turned. -/
theorem Src.keep {w w' : World} {B b : Nat} {a : Option Addr} {len cap : Nat} {zs : List Int} (h : Src w b a len cap zs) (hb : Below B w w') (h1 : b < B) (h2 : 0 < len → ∀ x, a = some x → x.block < B) : Src w' b a len cap zs := by
  obtain ⟨hl, hr, hne, at0, m, sz, c0, c1, c2, c3, hf, rest⟩ := h
  refine ⟨hl, ?_, hne, at0, m, sz, (hb.cell (p := ⟨b, 0, none⟩) h1).trans c0, (hb.cell (p := ⟨b, 1, none⟩) h1).trans c1, (hb.cell (p := ⟨b, 2, none⟩) h1).trans c2, (hb.cell (p := ⟨b, 3, none⟩) h1).trans c3, fun j => (hb.frozen (p := ⟨b, j, none⟩) h1).trans (hf j), rest⟩
  rcases hr with h0 | ⟨x, rfl, e, hlt, hlz, hc, hz⟩
  · exact .inl h0
  · by_cases h0 : len = 0
    · exact .inl h0
    exact .inr ⟨x, rfl, e, Nat.lt_of_lt_of_le hlt hb.size, hlz, fun i hi => (hb.cell (p := ⟨x.block, x.off + i, none⟩) (h2 (by omega) x rfl)).trans (hc i hi), hz⟩
theorem Src.alloc {w : World} {b : Nat} {a : Option Addr} {len cap : Nat} {zs : List Int} (h : Src w b a len cap zs) (o : Obj) : Src (w.alloc o) b a len cap zs :=
  h.keep ((Below.refl w.heap.size w).alloc (Nat.le_refl _) o) h.lt h.row_lt

/-- The numbers at some limit. -/
def edges : List Int := [0, 1, -1, 2, 1000, 1001, 2147483648, 2147483647, -2147483648, 4611686018427387904, 9223372036854775807, -9223372036854775808, 1000000, 1000001]
theorem edges_wf : ∀ n ∈ edges, (Lit.int .i64 n).wf = true := by decide
def edgeCells : Array Value := #[.int .i64 0, .int .i64 1, .int .i64 (-1), .int .i64 2, .int .i64 1000, .int .i64 1001, .int .i64 2147483648, .int .i64 2147483647, .int .i64 (-2147483648), .int .i64 4611686018427387904, .int .i64 9223372036854775807, .int .i64 (-9223372036854775808), .int .i64 1000000, .int .i64 1000001]
theorem edgeCells_at (q : Nat) (h : q < 14) : ∃ v, edgeCells[q]? = some (.int .i64 v) ∧ (Lit.int .i64 v).wf = true := by
  have hl : edges.length = 14 := rfl
  refine ⟨edges[q], ?_, edges_wf _ (List.getElem_mem _)⟩
  have e : edgeCells = (edges.map (Value.int .i64)).toArray := rfl
  rw [e, List.getElem?_toArray, List.getElem?_map, List.getElem?_eq_getElem (by omega)]
  rfl
theorem edge_any (b : Nat) (a : Option Addr) (len cap : Nat) (zs : List Int) (w : World) (hs : Src w b a len cap zs) :
    Calls Try.prog 35 #[.pointer (some ⟨b, 0, none⟩)] w fun e w' =>
      ∃ r : Int, e = .returned (.int .i64 r) ∧ (Lit.int .i64 r).wf = true ∧ Src w' b a len cap zs ∧ w.grownBy w' (some b) := by
  have hs0 := hs.alloc (.cells edgeCells 2)
  have hb := hs.lt
  have hg0 := World.grownBy_alloc w (.cells edgeCells 2) (some b)
  go_enter Try.func35, Try.ntmps35
  go_wp2_with fail
  refine (n_any b a len cap zs 14 (by omega) _ hs0).mono ?_
  rintro e w1 ⟨r, rfl, _, hr, hs1, hg1⟩
  obtain ⟨q, rfl⟩ := Int.eq_ofNat_of_zero_le (hr (by omega)).1
  have hq : q < 14 := by have := (hr (by omega)).2; omega
  obtain ⟨v, hv, hw⟩ := edgeCells_at q hq
  have hcv : w1.cell? ⟨w.heap.size, q, none⟩ = some (.int .i64 v) := hg1.cell (by rw [World.cell?_alloc_at _ _ _ _ rfl]; exact hv) (by simp; omega)
  have hg2 := grown_trans hg0 hg1
  have hq' : (q : Int) < 14 := by omega
  clear hs0 hg0 hg1 hr hv hq
  go_wp2
  go_ret
  exact ⟨v, rfl, hw, hs1, hg2⟩


theorem SrcIs.resize {w : World} {b : Nat} {a : Option Addr} {len cap : Nat} {at0 m sz : Int} (h : SrcIs w b a len cap at0 m sz) (sz' : Int) (h1 : 0 ≤ sz') (h2 : sz' ≤ 12) :
    SrcIs (w.setCell ⟨b, 3, none⟩ (.int .i64 sz')) b a len cap at0 m sz' := by
  obtain ⟨c0, c1, c2, c3, hf, b1, b2, b3, b4, b5, b6⟩ := h
  exact ⟨cell_set_other c0 (by omega), cell_set_other c1 (by omega), cell_set_other c2 (by omega), World.cell?_setCell_same' _ _ _ (by rw [c3]; rfl), fun j => by rw [World.frozen?_setCell]; exact hf j, b1, b2, b3, b4, h1, h2⟩
theorem ByteRow.below {w w' : World} {a : Option Addr} {len cap : Nat} {zs : List Int} (h : ByteRow w a len cap zs) (hb : Below w.heap.size w w') : ByteRow w' a len cap zs := by
  rcases h with h | ⟨x, rfl, e, hlt, hl, hc, hz⟩
  · exact .inl h
  · exact .inr ⟨x, rfl, e, Nat.lt_of_lt_of_le hlt hb.size, hl, fun i hi => (hb.cell (p := ⟨x.block, x.off + i, none⟩) hlt).trans (hc i hi), hz⟩
theorem ByteRow.block_lt {w : World} {a : Option Addr} {len cap : Nat} {zs : List Int} (h : ByteRow w a len cap zs) : 0 < len → ∀ x, a = some x → x.block < w.heap.size := by
  rintro h0 x rfl
  rcases h with e | ⟨y, e, _, hlt, _⟩
  · omega
  · obtain rfl := Option.some.inj e; exact hlt
theorem wrap_u64_bd (x : Int) : 0 ≤ IntKind.u64.wrap x ∧ IntKind.u64.wrap x < 18446744073709551616 := by rw [IntKind.wrap_u64]; omega

theorem ByteRow.set {w : World} {a : Option Addr} {len cap b i : Nat} {zs : List Int} {v : Value} (h : ByteRow w a len cap zs) (hne : 0 < len → ∀ x, a = some x → x.block ≠ b) : ByteRow (w.setCell ⟨b, i, none⟩ v) a len cap zs :=
  h.kept hne (grown_set w b i v)
theorem src_end1 {w wr : World} {a : Option Addr} {len cap : Nat} {zs : List Int} {m : Int} (h : SrcIs wr w.heap.size a len cap 0 m 0) (hl : len ≤ 1048576) (hr : ByteRow wr a len cap zs) (hn : 0 < len → ∀ x, a = some x → x.block ≠ w.heap.size) (hb : Below w.heap.size w wr)
    (s : Int) (h1 : 0 ≤ s) (h2 : s ≤ 12) : Src (wr.setCell ⟨w.heap.size, 3, none⟩ (.int .i64 s)) w.heap.size a len cap zs :=
  ⟨hl, hr.set hn, hn, 0, m, s, h.resize s h1 h2⟩
theorem SrcIs.any3 {w : World} {b : Nat} {a : Option Addr} {len cap : Nat} {at0 m sz x s : Int} (h : SrcIs w b a len cap at0 m sz) (h1 : 0 ≤ s) (h2 : s ≤ 12) :
    SrcIs ((w.setCell ⟨b, 3, none⟩ (.int .i64 x)).setCell ⟨b, 3, none⟩ (.int .i64 s)) b a len cap at0 m s := by
  obtain ⟨c0, c1, c2, c3, hf, b1, b2, b3, b4, b5, b6⟩ := h
  have c3' : (w.setCell ⟨b, 3, none⟩ (.int .i64 x)).cell? ⟨b, 3, none⟩ = some (.int .i64 x) := World.cell?_setCell_same' _ _ _ (by rw [c3]; rfl)
  exact ⟨cell_set_other (cell_set_other c0 (by omega)) (by omega), cell_set_other (cell_set_other c1 (by omega)) (by omega), cell_set_other (cell_set_other c2 (by omega)) (by omega), World.cell?_setCell_same' _ _ _ (by rw [c3']; rfl), fun j => by rw [World.frozen?_setCell, World.frozen?_setCell]; exact hf j, b1, b2, b3, b4, h1, h2⟩
theorem src_end {w wr : World} {a : Option Addr} {len cap : Nat} {zs : List Int} {m x : Int} (h : SrcIs wr w.heap.size a len cap 0 m 0) (hl : len ≤ 1048576) (hr : ByteRow wr a len cap zs) (hn : 0 < len → ∀ x, a = some x → x.block ≠ w.heap.size) (hb : Below w.heap.size w wr)
    (s : Int) (h1 : 0 ≤ s) (h2 : s ≤ 12) : Src ((wr.setCell ⟨w.heap.size, 3, none⟩ (.int .i64 x)).setCell ⟨w.heap.size, 3, none⟩ (.int .i64 s)) w.heap.size a len cap zs :=
  ⟨hl, (hr.set hn).set hn, hn, 0, m, s, h.any3 h1 h2⟩

set_option maxHeartbeats 1000000 in
set_option maxRecDepth 100000 in
theorem source_any (a : Option Addr) (len cap : Nat) (zs : List Int) (w : World) (hl : len ≤ 1048576) (hrow : ByteRow w a len cap zs) :
    Calls Try.prog 31 #[.slice a len cap] w fun e w' => e = .returned (.pointer (some ⟨w.heap.size, 0, none⟩)) ∧ Src w' w.heap.size a len cap zs ∧ Below w.heap.size w w' := by
  go_enter Try.func31, Try.ntmps31
  go_wp2
  go_loopw [4] (fun i wr => ∃ (k : Nat) (m : Int), k ≤ len ∧ i = .int .i64 k ∧ SrcIs wr w.heap.size a len cap 0 m 0 ∧ Below w.heap.size w wr) (fun i _ => len - (intOf i).toNat)
  case atStart =>
    refine ⟨0, 88172645463325252, Nat.zero_le _, rfl, ⟨?_, ?_, ?_, ?_, fun j => by simp, by omega, by omega, by omega, by omega, by omega, by omega⟩, (Below.refl _ _).alloc (Nat.le_refl _) _⟩
    · rw [World.cell?_alloc_at _ _ _ _ rfl]; rfl
    · rw [World.cell?_alloc_at _ _ _ _ rfl]; rfl
    · rw [World.cell?_alloc_at _ _ _ _ rfl]; rfl
    · rw [World.cell?_alloc_at _ _ _ _ rfl]; rfl
  case round =>
    obtain ⟨k, m, hk, rfl, hsrc, hnx⟩ := hrel
    have HS : Hid (SrcIs wr w.heap.size a len cap 0 m 0) := hsrc
    obtain ⟨c0, c1, c2, c3, hf, b1, b2, b3, b4, b5, b6⟩ := hsrc
    have f2 := hf 2
    have f3 := hf 3
    clear hf
    by_cases h1 : k < len ∧ k < 64
    · obtain ⟨h1, h2⟩ := h1
      have hrow' := hrow.below hnx
      rcases hrow' with h0 | ⟨⟨xb, xo, xs⟩, rfl, e, hlt, hlz, hc, hz⟩
      · omega
      subst e
      have hck := hc k (by omega)
      simp only at hck hlt
      obtain ⟨z, hz0⟩ : ∃ z, zs.getD k 0 = z := ⟨_, rfl⟩
      rw [hz0] at hck
      have hxw := hrow.block_lt (by omega) _ rfl
      simp only at hxw
      clear hc hz hz0 hlz
      go_wp2
      go_region
      go_wp2
      go_roundw
      case rel => exact ⟨k + 1, _, by omega, by go_num, (HS.out.mix _ (wrap_u64_bd _).1 (wrap_u64_bd _).2).drew, (hnx.setCell (Nat.le_refl _) _).drew⟩
      case measure => simp [intOf]; omega
    · have h3 : len ≤ k ∨ 64 ≤ k := by omega
      have hne : 0 < len → ∀ x, a = some x → x.block ≠ w.heap.size := fun h0 x hx => by have := hrow.block_lt h0 x hx; omega
      have hrow' := hrow.below hnx
      have HR : Hid (ByteRow wr a len cap zs) := hrow'
      have HN : Hid (0 < len → ∀ x, a = some x → x.block ≠ w.heap.size) := hne
      have HB : Hid (Below w.heap.size w wr) := hnx
      clear h1 hrow' hne hrow hnx
      by_cases h5 : 12 < (len : Int) / 20
      all_goals by_cases h4 : len ≤ k
      · go_wp2
        go_ret
        exact ⟨rfl, src_end HS.out hl HR.out HN.out HB.out 12 (by omega) (by omega), (HB.out.setCell (Nat.le_refl _) _).setCell (Nat.le_refl _) _⟩
      · have h6 : 64 ≤ k := by omega
        go_wp2
        go_ret
        exact ⟨rfl, src_end HS.out hl HR.out HN.out HB.out 12 (by omega) (by omega), (HB.out.setCell (Nat.le_refl _) _).setCell (Nat.le_refl _) _⟩
      · go_wp2
        go_ret
        exact ⟨rfl, src_end1 HS.out hl HR.out HN.out HB.out _ (by omega) (by omega), HB.out.setCell (Nat.le_refl _) _⟩
      · have h6 : 64 ≤ k := by omega
        go_wp2
        go_ret
        exact ⟨rfl, src_end1 HS.out hl HR.out HN.out HB.out _ (by omega) (by omega), HB.out.setCell (Nat.le_refl _) _⟩
/-- Of a right slice of bytes. -/
theorem byteRow_of {w : World} {x : Addr} {l c : Nat} {zs : List Int} (hl : l ≤ c) (hz : zs.length = c) (hcell : ∀ i, i < zs.length → w.cell? (x.add i) = some (.int .u8 (zs.getD i 0))) (hwz : ∀ n ∈ zs, (Lit.int .u8 n).wf = true) : ByteRow w (some x) l c zs := by
  by_cases h0 : l = 0
  · exact .inl h0
  obtain ⟨b, off, spot⟩ := x
  have hc := hcell 0 (by omega)
  have hspot : spot = none := by simpa [Addr.add] using World.cell?_spot hc
  subst hspot
  have hc0 : w.cell? ⟨b, off, none⟩ = some (.int .u8 (zs.getD 0 0)) := by simpa [Addr.add] using hc
  have hb : b < w.heap.size := by
    rcases Nat.lt_or_ge b w.heap.size with k | k
    · exact k
    · simp [World.cell?, Array.getElem?_eq_none k] at hc0
  refine .inr ⟨⟨b, off, none⟩, rfl, rfl, hb, by omega, fun i hi => ?_, fun n hn => ?_⟩
  · have := hcell i hi
    by_cases e0 : i = 0
    · subst e0; simpa [Addr.add] using this
    · simpa [Addr.add, e0] using this
  · have := hwz n hn
    simp [Lit.wf, IntKind.min, IntKind.max, IntKind.bits, IntKind.signed] at this; omega
end Go.Proofs.Ytpjmhaegdnahmaa
