/- The contracts of PlanRight, the program's and the specification's. -/
import Derived.Test.YtddlccepgeekcaaDoorIRightI
import Derived.Test.YtddlccepgeekcaaDoorIRightS
namespace Go.Proofs.YtddlccepgeekcaaDoor
open Go Go.RowKit
set_option linter.unusedVariables false
set_option linter.unusedSimpArgs false

/-- So deep at a place, all ahead of it being right. -/
def DeepAt (l : List ItemV) (k : Nat) (d : Int) : Prop := (planFrom 0 l ↔ planFrom d (l.drop k)) ∧ 0 ≤ d ∧ d ≤ 3
theorem DeepAt.zero (l : List ItemV) : DeepAt l 0 0 := ⟨Iff.rfl, by omega, by omega⟩
theorem DeepAt.step {l : List ItemV} {k : Nat} {d : Int} (h : DeepAt l k d) (hk : k < l.length) {x : ItemV} (hx : l[k] = x) : (planFrom 0 l ↔ x.ok ∧ upR (x.deep d) 3 ∧ planFrom (x.deep d) (l.drop (k + 1))) := by
  rw [h.1, List.drop_eq_getElem_cons hk, hx]
  unfold upR
  show _ ∧ _ ∧ _ ∧ _ ↔ _
  exact ⟨fun ⟨a, b, c, d⟩ => ⟨a, ⟨b, c⟩, d⟩, fun ⟨a, ⟨b, c⟩, d⟩ => ⟨a, b, c, d⟩⟩
theorem DeepAt.done {l : List ItemV} {d : Int} (h : DeepAt l l.length d) : (planFrom 0 l ↔ d = 0) := by
  rw [h.1, List.drop_length]
  exact Iff.rfl
set_option maxHeartbeats 2000000 in
set_option maxRecDepth 100000 in
theorem implPRight_any (a : Option Addr) (cap : Nat) (l : List ItemV) (w : World) (hl : l.length ≤ 1048576) (hrow : CellRow w a (cellsOf ItemV.cells l)) :
    Calls Tryd.prog 12 #[.slice a l.length cap] w fun e w' => Tells (planR l) e ∧ Below w.heap.size w w' := by
  by_cases h40 : 40 < (l.length : Int)
  · have HN : Hid (¬ planR l) := fun h => by have := h.1; omega
    go_enter Tryd.func12, Tryd.ntmps12
    go_wp2
    go_ret
    exact ⟨.no HN.out, Below.refl _ _⟩
  have HP : Hid (planR l ↔ planFrom 0 l) := ⟨fun h => h.2, fun h => ⟨by omega, h⟩⟩
  have hl40 : l.length ≤ 40 := by omega
  go_enter Tryd.func12, Tryd.ntmps12
  go_wp2
  go_loopw [11, 3] (fun i v wr => ∃ (k : Nat) (d : Int), k ≤ l.length ∧ i = .int .i64 k ∧ v = .int .i64 d ∧ DeepAt l k d ∧ Below w.heap.size w wr) (fun i _ _ => l.length - (intOf i).toNat)
  case atStart => exact ⟨0, 0, Nat.zero_le _, rfl, rfl, DeepAt.zero l, Below.refl _ _⟩
  case round =>
    obtain ⟨k, d, hk, rfl, rfl, hd, hb⟩ := hrel
    have HD : Hid (DeepAt l k d) := hd
    have hd0 : 0 ≤ d := hd.2.1
    have hd3 : d ≤ 3 := hd.2.2
    clear hd h40
    by_cases hk2 : k < l.length
    · obtain ⟨b, off, rfl⟩ := hrow.addr (by rw [cellsOf_length ItemV.cells_len]; omega)
      obtain ⟨x, hlx⟩ : ∃ x, l[k] = x := ⟨_, rfl⟩
      have d0 := (hrow.keep hb).item hk2 hlx
      have HS : Hid (planFrom 0 l ↔ x.ok ∧ upR (x.deep d) 3 ∧ planFrom (x.deep d) (l.drop (k + 1))) := HD.out.step hk2 hlx
      have hnear := ItemV.deep_near (x := x) (d := d)
      obtain ⟨r, hr⟩ := tells_bool x.ok
      have HR : Hid (r = true ↔ x.ok) := hr
      obtain ⟨dn, hdn⟩ : ∃ dn, x.deep d = dn := ⟨_, rfl⟩
      have HDN : Hid (x.deep d = dn) := hdn
      rw [hdn] at hnear
      obtain ⟨x1, x2, x3, x4⟩ := x
      obtain ⟨_, c0, c1, c2, c3⟩ := d0
      dsimp only at c0 c1 c2 c3
      have hk' : (k : Int) < (l.length : Int) := by omega
      have P1 := BlkIs.new wr 32 #[.int .i64 x1, .int .i64 x2, .int .i64 x3, .int .i64 x4]
      have b1 : Below wr.heap.size wr (wr.alloc (.cells #[.int .i64 x1, .int .i64 x2, .int .i64 x3, .int .i64 x4] 32)) := (Below.refl _ _).alloc (Nat.le_refl _) _
      have hb1 := hb.trans (b1.mono hb.size)
      obtain ⟨Y, hY⟩ : ∃ Y, wr.alloc (.cells #[.int .i64 x1, .int .i64 x2, .int .i64 x3, .int .i64 x4] 32) = Y := ⟨_, rfl⟩
      rw [hY] at P1 hb1
      have HY : Hid (_ = Y) := hY
      clear hlx hr hb b1 hY hdn
      go_upto_region 7 with fail
      rw [HY.out]
      clear c0 c1 c2 c3 HY
      have p0 : Y.cell? ⟨wr.heap.size, 0, none⟩ = some (.int .i64 x1) := P1.cell 0
      have p1 : Y.cell? ⟨wr.heap.size, 1, none⟩ = some (.int .i64 x2) := P1.cell 1
      have p2 : Y.cell? ⟨wr.heap.size, 2, none⟩ = some (.int .i64 x3) := P1.cell 2
      have p3 : Y.cell? ⟨wr.heap.size, 3, none⟩ = some (.int .i64 x4) := P1.cell 3
      go_wp2_with fail
      refine (openBehind_any ⟨x1, x2, x3, x4⟩ d _ hd0 hd3).mono ?_
      rintro e Z1 ⟨rfl, bz⟩
      rw [HDN.out]
      replace P1 := P1.keep bz
      replace hb1 := hb1.trans (bz.mono hb1.size)
      clear p0 p1 p2 p3 bz
      have p0 : Z1.cell? ⟨wr.heap.size, 0, none⟩ = some (.int .i64 x1) := P1.cell 0
      have p1 : Z1.cell? ⟨wr.heap.size, 1, none⟩ = some (.int .i64 x2) := P1.cell 1
      have p2 : Z1.cell? ⟨wr.heap.size, 2, none⟩ = some (.int .i64 x3) := P1.cell 2
      have p3 : Z1.cell? ⟨wr.heap.size, 3, none⟩ = some (.int .i64 x4) := P1.cell 3
      go_wp2_with fail
      refine (implItem_is ⟨x1, x2, x3, x4⟩ _ r HR.out).mono ?_
      rintro e Z2 ⟨rfl, bz⟩
      replace hb1 := hb1.trans (bz.mono hb1.size)
      clear p0 p1 p2 p3 bz P1
      cases r with
      | false =>
        have HN : Hid (¬ planR l) := fun h => by
          have := HR.out.2 (HS.out.1 (HP.out.1 h)).1
          cases this
        clear HR HS HP HD HDN
        go_wp2
        go_ret
        exact ⟨.no HN.out, hb1⟩
      | true =>
        have HX : Hid (ItemV.ok ⟨x1, x2, x3, x4⟩) := HR.out.1 rfl
        go_wp2_with fail
        refine (openRight_any dn _).mono ?_
        rintro e Z3 ⟨⟨q, rfl, hq⟩, rfl⟩
        have HQ : Hid (q = true ↔ upR dn 3) := hq
        clear hq HR
        cases q with
        | false =>
          have HN : Hid (¬ planR l) := fun h => by
            have h2 := (HS.out.1 (HP.out.1 h)).2.1
            rw [HDN.out] at h2
            have := HQ.out.2 h2
            cases this
          clear HS HP HD HDN HQ HX
          go_wp2
          go_ret
          exact ⟨.no HN.out, hb1⟩
        | true =>
          have HU : Hid (upR dn 3) := HQ.out.1 rfl
          have HA : Hid (DeepAt l (k + 1) dn) := by
            refine ⟨?_, HU.out.1, HU.out.2⟩
            rw [HS.out, HDN.out]
            exact ⟨fun h => h.2.2, fun h => ⟨HX.out, HU.out, h⟩⟩
          clear HS HD HDN HQ HX HU
          go_wp2
          go_roundw
          case rel => exact ⟨k + 1, dn, by omega, by go_num, rfl, HA.out, hb1⟩
          case measure => simp [intOf]; omega
    · obtain rfl : k = l.length := by omega
      have HE : Hid (planR l ↔ d = 0) := HP.out.trans HD.out.done
      clear HP HD
      go_wp2
      go_ret
      exact ⟨⟨_, rfl, by rw [HE.out]; simp⟩, hb⟩
theorem implPRight_is (a : Option Addr) (cap : Nat) (l : List ItemV) (w : World) (r : Bool) (hr : r = true ↔ planR l) (hl : l.length ≤ 1048576) (hrow : CellRow w a (cellsOf ItemV.cells l)) :
    Calls Tryd.prog 12 #[.slice a l.length cap] w fun e w' => e = .returned (.bool r) ∧ Below w.heap.size w w' :=
  (implPRight_any a cap l w hl hrow).mono fun e w' ⟨h, hb⟩ => ⟨h.is hr, hb⟩
set_option maxHeartbeats 2000000 in
set_option maxRecDepth 100000 in
theorem specPRight_any (a : Option Addr) (cap : Nat) (l : List ItemV) (w : World) (hl : l.length ≤ 1048576) (hrow : CellRow w a (cellsOf ItemV.cells l)) :
    Calls Tryd.prog 9 #[.slice a l.length cap] w fun e w' => Tells (planR l) e ∧ Below w.heap.size w w' := by
  by_cases h40 : 40 < (l.length : Int)
  · have HN : Hid (¬ planR l) := fun h => by have := h.1; omega
    go_enter Tryd.func9, Tryd.ntmps9
    go_wp2
    go_ret
    exact ⟨.no HN.out, Below.refl _ _⟩
  have HP : Hid (planR l ↔ planFrom 0 l) := ⟨fun h => h.2, fun h => ⟨by omega, h⟩⟩
  have hl40 : l.length ≤ 40 := by omega
  go_enter Tryd.func9, Tryd.ntmps9
  go_wp2
  go_loopw [4, 3] (fun i v wr => ∃ (k : Nat) (d : Int), k ≤ l.length ∧ i = .int .i64 k ∧ v = .int .i64 d ∧ DeepAt l k d ∧ Below w.heap.size w wr) (fun i _ _ => l.length - (intOf i).toNat)
  case atStart => exact ⟨0, 0, Nat.zero_le _, rfl, rfl, DeepAt.zero l, Below.refl _ _⟩
  case round =>
    obtain ⟨k, d, hk, rfl, rfl, hd, hb⟩ := hrel
    have HD : Hid (DeepAt l k d) := hd
    have hd0 : 0 ≤ d := hd.2.1
    have hd3 : d ≤ 3 := hd.2.2
    clear hd h40
    have hp : IntKind.i64.wrap (d + 1) = d + 1 := by rw [IntKind.wrap_i64]; omega
    have hm : IntKind.i64.wrap (d - 1) = d - 1 := by rw [IntKind.wrap_i64]; omega
    by_cases hk2 : k < l.length
    · obtain ⟨b, off, rfl⟩ := hrow.addr (by rw [cellsOf_length ItemV.cells_len]; omega)
      obtain ⟨x, hlx⟩ : ∃ x, l[k] = x := ⟨_, rfl⟩
      have d0 := (hrow.keep hb).item hk2 hlx
      have HS : Hid (planFrom 0 l ↔ x.ok ∧ upR (x.deep d) 3 ∧ planFrom (x.deep d) (l.drop (k + 1))) := HD.out.step hk2 hlx
      obtain ⟨r, hr⟩ := tells_bool x.ok
      have HR : Hid (r = true ↔ x.ok) := hr
      have HE8 : Hid (x.kind = 8 → x.deep d = d + 1) := ItemV.deep_loop
      have HE9 : Hid (x.kind = 9 → x.deep d = d - 1) := ItemV.deep_end
      have HES : Hid (¬ x.kind = 8 → ¬ x.kind = 9 → x.deep d = d) := ItemV.deep_same
      obtain ⟨x1, x2, x3, x4⟩ := x
      have D0 := d0
      obtain ⟨_, c0, c1, c2, c3⟩ := d0
      dsimp only at c0 c1 c2 c3
      have hk' : (k : Int) < (l.length : Int) := by omega
      clear hlx hr
      go_wp2_with fail
      refine (specItem_is ⟨x1, x2, x3, x4⟩ _ r HR.out).mono ?_
      rintro e Z2 ⟨rfl, bz⟩
      have q0 := (D0.keep bz).c0
      dsimp only at q0
      have hb1 := hb.trans (bz.mono hb.size)
      clear bz c0 c1 c2 c3 D0 hb
      cases r with
      | false =>
        have HN : Hid (¬ planR l) := fun h => by
          have := HR.out.2 (HS.out.1 (HP.out.1 h)).1
          cases this
        clear HR HS HP HD HE8 HE9 HES
        go_wp2
        go_ret
        exact ⟨.no HN.out, hb1⟩
      | true =>
        have HX : Hid (ItemV.ok ⟨x1, x2, x3, x4⟩) := HR.out.1 rfl
        have HN : Hid (∀ dn, ItemV.deep ⟨x1, x2, x3, x4⟩ d = dn → ¬ upR dn 3 → ¬ planR l) := fun dn e h k => h (e ▸ (HS.out.1 (HP.out.1 k)).2.1)
        have HY : Hid (∀ dn, ItemV.deep ⟨x1, x2, x3, x4⟩ d = dn → upR dn 3 → DeepAt l (k + 1) dn) := fun dn e h => by
          refine ⟨?_, h.1, h.2⟩
          rw [HS.out, e]
          exact ⟨fun h => h.2.2, fun g => ⟨HX.out, h, g⟩⟩
        clear HS HD HR HX
        by_cases h8 : x1 = 8
        · subst h8
          by_cases hu : upR (d + 1) 3
          · have HA : Hid (DeepAt l (k + 1) (d + 1)) := HY.out _ (HE8.out rfl) hu
            have hu0 : 0 ≤ d + 1 := hu.1
            have hu3 : d + 1 ≤ 3 := hu.2
            clear HN HY hu HE8 HE9 HES
            go_wp2
            go_roundw
            case rel => exact ⟨k + 1, d + 1, by omega, by go_num, rfl, HA.out, hb1⟩
            case measure => simp [intOf]; omega
          · have HB : Hid (¬ planR l) := HN.out _ (HE8.out rfl) hu
            have hu0 : d + 1 < 0 ∨ 3 < d + 1 := by unfold upR at hu; omega
            clear HN HY hu HE8 HE9 HES
            rcases hu0 with hu0 | hu0
            · first
                | (exfalso; omega)
                | (have hu1 : ¬ 0 ≤ d + 1 := by omega
                   go_wp2
                   go_ret
                   exact ⟨.no HB.out, hb1⟩)
            · first
                | (exfalso; omega)
                | (have hu1 : ¬ d + 1 < 0 := by omega
                   go_wp2
                   go_ret
                   exact ⟨.no HB.out, hb1⟩)
        · have e8 : (x1 == 8) = false := beq_eq_false_iff_ne.2 h8
          by_cases h9 : x1 = 9
          · subst h9
            by_cases hu : upR (d - 1) 3
            · have HA : Hid (DeepAt l (k + 1) (d - 1)) := HY.out _ (HE9.out rfl) hu
              have hu0 : 0 ≤ d - 1 := hu.1
              have hu3 : d - 1 ≤ 3 := hu.2
              clear HN HY hu HE8 HE9 HES
              go_wp2
              go_roundw
              case rel => exact ⟨k + 1, d - 1, by omega, by go_num, rfl, HA.out, hb1⟩
              case measure => simp [intOf]; omega
            · have HB : Hid (¬ planR l) := HN.out _ (HE9.out rfl) hu
              have hu0 : d - 1 < 0 ∨ 3 < d - 1 := by unfold upR at hu; omega
              clear HN HY hu HE8 HE9 HES
              rcases hu0 with hu0 | hu0
              · first
                  | (exfalso; omega)
                  | (have hu1 : ¬ 0 ≤ d - 1 := by omega
                     go_wp2
                     go_ret
                     exact ⟨.no HB.out, hb1⟩)
              · first
                  | (exfalso; omega)
                  | (have hu1 : ¬ d - 1 < 0 := by omega
                     go_wp2
                     go_ret
                     exact ⟨.no HB.out, hb1⟩)
          · have e9 : (x1 == 9) = false := beq_eq_false_iff_ne.2 h9
            by_cases hu : upR (d) 3
            · have HA : Hid (DeepAt l (k + 1) (d)) := HY.out _ (HES.out h8 h9) hu
              have hu0 : 0 ≤ d := hu.1
              have hu3 : d ≤ 3 := hu.2
              clear HN HY hu HE8 HE9 HES
              go_wp2
              go_roundw
              case rel => exact ⟨k + 1, d, by omega, by go_num, rfl, HA.out, hb1⟩
              case measure => simp [intOf]; omega
            · have HB : Hid (¬ planR l) := HN.out _ (HES.out h8 h9) hu
              have hu0 : d < 0 ∨ 3 < d := by unfold upR at hu; omega
              clear HN HY hu HE8 HE9 HES
              rcases hu0 with hu0 | hu0
              · first
                  | (exfalso; omega)
                  | (have hu1 : ¬ 0 ≤ d := by omega
                     go_wp2
                     go_ret
                     exact ⟨.no HB.out, hb1⟩)
              · first
                  | (exfalso; omega)
                  | (have hu1 : ¬ d < 0 := by omega
                     go_wp2
                     go_ret
                     exact ⟨.no HB.out, hb1⟩)
    · obtain rfl : k = l.length := by omega
      have HE : Hid (planR l ↔ d = 0) := HP.out.trans HD.out.done
      clear HP HD hp hm
      go_wp2
      go_ret
      exact ⟨⟨_, rfl, by rw [HE.out]; simp⟩, hb⟩
theorem specPRight_is (a : Option Addr) (cap : Nat) (l : List ItemV) (w : World) (r : Bool) (hr : r = true ↔ planR l) (hl : l.length ≤ 1048576) (hrow : CellRow w a (cellsOf ItemV.cells l)) :
    Calls Tryd.prog 9 #[.slice a l.length cap] w fun e w' => e = .returned (.bool r) ∧ Below w.heap.size w w' :=
  (specPRight_any a cap l w hl hrow).mono fun e w' ⟨h, hb⟩ => ⟨h.is hr, hb⟩
end Go.Proofs.YtddlccepgeekcaaDoor
