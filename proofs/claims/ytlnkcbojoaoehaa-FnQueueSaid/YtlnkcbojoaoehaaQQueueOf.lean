/- A queue of the draws. -/
import Derived.Test.YtlnkcbojoaoehaaQDueOf
namespace Go.Proofs.Ytlnkcbojoaoehaa
open Go Go.RowKit
set_option linter.unusedVariables false

/-- A row of Dues of one's own that is not nil. -/
def DSome (w : World) (base : Nat) (v : Value) (l : List DueV) : Prop := ∃ g cap, v = .slice (some ⟨g, 0, none⟩) l.length cap ∧ w.ownsRow base 25 4 v l.length (cellsOf DueV.cells l)
theorem dsome_pos {w : World} {base : Nat} {v : Value} {l : List DueV} (h : w.ownsRow base 25 4 v l.length (cellsOf DueV.cells l)) (hp : 0 < l.length) : DSome w base v l := by
  rcases h.2 with ⟨_, hn⟩ | ⟨g, cap, cur, hv, _⟩
  · omega
  · exact ⟨g, cap, hv, h⟩
theorem dsome_lit (w : World) : DSome (w.alloc (.cells #[] 25)) w.heap.size (.slice (some ⟨w.heap.size, 0, none⟩) 0 0) [] :=
  ⟨_, _, rfl, World.ownsRow_lit _ #[] 0 (Nat.le_refl _) (by simp [maxLen]) rfl⟩
theorem DSome.kept {w w' : World} {base b : Nat} {v : Value} {l : List DueV} (h : DSome w base v l) (hb : b < base) (hg : w.grownBy w' (some b)) : DSome w' base v l := by
  obtain ⟨g, cap, e, o⟩ := h
  exact ⟨g, cap, e, o.kept hg (.inr (fun e => by have := (o.lt b e).1; omega))⟩
theorem DSome.keep {w w' : World} {base : Nat} {v : Value} {l : List DueV} (h : DSome w base v l) (hb : Below w.heap.size w w') : DSome w' base v l := by
  obtain ⟨g, cap, e, o⟩ := h
  exact ⟨g, cap, e, o.kept (row := none) ⟨hb.os, hb.tape, hb.output, hb.size, fun k hk _ => hb.block k hk⟩ (.inr (by rw [e]; simp [Value.ownBlock]))⟩
theorem DSome.cap {w : World} {base : Nat} {g cap : Nat} {l : List DueV} (h : w.ownsRow base 25 4 (.slice (some ⟨g, 0, none⟩) l.length cap) l.length (cellsOf DueV.cells l)) : l.length ≤ cap := by
  rcases h.2 with ⟨e, _⟩ | ⟨g', cap', cur, e, _, _, h2, _⟩
  · cases e
  · simp only [Value.slice.injEq, Option.some.injEq, Addr.mk.injEq, and_true, true_and] at e
    omega
theorem DSome.row {w : World} {base : Nat} {g cap : Nat} {l : List DueV} (h : w.ownsRow base 25 4 (.slice (some ⟨g, 0, none⟩) l.length cap) l.length (cellsOf DueV.cells l)) : CellRow w (some ⟨g, 0, none⟩) (cellsOf DueV.cells l) := by
  have hlen := cellsOf_length DueV.cells_len l
  exact .inr ⟨g, 0, rfl, (h.lt g rfl).2, fun i hi => by rw [Nat.zero_add, h.cellAt i (by omega), List.getElem?_eq_getElem hi]⟩
theorem belowGrown {w w' : World} (h : Below w.heap.size w w') (row : Option Nat) : w.grownBy w' row := ⟨h.os, h.tape, h.output, h.size, fun k hk _ => h.block k hk⟩
set_option maxHeartbeats 2000000 in
set_option maxRecDepth 100000 in
theorem queueOf_any (b : Nat) (a : Option Addr) (len cap : Nat) (zs : List Int) (w : World) (hs : Src w b a len cap zs) :
    Calls Try.prog 31 #[.pointer (some ⟨b, 0, none⟩)] w fun e w' =>
      ∃ v l, e = .returned v ∧ l.length ≤ 201 ∧ DSome w' w.heap.size v l ∧ Src w' b a len cap zs ∧ w.grownBy w' (some b) := by
  have hlt := hs.lt
  have hrl := hs.row_lt
  have hs0 := hs.alloc (.cells #[] 25)
  have hg0 := World.grownBy_alloc w (.cells #[] 25) (some b)
  have d0 := dsome_lit w
  go_enter Try.func31, Try.ntmps31
  go_wp2_with fail
  refine (n_any b a len cap zs 9 (by omega) _ hs0).mono ?_
  rintro e w1 ⟨k0, rfl, _, hk0, hs1, hg1⟩
  have d1 := d0.kept hlt hg1
  have hgw1 := grown_trans hg0 hg1
  obtain ⟨q0, rfl⟩ := Int.eq_ofNat_of_zero_le (hk0 (by omega)).1
  have hq0 : q0 ≤ 8 := by have := (hk0 (by omega)).2; omega
  clear d0 hs0 hg0 hg1 hk0 hs
  go_wp2
  go_loopw [4, 3, 5] (fun i v y wr => ∃ (q : Nat) (m : List DueV), i = .int .i64 q ∧ m.length + q ≤ 8 ∧ DSome wr w.heap.size v m ∧ Src wr b a len cap zs ∧ w.grownBy wr (some b)) (fun i _ _ _ => (intOf i).toNat)
  case atStart => exact ⟨q0, [], rfl, by simpa using hq0, d1, hs1, hgw1⟩
  case round =>
    clear d1 hs1 hgw1
    obtain ⟨q, m, rfl, hqm, dr, sr, gr⟩ := hrel
    by_cases hx : 0 < q
    · obtain ⟨p, rfl⟩ : ∃ p, q = p + 1 := ⟨q - 1, by omega⟩
      have hxi : (0 : Int) < ((p + 1 : Nat) : Int) := by omega
      go_wp2_with fail
      refine (dueOf_any b a len cap zs _ sr).mono ?_
      rintro e w2 ⟨d, rfl, hts, s2, g2⟩
      have d2 := dr.kept hlt g2
      have gw2 := grown_trans gr g2
      clear dr sr gr g2
      obtain ⟨g, cp, rfl, own⟩ := d2
      obtain ⟨c, m', hP⟩ := put_ex m d
      have HP : Hid (PutIs m d c m') := hP
      clear hP
      go_wp2_with fail
      refine (specPutQ_any g 0 cp m d c m' _ HP.out (by omega) (DSome.cap own) (DSome.row own)).mono ?_
      rintro e w3 ⟨v3, rfl, own3, b3⟩
      have gw3 : w.grownBy w3 (some b) := grown_trans gw2 (belowGrown b3 _)
      have s3 := s2.keep b3 s2.lt s2.row_lt
      have own' := own.kept (belowGrown b3 none) (.inr (by simp [Value.ownBlock]))
      obtain ⟨va, vn, vc, rfl⟩ := rowShape own3
      have hw23 : w.heap.size ≤ w2.heap.size := gw2.size
      unfold outV d0
      have s4 := s3.alloc (.cells #[.slice va vn vc, .int .i64 0, .int .i64 0, .int .i64 0, .string ⟨#[]⟩, .int .i64 c] 29)
      have gw4 := grown_alloc gw3 (.cells #[.slice va vn vc, .int .i64 0, .int .i64 0, .int .i64 0, .string ⟨#[]⟩, .int .i64 c] 29)
      have own4 := own'.alloc (.cells #[.slice va vn vc, .int .i64 0, .int .i64 0, .int .i64 0, .string ⟨#[]⟩, .int .i64 c] 29)
      have own34 := rowLe (own3.alloc (.cells #[.slice va vn vc, .int .i64 0, .int .i64 0, .int .i64 0, .string ⟨#[]⟩, .int .i64 c] 29)) hw23
      by_cases hc : c = 0
      · have HM : Hid (m'.length = m.length + 1) := by
          rcases HP.out with ⟨_, h, _⟩ | ⟨_, _, h, _⟩ | ⟨_, _, _, h, _⟩ | ⟨_, _, _, _, h, _⟩ | ⟨_, _, _, _, _, k, hk, h⟩
          · omega
          · omega
          · omega
          · omega
          · have := hk.1; show m'.length = _; rw [h]; simp [putL]; omega
        have HO : Hid (DSome (w3.alloc (.cells #[.slice va vn vc, .int .i64 0, .int .i64 0, .int .i64 0, .string ⟨#[]⟩, .int .i64 c] 29)) w.heap.size (.slice va vn vc) m') := dsome_pos own34 (by have := HM.out; omega)
        subst hc
        clear own own3 own' own4 own34 s2 s3 gw2 gw3 b3
        go_wp2
        go_roundw
        case rel => exact ⟨p, m', by go_num, by have := HM.out; omega, HO.out, s4, gw4⟩
        case measure => simp [intOf]
      · have hcb : (c == 0) = false := beq_eq_false_iff_ne.2 hc
        have HO : Hid (DSome (w3.alloc (.cells #[.slice va vn vc, .int .i64 0, .int .i64 0, .int .i64 0, .string ⟨#[]⟩, .int .i64 c] 29)) w.heap.size (.slice (some ⟨g, 0, none⟩) m.length cp) m) := ⟨g, cp, rfl, own4⟩
        clear own own3 own' own4 own34 s2 s3 gw2 gw3 b3
        go_wp2
        go_roundw
        case rel => exact ⟨p, m, by go_num, by omega, HO.out, s4, gw4⟩
        case measure => simp [intOf]
    · obtain rfl : q = 0 := by omega
      have hml : m.length ≤ 8 := by omega
      clear hqm hx
      obtain ⟨g, cp, rfl, own⟩ := dr
      go_wp2_with fail
      refine (one_any b a len cap zs 15 (by omega) _ sr).mono ?_
      rintro e w2 ⟨o, rfl, s2, g2⟩
      have own2 := own.kept g2 (.inr (fun e => by have := (own.lt b e).1; omega))
      have gw2 := grown_trans gr g2
      clear own sr gr g2
      by_cases hm0 : 0 < m.length
      · cases o with
        | true =>
          have hrow2 := DSome.row own2
          have dm := hrow2.due (i := 0) hm0
          obtain ⟨x, hx⟩ : ∃ x, m[0] = x := ⟨_, rfl⟩
          rw [hx] at dm
          obtain ⟨x1, x2, x3, x4⟩ := x
          simp only [Nat.zero_mul, Nat.add_zero] at dm
          obtain ⟨_, c0, c1, c2, c3⟩ := dm
          dsimp only at c0 c1 c2 c3
          have hm0i : (0 : Int) < (m.length : Int) := by omega
          have hmn : ¬ m.length = 0 := by omega
          have ha := own2.alloc (.cells #[.int .i64 x1, .int .i64 x2, .int .i64 x3, .string x4] 25)
          have bY := (Below.refl w.heap.size w2).alloc gw2.size (.cells #[.int .i64 x1, .int .i64 x2, .int .i64 x3, .string x4] 25)
          have hn1 := oneRow w2 ⟨x1, x2, x3, x4⟩
          have hsz : w.heap.size ≤ (w2.alloc (.cells #[.int .i64 x1, .int .i64 x2, .int .i64 x3, .string x4] 25)).heap.size := by have := gw2.size; simp; omega
          clear hx hrow2
          go_wp2_with (at_builtin; refine append_duesL rfl _ _ rfl w.heap.size _ _ _ rfl ha ⟨w2.heap.size, 0, none⟩ 1 1 [⟨x1, x2, x3, x4⟩] rfl rfl hn1 (by omega) hsz ?_)
          intro v' w3 own' gro
          have bl3 : Below w.heap.size w2 w3 := bY.grown gro hsz (fun g hg => (own2.lt g hg).1)
          have s3 := s2.keep bl3 hlt hrl
          have gw3 : w.grownBy w3 (some b) := grown_own (grown_alloc gw2 _) gro (fun g hg => (own2.lt g hg).1)
          have D3 : DSome w3 w.heap.size v' (m ++ [⟨x1, x2, x3, x4⟩]) := dsome_pos (by rw [List.length_append, cellsOf_append]; exact own') (by simp)
          have HLL : Hid ((m ++ [DueV.mk x1 x2 x3 x4]).length ≤ 201) := by show _ ≤ _; simp; omega
          clear own' gro own2 gw2 s2 bl3 ha bY hn1 hsz c0 c1 c2 c3
          go_wp2_with fail
          refine (one_any b a len cap zs 30 (by omega) _ s3).mono ?_
          rintro e y1 ⟨o2, rfl, sy1, gy1⟩
          have dy1 := D3.kept hlt gy1
          have gw1 := grown_trans gw3 gy1
          clear gy1
          cases o2 with
          | false =>
            have HD : Hid (DSome y1 w.heap.size v' (m ++ [DueV.mk x1 x2 x3 x4])) := dy1
            clear dy1
            go_wp2
            go_ret
            exact ⟨_, (m ++ [DueV.mk x1 x2 x3 x4]), rfl, HLL.out, HD.out, sy1, gw1⟩
          | true =>
            clear dy1
            go_wp2
            go_loopw [6, 3] (fun i q wr => ∃ (m2 : List DueV), m2.length ≤ 201 ∧ i = .int .i64 m2.length ∧ wr.ownsRow w.heap.size 25 4 q m2.length (cellsOf DueV.cells m2) ∧ Src wr b a len cap zs ∧ w.grownBy wr (some b)) (fun i _ _ => 201 - (intOf i).toNat)
            case atStart => exact ⟨[], by simp, rfl, World.ownsRow_nil _ _ _ _, sy1, gw1⟩
            case round =>
              obtain ⟨m2, hm2, rfl, own2, sr, gr⟩ := hrel
              go_wp2_with fail
              refine (n_any b a len cap zs 2 (by omega) _ sr).mono ?_
              rintro e y2 ⟨r, rfl, _, hr, sy2, gy2⟩
              obtain ⟨hr0, hr1⟩ := hr (by omega)
              have own3 := own2.kept gy2 (.inr (fun e => by have := (own2.lt b e).1; omega))
              have gw2 := grown_trans gr gy2
              clear hr own2 sr gr gy2
              by_cases hx : (m2.length : Int) < 200 + r
              · have hm3 : m2.length < 201 := by omega
                have ha := own3.alloc (.cells #[.int .i64 1, .int .i64 (m2.length : Int), .int .i64 0, .string ⟨#[]⟩] 25)
                have bY := (Below.refl w.heap.size y2).alloc gw2.size (.cells #[.int .i64 1, .int .i64 (m2.length : Int), .int .i64 0, .string ⟨#[]⟩] 25)
                have hn1 := oneRow y2 ⟨1, (m2.length : Int), 0, ⟨#[]⟩⟩
                have hsz : w.heap.size ≤ (y2.alloc (.cells #[.int .i64 1, .int .i64 (m2.length : Int), .int .i64 0, .string ⟨#[]⟩] 25)).heap.size := by have := gw2.size; simp; omega
                go_wp2_with (at_builtin; refine append_duesL rfl _ _ rfl w.heap.size _ _ _ rfl ha ⟨y2.heap.size, 0, none⟩ 1 1 [⟨1, (m2.length : Int), 0, ⟨#[]⟩⟩] rfl rfl hn1 (by omega) hsz ?_)
                intro v' y3 own' gro
                have bl3 : Below w.heap.size y2 y3 := bY.grown gro hsz (fun g hg => (own3.lt g hg).1)
                have sy3 := sy2.keep bl3 hlt hrl
                have gw3 : w.grownBy y3 (some b) := grown_own (grown_alloc gw2 _) gro (fun g hg => (own3.lt g hg).1)
                have HO : Hid (y3.ownsRow w.heap.size 25 4 v' (m2 ++ [DueV.mk 1 (m2.length : Int) 0 ⟨#[]⟩]).length (cellsOf DueV.cells (m2 ++ [DueV.mk 1 (m2.length : Int) 0 ⟨#[]⟩]))) := by rw [List.length_append, cellsOf_append]; exact own'
                have HL : Hid ((m2 ++ [DueV.mk 1 (m2.length : Int) 0 ⟨#[]⟩]).length = m2.length + 1) := by show _ = _; simp
                clear own' gro own3 gw2 sy2 bl3 ha bY hn1 hsz
                go_wp2
                go_roundw
                case rel => exact ⟨m2 ++ [DueV.mk 1 (m2.length : Int) 0 ⟨#[]⟩], by have := HL.out; omega, by rw [HL.out]; go_num, HO.out, sy3, gw3⟩
                case measure => simp [intOf]; omega
              · have HO : Hid (DSome y2 w.heap.size u3 m2) := dsome_pos own3 (by omega)
                clear own3
                go_wp2
                go_ret
                exact ⟨_, m2, rfl, by omega, HO.out, sy2, gw2⟩
        | false =>
          have D2 : DSome w2 w.heap.size (.slice (some ⟨g, 0, none⟩) m.length cp) m := ⟨g, cp, rfl, own2⟩
          clear own2
          go_wp2_with fail
          refine (one_any b a len cap zs 30 (by omega) _ s2).mono ?_
          rintro e y1 ⟨o2, rfl, sy1, gy1⟩
          have dy1 := D2.kept hlt gy1
          have gw1 := grown_trans gw2 gy1
          clear gy1
          cases o2 with
          | false =>
            have HD : Hid (DSome y1 w.heap.size (.slice (some ⟨g, 0, none⟩) m.length cp) m) := dy1
            clear dy1
            go_wp2
            go_ret
            exact ⟨_, m, rfl, by omega, HD.out, sy1, gw1⟩
          | true =>
            clear dy1
            go_wp2
            go_loopw [6, 3] (fun i q wr => ∃ (m2 : List DueV), m2.length ≤ 201 ∧ i = .int .i64 m2.length ∧ wr.ownsRow w.heap.size 25 4 q m2.length (cellsOf DueV.cells m2) ∧ Src wr b a len cap zs ∧ w.grownBy wr (some b)) (fun i _ _ => 201 - (intOf i).toNat)
            case atStart => exact ⟨[], by simp, rfl, World.ownsRow_nil _ _ _ _, sy1, gw1⟩
            case round =>
              obtain ⟨m2, hm2, rfl, own2, sr, gr⟩ := hrel
              go_wp2_with fail
              refine (n_any b a len cap zs 2 (by omega) _ sr).mono ?_
              rintro e y2 ⟨r, rfl, _, hr, sy2, gy2⟩
              obtain ⟨hr0, hr1⟩ := hr (by omega)
              have own3 := own2.kept gy2 (.inr (fun e => by have := (own2.lt b e).1; omega))
              have gw2 := grown_trans gr gy2
              clear hr own2 sr gr gy2
              by_cases hx : (m2.length : Int) < 200 + r
              · have hm3 : m2.length < 201 := by omega
                have ha := own3.alloc (.cells #[.int .i64 1, .int .i64 (m2.length : Int), .int .i64 0, .string ⟨#[]⟩] 25)
                have bY := (Below.refl w.heap.size y2).alloc gw2.size (.cells #[.int .i64 1, .int .i64 (m2.length : Int), .int .i64 0, .string ⟨#[]⟩] 25)
                have hn1 := oneRow y2 ⟨1, (m2.length : Int), 0, ⟨#[]⟩⟩
                have hsz : w.heap.size ≤ (y2.alloc (.cells #[.int .i64 1, .int .i64 (m2.length : Int), .int .i64 0, .string ⟨#[]⟩] 25)).heap.size := by have := gw2.size; simp; omega
                go_wp2_with (at_builtin; refine append_duesL rfl _ _ rfl w.heap.size _ _ _ rfl ha ⟨y2.heap.size, 0, none⟩ 1 1 [⟨1, (m2.length : Int), 0, ⟨#[]⟩⟩] rfl rfl hn1 (by omega) hsz ?_)
                intro v' y3 own' gro
                have bl3 : Below w.heap.size y2 y3 := bY.grown gro hsz (fun g hg => (own3.lt g hg).1)
                have sy3 := sy2.keep bl3 hlt hrl
                have gw3 : w.grownBy y3 (some b) := grown_own (grown_alloc gw2 _) gro (fun g hg => (own3.lt g hg).1)
                have HO : Hid (y3.ownsRow w.heap.size 25 4 v' (m2 ++ [DueV.mk 1 (m2.length : Int) 0 ⟨#[]⟩]).length (cellsOf DueV.cells (m2 ++ [DueV.mk 1 (m2.length : Int) 0 ⟨#[]⟩]))) := by rw [List.length_append, cellsOf_append]; exact own'
                have HL : Hid ((m2 ++ [DueV.mk 1 (m2.length : Int) 0 ⟨#[]⟩]).length = m2.length + 1) := by show _ = _; simp
                clear own' gro own3 gw2 sy2 bl3 ha bY hn1 hsz
                go_wp2
                go_roundw
                case rel => exact ⟨m2 ++ [DueV.mk 1 (m2.length : Int) 0 ⟨#[]⟩], by have := HL.out; omega, by rw [HL.out]; go_num, HO.out, sy3, gw3⟩
                case measure => simp [intOf]; omega
              · have HO : Hid (DSome y2 w.heap.size u3 m2) := dsome_pos own3 (by omega)
                clear own3
                go_wp2
                go_ret
                exact ⟨_, m2, rfl, by omega, HO.out, sy2, gw2⟩
      · have hmn : m.length = 0 := by omega
        obtain rfl : m = [] := List.eq_nil_of_length_eq_zero hmn
        have D2 : DSome w2 w.heap.size (.slice (some ⟨g, 0, none⟩) ([] : List DueV).length cp) [] := ⟨g, cp, rfl, own2⟩
        clear own2 hmn hm0 hml
        cases o with
        | true =>
          go_wp2_with fail
          refine (one_any b a len cap zs 30 (by omega) _ s2).mono ?_
          rintro e y1 ⟨o2, rfl, sy1, gy1⟩
          have dy1 := D2.kept hlt gy1
          have gw1 := grown_trans gw2 gy1
          clear gy1
          cases o2 with
          | false =>
            have HD : Hid (DSome y1 w.heap.size (.slice (some ⟨g, 0, none⟩) ([] : List DueV).length cp) []) := dy1
            clear dy1
            go_wp2
            go_ret
            exact ⟨_, [], rfl, by simp, HD.out, sy1, gw1⟩
          | true =>
            clear dy1
            go_wp2
            go_loopw [6, 3] (fun i q wr => ∃ (m2 : List DueV), m2.length ≤ 201 ∧ i = .int .i64 m2.length ∧ wr.ownsRow w.heap.size 25 4 q m2.length (cellsOf DueV.cells m2) ∧ Src wr b a len cap zs ∧ w.grownBy wr (some b)) (fun i _ _ => 201 - (intOf i).toNat)
            case atStart => exact ⟨[], by simp, rfl, World.ownsRow_nil _ _ _ _, sy1, gw1⟩
            case round =>
              obtain ⟨m2, hm2, rfl, own2, sr, gr⟩ := hrel
              go_wp2_with fail
              refine (n_any b a len cap zs 2 (by omega) _ sr).mono ?_
              rintro e y2 ⟨r, rfl, _, hr, sy2, gy2⟩
              obtain ⟨hr0, hr1⟩ := hr (by omega)
              have own3 := own2.kept gy2 (.inr (fun e => by have := (own2.lt b e).1; omega))
              have gw2 := grown_trans gr gy2
              clear hr own2 sr gr gy2
              by_cases hx : (m2.length : Int) < 200 + r
              · have hm3 : m2.length < 201 := by omega
                have ha := own3.alloc (.cells #[.int .i64 1, .int .i64 (m2.length : Int), .int .i64 0, .string ⟨#[]⟩] 25)
                have bY := (Below.refl w.heap.size y2).alloc gw2.size (.cells #[.int .i64 1, .int .i64 (m2.length : Int), .int .i64 0, .string ⟨#[]⟩] 25)
                have hn1 := oneRow y2 ⟨1, (m2.length : Int), 0, ⟨#[]⟩⟩
                have hsz : w.heap.size ≤ (y2.alloc (.cells #[.int .i64 1, .int .i64 (m2.length : Int), .int .i64 0, .string ⟨#[]⟩] 25)).heap.size := by have := gw2.size; simp; omega
                go_wp2_with (at_builtin; refine append_duesL rfl _ _ rfl w.heap.size _ _ _ rfl ha ⟨y2.heap.size, 0, none⟩ 1 1 [⟨1, (m2.length : Int), 0, ⟨#[]⟩⟩] rfl rfl hn1 (by omega) hsz ?_)
                intro v' y3 own' gro
                have bl3 : Below w.heap.size y2 y3 := bY.grown gro hsz (fun g hg => (own3.lt g hg).1)
                have sy3 := sy2.keep bl3 hlt hrl
                have gw3 : w.grownBy y3 (some b) := grown_own (grown_alloc gw2 _) gro (fun g hg => (own3.lt g hg).1)
                have HO : Hid (y3.ownsRow w.heap.size 25 4 v' (m2 ++ [DueV.mk 1 (m2.length : Int) 0 ⟨#[]⟩]).length (cellsOf DueV.cells (m2 ++ [DueV.mk 1 (m2.length : Int) 0 ⟨#[]⟩]))) := by rw [List.length_append, cellsOf_append]; exact own'
                have HL : Hid ((m2 ++ [DueV.mk 1 (m2.length : Int) 0 ⟨#[]⟩]).length = m2.length + 1) := by show _ = _; simp
                clear own' gro own3 gw2 sy2 bl3 ha bY hn1 hsz
                go_wp2
                go_roundw
                case rel => exact ⟨m2 ++ [DueV.mk 1 (m2.length : Int) 0 ⟨#[]⟩], by have := HL.out; omega, by rw [HL.out]; go_num, HO.out, sy3, gw3⟩
                case measure => simp [intOf]; omega
              · have HO : Hid (DSome y2 w.heap.size u3 m2) := dsome_pos own3 (by omega)
                clear own3
                go_wp2
                go_ret
                exact ⟨_, m2, rfl, by omega, HO.out, sy2, gw2⟩
        | false =>
          go_wp2_with fail
          refine (one_any b a len cap zs 30 (by omega) _ s2).mono ?_
          rintro e y1 ⟨o2, rfl, sy1, gy1⟩
          have dy1 := D2.kept hlt gy1
          have gw1 := grown_trans gw2 gy1
          clear gy1
          cases o2 with
          | false =>
            have HD : Hid (DSome y1 w.heap.size (.slice (some ⟨g, 0, none⟩) ([] : List DueV).length cp) []) := dy1
            clear dy1
            go_wp2
            go_ret
            exact ⟨_, [], rfl, by simp, HD.out, sy1, gw1⟩
          | true =>
            clear dy1
            go_wp2
            go_loopw [6, 3] (fun i q wr => ∃ (m2 : List DueV), m2.length ≤ 201 ∧ i = .int .i64 m2.length ∧ wr.ownsRow w.heap.size 25 4 q m2.length (cellsOf DueV.cells m2) ∧ Src wr b a len cap zs ∧ w.grownBy wr (some b)) (fun i _ _ => 201 - (intOf i).toNat)
            case atStart => exact ⟨[], by simp, rfl, World.ownsRow_nil _ _ _ _, sy1, gw1⟩
            case round =>
              obtain ⟨m2, hm2, rfl, own2, sr, gr⟩ := hrel
              go_wp2_with fail
              refine (n_any b a len cap zs 2 (by omega) _ sr).mono ?_
              rintro e y2 ⟨r, rfl, _, hr, sy2, gy2⟩
              obtain ⟨hr0, hr1⟩ := hr (by omega)
              have own3 := own2.kept gy2 (.inr (fun e => by have := (own2.lt b e).1; omega))
              have gw2 := grown_trans gr gy2
              clear hr own2 sr gr gy2
              by_cases hx : (m2.length : Int) < 200 + r
              · have hm3 : m2.length < 201 := by omega
                have ha := own3.alloc (.cells #[.int .i64 1, .int .i64 (m2.length : Int), .int .i64 0, .string ⟨#[]⟩] 25)
                have bY := (Below.refl w.heap.size y2).alloc gw2.size (.cells #[.int .i64 1, .int .i64 (m2.length : Int), .int .i64 0, .string ⟨#[]⟩] 25)
                have hn1 := oneRow y2 ⟨1, (m2.length : Int), 0, ⟨#[]⟩⟩
                have hsz : w.heap.size ≤ (y2.alloc (.cells #[.int .i64 1, .int .i64 (m2.length : Int), .int .i64 0, .string ⟨#[]⟩] 25)).heap.size := by have := gw2.size; simp; omega
                go_wp2_with (at_builtin; refine append_duesL rfl _ _ rfl w.heap.size _ _ _ rfl ha ⟨y2.heap.size, 0, none⟩ 1 1 [⟨1, (m2.length : Int), 0, ⟨#[]⟩⟩] rfl rfl hn1 (by omega) hsz ?_)
                intro v' y3 own' gro
                have bl3 : Below w.heap.size y2 y3 := bY.grown gro hsz (fun g hg => (own3.lt g hg).1)
                have sy3 := sy2.keep bl3 hlt hrl
                have gw3 : w.grownBy y3 (some b) := grown_own (grown_alloc gw2 _) gro (fun g hg => (own3.lt g hg).1)
                have HO : Hid (y3.ownsRow w.heap.size 25 4 v' (m2 ++ [DueV.mk 1 (m2.length : Int) 0 ⟨#[]⟩]).length (cellsOf DueV.cells (m2 ++ [DueV.mk 1 (m2.length : Int) 0 ⟨#[]⟩]))) := by rw [List.length_append, cellsOf_append]; exact own'
                have HL : Hid ((m2 ++ [DueV.mk 1 (m2.length : Int) 0 ⟨#[]⟩]).length = m2.length + 1) := by show _ = _; simp
                clear own' gro own3 gw2 sy2 bl3 ha bY hn1 hsz
                go_wp2
                go_roundw
                case rel => exact ⟨m2 ++ [DueV.mk 1 (m2.length : Int) 0 ⟨#[]⟩], by have := HL.out; omega, by rw [HL.out]; go_num, HO.out, sy3, gw3⟩
                case measure => simp [intOf]; omega
              · have HO : Hid (DSome y2 w.heap.size u3 m2) := dsome_pos own3 (by omega)
                clear own3
                go_wp2
                go_ret
                exact ⟨_, m2, rfl, by omega, HO.out, sy2, gw2⟩
end Go.Proofs.Ytlnkcbojoaoehaa
