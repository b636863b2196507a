/- The contracts of the specification's lines of a plan's text. -/
import Derived.Test.YtddlccepgeekcaaDoorTxPlain
import Derived.Test.YtddlccepgeekcaaDoorIRightS
import Derived.Test.YtddlccepgeekcaaDoorKeep
import Derived.Laws.IdiomStrings
import Derived.WalkKit
import Derived.WalkLawsBesides
namespace Go.Proofs.YtddlccepgeekcaaDoor
open Go Go.RowKit
set_option linter.unusedVariables false
set_option linter.unusedSimpArgs false

theorem bytes_both (l m : List UInt8) : (⟨l.toArray⟩ : ByteArray) ++ (⟨m.toArray⟩ : ByteArray) = ⟨(l ++ m).toArray⟩ := by rw [bytes_append]
/-- The digits that are still to come, and those that are there. -/
theorem dec_step (m : Nat) (t : List UInt8) (hm : 0 < m) : (if m = 0 then [] else Lib.decDigits m) ++ t = (if m / 10 = 0 then [] else Lib.decDigits (m / 10)) ++ (UInt8.ofNat (48 + m % 10) :: t) := by
  rw [if_neg (by omega), Lib.decDigits]
  by_cases h : m < 10
  · rw [dif_pos h, if_pos (by omega)]
    simp [Nat.mod_eq_of_lt h]
  · rw [dif_neg h, if_neg (by omega), List.append_assoc]
    rfl
set_option maxHeartbeats 4000000 in
set_option maxRecDepth 100000 in
theorem l01Dec_any (n : Int) (h0 : 0 ≤ n) (h1 : n ≤ 9999) (w : World) : Calls Tryd.prog 19 #[.int .i64 n] w fun e w' => e = .returned (.string ⟨(Lib.itoa n).toArray⟩) ∧ Below w.heap.size w w' := by
  obtain ⟨N, rfl⟩ : ∃ N : Nat, n = N := ⟨n.toNat, by omega⟩
  by_cases hz : N = 0
  · subst hz
    have HE : Hid (Lib.itoa ((0 : Nat) : Int) = [48]) := by show _ = _; rw [Lib.itoa_nonneg, Lib.decDigits_one (by omega)]; rfl
    go_enter Tryd.func19, Tryd.ntmps19
    go_wp2
    go_ret
    exact ⟨by rw [HE.out]; rfl, Below.refl _ _⟩
  have HE : Hid (Lib.itoa (N : Int) = Lib.decDigits N) := Lib.itoa_nonneg N
  have hnz : ¬ ((N : Nat) : Int) = 0 := by omega
  have hnb : (((N : Nat) : Int) == 0) = false := beq_eq_false_iff_ne.2 hnz
  go_enter Tryd.func19, Tryd.ntmps19
  go_wp2
  go_loopw [0, 4] (fun nv ov wr => ∃ (m : Nat) (t : List UInt8), nv = .int .i64 m ∧ ov = .string ⟨t.toArray⟩ ∧ m ≤ 9999 ∧ Lib.decDigits N = (if m = 0 then [] else Lib.decDigits m) ++ t ∧ Below w.heap.size w wr) (fun nv _ _ => (intOf nv).toNat)
  case atStart => exact ⟨N, [], rfl, rfl, by omega, by rw [if_neg hz, List.append_nil], Below.refl _ _⟩
  case round =>
    obtain ⟨m, t, rfl, rfl, hm, hdig, hb⟩ := hrel
    have HD : Hid (Lib.decDigits N = (if m = 0 then [] else Lib.decDigits m) ++ t) := hdig
    clear hdig
    by_cases hm0 : m = 0
    · subst hm0
      have HT : Hid (Lib.itoa (N : Int) = t) := by show _ = _; rw [HE.out, HD.out]; rfl
      clear HD HE
      go_wp2
      go_ret
      exact ⟨by rw [HT.out]; rfl, hb⟩
    · have hmi : ¬ ((m : Nat) : Int) = 0 := by omega
      have HD2 : Hid (Lib.decDigits N = (if m / 10 = 0 then [] else Lib.decDigits (m / 10)) ++ (UInt8.ofNat (48 + m % 10) :: t)) := HD.out.trans (dec_step m t (by omega))
      have hrem : Int.tmod ((m : Nat) : Int) 10 = ((m % 10 : Nat) : Int) := by rw [Int.tmod_eq_emod_of_nonneg (by omega)]; omega
      have hquo : Int.tdiv ((m : Nat) : Int) 10 = ((m / 10 : Nat) : Int) := by rw [Int.tdiv_eq_ediv_of_nonneg (by omega)]; omega
      obtain ⟨r, hr⟩ : ∃ r, m % 10 = r := ⟨_, rfl⟩
      obtain ⟨q, hq⟩ : ∃ q, m / 10 = q := ⟨_, rfl⟩
      rw [hr] at hrem HD2
      rw [hq] at hquo HD2
      have hr9 : r ≤ 9 := by omega
      have hu8 : (UInt8.ofNat (48 + r)).toNat = 48 + r := by
        simp only [UInt8.toNat_ofNat']
        omega
      have hw8 : IntKind.u8.wrap (48 + (r : Int)) = ((UInt8.ofNat (48 + r)).toNat : Int) := by
        rw [hu8, IntKind.wrap_u8]
        omega
      have hw64 : IntKind.i64.wrap (48 + (r : Int)) = 48 + (r : Int) := by rw [IntKind.wrap_i64]; omega
      obtain ⟨c, hc⟩ : ∃ c, UInt8.ofNat (48 + r) = c := ⟨_, rfl⟩
      rw [hc] at hw8 HD2
      have hcv := run_convert_bytes_back (P := Tryd.prog) (wr.alloc (.cells #[.int .u8 (c.toNat : Int)] 5)) 30 9 5 ⟨wr.heap.size, 0, none⟩ 1 [c] Tryd.underlying30 Tryd.underlying5 Tryd.underlying9 (fun j hj => by
        obtain rfl : j = 0 := by simp at hj; omega
        simp [Addr.add])
      have hb2 := hb.alloc hb.size (.cells #[.int .u8 (c.toNat : Int)] 5)
      have htl : t.length ≤ 4 := by
        have h4 := itoa_len h0 h1
        rw [HE.out, HD.out, List.length_append] at h4
        omega
      have hsz : ¬ 9223372036854775807 < 1 + t.length := by omega
      clear hm0 HD hr hu8 hc
      simp only [List.length_cons, List.length_nil, Nat.zero_add] at hcv
      go_wp2
      go_roundw
      case rel => exact ⟨q, c :: t, rfl, by rw [bytes_both]; rfl, by omega, HD2.out, hb2⟩
      case measure => simp [intOf]; omega
set_option maxHeartbeats 4000000 in
set_option maxRecDepth 100000 in
theorem l09Word_any (k : Int) (h0 : 1 ≤ k) (h1 : k ≤ 9) (w : World) : Calls Tryd.prog 18 #[.int .i64 k] w fun e w' => e = .returned (.string ⟨(wordL k).toArray⟩) ∧ Below w.heap.size w w' := by
  obtain h | h | h | h | h | h | h | h | h : k = 1 ∨ k = 2 ∨ k = 3 ∨ k = 4 ∨ k = 5 ∨ k = 6 ∨ k = 7 ∨ k = 8 ∨ k = 9 := by omega
  all_goals
    subst h
    go_enter Tryd.func18, Tryd.ntmps18
    go_wp2
    go_ret
    exact ⟨rfl, (Below.refl _ _).alloc (Nat.le_refl _) _⟩
set_option maxHeartbeats 4000000 in
set_option maxRecDepth 100000 in
theorem l09Line_any (x : ItemV) (d : Nat) (hd : d ≤ 3) (hx : x.ok) (w : World) : Calls Tryd.prog 10 #[x.val, .int .i64 d] w fun e w' => e = .returned (.string ⟨(lineL x d).toArray⟩) ∧ Below w.heap.size w w' := by
  have HNU : Hid (∀ n ∈ numsT x, 0 ≤ n ∧ n ≤ 9999) := ok_nums hx
  have HK : Hid (1 ≤ x.kind ∧ x.kind ≤ 9) := by
    unfold ItemV.ok ItemV.aR at hx
    show _ ∧ _
    omega
  have HL : Hid (lineL x d = Lib.repeatL [32, 32] d ++ wordL x.kind ++ numT (numsT x)) := rfl
  obtain ⟨x1, x2, x3, x4⟩ := x
  have HNN0 : Hid (numsT ⟨x1, x2, x3, x4⟩ = if x1 = 9 then [] else if x1 = 4 then [x2] else if x1 = 8 then [x2, x3, x4] else [x2, x3]) := rfl
  have B0 := (Below.refl w.heap.size w).alloc (Nat.le_refl _) (.cells #[.int .i64 x1, .int .i64 x2, .int .i64 x3, .int .i64 x4] 32)
  have P0 := BlkIs.new w 32 #[.int .i64 x1, .int .i64 x2, .int .i64 x3, .int .i64 x4]
  dsimp only at HL HK
  clear hx
  unfold ItemV.val
  go_enter Tryd.func10, Tryd.ntmps10
  go_upto_region 1 with fail
  obtain ⟨W, hW⟩ : ∃ W, w.alloc (.cells #[.int .i64 x1, .int .i64 x2, .int .i64 x3, .int .i64 x4] 32) = W := ⟨_, rfl⟩
  rw [hW] at P0 B0 ⊢
  clear hW
  obtain ⟨kb, hkb⟩ : ∃ k, w.heap.size = k := ⟨_, rfl⟩
  rw [hkb] at P0 ⊢
  clear hkb
  go_wp2_with fail
  go_loopw [6, 5] (fun i v wr => ∃ (k : Nat) (t : List UInt8), k ≤ d ∧ i = .int .i64 k ∧ v = .string ⟨t.toArray⟩ ∧ t = Lib.repeatL [32, 32] k ∧ wr = W) (fun i _ _ => d - (intOf i).toNat)
  case atStart => exact ⟨0, [], Nat.zero_le _, rfl, rfl, rfl, rfl⟩
  case round =>
    obtain ⟨k, t, hk, rfl, rfl, ht, hwr⟩ := hrel
    have HT : Hid (t = Lib.repeatL [32, 32] k) := ht
    clear ht
    obtain rfl : wr = W := hwr
    by_cases hk2 : k < d
    · have hk' : (k : Int) < (d : Int) := by omega
      have HT2 : Hid (t ++ [32, 32] = Lib.repeatL [32, 32] (k + 1)) := by show _ = _; rw [HT.out, Lib.repeatL_add, Lib.repeatL_one]
      have htl : t.length = k * 2 := by rw [HT.out, Lib.repeatL_length]; rfl
      have hsz : ¬ 9223372036854775807 < t.length + 2 := by omega
      clear htl
      go_wp2
      go_roundw
      case rel => exact ⟨k + 1, t ++ [32, 32], by omega, by go_num, by rw [← bytes_both], HT2.out, trivial⟩
      case measure => simp [intOf]; omega
    · obtain rfl : k = d := by omega
      have HL2 : Hid (lineL ⟨x1, x2, x3, x4⟩ k = t ++ wordL x1 ++ numT (numsT ⟨x1, x2, x3, x4⟩)) := by show _ = _; rw [HL.out, HT.out]
      have htl : t.length ≤ 6 := by
        have h := congrArg List.length HT.out
        rw [Lib.repeatL_length] at h
        have h2 : ([32, 32] : List UInt8).length = 2 := rfl
        rw [h2] at h
        omega
      have hwl := wordL_len x1
      clear HL HT
      have c0 : wr.cell? ⟨kb, 0, none⟩ = some (.int .i64 x1) := P0.cell 0
      have c1 : wr.cell? ⟨kb, 1, none⟩ = some (.int .i64 x2) := P0.cell 1
      have c2 : wr.cell? ⟨kb, 2, none⟩ = some (.int .i64 x3) := P0.cell 2
      have c3 : wr.cell? ⟨kb, 3, none⟩ = some (.int .i64 x4) := P0.cell 3
      go_wp2_with fail
      refine (l09Word_any x1 HK.out.1 HK.out.2 _).mono ?_
      rintro e Y ⟨rfl, bz⟩
      replace P0 := P0.keep bz
      replace B0 := B0.trans (bz.mono B0.size)
      clear bz c0 c1 c2 c3
      have c0 : Y.cell? ⟨kb, 0, none⟩ = some (.int .i64 x1) := P0.cell 0
      have c1 : Y.cell? ⟨kb, 1, none⟩ = some (.int .i64 x2) := P0.cell 1
      have c2 : Y.cell? ⟨kb, 2, none⟩ = some (.int .i64 x3) := P0.cell 2
      have c3 : Y.cell? ⟨kb, 3, none⟩ = some (.int .i64 x4) := P0.cell 3
      have HL := HL2
      clear HL2
      by_cases h9 : x1 = 9
      · subst h9
        have HNN : Hid (numsT ⟨9, x2, x3, x4⟩ = []) := rfl
        have HM : Hid (numsT ⟨9, x2, x3, x4⟩ = ([] : List Int)) := HNN
        have hsz0 : ¬ 9223372036854775807 < t.length + (wordL 9).length := by omega
        clear htl hwl
        go_wp2
        go_ret
        exact ⟨by rw [HL.out, HM.out]; simp only [bytes_append, numT, List.append_assoc, List.cons_append, List.nil_append, List.append_nil]; rfl, B0⟩
      · have e9 : (x1 == 9) = false := beq_eq_false_iff_ne.2 h9
        by_cases h4 : x1 = 4
        · subst h4
          have HNN : Hid (numsT ⟨4, x2, x3, x4⟩ = [x2]) := rfl
          have HM : Hid (numsT ⟨4, x2, x3, x4⟩ = ([x2] : List Int)) := HNN
          have HQ : Hid (∀ n ∈ [x2], 0 ≤ n ∧ n ≤ 9999) := by show ∀ n ∈ [x2], 0 ≤ n ∧ n ≤ 9999; rw [← HM.out]; exact HNU.out
          have hi2 := itoa_len (HQ.out x2 (by simp)).1 (HQ.out x2 (by simp)).2
          have hsz0 : ¬ 9223372036854775807 < t.length + (wordL 4).length := by omega
          have hsz1 : ¬ 9223372036854775807 < t.length + (wordL 4).length + 1 := by omega
          have hsz2 : ¬ 9223372036854775807 < t.length + (wordL 4).length + 1 + (Lib.itoa x2).length := by omega
          clear htl hwl hi2
          go_wp2_with fail
          refine (l01Dec_any x2 (HQ.out x2 (by simp)).1 (HQ.out x2 (by simp)).2 _).mono ?_
          rintro e Z0 ⟨rfl, bz⟩
          replace P0 := P0.keep bz
          replace B0 := B0.trans (bz.mono B0.size)
          clear bz c0 c1 c2 c3
          have c0 : Z0.cell? ⟨kb, 0, none⟩ = some (.int .i64 4) := P0.cell 0
          have c1 : Z0.cell? ⟨kb, 1, none⟩ = some (.int .i64 x2) := P0.cell 1
          have c2 : Z0.cell? ⟨kb, 2, none⟩ = some (.int .i64 x3) := P0.cell 2
          have c3 : Z0.cell? ⟨kb, 3, none⟩ = some (.int .i64 x4) := P0.cell 3
          go_wp2
          go_ret
          exact ⟨by rw [HL.out, HM.out]; simp only [bytes_append, numT, List.append_assoc, List.cons_append, List.nil_append, List.append_nil]; rfl, B0⟩
        · have e4 : (x1 == 4) = false := beq_eq_false_iff_ne.2 h4
          by_cases h8 : x1 = 8
          · subst h8
            have HNN : Hid (numsT ⟨8, x2, x3, x4⟩ = [x2, x3, x4]) := rfl
            have HM : Hid (numsT ⟨8, x2, x3, x4⟩ = ([x2, x3, x4] : List Int)) := HNN
            have HQ : Hid (∀ n ∈ [x2, x3, x4], 0 ≤ n ∧ n ≤ 9999) := by show ∀ n ∈ [x2, x3, x4], 0 ≤ n ∧ n ≤ 9999; rw [← HM.out]; exact HNU.out
            have hi2 := itoa_len (HQ.out x2 (by simp)).1 (HQ.out x2 (by simp)).2
            have hi3 := itoa_len (HQ.out x3 (by simp)).1 (HQ.out x3 (by simp)).2
            have hi4 := itoa_len (HQ.out x4 (by simp)).1 (HQ.out x4 (by simp)).2
            have hsz0 : ¬ 9223372036854775807 < t.length + (wordL 8).length := by omega
            have hsz1 : ¬ 9223372036854775807 < t.length + (wordL 8).length + 1 := by omega
            have hsz2 : ¬ 9223372036854775807 < t.length + (wordL 8).length + 1 + (Lib.itoa x2).length := by omega
            have hsz3 : ¬ 9223372036854775807 < t.length + (wordL 8).length + 1 + (Lib.itoa x2).length + 1 := by omega
            have hsz4 : ¬ 9223372036854775807 < t.length + (wordL 8).length + 1 + (Lib.itoa x2).length + 1 + (Lib.itoa x3).length := by omega
            have hsz5 : ¬ 9223372036854775807 < t.length + (wordL 8).length + 1 + (Lib.itoa x2).length + 1 + (Lib.itoa x3).length + 1 := by omega
            have hsz6 : ¬ 9223372036854775807 < t.length + (wordL 8).length + 1 + (Lib.itoa x2).length + 1 + (Lib.itoa x3).length + 1 + (Lib.itoa x4).length := by omega
            clear htl hwl hi2 hi3 hi4
            go_wp2_with fail
            refine (l01Dec_any x2 (HQ.out x2 (by simp)).1 (HQ.out x2 (by simp)).2 _).mono ?_
            rintro e Z0 ⟨rfl, bz⟩
            replace P0 := P0.keep bz
            replace B0 := B0.trans (bz.mono B0.size)
            clear bz c0 c1 c2 c3
            have c0 : Z0.cell? ⟨kb, 0, none⟩ = some (.int .i64 8) := P0.cell 0
            have c1 : Z0.cell? ⟨kb, 1, none⟩ = some (.int .i64 x2) := P0.cell 1
            have c2 : Z0.cell? ⟨kb, 2, none⟩ = some (.int .i64 x3) := P0.cell 2
            have c3 : Z0.cell? ⟨kb, 3, none⟩ = some (.int .i64 x4) := P0.cell 3
            go_wp2_with fail
            refine (l01Dec_any x3 (HQ.out x3 (by simp)).1 (HQ.out x3 (by simp)).2 _).mono ?_
            rintro e Z1 ⟨rfl, bz⟩
            replace P0 := P0.keep bz
            replace B0 := B0.trans (bz.mono B0.size)
            clear bz c0 c1 c2 c3
            have c0 : Z1.cell? ⟨kb, 0, none⟩ = some (.int .i64 8) := P0.cell 0
            have c1 : Z1.cell? ⟨kb, 1, none⟩ = some (.int .i64 x2) := P0.cell 1
            have c2 : Z1.cell? ⟨kb, 2, none⟩ = some (.int .i64 x3) := P0.cell 2
            have c3 : Z1.cell? ⟨kb, 3, none⟩ = some (.int .i64 x4) := P0.cell 3
            go_wp2_with fail
            refine (l01Dec_any x4 (HQ.out x4 (by simp)).1 (HQ.out x4 (by simp)).2 _).mono ?_
            rintro e Z2 ⟨rfl, bz⟩
            replace P0 := P0.keep bz
            replace B0 := B0.trans (bz.mono B0.size)
            clear bz c0 c1 c2 c3
            have c0 : Z2.cell? ⟨kb, 0, none⟩ = some (.int .i64 8) := P0.cell 0
            have c1 : Z2.cell? ⟨kb, 1, none⟩ = some (.int .i64 x2) := P0.cell 1
            have c2 : Z2.cell? ⟨kb, 2, none⟩ = some (.int .i64 x3) := P0.cell 2
            have c3 : Z2.cell? ⟨kb, 3, none⟩ = some (.int .i64 x4) := P0.cell 3
            go_wp2
            go_ret
            exact ⟨by rw [HL.out, HM.out]; simp only [bytes_append, numT, List.append_assoc, List.cons_append, List.nil_append, List.append_nil]; rfl, B0⟩
          · have e8 : (x1 == 8) = false := beq_eq_false_iff_ne.2 h8
            have HNN : Hid (numsT ⟨x1, x2, x3, x4⟩ = [x2, x3]) := by show _ = _; rw [HNN0.out, if_neg h9, if_neg h4, if_neg h8]
            have HM : Hid (numsT ⟨x1, x2, x3, x4⟩ = ([x2, x3] : List Int)) := HNN
            have HQ : Hid (∀ n ∈ [x2, x3], 0 ≤ n ∧ n ≤ 9999) := by show ∀ n ∈ [x2, x3], 0 ≤ n ∧ n ≤ 9999; rw [← HM.out]; exact HNU.out
            have hi2 := itoa_len (HQ.out x2 (by simp)).1 (HQ.out x2 (by simp)).2
            have hi3 := itoa_len (HQ.out x3 (by simp)).1 (HQ.out x3 (by simp)).2
            have hsz0 : ¬ 9223372036854775807 < t.length + (wordL x1).length := by omega
            have hsz1 : ¬ 9223372036854775807 < t.length + (wordL x1).length + 1 := by omega
            have hsz2 : ¬ 9223372036854775807 < t.length + (wordL x1).length + 1 + (Lib.itoa x2).length := by omega
            have hsz3 : ¬ 9223372036854775807 < t.length + (wordL x1).length + 1 + (Lib.itoa x2).length + 1 := by omega
            have hsz4 : ¬ 9223372036854775807 < t.length + (wordL x1).length + 1 + (Lib.itoa x2).length + 1 + (Lib.itoa x3).length := by omega
            clear htl hwl hi2 hi3
            go_wp2_with fail
            refine (l01Dec_any x2 (HQ.out x2 (by simp)).1 (HQ.out x2 (by simp)).2 _).mono ?_
            rintro e Z0 ⟨rfl, bz⟩
            replace P0 := P0.keep bz
            replace B0 := B0.trans (bz.mono B0.size)
            clear bz c0 c1 c2 c3
            have c0 : Z0.cell? ⟨kb, 0, none⟩ = some (.int .i64 x1) := P0.cell 0
            have c1 : Z0.cell? ⟨kb, 1, none⟩ = some (.int .i64 x2) := P0.cell 1
            have c2 : Z0.cell? ⟨kb, 2, none⟩ = some (.int .i64 x3) := P0.cell 2
            have c3 : Z0.cell? ⟨kb, 3, none⟩ = some (.int .i64 x4) := P0.cell 3
            go_wp2_with fail
            refine (l01Dec_any x3 (HQ.out x3 (by simp)).1 (HQ.out x3 (by simp)).2 _).mono ?_
            rintro e Z1 ⟨rfl, bz⟩
            replace P0 := P0.keep bz
            replace B0 := B0.trans (bz.mono B0.size)
            clear bz c0 c1 c2 c3
            have c0 : Z1.cell? ⟨kb, 0, none⟩ = some (.int .i64 x1) := P0.cell 0
            have c1 : Z1.cell? ⟨kb, 1, none⟩ = some (.int .i64 x2) := P0.cell 1
            have c2 : Z1.cell? ⟨kb, 2, none⟩ = some (.int .i64 x3) := P0.cell 2
            have c3 : Z1.cell? ⟨kb, 3, none⟩ = some (.int .i64 x4) := P0.cell 3
            go_wp2
            go_ret
            exact ⟨by rw [HL.out, HM.out]; simp only [bytes_append, numT, List.append_assoc, List.cons_append, List.nil_append, List.append_nil]; rfl, B0⟩
end Go.Proofs.YtddlccepgeekcaaDoor
