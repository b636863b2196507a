/- The contract of readNums: a text that is numbers up to its end. -/
import Derived.Test.YtpjdkgcdkfmkiaaDoorMReadP
import Derived.Test.YtpjdkgcdkfmkiaaDoorGet
import Derived.Test.YtpjdkgcdkfmkiaaDoorG29
import Derived.Test.YtpjdkgcdkfmkiaaDoorMBytesI
namespace Go.Proofs.YtpjdkgcdkfmkiaaDoor
open Go Go.RowKit
set_option linter.unusedVariables false

def ReadNumsPost (s : ByteArray) (w : World) (e : Ending) (w' : World) : Prop :=
  (∃ (l : List Int) (v : Value), WfL l ∧ numsB l = s.data.toList ∧ e = .returned (.tuple #[v, .nilIface]) ∧ w'.ownsRow w.heap.size 2 1 v l.length (numsV l) ∧ Below w.heap.size w w') ∨
  (∃ ps c, c ≠ 0 ∧ (∀ m, WfL m → numsB m ≠ s.data.toList) ∧ e = .returned (.tuple #[.slice none 0 0, errV ps c]) ∧ Below w.heap.size w w')
theorem cells_one (w : World) (t : TypeId) (u : Value) : ∀ (j : Nat) v, [u][j]? = some v → (w.alloc (.cells #[u] t)).cell? ((⟨w.heap.size, 0, none⟩ : Addr).add j) = some v := by
  intro j v h
  rw [addr_add, (BlkIs.new w t #[u]).cell j]
  simpa using h
set_option maxHeartbeats 1000000 in
set_option maxRecDepth 100000 in
theorem readNums_any (s : ByteArray) (w : World) (hs : s.size ≤ 8000) : Calls Tryd.prog 53 #[.string s] w (ReadNumsPost s w) := by
  obtain ⟨i0, hi, hz0, hz1, hz2⟩ := info_partsI
  go_enter Tryd.func53, Tryd.ntmps53
  go_wp2
  go_loopw [5, 4] (fun a v wr => ∃ (p : Nat) (l : List Int), a = .int .i64 p ∧ ReadTo s l p ∧ wr.ownsRow w.heap.size 2 1 v l.length (numsV l) ∧ Below w.heap.size w wr) (fun a _ _ => s.size - (intOf a).toNat)
  case atStart => exact ⟨0, [], rfl, ReadTo.zero s, World.ownsRow_nil _ _ _ _, Below.refl _ _⟩
  case round =>
    obtain ⟨p, l, rfl, hR, hown, hb⟩ := hrel
    have hle := hR.le
    have HR : Hid (ReadTo s l p) := hR
    clear hR
    by_cases hx : p < s.size
    · have hxI : (p : Int) < (s.size : Int) := by omega
      rcases getN_code s (p : Nat) with ⟨n, k, e⟩ | ⟨c, e, hc⟩
      · obtain ⟨q, rfl, hpq, hR2, hll⟩ := HR.out.more e
        have HR2 : Hid (ReadTo s (l ++ [n]) q) := hR2
        have HE : Hid (getN s (p : Nat) = (n, (q : Int), 0)) := e
        have HL : Hid (l.length ≤ s.size) := Nat.le_trans (numsB_ge l) (by rw [← HR.out.2.1]; exact hle)
        have hlen : l.length ≤ 8000 := Nat.le_trans HL.out hs
        have hqle := hR2.le
        have B1 := hb.alloc hb.size (.cells #[.int .i64 n] 2)
        have hown2 := hown.alloc (.cells #[.int .i64 n] 2)
        have HC : Hid (∀ (j : Nat) v, [Value.int .i64 n][j]? = some v → (wr.alloc (.cells #[.int .i64 n] 2)).cell? ((⟨wr.heap.size, 0, none⟩ : Addr).add j) = some v) := cells_one wr 2 (.int .i64 n)
        clear hR2 e hll
        go_wp2_with fail
        refine (readNum_any s _ _).mono ?_
        rintro e w' ⟨⟨ps, rfl⟩, rfl⟩
        rw [numV_ok' HE.out]
        go_wp2_with (at_builtin; refine wpList_append_own _ rfl _ _ 41 rfl w.heap.size 2 i0 (.int .i64 0) 1 8 Tryd.underlying41 hi hz0 hz1 hz2 rfl (by decide) _ _ _ rfl hown2 ⟨w'.heap.size, 0, none⟩ 1 1 [.int .i64 n] rfl rfl HC.out ?c2 ?c3 ?c4 ?c5 ?_)
        case c2 => intro u hu; simp at hu; rw [hu]; rfl
        case c3 => unfold maxLen; omega
        case c4 => omega
        case c5 => exact B1.size
        · intro v' w1 hown' hgrow _
          have hb2 : Below w.heap.size w w1 := B1.grown hgrow B1.size (fun g hg => (hown2.lt g hg).1)
          have ho : w1.ownsRow w.heap.size 2 1 v' (l ++ [n]).length (numsV (l ++ [n])) := by
            rw [numsV_append, List.length_append]
            exact hown'
          clear hown' hgrow hown hown2 B1 HC hb
          go_wp2
          go_roundw
          case rel => exact ⟨q, l ++ [n], rfl, HR2.out, ho, hb2⟩
          case measure => simp [intOf]; omega
      · have HE : Hid (getN s (p : Nat) = (0, 0, c)) := e
        have HN : Hid (∀ m, WfL m → numsB m ≠ s.data.toList) := HR.out.bad hs hx e hc
        clear e
        go_wp2_with fail
        refine (readNum_any s _ _).mono ?_
        rintro e w' ⟨⟨ps, rfl⟩, rfl⟩
        rw [numV_bad' HE.out hc]
        obtain ⟨ty, x, hx'⟩ := errV_iface ps c
        rw [hx']
        have HX : Hid (errV ps c = .iface ty x) := hx'
        clear hx'
        go_wp2
        go_ret2
        exact .inr ⟨ps, c, hc, HN.out, by rw [HX.out]; rfl, hb⟩
    · have hxI : (s.size : Int) ≤ (p : Int) := by omega
      have HA : Hid (numsB l = s.data.toList) := HR.out.all hx
      obtain ⟨aa, cc, rfl, _⟩ := own_nums hown
      go_wp2
      go_ret2
      exact .inl ⟨l, _, HR.out.1, HA.out, rfl, hown, hb⟩
end Go.Proofs.YtpjdkgcdkfmkiaaDoor
