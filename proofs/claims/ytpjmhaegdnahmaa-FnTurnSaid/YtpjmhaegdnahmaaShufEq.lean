/- The contracts of the exact laws' helpers over what a shuffle answers. -/
import Derived.Test.YtpjmhaegdnahmaaNumArgs
import Derived.Test.YtpjmhaegdnahmaaChanceImpl
import Derived.Test.YtpjmhaegdnahmaaBeside
namespace Go.Proofs.Ytpjmhaegdnahmaa
open Go Go.RowKit
set_option linter.unusedVariables false

theorem PairIs.beside {w w' : World} {o : Nat} {s : Int} {v : Value} (h : PairIs w o s v) (hk : w'.heap[o]? = w.heap[o]?) : PairIs w' o s v := by
  obtain ⟨a, b, c, d⟩ := h
  exact ⟨(World.cell?_of_block (a := ⟨o, 0, none⟩) hk).trans a, (World.cell?_of_block (a := ⟨o, 1, none⟩) hk).trans b, (World.frozen?_of_block (a := ⟨o, 0, none⟩) hk).trans c, (World.frozen?_of_block (a := ⟨o, 1, none⟩) hk).trans d⟩
set_option maxRecDepth 100000 in
theorem eqShuf_same (s : Int) (a b : Option Addr) (ca cb : Nat) (l : List Int) (w : World) (hl : l.length ≤ 1048576) (ha : NumRow w a l) (hb : NumRow w b l) :
    Calls Try.prog 28 #[.agg #[.int .i64 s, .slice a l.length ca], .agg #[.int .i64 s, .slice b l.length cb]] w fun e w' => e = .returned (.bool true) ∧ Below w.heap.size w w' := by
  have b1 := (Below.refl w.heap.size w).alloc (Nat.le_refl _) (.cells #[.int .i64 s, .slice a l.length ca] 34)
  have b2 := b1.alloc b1.size (.cells #[.int .i64 s, .slice b l.length cb] 34)
  have ha2 := ha.keep b2
  have hb2 := hb.keep b2
  go_enter Try.func28, Try.ntmps28
  go_wp2_with fail
  refine (eqNums_same _ _ _ _ l _ hl ha2 hb2).mono ?_
  rintro e x1 ⟨rfl, b3⟩
  go_wp2
  go_ret
  exact ⟨rfl, b2.trans (b3.mono b2.size)⟩
set_option maxRecDepth 100000 in
theorem markShuf_any (s : Int) (lo : Nat) (a : Option Addr) (cap : Nat) (l : List Int) (k : Int) (w : World) (hl : l.length ≤ 1048576) (hk0 : 0 ≤ k) (hk1 : k ≤ 1000000000) (hlo : lo ≤ w.heap.size) (hrow : OwnNums w lo a l) :
    Calls Try.prog 29 #[.agg #[.int .i64 s, .slice a l.length cap], .int .i64 k] w fun e w' => e = .returned (.int .i64 (k + l.length)) ∧ OwnNums w' lo a (marks k l.length) ∧ Below lo w w' ∧ (∀ c, c < w.heap.size → (∀ b off, a = some ⟨b, off, none⟩ → c ≠ b) → w'.heap[c]? = w.heap[c]?) := by
  have b1 := (Below.refl w.heap.size w).alloc (Nat.le_refl _) (.cells #[.int .i64 s, .slice a l.length cap] 34)
  have ho := hrow.keep b1
  go_enter Try.func29, Try.ntmps29
  go_wp2_with fail
  refine (mark_any lo _ _ l k _ hl hk0 hk1 (Nat.le_trans hlo b1.size) ho).mono ?_
  rintro e x1 ⟨rfl, o1, b2, k2, s2⟩
  have HK : Hid (∀ c, c < w.heap.size → (∀ b off, a = some ⟨b, off, none⟩ → c ≠ b) → x1.heap[c]? = w.heap[c]?) := fun c hc hne => (k2 c hne).trans (b1.block c hc)
  have HO : Hid (OwnNums x1 lo a (marks k l.length)) := o1
  have HB : Hid (Below lo w x1) := (b1.mono hlo).trans b2
  clear k2 s2 o1 b2 ho
  go_wp2
  go_ret
  exact ⟨rfl, HO.out, HB.out, HK.out⟩
set_option maxRecDepth 100000 in
theorem heldShuf_any (s : Int) (a : Option Addr) (cap n : Nat) (k : Int) (w : World) (hl : n ≤ 1048576) (hk0 : 0 ≤ k) (hk1 : k ≤ 1000000000) (hrow : NumRow w a (marks k n)) :
    Calls Try.prog 30 #[.agg #[.int .i64 s, .slice a n cap], .int .i64 k] w fun e w' => e = .returned (.int .i64 (k + n)) ∧ Below w.heap.size w w' := by
  have b1 := (Below.refl w.heap.size w).alloc (Nat.le_refl _) (.cells #[.int .i64 s, .slice a n cap] 34)
  have ho := hrow.keep b1
  go_enter Try.func30, Try.ntmps30
  go_wp2_with fail
  refine (held_any _ _ n k _ hl hk0 hk1 ho).mono ?_
  rintro e x1 ⟨rfl, rfl⟩
  go_wp2
  go_ret
  exact ⟨rfl, b1⟩
theorem shufL_length (l : List Int) (s : Int) : (shufL l s).1.length ≤ 400 := by
  unfold shufL
  split
  · simp
  · rename_i h
    rw [mixL_length]
    omega
end Go.Proofs.Ytpjmhaegdnahmaa
