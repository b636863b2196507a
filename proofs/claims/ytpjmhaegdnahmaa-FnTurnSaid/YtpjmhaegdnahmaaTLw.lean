/- What promise 8's law asks of answers, and one more told. -/
import Derived.Test.YtpjmhaegdnahmaaTDrawC
namespace Go.Proofs.Ytpjmhaegdnahmaa
open Go Go.RowKit
set_option linter.unusedVariables false
set_option linter.unusedSimpArgs false

set_option maxHeartbeats 1000000 in
set_option maxRecDepth 100000 in
theorem lwTurn_same (p1 p2 : Option Addr) (c1 c2 : Nat) (o : TOutV) (w : World) (hl : o.list.length ≤ 6) (hc1 : o.list.length ≤ c1) (h1 : NumRow w p1 o.list) (h2 : NumRow w p2 o.list) (hok : o.code = 0 → TurnV.ok ⟨o.list, o.at0⟩) :
    Calls Try.prog 12 #[turnOutV p1 c1 o, turnOutV p2 c2 o] w fun e w' => e = .returned (.bool true) ∧ Below w.heap.size w w' := by
  obtain ⟨l, at0, nd, sd, cd⟩ := o
  unfold turnOutV
  dsimp only at hl hc1 h1 h2 hok ⊢
  have HOK : Hid (cd = 0 → TurnV.ok ⟨l, at0⟩) := hok
  clear hok
  have B0 := ((Below.refl w.heap.size w).alloc (Nat.le_refl _) (.cells #[.slice p1 l.length c1, .int .i64 at0, .int .i64 nd, .int .i64 sd, .int .i64 cd] 29)).alloc (by simp) (.cells #[.slice p2 l.length c2, .int .i64 at0, .int .i64 nd, .int .i64 sd, .int .i64 cd] 29)
  have m0 := (BlkIs.new w 29 #[.slice p1 l.length c1, .int .i64 at0, .int .i64 nd, .int .i64 sd, .int .i64 cd]).keep ((Below.refl _ _).alloc (Nat.le_refl _) (.cells #[.slice p2 l.length c2, .int .i64 at0, .int .i64 nd, .int .i64 sd, .int .i64 cd] 29))
  have m1 := BlkIs.new (w.alloc (.cells #[.slice p1 l.length c1, .int .i64 at0, .int .i64 nd, .int .i64 sd, .int .i64 cd] 29)) 29 #[.slice p2 l.length c2, .int .i64 at0, .int .i64 nd, .int .i64 sd, .int .i64 cd]
  rw [World.size_alloc] at m1
  have n1 := h1.keep B0
  have n2 := h2.keep B0
  obtain ⟨W, hW⟩ : ∃ W, (w.alloc (.cells #[.slice p1 l.length c1, .int .i64 at0, .int .i64 nd, .int .i64 sd, .int .i64 cd] 29)).alloc (.cells #[.slice p2 l.length c2, .int .i64 at0, .int .i64 nd, .int .i64 sd, .int .i64 cd] 29) = W := ⟨_, rfl⟩
  rw [hW] at B0 m0 m1 n1 n2
  have HW : Hid (_ = W) := hW
  clear hW
  go_enter Try.func12, Try.ntmps12
  go_upto_region 1 with fail
  rw [HW.out]
  clear HW
  have a0 : W.cell? ⟨w.heap.size, 0, none⟩ = some (.slice p1 l.length c1) := m0.cell 0
  have a1 : W.cell? ⟨w.heap.size, 1, none⟩ = some (.int .i64 at0) := m0.cell 1
  have a2 : W.cell? ⟨w.heap.size, 2, none⟩ = some (.int .i64 nd) := m0.cell 2
  have a3 : W.cell? ⟨w.heap.size, 3, none⟩ = some (.int .i64 sd) := m0.cell 3
  have a4 : W.cell? ⟨w.heap.size, 4, none⟩ = some (.int .i64 cd) := m0.cell 4
  have b0 : W.cell? ⟨w.heap.size + 1, 0, none⟩ = some (.slice p2 l.length c2) := m1.cell 0
  have b1 : W.cell? ⟨w.heap.size + 1, 1, none⟩ = some (.int .i64 at0) := m1.cell 1
  have b2 : W.cell? ⟨w.heap.size + 1, 2, none⟩ = some (.int .i64 nd) := m1.cell 2
  have b3 : W.cell? ⟨w.heap.size + 1, 3, none⟩ = some (.int .i64 sd) := m1.cell 3
  have b4 : W.cell? ⟨w.heap.size + 1, 4, none⟩ = some (.int .i64 cd) := m1.cell 4
  go_wp2_with fail
  refine (lwNums_any p1 p2 c1 c2 l l _ (by omega) n1 n2).mono ?_
  rintro e x ⟨rfl, bx⟩
  rw [show decide (l = l) = true by simp]
  have B1 := B0.trans (bx.mono B0.size)
  have k0 := m0.keep bx
  have r0 := n1.keep bx
  clear a0 a1 a2 a3 a4 b0 b1 b2 b3 b4 m0 m1 n1 n2 B0 bx
  have a0 : x.cell? ⟨w.heap.size, 0, none⟩ = some (.slice p1 l.length c1) := k0.cell 0
  have a1 : x.cell? ⟨w.heap.size, 1, none⟩ = some (.int .i64 at0) := k0.cell 1
  have a4 : x.cell? ⟨w.heap.size, 4, none⟩ = some (.int .i64 cd) := k0.cell 4
  by_cases hc : cd = 0
  · subst hc
    have ht := HOK.out rfl
    have HT : Hid (TurnV.ok ⟨l, at0⟩) := ht
    clear ht HOK
    go_wp2_with fail
    refine (specTRight_is p1 c1 ⟨l, at0⟩ _ true ⟨fun _ => HT.out, fun _ => rfl⟩ (by dsimp only; omega) hc1 r0).mono ?_
    rintro e x2 ⟨rfl, b2⟩
    have B2 := B1.trans (b2.mono B1.size)
    clear B1 b2 r0 k0 a0 a1 a4
    go_wp2
    go_ret
    exact ⟨rfl, B2⟩
  · have hcb : (cd == 0) = false := beq_eq_false_iff_ne.2 hc
    clear HOK
    go_wp2
    go_ret
    exact ⟨rfl, B1⟩
/-- One more is told: what is appended lies where it lay, or anew. -/
theorem append_oneT {w : World} {ops : Array Oper} {rest : List Oper} {o : Oper} {act : Act} {Q : Exit → Act → World → Prop} (hgd : o.guard = none) (hty : o.type = 23) (s x : Operand)
    (ho : o.op = .call { callee := .builtin .append, args := #[s, x], argTypes := #[23, 23] }) (base : Nat) (v : Value) (l : List Int) (n : Int) (hs : act.eval s = v) (w0 : World) (hw : w = w0.alloc (.cells #[.int .i64 n] 2)) (hown : w0.ownsRow base 2 1 v l.length (numsV l))
    (hx : act.eval x = .slice (some ⟨w0.heap.size, 0, none⟩) 1 1) (h63 : l.length ≤ 1000000) (hbase : base ≤ w0.heap.size)
    (h : ∀ v' w', w'.ownsRow base 2 1 v' (l ++ [n]).length (numsV (l ++ [n])) → w.grownBy w' v.ownBlock → (v'.ownBlock = v.ownBlock ∨ v'.ownBlock = some w.heap.size) → wpList Try.prog ops Q rest (act.put o.dst v') w') : wpList Try.prog ops Q (o :: rest) act w :=
  wpList_plain hgd fun _ hK => by
    subst hw
    obtain ⟨v', w', hr, h2, h3, h5⟩ := run_append_numsT base v l.length (numsV l) (hown.alloc _) w0.heap.size 0 1 [n] (one_row n w0) (by simp; omega) (by simp; omega)
    unfold Oper.wp
    rw [exec_append s x _ _ ho v _ hs hx (by rw [hty]; exact hr)]
    exact hK _ _ (h v' w' (by rw [numsV_append, List.length_append]; exact h2) h3 h5)
end Go.Proofs.Ytpjmhaegdnahmaa
