/- The rest of promise 4's draws and comparisons; what its law says, plain. -/
import Derived.Test.YtlnkcbojoaoehaaQDraw
namespace Go.Proofs.Ytlnkcbojoaoehaa
open Go Go.RowKit
set_option linter.unusedVariables false

theorem DBlk.below {w w' : World} {b : Nat} {v0 v1 v2 v3 : Value} (h : DBlk w b v0 v1 v2 v3) (k : Below w.heap.size w w') : DBlk w' b v0 v1 v2 v3 := (k.block b h.lt).trans h
def DrawPutPost (w : World) (e : Ending) (w' : World) : Prop := ∃ v l, ∃ d : DueV, e = .returned (.tuple #[v, d.val]) ∧ l.length ≤ 201 ∧ DSome w' w.heap.size v l ∧ Below w.heap.size w w'
set_option maxHeartbeats 1000000 in
set_option maxRecDepth 100000 in
theorem drawPutQ_any (a : Option Addr) (len cap : Nat) (zs : List Int) (w : World) (hl : len ≤ 1048576) (hrow : ByteRow w a len cap zs) :
    Calls Try.prog 8 #[.slice a len cap] w (DrawPutPost w) := by
  have b0 := (Below.refl w.heap.size w).alloc (Nat.le_refl _) (.cells #[.int .i64 0, .int .i64 0, .int .i64 0, .string ⟨#[]⟩] 25)
  have R0 := DBlk.new w (.int .i64 0) (.int .i64 0) (.int .i64 0) (.string ⟨#[]⟩)
  have hrow0 := hrow.below b0
  obtain ⟨W, hW⟩ : ∃ W, w.alloc (.cells #[.int .i64 0, .int .i64 0, .int .i64 0, .string ⟨#[]⟩] 25) = W := ⟨_, rfl⟩
  rw [hW] at b0 R0 hrow0
  have HW : Hid (w.alloc (.cells #[.int .i64 0, .int .i64 0, .int .i64 0, .string ⟨#[]⟩] 25) = W) := hW
  have hRW := R0.lt
  clear hW
  go_enter Try.func8, Try.ntmps8
  go_wp2_with fail
  rw [HW.out]
  clear HW
  refine (source_any a len cap zs _ hl hrow0).mono ?_
  rintro e w1 ⟨rfl, hs1, b1⟩
  have hlt := hs1.lt
  have R1 := R0.below b1
  have B1 := b0.trans (b1.mono b0.size)
  have hb1 := b1.size
  clear b0 b1 R0 hrow0
  go_wp2_with fail
  refine (queueOf_any _ a len cap zs _ hs1).mono ?_
  rintro e w2 ⟨v, l, rfl, hll, d2, hs2, hg2⟩
  have R2 := R1.grown hg2 (by omega)
  have B2 := grown_belowQ B1 hg2 (by omega)
  clear hs1 hg2 B1 R1
  go_wp2_with fail
  refine (dueOf_any _ a len cap zs _ hs2).mono ?_
  rintro e w3 ⟨d, rfl, _, hs3, hg3⟩
  have R3 := R2.grown hg3 (by omega)
  have B3 := grown_belowQ B2 hg3 (by omega)
  have d3 := (d2.kept hlt hg3).mono (show w.heap.size + 1 ≤ w1.heap.size by omega)
  clear d2 hs2 hg3 B2 R2 hs3
  obtain ⟨x1, x2, x3, x4⟩ := d
  unfold DueV.val
  dsimp only
  obtain ⟨g, cp, rfl, own⟩ := d3
  have f0 := R3.fz 0
  have f1 := R3.fz 1
  have f2 := R3.fz 2
  have f3 := R3.fz 3
  obtain ⟨c0, c1, c2, c3⟩ := R3.cells
  have HOW : Hid (w3.ownsRow (w.heap.size + 1) 25 4 (.slice (some ⟨g, 0, none⟩) l.length cp) l.length (cellsOf DueV.cells l)) := own
  clear own
  go_wp2
  have KZ := grown_four w3 w.heap.size (.int .i64 x1) (.int .i64 x2) (.int .i64 x3) (.string x4)
  have BZ := below_four w3 w.heap.size (.int .i64 x1) (.int .i64 x2) (.int .i64 x3) (.string x4)
  have H4 := R3.four (.int .i64 x1) (.int .i64 x2) (.int .i64 x3) (.string x4)
  obtain ⟨z6, hz6⟩ : ∃ z6, ((((w3.setCell ⟨w.heap.size, 0, none⟩ (.int .i64 x1)).setCell ⟨w.heap.size, 1, none⟩ (.int .i64 x2)).setCell ⟨w.heap.size, 2, none⟩ (.int .i64 x3)).setCell ⟨w.heap.size, 3, none⟩ (.string x4)) = z6 := ⟨_, rfl⟩
  rw [hz6] at KZ H4 BZ ⊢
  clear hz6 c0 c1 c2 c3
  obtain ⟨q0, q1, q2, q3⟩ := H4.cells
  refine bodyPost_ret (v := .tuple #[.slice (some ⟨g, 0, none⟩) l.length cp, .agg #[.int .i64 x1, .int .i64 x2, .int .i64 x3, .string x4]]) (by simp [results, Try.results8, go_sem, q0, q1, q2, q3]) rfl ?_
  exact ⟨_, l, ⟨x1, x2, x3, x4⟩, rfl, hll, ⟨g, cp, rfl, rowLe (HOW.out.kept KZ (.inr (fun e => by have := (HOW.out.lt _ e).1; omega))) (by omega)⟩, B3.trans BZ⟩
set_option maxHeartbeats 1000000 in
set_option maxRecDepth 100000 in
theorem lwQueues_same (v1 v2 : Value) (b1 b2 : Nat) (d : DueV) (c : Int) (l : List DueV) (w : World) (hl : l.length ≤ 1048576) (h1 : OwnSl w b1 v1 l) (h2 : OwnSl w b2 v2 l) (hr : c = 0 → rightQ l) :
    Calls Try.prog 14 #[outV v1 d c, outV v2 d c] w fun e w' => e = .returned (.bool true) ∧ Below w.heap.size w w' := by
  obtain ⟨a1, c1, rfl, o1, _⟩ := h1
  obtain ⟨a2, c2, rfl, o2, _⟩ := h2
  obtain ⟨x1, x2, x3, x4⟩ := d
  have HR : Hid (c = 0 → rightQ l) := hr
  clear hr
  unfold outV
  dsimp only
  have n1 := o1.row
  have n2 := o2.row
  clear o1 o2
  go_enter Try.func14, Try.ntmps14
  have B0 : Below w.heap.size w ((w.alloc (.cells #[.slice a1 l.length c1, .int .i64 x1, .int .i64 x2, .int .i64 x3, .string x4, .int .i64 c] 29)).alloc (.cells #[.slice a2 l.length c2, .int .i64 x1, .int .i64 x2, .int .i64 x3, .string x4, .int .i64 c] 29)) := ((Below.refl _ _).alloc (Nat.le_refl _) _).alloc (by simp) _
  have m1 := n1.keep B0
  have m2 := n2.keep B0
  go_wp2_with fail
  refine (lwQueue_same a1 c1 a2 c2 l _ hl m1 m2).mono ?_
  rintro e z1 ⟨rfl, bz1⟩
  have p1 : OutIs z1 w.heap.size (.slice a1 l.length c1) (.int .i64 x1) (.int .i64 x2) (.int .i64 x3) (.string x4) (.int .i64 c) := (bz1.block _ (by simp; omega)).trans ((Below.heap_alloc _ _ _ (by simp)).trans (heap_alloc_new w _))
  have B1 := B0.trans (bz1.mono B0.size)
  obtain ⟨e0, e1, e2, e3, e4, e5⟩ := p1.cells
  have k1 := n1.keep B1
  clear m1 m2 B0 bz1
  by_cases hc : c = 0
  · have HQ : Hid (rightQ l) := HR.out hc
    subst hc
    go_wp2_with fail
    refine (specQ_yes a1 c1 l _ hl k1 HQ.out).mono ?_
    rintro e z2 ⟨rfl, bz2⟩
    have B2 := B1.trans (bz2.mono B1.size)
    clear bz2 B1
    go_wp2
    go_ret
    exact ⟨rfl, B2⟩
  · have hcb : (c != 0) = true := by simp [hc]
    go_wp2
    go_ret
    exact ⟨rfl, B1⟩
/-- What is put comes first. -/
theorem put_first {y : DueV} {m : List DueV} (h : rightQ (y :: m)) : PutIs m y 0 (y :: m) := by
  have hl := h.1
  have ho := rightQ_ok h
  have hp := List.pairwise_cons.1 (rightQ_lt h)
  have hpa : putAt m y 0 := ⟨Nat.zero_le _, fun j _ hj => absurd hj (by omega), fun hk => DueV.lt_nlt (hp.1 _ (List.getElem_mem hk))⟩
  refine .inr (.inr (.inr (.inr ⟨rightQ_of (by simp at hl; omega) (fun d hd => ho d (List.mem_cons_of_mem _ hd)) hp.2, ho y (by simp), not_there hp.2 hpa (fun hk => hp.1 _ (List.getElem_mem hk)), by simp at hl; omega, rfl, 0, hpa, ?_⟩)))
  simp [putL]
theorem put_right {l : List DueV} {d : DueV} {c : Int} {m : List DueV} (h : PutIs l d c m) (hc : c = 0) : rightQ m := by
  rcases h with ⟨_, h, _⟩ | ⟨_, _, h, _⟩ | ⟨_, _, _, h, _⟩ | ⟨_, _, _, _, h, _⟩ | ⟨h1, h2, h3, h4, _, k, hk, rfl⟩
  · omega
  · omega
  · omega
  · omega
  · refine rightQ_of (by have := hk.1; simp [putL]; omega) (fun x hx => ?_) (putL_rises (rightQ_lt h1) hk h3)
    have : x ∈ l ++ [d] := (putL_perm l d k).mem_iff.2 hx
    rcases List.mem_append.1 this with q | q
    · exact rightQ_ok h1 x q
    · obtain rfl := List.mem_singleton.1 q; exact h2
theorem take_right {l : List DueV} {y : DueV} {c : Int} {m : List DueV} (h : TakeIs l c y m) (hc : c = 0) : rightQ (y :: m) ∧ l = y :: m := by
  rcases h with ⟨_, h, _⟩ | ⟨_, _, h, _⟩ | ⟨_, h, _⟩ | ⟨h, e, _⟩
  · omega
  · omega
  · omega
  · exact ⟨e ▸ h, e⟩
theorem right_tail {y : DueV} {m : List DueV} (h : rightQ (y :: m)) : rightQ m := by
  have hl := h.1
  exact rightQ_of (by simp at hl; omega) (fun d hd => rightQ_ok h d (List.mem_cons_of_mem _ hd)) (List.pairwise_cons.1 (rightQ_lt h)).2
theorem right_drop {m : List DueV} (h : rightQ m) (k : Nat) : rightQ (m.drop k) := by
  have hl := h.1
  exact rightQ_of (by rw [List.length_drop]; omega) (fun d hd => rightQ_ok h d (List.mem_of_mem_drop hd)) ((rightQ_lt h).sublist (List.drop_sublist _ _))
theorem drop_right {l : List DueV} {node c : Int} {m : List DueV} (h : DropIs l node c m) (hc : c = 0) : rightQ m := by
  rcases h with ⟨_, h, _⟩ | ⟨_, _, h, _⟩ | ⟨h1, _, rfl⟩
  · omega
  · omega
  · have hl := h1.1
    exact rightQ_of (Nat.le_trans (List.length_filter_le _ _) hl) (fun d hd => rightQ_ok h1 d (List.mem_filter.1 hd).1) ((rightQ_lt h1).sublist List.filter_sublist)
theorem drop_none {l : List DueV} {node c : Int} {m : List DueV} (h : DropIs l node c m) : ∀ d ∈ m, d.node ≠ node := by
  rcases h with ⟨_, _, rfl⟩ | ⟨_, _, _, rfl⟩ | ⟨_, _, rfl⟩
  · simp
  · simp
  · intro d hd
    have := (List.mem_filter.1 hd).2
    simpa using this
end Go.Proofs.Ytlnkcbojoaoehaa
