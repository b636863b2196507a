/- The contracts of a heap's Push and Pop, its own and container/heap's. -/
import Derived.Test.YtlnkcbojoaoehaaHeapUp
import Derived.WalkSmall
import Derived.Maps.AppendAt
namespace Go.Proofs.Ytlnkcbojoaoehaa
open Go Go.RowKit
set_option linter.unusedVariables false

theorem wp_append_at {P : Program} {w : World} {o : Oper} {a : Act} {K : Act → World → Prop} {Q : Exit → Act → World → Prop} (s x : Operand) (t : TypeId)
    (ho : o.op = .call { callee := .builtin .append, args := #[s, x], argTypes := #[t, t] })
    (base : Nat) (e : TypeId) (i : TypeInfo) (z : Value) (size bytes : Nat) (ht : P.underlying t = some (.slice e)) (hi : P.info? e = some i) (hz : i.zero = some z)
    (hsize : i.size = size) (hby : i.bytes = bytes) (hzs : z.cells.size = size) (hsz : 0 < size)
    (v : Value) (n : Nat) (xs : List Value) (hs : a.eval s = v) (hown : w.ownsRow base e size v n xs)
    (ad : Addr) (m c : Nat) (news : List Value) (hx : a.eval x = .slice (some ad) m c) (hl : news.length = m * size) (hnews : ∀ j u, news[j]? = some u → w.cell? (ad.add j) = some u) (h1 : ∀ u ∈ news, u.oneCell' = true)
    (h63 : n + m ≤ maxLen) (hbytes : (n + m) * bytes ≤ 140737488355328) (hbase : base ≤ w.heap.size)
    (h : ∀ v' w', w'.ownsRow base e size v' (n + m) (xs ++ news) → w.grownBy w' v.ownBlock → (v'.ownBlock = v.ownBlock ∨ v'.ownBlock = some w.heap.size) → K (a.put o.dst v') w') : o.wp P a w K Q := by
  obtain ⟨v', w', hr, h2, h3, h4, h5⟩ := run_append_own_at (P := P) w base t o.type e i z size bytes ht hi hz hsize hby hzs hsz v n xs hown ad m c news hl hnews h1 h63 hbytes hbase
  unfold Oper.wp execOp
  simp only [ho, resolve, invoke, builtin, Sem.run_bind, Sem.run_pure, Result.andThen_ok, List.map_toArray, List.map_cons, List.map_nil, hs, hx, hr]
  exact h v' w' h2 h3 (by first | exact h5 | exact h4)
theorem newCells (w : World) (x : DueV) : ∀ j u, x.cells[j]? = some u → ((w.alloc (.cells #[.int .i64 x.at0, .int .i64 x.seq, .int .i64 x.node, .string x.text] 25)).drew).cell? ((⟨w.heap.size, 0, none⟩ : Addr).add j) = some u := by
  intro j u hj
  have e : (⟨w.heap.size, 0, none⟩ : Addr).add j = ⟨w.heap.size, j, none⟩ := by by_cases e0 : j = 0 <;> simp [Addr.add, e0]
  rw [e]
  have := heap_alloc_new w (.cells #[.int .i64 x.at0, .int .i64 x.seq, .int .i64 x.node, .string x.text] 25)
  show (w.alloc _).cell? _ = _
  simp only [World.cell?, this]
  simpa [DueV.cells] using hj
theorem oneCells (x : DueV) : ∀ u ∈ x.cells, u.oneCell' = true := by
  intro u hu
  simp [DueV.cells] at hu
  rcases hu with rfl | rfl | rfl | rfl <;> rfl
theorem assert_due (v : Value) (w : World) : (Instr.typeAssert (.iface 25 v) 20 25 true).run Try.prog w = .ok (.tuple #[v, .bool true]) w := by kernel_rfl
def PushPost (lo hb : Nat) (v : Value) (l : List DueV) (d : DueV) (w : World) (e : Ending) (w' : World) : Prop := e = .returned (.tuple #[]) ∧ ∃ g cap, HeapAt w' lo hb g cap (l ++ [d]) ∧ (v.ownBlock = some g ∨ w.heap.size ≤ g) ∧ Keeps (fun k => k ≠ hb ∧ v.ownBlock ≠ some k) w w'
set_option maxHeartbeats 2000000 in
set_option maxRecDepth 100000 in
theorem hpush_any (lo hb : Nat) (v : Value) (l : List DueV) (d : DueV) (w : World) (hbx : Boxed w hb 80 v) (hrow : w.ownsRow lo 25 4 v l.length (cellsOf DueV.cells l)) (hl : l.length ≤ 1048576) (hlo : lo ≤ w.heap.size) :
    Calls Try.prog 87 #[.pointer (some ⟨hb, 0, none⟩), .iface 25 d.val] w (PushPost lo hb v l d w) := by
  obtain ⟨x1, x2, x3, x4⟩ := d
  unfold DueV.val
  dsimp only
  obtain ⟨i0, hi0, hz⟩ := Option.map_eq_some_iff.1 Try.infoDue
  simp only [Prod.mk.injEq] at hz
  have hta := assert_due (.agg #[.int .i64 x1, .int .i64 x2, .int .i64 x3, .string x4])
  go_enter Try.func87, Try.ntmps87
  go_upto_region 2 with fail
  have p0 := BlkOf.new w ⟨x1, x2, x3, x4⟩
  have hbxW := hbx.alloc (.cells #[.int .i64 x1, .int .i64 x2, .int .i64 x3, .string x4] 25)
  have hrowW := hrow.alloc (.cells #[.int .i64 x1, .int .i64 x2, .int .i64 x3, .string x4] 25)
  have KW : Keeps (fun k => k ≠ hb ∧ v.ownBlock ≠ some k) w (w.alloc (.cells #[.int .i64 x1, .int .i64 x2, .int .i64 x3, .string x4] 25)) := (Keeps.refl _ _).alloc _
  have hrowlo : lo ≤ (w.alloc (.cells #[.int .i64 x1, .int .i64 x2, .int .i64 x3, .string x4] 25)).heap.size := by simp; omega
  obtain ⟨W, hW⟩ : ∃ W, w.alloc (.cells #[.int .i64 x1, .int .i64 x2, .int .i64 x3, .string x4] 25) = W := ⟨_, rfl⟩
  rw [hW] at p0 hbxW hrowW KW hrowlo ⊢
  clear hW
  obtain ⟨pl, c0, c1, c2, c3⟩ := p0
  dsimp only at c0 c1 c2 c3
  have b0 := hbxW.cell
  refine wp_region_held_drew (S := fun _ => True) (by kernel_rfl) trivial (fun hHeld => ?_)
  refine takeG 0 (v := .pointer (some ⟨hb, 0, none⟩)) rfl (by kernel_rfl) (by kernel_rfl) (by kernel_rfl) (by kernel_rfl) (fun _ _ _ h => h) ?hy (by assumption) ?_
  case hy => (intro w' hSw; go_simp)
  try simp only [List.setIfInBounds_toArray, List.set_cons_zero, List.set_cons_succ]
  refine takeG 1 (v := .pointer (some ⟨hb, 0, none⟩)) rfl (by kernel_rfl) (by kernel_rfl) (by kernel_rfl) (by kernel_rfl) (fun _ _ _ h => h) ?hy (by assumption) ?_
  case hy => (intro w' hSw; go_simp)
  try simp only [List.setIfInBounds_toArray, List.set_cons_zero, List.set_cons_succ]
  refine takeG 2 (v := .pointer (some ⟨hb, 0, none⟩)) rfl (by kernel_rfl) (by kernel_rfl) (by kernel_rfl) (by kernel_rfl) (fun _ _ _ h => h) ?hy (by assumption) ?_
  case hy => (intro w' hSw; go_simp)
  try simp only [List.setIfInBounds_toArray, List.set_cons_zero, List.set_cons_succ]
  refine twoH 3 4 (by kernel_rfl) ?_ ?_
  · refine doH rfl (v := v) (w' := W.drew) (by go_simp) trivial ?_
    try simp only [List.setIfInBounds_toArray, List.set_cons_zero, List.set_cons_succ]
    refine oneH 4 (by kernel_rfl) ?_
    refine doH rfl (v := .agg #[.int .i64 x1, .int .i64 x2, .int .i64 x3, .string x4]) (w' := W.drew) (by go_simp) trivial ?_
    try simp only [List.setIfInBounds_toArray, List.set_cons_zero, List.set_cons_succ]
    refine oneH 5 (by kernel_rfl) ?_
    refine doH rfl (v := .slice (some ⟨W.heap.size, 0, none⟩) 1 1) (w' := (W.alloc (.cells #[.int .i64 x1, .int .i64 x2, .int .i64 x3, .string x4] 25)).drew) (by go_simp) trivial ?_
    try simp only [List.setIfInBounds_toArray, List.set_cons_zero, List.set_cons_succ]
    refine runG 6 (by kernel_rfl) rfl (by kernel_rfl) ?_
    refine wp_append_at (.tmp 15) (.tmp 17) 80 rfl lo 25 i0 _ 4 40 Try.underlying80 hi0 hz.1 hz.2.1 hz.2.2 rfl (by omega) v l.length (cellsOf DueV.cells l) rfl (hrowW.alloc _).drew ⟨W.heap.size, 0, none⟩ 1 1 (DueV.cells ⟨x1, x2, x3, x4⟩) rfl rfl (newCells _ _) (oneCells _) (by unfold maxLen; omega) (by omega) (by have := hrowlo; simp; omega) ?_
    intro v2 w1 hown2 hgr hat
    refine ⟨trivial, ?_⟩
    try simp only [Act.put, List.setIfInBounds_toArray, List.set_cons_zero, List.set_cons_succ]
    obtain ⟨g2, cap2, rfl⟩ := ownsRow_succ hown2
    have HG : Hid (v.ownBlock = some g2 ∨ w.heap.size ≤ g2) := by
      rcases hat with e | e
      · exact .inl (by rw [← e]; rfl)
      · have : g2 = W.heap.size + 1 := by simpa [Value.ownBlock] using e
        exact .inr (by have := KW.size; omega)
    clear hat
    have hbx1 : Boxed w1 hb 80 v := Boxed.kept (W := (W.alloc _).drew) (hbxW.alloc _) hgr (hbxW.not_row (by decide) hrowW)
    have k1 := hbx1.cell
    have k2 := hbx1.frozen
    refine takeG 7 (v := .pointer (some ⟨hb, 0, none⟩)) rfl (by kernel_rfl) (by kernel_rfl) (by kernel_rfl) (by kernel_rfl) (fun _ _ _ h => h) ?hy (by assumption) ?_
    case hy => (intro w' hSw; go_simp)
    try simp only [List.setIfInBounds_toArray, List.set_cons_zero, List.set_cons_succ]
    refine oneH 8 (by kernel_rfl) ?_
    refine storeH rfl (nx := .skip) (w' := w1.setCell ⟨hb, 0, none⟩ (.slice (some ⟨g2, 0, none⟩) (l.length + 1) cap2)) (by go_simp) (.inl rfl) trivial ?_
    try simp only [List.setIfInBounds_toArray, List.set_cons_zero, List.set_cons_succ]
    refine wpAnyH_done (by kernel_rfl) ?_ _
    have hlen1 : (l ++ [DueV.mk x1 x2 x3 x4]).length = l.length + 1 := by simp
    have hrow2 : w1.ownsRow lo 25 4 (.slice (some ⟨g2, 0, none⟩) (l.length + 1) cap2) (l.length + 1) (cellsOf DueV.cells (l ++ [DueV.mk x1 x2 x3 x4])) := by rw [cellsOf_append]; exact hown2
    have hne2 := hbx1.not_row (by decide) hrow2
    have HA : Hid (HeapAt (w1.setCell ⟨hb, 0, none⟩ (.slice (some ⟨g2, 0, none⟩) (l.length + 1) cap2)) lo hb g2 cap2 (l ++ [DueV.mk x1 x2 x3 x4])) :=
      ⟨by rw [hlen1]; exact hbx1.set _, by rw [hlen1]; exact hrow2.kept (grownBy_setCell' w1 hb _) (.inr (fun e => hne2 e.symm))⟩
    have HK : Hid (Keeps (fun k => k ≠ hb ∧ v.ownBlock ≠ some k) w (w1.setCell ⟨hb, 0, none⟩ (.slice (some ⟨g2, 0, none⟩) (l.length + 1) cap2))) := (((KW.alloc _).drew).grown hgr (fun k e h => h.2 e)).setCell (fun h => h.1 rfl) _
    clear hown2 hgr hbx1 hrow2 hne2 hlen1
    go_wp2
    go_end0
    exact ⟨rfl, g2, cap2, HA.out, HG.out, HK.out⟩
  · refine doH rfl (v := .agg #[.int .i64 x1, .int .i64 x2, .int .i64 x3, .string x4]) (w' := W.drew) (by go_simp) trivial ?_
    try simp only [List.setIfInBounds_toArray, List.set_cons_zero, List.set_cons_succ]
    refine twoH 3 5 (by kernel_rfl) ?_ ?_
    · refine doH rfl (v := v) (w' := W.drew) (by go_simp) trivial ?_
      try simp only [List.setIfInBounds_toArray, List.set_cons_zero, List.set_cons_succ]
      refine oneH 5 (by kernel_rfl) ?_
      refine doH rfl (v := .slice (some ⟨W.heap.size, 0, none⟩) 1 1) (w' := (W.alloc (.cells #[.int .i64 x1, .int .i64 x2, .int .i64 x3, .string x4] 25)).drew) (by go_simp) trivial ?_
      try simp only [List.setIfInBounds_toArray, List.set_cons_zero, List.set_cons_succ]
      refine runG 6 (by kernel_rfl) rfl (by kernel_rfl) ?_
      refine wp_append_at (.tmp 15) (.tmp 17) 80 rfl lo 25 i0 _ 4 40 Try.underlying80 hi0 hz.1 hz.2.1 hz.2.2 rfl (by omega) v l.length (cellsOf DueV.cells l) rfl (hrowW.alloc _).drew ⟨W.heap.size, 0, none⟩ 1 1 (DueV.cells ⟨x1, x2, x3, x4⟩) rfl rfl (newCells _ _) (oneCells _) (by unfold maxLen; omega) (by omega) (by have := hrowlo; simp; omega) ?_
      intro v2 w1 hown2 hgr hat
      refine ⟨trivial, ?_⟩
      try simp only [Act.put, List.setIfInBounds_toArray, List.set_cons_zero, List.set_cons_succ]
      obtain ⟨g2, cap2, rfl⟩ := ownsRow_succ hown2
      have HG : Hid (v.ownBlock = some g2 ∨ w.heap.size ≤ g2) := by
        rcases hat with e | e
        · exact .inl (by rw [← e]; rfl)
        · have : g2 = W.heap.size + 1 := by simpa [Value.ownBlock] using e
          exact .inr (by have := KW.size; omega)
      clear hat
      have hbx1 : Boxed w1 hb 80 v := Boxed.kept (W := (W.alloc _).drew) (hbxW.alloc _) hgr (hbxW.not_row (by decide) hrowW)
      have k1 := hbx1.cell
      have k2 := hbx1.frozen
      refine takeG 7 (v := .pointer (some ⟨hb, 0, none⟩)) rfl (by kernel_rfl) (by kernel_rfl) (by kernel_rfl) (by kernel_rfl) (fun _ _ _ h => h) ?hy (by assumption) ?_
      case hy => (intro w' hSw; go_simp)
      try simp only [List.setIfInBounds_toArray, List.set_cons_zero, List.set_cons_succ]
      refine oneH 8 (by kernel_rfl) ?_
      refine storeH rfl (nx := .skip) (w' := w1.setCell ⟨hb, 0, none⟩ (.slice (some ⟨g2, 0, none⟩) (l.length + 1) cap2)) (by go_simp) (.inl rfl) trivial ?_
      try simp only [List.setIfInBounds_toArray, List.set_cons_zero, List.set_cons_succ]
      refine wpAnyH_done (by kernel_rfl) ?_ _
      have hlen1 : (l ++ [DueV.mk x1 x2 x3 x4]).length = l.length + 1 := by simp
      have hrow2 : w1.ownsRow lo 25 4 (.slice (some ⟨g2, 0, none⟩) (l.length + 1) cap2) (l.length + 1) (cellsOf DueV.cells (l ++ [DueV.mk x1 x2 x3 x4])) := by rw [cellsOf_append]; exact hown2
      have hne2 := hbx1.not_row (by decide) hrow2
      have HA : Hid (HeapAt (w1.setCell ⟨hb, 0, none⟩ (.slice (some ⟨g2, 0, none⟩) (l.length + 1) cap2)) lo hb g2 cap2 (l ++ [DueV.mk x1 x2 x3 x4])) :=
        ⟨by rw [hlen1]; exact hbx1.set _, by rw [hlen1]; exact hrow2.kept (grownBy_setCell' w1 hb _) (.inr (fun e => hne2 e.symm))⟩
      have HK : Hid (Keeps (fun k => k ≠ hb ∧ v.ownBlock ≠ some k) w (w1.setCell ⟨hb, 0, none⟩ (.slice (some ⟨g2, 0, none⟩) (l.length + 1) cap2))) := (((KW.alloc _).drew).grown hgr (fun k e h => h.2 e)).setCell (fun h => h.1 rfl) _
      clear hown2 hgr hbx1 hrow2 hne2 hlen1
      go_wp2
      go_end0
      exact ⟨rfl, g2, cap2, HA.out, HG.out, HK.out⟩
    · refine doH rfl (v := .slice (some ⟨W.heap.size, 0, none⟩) 1 1) (w' := (W.alloc (.cells #[.int .i64 x1, .int .i64 x2, .int .i64 x3, .string x4] 25)).drew) (by go_simp) trivial ?_
      try simp only [List.setIfInBounds_toArray, List.set_cons_zero, List.set_cons_succ]
      have b1 := (hbxW.alloc (.cells #[.int .i64 x1, .int .i64 x2, .int .i64 x3, .string x4] 25)).cell
      refine oneH 3 (by kernel_rfl) ?_
      refine doH rfl (v := v) (w' := (W.alloc (.cells #[.int .i64 x1, .int .i64 x2, .int .i64 x3, .string x4] 25)).drew) (by go_simp) trivial ?_
      try simp only [List.setIfInBounds_toArray, List.set_cons_zero, List.set_cons_succ]
      clear b1
      refine runG 6 (by kernel_rfl) rfl (by kernel_rfl) ?_
      refine wp_append_at (.tmp 15) (.tmp 17) 80 rfl lo 25 i0 _ 4 40 Try.underlying80 hi0 hz.1 hz.2.1 hz.2.2 rfl (by omega) v l.length (cellsOf DueV.cells l) rfl (hrowW.alloc _).drew ⟨W.heap.size, 0, none⟩ 1 1 (DueV.cells ⟨x1, x2, x3, x4⟩) rfl rfl (newCells _ _) (oneCells _) (by unfold maxLen; omega) (by omega) (by have := hrowlo; simp; omega) ?_
      intro v2 w1 hown2 hgr hat
      refine ⟨trivial, ?_⟩
      try simp only [Act.put, List.setIfInBounds_toArray, List.set_cons_zero, List.set_cons_succ]
      obtain ⟨g2, cap2, rfl⟩ := ownsRow_succ hown2
      have HG : Hid (v.ownBlock = some g2 ∨ w.heap.size ≤ g2) := by
        rcases hat with e | e
        · exact .inl (by rw [← e]; rfl)
        · have : g2 = W.heap.size + 1 := by simpa [Value.ownBlock] using e
          exact .inr (by have := KW.size; omega)
      clear hat
      have hbx1 : Boxed w1 hb 80 v := Boxed.kept (W := (W.alloc _).drew) (hbxW.alloc _) hgr (hbxW.not_row (by decide) hrowW)
      have k1 := hbx1.cell
      have k2 := hbx1.frozen
      refine takeG 7 (v := .pointer (some ⟨hb, 0, none⟩)) rfl (by kernel_rfl) (by kernel_rfl) (by kernel_rfl) (by kernel_rfl) (fun _ _ _ h => h) ?hy (by assumption) ?_
      case hy => (intro w' hSw; go_simp)
      try simp only [List.setIfInBounds_toArray, List.set_cons_zero, List.set_cons_succ]
      refine oneH 8 (by kernel_rfl) ?_
      refine storeH rfl (nx := .skip) (w' := w1.setCell ⟨hb, 0, none⟩ (.slice (some ⟨g2, 0, none⟩) (l.length + 1) cap2)) (by go_simp) (.inl rfl) trivial ?_
      try simp only [List.setIfInBounds_toArray, List.set_cons_zero, List.set_cons_succ]
      refine wpAnyH_done (by kernel_rfl) ?_ _
      have hlen1 : (l ++ [DueV.mk x1 x2 x3 x4]).length = l.length + 1 := by simp
      have hrow2 : w1.ownsRow lo 25 4 (.slice (some ⟨g2, 0, none⟩) (l.length + 1) cap2) (l.length + 1) (cellsOf DueV.cells (l ++ [DueV.mk x1 x2 x3 x4])) := by rw [cellsOf_append]; exact hown2
      have hne2 := hbx1.not_row (by decide) hrow2
      have HA : Hid (HeapAt (w1.setCell ⟨hb, 0, none⟩ (.slice (some ⟨g2, 0, none⟩) (l.length + 1) cap2)) lo hb g2 cap2 (l ++ [DueV.mk x1 x2 x3 x4])) :=
        ⟨by rw [hlen1]; exact hbx1.set _, by rw [hlen1]; exact hrow2.kept (grownBy_setCell' w1 hb _) (.inr (fun e => hne2 e.symm))⟩
      have HK : Hid (Keeps (fun k => k ≠ hb ∧ v.ownBlock ≠ some k) w (w1.setCell ⟨hb, 0, none⟩ (.slice (some ⟨g2, 0, none⟩) (l.length + 1) cap2))) := (((KW.alloc _).drew).grown hgr (fun k e h => h.2 e)).setCell (fun h => h.1 rfl) _
      clear hown2 hgr hbx1 hrow2 hne2 hlen1
      go_wp2
      go_end0
      exact ⟨rfl, g2, cap2, HA.out, HG.out, HK.out⟩
end Go.Proofs.Ytlnkcbojoaoehaa
