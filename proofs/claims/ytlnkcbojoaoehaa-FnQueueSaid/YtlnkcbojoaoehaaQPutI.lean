/- The contract of the program's QueuePut. -/
import Derived.Test.YtlnkcbojoaoehaaQFault
import Derived.Test.YtlnkcbojoaoehaaCollect
namespace Go.Proofs.Ytlnkcbojoaoehaa
open Go Go.RowKit
set_option linter.unusedVariables false

theorem rowKeep {w w' : World} {lo n : Nat} {v : Value} {xs : List Value} {e : TypeId} {size : Nat} (h : w.ownsRow lo e size v n xs) {G : Nat → Prop} (k : Keeps G w w') (hg : ∀ g, v.ownBlock = some g → G g) : w'.ownsRow lo e size v n xs := by
  refine ⟨h.1, ?_⟩
  rcases h.2 with q | ⟨g, cap, cur, rfl, r1, r2, r3⟩
  · exact .inl q
  · exact .inr ⟨g, cap, cur, rfl, r1, (k.block g (Array.getElem?_eq_some_iff.1 r2).1 (hg g rfl)).trans r2, r3⟩
theorem rowShape {w : World} {lo n : Nat} {v : Value} {xs : List Value} {e : TypeId} {size : Nat} (h : w.ownsRow lo e size v n xs) : ∃ a n c, v = .slice a n c := by
  rcases h.2 with ⟨rfl, _⟩ | ⟨g, cap, cur, rfl, _⟩
  · exact ⟨_, _, _, rfl⟩
  · exact ⟨_, _, _, rfl⟩
/-- What an answer says, and what it owns. -/
def OutPost (c : Int) (x : DueV) (m : List DueV) (w : World) (e : Ending) (w' : World) : Prop :=
  ∃ v, e = .returned (outV v x c) ∧ w'.ownsRow w.heap.size 25 4 v m.length (cellsOf DueV.cells m) ∧ Below w.heap.size w w'
theorem keeps_six (w : World) (b : Nat) (v0 v1 v2 v3 v4 v5 : Value) : Keeps (fun k => k ≠ b) w ((((((w.setCell ⟨b, 0, none⟩ v0).setCell ⟨b, 1, none⟩ v1).setCell ⟨b, 2, none⟩ v2).setCell ⟨b, 3, none⟩ v3).setCell ⟨b, 4, none⟩ v4).setCell ⟨b, 5, none⟩ v5) :=
  ((((((Keeps.refl _ _).setCell (fun h => h rfl) _).setCell (fun h => h rfl) _).setCell (fun h => h rfl) _).setCell (fun h => h rfl) _).setCell (fun h => h rfl) _).setCell (fun h => h rfl) _
theorem ResBlk.six {w : World} {b : Nat} (h : ResBlk w b) (v0 v1 v2 v3 v4 v5 : Value) : ((((((w.setCell ⟨b, 0, none⟩ v0).setCell ⟨b, 1, none⟩ v1).setCell ⟨b, 2, none⟩ v2).setCell ⟨b, 3, none⟩ v3).setCell ⟨b, 4, none⟩ v4).setCell ⟨b, 5, none⟩ v5).heap[b]? = some (.cells #[v0, v1, v2, v3, v4, v5] 29 (0, 0)) := by
  obtain ⟨u0, u1, u2, u3, u4, u5, h⟩ := h
  have h1 := heap_setCell_same w b 0 _ _ v0 h
  have h2 := heap_setCell_same _ b 1 _ _ v1 h1
  have h3 := heap_setCell_same _ b 2 _ _ v2 h2
  have h4 := heap_setCell_same _ b 3 _ _ v3 h3
  have h5 := heap_setCell_same _ b 4 _ _ v4 h4
  have h6 := heap_setCell_same _ b 5 _ _ v5 h5
  simpa using h6
theorem six_cells {w : World} {b : Nat} {v0 v1 v2 v3 v4 v5 : Value} (h : w.heap[b]? = some (.cells #[v0, v1, v2, v3, v4, v5] 29 (0, 0))) : w.cell? ⟨b, 0, none⟩ = some v0 ∧ w.cell? ⟨b, 1, none⟩ = some v1 ∧ w.cell? ⟨b, 2, none⟩ = some v2 ∧ w.cell? ⟨b, 3, none⟩ = some v3 ∧ w.cell? ⟨b, 4, none⟩ = some v4 ∧ w.cell? ⟨b, 5, none⟩ = some v5 := by
  simp [World.cell?, h]
theorem ResBlk.new (w : World) (u0 u1 u2 u3 u4 u5 : Value) : ResBlk (w.alloc (.cells #[u0, u1, u2, u3, u4, u5] 29)) w.heap.size := ⟨u0, u1, u2, u3, u4, u5, heap_alloc_new w _⟩
set_option maxHeartbeats 2000000 in
set_option maxRecDepth 100000 in
theorem implPutQ_any (a : Option Addr) (cap : Nat) (l : List DueV) (d : DueV) (c : Int) (m : List DueV) (w : World) (hP : PutIs l d c m) (hl : l.length ≤ 1048576) (hrow : CellRow w a (cellsOf DueV.cells l)) :
    Calls Try.prog 9 #[.slice a l.length cap, d.val] w (OutPost c d0 m w) := by
  obtain ⟨x1, x2, x3, x4⟩ := d
  have HP : Hid (PutIs l ⟨x1, x2, x3, x4⟩ c m) := hP
  have b0 := ((Below.refl w.heap.size w).alloc (Nat.le_refl _) (.cells #[.int .i64 x1, .int .i64 x2, .int .i64 x3, .string x4] 25)).alloc (by simp) (.cells #[.slice none 0 0, .int .i64 0, .int .i64 0, .int .i64 0, .string ⟨#[]⟩, .int .i64 0] 29)
  have p0 := (BlkOf.new w ⟨x1, x2, x3, x4⟩).keep ((Below.refl _ _).alloc (Nat.le_refl _) (.cells #[.slice none 0 0, .int .i64 0, .int .i64 0, .int .i64 0, .string ⟨#[]⟩, .int .i64 0] 29))
  have r0 := ResBlk.new (w.alloc (.cells #[.int .i64 x1, .int .i64 x2, .int .i64 x3, .string x4] 25)) (.slice none 0 0) (.int .i64 0) (.int .i64 0) (.int .i64 0) (.string ⟨#[]⟩) (.int .i64 0)
  rw [World.size_alloc] at r0
  have hrow0 := hrow.keep b0
  obtain ⟨W, hW⟩ : ∃ W, (w.alloc (.cells #[.int .i64 x1, .int .i64 x2, .int .i64 x3, .string x4] 25)).alloc (.cells #[.slice none 0 0, .int .i64 0, .int .i64 0, .int .i64 0, .string ⟨#[]⟩, .int .i64 0] 29) = W := ⟨_, rfl⟩
  dsimp only at p0
  rw [hW] at b0 p0 r0 hrow0
  have HW : Hid ((w.alloc (.cells #[.int .i64 x1, .int .i64 x2, .int .i64 x3, .string x4] 25)).alloc (.cells #[.slice none 0 0, .int .i64 0, .int .i64 0, .int .i64 0, .string ⟨#[]⟩, .int .i64 0] 29) = W) := hW
  clear hW
  unfold DueV.val
  dsimp only
  go_enter Try.func9, Try.ntmps9
  go_wp2_with fail
  rw [HW.out]
  refine (putFault_any a cap l ⟨x1, x2, x3, x4⟩ c m _ HP.out hl hrow0).mono ?_
  rintro e z1 ⟨rfl, bz1⟩
  have b1 := b0.trans (bz1.mono b0.size)
  have p1 := p0.keep bz1
  have r1 := r0.below bz1
  have hrow1 := hrow0.keep bz1
  clear b0 p0 r0 hrow0 bz1 HW
  by_cases hc : c = 0
  · subst hc
    obtain ⟨hq, hok, hnt, h200, k, hk, rfl⟩ : rightQ l ∧ DueV.ok ⟨x1, x2, x3, x4⟩ ∧ ¬ thereD l ⟨x1, x2, x3, x4⟩ ∧ l.length < 200 ∧ ∃ k, putAt l ⟨x1, x2, x3, x4⟩ k ∧ m = putL l ⟨x1, x2, x3, x4⟩ k := by
      rcases hP with ⟨_, e, _⟩ | ⟨_, _, e, _⟩ | ⟨_, _, _, e, _⟩ | ⟨_, _, _, _, e, _⟩ | ⟨g1, g2, g3, g4, _, k, g5, g6⟩
      · cases e
      · cases e
      · cases e
      · cases e
      · exact ⟨g1, g2, g3, g4, k, g5, g6⟩
    have HS : Hid ((putL l ⟨x1, x2, x3, x4⟩ k).Pairwise DueV.lt) := putL_rises (rightQ_lt hq) hk hnt
    have HT : Hid (∀ y ∈ putL l ⟨x1, x2, x3, x4⟩ k, y.text.size ≤ 1000000) := fun y hy => by
      have hy' := (putL_perm l ⟨x1, x2, x3, x4⟩ k).mem_iff.2 hy
      rcases List.mem_append.1 hy' with h | h
      · have := (rightQ_ok hq y h).2.2.2; omega
      · have e := List.mem_singleton.1 h; rw [e]; have := hok.2.2.2; omega
    have HL : Hid ((putL l ⟨x1, x2, x3, x4⟩ k).length = l.length + 1) := by show _ = _; rw [← (putL_perm l ⟨x1, x2, x3, x4⟩ k).length_eq]; simp
    clear hP hq hok hnt hk
    go_wp2_with fail
    refine (heaped_any a cap l _ (by omega) hrow1).mono ?_
    rintro e z2 ⟨hb, v, l2, rfl, hp2, hh2, hV2, hhb, bz2⟩
    have p2 := p1.keep bz2
    have r2 := r1.below bz2
    have b2 := b1.trans (bz2.mono b1.size)
    have hsz1 := r1.lt
    have HP2 : Hid (l2.Perm l) := hp2
    have hl2 : l2.length ≤ 1000000 := by rw [hp2.length_eq]; omega
    clear p1 r1 hrow1 hp2
    obtain ⟨_, c0, c1, c2, c3⟩ := p2
    dsimp only at c0 c1 c2 c3
    go_wp2_with fail
    refine (heapPush_any z1.heap.size hb v l2 ⟨x1, x2, x3, x4⟩ _ hV2.box hV2.row hl2 bz2.size hh2).mono ?_
    rintro e z3 ⟨rfl, g, cp, l3, hp3, hh3, hA3, hg3, hK3⟩
    have hlo3 := hA3.lo.1
    have hown : ∀ q, v.ownBlock = some q → z1.heap.size ≤ q := fun q e => (hV2.row.lt q e).1
    have r3 := r2.keep hK3 ⟨by omega, fun e => by have := hown _ e; omega⟩
    have B3 : Below z1.heap.size z1 z3 := bz2.trans (hK3.toBelow bz2.size (fun q hq => ⟨by omega, fun e => by have := hown _ e; omega⟩))
    have HP3 : Hid (l3.Perm (putL l ⟨x1, x2, x3, x4⟩ k)) := hp3.trans ((HP2.out.append_right _).trans (putL_perm l _ k))
    clear hV2 hh2 bz2 hK3 hg3 hown r2 b2 hp3 c0 c1 c2 c3
    go_wp2_with fail
    refine (taken_any _ _).mono ?_
    rintro e z4 ⟨rfl, hz4⟩
    have hR : Ready (z3.alloc (.cells #[.pointer (some ⟨hb, 0, none⟩)] 56)) z1.heap.size hb z3.heap.size (some g) (putL l ⟨x1, x2, x3, x4⟩ k) :=
      ⟨HS.out, HT.out, by rw [HL.out]; omega, ⟨_, l3, (hA3.keepB ((Below.refl _ _).alloc (Nat.le_refl _) _)).v, rfl, HP3.out, hh3⟩, Boxed.new _ _ _⟩
    have r4 := r3.below ((Below.refl _ _).alloc (Nat.le_refl _) (.cells #[.pointer (some ⟨hb, 0, none⟩)] 56))
    have B4 := B3.alloc B3.size (.cells #[.pointer (some ⟨hb, 0, none⟩)] 56)
    rw [← hz4] at hR r4 B4
    have hz3 : z3.heap.size ≤ z4.heap.size := by rw [hz4]; simp
    clear hz4 r3 hA3 hh3
    go_wp2_with fail
    refine (collect_any _ _ _ _ _ _ hR).mono ?_
    rintro e z5 ⟨v5, rfl, hr5, hK5⟩
    obtain ⟨va, vn, vc, rfl⟩ := rowShape hr5
    have r5 := r4.keep hK5 ⟨by omega, fun e => by have := Option.some.inj e; omega⟩
    have B5 : Below z1.heap.size z1 z5 := B4.trans (hK5.toBelow B4.size (fun q hq => ⟨by omega, fun e => by have := Option.some.inj e; omega⟩))
    have b5 := b1.trans (B5.mono b1.size)
    have hs5 := B3.size
    clear hR r4 B4 hK5 B5 b1 B3
    obtain ⟨m2, hm2⟩ : ∃ m2, putL l ⟨x1, x2, x3, x4⟩ k = m2 := ⟨_, rfl⟩
    rw [hm2] at hr5
    have HM : Hid (putL l ⟨x1, x2, x3, x4⟩ k = m2) := hm2
    clear hm2 HS HT HL HP3 HP
    obtain ⟨u0, u1, u2, u3, u4, u5, ⟨c0, c1, c2, c3, c4, c5⟩, f0, f1, f2, f3, f4, f5⟩ := r5.cells
    have KZ := keeps_six z5 (w.heap.size + 1) (.slice va vn vc) (.int .i64 0) (.int .i64 0) (.int .i64 0) (.string ⟨#[]⟩) (.int .i64 0)
    have HR6 : Hid ((((((((z5.setCell ⟨w.heap.size + 1, 0, none⟩ (.slice va vn vc)).setCell ⟨w.heap.size + 1, 1, none⟩ (.int .i64 0)).setCell ⟨w.heap.size + 1, 2, none⟩ (.int .i64 0)).setCell ⟨w.heap.size + 1, 3, none⟩ (.int .i64 0)).setCell ⟨w.heap.size + 1, 4, none⟩ (.string ⟨#[]⟩)).setCell ⟨w.heap.size + 1, 5, none⟩ (.int .i64 0))).ownsRow w.heap.size 25 4 (.slice va vn vc) m2.length (cellsOf DueV.cells m2)) := rowLe (rowKeep hr5 KZ (fun q hq => by have := (hr5.lt q hq).1; omega)) (by omega)
    have HB6 : Hid (Below w.heap.size w (((((((z5.setCell ⟨w.heap.size + 1, 0, none⟩ (.slice va vn vc)).setCell ⟨w.heap.size + 1, 1, none⟩ (.int .i64 0)).setCell ⟨w.heap.size + 1, 2, none⟩ (.int .i64 0)).setCell ⟨w.heap.size + 1, 3, none⟩ (.int .i64 0)).setCell ⟨w.heap.size + 1, 4, none⟩ (.string ⟨#[]⟩)).setCell ⟨w.heap.size + 1, 5, none⟩ (.int .i64 0)))) := b5.trans (KZ.toBelow b5.size (fun q hq => by omega))
    clear KZ b5 hr5
    go_wp2
    obtain ⟨z6, hz6⟩ : ∃ z6, ((((((z5.setCell ⟨w.heap.size + 1, 0, none⟩ (.slice va vn vc)).setCell ⟨w.heap.size + 1, 1, none⟩ (.int .i64 0)).setCell ⟨w.heap.size + 1, 2, none⟩ (.int .i64 0)).setCell ⟨w.heap.size + 1, 3, none⟩ (.int .i64 0)).setCell ⟨w.heap.size + 1, 4, none⟩ (.string ⟨#[]⟩)).setCell ⟨w.heap.size + 1, 5, none⟩ (.int .i64 0)) = z6 := ⟨_, rfl⟩
    have H6 := r5.six (.slice va vn vc) (.int .i64 0) (.int .i64 0) (.int .i64 0) (.string ⟨#[]⟩) (.int .i64 0)
    rw [hz6] at HR6 HB6 H6 ⊢
    obtain ⟨q0, q1, q2, q3, q4, q5⟩ := six_cells H6
    refine bodyPost_ret (v := outV (.slice va vn vc) d0 0) (by simp [results, Try.results9, go_sem, outV, d0, q0, q1, q2, q3, q4, q5]) rfl ?_
    exact ⟨_, rfl, by rw [HM.out]; exact HR6.out, HB6.out⟩
  · have hm : m = [] := by
      rcases hP with ⟨_, _, h⟩ | ⟨_, _, _, h⟩ | ⟨_, _, _, _, h⟩ | ⟨_, _, _, _, _, h⟩ | ⟨_, _, _, _, e, _⟩
      · exact h
      · exact h
      · exact h
      · exact h
      · exact absurd e hc
    subst hm
    have hc' : (c == 0) = false := beq_eq_false_iff_ne.2 hc
    clear hP HP hc p1 hrow1
    have hsz1 := r1.lt
    obtain ⟨u0, u1, u2, u3, u4, u5, ⟨c0, c1, c2, c3, c4, c5⟩, f0, f1, f2, f3, f4, f5⟩ := r1.cells
    have KZ := keeps_six z1 (w.heap.size + 1) (.slice none 0 0) (.int .i64 0) (.int .i64 0) (.int .i64 0) (.string ⟨#[]⟩) (.int .i64 c)
    have HB6 : Hid (Below w.heap.size w (((((((z1.setCell ⟨w.heap.size + 1, 0, none⟩ (.slice none 0 0)).setCell ⟨w.heap.size + 1, 1, none⟩ (.int .i64 0)).setCell ⟨w.heap.size + 1, 2, none⟩ (.int .i64 0)).setCell ⟨w.heap.size + 1, 3, none⟩ (.int .i64 0)).setCell ⟨w.heap.size + 1, 4, none⟩ (.string ⟨#[]⟩)).setCell ⟨w.heap.size + 1, 5, none⟩ (.int .i64 c)))) := b1.trans (KZ.toBelow b1.size (fun q hq => by omega))
    clear KZ
    go_wp2
    obtain ⟨z6, hz6⟩ : ∃ z6, ((((((z1.setCell ⟨w.heap.size + 1, 0, none⟩ (.slice none 0 0)).setCell ⟨w.heap.size + 1, 1, none⟩ (.int .i64 0)).setCell ⟨w.heap.size + 1, 2, none⟩ (.int .i64 0)).setCell ⟨w.heap.size + 1, 3, none⟩ (.int .i64 0)).setCell ⟨w.heap.size + 1, 4, none⟩ (.string ⟨#[]⟩)).setCell ⟨w.heap.size + 1, 5, none⟩ (.int .i64 c)) = z6 := ⟨_, rfl⟩
    have H6 := r1.six (.slice none 0 0) (.int .i64 0) (.int .i64 0) (.int .i64 0) (.string ⟨#[]⟩) (.int .i64 c)
    rw [hz6] at HB6 H6 ⊢
    obtain ⟨q0, q1, q2, q3, q4, q5⟩ := six_cells H6
    refine bodyPost_ret (v := outV (.slice none 0 0) d0 c) (by simp [results, Try.results9, go_sem, outV, d0, q0, q1, q2, q3, q4, q5]) rfl ?_
    exact ⟨_, rfl, World.ownsRow_nil _ _ _ _, HB6.out⟩
end Go.Proofs.Ytlnkcbojoaoehaa
