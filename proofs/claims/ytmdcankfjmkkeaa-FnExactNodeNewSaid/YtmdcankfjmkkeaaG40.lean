/- What the exact laws of a node's calls need: an answer of one's own, carried along, read, compared, marked and held. -/
import Derived.Test.YtmdcankfjmkkeaaG39
import Derived.Test.YtmdcankfjmkkeaaNSpecA
import Derived.Test.YtmdcankfjmkkeaaG19
import Derived.Test.YtmdcankfjmkkeaaG22
import Derived.Test.YtmdcankfjmkkeaaG28
namespace Go.Proofs.Ytmdcankfjmkkeaa
open Go Go.RowKit
set_option linter.unusedVariables false
set_option linter.unusedSimpArgs false

theorem OwnOut.keep {w w' : World} {lo : Nat} {a : NodeM} {n : NodeV} {v : Value} {ms : List MailA} (h : OwnOut w lo a n v ms) (k : Below w.heap.size w w') : OwnOut w' lo a n v ms :=
  have K : Keeps (fun _ => True) w w' := Keeps.ofBelow k (fun q hq _ => hq)
  ⟨h.node.off K (fun _ _ => trivial), h.mails.off K (fun _ _ => trivial), h.ap⟩
theorem OwnOut.offO {w w' : World} {lo : Nat} {a : NodeM} {n : NodeV} {v : Value} {ms : List MailA} (h : OwnOut w lo a n v ms) {G : Nat → Prop} (k : Keeps G w w') (hg : ∀ g, ¬ (offN a n g ∧ offM v ms g) → G g) : OwnOut w' lo a n v ms :=
  ⟨h.node.off k (fun g hn => hg g (fun h => hn h.1)), h.mails.off k (fun g hn => hg g (fun h => hn h.2)), h.ap⟩
theorem OwnOut.rows {w : World} {lo : Nat} {a : NodeM} {n : NodeV} {v : Value} {ms : List MailA} (h : OwnOut w lo a n v ms) : NodeRows w a n := by
  obtain ⟨_, _, e1, c1, _⟩ := h.node.v
  obtain ⟨_, _, e2, c2, _⟩ := h.node.r
  obtain ⟨_, _, e4, c4, _⟩ := h.node.d
  unfold vSl at e1
  unfold rSl at e2
  unfold dSl at e4
  simp only [Value.slice.injEq, true_and] at e1 e2 e4
  obtain ⟨rfl, rfl⟩ := e1
  obtain ⟨rfl, rfl⟩ := e2
  obtain ⟨rfl, rfl⟩ := e4
  exact ⟨c1.row, c2.row, h.node.t.row, c4.row⟩
theorem OwnOut.slice {w : World} {lo : Nat} {a : NodeM} {n : NodeV} {v : Value} {ms : List MailA} (h : OwnOut w lo a n v ms) : ∃ am ac, v = .slice am ms.length ac := by
  obtain ⟨am, ac, e, _⟩ := h.mails.row
  exact ⟨am, ac, e⟩
theorem OwnOut.mailsAt {w : World} {lo : Nat} {a : NodeM} {n : NodeV} {am : Option Addr} {ac : Nat} {ms : List MailA} (h : OwnOut w lo a n (.slice am ms.length ac) ms) : MailsAt w am ms := by
  obtain ⟨_, _, e, oc, _⟩ := h.mails.row
  simp only [Value.slice.injEq, true_and] at e
  obtain ⟨rfl, rfl⟩ := e
  refine ⟨oc.row, fun i hi => ?_⟩
  obtain ⟨_, _, e2, c2, _⟩ := h.mails.facts i hi
  unfold slM at e2
  simp only [Value.slice.injEq, true_and] at e2
  obtain ⟨rfl, rfl⟩ := e2
  exact c2.row
theorem slBound {w : World} {lo n g : Nat} {v : Value} {l : List FactV} (h : OwnSl w lo v l) (hg : ¬ blkOf v l.length g) : lo ≤ g ∧ g < w.heap.size := by
  unfold blkOf at hg
  obtain ⟨a, cap, rfl, oc, hz⟩ := h
  have h0 : l.length ≠ 0 := fun h => hg (.inl h)
  have he : (Value.slice a l.length cap).ownBlock = some g := by
    by_cases e : (Value.slice a l.length cap).ownBlock = some g
    · exact e
    · exact absurd (.inr e) hg
  rcases oc with h1 | ⟨q, off, rfl, hlo, hlt, _⟩
  · have := cellsOf_length FactV.cells_len l
    rw [h1] at this
    simp only [List.length_nil] at this
    omega
  · simp only [Value.ownBlock, Option.some.injEq] at he
    omega
theorem slBoundR {w : World} {lo n g : Nat} {v : Value} {l : List RumV} (h : OwnSlR w lo v l) (hg : ¬ blkOf v l.length g) : lo ≤ g ∧ g < w.heap.size := by
  unfold blkOf at hg
  obtain ⟨a, cap, rfl, oc, hz⟩ := h
  have h0 : l.length ≠ 0 := fun h => hg (.inl h)
  have he : (Value.slice a l.length cap).ownBlock = some g := by
    by_cases e : (Value.slice a l.length cap).ownBlock = some g
    · exact e
    · exact absurd (.inr e) hg
  rcases oc with h1 | ⟨q, off, rfl, hlo, hlt, _⟩
  · have := cellsOf_length RumV.cells_len l
    rw [h1] at this
    simp only [List.length_nil] at this
    omega
  · simp only [Value.ownBlock, Option.some.injEq] at he
    omega
theorem OwnNode.bound {w : World} {lo : Nat} {a : NodeM} {n : NodeV} (h : OwnNode w lo a n) {g : Nat} (hg : ¬ offN a n g) : lo ≤ g ∧ g < w.heap.size := by
  by_cases h1 : blkOf (vSl a n) n.view.length g
  · by_cases h2 : blkOf (rSl a n) n.rum.length g
    · by_cases h4 : blkOf (dSl a n) n.db.length g
      · by_cases h3 : ∀ b off, a.ta = some ⟨b, off, none⟩ → g ≠ b
        · exact absurd ⟨h1, h2, h3, h4⟩ hg
        · simp only [Classical.not_forall, Classical.not_not] at h3
          obtain ⟨b, off, e, rfl⟩ := h3
          exact h.tb _ off e
      · exact slBound (n := 0) h.d h4
    · exact slBoundR (n := 0) h.r h2
  · exact slBound (n := 0) h.v h1
theorem OwnMails.bound {w : World} {lo : Nat} {v : Value} {ms : List MailA} (h : OwnMails w lo v ms) {g : Nat} (hg : ¬ offM v ms g) : lo ≤ g ∧ g < w.heap.size := by
  by_cases h1 : blkOf v ms.length g
  · by_cases h2 : ∀ i (h : i < ms.length), blkOf (slM ms[i]) ms[i].l.length g
    · exact absurd ⟨h1, h2⟩ hg
    · simp only [Classical.not_forall] at h2
      obtain ⟨i, hi, h3⟩ := h2
      exact slBound (n := 0) (h.facts i hi) h3
  · obtain ⟨a, cap, rfl, oc, hz⟩ := h.row
    unfold blkOf at h1
    have h0 : ms.length ≠ 0 := fun h => h1 (.inl h)
    have he : (Value.slice a ms.length cap).ownBlock = some g := by
      by_cases e : (Value.slice a ms.length cap).ownBlock = some g
      · exact e
      · exact absurd (.inr e) h1
    rcases oc with h4 | ⟨q, off, rfl, hlo, hlt, _⟩
    · have := cellsOf_length MailA.cells_len ms
      rw [h4] at this
      simp only [List.length_nil] at this
      omega
    · simp only [Value.ownBlock, Option.some.injEq] at he
      omega
theorem OwnOut.bound {w : World} {lo : Nat} {a : NodeM} {n : NodeV} {v : Value} {ms : List MailA} (h : OwnOut w lo a n v ms) {g : Nat} (hg : ¬ (offN a n g ∧ offM v ms g)) : lo ≤ g ∧ g < w.heap.size := by
  by_cases h1 : offN a n g
  · exact h.mails.bound (fun h2 => hg ⟨h1, h2⟩)
  · exact h.node.bound h1
/-- An answer's lists are short. -/
structure OutSmall (x : NOutV) : Prop where
  node : NodeLen x.node 1048576
  mails : x.mails.length ≤ 100
  facts : ∀ m ∈ x.mails, m.facts.length ≤ 1000
theorem map_alike {ms ns : List MailA} (h : ms.map MailA.v = ns.map MailA.v) : ∀ i (hi : i < ms.length) (hj : i < ns.length), Alike ms[i] ns[i] := by
  intro i hi hj
  have e : (ms.map MailA.v)[i]'(by simpa using hi) = (ns.map MailA.v)[i]'(by simpa using hj) := by simp only [h]
  simp only [List.getElem_map, MailA.v, MailV.mk.injEq] at e
  exact e
theorem map_facts {x : NOutV} (hs : OutSmall x) {ms : List MailA} (h : ms.map MailA.v = x.mails) : ms.length ≤ 1048576 ∧ ∀ i (hi : i < ms.length), ms[i].l.length ≤ 1048576 := by
  have h1 : ms.length = x.mails.length := by rw [← h]; simp
  have h2 := hs.mails
  refine ⟨by omega, fun i hi => ?_⟩
  have h3 := hs.facts ms[i].v (by rw [← h]; exact List.mem_map.2 ⟨_, List.getElem_mem hi, rfl⟩)
  have : ms[i].v.facts = ms[i].l := rfl
  rw [this] at h3
  omega
theorem kM_small {x : NOutV} (hs : OutSmall x) (k : Nat) {ms : List MailA} (h : ms.map MailA.v = x.mails) : kM k ms ≤ k + 400000 := by
  have h1 : ms.length = x.mails.length := by rw [← h]; simp
  have h2 := hs.mails
  have hf : ∀ m ∈ ms, m.l.length ≤ 1000 := fun m hm => hs.facts m.v (by rw [← h]; exact List.mem_map.2 ⟨m, hm, rfl⟩)
  have key : ∀ (l : List MailA) (k : Nat), (∀ m ∈ l, m.l.length ≤ 1000) → kM k l ≤ k + 4000 * l.length := by
    intro l
    induction l with
    | nil => intro k _; simp [kM]
    | cons m r ih =>
      intro k hm
      have h0 := hm m (by simp)
      have := ih (k + 6 + 3 * m.l.length) (fun q hq => hm q (List.mem_cons_of_mem _ hq))
      simp only [kM, List.length_cons] at this ⊢
      omega
  have := key ms k hf
  omega
end Go.Proofs.Ytmdcankfjmkkeaa
/- The contracts of the program's copies of rumors and of doubts. -/
namespace Go.Proofs.Ytmdcankfjmkkeaa
open Go Go.RowKit
set_option linter.unusedVariables false
set_option linter.unusedSimpArgs false

set_option maxHeartbeats 1000000 in
set_option maxRecDepth 100000 in
theorem copiedDb_any (a : Option Addr) (cap : Nat) (l : List FactV) (w : World) (hl : l.length ≤ 1048576) (hrow : CellRow w a (cellsOf FactV.cells l)) :
    Calls Try.prog 80 #[.slice a l.length cap] w fun e w' => ∃ v, e = .returned v ∧ w'.ownsRow w.heap.size 90 3 v l.length (cellsOf FactV.cells l) ∧ Below w.heap.size w w' := by
  by_cases h0 : l.length = 0
  · obtain rfl : l = [] := List.eq_nil_of_length_eq_zero h0
    go_enter Try.func80, Try.ntmps80
    go_wp2
    go_ret
    exact ⟨_, rfl, World.ownsRow_nil _ _ _ _, Below.refl _ _⟩
  · have hlen4 := cellsOf_length FactV.cells_len l
    obtain ⟨b, off, rfl⟩ := hrow.addr (by omega)
    obtain ⟨i0, hi0, hz⟩ := Option.map_eq_some_iff.1 Try.infoDoubt
    simp only [Prod.mk.injEq] at hz
    obtain ⟨wm, hmk, hown, hgr⟩ := run_make_full (P := Try.prog) w w.heap.size 38 90 i0 _ 3 Try.underlying38 hi0 hz.1 hz.2.1 .i64 .i64 l.length (by rw [hz.2.2]; omega) (by unfold maxLen; omega) (Nat.le_refl _)
    have hb0 : Below w.heap.size w wm := (Below.refl _ _).grown hgr (Nat.le_refl _) (fun k e => by cases e)
    obtain ⟨cur, hg0, hcs⟩ : ∃ cur, wm.heap[w.heap.size]? = some (.cells cur 90 (0, 0)) ∧ cur.size = l.length * 3 := by
      rcases hown.2 with ⟨e, _⟩ | ⟨g, c, cur, e, _, h1, _, _, h2, _⟩
      · cases e
      · simp only [Value.slice.injEq, Option.some.injEq, Addr.mk.injEq, and_true, true_and] at e
        obtain ⟨rfl, rfl⟩ := e
        exact ⟨cur, h1, h2⟩
    have hsrc := (hrow.keep hb0).reads
    have hcp := run_copy_whole (P := Try.prog) wm 38 38 3 90 3 w.heap.size l.length l.length ⟨b, off, none⟩ cap cur 90 (cellsOf FactV.cells l) Try.underlying38 (by rw [hi0]; simp [hz.2.1]) hg0 hlen4 hsrc (by omega) (cellsOf_one l)
    have HO : Hid ((wm.setRow w.heap.size (cellsOf FactV.cells l).toArray).ownsRow w.heap.size 90 3 (.slice (some ⟨w.heap.size, 0, none⟩) l.length l.length) l.length (cellsOf FactV.cells l)) :=
      ⟨hlen4, .inr ⟨w.heap.size, l.length, (cellsOf FactV.cells l).toArray, rfl, Nat.le_refl _, setRow_heap _ _ _ _ _ _ hg0, Nat.le_refl _, by unfold maxLen; omega, by simpa using hlen4, by show (cellsOf FactV.cells l).take (l.length * 3) = _; exact List.take_of_length_le (by omega)⟩⟩
    have HB : Hid (Below w.heap.size w (wm.setRow w.heap.size (cellsOf FactV.cells l).toArray)) := below_setRow hb0 (Nat.le_refl _) _
    have hz0 : ((l.length : Int) == 0) = false := beq_eq_false_iff_ne.2 (by omega)
    clear hown hgr hsrc hlen4 hg0 hcs hb0 h0
    go_enter Try.func80, Try.ntmps80
    go_wp2
    go_ret
    exact ⟨_, rfl, HO.out, HB.out⟩
set_option maxHeartbeats 1000000 in
set_option maxRecDepth 100000 in
theorem copiedR_any (a : Option Addr) (cap : Nat) (l : List RumV) (w : World) (hl : l.length ≤ 1048576) (hrow : CellRow w a (cellsOf RumV.cells l)) :
    Calls Try.prog 78 #[.slice a l.length cap] w fun e w' => ∃ v, e = .returned v ∧ w'.ownsRow w.heap.size 77 4 v l.length (cellsOf RumV.cells l) ∧ Below w.heap.size w w' := by
  by_cases h0 : l.length = 0
  · obtain rfl : l = [] := List.eq_nil_of_length_eq_zero h0
    go_enter Try.func78, Try.ntmps78
    go_wp2
    go_ret
    exact ⟨_, rfl, World.ownsRow_nil _ _ _ _, Below.refl _ _⟩
  · have hlen4 := cellsOf_length RumV.cells_len l
    obtain ⟨b, off, rfl⟩ := hrow.addr (by omega)
    obtain ⟨i0, hi0, hz⟩ := Option.map_eq_some_iff.1 Try.infoRum
    simp only [Prod.mk.injEq] at hz
    obtain ⟨wm, hmk, hown, hgr⟩ := run_make_full (P := Try.prog) w w.heap.size 35 77 i0 _ 4 Try.underlying35 hi0 hz.1 hz.2.1 .i64 .i64 l.length (by rw [hz.2.2]; omega) (by unfold maxLen; omega) (Nat.le_refl _)
    have hb0 : Below w.heap.size w wm := (Below.refl _ _).grown hgr (Nat.le_refl _) (fun k e => by cases e)
    obtain ⟨cur, hg0, hcs⟩ : ∃ cur, wm.heap[w.heap.size]? = some (.cells cur 77 (0, 0)) ∧ cur.size = l.length * 4 := by
      rcases hown.2 with ⟨e, _⟩ | ⟨g, c, cur, e, _, h1, _, _, h2, _⟩
      · cases e
      · simp only [Value.slice.injEq, Option.some.injEq, Addr.mk.injEq, and_true, true_and] at e
        obtain ⟨rfl, rfl⟩ := e
        exact ⟨cur, h1, h2⟩
    have hsrc := (hrow.keep hb0).reads
    have hcp := run_copy_whole (P := Try.prog) wm 35 35 3 77 4 w.heap.size l.length l.length ⟨b, off, none⟩ cap cur 77 (cellsOf RumV.cells l) Try.underlying35 (by rw [hi0]; simp [hz.2.1]) hg0 hlen4 hsrc (by omega) (cellsOf_oneR l)
    have HO : Hid ((wm.setRow w.heap.size (cellsOf RumV.cells l).toArray).ownsRow w.heap.size 77 4 (.slice (some ⟨w.heap.size, 0, none⟩) l.length l.length) l.length (cellsOf RumV.cells l)) :=
      ⟨hlen4, .inr ⟨w.heap.size, l.length, (cellsOf RumV.cells l).toArray, rfl, Nat.le_refl _, setRow_heap _ _ _ _ _ _ hg0, Nat.le_refl _, by unfold maxLen; omega, by simpa using hlen4, by show (cellsOf RumV.cells l).take (l.length * 4) = _; exact List.take_of_length_le (by omega)⟩⟩
    have HB : Hid (Below w.heap.size w (wm.setRow w.heap.size (cellsOf RumV.cells l).toArray)) := below_setRow hb0 (Nat.le_refl _) _
    have hz0 : ((l.length : Int) == 0) = false := beq_eq_false_iff_ne.2 (by omega)
    clear hown hgr hsrc hlen4 hg0 hcs hb0 h0
    go_enter Try.func78, Try.ntmps78
    go_wp2
    go_ret
    exact ⟨_, rfl, HO.out, HB.out⟩
end Go.Proofs.Ytmdcankfjmkkeaa
/- The contract of the program's actingOf. -/
namespace Go.Proofs.Ytmdcankfjmkkeaa
open Go Go.RowKit
set_option linter.unusedVariables false
set_option linter.unusedSimpArgs false

theorem notEl_act : NotEl 83 := ⟨by decide, by decide, by decide, by decide⟩
theorem notEl_out : NotEl 46 := ⟨by decide, by decide, by decide, by decide⟩
theorem notEl_kept : NotEl 81 := ⟨by decide, by decide, by decide, by decide⟩
/-- What actingOf answers. -/
def ActPost (n : NodeV) (now : Int) (w : World) (e : Ending) (w' : World) : Prop := ∃ b a', e = .returned (.pointer (some ⟨b, 0, none⟩)) ∧ NodeSt 83 w' w.heap.size b a' n (.int .i64 now) (.slice none 0 0) (.int .i64 0) ∧ Below w.heap.size w w'
set_option maxHeartbeats 4000000 in
set_option maxRecDepth 100000 in
theorem actingOf_any (a : NodeM) (n : NodeV) (now : Int) (w : World) (hl : NodeLen n 1048576) (hrow : NodeRows w a n) :
    Calls Try.prog 49 #[nodeVal a n, .int .i64 now] w (ActPost n now w) := by
  have hlv := hl.v
  have hlr := hl.r
  have hlt := hl.t
  have hld := hl.d
  clear hl
  unfold nodeVal nodeCells
  have p0 := BlkIs.new w 40 #[.int .i64 n.id, .int .i64 n.inc, .int .i64 n.num, .int .i64 n.seed, .int .i64 n.next, .slice a.va n.view.length a.vc, .slice a.ra n.rum.length a.rc, .slice a.ta n.tl.length a.tc, .int .i64 n.at0, .int .i64 n.pb.node, .int .i64 n.pb.num, .int .i64 n.pb.due, .bool n.pb.asked, .slice a.da n.db.length a.dc]
  have B := (Below.refl w.heap.size w).alloc (Nat.le_refl _) (.cells #[.int .i64 n.id, .int .i64 n.inc, .int .i64 n.num, .int .i64 n.seed, .int .i64 n.next, .slice a.va n.view.length a.vc, .slice a.ra n.rum.length a.rc, .slice a.ta n.tl.length a.tc, .int .i64 n.at0, .int .i64 n.pb.node, .int .i64 n.pb.num, .int .i64 n.pb.due, .bool n.pb.asked, .slice a.da n.db.length a.dc] 40)
  go_enter Try.func49, Try.ntmps49
  go_upto_region 1 with fail
  obtain ⟨X0, hX⟩ : ∃ W, w.alloc (.cells #[.int .i64 n.id, .int .i64 n.inc, .int .i64 n.num, .int .i64 n.seed, .int .i64 n.next, .slice a.va n.view.length a.vc, .slice a.ra n.rum.length a.rc, .slice a.ta n.tl.length a.tc, .int .i64 n.at0, .int .i64 n.pb.node, .int .i64 n.pb.num, .int .i64 n.pb.due, .bool n.pb.asked, .slice a.da n.db.length a.dc] 40) = W := ⟨_, rfl⟩
  rw [hX] at p0 B ⊢
  clear hX
  have hp1 := p0.lt
  go_upto_region 2 with (first
    | (refine load_blk p0 rfl _ _ rfl rfl _ Try.underlying40 (by kernel_rfl) ?_)
    | (refine store_blk (BlkIs.new _ _ _) rfl _ _ _ rfl rfl rfl (by kernel_rfl) rfl (by kernel_rfl) ?_; intro X1 p1 k1))
  have hs1 : X0.heap.size < X1.heap.size := p1.lt
  obtain ⟨kb, hkb⟩ : ∃ k, X0.heap.size = k := ⟨_, rfl⟩
  have k2 : Below kb X0 X1 := by
    rw [← hkb]
    exact ((Below.refl _ _).alloc (Nat.le_refl _) _).trans (k1.belowNe (Nat.le_refl _) (by have := World.size_alloc X0 (.cells #[] 0); simp))
  rw [hkb] at p1 hs1 ⊢
  have hck : w.heap.size ≤ kb := by rw [← hkb]; exact B.size
  replace p0 : BlkIs X1 w.heap.size 40 #[.int .i64 n.id, .int .i64 n.inc, .int .i64 n.num, .int .i64 n.seed, .int .i64 n.next, .slice a.va n.view.length a.vc, .slice a.ra n.rum.length a.rc, .slice a.ta n.tl.length a.tc, .int .i64 n.at0, .int .i64 n.pb.node, .int .i64 n.pb.num, .int .i64 n.pb.due, .bool n.pb.asked, .slice a.da n.db.length a.dc] := p0.keep (k2.mono (by omega))
  replace B : Below w.heap.size w X1 := B.trans (k2.mono hck)
  have hwk : w.heap.size < kb := by omega
  clear k1 k2 hkb hp1
  have c5 : X1.cell? ⟨w.heap.size, 5, none⟩ = some (.slice a.va n.view.length a.vc) := p0.cell 5
  go_wp2_with fail
  refine (copiedF_any a.va a.vc n.view _ hlv (hrow.v.keep B)).mono ?_
  rintro e Yv ⟨v, rfl, rowv, bv⟩
  obtain ⟨sv, uv, rfl⟩ := rowSlice rowv
  replace rowv := rowLe rowv (show w.heap.size ≤ X1.heap.size from B.size)
  replace p0 := p0.keep bv
  replace p1 := p1.keep bv
  replace B := B.trans (bv.mono B.size)
  clear bv c5
  go_upto_region 3 with (refine store_cell p1 rfl _ _ _ rfl 5 (.slice sv n.view.length uv) rfl rfl (show 5 < 14 by decide) (by kernel_rfl) rfl ?_; intro Vv q1 k1)
  replace rowv := rowKeep rowv k1 (fun g e hg => p1.not_row notEl_kept.f rowv (hg ▸ e))
  replace p0 := p0.keepK k1 (by omega)
  replace B := B.trans (k1.belowNe hck B.size)
  replace p1 : BlkIs Vv kb 81 #[.int .i64 n.id, .int .i64 n.inc, .int .i64 n.num, .int .i64 n.seed, .int .i64 n.next, .slice sv n.view.length uv, .slice a.ra n.rum.length a.rc, .slice a.ta n.tl.length a.tc, .int .i64 n.at0, .int .i64 n.pb.node, .int .i64 n.pb.num, .int .i64 n.pb.due, .bool n.pb.asked, .slice a.da n.db.length a.dc] := q1
  clear q1 k1
  have c6 : Vv.cell? ⟨w.heap.size, 6, none⟩ = some (.slice a.ra n.rum.length a.rc) := p0.cell 6
  go_wp2_with fail
  refine (copiedR_any a.ra a.rc n.rum _ hlr (hrow.r.keep B)).mono ?_
  rintro e Yr ⟨v, rfl, rowr, br⟩
  obtain ⟨sr, ur, rfl⟩ := rowSlice rowr
  replace rowr := rowLe rowr (show w.heap.size ≤ Vv.heap.size from B.size)
  replace p0 := p0.keep br
  replace p1 := p1.keep br
  replace B := B.trans (br.mono B.size)
  replace rowv := rowBelow rowv br
  clear br c6
  go_upto_region 4 with (refine store_cell p1 rfl _ _ _ rfl 6 (.slice sr n.rum.length ur) rfl rfl (show 6 < 14 by decide) (by kernel_rfl) rfl ?_; intro Vr q1 k1)
  replace rowv := rowKeep rowv k1 (fun g e hg => p1.not_row notEl_kept.f rowv (hg ▸ e))
  replace rowr := rowKeep rowr k1 (fun g e hg => p1.not_row notEl_kept.r rowr (hg ▸ e))
  replace p0 := p0.keepK k1 (by omega)
  replace B := B.trans (k1.belowNe hck B.size)
  replace p1 : BlkIs Vr kb 81 #[.int .i64 n.id, .int .i64 n.inc, .int .i64 n.num, .int .i64 n.seed, .int .i64 n.next, .slice sv n.view.length uv, .slice sr n.rum.length ur, .slice a.ta n.tl.length a.tc, .int .i64 n.at0, .int .i64 n.pb.node, .int .i64 n.pb.num, .int .i64 n.pb.due, .bool n.pb.asked, .slice a.da n.db.length a.dc] := q1
  clear q1 k1
  have c7 : Vr.cell? ⟨w.heap.size, 7, none⟩ = some (.slice a.ta n.tl.length a.tc) := p0.cell 7
  go_wp2_with fail
  refine (copied_own a.ta a.tc n.tl _ hlt (hrow.t.keep B)).mono ?_
  rintro e Yt ⟨v, rfl, rowt, bt⟩
  obtain ⟨st, ut, rfl⟩ := rowSlice rowt
  replace rowt := rowLe rowt (show w.heap.size ≤ Vr.heap.size from B.size)
  replace p0 := p0.keep bt
  replace p1 := p1.keep bt
  replace B := B.trans (bt.mono B.size)
  replace rowv := rowBelow rowv bt
  replace rowr := rowBelow rowr bt
  clear bt c7
  go_upto_region 5 with (refine store_cell p1 rfl _ _ _ rfl 7 (.slice st n.tl.length ut) rfl rfl (show 7 < 14 by decide) (by kernel_rfl) rfl ?_; intro Vt q1 k1)
  replace rowv := rowKeep rowv k1 (fun g e hg => p1.not_row notEl_kept.f rowv (hg ▸ e))
  replace rowr := rowKeep rowr k1 (fun g e hg => p1.not_row notEl_kept.r rowr (hg ▸ e))
  replace rowt := rowKeep rowt k1 (fun g e hg => p1.not_row notEl_kept.i rowt (hg ▸ e))
  replace p0 := p0.keepK k1 (by omega)
  replace B := B.trans (k1.belowNe hck B.size)
  replace p1 : BlkIs Vt kb 81 #[.int .i64 n.id, .int .i64 n.inc, .int .i64 n.num, .int .i64 n.seed, .int .i64 n.next, .slice sv n.view.length uv, .slice sr n.rum.length ur, .slice st n.tl.length ut, .int .i64 n.at0, .int .i64 n.pb.node, .int .i64 n.pb.num, .int .i64 n.pb.due, .bool n.pb.asked, .slice a.da n.db.length a.dc] := q1
  clear q1 k1
  have c13 : Vt.cell? ⟨w.heap.size, 13, none⟩ = some (.slice a.da n.db.length a.dc) := p0.cell 13
  go_wp2_with fail
  refine (copiedDb_any a.da a.dc n.db _ hld (hrow.d.keep B)).mono ?_
  rintro e Yd ⟨v, rfl, rowd, bd⟩
  obtain ⟨sd, ud, rfl⟩ := rowSlice rowd
  replace rowd := rowLe rowd (show w.heap.size ≤ Vt.heap.size from B.size)
  replace p0 := p0.keep bd
  replace p1 := p1.keep bd
  replace B := B.trans (bd.mono B.size)
  replace rowv := rowBelow rowv bd
  replace rowr := rowBelow rowr bd
  replace rowt := rowBelow rowt bd
  clear bd c13
  go_upto_region 6 with (refine store_cell p1 rfl _ _ _ rfl 13 (.slice sd n.db.length ud) rfl rfl (show 13 < 14 by decide) (by kernel_rfl) rfl ?_; intro Vd q1 k1)
  replace rowv := rowKeep rowv k1 (fun g e hg => p1.not_row notEl_kept.f rowv (hg ▸ e))
  replace rowr := rowKeep rowr k1 (fun g e hg => p1.not_row notEl_kept.r rowr (hg ▸ e))
  replace rowt := rowKeep rowt k1 (fun g e hg => p1.not_row notEl_kept.i rowt (hg ▸ e))
  replace rowd := rowKeep rowd k1 (fun g e hg => p1.not_row notEl_kept.d rowd (hg ▸ e))
  replace p0 := p0.keepK k1 (by omega)
  replace B := B.trans (k1.belowNe hck B.size)
  replace p1 : BlkIs Vd kb 81 #[.int .i64 n.id, .int .i64 n.inc, .int .i64 n.num, .int .i64 n.seed, .int .i64 n.next, .slice sv n.view.length uv, .slice sr n.rum.length ur, .slice st n.tl.length ut, .int .i64 n.at0, .int .i64 n.pb.node, .int .i64 n.pb.num, .int .i64 n.pb.due, .bool n.pb.asked, .slice sd n.db.length ud] := q1
  clear q1 k1
  have hkx := p1.lt
  go_wp2_with (refine load_blk p1 rfl _ _ rfl rfl _ Try.underlying81 (by kernel_rfl) ?_)
  go_ret
  exact ⟨_, ⟨sv, uv, sr, ur, st, ut, sd, ud⟩, rfl, ⟨BlkIs.new _ _ _, B.size, (StRows.mk rowv rowr rowt rowd : StRows Vd w.heap.size ⟨sv, uv, sr, ur, st, ut, sd, ud⟩ n).keep ((Below.refl _ _).alloc (Nat.le_refl _) _)⟩, B.alloc B.size _⟩
end Go.Proofs.Ytmdcankfjmkkeaa
