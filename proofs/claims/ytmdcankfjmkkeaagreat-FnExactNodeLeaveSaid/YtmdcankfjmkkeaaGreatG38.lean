/- Rows of mails of one's own beside a node. -/
import Derived.Test.YtmdcankfjmkkeaaGreatG32
import Derived.Test.YtmdcankfjmkkeaaGreatNApp
import Derived.Test.YtmdcankfjmkkeaaGreatG31
import Derived.Test.YtmdcankfjmkkeaaGreatNSpecA
import Derived.Test.YtmdcankfjmkkeaaGreatG16
import Derived.Test.YtmdcankfjmkkeaaGreatG18
import Derived.Test.YtmdcankfjmkkeaaGreatSetImpl
namespace Go.Proofs.YtmdcankfjmkkeaaGreat
open Go Go.RowKit
set_option linter.unusedVariables false
set_option linter.unusedSimpArgs false

/-- Mails of one's own beside a node's lists. -/
structure MRows (w : World) (c : Nat) (va : Option Addr) (vn vc : Nat) (ma : Option Addr) (mc : Nat) (ms : List MailA) : Prop where
  m : w.ownsRow c 40 7 (.slice ma ms.length mc) ms.length (cellsOf MailA.cells ms)
  f : ∀ i (h : i < ms.length), w.ownsRow c 54 3 (slM ms[i]) ms[i].l.length (cellsOf FactV.cells ms[i].l)
  fv : ∀ i (h : i < ms.length) g, (slM ms[i]).ownBlock = some g → (Value.slice va vn vc).ownBlock ≠ some g
  ff : ∀ i j (hi : i < ms.length) (hj : j < ms.length), i ≠ j → ∀ g, (slM ms[i]).ownBlock = some g → (slM ms[j]).ownBlock ≠ some g
theorem MRows.keep {w w' : World} {c : Nat} {va : Option Addr} {vn vc : Nat} {ma : Option Addr} {mc : Nat} {ms : List MailA} (h : MRows w c va vn vc ma mc ms) (k : Below w.heap.size w w') : MRows w' c va vn vc ma mc ms := ⟨rowBelow h.m k, fun i hi => rowBelow (h.f i hi) k, h.fv, h.ff⟩
/-- A store into a block that no list lies in. -/
theorem MRows.keepB {w w' : World} {c b T : Nat} {cs : Array Value} {va : Option Addr} {vn vc : Nat} {ma : Option Addr} {mc : Nat} {ms : List MailA} (h : MRows w c va vn vc ma mc ms) (hb : BlkIs w b T cs) (h1 : T ≠ 40) (h2 : T ≠ 54) (k : Keeps (fun q => q ≠ b) w w') : MRows w' c va vn vc ma mc ms :=
  ⟨rowKeep h.m k (fun g e hg => hb.not_row h1 h.m (hg ▸ e)), fun i hi => rowKeep (h.f i hi) k (fun g e hg => hb.not_row h2 (h.f i hi) (hg ▸ e)), h.fv, h.ff⟩
theorem MRows.nil (w : World) (c : Nat) (va : Option Addr) (vn vc : Nat) : MRows w c va vn vc none 0 [] := ⟨⟨rfl, .inl ⟨rfl, rfl⟩⟩, fun i h => absurd h (by simp), fun i h => absurd h (by simp), fun i j h => absurd h (by simp)⟩
/-- One more. -/
theorem MRows.snoc {w : World} {c : Nat} {va : Option Addr} {vn vc : Nat} {ma ma' : Option Addr} {mc mc' : Nat} {ms : List MailA} {m : MailA} {w0 : World} (h0 : MRows w0 c va vn vc ma mc ms) (hf : ∀ i (h : i < ms.length), w.ownsRow c 54 3 (slM ms[i]) ms[i].l.length (cellsOf FactV.cells ms[i].l))
    (hm : w.ownsRow c 40 7 (.slice ma' (ms.length + 1) mc') (ms.length + 1) (cellsOf MailA.cells ms ++ cellsOf MailA.cells [m])) (hn : w.ownsRow c 54 3 (slM m) m.l.length (cellsOf FactV.cells m.l)) (hv : ∀ g, (slM m).ownBlock = some g → (Value.slice va vn vc).ownBlock ≠ some g)
    (hnew : ∀ g, (slM m).ownBlock = some g → ∀ i (h : i < ms.length), (slM ms[i]).ownBlock ≠ some g) : MRows w c va vn vc ma' mc' (ms ++ [m]) := by
  have hl : (ms ++ [m]).length = ms.length + 1 := by simp
  refine ⟨?_, fun i hi => ?_, fun i hi => ?_, fun i j hi hj hij g h1 h2 => ?_⟩
  · rw [hl, cellsOf_append]; exact hm
  · by_cases h : i < ms.length
    · have e : (ms ++ [m])[i] = ms[i] := List.getElem_append_left h
      rw [e]; exact hf i h
    · have e : (ms ++ [m])[i] = m := by
        have : i = ms.length := by rw [hl] at hi; omega
        subst this
        simp
      rw [e]; exact hn
  · by_cases h : i < ms.length
    · have e : (ms ++ [m])[i] = ms[i] := List.getElem_append_left h
      rw [e]; exact h0.fv i h
    · have e : (ms ++ [m])[i] = m := by
        have : i = ms.length := by rw [hl] at hi; omega
        subst this
        simp
      rw [e]; exact hv
  · rw [hl] at hi hj
    by_cases h : i < ms.length
    · have e : (ms ++ [m])[i] = ms[i] := List.getElem_append_left h
      rw [e] at h1
      by_cases h' : j < ms.length
      · have e' : (ms ++ [m])[j] = ms[j] := List.getElem_append_left h'
        rw [e'] at h2
        exact h0.ff i j h h' hij g h1 h2
      · have : j = ms.length := by omega
        subst this
        have e' : (ms ++ [m])[ms.length] = m := by simp
        rw [e'] at h2
        exact hnew g h2 i h h1
    · have : i = ms.length := by omega
      subst this
      have e : (ms ++ [m])[ms.length] = m := by simp
      rw [e] at h1
      have h' : j < ms.length := by omega
      have e' : (ms ++ [m])[j] = ms[j] := List.getElem_append_left h'
      rw [e'] at h2
      exact hnew g h1 j h' h2
/-- What is handed back: a node and mails of one's own. -/
theorem own_out {w : World} {c : Nat} {a : NodeM} {n : NodeV} {ma : Option Addr} {mc : Nat} {ms : List MailA} (h : StRows w c a n) (k : MRows w c a.va n.view.length a.vc ma mc ms) : OwnOut w c a n (.slice ma ms.length mc) ms where
  node := h.own
  mails := by
    refine ⟨?_, fun i hi => own_sl (k.f i hi), fun i hi g e => .inr (fun e2 => (row_ap (k.f i hi) k.m (by decide) e e2).elim), fun i j hi hj hij g e1 e2 => absurd e2 (k.ff i j hi hj hij g e1)⟩
    rcases k.m.2 with ⟨hv, hn⟩ | ⟨g, cap, cur, hv, hb, hg, hnc, hcm, hcs, ht⟩
    · have := List.eq_nil_of_length_eq_zero hn
      subst this
      simp only [Value.slice.injEq] at hv
      exact ⟨ma, mc, rfl, .inl rfl, .inl hv.1⟩
    · have h' := k.m
      simp only [Value.slice.injEq, true_and] at hv
      obtain ⟨rfl, rfl⟩ := hv
      refine ⟨_, _, rfl, .inr ⟨g, 0, rfl, hb, (h'.lt g rfl).2, fun i hi => ?_, fun i hi => h'.frozenAt _⟩, .inr ⟨g, rfl⟩⟩
      have hi2 := hi
      rw [cellsOf_length MailA.cells_len] at hi2
      rw [Nat.zero_add, h'.cellAt i (by omega), List.getElem?_eq_getElem hi]
  ap := by
    intro g
    by_cases hv : (Value.slice a.va n.view.length a.vc).ownBlock = some g
    · right
      exact ⟨.inr (fun e => (row_ap h.v k.m (by decide) hv e).elim), fun i hi => .inr (fun e => k.fv i hi g e hv)⟩
    by_cases hr : (Value.slice a.ra n.rum.length a.rc).ownBlock = some g
    · right
      exact ⟨.inr (fun e => (row_ap h.r k.m (by decide) hr e).elim), fun i hi => .inr (fun e => (row_ap h.r (k.f i hi) (by decide) hr e).elim)⟩
    by_cases hd : (Value.slice a.da n.db.length a.dc).ownBlock = some g
    · right
      exact ⟨.inr (fun e => (row_ap h.d k.m (by decide) hd e).elim), fun i hi => .inr (fun e => (row_ap h.d (k.f i hi) (by decide) hd e).elim)⟩
    by_cases ht : ∃ b off, a.ta = some ⟨b, off, none⟩ ∧ g = b
    · obtain ⟨b, off, e, rfl⟩ := ht
      have ht : (Value.slice a.ta n.tl.length a.tc).ownBlock = some g := by rw [e]; rfl
      right
      exact ⟨.inr (fun e => (row_ap h.t k.m (by decide) ht e).elim), fun i hi => .inr (fun e => (row_ap h.t (k.f i hi) (by decide) ht e).elim)⟩
    · left
      exact ⟨.inr hv, .inr hr, fun b off e e2 => ht ⟨b, off, e, e2⟩, .inr hd⟩
end Go.Proofs.YtmdcankfjmkkeaaGreat
/- What is handed back with mails; small facts. -/
namespace Go.Proofs.YtmdcankfjmkkeaaGreat
open Go Go.RowKit
set_option linter.unusedVariables false

/-- What is handed back with mails. -/
theorem out_post {c : Nat} {a : NodeM} {n : NodeV} {w w' : World} {ma : Option Addr} {mc : Nat} {ms : List MailA} {ml : List MailV} (miss : Int) (h : StRows w' c a n) (k : MRows w' c a.va n.view.length a.vc ma mc ms) (e : ms.map MailA.v = ml) (hb : Below c w w') : NPost c ⟨n, ml, miss, 0⟩ w (.returned (outVal a n (.slice ma ms.length mc) miss 0)) w' :=
  ⟨a, _, ms, rfl, own_out h k, e, h.room, hb⟩
theorem wrap_num {n : NodeV} (h : timeR n.num) : IntKind.i64.wrap (n.num + 1) = n.num + 1 := by
  unfold timeR at h
  rw [IntKind.wrap_i64]
  omega
theorem keepsV_below {c b n : Nat} {w w' : World} {v : Value} {xs : List Value} {e : TypeId} {size : Nat} (h : w.ownsRow c e size v n xs) (k : Keeps (fun q => q ≠ b ∧ v.ownBlock ≠ some q) w w') (hb : c ≤ b) (hc : c ≤ w.heap.size) : Below c w w' :=
  k.toBelow hc (fun q hq => ⟨by omega, fun e => by have := (h.lt q e).1; omega⟩)
end Go.Proofs.YtmdcankfjmkkeaaGreat
/- The contracts of the program's copies of rumors and of doubts. -/
namespace Go.Proofs.YtmdcankfjmkkeaaGreat
open Go Go.RowKit
set_option linter.unusedVariables false
set_option linter.unusedSimpArgs false

set_option maxHeartbeats 1000000 in
set_option maxRecDepth 100000 in
theorem copiedDb_any (a : Option Addr) (cap : Nat) (l : List FactV) (w : World) (hl : l.length ≤ 1048576) (hrow : CellRow w a (cellsOf FactV.cells l)) :
    Calls Tryz.prog 127 #[.slice a l.length cap] w fun e w' => ∃ v, e = .returned v ∧ w'.ownsRow w.heap.size 112 3 v l.length (cellsOf FactV.cells l) ∧ Below w.heap.size w w' := by
  by_cases h0 : l.length = 0
  · obtain rfl : l = [] := List.eq_nil_of_length_eq_zero h0
    go_enter Tryz.func127, Tryz.ntmps127
    go_wp2
    go_ret
    exact ⟨_, rfl, World.ownsRow_nil _ _ _ _, Below.refl _ _⟩
  · have hlen4 := cellsOf_length FactV.cells_len l
    obtain ⟨b, off, rfl⟩ := hrow.addr (by omega)
    obtain ⟨i0, hi0, hz⟩ := Option.map_eq_some_iff.1 Tryz.infoDoubt
    simp only [Prod.mk.injEq] at hz
    obtain ⟨wm, hmk, hown, hgr⟩ := run_make_full (P := Tryz.prog) w w.heap.size 30 112 i0 _ 3 Tryz.underlying30 hi0 hz.1 hz.2.1 .i64 .i64 l.length (by rw [hz.2.2]; omega) (by unfold maxLen; omega) (Nat.le_refl _)
    have hb0 : Below w.heap.size w wm := (Below.refl _ _).grown hgr (Nat.le_refl _) (fun k e => by cases e)
    obtain ⟨cur, hg0, hcs⟩ : ∃ cur, wm.heap[w.heap.size]? = some (.cells cur 112 (0, 0)) ∧ cur.size = l.length * 3 := by
      rcases hown.2 with ⟨e, _⟩ | ⟨g, c, cur, e, _, h1, _, _, h2, _⟩
      · cases e
      · simp only [Value.slice.injEq, Option.some.injEq, Addr.mk.injEq, and_true, true_and] at e
        obtain ⟨rfl, rfl⟩ := e
        exact ⟨cur, h1, h2⟩
    have hsrc := (hrow.keep hb0).reads
    have hcp := run_copy_whole (P := Tryz.prog) wm 30 30 3 112 3 w.heap.size l.length l.length ⟨b, off, none⟩ cap cur 112 (cellsOf FactV.cells l) Tryz.underlying30 (by rw [hi0]; simp [hz.2.1]) hg0 hlen4 hsrc (by omega) (cellsOf_one l)
    have HO : Hid ((wm.setRow w.heap.size (cellsOf FactV.cells l).toArray).ownsRow w.heap.size 112 3 (.slice (some ⟨w.heap.size, 0, none⟩) l.length l.length) l.length (cellsOf FactV.cells l)) :=
      ⟨hlen4, .inr ⟨w.heap.size, l.length, (cellsOf FactV.cells l).toArray, rfl, Nat.le_refl _, setRow_heap _ _ _ _ _ _ hg0, Nat.le_refl _, by unfold maxLen; omega, by simpa using hlen4, by show (cellsOf FactV.cells l).take (l.length * 3) = _; exact List.take_of_length_le (by omega)⟩⟩
    have HB : Hid (Below w.heap.size w (wm.setRow w.heap.size (cellsOf FactV.cells l).toArray)) := below_setRow hb0 (Nat.le_refl _) _
    have hz0 : ((l.length : Int) == 0) = false := beq_eq_false_iff_ne.2 (by omega)
    clear hown hgr hsrc hlen4 hg0 hcs hb0 h0
    go_enter Tryz.func127, Tryz.ntmps127
    go_wp2
    go_ret
    exact ⟨_, rfl, HO.out, HB.out⟩
set_option maxHeartbeats 1000000 in
set_option maxRecDepth 100000 in
theorem copiedR_any (a : Option Addr) (cap : Nat) (l : List RumV) (w : World) (hl : l.length ≤ 1048576) (hrow : CellRow w a (cellsOf RumV.cells l)) :
    Calls Tryz.prog 125 #[.slice a l.length cap] w fun e w' => ∃ v, e = .returned v ∧ w'.ownsRow w.heap.size 59 4 v l.length (cellsOf RumV.cells l) ∧ Below w.heap.size w w' := by
  by_cases h0 : l.length = 0
  · obtain rfl : l = [] := List.eq_nil_of_length_eq_zero h0
    go_enter Tryz.func125, Tryz.ntmps125
    go_wp2
    go_ret
    exact ⟨_, rfl, World.ownsRow_nil _ _ _ _, Below.refl _ _⟩
  · have hlen4 := cellsOf_length RumV.cells_len l
    obtain ⟨b, off, rfl⟩ := hrow.addr (by omega)
    obtain ⟨i0, hi0, hz⟩ := Option.map_eq_some_iff.1 Tryz.infoRum
    simp only [Prod.mk.injEq] at hz
    obtain ⟨wm, hmk, hown, hgr⟩ := run_make_full (P := Tryz.prog) w w.heap.size 24 59 i0 _ 4 Tryz.underlying24 hi0 hz.1 hz.2.1 .i64 .i64 l.length (by rw [hz.2.2]; omega) (by unfold maxLen; omega) (Nat.le_refl _)
    have hb0 : Below w.heap.size w wm := (Below.refl _ _).grown hgr (Nat.le_refl _) (fun k e => by cases e)
    obtain ⟨cur, hg0, hcs⟩ : ∃ cur, wm.heap[w.heap.size]? = some (.cells cur 59 (0, 0)) ∧ cur.size = l.length * 4 := by
      rcases hown.2 with ⟨e, _⟩ | ⟨g, c, cur, e, _, h1, _, _, h2, _⟩
      · cases e
      · simp only [Value.slice.injEq, Option.some.injEq, Addr.mk.injEq, and_true, true_and] at e
        obtain ⟨rfl, rfl⟩ := e
        exact ⟨cur, h1, h2⟩
    have hsrc := (hrow.keep hb0).reads
    have hcp := run_copy_whole (P := Tryz.prog) wm 24 24 3 59 4 w.heap.size l.length l.length ⟨b, off, none⟩ cap cur 59 (cellsOf RumV.cells l) Tryz.underlying24 (by rw [hi0]; simp [hz.2.1]) hg0 hlen4 hsrc (by omega) (cellsOf_oneR l)
    have HO : Hid ((wm.setRow w.heap.size (cellsOf RumV.cells l).toArray).ownsRow w.heap.size 59 4 (.slice (some ⟨w.heap.size, 0, none⟩) l.length l.length) l.length (cellsOf RumV.cells l)) :=
      ⟨hlen4, .inr ⟨w.heap.size, l.length, (cellsOf RumV.cells l).toArray, rfl, Nat.le_refl _, setRow_heap _ _ _ _ _ _ hg0, Nat.le_refl _, by unfold maxLen; omega, by simpa using hlen4, by show (cellsOf RumV.cells l).take (l.length * 4) = _; exact List.take_of_length_le (by omega)⟩⟩
    have HB : Hid (Below w.heap.size w (wm.setRow w.heap.size (cellsOf RumV.cells l).toArray)) := below_setRow hb0 (Nat.le_refl _) _
    have hz0 : ((l.length : Int) == 0) = false := beq_eq_false_iff_ne.2 (by omega)
    clear hown hgr hsrc hlen4 hg0 hcs hb0 h0
    go_enter Tryz.func125, Tryz.ntmps125
    go_wp2
    go_ret
    exact ⟨_, rfl, HO.out, HB.out⟩
end Go.Proofs.YtmdcankfjmkkeaaGreat
/- The contract of the program's actingOf. -/
namespace Go.Proofs.YtmdcankfjmkkeaaGreat
open Go Go.RowKit
set_option linter.unusedVariables false
set_option linter.unusedSimpArgs false

theorem notEl_act : NotEl 92 := ⟨by decide, by decide, by decide, by decide⟩
theorem notEl_out : NotEl 37 := ⟨by decide, by decide, by decide, by decide⟩
theorem notEl_kept : NotEl 90 := ⟨by decide, by decide, by decide, by decide⟩
/-- What actingOf answers. -/
def ActPost (n : NodeV) (now : Int) (w : World) (e : Ending) (w' : World) : Prop := ∃ b a', e = .returned (.pointer (some ⟨b, 0, none⟩)) ∧ NodeSt 92 w' w.heap.size b a' n (.int .i64 now) (.slice none 0 0) (.int .i64 0) ∧ Below w.heap.size w w'
set_option maxHeartbeats 4000000 in
set_option maxRecDepth 100000 in
theorem actingOf_any (a : NodeM) (n : NodeV) (now : Int) (w : World) (hl : NodeLen n 1048576) (hrow : NodeRows w a n) :
    Calls Tryz.prog 49 #[nodeVal a n, .int .i64 now] w (ActPost n now w) := by
  have hlv := hl.v
  have hlr := hl.r
  have hlt := hl.t
  have hld := hl.d
  clear hl
  unfold nodeVal nodeCells
  have p0 := BlkIs.new w 32 #[.int .i64 n.id, .int .i64 n.inc, .int .i64 n.num, .int .i64 n.seed, .int .i64 n.next, .slice a.va n.view.length a.vc, .slice a.ra n.rum.length a.rc, .slice a.ta n.tl.length a.tc, .int .i64 n.at0, .int .i64 n.pb.node, .int .i64 n.pb.num, .int .i64 n.pb.due, .bool n.pb.asked, .slice a.da n.db.length a.dc]
  have B := (Below.refl w.heap.size w).alloc (Nat.le_refl _) (.cells #[.int .i64 n.id, .int .i64 n.inc, .int .i64 n.num, .int .i64 n.seed, .int .i64 n.next, .slice a.va n.view.length a.vc, .slice a.ra n.rum.length a.rc, .slice a.ta n.tl.length a.tc, .int .i64 n.at0, .int .i64 n.pb.node, .int .i64 n.pb.num, .int .i64 n.pb.due, .bool n.pb.asked, .slice a.da n.db.length a.dc] 32)
  go_enter Tryz.func49, Tryz.ntmps49
  go_upto_region 1 with fail
  obtain ⟨X0, hX⟩ : ∃ W, w.alloc (.cells #[.int .i64 n.id, .int .i64 n.inc, .int .i64 n.num, .int .i64 n.seed, .int .i64 n.next, .slice a.va n.view.length a.vc, .slice a.ra n.rum.length a.rc, .slice a.ta n.tl.length a.tc, .int .i64 n.at0, .int .i64 n.pb.node, .int .i64 n.pb.num, .int .i64 n.pb.due, .bool n.pb.asked, .slice a.da n.db.length a.dc] 32) = W := ⟨_, rfl⟩
  rw [hX] at p0 B ⊢
  clear hX
  have hp1 := p0.lt
  go_upto_region 2 with (first
    | (refine load_blk p0 rfl _ _ rfl rfl _ Tryz.underlying32 (by kernel_rfl) ?_)
    | (refine store_blk (BlkIs.new _ _ _) rfl _ _ _ rfl rfl rfl (by kernel_rfl) rfl (by kernel_rfl) ?_; intro X1 p1 k1))
  have hs1 : X0.heap.size < X1.heap.size := p1.lt
  obtain ⟨kb, hkb⟩ : ∃ k, X0.heap.size = k := ⟨_, rfl⟩
  have k2 : Below kb X0 X1 := by
    rw [← hkb]
    exact ((Below.refl _ _).alloc (Nat.le_refl _) _).trans (k1.belowNe (Nat.le_refl _) (by have := World.size_alloc X0 (.cells #[] 0); simp))
  rw [hkb] at p1 hs1 ⊢
  have hck : w.heap.size ≤ kb := by rw [← hkb]; exact B.size
  replace p0 : BlkIs X1 w.heap.size 32 #[.int .i64 n.id, .int .i64 n.inc, .int .i64 n.num, .int .i64 n.seed, .int .i64 n.next, .slice a.va n.view.length a.vc, .slice a.ra n.rum.length a.rc, .slice a.ta n.tl.length a.tc, .int .i64 n.at0, .int .i64 n.pb.node, .int .i64 n.pb.num, .int .i64 n.pb.due, .bool n.pb.asked, .slice a.da n.db.length a.dc] := p0.keep (k2.mono (by omega))
  replace B : Below w.heap.size w X1 := B.trans (k2.mono hck)
  have hwk : w.heap.size < kb := by omega
  clear k1 k2 hkb hp1
  have c5 : X1.cell? ⟨w.heap.size, 5, none⟩ = some (.slice a.va n.view.length a.vc) := p0.cell 5
  go_wp2_with fail
  refine (copiedF_any a.va a.vc n.view _ hlv (hrow.v.keep B)).mono ?_
  rintro e Yv ⟨v, rfl, rowv, bv⟩
  obtain ⟨sv, uv, rfl⟩ := rowSlice rowv
  replace rowv := rowLe rowv (show w.heap.size ≤ X1.heap.size from B.size)
  replace p0 := p0.keep bv
  replace p1 := p1.keep bv
  replace B := B.trans (bv.mono B.size)
  clear bv c5
  go_upto_region 3 with (refine store_cell p1 rfl _ _ _ rfl 5 (.slice sv n.view.length uv) rfl rfl (show 5 < 14 by decide) (by kernel_rfl) rfl ?_; intro Vv q1 k1)
  replace rowv := rowKeep rowv k1 (fun g e hg => p1.not_row notEl_kept.f rowv (hg ▸ e))
  replace p0 := p0.keepK k1 (by omega)
  replace B := B.trans (k1.belowNe hck B.size)
  replace p1 : BlkIs Vv kb 90 #[.int .i64 n.id, .int .i64 n.inc, .int .i64 n.num, .int .i64 n.seed, .int .i64 n.next, .slice sv n.view.length uv, .slice a.ra n.rum.length a.rc, .slice a.ta n.tl.length a.tc, .int .i64 n.at0, .int .i64 n.pb.node, .int .i64 n.pb.num, .int .i64 n.pb.due, .bool n.pb.asked, .slice a.da n.db.length a.dc] := q1
  clear q1 k1
  have c6 : Vv.cell? ⟨w.heap.size, 6, none⟩ = some (.slice a.ra n.rum.length a.rc) := p0.cell 6
  go_wp2_with fail
  refine (copiedR_any a.ra a.rc n.rum _ hlr (hrow.r.keep B)).mono ?_
  rintro e Yr ⟨v, rfl, rowr, br⟩
  obtain ⟨sr, ur, rfl⟩ := rowSlice rowr
  replace rowr := rowLe rowr (show w.heap.size ≤ Vv.heap.size from B.size)
  replace p0 := p0.keep br
  replace p1 := p1.keep br
  replace B := B.trans (br.mono B.size)
  replace rowv := rowBelow rowv br
  clear br c6
  go_upto_region 4 with (refine store_cell p1 rfl _ _ _ rfl 6 (.slice sr n.rum.length ur) rfl rfl (show 6 < 14 by decide) (by kernel_rfl) rfl ?_; intro Vr q1 k1)
  replace rowv := rowKeep rowv k1 (fun g e hg => p1.not_row notEl_kept.f rowv (hg ▸ e))
  replace rowr := rowKeep rowr k1 (fun g e hg => p1.not_row notEl_kept.r rowr (hg ▸ e))
  replace p0 := p0.keepK k1 (by omega)
  replace B := B.trans (k1.belowNe hck B.size)
  replace p1 : BlkIs Vr kb 90 #[.int .i64 n.id, .int .i64 n.inc, .int .i64 n.num, .int .i64 n.seed, .int .i64 n.next, .slice sv n.view.length uv, .slice sr n.rum.length ur, .slice a.ta n.tl.length a.tc, .int .i64 n.at0, .int .i64 n.pb.node, .int .i64 n.pb.num, .int .i64 n.pb.due, .bool n.pb.asked, .slice a.da n.db.length a.dc] := q1
  clear q1 k1
  have c7 : Vr.cell? ⟨w.heap.size, 7, none⟩ = some (.slice a.ta n.tl.length a.tc) := p0.cell 7
  go_wp2_with fail
  refine (copied_own a.ta a.tc n.tl _ hlt (hrow.t.keep B)).mono ?_
  rintro e Yt ⟨v, rfl, rowt, bt⟩
  obtain ⟨st, ut, rfl⟩ := rowSlice rowt
  replace rowt := rowLe rowt (show w.heap.size ≤ Vr.heap.size from B.size)
  replace p0 := p0.keep bt
  replace p1 := p1.keep bt
  replace B := B.trans (bt.mono B.size)
  replace rowv := rowBelow rowv bt
  replace rowr := rowBelow rowr bt
  clear bt c7
  go_upto_region 5 with (refine store_cell p1 rfl _ _ _ rfl 7 (.slice st n.tl.length ut) rfl rfl (show 7 < 14 by decide) (by kernel_rfl) rfl ?_; intro Vt q1 k1)
  replace rowv := rowKeep rowv k1 (fun g e hg => p1.not_row notEl_kept.f rowv (hg ▸ e))
  replace rowr := rowKeep rowr k1 (fun g e hg => p1.not_row notEl_kept.r rowr (hg ▸ e))
  replace rowt := rowKeep rowt k1 (fun g e hg => p1.not_row notEl_kept.i rowt (hg ▸ e))
  replace p0 := p0.keepK k1 (by omega)
  replace B := B.trans (k1.belowNe hck B.size)
  replace p1 : BlkIs Vt kb 90 #[.int .i64 n.id, .int .i64 n.inc, .int .i64 n.num, .int .i64 n.seed, .int .i64 n.next, .slice sv n.view.length uv, .slice sr n.rum.length ur, .slice st n.tl.length ut, .int .i64 n.at0, .int .i64 n.pb.node, .int .i64 n.pb.num, .int .i64 n.pb.due, .bool n.pb.asked, .slice a.da n.db.length a.dc] := q1
  clear q1 k1
  have c13 : Vt.cell? ⟨w.heap.size, 13, none⟩ = some (.slice a.da n.db.length a.dc) := p0.cell 13
  go_wp2_with fail
  refine (copiedDb_any a.da a.dc n.db _ hld (hrow.d.keep B)).mono ?_
  rintro e Yd ⟨v, rfl, rowd, bd⟩
  obtain ⟨sd, ud, rfl⟩ := rowSlice rowd
  replace rowd := rowLe rowd (show w.heap.size ≤ Vt.heap.size from B.size)
  replace p0 := p0.keep bd
  replace p1 := p1.keep bd
  replace B := B.trans (bd.mono B.size)
  replace rowv := rowBelow rowv bd
  replace rowr := rowBelow rowr bd
  replace rowt := rowBelow rowt bd
  clear bd c13
  go_upto_region 6 with (refine store_cell p1 rfl _ _ _ rfl 13 (.slice sd n.db.length ud) rfl rfl (show 13 < 14 by decide) (by kernel_rfl) rfl ?_; intro Vd q1 k1)
  replace rowv := rowKeep rowv k1 (fun g e hg => p1.not_row notEl_kept.f rowv (hg ▸ e))
  replace rowr := rowKeep rowr k1 (fun g e hg => p1.not_row notEl_kept.r rowr (hg ▸ e))
  replace rowt := rowKeep rowt k1 (fun g e hg => p1.not_row notEl_kept.i rowt (hg ▸ e))
  replace rowd := rowKeep rowd k1 (fun g e hg => p1.not_row notEl_kept.d rowd (hg ▸ e))
  replace p0 := p0.keepK k1 (by omega)
  replace B := B.trans (k1.belowNe hck B.size)
  replace p1 : BlkIs Vd kb 90 #[.int .i64 n.id, .int .i64 n.inc, .int .i64 n.num, .int .i64 n.seed, .int .i64 n.next, .slice sv n.view.length uv, .slice sr n.rum.length ur, .slice st n.tl.length ut, .int .i64 n.at0, .int .i64 n.pb.node, .int .i64 n.pb.num, .int .i64 n.pb.due, .bool n.pb.asked, .slice sd n.db.length ud] := q1
  clear q1 k1
  have hkx := p1.lt
  go_wp2_with (refine load_blk p1 rfl _ _ rfl rfl _ Tryz.underlying90 (by kernel_rfl) ?_)
  go_ret
  exact ⟨_, ⟨sv, uv, sr, ur, st, ut, sd, ud⟩, rfl, ⟨BlkIs.new _ _ _, B.size, (StRows.mk rowv rowr rowt rowd : StRows Vd w.heap.size ⟨sv, uv, sr, ur, st, ut, sd, ud⟩ n).keep ((Below.refl _ _).alloc (Nat.le_refl _) _)⟩, B.alloc B.size _⟩
end Go.Proofs.YtmdcankfjmkkeaaGreat
