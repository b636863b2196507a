/- A turn that comes in as an argument of a law, and the contracts of the exact laws' helpers over turns. -/
import Derived.Test.YtmdcankfjmkkeaaGreatG10
import Derived.Test.YtmdcankfjmkkeaaGreatG23
import Derived.Test.YtmdcankfjmkkeaaGreatG22
import Derived.OpenShut
import Derived.Lib.SmallJoins
namespace Go.Proofs.YtmdcankfjmkkeaaGreat
open Go Go.RowKit Go.ChangeShapes Go.WideShapes
set_option linter.unusedVariables false

theorem numArg_ofG {w : World} {x : Addr} {l c : Nat} {zs : List Int} (hl : l ≤ c) (hz : l ≤ zs.length) (hcell : ∀ i, i < zs.length → w.cell? (x.add i) = some (.int .i64 (zs.getD i 0))) (hwz : ∀ n ∈ zs, (Lit.int .i64 n).wf = true) : ∃ L : List Int, l = L.length ∧ NumArg w (some x) c L := by
  have hlen : (zs.take l).length = l := by rw [List.length_take]; omega
  refine ⟨zs.take l, hlen.symm, ?_, by omega, (fun e => by cases e), fun n hn => hwz n (List.mem_of_mem_take hn)⟩
  by_cases h0 : l = 0
  · exact .inl (by subst h0; simp)
  obtain ⟨b, off, spot⟩ := x
  have hc := hcell 0 (by omega)
  have hspot : spot = none := by simpa [Addr.add] using World.cell?_spot hc
  subst hspot
  have hb : b < w.heap.size := by
    rcases Nat.lt_or_ge b w.heap.size with k | k
    · exact k
    · simp [World.cell?, Addr.add, Array.getElem?_eq_none k] at hc
  refine .inr ⟨b, off, rfl, hb, fun i hi => ?_⟩
  have := hcell i (by omega)
  have e : (⟨b, off, none⟩ : Addr).add i = ⟨b, off + i, none⟩ := by by_cases e0 : i = 0 <;> simp [Addr.add, e0]
  rw [e, List.getD_eq_getElem?_getD, List.getElem?_eq_getElem (by omega)] at this
  rw [this]
  simp
set_option maxRecDepth 100000 in
theorem numArg_open {H : Type} {enc : TypeId × Value → H} {w : World} {base : Nat} {spare : Nat → Bool} {held : Bool} {fuel : Nat} {a : Option Addr} {len cap : Nat} {x : DataW H × List MemPlace} (h : DataW.trod enc Tryz.prog w base spare held fuel 25 [.slice a len cap] = some x) :
    ∃ l : List Int, len = l.length ∧ NumArg w a cap l ∧ l.length ≤ 9223372036854775807 := by
  rcases open_ints Tryz.underlying25 Tryz.underlying2 (by kernel_rfl) h with ⟨hcs, _⟩ | ⟨x, l, c, zs, hcs, _, hl, hm, hz, _, hcell, hwz⟩
  · simp at hcs
    obtain ⟨rfl, rfl, rfl⟩ := hcs
    exact ⟨[], rfl, numArg_nil _, by simp⟩
  · simp at hcs
    obtain ⟨rfl, rfl, rfl⟩ := hcs
    obtain ⟨L, e, h⟩ := numArg_ofG hl (by rw [hz]; split <;> omega) hcell hwz
    exact ⟨L, e, h, by unfold maxLen at hm; omega⟩
/-- A turn, and where its list lies. -/
structure TurnA where
  p : Option Addr
  cap : Nat
  l : List Int
  at0 : Int
def TurnA.val (t : TurnA) : Value := .agg #[.slice t.p t.l.length t.cap, .int .i64 t.at0]
set_option maxRecDepth 100000 in
theorem turnVal_open {H : Type} {enc : TypeId × Value → H} {w : World} {r : Reach} {b0 base : Nat} {spare : Nat → Bool} {held : Bool} {v : Value} {d : DataW H} {p : List MemPlace} (hv : Value.okWide Tryz.prog w r b0 63 v) (h : DataW.Trod enc Tryz.prog w base spare held 63 v d p) :
    ∃ t : TurnA, v = t.val ∧ (NumArg w t.p t.cap t.l ∧ t.l.length ≤ 9223372036854775807) := by
  obtain ⟨v0, v1, y0, y1, n, rfl, _, _, h0, h1⟩ := Joins.open_agg2 Tryz.underlying63 (by kernel_rfl) (by kernel_rfl) hv h
  obtain ⟨a, len, cap, e0⟩ := Joins.slice_form Tryz.underlying25 h0
  obtain ⟨i1, e1, _, w1⟩ := DataW.trod_int Tryz.underlying2 h1
  simp only [List.cons.injEq, and_true] at e0 e1
  subst e0 e1
  obtain ⟨l, rfl, hl, hm⟩ := numArg_open h0
  exact ⟨⟨a, cap, l, i1⟩, rfl, hl, hm⟩

def leftT (left : Int) (n : Nat) : Int := if left < (n : Int) then -1 else left - n
set_option maxRecDepth 100000 in
theorem szNums_any (a : Option Addr) (cap : Nat) (n : Nat) (left : Int) (w : World) (h0 : 0 ≤ left) (h1 : left ≤ 1048576) (hl : n ≤ 9223372036854775807) :
    Calls Tryz.prog 164 #[.slice a n cap, .int .i64 left] w fun e w' => e = .returned (.int .i64 (leftT left n)) ∧ w' = w := by
  have hw : IntKind.i64.wrap (left - (n : Int)) = left - (n : Int) := by rw [IntKind.wrap_i64]; omega
  by_cases hs : left < (n : Int)
  · have HE : Hid (leftT left n = -1) := if_pos hs
    have hneg : left - (n : Int) < 0 := by omega
    clear hs
    go_enter Tryz.func164, Tryz.ntmps164
    go_wp2
    go_ret
    exact ⟨ret_intE HE.out.symm, rfl⟩
  · have HE : Hid (leftT left n = left - n) := if_neg hs
    have hneg : ¬ left - (n : Int) < 0 := by omega
    clear hs
    go_enter Tryz.func164, Tryz.ntmps164
    go_wp2
    go_ret
    exact ⟨ret_intE HE.out.symm, rfl⟩
set_option maxRecDepth 100000 in
theorem szTurn_any (t : TurnA) (left : Int) (w : World) (h0 : 0 ≤ left) (h1 : left ≤ 1048576) (hl : t.l.length ≤ 9223372036854775807) :
    Calls Tryz.prog 102 #[t.val, .int .i64 left] w fun e w' => e = .returned (.int .i64 (leftT left t.l.length)) ∧ Below w.heap.size w w' := by
  obtain ⟨p, cap, l, at0⟩ := t
  unfold TurnA.val
  dsimp only at hl ⊢
  have b1 := (Below.refl w.heap.size w).alloc (Nat.le_refl _) (.cells #[.slice p l.length cap, .int .i64 at0] 63)
  go_enter Tryz.func102, Tryz.ntmps102
  go_wp2_with fail
  refine (szNums_any p cap l.length left _ h0 h1 hl).mono ?_
  rintro e x ⟨rfl, rfl⟩
  obtain ⟨q, hq⟩ : ∃ q : Int, leftT left l.length = q := ⟨_, rfl⟩
  have hqn : q < 0 → q = -1 := by rw [← hq]; unfold leftT; split <;> omega
  rw [hq]
  have HE : Hid (leftT left l.length = q) := hq
  clear hq
  by_cases hs : q < 0
  · have e1 := hqn hs
    subst e1
    clear hqn hs
    go_wp2
    go_ret
    exact ⟨by rw [HE.out]; rfl, b1⟩
  · clear hqn
    go_wp2
    go_ret
    exact ⟨by rw [HE.out]; rfl, b1⟩
set_option maxHeartbeats 1000000 in
set_option maxRecDepth 100000 in
theorem toTurn_any (p : Option Addr) (cap : Nat) (l : List Int) (at0 : Int) (w : World) (hl : l.length ≤ 1048576) (hrow : NumRow w p l) :
    Calls Tryz.prog 106 #[.agg #[.slice p l.length cap, .int .i64 at0]] w fun e w' => ∃ g, e = .returned (turnV (.slice (some ⟨g, 0, none⟩) l.length l.length) at0) ∧ OwnNums w' w.heap.size (some ⟨g, 0, none⟩) l ∧ (w.heap.size ≤ g ∧ g < w'.heap.size) ∧ Below w.heap.size w w' := by
  have B0 := (((Below.refl w.heap.size w).alloc (Nat.le_refl _) (.cells #[.slice p l.length cap, .int .i64 at0] 63)).alloc (by simp) (.cells #[.slice none 0 0, .int .i64 0] 27)).alloc (by simp; omega) (.cells #[.slice none 0 0, .int .i64 0] 27)
  have p0 := ((BlkIs.new w 63 #[.slice p l.length cap, .int .i64 at0]).keep ((Below.refl _ _).alloc (Nat.le_refl _) (.cells #[.slice none 0 0, .int .i64 0] 27))).keep ((Below.refl _ _).alloc (Nat.le_refl _) (.cells #[.slice none 0 0, .int .i64 0] 27))
  have p1 := (BlkIs.new (w.alloc (.cells #[.slice p l.length cap, .int .i64 at0] 63)) 27 #[.slice none 0 0, .int .i64 0]).keep ((Below.refl _ _).alloc (Nat.le_refl _) (.cells #[.slice none 0 0, .int .i64 0] 27))
  have p2 := BlkIs.new ((w.alloc (.cells #[.slice p l.length cap, .int .i64 at0] 63)).alloc (.cells #[.slice none 0 0, .int .i64 0] 27)) 27 #[.slice none 0 0, .int .i64 0]
  rw [World.size_alloc] at p1
  rw [World.size_alloc, World.size_alloc] at p2
  go_enter Tryz.func106, Tryz.ntmps106
  go_upto_region 2 with fail
  obtain ⟨W, hW⟩ : ∃ W, ((w.alloc (.cells #[.slice p l.length cap, .int .i64 at0] 63)).alloc (.cells #[.slice none 0 0, .int .i64 0] 27)).alloc (.cells #[.slice none 0 0, .int .i64 0] 27) = W := ⟨_, rfl⟩
  rw [hW] at B0 p0 p1 p2 ⊢
  have hs : w.heap.size + 3 ≤ W.heap.size := by rw [← hW]; simp
  have HS : Hid (w.heap.size + 3 ≤ W.heap.size) := hs
  clear hW hs
  have hrowW := hrow.keep B0
  have c0 : W.cell? ⟨w.heap.size, 0, none⟩ = some (.slice p l.length cap) := p0.cell 0
  go_wp2_with fail
  refine (toNums_any p cap l _ hl hrowW).mono ?_
  rintro e x ⟨rfl, ox0, bx⟩
  have ox := OwnNums.of_row (lo := W.heap.size) ox0 (Nat.le_refl _)
  obtain ⟨g, hg⟩ : ∃ g, W.heap.size = g := ⟨_, rfl⟩
  have HG : Hid (W.heap.size = g) := hg
  have HGX : Hid (g < x.heap.size) := by rw [← hg]; exact ox0.lt
  have B1 := B0.trans (bx.mono B0.size)
  have q0 := p0.keep bx
  have q1 := p1.keep bx
  have q2 := p2.keep bx
  have d1 : x.cell? ⟨w.heap.size, 1, none⟩ = some (.int .i64 at0) := q0.cell 1
  have d0 : x.cell? ⟨w.heap.size + 1 + 1, 0, none⟩ = some (.slice none 0 0) := q2.cell 0
  have e0 : x.cell? ⟨w.heap.size + 1 + 1, 1, none⟩ = some (.int .i64 0) := q2.cell 1
  have f0 := q2.fz 0
  have f1 := q2.fz 1
  rw [hg] at ox ⊢
  clear bx p0 p1 p2 c0 hrowW B0 hg ox0
  go_upto_region 4 with fail
  obtain ⟨Y, hY⟩ : ∃ Y, (x.setCell ⟨w.heap.size + 1 + 1, 0, none⟩ (.slice (some ⟨g, 0, none⟩) l.length l.length)).setCell ⟨w.heap.size + 1 + 1, 1, none⟩ (.int .i64 at0) = Y := ⟨_, rfl⟩
  have K2 := keeps_two x (w.heap.size + 1 + 1) (.slice (some ⟨g, 0, none⟩) l.length l.length) (.int .i64 at0)
  have r2 := blk_put2 q2 (.slice (some ⟨g, 0, none⟩) l.length l.length) (.int .i64 at0)
  have r1 := q1.keepK K2 (by omega)
  have B2 := B1.trans (K2.toBelow B1.size (fun k hk => by omega))
  have o2 := ox.keepK K2 (fun b hb _ => by have := HS.out; have := HG.out; omega)
  rw [hY] at K2 r1 r2 B2 o2 ⊢
  have e0 : Y.cell? ⟨w.heap.size + 1 + 1, 0, none⟩ = some (.slice (some ⟨g, 0, none⟩) l.length l.length) := r2.cell 0
  have e1 : Y.cell? ⟨w.heap.size + 1 + 1, 1, none⟩ = some (.int .i64 at0) := r2.cell 1
  have z0 : Y.cell? ⟨w.heap.size + 1, 0, none⟩ = some (.slice none 0 0) := r1.cell 0
  have z1 : Y.cell? ⟨w.heap.size + 1, 1, none⟩ = some (.int .i64 0) := r1.cell 1
  have y0 := r1.fz 0
  have y1 := r1.fz 1
  have Kq := keeps_two Y (w.heap.size + 1) (.slice (some ⟨g, 0, none⟩) l.length l.length) (.int .i64 at0)
  have rq := blk_put2 r1 (.slice (some ⟨g, 0, none⟩) l.length l.length) (.int .i64 at0)
  have Bq := B2.trans (Kq.toBelow B2.size (fun k hk => by omega))
  have HGZ := Nat.lt_of_lt_of_le HGX.out (Nat.le_trans K2.size Kq.size)
  have oq := o2.keepK Kq (fun b hb _ => by have := HS.out; have := HG.out; omega)
  clear hY K2 r1 r2 B2 o2 q0 q1 q2 d1 d0 f0 f1 ox B1 hrow
  go_wp2
  obtain ⟨Z, hZ⟩ : ∃ Z, (Y.setCell ⟨w.heap.size + 1, 0, none⟩ (.slice (some ⟨g, 0, none⟩) l.length l.length)).setCell ⟨w.heap.size + 1, 1, none⟩ (.int .i64 at0) = Z := ⟨_, rfl⟩
  rw [hZ] at rq Bq oq HGZ ⊢
  have t0 : Z.cell? ⟨w.heap.size + 1, 0, none⟩ = some (.slice (some ⟨g, 0, none⟩) l.length l.length) := rq.cell 0
  have t1 : Z.cell? ⟨w.heap.size + 1, 1, none⟩ = some (.int .i64 at0) := rq.cell 1
  exact bodyPost_ret (v := .agg #[.slice (some ⟨g, 0, none⟩) l.length l.length, .int .i64 at0]) (by simp [results, Tryz.results106, go_sem, t0, t1]) rfl ⟨g, rfl, oq.le (by have := HS.out; have := HG.out; omega), ⟨by have := HS.out; have := HG.out; omega, HGZ⟩, Bq⟩
set_option maxRecDepth 100000 in
theorem eqTurn_same (p1 p2 : Option Addr) (c1 c2 : Nat) (l : List Int) (at0 : Int) (w : World) (hl : l.length ≤ 1048576) (h1 : NumRow w p1 l) (h2 : NumRow w p2 l) :
    Calls Tryz.prog 112 #[.agg #[.slice p1 l.length c1, .int .i64 at0], .agg #[.slice p2 l.length c2, .int .i64 at0]] w fun e w' => e = .returned (.bool true) ∧ Below w.heap.size w w' := by
  have B0 := ((Below.refl w.heap.size w).alloc (Nat.le_refl _) (.cells #[.slice p1 l.length c1, .int .i64 at0] 27)).alloc (by simp) (.cells #[.slice p2 l.length c2, .int .i64 at0] 27)
  have m0 := (BlkIs.new w 27 #[.slice p1 l.length c1, .int .i64 at0]).keep ((Below.refl _ _).alloc (Nat.le_refl _) (.cells #[.slice p2 l.length c2, .int .i64 at0] 27))
  have m1 := BlkIs.new (w.alloc (.cells #[.slice p1 l.length c1, .int .i64 at0] 27)) 27 #[.slice p2 l.length c2, .int .i64 at0]
  rw [World.size_alloc] at m1
  have n1 := h1.keep B0
  have n2 := h2.keep B0
  go_enter Tryz.func112, Tryz.ntmps112
  go_wp2_with fail
  refine (eqNums_same p1 p2 c1 c2 l _ hl n1 n2).mono ?_
  rintro e x ⟨rfl, bx⟩
  have B1 := B0.trans (bx.mono B0.size)
  have a1 : x.cell? ⟨w.heap.size, 1, none⟩ = some (.int .i64 at0) := (m0.keep bx).cell 1
  have a2 : x.cell? ⟨w.heap.size + 1, 1, none⟩ = some (.int .i64 at0) := (m1.keep bx).cell 1
  clear m0 m1 n1 n2 bx B0
  go_wp2
  go_ret
  exact ⟨rfl, B1⟩
/-- An answer of TurnNext, in memory. -/
def turnOutV (p : Option Addr) (cap : Nat) (o : TOutV) : Value := .agg #[.slice p o.list.length cap, .int .i64 o.at0, .int .i64 o.node, .int .i64 o.seed, .int .i64 o.code]
def turnOutC (p : Option Addr) (cap : Nat) (o : TOutV) : Array Value := #[.slice p o.list.length cap, .int .i64 o.at0, .int .i64 o.node, .int .i64 o.seed, .int .i64 o.code]
/-- An answer of TurnNext, and the list that it owns. -/
def TOutPostI (o : TOutV) (w : World) (e : Ending) (w' : World) : Prop :=
  ∃ a cap, e = .returned (turnOutV a cap o) ∧ OwnNums w' w.heap.size a o.list ∧ (∀ b off, a = some ⟨b, off, none⟩ → w.heap.size ≤ b ∧ b < w'.heap.size) ∧ Below w.heap.size w w'
theorem tOutPost_own {o : TOutV} {w : World} {e : Ending} {w' : World} (h : TOutPost o w e w') : TOutPostI o w e w' := by
  obtain ⟨v, rfl, own, b⟩ := h
  obtain ⟨a, cap, rfl, ow⟩ := own_nums own
  exact ⟨a, cap, rfl, ow, fun b off e => own.lt b (by rw [e]; rfl), b⟩
theorem tnext_len {t : TurnV} {nodes : List Int} {seed : Int} {o : TOutV} (h : TNextIs t nodes seed o) : o.list.length ≤ 6 := by
  rcases h with ⟨_, rfl⟩ | ⟨_, _, rfl⟩ | ⟨_, _, _, rfl⟩ | ⟨h, _, _, i, _, rfl⟩ | ⟨_, h, _, _, rfl⟩
  · simp
  · simp
  · simp
  · exact nodesT_len h.1
  · dsimp only
    rw [mixL_length]
    exact nodesT_len h.1
theorem someIs_ex (nodes : List Int) (many seed : Int) : ∃ l s, SomeIs nodes many seed l s := by
  by_cases h : askT nodes seed ∧ 0 ≤ many ∧ many ≤ 6
  · exact ⟨_, _, .inl ⟨h, rfl, rfl⟩⟩
  · exact ⟨_, _, .inr ⟨h, rfl, rfl⟩⟩
theorem someIs_len {nodes : List Int} {many seed : Int} {l : List Int} {s : Int} (h : SomeIs nodes many seed l s) : l.length ≤ 6 := by
  rcases h with ⟨h, rfl, _⟩ | ⟨_, rfl, _⟩
  · have := nodesT_len h.1.1
    unfold someL
    rw [List.length_take, mixL_length]
    omega
  · simp
theorem OwnNums.besideQ {w w' : World} {lo : Nat} {a : Option Addr} {l : List Int} (h : OwnNums w lo a l) (hk : ∀ b off, a = some ⟨b, off, none⟩ → b < w.heap.size → w'.heap[b]? = w.heap[b]?) (hs : w.heap.size ≤ w'.heap.size) : OwnNums w' lo a l := by
  rcases h with h | ⟨q, off, rfl, hlo, hlt, hc, hf⟩
  · exact .inl h
  · have hq : w'.heap[q]? = w.heap[q]? := hk q off rfl hlt
    exact .inr ⟨q, off, rfl, hlo, by omega, fun i hi => (World.cell?_of_block (a := ⟨q, off + i, none⟩) hq).trans (hc i hi), fun i hi => (World.frozen?_of_block (a := ⟨q, off + i, none⟩) hq).trans (hf i hi)⟩
theorem BlkIs.besideQ {w w' : World} {b t : Nat} {cs : Array Value} (h : BlkIs w b t cs) (hk : w'.heap[b]? = w.heap[b]?) : BlkIs w' b t cs := hk.trans h
/-- What marking a list leaves. -/
def MarkPost (lo : Nat) (p : Option Addr) (k : Int) (n : Nat) (w : World) (e : Ending) (w' : World) : Prop :=
  e = .returned (.int .i64 (k + n)) ∧ OwnNums w' lo p (marks k n) ∧ Below lo w w' ∧ ∀ c, c < w.heap.size → (∀ b off, p = some ⟨b, off, none⟩ → c ≠ b) → w'.heap[c]? = w.heap[c]?
set_option maxRecDepth 100000 in
theorem markTurn_any (lo : Nat) (p : Option Addr) (cap : Nat) (l : List Int) (at0 k : Int) (w : World) (hl : l.length ≤ 1048576) (hk0 : 0 ≤ k) (hk1 : k ≤ 1000000000) (hlo : lo ≤ w.heap.size) (hrow : OwnNums w lo p l) :
    Calls Tryz.prog 117 #[.agg #[.slice p l.length cap, .int .i64 at0], .int .i64 k] w (MarkPost lo p k l.length w) := by
  have b1 := (Below.refl w.heap.size w).alloc (Nat.le_refl _) (.cells #[.slice p l.length cap, .int .i64 at0] 27)
  have ho := hrow.keep b1
  go_enter Tryz.func117, Tryz.ntmps117
  go_wp2_with fail
  refine (mark_any lo _ _ l k _ hl hk0 hk1 (Nat.le_trans hlo b1.size) ho).mono ?_
  rintro e x1 ⟨rfl, o1, b2, k2, s2⟩
  have HK : Hid (∀ c, c < w.heap.size → (∀ b off, p = some ⟨b, off, none⟩ → c ≠ b) → x1.heap[c]? = w.heap[c]?) := fun c hc hne => (k2 c hne).trans (b1.block c hc)
  have HO : Hid (OwnNums x1 lo p (marks k l.length)) := o1
  have HB : Hid (Below lo w x1) := (b1.mono hlo).trans b2
  clear k2 s2 o1 b2 ho
  go_wp2
  go_ret
  exact ⟨rfl, HO.out, HB.out, HK.out⟩
set_option maxRecDepth 100000 in
theorem heldTurn_any (p : Option Addr) (cap n : Nat) (at0 k : Int) (w : World) (hl : n ≤ 1048576) (hk0 : 0 ≤ k) (hk1 : k ≤ 1000000000) (hrow : NumRow w p (marks k n)) :
    Calls Tryz.prog 176 #[.agg #[.slice p n cap, .int .i64 at0], .int .i64 k] w fun e w' => e = .returned (.int .i64 (k + n)) ∧ Below w.heap.size w w' := by
  have b1 := (Below.refl w.heap.size w).alloc (Nat.le_refl _) (.cells #[.slice p n cap, .int .i64 at0] 27)
  have ho := hrow.keep b1
  have hpos : ¬ k + (n : Int) < 0 := by omega
  go_enter Tryz.func176, Tryz.ntmps176
  go_wp2_with fail
  refine (held_any _ _ n k _ hl hk0 hk1 ho).mono ?_
  rintro e x1 ⟨rfl, rfl⟩
  go_wp2
  go_ret
  exact ⟨rfl, b1⟩
end Go.Proofs.YtmdcankfjmkkeaaGreat
