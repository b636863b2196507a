/- The contracts of chapter 3's specification: what is shuffled. -/
import Derived.Test.YtmdcankfjmkkeaaG13
import Derived.Test.YtmdcankfjmkkeaaG23
import Derived.OneCell
import Derived.Test.YtmdcankfjmkkeaaTSpecA
import Derived.Test.YtmdcankfjmkkeaaG19
import Derived.Maps.AppendAt
import Derived.Lib.AppendZerosOnto
import Derived.Test.YtmdcankfjmkkeaaVAt
import Derived.Test.YtmdcankfjmkkeaaG22
namespace Go.Proofs.Ytmdcankfjmkkeaa
open Go Go.RowKit
set_option linter.unusedVariables false

/-- What a shuffle hands back. -/
def shufOut (s : Int) (v : Value) : Value := .agg #[.int .i64 s, v]
theorem numsV_set (m : List Int) (i : Nat) (x : Int) : numsV (m.set i x) = (numsV m).set i (.int .i64 x) := by simp [numsV, List.map_set]
theorem numsV_at {m : List Int} {i : Nat} (h : i < m.length) : (numsV m)[i]? = some (.int .i64 (m.getD i 0)) := by
  rw [numsV, List.getElem?_map, List.getElem?_eq_getElem h, getD_at h]; rfl
/-- A row of one's own with one cell turned. -/
theorem own_set {w : World} {base g cap : Nat} {m : List Int} (h : w.ownsRow base 2 1 (.slice (some ⟨g, 0, none⟩) m.length cap) m.length (numsV m)) (i : Nat) (x : Int) :
    (w.setCell ⟨g, i, none⟩ (.int .i64 x)).ownsRow base 2 1 (.slice (some ⟨g, 0, none⟩) (m.set i x).length cap) (m.set i x).length (numsV (m.set i x)) := by
  have := (h.stored i (.int .i64 x)).1
  rw [numsV_set, List.length_set]
  exact this
theorem own_below {w w' : World} {base e size n : Nat} {v : Value} {xs : List Value} (h : w.ownsRow base e size v n xs) (hb : Below w.heap.size w w') : w'.ownsRow base e size v n xs := by
  refine ⟨h.1, ?_⟩
  rcases h.2 with k | ⟨g, cap, cur, hv, hbg, hg, rest⟩
  · exact .inl k
  · subst hv
    exact .inr ⟨g, cap, cur, rfl, hbg, (hb.block g (h.lt g rfl).2).trans hg, rest⟩
def ResIs (w : World) (r : Nat) : Prop := w.cell? ⟨r, 0, none⟩ = some (.int .i64 0) ∧ w.cell? ⟨r, 1, none⟩ = some (.slice none 0 0) ∧ w.frozen? ⟨r, 0, none⟩ = false ∧ w.frozen? ⟨r, 1, none⟩ = false
theorem ResIs.lt {w : World} {r : Nat} (h : ResIs w r) : r < w.heap.size := by
  rcases Nat.lt_or_ge r w.heap.size with k | k
  · exact k
  · have := h.1
    simp [World.cell?, Array.getElem?_eq_none k] at this
theorem ResIs.keep {w w' : World} {r : Nat} (h : ResIs w r) (hb : Below w.heap.size w w') : ResIs w' r := by
  have hl := h.lt
  obtain ⟨a, b, c, d⟩ := h
  exact ⟨(hb.cell (p := ⟨r, 0, none⟩) hl).trans a, (hb.cell (p := ⟨r, 1, none⟩) hl).trans b, (hb.frozen (p := ⟨r, 0, none⟩) hl).trans c, (hb.frozen (p := ⟨r, 1, none⟩) hl).trans d⟩
theorem ResIs.alloc {w : World} {r : Nat} (h : ResIs w r) (o : Obj) : ResIs (w.alloc o) r := h.keep ((Below.refl _ _).alloc (Nat.le_refl _) o)
theorem ResIs.set {w : World} {r g : Nat} (h : ResIs w r) (hne : g ≠ r) (i : Nat) (v : Value) : ResIs (w.setCell ⟨g, i, none⟩ v) r := by
  obtain ⟨a, b, c, d⟩ := h
  refine ⟨?_, ?_, by rw [World.frozen?_setCell]; exact c, by rw [World.frozen?_setCell]; exact d⟩
  · rw [World.cell?_setCell_other _ _ _ _ (fun e => hne (by have := congrArg Addr.block e; simpa using this))]; exact a
  · rw [World.cell?_setCell_other _ _ _ _ (fun e => hne (by have := congrArg Addr.block e; simpa using this))]; exact b
/-- Shuffle. -/
def shufL (l : List Int) (seed : Int) : List Int × Int := if 400 < (l.length : Int) ∨ (decide (0 ≤ seed) && decide (seed ≤ 2147483647)) = false then ([], 0) else mixL (l.length - 1) l seed
end Go.Proofs.Ytmdcankfjmkkeaa
/- The contracts of the specification's TurnNext and Some. -/
namespace Go.Proofs.Ytmdcankfjmkkeaa
open Go Go.RowKit
set_option linter.unusedVariables false
set_option linter.unusedSimpArgs false

theorem blk_put5 {W : World} {b t : Nat} {u0 u1 u2 u3 u4 : Value} (h : BlkIs W b t #[u0, u1, u2, u3, u4]) (v0 v1 v2 v3 v4 : Value) : BlkIs (((((W.setCell ⟨b, 0, none⟩ (v0)).setCell ⟨b, 1, none⟩ (v1)).setCell ⟨b, 2, none⟩ (v2)).setCell ⟨b, 3, none⟩ (v3)).setCell ⟨b, 4, none⟩ (v4)) b t #[v0, v1, v2, v3, v4] := by
  have := ((((h.put 0 v0).put 1 v1).put 2 v2).put 3 v3).put 4 v4
  simpa using this
theorem keeps_five (w : World) (b : Nat) (v0 v1 v2 v3 v4 : Value) : Keeps (fun k => k ≠ b) w (((((w.setCell ⟨b, 0, none⟩ (v0)).setCell ⟨b, 1, none⟩ (v1)).setCell ⟨b, 2, none⟩ (v2)).setCell ⟨b, 3, none⟩ (v3)).setCell ⟨b, 4, none⟩ (v4)) :=
  (((((Keeps.refl _ _).setCell (fun h => h rfl) _).setCell (fun h => h rfl) _).setCell (fun h => h rfl) _).setCell (fun h => h rfl) _).setCell (fun h => h rfl) _
theorem blk_put2 {W : World} {b t : Nat} {u0 u1 : Value} (h : BlkIs W b t #[u0, u1]) (v0 v1 : Value) : BlkIs ((W.setCell ⟨b, 0, none⟩ (v0)).setCell ⟨b, 1, none⟩ (v1)) b t #[v0, v1] := by
  have := (h.put 0 v0).put 1 v1
  simpa using this
theorem keeps_two (w : World) (b : Nat) (v0 v1 : Value) : Keeps (fun k => k ≠ b) w ((w.setCell ⟨b, 0, none⟩ (v0)).setCell ⟨b, 1, none⟩ (v1)) :=
  ((Keeps.refl _ _).setCell (fun h => h rfl) _).setCell (fun h => h rfl) _
/-- What an answer of TurnNext says, and what it owns. -/
def TOutPost (o : TOutV) (w : World) (e : Ending) (w' : World) : Prop :=
  ∃ v, e = .returned (.agg #[v, .int .i64 o.at0, .int .i64 o.node, .int .i64 o.seed, .int .i64 o.code]) ∧ w'.ownsRow w.heap.size 2 1 v o.list.length (numsV o.list) ∧ Below w.heap.size w w'
/-- One world. -/
def SameW (a b : World) : Prop := a = b
theorem rowLeN {w : World} {base base' e size : Nat} {v : Value} {n : Nat} {xs : List Value} (h : w.ownsRow base e size v n xs) (hb : base' ≤ base) : w.ownsRow base' e size v n xs :=
  ⟨h.1, h.2.imp id fun ⟨g, cap, cur, a, b, c⟩ => ⟨g, cap, cur, a, Nat.le_trans hb b, c⟩⟩
theorem run_append_numsT {w : World} (base : Nat) (v : Value) (n : Nat) (xs : List Value) (hown : w.ownsRow base 2 1 v n xs) (b off cap : Nat) (l : List Int) (hrow : NumRow w (some ⟨b, off, none⟩) l) (h63 : n + l.length ≤ 2000000) (hbase : base ≤ w.heap.size) :
    ∃ v' w', (Builtin.append_ #[24, 24] 24 #[v, .slice (some ⟨b, off, none⟩) l.length cap]).run Try.prog w = .ok v' w' ∧ w'.ownsRow base 2 1 v' (n + l.length) (xs ++ numsV l) ∧ w.grownBy w' v.ownBlock ∧ (v'.ownBlock = v.ownBlock ∨ v'.ownBlock = some w.heap.size) := by
  obtain ⟨i0, hi0, hz0, hzs, hzb⟩ := info_partsI
  have hsrc : ∀ j u, (numsV l)[j]? = some u → w.cell? ((⟨b, off, none⟩ : Addr).add j) = some u := fun j u hu => by
    have hj : j < l.length := by
      have := (List.getElem?_eq_some_iff.1 hu).1
      rwa [numsV_length] at this
    obtain ⟨b', off', e, _, hc⟩ := hrow.addrN (by omega)
    simp only [Option.some.injEq, Addr.mk.injEq, and_true] at e
    obtain ⟨rfl, rfl⟩ := e
    rw [addr_off, hc j hj]
    rw [numsV, List.getElem?_map, List.getElem?_eq_getElem hj] at hu
    exact hu
  obtain ⟨v', w', hr, h2, h3, _, h5⟩ := run_append_own_at (P := Try.prog) w base 24 24 2 i0 _ 1 8 Try.underlying24 hi0 hz0 hzs hzb rfl (by omega) v n xs hown ⟨b, off, none⟩ l.length cap (numsV l) (by rw [numsV_length]; omega) hsrc (fun v hv => by obtain ⟨x, _, rfl⟩ := List.mem_map.1 hv; rfl) (by unfold maxLen; omega) (by omega) hbase
  exact ⟨v', w', hr, h2, h3, h5⟩
end Go.Proofs.Ytmdcankfjmkkeaa
/- The contracts of the specification's TurnNext and Some. -/
namespace Go.Proofs.Ytmdcankfjmkkeaa
open Go Go.RowKit
set_option linter.unusedVariables false
set_option linter.unusedSimpArgs false

end Go.Proofs.Ytmdcankfjmkkeaa
/- The contracts of the specification's Some. -/
namespace Go.Proofs.Ytmdcankfjmkkeaa
open Go Go.RowKit
set_option linter.unusedVariables false
set_option linter.unusedSimpArgs false

theorem own_takeN {w : World} {base g cap n : Nat} {l : List Int} (h : w.ownsRow base 2 1 (.slice (some ⟨g, 0, none⟩) n cap) n (numsV l)) {k : Nat} (hk : k ≤ n) : w.ownsRow base 2 1 (.slice (some ⟨g, 0, none⟩) k cap) k (numsV (l.take k)) := by
  obtain ⟨hl, h⟩ := h
  have e : numsV (l.take k) = (numsV l).take k := by simp [numsV, List.map_take]
  refine ⟨by rw [e, List.length_take]; omega, .inr ?_⟩
  rcases h with ⟨h, _⟩ | ⟨g', c', cur, h, hb, hc, h1, h2, h3, h4⟩
  · cases h
  · cases h
    refine ⟨g, cap, cur, rfl, hb, hc, by omega, h2, h3, ?_⟩
    rw [e, ← h4, List.take_take]
    congr 1
    omega
def SomePost (l : List Int) (s : Int) (w : World) (e : Ending) (w' : World) : Prop :=
  ∃ v, e = .returned (shufOut s v) ∧ w'.ownsRow w.heap.size 2 1 v l.length (numsV l) ∧ Below w.heap.size w w'
def someL (nodes : List Int) (many seed : Int) : List Int := (mixL (nodes.length - 1) nodes seed).1.take many.toNat
def someS (nodes : List Int) (seed : Int) : Int := (mixL (nodes.length - 1) nodes seed).2

def SomeIs (nodes : List Int) (many seed : Int) (l : List Int) (s : Int) : Prop :=
  ((askT nodes seed ∧ 0 ≤ many ∧ many ≤ 6) ∧ l = someL nodes many seed ∧ s = someS nodes seed) ∨ (¬ (askT nodes seed ∧ 0 ≤ many ∧ many ≤ 6) ∧ l = [] ∧ s = 0)

end Go.Proofs.Ytmdcankfjmkkeaa
/- Nodes, plain: when one is right, and what it does. No program of its own. -/
namespace Go.Proofs.Ytmdcankfjmkkeaa
open Go Go.RowKit
set_option linter.unusedVariables false

/-- A doubt lies in memory as a fact does: its due time stands where a fact's status stands. One in its place: -/
def okDb (l : List FactV) (id : Int) (i : Nat) : Prop := ∃ h : i < l.length, (nodeR l[i].node ∧ l[i].node ≠ id ∧ timeR l[i].inc ∧ timeR l[i].st) ∧ ∀ k : 0 < i, (l[i - 1]'(by omega)).node < l[i].node
def doubtsR (l : List FactV) (id : Int) : Prop := l.length ≤ 6 ∧ ∀ i, i < l.length → okDb l id i
/-- Whom a node asks. -/
structure ProbeV where
  node : Int
  num : Int
  due : Int
  asked : Bool
def ProbeV.z : ProbeV := ⟨0, 0, 0, false⟩
structure NodeV where
  id : Int
  inc : Int
  num : Int
  seed : Int
  next : Int
  view : List FactV
  rum : List RumV
  tl : List Int
  at0 : Int
  pb : ProbeV
  db : List FactV
def seedR (n : Int) : Prop := 0 ≤ n ∧ n ≤ 2147483647
/-- Its own fact is there, of its life, and not doubted. -/
def NodeV.ownOk (n : NodeV) : Prop := (atF n.view n.id).node ≠ 0 ∧ (atF n.view n.id).inc = n.inc ∧ (atF n.view n.id).st ≠ 2
def NodeV.probeOk (n : NodeV) : Prop := n.pb = .z ∨ (nodeR n.pb.node ∧ n.pb.node ≠ n.id ∧ timeR n.pb.num ∧ timeR n.pb.due)
def NodeV.partsOk (n : NodeV) : Prop := nodeR n.id ∧ timeR n.inc ∧ timeR n.num ∧ timeR n.next ∧ seedR n.seed ∧ rightV n.view ∧ rightR n.rum ∧ TurnV.ok ⟨n.tl, n.at0⟩ ∧ doubtsR n.db n.id
def NodeV.ok (n : NodeV) : Prop := n.partsOk ∧ n.ownOk ∧ n.probeOk
/-- When it is to wake. -/
def NodeV.first (n : NodeV) : Int := if 0 < n.pb.node ∧ n.pb.due < n.next then n.pb.due else n.next
def minD (a : Int) (l : List FactV) : Int := l.foldl (fun a d => if d.st < a then d.st else a) a
def NodeV.wakeAt (n : NodeV) : Int := minD n.first n.db
theorem minD_step (a : Int) {l : List FactV} {k : Nat} (hk : k < l.length) : minD a (l.take (k + 1)) = if l[k].st < minD a (l.take k) then l[k].st else minD a (l.take k) := by
  unfold minD
  rw [List.take_succ_eq_append_getElem hk, List.foldl_append]
  rfl
theorem doubts_take {l : List FactV} {id : Int} {k : Nat} : (∀ i, i < k → okDb l id i) ∧ okDb l id k ↔ ∀ i, i < k + 1 → okDb l id i := by
  constructor
  · rintro ⟨h1, h2⟩ i hi
    by_cases e : i = k
    · rw [e]; exact h2
    · exact h1 i (by omega)
  · intro h
    exact ⟨fun i hi => h i (by omega), h k (by omega)⟩
/-- An answer of a node. -/
structure NOutV where
  node : NodeV
  mails : List MailV
  missed : Int
  code : Int
def NodeV.z : NodeV := ⟨0, 0, 0, 0, 0, [], [], [], 0, .z, []⟩
def illN (c : Int) : NOutV := ⟨.z, [], 0, c⟩
def newN (id inc seed now : Int) : NodeV := ⟨id, inc, 0, seed, now, [⟨id, inc, 1⟩], [⟨id, inc, 1, 0⟩], [], 0, .z, []⟩
def goneN (n : NodeV) : Prop := (atF n.view n.id).st = 3
/-- A doubt goes; a doubt is put. -/
def undoubtD (l : List FactV) (node : Int) : List FactV := l.filter fun d => decide (d.node ≠ node)
def placeD : List FactV → Int → Nat
  | [], _ => 0
  | x :: r, n => if x.node < n then placeD r n + 1 else 0
def doubtD (l : List FactV) (d : FactV) : List FactV := l.take (placeD l d.node) ++ d :: l.drop (placeD l d.node)
/-- What is learned. -/
def learnOwn (n : NodeV) (f : FactV) : NodeV := { n with inc := f.inc + 1, view := addF n.view ⟨n.id, f.inc + 1, 1⟩, rum := putR n.rum ⟨n.id, f.inc + 1, 1⟩ }
def learnOther (n : NodeV) (f : FactV) (now : Int) : NodeV := { n with view := addF n.view f, rum := putR n.rum f, db := if f.st = 2 then doubtD (undoubtD n.db f.node) ⟨f.node, f.inc, now + 12⟩ else undoubtD n.db f.node }
def newsN (n : NodeV) (f : FactV) : Prop := newsAt n.view f (placeN n.view f.node)
def deafN (n : NodeV) (f : FactV) : Prop := f.st = 1 ∨ f.inc < n.inc ∨ goneN n ∨ 1000000 ≤ f.inc
def LearnIs (n : NodeV) (f : FactV) (now : Int) (m : NodeV) : Prop :=
  (f.node = n.id ∧ deafN n f ∧ m = n) ∨ (f.node = n.id ∧ ¬ deafN n f ∧ m = learnOwn n f) ∨ (f.node ≠ n.id ∧ ¬ newsN n f ∧ m = n) ∨ (f.node ≠ n.id ∧ newsN n f ∧ m = learnOther n f now)
theorem learn_ex (n : NodeV) (f : FactV) (now : Int) : ∃ m, LearnIs n f now m := by
  by_cases h : f.node = n.id
  · by_cases h2 : deafN n f
    · exact ⟨_, .inl ⟨h, h2, rfl⟩⟩
    · exact ⟨_, .inr (.inl ⟨h, h2, rfl⟩)⟩
  · by_cases h2 : newsN n f
    · exact ⟨_, .inr (.inr (.inr ⟨h, h2, rfl⟩))⟩
    · exact ⟨_, .inr (.inr (.inl ⟨h, h2, rfl⟩))⟩
def LearnAll (n : NodeV) : List FactV → Int → NodeV → Prop
  | [], _, m => m = n
  | f :: r, now, m => ∃ k, LearnIs n f now k ∧ LearnAll k r now m
/-- What is told with a mail. -/
def tellN (n : NodeV) (m : MailV) : NodeV × MailV := ({ n with rum := toldR n.rum (pickedR n.rum m.dst) }, { m with facts := factsR (pickedR n.rum m.dst) })
def othersN (n : NodeV) (but : Int) : List Int := dropL (dropL (goneL n.view) n.id) but
end Go.Proofs.Ytmdcankfjmkkeaa
