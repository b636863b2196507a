/- The contracts of the specification's TurnNext and Some. -/
import Derived.Test.YtmdcankfjmkkeaaGreatTSpecB
import Derived.Test.YtmdcankfjmkkeaaGreatVAt
import Derived.Test.YtmdcankfjmkkeaaGreatG11
import Derived.Test.YtmdcankfjmkkeaaGreatG18
import Derived.Test.YtmdcankfjmkkeaaGreatG3
namespace Go.Proofs.YtmdcankfjmkkeaaGreat
open Go Go.RowKit
set_option linter.unusedVariables false
set_option linter.unusedSimpArgs false

end Go.Proofs.YtmdcankfjmkkeaaGreat
/- The contracts of the specification's Some. -/
namespace Go.Proofs.YtmdcankfjmkkeaaGreat
open Go Go.RowKit
set_option linter.unusedVariables false
set_option linter.unusedSimpArgs false

theorem own_takeN {w : World} {base g cap n : Nat} {l : List Int} (h : w.ownsRow base 2 1 (.slice (some ⟨g, 0, none⟩) n cap) n (numsV l)) {k : Nat} (hk : k ≤ n) : w.ownsRow base 2 1 (.slice (some ⟨g, 0, none⟩) k cap) k (numsV (l.take k)) := by
  obtain ⟨hl, h⟩ := h
  have e : numsV (l.take k) = (numsV l).take k := by simp [numsV, List.map_take]
  refine ⟨by rw [e, List.length_take]; omega, .inr ?_⟩
  rcases h with ⟨h, _⟩ | ⟨g', c', cur, h, hb, hc, h1, h2, h3, h4⟩
  · cases h
  · cases h
    refine ⟨g, cap, cur, rfl, hb, hc, by omega, h2, h3, ?_⟩
    rw [e, ← h4, List.take_take]
    congr 1
    omega
def SomePost (l : List Int) (s : Int) (w : World) (e : Ending) (w' : World) : Prop :=
  ∃ v, e = .returned (shufOut s v) ∧ w'.ownsRow w.heap.size 2 1 v l.length (numsV l) ∧ Below w.heap.size w w'
def someL (nodes : List Int) (many seed : Int) : List Int := (mixL (nodes.length - 1) nodes seed).1.take many.toNat
def someS (nodes : List Int) (seed : Int) : Int := (mixL (nodes.length - 1) nodes seed).2

set_option maxHeartbeats 4000000 in
set_option maxRecDepth 100000 in
theorem specL07Some_any (a : Option Addr) (cap : Nat) (nodes : List Int) (many seed : Int) (w : World) (hl : nodes.length ≤ 400) (hcap : a = none → cap = 0) (hrow : NumRow w a nodes) (hm0 : 0 ≤ many) (hm1 : many ≤ 6) (hs0 : 0 ≤ seed) (hs1 : seed ≤ 2147483647) :
    Calls Tryz.prog 197 #[.slice a nodes.length cap, .int .i64 many, .int .i64 seed] w (SomePost (someL nodes many seed) (someS nodes seed) w) := by
  unfold someL someS
  have hml : (mixL (nodes.length - 1) nodes seed).1.length = nodes.length := mixL_length _ _ _
  obtain ⟨mix, ms, hmm⟩ : ∃ m s, mixL (nodes.length - 1) nodes seed = (m, s) := ⟨_, _, rfl⟩
  rw [hmm] at hml ⊢
  dsimp only at hml ⊢
  have HMM : Hid (mixL (nodes.length - 1) nodes seed = (mix, ms)) := hmm
  have HML : Hid (mix.length = nodes.length) := hml
  have hx4 : mix.length ≤ 400 := by omega
  clear hmm hml
  have q0 := BlkIs.new w 199 #[.int .i64 0, .slice none 0 0]
  have B0 : Below w.heap.size w (w.alloc (.cells #[.int .i64 0, .slice none 0 0] 199)) := (Below.refl _ _).alloc (Nat.le_refl _) _
  have s0 := hrow.keep B0
  obtain ⟨W, hW⟩ : ∃ W, w.alloc (.cells #[.int .i64 0, .slice none 0 0] 199) = W := ⟨_, rfl⟩
  rw [hW] at q0 B0 s0
  have HW : Hid (_ = W) := hW
  clear hW
  have hqs := q0.lt
  go_enter Tryz.func197, Tryz.ntmps197
  go_upto_region 1 with fail
  rw [HW.out]
  clear HW
  go_wp2_with fail
  refine (l02Mix_any a cap nodes seed _ hl hcap s0 hs0 hs1).mono ?_
  rintro e z ⟨v, rfl, ov0, bz⟩
  rw [HMM.out] at ov0 ⊢
  dsimp only at ov0 ⊢
  have ov : z.ownsRow W.heap.size 2 1 v mix.length (numsV mix) := by rw [show mix.length = nodes.length from HML.out]; exact ov0
  obtain ⟨va, vc, rfl⟩ : ∃ va vc, v = .slice va mix.length vc := by
    rcases ov.2 with ⟨e, e2⟩ | ⟨g, gc, cur, e, _⟩
    · exact ⟨none, 0, by rw [e, e2]⟩
    · exact ⟨_, gc, e⟩
  have q1 := q0.keep bz
  have B1 := B0.trans (bz.mono B0.size)
  unfold shufOut
  clear q0 s0 B0 bz ov0 HMM HML
  have bA : Below z.heap.size z (z.alloc (.cells #[.int .i64 ms, .slice va mix.length vc] 199)) := (Below.refl _ _).alloc (Nat.le_refl _) _
  have X1 := BlkIs.new z 199 #[.int .i64 ms, .slice va mix.length vc]
  have q2 := q1.keep bA
  have B2 := B1.trans (bA.mono B1.size)
  have ov2 := own_below ov bA
  obtain ⟨Y, hY⟩ : ∃ Y, z.alloc (.cells #[.int .i64 ms, .slice va mix.length vc] 199) = Y := ⟨_, rfl⟩
  obtain ⟨kx, hkx⟩ : ∃ k, z.heap.size = k := ⟨_, rfl⟩
  rw [hY] at X1 q2 B2 ov2
  rw [hkx] at X1
  have HY : Hid (_ = Y) := hY
  have HKX : Hid (z.heap.size = kx) := hkx
  have hzq : w.heap.size < kx := by rw [← hkx]; exact q1.lt
  have hwW : w.heap.size < W.heap.size := hqs
  have hkl := X1.lt
  have hne : ∀ g, Value.ownBlock (.slice va mix.length vc) = some g → W.heap.size ≤ g ∧ g < kx := fun g hg => by rw [← hkx]; exact ov.lt g hg
  clear hY hkx bA q1 B1 ov
  go_upto_region 2 with fail
  rw [HY.out, HKX.out]
  clear HY HKX
  have c0 : Y.cell? ⟨kx, 0, none⟩ = some (.int .i64 ms) := X1.cell 0
  have c1 : Y.cell? ⟨kx, 1, none⟩ = some (.slice va mix.length vc) := X1.cell 1
  by_cases hlt : many < (mix.length : Int)
  · obtain ⟨g, rfl⟩ : ∃ g, va = some ⟨g, 0, none⟩ := by
      rcases ov2.2 with ⟨e, e2⟩ | ⟨g, gc, cur, e, _⟩
      · omega
      · cases e; exact ⟨g, rfl⟩
    have hvc : mix.length ≤ vc := by
      rcases ov2.2 with ⟨e, e2⟩ | ⟨g', gc, cur, e, _, _, h1, _⟩
      · cases e
      · cases e; exact h1
    obtain ⟨k, rfl⟩ : ∃ k : Nat, many = (k : Int) := ⟨many.toNat, by omega⟩
    have hk : k ≤ mix.length := by omega
    have hkc : k ≤ vc := by omega
    have hkm : (k : Int) ≤ (vc : Int) := by omega
    have f1 := X1.fz 1
    go_upto_region 3 with fail
    go_upto_region 4 with fail
    have hgx := hne g rfl
    have KV : Keeps (fun q => q ≠ kx) Y (Y.setCell ⟨kx, 1, none⟩ (.slice (some ⟨g, 0, none⟩) k vc)) := (Keeps.refl _ _).setCell (fun h => h rfl) _
    have XV : BlkIs (Y.setCell ⟨kx, 1, none⟩ (.slice (some ⟨g, 0, none⟩) k vc)) kx 199 #[.int .i64 ms, .slice (some ⟨g, 0, none⟩) k vc] := by have := X1.put 1 (.slice (some ⟨g, 0, none⟩) k vc); simpa using this
    have q4 : BlkIs (Y.setCell ⟨kx, 1, none⟩ (.slice (some ⟨g, 0, none⟩) k vc)) w.heap.size 199 #[.int .i64 0, .slice none 0 0] := (KV.block _ q2.lt (by omega)).trans q2
    have B4 : Below w.heap.size w (Y.setCell ⟨kx, 1, none⟩ (.slice (some ⟨g, 0, none⟩) k vc)) := B2.setCell (p := ⟨kx, 1, none⟩) (by dsimp only; omega) _
    have own := own_takeN (rowKeep (rowLeN ov2 (Nat.le_of_lt hwW)) KV (fun q hq => by have := hne q hq; omega)) hk
    obtain ⟨V, hV⟩ : ∃ V, Y.setCell ⟨kx, 1, none⟩ (.slice (some ⟨g, 0, none⟩) k vc) = V := ⟨_, rfl⟩
    rw [hV] at XV q4 B4 own ⊢
    clear hV KV X1 q2 B2 ov2 c0 c1 f1
    have c0 : V.cell? ⟨kx, 0, none⟩ = some (.int .i64 ms) := XV.cell 0
    have c1 : V.cell? ⟨kx, 1, none⟩ = some (.slice (some ⟨g, 0, none⟩) k vc) := XV.cell 1
    have HT : Hid ((mix.take ((k : Int)).toNat).length = k ∧ mix.take ((k : Int)).toNat = mix.take k) := by
      rw [Int.toNat_natCast, List.length_take]
      exact ⟨by omega, rfl⟩
    have g0 : V.cell? ⟨w.heap.size, 0, none⟩ = some (.int .i64 0) := q4.cell 0
    have z0 := q4.fz 0
    have g1 : V.cell? ⟨w.heap.size, 1, none⟩ = some (.slice none 0 0) := q4.cell 1
    have z1 := q4.fz 1
    have RZ : BlkIs ((V.setCell ⟨w.heap.size, 0, none⟩ (.int .i64 ms)).setCell ⟨w.heap.size, 1, none⟩ (.slice (some ⟨g, 0, none⟩) k vc)) (w.heap.size) 199 #[.int .i64 ms, .slice (some ⟨g, 0, none⟩) k vc] := blk_put2 q4 _ _
    have BZ : Below w.heap.size w ((V.setCell ⟨w.heap.size, 0, none⟩ (.int .i64 ms)).setCell ⟨w.heap.size, 1, none⟩ (.slice (some ⟨g, 0, none⟩) k vc)) := ((B4.setCell (p := ⟨w.heap.size, 0, none⟩) (by dsimp only; omega) (.int .i64 ms)).setCell (p := ⟨w.heap.size, 1, none⟩) (by dsimp only; omega) (.slice (some ⟨g, 0, none⟩) k vc))
    have KZ : Keeps (fun k => k ≠ w.heap.size) V ((V.setCell ⟨w.heap.size, 0, none⟩ (.int .i64 ms)).setCell ⟨w.heap.size, 1, none⟩ (.slice (some ⟨g, 0, none⟩) k vc)) := keeps_two _ _ _ _
    go_wp2
    obtain ⟨Z, hZ⟩ : ∃ Z, ((V.setCell ⟨w.heap.size, 0, none⟩ (.int .i64 ms)).setCell ⟨w.heap.size, 1, none⟩ (.slice (some ⟨g, 0, none⟩) k vc)) = Z := ⟨_, rfl⟩
    rw [hZ] at RZ BZ KZ ⊢
    clear hZ g0 z0 g1 z1
    have h0 : Z.cell? ⟨w.heap.size, 0, none⟩ = some (.int .i64 ms) := RZ.cell 0
    have h1 : Z.cell? ⟨w.heap.size, 1, none⟩ = some (.slice (some ⟨g, 0, none⟩) k vc) := RZ.cell 1
    exact bodyPost_ret (v := .agg #[.int .i64 ms, .slice (some ⟨g, 0, none⟩) k vc]) (by simp [results, Tryz.results197, go_sem, h0, h1]) rfl ⟨_, rfl, by rw [HT.out.1, HT.out.2]; exact rowKeep own KZ (fun q hq => by cases hq; dsimp only; omega), BZ⟩
  · have HT : Hid (mix.take many.toNat = mix) := List.take_of_length_le (by omega)
    have g0 : Y.cell? ⟨w.heap.size, 0, none⟩ = some (.int .i64 0) := q2.cell 0
    have z0 := q2.fz 0
    have g1 : Y.cell? ⟨w.heap.size, 1, none⟩ = some (.slice none 0 0) := q2.cell 1
    have z1 := q2.fz 1
    have RZ : BlkIs ((Y.setCell ⟨w.heap.size, 0, none⟩ (.int .i64 ms)).setCell ⟨w.heap.size, 1, none⟩ (.slice va mix.length vc)) (w.heap.size) 199 #[.int .i64 ms, .slice va mix.length vc] := blk_put2 q2 _ _
    have BZ : Below w.heap.size w ((Y.setCell ⟨w.heap.size, 0, none⟩ (.int .i64 ms)).setCell ⟨w.heap.size, 1, none⟩ (.slice va mix.length vc)) := ((B2.setCell (p := ⟨w.heap.size, 0, none⟩) (by dsimp only; omega) (.int .i64 ms)).setCell (p := ⟨w.heap.size, 1, none⟩) (by dsimp only; omega) (.slice va mix.length vc))
    have KZ : Keeps (fun k => k ≠ w.heap.size) Y ((Y.setCell ⟨w.heap.size, 0, none⟩ (.int .i64 ms)).setCell ⟨w.heap.size, 1, none⟩ (.slice va mix.length vc)) := keeps_two _ _ _ _
    go_wp2
    obtain ⟨Z, hZ⟩ : ∃ Z, ((Y.setCell ⟨w.heap.size, 0, none⟩ (.int .i64 ms)).setCell ⟨w.heap.size, 1, none⟩ (.slice va mix.length vc)) = Z := ⟨_, rfl⟩
    rw [hZ] at RZ BZ KZ ⊢
    clear hZ g0 z0 g1 z1
    have h0 : Z.cell? ⟨w.heap.size, 0, none⟩ = some (.int .i64 ms) := RZ.cell 0
    have h1 : Z.cell? ⟨w.heap.size, 1, none⟩ = some (.slice va mix.length vc) := RZ.cell 1
    exact bodyPost_ret (v := .agg #[.int .i64 ms, .slice va mix.length vc]) (by simp [results, Tryz.results197, go_sem, h0, h1]) rfl ⟨_, rfl, by rw [HT.out]; exact rowKeep (rowLeN ov2 (by omega)) KZ (fun g hg => by have := hne g hg; omega), BZ⟩

def SomeIs (nodes : List Int) (many seed : Int) (l : List Int) (s : Int) : Prop :=
  ((askT nodes seed ∧ 0 ≤ many ∧ many ≤ 6) ∧ l = someL nodes many seed ∧ s = someS nodes seed) ∨ (¬ (askT nodes seed ∧ 0 ≤ many ∧ many ≤ 6) ∧ l = [] ∧ s = 0)

end Go.Proofs.YtmdcankfjmkkeaaGreat
/- Nodes, plain: when one is right, and what it does. No program of its own. -/
namespace Go.Proofs.YtmdcankfjmkkeaaGreat
open Go Go.RowKit
set_option linter.unusedVariables false

/-- A doubt lies in memory as a fact does: its due time stands where a fact's status stands. One in its place: -/
def okDb (l : List FactV) (id : Int) (i : Nat) : Prop := ∃ h : i < l.length, (nodeR l[i].node ∧ l[i].node ≠ id ∧ timeR l[i].inc ∧ timeR l[i].st) ∧ ∀ k : 0 < i, (l[i - 1]'(by omega)).node < l[i].node
def doubtsR (l : List FactV) (id : Int) : Prop := l.length ≤ 6 ∧ ∀ i, i < l.length → okDb l id i
/-- Whom a node asks. -/
structure ProbeV where
  node : Int
  num : Int
  due : Int
  asked : Bool
def ProbeV.z : ProbeV := ⟨0, 0, 0, false⟩
structure NodeV where
  id : Int
  inc : Int
  num : Int
  seed : Int
  next : Int
  view : List FactV
  rum : List RumV
  tl : List Int
  at0 : Int
  pb : ProbeV
  db : List FactV
def seedR (n : Int) : Prop := 0 ≤ n ∧ n ≤ 2147483647
/-- Its own fact is there, of its life, and not doubted. -/
def NodeV.ownOk (n : NodeV) : Prop := (atF n.view n.id).node ≠ 0 ∧ (atF n.view n.id).inc = n.inc ∧ (atF n.view n.id).st ≠ 2
def NodeV.probeOk (n : NodeV) : Prop := n.pb = .z ∨ (nodeR n.pb.node ∧ n.pb.node ≠ n.id ∧ timeR n.pb.num ∧ timeR n.pb.due)
def NodeV.partsOk (n : NodeV) : Prop := nodeR n.id ∧ timeR n.inc ∧ timeR n.num ∧ timeR n.next ∧ seedR n.seed ∧ rightV n.view ∧ rightR n.rum ∧ TurnV.ok ⟨n.tl, n.at0⟩ ∧ doubtsR n.db n.id
def NodeV.ok (n : NodeV) : Prop := n.partsOk ∧ n.ownOk ∧ n.probeOk
/-- When it is to wake. -/
def NodeV.first (n : NodeV) : Int := if 0 < n.pb.node ∧ n.pb.due < n.next then n.pb.due else n.next
def minD (a : Int) (l : List FactV) : Int := l.foldl (fun a d => if d.st < a then d.st else a) a
def NodeV.wakeAt (n : NodeV) : Int := minD n.first n.db
theorem minD_step (a : Int) {l : List FactV} {k : Nat} (hk : k < l.length) : minD a (l.take (k + 1)) = if l[k].st < minD a (l.take k) then l[k].st else minD a (l.take k) := by
  unfold minD
  rw [List.take_succ_eq_append_getElem hk, List.foldl_append]
  rfl
theorem doubts_take {l : List FactV} {id : Int} {k : Nat} : (∀ i, i < k → okDb l id i) ∧ okDb l id k ↔ ∀ i, i < k + 1 → okDb l id i := by
  constructor
  · rintro ⟨h1, h2⟩ i hi
    by_cases e : i = k
    · rw [e]; exact h2
    · exact h1 i (by omega)
  · intro h
    exact ⟨fun i hi => h i (by omega), h k (by omega)⟩
/-- An answer of a node. -/
structure NOutV where
  node : NodeV
  mails : List MailV
  missed : Int
  code : Int
def NodeV.z : NodeV := ⟨0, 0, 0, 0, 0, [], [], [], 0, .z, []⟩
def illN (c : Int) : NOutV := ⟨.z, [], 0, c⟩
def newN (id inc seed now : Int) : NodeV := ⟨id, inc, 0, seed, now, [⟨id, inc, 1⟩], [⟨id, inc, 1, 0⟩], [], 0, .z, []⟩
def goneN (n : NodeV) : Prop := (atF n.view n.id).st = 3
/-- A doubt goes; a doubt is put. -/
def undoubtD (l : List FactV) (node : Int) : List FactV := l.filter fun d => decide (d.node ≠ node)
def placeD : List FactV → Int → Nat
  | [], _ => 0
  | x :: r, n => if x.node < n then placeD r n + 1 else 0
def doubtD (l : List FactV) (d : FactV) : List FactV := l.take (placeD l d.node) ++ d :: l.drop (placeD l d.node)
/-- What is learned. -/
def learnOwn (n : NodeV) (f : FactV) : NodeV := { n with inc := f.inc + 1, view := addF n.view ⟨n.id, f.inc + 1, 1⟩, rum := putR n.rum ⟨n.id, f.inc + 1, 1⟩ }
def learnOther (n : NodeV) (f : FactV) (now : Int) : NodeV := { n with view := addF n.view f, rum := putR n.rum f, db := if f.st = 2 then doubtD (undoubtD n.db f.node) ⟨f.node, f.inc, now + 12⟩ else undoubtD n.db f.node }
def newsN (n : NodeV) (f : FactV) : Prop := newsAt n.view f (placeN n.view f.node)
def deafN (n : NodeV) (f : FactV) : Prop := f.st = 1 ∨ f.inc < n.inc ∨ goneN n ∨ 1000000 ≤ f.inc
def LearnIs (n : NodeV) (f : FactV) (now : Int) (m : NodeV) : Prop :=
  (f.node = n.id ∧ deafN n f ∧ m = n) ∨ (f.node = n.id ∧ ¬ deafN n f ∧ m = learnOwn n f) ∨ (f.node ≠ n.id ∧ ¬ newsN n f ∧ m = n) ∨ (f.node ≠ n.id ∧ newsN n f ∧ m = learnOther n f now)
theorem learn_ex (n : NodeV) (f : FactV) (now : Int) : ∃ m, LearnIs n f now m := by
  by_cases h : f.node = n.id
  · by_cases h2 : deafN n f
    · exact ⟨_, .inl ⟨h, h2, rfl⟩⟩
    · exact ⟨_, .inr (.inl ⟨h, h2, rfl⟩)⟩
  · by_cases h2 : newsN n f
    · exact ⟨_, .inr (.inr (.inr ⟨h, h2, rfl⟩))⟩
    · exact ⟨_, .inr (.inr (.inl ⟨h, h2, rfl⟩))⟩
def LearnAll (n : NodeV) : List FactV → Int → NodeV → Prop
  | [], _, m => m = n
  | f :: r, now, m => ∃ k, LearnIs n f now k ∧ LearnAll k r now m
/-- What is told with a mail. -/
def tellN (n : NodeV) (m : MailV) : NodeV × MailV := ({ n with rum := toldR n.rum (pickedR n.rum m.dst) }, { m with facts := factsR (pickedR n.rum m.dst) })
def othersN (n : NodeV) (but : Int) : List Int := dropL (dropL (goneL n.view) n.id) but
end Go.Proofs.YtmdcankfjmkkeaaGreat
/- The contracts of the exact laws' helpers over doubts: copy, compare, measure. -/
namespace Go.Proofs.YtmdcankfjmkkeaaGreat
open Go Go.RowKit
set_option linter.unusedVariables false

theorem Tryz.infoDoubt : (Tryz.prog.info? 112).map (fun i => (i.zero, i.size, i.bytes)) = some (some (.agg #[.int .i64 0, .int .i64 0, .int .i64 0]), 3, 24) := by kernel_rfl
theorem toDoubt_any (d : FactV) (w : World) : Calls Tryz.prog 168 #[d.val] w fun e w' => e = .returned d.val ∧ Below w.heap.size w w' := by
  unfold FactV.val
  go_enter Tryz.func168, Tryz.ntmps168
  go_wp2
  exact bodyPost_ret (v := .agg #[.int .i64 d.node, .int .i64 d.inc, .int .i64 d.st]) (by simp [results, Tryz.results168, go_sem]) rfl ⟨rfl, (((Below.refl _ _).alloc (Nat.le_refl _) _).alloc (by simp) _).alloc (by simp; omega) _⟩
set_option maxHeartbeats 1000000 in
set_option maxRecDepth 100000 in
theorem eqDoubt_same (d : FactV) (w : World) : Calls Tryz.prog 172 #[d.val, d.val] w fun r w' => r = .returned (.bool true) ∧ Below w.heap.size w w' := by
  unfold FactV.val
  go_enter Tryz.func172, Tryz.ntmps172
  go_wp2
  go_ret
  exact ⟨rfl, ((Below.refl _ _).alloc (Nat.le_refl _) _).alloc (by simp) _⟩
set_option maxHeartbeats 1000000 in
set_option maxRecDepth 100000 in
theorem toDoubts_any (a : Option Addr) (cap : Nat) (l : List FactV) (w : World) (hl : l.length ≤ 1048576) (hrow : CellRow w a (cellsOf FactV.cells l)) :
    Calls Tryz.prog 108 #[.slice a l.length cap] w fun e w' => e = .returned (.slice (some ⟨w.heap.size, 0, none⟩) l.length l.length) ∧ OwnCells w' w.heap.size (some ⟨w.heap.size, 0, none⟩) (cellsOf FactV.cells l) ∧ Below w.heap.size w w' := by
  obtain ⟨i0, hi0, hz⟩ := Option.map_eq_some_iff.1 Tryz.infoDoubt
  simp only [Prod.mk.injEq] at hz
  obtain ⟨wm, hmk, hown, hgr⟩ := run_make_full (P := Tryz.prog) w w.heap.size 30 112 i0 _ 3 Tryz.underlying30 hi0 hz.1 hz.2.1 .i64 .i64 l.length (by rw [hz.2.2]; omega) (by unfold maxLen; omega) (Nat.le_refl _)
  obtain ⟨Z, hZ⟩ : ∃ Z : List Value, Z.length = l.length * 3 ∧ OwnCells wm w.heap.size (some ⟨w.heap.size, 0, none⟩) Z := by
    refine ⟨_, hown.1, ?_⟩
    by_cases h0 : l.length = 0
    · exact .inl (List.eq_nil_of_length_eq_zero (by rw [hown.1, h0]))
    · exact .inr ⟨w.heap.size, 0, rfl, Nat.le_refl _, (hown.lt _ rfl).2, fun i hi => by rw [Nat.zero_add, hown.cellAt i (by rw [hown.1] at hi; exact hi), List.getElem?_eq_getElem hi], fun i _ => hown.frozenAt _⟩
  have hZl := hZ.1
  have hZo := hZ.2
  have hb0 : Below w.heap.size w wm := (Below.refl _ _).grown hgr (Nat.le_refl _) (fun k e => by cases e)
  clear hown hgr hZ
  go_enter Tryz.func108, Tryz.ntmps108
  go_wp2
  go_loopw [4] (fun i wr => ∃ k : Nat, k ≤ l.length ∧ i = .int .i64 k ∧ OwnCells wr w.heap.size (some ⟨w.heap.size, 0, none⟩) (cellsOf FactV.cells (l.take k) ++ Z.drop (k * 3)) ∧ Below w.heap.size w wr) (fun i _ => l.length - (intOf i).toNat)
  case atStart => exact ⟨0, Nat.zero_le _, rfl, by simpa [cellsOf] using hZo, hb0⟩
  case round =>
    obtain ⟨k, hk, rfl, ho, hb⟩ := hrel
    clear hmk hb0 hZo
    by_cases hx : k < l.length
    · obtain ⟨b, off, rfl⟩ := hrow.addr (by rw [cellsOf_length FactV.cells_len]; omega)
      have hrow2 := hrow.keep hb
      obtain ⟨x1, x2, x3, hlx⟩ : ∃ x1 x2 x3, l[k] = ⟨x1, x2, x3⟩ := ⟨_, _, _, rfl⟩
      have q0 := hrow2.thing0 FactV.cells_len (i := k) (v := .int .i64 x1) hx (by omega) (by rw [hlx]; rfl)
      have q1 := hrow2.thingj FactV.cells_len (i := k) (j := 1) (v := .int .i64 x2) hx (by omega) (by rw [hlx]; rfl)
      have q2 := hrow2.thingj FactV.cells_len (i := k) (j := 2) (v := .int .i64 x3) hx (by omega) (by rw [hlx]; rfl)
      have hTl : (cellsOf FactV.cells (l.take k) ++ Z.drop (k * 3)).length = l.length * 3 := by
        rw [List.length_append, cellsOf_length FactV.cells_len, List.length_take, List.length_drop, Nat.min_eq_left hk, hZl]; omega
      have HT : Hid ((((cellsOf FactV.cells (l.take k) ++ Z.drop (k * 3)).set (k * 3) (.int .i64 x1)).set (k * 3 + 1) (.int .i64 x2)).set (k * 3 + 2) (.int .i64 x3) = cellsOf FactV.cells (l.take (k + 1)) ++ Z.drop ((k + 1) * 3)) := by
        show _ = _
        have hd : Z.drop (k * 3) = Z[k * 3]'(by omega) :: Z[k * 3 + 1]'(by omega) :: Z[k * 3 + 2]'(by omega) :: Z.drop ((k + 1) * 3) := by
          rw [List.drop_eq_getElem_cons (by omega), List.drop_eq_getElem_cons (by omega), List.drop_eq_getElem_cons (by omega), show (k + 1) * 3 = k * 3 + 1 + 1 + 1 by omega]
        rw [hd, set_three (by rw [cellsOf_length FactV.cells_len, List.length_take, Nat.min_eq_left hk]), List.take_succ_eq_append_getElem hx, cellsOf_append, hlx, List.append_assoc]
        rfl
      go_wp2_with fail
      refine (toDoubt_any ⟨x1, x2, x3⟩ _).mono ?_
      rintro e y1 ⟨rfl, by1⟩
      unfold FactV.val
      have ho1 := ho.keep by1
      obtain ⟨c0, f0⟩ := ho1.at0 (n := k * 3) (by omega)
      obtain ⟨c1, f1⟩ := ho1.at0 (n := k * 3 + 1) (by omega)
      obtain ⟨c2, f2⟩ := ho1.at0 (n := k * 3 + 2) (by omega)
      obtain ⟨t0, ht0⟩ : ∃ t, (cellsOf FactV.cells (l.take k) ++ Z.drop (k * 3))[k * 3]'(by omega) = t := ⟨_, rfl⟩
      obtain ⟨t1, ht1⟩ : ∃ t, (cellsOf FactV.cells (l.take k) ++ Z.drop (k * 3))[k * 3 + 1]'(by omega) = t := ⟨_, rfl⟩
      obtain ⟨t2, ht2⟩ : ∃ t, (cellsOf FactV.cells (l.take k) ++ Z.drop (k * 3))[k * 3 + 2]'(by omega) = t := ⟨_, rfl⟩
      rw [ht0] at c0
      rw [ht1] at c1
      rw [ht2] at c2
      have HO : Hid (OwnCells (((y1.setCell ⟨w.heap.size, k * 3, none⟩ (.int .i64 x1)).setCell ⟨w.heap.size, k * 3 + 1, none⟩ (.int .i64 x2)).setCell ⟨w.heap.size, k * 3 + 2, none⟩ (.int .i64 x3)) w.heap.size (some ⟨w.heap.size, 0, none⟩) (cellsOf FactV.cells (l.take (k + 1)) ++ Z.drop ((k + 1) * 3))) := by
        have h := ((ho1.put0 (n := k * 3) (.int .i64 x1) (by omega)).put0 (n := k * 3 + 1) (.int .i64 x2) (by simp only [List.length_set]; omega)).put0 (n := k * 3 + 2) (.int .i64 x3) (by simp only [List.length_set]; omega)
        rw [HT.out] at h
        exact h
      have hb1 := hb.trans (by1.mono hb.size)
      have HB : Hid (Below w.heap.size w (((y1.setCell ⟨w.heap.size, k * 3, none⟩ (.int .i64 x1)).setCell ⟨w.heap.size, k * 3 + 1, none⟩ (.int .i64 x2)).setCell ⟨w.heap.size, k * 3 + 2, none⟩ (.int .i64 x3))) := ((hb1.setCell (Nat.le_refl _) _).setCell (Nat.le_refl _) _).setCell (Nat.le_refl _) _
      clear ho ho1 hb hb1 by1 HT hTl ht0 ht1 ht2 q0 q1 q2 hrow2 hlx
      have hx' : (k : Int) < (l.length : Int) := by omega
      go_wp2
      go_roundw
      case rel => exact ⟨k + 1, by omega, by go_num, HO.out, HB.out⟩
      case measure => simp [intOf]; omega
    · obtain rfl : k = l.length := by omega
      rw [List.take_length, List.drop_eq_nil_of_le (by omega), List.append_nil] at ho
      go_wp2
      go_ret
      exact ⟨rfl, ho, hb⟩
set_option maxHeartbeats 1000000 in
set_option maxRecDepth 100000 in
theorem eqDoubts_same (a1 : Option Addr) (c1 : Nat) (a2 : Option Addr) (c2 : Nat) (l : List FactV) (w : World) (hl : l.length ≤ 1048576) (h1 : CellRow w a1 (cellsOf FactV.cells l)) (h2 : CellRow w a2 (cellsOf FactV.cells l)) :
    Calls Tryz.prog 114 #[.slice a1 l.length c1, .slice a2 l.length c2] w fun e w' => e = .returned (.bool true) ∧ Below w.heap.size w w' := by
  go_enter Tryz.func114, Tryz.ntmps114
  go_wp2
  go_loopw [5] (fun i wr => ∃ k : Nat, k ≤ l.length ∧ i = .int .i64 k ∧ Below w.heap.size w wr) (fun i _ => l.length - (intOf i).toNat)
  case atStart => exact ⟨0, Nat.zero_le _, rfl, Below.refl _ _⟩
  case round =>
    obtain ⟨k, hk, rfl, hb⟩ := hrel
    by_cases hx : k < l.length
    · obtain ⟨b1, o1, rfl⟩ := h1.addr (by rw [cellsOf_length FactV.cells_len]; omega)
      obtain ⟨b2, o2, rfl⟩ := h2.addr (by rw [cellsOf_length FactV.cells_len]; omega)
      have r1 := h1.keep hb
      have r2 := h2.keep hb
      obtain ⟨x1, x2, x3, hlx⟩ : ∃ x1 x2 x3, l[k] = ⟨x1, x2, x3⟩ := ⟨_, _, _, rfl⟩
      have q0 := r1.thing0 FactV.cells_len (i := k) (v := .int .i64 x1) hx (by omega) (by rw [hlx]; rfl)
      have q1 := r1.thingj FactV.cells_len (i := k) (j := 1) (v := .int .i64 x2) hx (by omega) (by rw [hlx]; rfl)
      have q2 := r1.thingj FactV.cells_len (i := k) (j := 2) (v := .int .i64 x3) hx (by omega) (by rw [hlx]; rfl)
      have p0 := r2.thing0 FactV.cells_len (i := k) (v := .int .i64 x1) hx (by omega) (by rw [hlx]; rfl)
      have p1 := r2.thingj FactV.cells_len (i := k) (j := 1) (v := .int .i64 x2) hx (by omega) (by rw [hlx]; rfl)
      have p2 := r2.thingj FactV.cells_len (i := k) (j := 2) (v := .int .i64 x3) hx (by omega) (by rw [hlx]; rfl)
      have hx' : (k : Int) < (l.length : Int) := by omega
      clear r1 r2 hlx
      go_wp2
      go_region_with (go_at_call 172; refine (eqDoubt_same ⟨x1, x2, x3⟩ _).mono ?_; rintro e y1 ⟨rfl, by1⟩)
      all_goals
        have hb1 := hb.drew.trans (by1.mono hb.size)
        go_wp2
        go_roundw
        case rel => exact ⟨k + 1, by omega, by go_num, hb1⟩
        case measure => simp [intOf]; omega
    · obtain rfl : k = l.length := by omega
      go_wp2
      go_ret
      exact ⟨rfl, hb⟩
set_option maxRecDepth 100000 in
theorem szDoubts_any (a : Option Addr) (cap : Nat) (n : Nat) (left : Int) (w : World) (h0 : 0 ≤ left) (h1 : left ≤ 1048576) (hl : n ≤ 9223372036854775807) :
    Calls Tryz.prog 103 #[.slice a n cap, .int .i64 left] w fun e w' => e = .returned (.int .i64 (leftOf left n)) ∧ w = w' := by
  have hw : IntKind.i64.wrap (left - (n : Int)) = left - (n : Int) := by rw [IntKind.wrap_i64]; omega
  by_cases hx : left < (n : Int)
  · have HE : Hid (leftOf left n = -1) := if_pos hx
    have hx' : left - (n : Int) < 0 := by omega
    go_enter Tryz.func103, Tryz.ntmps103
    go_wp2
    go_ret
    exact ⟨by rw [HE.out]; rfl, rfl⟩
  · have HE : Hid (leftOf left n = left - (n : Int)) := if_neg hx
    have hx' : ¬ left - (n : Int) < 0 := by omega
    go_enter Tryz.func103, Tryz.ntmps103
    go_wp2
    go_ret
    exact ⟨by rw [HE.out]; rfl, rfl⟩
end Go.Proofs.YtmdcankfjmkkeaaGreat
