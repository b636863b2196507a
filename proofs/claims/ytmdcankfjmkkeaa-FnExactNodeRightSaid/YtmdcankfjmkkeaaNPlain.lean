/- Nodes, plain: when one is right, and what it does. No program of its own. -/
import Derived.Test.YtmdcankfjmkkeaaVAt
import Derived.Test.YtmdcankfjmkkeaaG17
import Derived.Test.YtmdcankfjmkkeaaRApp
import Derived.Test.YtmdcankfjmkkeaaMPlain
import Derived.Test.YtmdcankfjmkkeaaG32
namespace Go.Proofs.Ytmdcankfjmkkeaa
open Go Go.RowKit
set_option linter.unusedVariables false

/-- A doubt lies in memory as a fact does: its due time stands where a fact's status stands. One in its place: -/
def okDb (l : List FactV) (id : Int) (i : Nat) : Prop := ∃ h : i < l.length, (nodeR l[i].node ∧ l[i].node ≠ id ∧ timeR l[i].inc ∧ timeR l[i].st) ∧ ∀ k : 0 < i, (l[i - 1]'(by omega)).node < l[i].node
def doubtsR (l : List FactV) (id : Int) : Prop := l.length ≤ 6 ∧ ∀ i, i < l.length → okDb l id i
/-- Whom a node asks. -/
structure ProbeV where
  node : Int
  num : Int
  due : Int
  asked : Bool
def ProbeV.z : ProbeV := ⟨0, 0, 0, false⟩
structure NodeV where
  id : Int
  inc : Int
  num : Int
  seed : Int
  next : Int
  view : List FactV
  rum : List RumV
  tl : List Int
  at0 : Int
  pb : ProbeV
  db : List FactV
def seedR (n : Int) : Prop := 0 ≤ n ∧ n ≤ 2147483647
/-- Its own fact is there, of its life, and not doubted. -/
def NodeV.ownOk (n : NodeV) : Prop := (atF n.view n.id).node ≠ 0 ∧ (atF n.view n.id).inc = n.inc ∧ (atF n.view n.id).st ≠ 2
def NodeV.probeOk (n : NodeV) : Prop := n.pb = .z ∨ (nodeR n.pb.node ∧ n.pb.node ≠ n.id ∧ timeR n.pb.num ∧ timeR n.pb.due)
def NodeV.partsOk (n : NodeV) : Prop := nodeR n.id ∧ timeR n.inc ∧ timeR n.num ∧ timeR n.next ∧ seedR n.seed ∧ rightV n.view ∧ rightR n.rum ∧ TurnV.ok ⟨n.tl, n.at0⟩ ∧ doubtsR n.db n.id
def NodeV.ok (n : NodeV) : Prop := n.partsOk ∧ n.ownOk ∧ n.probeOk
/-- When it is to wake. -/
def NodeV.first (n : NodeV) : Int := if 0 < n.pb.node ∧ n.pb.due < n.next then n.pb.due else n.next
def minD (a : Int) (l : List FactV) : Int := l.foldl (fun a d => if d.st < a then d.st else a) a
def NodeV.wakeAt (n : NodeV) : Int := minD n.first n.db
theorem minD_step (a : Int) {l : List FactV} {k : Nat} (hk : k < l.length) : minD a (l.take (k + 1)) = if l[k].st < minD a (l.take k) then l[k].st else minD a (l.take k) := by
  unfold minD
  rw [List.take_succ_eq_append_getElem hk, List.foldl_append]
  rfl
theorem doubts_take {l : List FactV} {id : Int} {k : Nat} : (∀ i, i < k → okDb l id i) ∧ okDb l id k ↔ ∀ i, i < k + 1 → okDb l id i := by
  constructor
  · rintro ⟨h1, h2⟩ i hi
    by_cases e : i = k
    · rw [e]; exact h2
    · exact h1 i (by omega)
  · intro h
    exact ⟨fun i hi => h i (by omega), h k (by omega)⟩
/-- An answer of a node. -/
structure NOutV where
  node : NodeV
  mails : List MailV
  missed : Int
  code : Int
def NodeV.z : NodeV := ⟨0, 0, 0, 0, 0, [], [], [], 0, .z, []⟩
def illN (c : Int) : NOutV := ⟨.z, [], 0, c⟩
def newN (id inc seed now : Int) : NodeV := ⟨id, inc, 0, seed, now, [⟨id, inc, 1⟩], [⟨id, inc, 1, 0⟩], [], 0, .z, []⟩
def goneN (n : NodeV) : Prop := (atF n.view n.id).st = 3
/-- A doubt goes; a doubt is put. -/
def undoubtD (l : List FactV) (node : Int) : List FactV := l.filter fun d => decide (d.node ≠ node)
def placeD : List FactV → Int → Nat
  | [], _ => 0
  | x :: r, n => if x.node < n then placeD r n + 1 else 0
def doubtD (l : List FactV) (d : FactV) : List FactV := l.take (placeD l d.node) ++ d :: l.drop (placeD l d.node)
/-- What is learned. -/
def learnOwn (n : NodeV) (f : FactV) : NodeV := { n with inc := f.inc + 1, view := addF n.view ⟨n.id, f.inc + 1, 1⟩, rum := putR n.rum ⟨n.id, f.inc + 1, 1⟩ }
def learnOther (n : NodeV) (f : FactV) (now : Int) : NodeV := { n with view := addF n.view f, rum := putR n.rum f, db := if f.st = 2 then doubtD (undoubtD n.db f.node) ⟨f.node, f.inc, now + 12⟩ else undoubtD n.db f.node }
def newsN (n : NodeV) (f : FactV) : Prop := newsAt n.view f (placeN n.view f.node)
def deafN (n : NodeV) (f : FactV) : Prop := f.st = 1 ∨ f.inc < n.inc ∨ goneN n ∨ 1000000 ≤ f.inc
def LearnIs (n : NodeV) (f : FactV) (now : Int) (m : NodeV) : Prop :=
  (f.node = n.id ∧ deafN n f ∧ m = n) ∨ (f.node = n.id ∧ ¬ deafN n f ∧ m = learnOwn n f) ∨ (f.node ≠ n.id ∧ ¬ newsN n f ∧ m = n) ∨ (f.node ≠ n.id ∧ newsN n f ∧ m = learnOther n f now)
theorem learn_ex (n : NodeV) (f : FactV) (now : Int) : ∃ m, LearnIs n f now m := by
  by_cases h : f.node = n.id
  · by_cases h2 : deafN n f
    · exact ⟨_, .inl ⟨h, h2, rfl⟩⟩
    · exact ⟨_, .inr (.inl ⟨h, h2, rfl⟩)⟩
  · by_cases h2 : newsN n f
    · exact ⟨_, .inr (.inr (.inr ⟨h, h2, rfl⟩))⟩
    · exact ⟨_, .inr (.inr (.inl ⟨h, h2, rfl⟩))⟩
def LearnAll (n : NodeV) : List FactV → Int → NodeV → Prop
  | [], _, m => m = n
  | f :: r, now, m => ∃ k, LearnIs n f now k ∧ LearnAll k r now m
/-- What is told with a mail. -/
def tellN (n : NodeV) (m : MailV) : NodeV × MailV := ({ n with rum := toldR n.rum (pickedR n.rum m.dst) }, { m with facts := factsR (pickedR n.rum m.dst) })
def othersN (n : NodeV) (but : Int) : List Int := dropL (dropL (goneL n.view) n.id) but
end Go.Proofs.Ytmdcankfjmkkeaa
