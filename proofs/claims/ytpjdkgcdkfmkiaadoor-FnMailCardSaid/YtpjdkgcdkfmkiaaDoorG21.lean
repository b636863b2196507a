/- A slice of facts, and a fact, that come in as arguments of a law. -/
import Derived.Test.YtpjdkgcdkfmkiaaDoorG8
import Derived.OpenShut
import Derived.Deep.Slices
import Derived.Lib.SmallJoins
import Derived.Test.YtpjdkgcdkfmkiaaDoorFPlain
import Derived.Test.YtpjdkgcdkfmkiaaDoorG9
import Derived.Test.YtpjdkgcdkfmkiaaDoorG11
import Derived.OrdersIn
import Derived.OrdersHeld
import Derived.RangeFuncCalls
namespace Go.Proofs.YtpjdkgcdkfmkiaaDoor
open Go Go.RowKit Go.ChangeShapes Go.WideShapes Go.Deep
set_option linter.unusedVariables false

def FactArg (w : World) (a : Option Addr) (cap : Nat) (l : List FactV) : Prop := CellRow w a (cellsOf FactV.cells l) ∧ l.length ≤ maxLen ∧ l.length ≤ cap
theorem factArg_nil (w : World) : FactArg w none 0 [] := ⟨.inl rfl, Nat.zero_le _, Nat.zero_le _⟩
end Go.Proofs.YtpjdkgcdkfmkiaaDoor
/- Mails, plain: when one is right. No program. -/
namespace Go.Proofs.YtpjdkgcdkfmkiaaDoor
open Go Go.RowKit
set_option linter.unusedVariables false

/-- A mail. -/
structure MailV where
  kind : Int
  frm : Int
  dst : Int
  num : Int
  about : Int
  fr : Int
  facts : List FactV
/-- For whom one asks. -/
def forR (n : Int) : Prop := n = 0 ∨ nodeR n
/-- What is asked of each kind by itself. -/
def MailV.own (m : MailV) : Prop :=
  (m.kind = 1 ∧ m.about = 0 ∧ forR m.fr) ∨ (m.kind = 2 ∧ nodeR m.about ∧ forR m.fr) ∨ (m.kind = 3 ∧ nodeR m.about ∧ m.about ≠ m.frm ∧ m.about ≠ m.dst ∧ m.fr = 0) ∨
    (m.kind = 4 ∧ m.about = 0 ∧ m.fr = 0) ∨ (m.kind = 5 ∧ m.about = 0 ∧ m.fr = 0)
/-- How many facts it has room for. -/
def mostF (k : Int) : Nat := if k ≤ 3 then 3 else 6
/-- What is asked of all kinds alike. -/
def MailV.alike (m : MailV) : Prop := nodeR m.frm ∧ nodeR m.dst ∧ m.frm ≠ m.dst ∧ timeR m.num
def MailV.ok (m : MailV) : Prop := m.own ∧ m.alike ∧ rightV m.facts ∧ m.facts.length ≤ mostF m.kind
theorem MailV.own_kind {m : MailV} (h : m.own) : 1 ≤ m.kind ∧ m.kind ≤ 5 := by
  unfold MailV.own at h
  omega
/-- As the specification asks it. -/
def MailV.ok2 (m : MailV) : Prop :=
  isIn m.kind 1 5 ∧ nodeR m.frm ∧ nodeR m.dst ∧ m.frm ≠ m.dst ∧ timeR m.num ∧ rightV m.facts ∧
    (m.kind = 2 → nodeR m.about) ∧ (m.kind = 3 → nodeR m.about ∧ m.about ≠ m.frm ∧ m.about ≠ m.dst) ∧ (m.kind ≠ 2 → m.kind ≠ 3 → m.about = 0) ∧
    (m.fr ≠ 0 → m.kind ≤ 2 ∧ nodeR m.fr) ∧ (3 < m.kind ∨ m.facts.length ≤ 3)
theorem MailV.ok_iff (m : MailV) : m.ok2 ↔ m.ok := by
  have hl := fun h => rightV_len (l := m.facts) h
  unfold MailV.ok2 MailV.ok MailV.own MailV.alike isIn mostF forR nodeR
  constructor
  · rintro ⟨h1, h2, h3, h4, h5, h6, h7, h8, h9, h10, h11⟩
    have := hl h6
    refine ⟨?_, ⟨h2, h3, h4, h5⟩, h6, ?_⟩
    · rcases (by omega : m.kind = 1 ∨ m.kind = 2 ∨ m.kind = 3 ∨ m.kind = 4 ∨ m.kind = 5) with k | k | k | k | k
      · exact .inl ⟨k, h9 (by omega) (by omega), by omega⟩
      · exact .inr (.inl ⟨k, h7 k, by omega⟩)
      · exact .inr (.inr (.inl ⟨k, (h8 k).1, (h8 k).2.1, (h8 k).2.2, by omega⟩))
      · exact .inr (.inr (.inr (.inl ⟨k, h9 (by omega) (by omega), by omega⟩)))
      · exact .inr (.inr (.inr (.inr ⟨k, h9 (by omega) (by omega), by omega⟩)))
    · split <;> omega
  · rintro ⟨h1, ⟨h2, h3, h4, h5⟩, h6, h7⟩
    refine ⟨by omega, h2, h3, h4, h5, h6, by omega, by omega, by omega, by omega, ?_⟩
    split at h7 <;> omega
end Go.Proofs.YtpjdkgcdkfmkiaaDoor
/- A mail that comes in as an argument of a law; a struct's fields, however many. -/
namespace Go.Proofs.YtpjdkgcdkfmkiaaDoor
open Go Go.RowKit Go.ChangeShapes Go.WideShapes Go.Deep
set_option linter.unusedVariables false

theorem trod_fields {H : Type} {enc : TypeId × Value → H} {P : Program} {w : World} {base : Nat} {spare : Nat → Bool} {held : Bool} {t : TypeId} {fs : Array Field} {fuel : Nat} {cs : List Value} {x : DataW H × List MemPlace} (ht : P.underlying t = some (.struct fs)) (h : DataW.trod enc P w base spare held fuel t cs = some x) :
    cs.length = P.cellsOf t ∧ ∃ n, ∀ (i : Nat) (f : Field), fs[i]? = some f → ∃ y, DataW.trod enc P w base spare held n f.type ((cs.drop f.offset).take (P.cellsOf f.type)) = some y := by
  obtain ⟨xs, n, _, rfl, hl, hlen, hf⟩ := DataW.trod_struct ht h
  refine ⟨hl, n, fun i f hi => ?_⟩
  have hif : i < fs.size := (Array.getElem?_eq_some_iff.1 hi).1
  have := hf i f hi
  rw [List.getElem?_eq_getElem (by omega)] at this
  exact ⟨_, this⟩
theorem array7 {α : Type} {cs : Array α} (h : cs.size = 7) : ∃ c0 c1 c2 c3 c4 c5 c6, cs = #[c0, c1, c2, c3, c4, c5, c6] := by
  obtain ⟨l⟩ := cs
  match l, h with
  | [c0, c1, c2, c3, c4, c5, c6], _ => exact ⟨c0, c1, c2, c3, c4, c5, c6, rfl⟩
/-- A mail, and where its facts lie. -/
structure MailA where
  k : Int
  f : Int
  t : Int
  n : Int
  a : Int
  r : Int
  p : Option Addr
  cap : Nat
  l : List FactV
def MailA.val (m : MailA) : Value := .agg #[.int .i64 m.k, .int .i64 m.f, .int .i64 m.t, .int .i64 m.n, .int .i64 m.a, .int .i64 m.r, .slice m.p m.l.length m.cap]
/-- The numbers are such. -/
def MailA.wf (m : MailA) : Prop := (Lit.int .i64 m.k).wf = true ∧ (Lit.int .i64 m.f).wf = true ∧ (Lit.int .i64 m.t).wf = true ∧ (Lit.int .i64 m.n).wf = true ∧ (Lit.int .i64 m.a).wf = true ∧ (Lit.int .i64 m.r).wf = true
end Go.Proofs.YtpjdkgcdkfmkiaaDoor
/- The contracts of the exact laws' helpers over mails: copy, compare, measure. -/
namespace Go.Proofs.YtpjdkgcdkfmkiaaDoor
open Go Go.RowKit
set_option linter.unusedVariables false

theorem blk7_cells {W : World} {b t : Nat} {u0 u1 u2 u3 u4 u5 u6 : Value} (h : BlkIs W b t #[u0, u1, u2, u3, u4, u5, u6]) :
    W.cell? ⟨b, 0, none⟩ = some u0 ∧ W.cell? ⟨b, 1, none⟩ = some u1 ∧ W.cell? ⟨b, 2, none⟩ = some u2 ∧ W.cell? ⟨b, 3, none⟩ = some u3 ∧ W.cell? ⟨b, 4, none⟩ = some u4 ∧ W.cell? ⟨b, 5, none⟩ = some u5 ∧ W.cell? ⟨b, 6, none⟩ = some u6 :=
  ⟨h.cell 0, h.cell 1, h.cell 2, h.cell 3, h.cell 4, h.cell 5, h.cell 6⟩
theorem blk_put7 {W : World} {b t : Nat} {u0 u1 u2 u3 u4 u5 u6 : Value} (h : BlkIs W b t #[u0, u1, u2, u3, u4, u5, u6]) (v0 v1 v2 v3 v4 v5 v6 : Value) :
    BlkIs (((((((W.setCell ⟨b, 0, none⟩ v0).setCell ⟨b, 1, none⟩ v1).setCell ⟨b, 2, none⟩ v2).setCell ⟨b, 3, none⟩ v3).setCell ⟨b, 4, none⟩ v4).setCell ⟨b, 5, none⟩ v5).setCell ⟨b, 6, none⟩ v6) b t #[v0, v1, v2, v3, v4, v5, v6] := by
  have := ((((((h.put 0 v0).put 1 v1).put 2 v2).put 3 v3).put 4 v4).put 5 v5).put 6 v6
  simpa using this
theorem keeps_seven (w : World) (b : Nat) (v0 v1 v2 v3 v4 v5 v6 : Value) : Keeps (fun k => k ≠ b) w (((((((w.setCell ⟨b, 0, none⟩ v0).setCell ⟨b, 1, none⟩ v1).setCell ⟨b, 2, none⟩ v2).setCell ⟨b, 3, none⟩ v3).setCell ⟨b, 4, none⟩ v4).setCell ⟨b, 5, none⟩ v5).setCell ⟨b, 6, none⟩ v6) :=
  (((((((Keeps.refl _ _).setCell (fun h => h rfl) _).setCell (fun h => h rfl) _).setCell (fun h => h rfl) _).setCell (fun h => h rfl) _).setCell (fun h => h rfl) _).setCell (fun h => h rfl) _).setCell (fun h => h rfl) _
theorem OwnCells.keepK {w w' : World} {lo : Nat} {a : Option Addr} {cs : List Value} (h : OwnCells w lo a cs) {G : Nat → Prop} (k : Keeps G w w') (hg : ∀ b, lo ≤ b → G b) : OwnCells w' lo a cs := by
  rcases h with h | ⟨b, off, rfl, hlo, hlt, hc, hf⟩
  · exact .inl h
  · exact .inr ⟨b, off, rfl, hlo, Nat.lt_of_lt_of_le hlt k.size, fun i hi => (k.cell (p := ⟨b, off + i, none⟩) hlt (hg b hlo)).trans (hc i hi), fun i hi => (k.frozen (p := ⟨b, off + i, none⟩) hlt (hg b hlo)).trans (hf i hi)⟩
set_option maxHeartbeats 1000000 in
set_option maxRecDepth 100000 in
theorem eqMail_same (k f t n a r : Int) (p1 p2 : Option Addr) (cap1 cap2 : Nat) (l : List FactV) (w : World) (hl : l.length ≤ 1048576) (h1 : CellRow w p1 (cellsOf FactV.cells l)) (h2 : CellRow w p2 (cellsOf FactV.cells l)) :
    Calls Tryd.prog 40 #[MailA.val ⟨k, f, t, n, a, r, p1, cap1, l⟩, MailA.val ⟨k, f, t, n, a, r, p2, cap2, l⟩] w fun e w' => e = .returned (.bool true) ∧ Below w.heap.size w w' := by
  unfold MailA.val
  dsimp only
  have B0 := ((Below.refl w.heap.size w).alloc (Nat.le_refl _) (.cells #[.int .i64 k, .int .i64 f, .int .i64 t, .int .i64 n, .int .i64 a, .int .i64 r, .slice p1 l.length cap1] 25)).alloc (by simp) (.cells #[.int .i64 k, .int .i64 f, .int .i64 t, .int .i64 n, .int .i64 a, .int .i64 r, .slice p2 l.length cap2] 25)
  have m1 := h1.keep B0
  have m2 := h2.keep B0
  go_enter Tryd.func40, Tryd.ntmps40
  go_wp2_with fail
  refine (eqFacts_same p1 cap1 p2 cap2 l _ hl m1 m2).mono ?_
  rintro e x ⟨rfl, bx⟩
  have B1 := B0.trans (bx.mono B0.size)
  clear bx m1 m2 B0
  go_wp2
  go_ret
  exact ⟨rfl, B1⟩
end Go.Proofs.YtpjdkgcdkfmkiaaDoor
/- A region that draws its order, in a round of a range over a function: the laws of plain walks serve there too. No program. -/
namespace Go.Proofs.YtpjdkgcdkfmkiaaDoor
open Go Go.RowKit
set_option linter.unusedVariables false

theorem oper_round {P : Program} {Q : Exit → Act → World → Prop} {l n : Nat} {o : Oper} {a : Act} {w : World} {K K' : Act → World → Prop} (hd : ∀ c, o.op ≠ .defer c) (hk : ∀ a w, K a w → K' a w) (h : o.wp P a w K Q) : o.wpIn (Fence.wide.inRound l) n P a w K' Q := by
  unfold Oper.wpIn
  unfold Oper.wp at h
  rw [Oper.semAt_eq _ _ _ hd]
  refine ⟨fun f _ => trivial, ?_⟩
  generalize (execOp a.eval o).run P w = r at *
  cases r with
  | ok x w' =>
    cases x with
    | value v => exact hk _ _ h
    | skip => exact hk _ _ h
    | defer d => exact hk _ _ h
    | enter f args =>
      refine ⟨fun e => by simp [Fence.wide] at e, CallsIn.mono (CallsIn.inRound l (callsIn_wide.2 h)) ?_⟩
      intro e w'' he
      cases e <;> first | exact hk _ _ he | exact he
    | row row args =>
      refine ⟨fun e => by simp [Fence.wide] at e, ?_⟩
      intro c cs _
      obtain ⟨v, w2, hr, hs⟩ := h c cs
      exact ⟨v, w2, hk _ _ hr, stepsIn_wide.2 hs⟩
    | _ => exact h.elim
  | halt x w' => cases x <;> first | exact h | exact h.elim
theorem any_round {P : Program} {md : Region.Mode} {ops : Array Oper} {Q : Exit → Act → World → Prop} {l n : Nat} (hq : ¬ LetsOut Q) (hd : ∀ (i : Nat) (o : Oper), ops[i]? = some o → ∀ c, o.op ≠ .defer c) :
    ∀ (fuel : Nat) (listed : Array Bool) (a : Act) (w : World), wpAny P md ops Q fuel listed a w → wpAnyIn (Fence.wide.inRound l) n P md ops Q fuel listed a w := by
  intro fuel
  induction fuel with
  | zero => intro listed a w h; exact h
  | succ fuel ih =>
    intro listed a w h
    refine ⟨h.1, fun i hi => ?_⟩
    have h2 := h.2 i hi
    unfold wpOp at h2
    unfold wpOpIn
    cases ho : ops[i]? with
    | none => rw [ho] at h2; exact ih _ _ _ h2
    | some o =>
      rw [ho] at h2
      simp only at h2 ⊢
      by_cases hw : Region.wanted o (yielded ops a.tmps) = true
      · rw [if_pos hw] at h2 ⊢
        rcases h2 with h2 | ⟨_, h2⟩
        · exact oper_round (hd i o ho) (fun a w h => ih _ _ _ h) h2
        · exact absurd h2 hq
      · rw [if_neg hw] at h2 ⊢
        exact ⟨fun f _ => trivial, ih _ _ _ h2⟩
def noDefer (ops : Array Oper) : Bool := ops.all fun o => match o.op with | .defer _ => false | _ => true
theorem noDefer_at {ops : Array Oper} (h : noDefer ops = true) : ∀ (i : Nat) (o : Oper), ops[i]? = some o → ∀ c, o.op ≠ .defer c := by
  intro i o ho c hc
  unfold noDefer at h
  rw [Array.all_eq_true] at h
  obtain ⟨hi, he⟩ := Array.getElem?_eq_some_iff.1 ho
  have := h i hi
  rw [he, hc] at this
  exact absurd this (by simp)
/-- A drawn region of a round, by the laws of a plain one. -/
theorem region_round {P : Program} {ops : Array Oper} {Q : Exit → Act → World → Prop} {S : World → Prop} {l n id : Nat} {a : Act} {w : World} (hm : P.follows .mixedOrders = true) (hd : noDefer ops = true) (hq : ¬ LetsOut Q) (hS : S w.drew)
    (h : S w.drew → wpAnyH P .any ops Q S ops.size (Array.replicate ops.size false) a w.drew) : (Code.region id ops true).wpIn (Fence.wide.inRound l) n P Q a w :=
  wpIn_region_any hm (any_round hq (noDefer_at hd) _ _ _ _ (wpAny_of_held _ _ _ _ (h hS)))
end Go.Proofs.YtpjdkgcdkfmkiaaDoor
