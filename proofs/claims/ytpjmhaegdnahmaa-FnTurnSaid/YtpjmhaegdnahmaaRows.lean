/-
  No cell of these rows narrows 'for every input' (looked for: loops, veiled, ifaces, maps, wideKeys, modest, calm, conditions, laid).
  DERIVED. THE GIVEN ROWS OF THIS SEAT. 4 by the template 'for every input the law returns true; each argument reads behind the call as it read before'; 0 by the template 'total and deterministic' (their statements: YtpjmhaegdnahmaaTotals.lean).
  GIVEN WITH THE SEED: the statements are not yours to turn. If you find one false, say at which input.
  Laid BY PROGRAM, IN A SANDBOX (cutbox-rows.mjs): the forced cells as the released guide's own fill.sh prints them over the translation 65cd2c28a5468b4f… (all of the seat's roots in one cut). By AI agents, Wed Nov 11 2026. No macro, syntax, notation, axiom, sorry.
-/
import Derived.Test.YtpjmhaegdnahmaaChecked
import GoSem.Claim
import GoSem.ClaimJoined
import GoSem.ClaimMapViews
import Derived.JoinedTies
import Derived.KernelRfl
namespace Go.Proofs.Ytpjmhaegdnahmaa
/- THE CELL 'sum', in the pinned program and in every row, IS THE sha256 OF THE DUMP (.gsa) THAT YtpjmhaegdnahmaaProg.lean LOADS. Nothing in Lean hashes anything: it is a label: what it is worth is what the hold of that sum in a sandbox is worth. -/
noncomputable def Try.pinned : Pinned := { name := "ytpjmhaegdnahmaa", sum := "65cd2c28a5468b4f0084faff8da97fd16af7fe6547bdedb720f25b2b5238106f", checked := Try.checked }
namespace Rows
def none {H : Type} : Left H := { results := [], args := [] }

/-- 'laws.FnTurn': WHATEVER THE INPUT: true; the input reads as it did. -/
def fnTurnSpec : ChangeSpec := { name := "fnTurn", fn := fun _ => fun
  | [d1, d2] => { results := [.lit (.bool true)], args := [d1, d2] }
  | _ => none }
def fnTurnRow : OpenClaim := { program := "ytpjmhaegdnahmaa", sum := "65cd2c28a5468b4f0084faff8da97fd16af7fe6547bdedb720f25b2b5238106f", func := "loop.example/g00678/laws.FnTurn", spec := "fnTurn", apart := false }
def FnTurnSaid : Prop := fnTurnRow.holds Try.pinned (OpenSpec.ofChange fnTurnSpec)

/-- ITS FALSE NEIGHBOUR: 'it returns false'. Refute it at one input. -/
def fnTurnWrong : ChangeSpec := { name := "fnTurn", fn := fun _ => fun
  | [d1, d2] => { results := [.lit (.bool false)], args := [d1, d2] }
  | _ => none }
def FnTurnWrongFalsely : Prop := fnTurnRow.holds Try.pinned (OpenSpec.ofChange fnTurnWrong)

/-- 'laws.FnExactTurnRight': WHATEVER THE INPUT: true; the input reads as it did. -/
def fnExactTurnRightSpec : ChangeSpec := { name := "fnExactTurnRight", fn := fun _ => fun
  | [d] => { results := [.lit (.bool true)], args := [d] }
  | _ => none }
def fnExactTurnRightRow : OpenClaim := { program := "ytpjmhaegdnahmaa", sum := "65cd2c28a5468b4f0084faff8da97fd16af7fe6547bdedb720f25b2b5238106f", func := "loop.example/g00678/laws.FnExactTurnRight", spec := "fnExactTurnRight", apart := false }
def FnExactTurnRightSaid : Prop := fnExactTurnRightRow.holds Try.pinned (OpenSpec.ofChange fnExactTurnRightSpec)

/-- ITS FALSE NEIGHBOUR: 'it returns false'. Refute it at one input. -/
def fnExactTurnRightWrong : ChangeSpec := { name := "fnExactTurnRight", fn := fun _ => fun
  | [d] => { results := [.lit (.bool false)], args := [d] }
  | _ => none }
def FnExactTurnRightWrongFalsely : Prop := fnExactTurnRightRow.holds Try.pinned (OpenSpec.ofChange fnExactTurnRightWrong)

/-- 'laws.FnExactTurnNext': WHATEVER THE INPUT: true; the input reads as it did. -/
def fnExactTurnNextSpec : ChangeSpec := { name := "fnExactTurnNext", fn := fun _ => fun
  | [d1, d2, d3] => { results := [.lit (.bool true)], args := [d1, d2, d3] }
  | _ => none }
def fnExactTurnNextRow : OpenClaim := { program := "ytpjmhaegdnahmaa", sum := "65cd2c28a5468b4f0084faff8da97fd16af7fe6547bdedb720f25b2b5238106f", func := "loop.example/g00678/laws.FnExactTurnNext", spec := "fnExactTurnNext", apart := false }
def FnExactTurnNextSaid : Prop := fnExactTurnNextRow.holds Try.pinned (OpenSpec.ofChange fnExactTurnNextSpec)

/-- ITS FALSE NEIGHBOUR: 'it returns false'. Refute it at one input. -/
def fnExactTurnNextWrong : ChangeSpec := { name := "fnExactTurnNext", fn := fun _ => fun
  | [d1, d2, d3] => { results := [.lit (.bool false)], args := [d1, d2, d3] }
  | _ => none }
def FnExactTurnNextWrongFalsely : Prop := fnExactTurnNextRow.holds Try.pinned (OpenSpec.ofChange fnExactTurnNextWrong)

/-- 'laws.FnExactSome': WHATEVER THE INPUT: true; the input reads as it did. -/
def fnExactSomeSpec : ChangeSpec := { name := "fnExactSome", fn := fun _ => fun
  | [d1, d2, d3] => { results := [.lit (.bool true)], args := [d1, d2, d3] }
  | _ => none }
def fnExactSomeRow : OpenClaim := { program := "ytpjmhaegdnahmaa", sum := "65cd2c28a5468b4f0084faff8da97fd16af7fe6547bdedb720f25b2b5238106f", func := "loop.example/g00678/laws.FnExactSome", spec := "fnExactSome", apart := false }
def FnExactSomeSaid : Prop := fnExactSomeRow.holds Try.pinned (OpenSpec.ofChange fnExactSomeSpec)

/-- ITS FALSE NEIGHBOUR: 'it returns false'. Refute it at one input. -/
def fnExactSomeWrong : ChangeSpec := { name := "fnExactSome", fn := fun _ => fun
  | [d1, d2, d3] => { results := [.lit (.bool false)], args := [d1, d2, d3] }
  | _ => none }
def FnExactSomeWrongFalsely : Prop := fnExactSomeRow.holds Try.pinned (OpenSpec.ofChange fnExactSomeWrong)

/- THE SECOND FORM. 'bulk': how many values and letters a reading holds, each counted each time it is reached (what is shared counts as often as it is met; a slice's spare places count too). A statement '..UptoSaid' is the law's where the arguments, and the package variables that the reading takes, are together of bulk at most 1048576: NARROWER than '..Said'. Prove '..Said' where nothing that the law and all that it calls make is longer than what came in: it says more and counts as full. Else prove '..UptoSaid'. A law counts once. -/
mutual
def uptoBulk {H : Type} : DataW H → Nat
  | .lit (.string bytes) => bytes.length + 1
  | .lit _ => 1
  | .nil => 1
  | .ptr d => uptoBulk d + 1
  | .slice elems spare => uptoBulkAll elems + uptoBulkAll spare + 1
  | .agg parts => uptoBulkAll parts + 1
  | .iface _ d => uptoBulk d + 1
  | .map entries => uptoBulkEntries entries + 1
  | .held _ => 1
def uptoBulkAll {H : Type} : List (DataW H) → Nat
  | [] => 0
  | d :: r => uptoBulk d + uptoBulkAll r
def uptoBulkEntries {H : Type} : List (Lit × DataW H) → Nat
  | [] => 0
  | x :: r => uptoBulkEntry x + uptoBulkEntries r
def uptoBulkEntry {H : Type} : Lit × DataW H → Nat
  | (.string bytes, d) => bytes.length + uptoBulk d + 1
  | (_, d) => uptoBulk d + 1
 end
def uptoSmall : (H : Type) → List (DataW H) → Bool := fun _ ds => decide (uptoBulkAll ds ≤ 1048576)
def OpenSpec.upto (s : _root_.Go.ChangeSpec) : _root_.Go.OpenSpec := { _root_.Go.OpenSpec.ofChange s with cond := some uptoSmall }

/-- 'laws.FnTurn', WHERE WHAT IT READS IS OF BULK AT MOST 1048576: true; the input reads as it did. -/
def fnTurnUptoRow : OpenClaim := { program := "ytpjmhaegdnahmaa", sum := "65cd2c28a5468b4f0084faff8da97fd16af7fe6547bdedb720f25b2b5238106f", func := "loop.example/g00678/laws.FnTurn", spec := "fnTurn", apart := false, narrowed := true }
def FnTurnUptoSaid : Prop := fnTurnUptoRow.holds Try.pinned (OpenSpec.upto fnTurnSpec)

/-- 'laws.FnExactTurnRight', WHERE WHAT IT READS IS OF BULK AT MOST 1048576: true; the input reads as it did. -/
def fnExactTurnRightUptoRow : OpenClaim := { program := "ytpjmhaegdnahmaa", sum := "65cd2c28a5468b4f0084faff8da97fd16af7fe6547bdedb720f25b2b5238106f", func := "loop.example/g00678/laws.FnExactTurnRight", spec := "fnExactTurnRight", apart := false, narrowed := true }
def FnExactTurnRightUptoSaid : Prop := fnExactTurnRightUptoRow.holds Try.pinned (OpenSpec.upto fnExactTurnRightSpec)

/-- 'laws.FnExactTurnNext', WHERE WHAT IT READS IS OF BULK AT MOST 1048576: true; the input reads as it did. -/
def fnExactTurnNextUptoRow : OpenClaim := { program := "ytpjmhaegdnahmaa", sum := "65cd2c28a5468b4f0084faff8da97fd16af7fe6547bdedb720f25b2b5238106f", func := "loop.example/g00678/laws.FnExactTurnNext", spec := "fnExactTurnNext", apart := false, narrowed := true }
def FnExactTurnNextUptoSaid : Prop := fnExactTurnNextUptoRow.holds Try.pinned (OpenSpec.upto fnExactTurnNextSpec)

/-- 'laws.FnExactSome', WHERE WHAT IT READS IS OF BULK AT MOST 1048576: true; the input reads as it did. -/
def fnExactSomeUptoRow : OpenClaim := { program := "ytpjmhaegdnahmaa", sum := "65cd2c28a5468b4f0084faff8da97fd16af7fe6547bdedb720f25b2b5238106f", func := "loop.example/g00678/laws.FnExactSome", spec := "fnExactSome", apart := false, narrowed := true }
def FnExactSomeUptoSaid : Prop := fnExactSomeUptoRow.holds Try.pinned (OpenSpec.upto fnExactSomeSpec)

end Rows
end Go.Proofs.Ytpjmhaegdnahmaa
