/-
  No cell of these rows narrows 'for every input' (looked for: loops, veiled, ifaces, maps, wideKeys, modest, calm, conditions, laid).
  DERIVED. THE GIVEN ROWS OF THIS SEAT. 3 by the template 'for every input the law returns true; each argument reads behind the call as it read before'; 0 by the template 'total and deterministic' (their statements: YtgmdgjkmdnpmiaaTotals.lean).
  GIVEN WITH THE SEED: the statements are not yours to turn. If you find one false, say at which input.
  Laid BY PROGRAM, IN A SANDBOX (cutbox-rows.mjs): the forced cells as the released guide's own fill.sh prints them over the translation 290fe4bcfc962e1f… (all of the seat's roots in one cut). By AI agents, Wed Nov 11 2026. No macro, syntax, notation, axiom, sorry.
-/
import Derived.Test.YtgmdgjkmdnpmiaaChecked
import GoSem.Claim
import GoSem.ClaimJoined
import GoSem.ClaimMapViews
import Derived.JoinedTies
import Derived.KernelRfl
namespace Go.Proofs.Ytgmdgjkmdnpmiaa
/- THE CELL 'sum', in the pinned program and in every row, IS THE sha256 OF THE DUMP (.gsa) THAT YtgmdgjkmdnpmiaaProg.lean LOADS. Nothing in Lean hashes anything: it is a label: what it is worth is what the hold of that sum in a sandbox is worth. -/
noncomputable def Try.pinned : Pinned := { name := "ytgmdgjkmdnpmiaa", sum := "290fe4bcfc962e1f44344d27ab62968e7d5521218e79242c197fbe65c2fb85d0", checked := Try.checked }
namespace Rows
def none {H : Type} : Left H := { results := [], args := [] }

/-- 'laws.FnExactRecRight': WHATEVER THE INPUT: true; the input reads as it did. -/
def fnExactRecRightSpec : ChangeSpec := { name := "fnExactRecRight", fn := fun _ => fun
  | [d] => { results := [.lit (.bool true)], args := [d] }
  | _ => none }
def fnExactRecRightRow : OpenClaim := { program := "ytgmdgjkmdnpmiaa", sum := "290fe4bcfc962e1f44344d27ab62968e7d5521218e79242c197fbe65c2fb85d0", func := "loop.example/g00678/laws.FnExactRecRight", spec := "fnExactRecRight", apart := false }
def FnExactRecRightSaid : Prop := fnExactRecRightRow.holds Try.pinned (OpenSpec.ofChange fnExactRecRightSpec)

/-- ITS FALSE NEIGHBOUR: 'it returns false'. Refute it at one input. -/
def fnExactRecRightWrong : ChangeSpec := { name := "fnExactRecRight", fn := fun _ => fun
  | [d] => { results := [.lit (.bool false)], args := [d] }
  | _ => none }
def FnExactRecRightWrongFalsely : Prop := fnExactRecRightRow.holds Try.pinned (OpenSpec.ofChange fnExactRecRightWrong)

/-- 'laws.FnExactRecBytes': WHATEVER THE INPUT: true; the input reads as it did. -/
def fnExactRecBytesSpec : ChangeSpec := { name := "fnExactRecBytes", fn := fun _ => fun
  | [d] => { results := [.lit (.bool true)], args := [d] }
  | _ => none }
def fnExactRecBytesRow : OpenClaim := { program := "ytgmdgjkmdnpmiaa", sum := "290fe4bcfc962e1f44344d27ab62968e7d5521218e79242c197fbe65c2fb85d0", func := "loop.example/g00678/laws.FnExactRecBytes", spec := "fnExactRecBytes", apart := false }
def FnExactRecBytesSaid : Prop := fnExactRecBytesRow.holds Try.pinned (OpenSpec.ofChange fnExactRecBytesSpec)

/-- ITS FALSE NEIGHBOUR: 'it returns false'. Refute it at one input. -/
def fnExactRecBytesWrong : ChangeSpec := { name := "fnExactRecBytes", fn := fun _ => fun
  | [d] => { results := [.lit (.bool false)], args := [d] }
  | _ => none }
def FnExactRecBytesWrongFalsely : Prop := fnExactRecBytesRow.holds Try.pinned (OpenSpec.ofChange fnExactRecBytesWrong)

/-- 'laws.FnExactRecsBytes': WHATEVER THE INPUT: true; the input reads as it did. -/
def fnExactRecsBytesSpec : ChangeSpec := { name := "fnExactRecsBytes", fn := fun _ => fun
  | [d] => { results := [.lit (.bool true)], args := [d] }
  | _ => none }
def fnExactRecsBytesRow : OpenClaim := { program := "ytgmdgjkmdnpmiaa", sum := "290fe4bcfc962e1f44344d27ab62968e7d5521218e79242c197fbe65c2fb85d0", func := "loop.example/g00678/laws.FnExactRecsBytes", spec := "fnExactRecsBytes", apart := false }
def FnExactRecsBytesSaid : Prop := fnExactRecsBytesRow.holds Try.pinned (OpenSpec.ofChange fnExactRecsBytesSpec)

/-- ITS FALSE NEIGHBOUR: 'it returns false'. Refute it at one input. -/
def fnExactRecsBytesWrong : ChangeSpec := { name := "fnExactRecsBytes", fn := fun _ => fun
  | [d] => { results := [.lit (.bool false)], args := [d] }
  | _ => none }
def FnExactRecsBytesWrongFalsely : Prop := fnExactRecsBytesRow.holds Try.pinned (OpenSpec.ofChange fnExactRecsBytesWrong)

/- THE SECOND FORM. 'bulk': how many values and letters a reading holds, each counted each time it is reached (what is shared counts as often as it is met; a slice's spare places count too). A statement '..UptoSaid' is the law's where the arguments, and the package variables that the reading takes, are together of bulk at most 1048576: NARROWER than '..Said'. Prove '..Said' where nothing that the law and all that it calls make is longer than what came in: it says more and counts as full. Else prove '..UptoSaid'. A law counts once. -/
mutual
def uptoBulk {H : Type} : DataW H → Nat
  | .lit (.string bytes) => bytes.length + 1
  | .lit _ => 1
  | .nil => 1
  | .ptr d => uptoBulk d + 1
  | .slice elems spare => uptoBulkAll elems + uptoBulkAll spare + 1
  | .agg parts => uptoBulkAll parts + 1
  | .iface _ d => uptoBulk d + 1
  | .map entries => uptoBulkEntries entries + 1
  | .held _ => 1
def uptoBulkAll {H : Type} : List (DataW H) → Nat
  | [] => 0
  | d :: r => uptoBulk d + uptoBulkAll r
def uptoBulkEntries {H : Type} : List (Lit × DataW H) → Nat
  | [] => 0
  | x :: r => uptoBulkEntry x + uptoBulkEntries r
def uptoBulkEntry {H : Type} : Lit × DataW H → Nat
  | (.string bytes, d) => bytes.length + uptoBulk d + 1
  | (_, d) => uptoBulk d + 1
 end
def uptoSmall : (H : Type) → List (DataW H) → Bool := fun _ ds => decide (uptoBulkAll ds ≤ 1048576)
def OpenSpec.upto (s : _root_.Go.ChangeSpec) : _root_.Go.OpenSpec := { _root_.Go.OpenSpec.ofChange s with cond := some uptoSmall }

/-- 'laws.FnExactRecRight', WHERE WHAT IT READS IS OF BULK AT MOST 1048576: true; the input reads as it did. -/
def fnExactRecRightUptoRow : OpenClaim := { program := "ytgmdgjkmdnpmiaa", sum := "290fe4bcfc962e1f44344d27ab62968e7d5521218e79242c197fbe65c2fb85d0", func := "loop.example/g00678/laws.FnExactRecRight", spec := "fnExactRecRight", apart := false, narrowed := true }
def FnExactRecRightUptoSaid : Prop := fnExactRecRightUptoRow.holds Try.pinned (OpenSpec.upto fnExactRecRightSpec)

/-- 'laws.FnExactRecBytes', WHERE WHAT IT READS IS OF BULK AT MOST 1048576: true; the input reads as it did. -/
def fnExactRecBytesUptoRow : OpenClaim := { program := "ytgmdgjkmdnpmiaa", sum := "290fe4bcfc962e1f44344d27ab62968e7d5521218e79242c197fbe65c2fb85d0", func := "loop.example/g00678/laws.FnExactRecBytes", spec := "fnExactRecBytes", apart := false, narrowed := true }
def FnExactRecBytesUptoSaid : Prop := fnExactRecBytesUptoRow.holds Try.pinned (OpenSpec.upto fnExactRecBytesSpec)

/-- 'laws.FnExactRecsBytes', WHERE WHAT IT READS IS OF BULK AT MOST 1048576: true; the input reads as it did. -/
def fnExactRecsBytesUptoRow : OpenClaim := { program := "ytgmdgjkmdnpmiaa", sum := "290fe4bcfc962e1f44344d27ab62968e7d5521218e79242c197fbe65c2fb85d0", func := "loop.example/g00678/laws.FnExactRecsBytes", spec := "fnExactRecsBytes", apart := false, narrowed := true }
def FnExactRecsBytesUptoSaid : Prop := fnExactRecsBytesUptoRow.holds Try.pinned (OpenSpec.upto fnExactRecsBytesSpec)

end Rows
end Go.Proofs.Ytgmdgjkmdnpmiaa
