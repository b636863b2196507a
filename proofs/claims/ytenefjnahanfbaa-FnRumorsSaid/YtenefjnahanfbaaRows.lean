/-
  No cell of these rows narrows 'for every input' (looked for: loops, veiled, ifaces, maps, wideKeys, modest, calm, conditions, laid).
  DERIVED. THE GIVEN ROWS OF THIS SEAT. 4 by the template 'for every input the law returns true; each argument reads behind the call as it read before'; 0 by the template 'total and deterministic' (their statements: YtenefjnahanfbaaTotals.lean).
  GIVEN WITH THE SEED: the statements are not yours to turn. If you find one false, say at which input.
  Laid BY PROGRAM, IN A SANDBOX (cutbox-rows.mjs): the forced cells as the released guide's own fill.sh prints them over the translation b739a88699cc9751… (all of the seat's roots in one cut). By AI agents, Wed Nov 11 2026. No macro, syntax, notation, axiom, sorry.
-/
import Derived.Test.YtenefjnahanfbaaChecked
import GoSem.Claim
import GoSem.ClaimJoined
import GoSem.ClaimMapViews
import Derived.JoinedTies
import Derived.KernelRfl
namespace Go.Proofs.Ytenefjnahanfbaa
/- THE CELL 'sum', in the pinned program and in every row, IS THE sha256 OF THE DUMP (.gsa) THAT YtenefjnahanfbaaProg.lean LOADS. Nothing in Lean hashes anything: it is a label: what it is worth is what the hold of that sum in a sandbox is worth. -/
noncomputable def Try.pinned : Pinned := { name := "ytenefjnahanfbaa", sum := "b739a88699cc9751aeaa9dfb7a1e1552150c7f964502a76d211c1a96343d6e41", checked := Try.checked }
namespace Rows
def none {H : Type} : Left H := { results := [], args := [] }

/-- 'laws.FnRumors': WHATEVER THE INPUT: true; the input reads as it did. -/
def fnRumorsSpec : ChangeSpec := { name := "fnRumors", fn := fun _ => fun
  | [d1, d2] => { results := [.lit (.bool true)], args := [d1, d2] }
  | _ => none }
def fnRumorsRow : OpenClaim := { program := "ytenefjnahanfbaa", sum := "b739a88699cc9751aeaa9dfb7a1e1552150c7f964502a76d211c1a96343d6e41", func := "loop.example/g00678/laws.FnRumors", spec := "fnRumors", inPlace := ["slices.overlaps[loop.example/g00678/impl.Fact]"], unfollowed := true, recurses := true, apart := false }
def FnRumorsSaid : Prop := fnRumorsRow.holds Try.pinned (OpenSpec.ofChange fnRumorsSpec)

/-- ITS FALSE NEIGHBOUR: 'it returns false'. Refute it at one input. -/
def fnRumorsWrong : ChangeSpec := { name := "fnRumors", fn := fun _ => fun
  | [d1, d2] => { results := [.lit (.bool false)], args := [d1, d2] }
  | _ => none }
def FnRumorsWrongFalsely : Prop := fnRumorsRow.holds Try.pinned (OpenSpec.ofChange fnRumorsWrong)

/-- 'laws.FnExactRumorsRight': WHATEVER THE INPUT: true; the input reads as it did. -/
def fnExactRumorsRightSpec : ChangeSpec := { name := "fnExactRumorsRight", fn := fun _ => fun
  | [d] => { results := [.lit (.bool true)], args := [d] }
  | _ => none }
def fnExactRumorsRightRow : OpenClaim := { program := "ytenefjnahanfbaa", sum := "b739a88699cc9751aeaa9dfb7a1e1552150c7f964502a76d211c1a96343d6e41", func := "loop.example/g00678/laws.FnExactRumorsRight", spec := "fnExactRumorsRight", apart := false }
def FnExactRumorsRightSaid : Prop := fnExactRumorsRightRow.holds Try.pinned (OpenSpec.ofChange fnExactRumorsRightSpec)

/-- ITS FALSE NEIGHBOUR: 'it returns false'. Refute it at one input. -/
def fnExactRumorsRightWrong : ChangeSpec := { name := "fnExactRumorsRight", fn := fun _ => fun
  | [d] => { results := [.lit (.bool false)], args := [d] }
  | _ => none }
def FnExactRumorsRightWrongFalsely : Prop := fnExactRumorsRightRow.holds Try.pinned (OpenSpec.ofChange fnExactRumorsRightWrong)

/-- 'laws.FnExactRumorPut': WHATEVER THE INPUT: true; the input reads as it did. -/
def fnExactRumorPutSpec : ChangeSpec := { name := "fnExactRumorPut", fn := fun _ => fun
  | [d1, d2] => { results := [.lit (.bool true)], args := [d1, d2] }
  | _ => none }
def fnExactRumorPutRow : OpenClaim := { program := "ytenefjnahanfbaa", sum := "b739a88699cc9751aeaa9dfb7a1e1552150c7f964502a76d211c1a96343d6e41", func := "loop.example/g00678/laws.FnExactRumorPut", spec := "fnExactRumorPut", apart := false }
def FnExactRumorPutSaid : Prop := fnExactRumorPutRow.holds Try.pinned (OpenSpec.ofChange fnExactRumorPutSpec)

/-- ITS FALSE NEIGHBOUR: 'it returns false'. Refute it at one input. -/
def fnExactRumorPutWrong : ChangeSpec := { name := "fnExactRumorPut", fn := fun _ => fun
  | [d1, d2] => { results := [.lit (.bool false)], args := [d1, d2] }
  | _ => none }
def FnExactRumorPutWrongFalsely : Prop := fnExactRumorPutRow.holds Try.pinned (OpenSpec.ofChange fnExactRumorPutWrong)

/-- 'laws.FnExactRumorPick': WHATEVER THE INPUT: true; the input reads as it did. -/
def fnExactRumorPickSpec : ChangeSpec := { name := "fnExactRumorPick", fn := fun _ => fun
  | [d1, d2] => { results := [.lit (.bool true)], args := [d1, d2] }
  | _ => none }
def fnExactRumorPickRow : OpenClaim := { program := "ytenefjnahanfbaa", sum := "b739a88699cc9751aeaa9dfb7a1e1552150c7f964502a76d211c1a96343d6e41", func := "loop.example/g00678/laws.FnExactRumorPick", spec := "fnExactRumorPick", inPlace := ["slices.overlaps[loop.example/g00678/impl.Fact]"], unfollowed := true, recurses := true, apart := false }
def FnExactRumorPickSaid : Prop := fnExactRumorPickRow.holds Try.pinned (OpenSpec.ofChange fnExactRumorPickSpec)

/-- ITS FALSE NEIGHBOUR: 'it returns false'. Refute it at one input. -/
def fnExactRumorPickWrong : ChangeSpec := { name := "fnExactRumorPick", fn := fun _ => fun
  | [d1, d2] => { results := [.lit (.bool false)], args := [d1, d2] }
  | _ => none }
def FnExactRumorPickWrongFalsely : Prop := fnExactRumorPickRow.holds Try.pinned (OpenSpec.ofChange fnExactRumorPickWrong)

/- THE SECOND FORM. 'bulk': how many values and letters a reading holds, each counted each time it is reached (what is shared counts as often as it is met; a slice's spare places count too). A statement '..UptoSaid' is the law's where the arguments, and the package variables that the reading takes, are together of bulk at most 1048576: NARROWER than '..Said'. Prove '..Said' where nothing that the law and all that it calls make is longer than what came in: it says more and counts as full. Else prove '..UptoSaid'. A law counts once. -/
mutual
def uptoBulk {H : Type} : DataW H → Nat
  | .lit (.string bytes) => bytes.length + 1
  | .lit _ => 1
  | .nil => 1
  | .ptr d => uptoBulk d + 1
  | .slice elems spare => uptoBulkAll elems + uptoBulkAll spare + 1
  | .agg parts => uptoBulkAll parts + 1
  | .iface _ d => uptoBulk d + 1
  | .map entries => uptoBulkEntries entries + 1
  | .held _ => 1
def uptoBulkAll {H : Type} : List (DataW H) → Nat
  | [] => 0
  | d :: r => uptoBulk d + uptoBulkAll r
def uptoBulkEntries {H : Type} : List (Lit × DataW H) → Nat
  | [] => 0
  | x :: r => uptoBulkEntry x + uptoBulkEntries r
def uptoBulkEntry {H : Type} : Lit × DataW H → Nat
  | (.string bytes, d) => bytes.length + uptoBulk d + 1
  | (_, d) => uptoBulk d + 1
 end
def uptoSmall : (H : Type) → List (DataW H) → Bool := fun _ ds => decide (uptoBulkAll ds ≤ 1048576)
def OpenSpec.upto (s : _root_.Go.ChangeSpec) : _root_.Go.OpenSpec := { _root_.Go.OpenSpec.ofChange s with cond := some uptoSmall }

/-- 'laws.FnRumors', WHERE WHAT IT READS IS OF BULK AT MOST 1048576: true; the input reads as it did. -/
def fnRumorsUptoRow : OpenClaim := { program := "ytenefjnahanfbaa", sum := "b739a88699cc9751aeaa9dfb7a1e1552150c7f964502a76d211c1a96343d6e41", func := "loop.example/g00678/laws.FnRumors", spec := "fnRumors", inPlace := ["slices.overlaps[loop.example/g00678/impl.Fact]"], unfollowed := true, recurses := true, apart := false, narrowed := true }
def FnRumorsUptoSaid : Prop := fnRumorsUptoRow.holds Try.pinned (OpenSpec.upto fnRumorsSpec)

/-- 'laws.FnExactRumorsRight', WHERE WHAT IT READS IS OF BULK AT MOST 1048576: true; the input reads as it did. -/
def fnExactRumorsRightUptoRow : OpenClaim := { program := "ytenefjnahanfbaa", sum := "b739a88699cc9751aeaa9dfb7a1e1552150c7f964502a76d211c1a96343d6e41", func := "loop.example/g00678/laws.FnExactRumorsRight", spec := "fnExactRumorsRight", apart := false, narrowed := true }
def FnExactRumorsRightUptoSaid : Prop := fnExactRumorsRightUptoRow.holds Try.pinned (OpenSpec.upto fnExactRumorsRightSpec)

/-- 'laws.FnExactRumorPut', WHERE WHAT IT READS IS OF BULK AT MOST 1048576: true; the input reads as it did. -/
def fnExactRumorPutUptoRow : OpenClaim := { program := "ytenefjnahanfbaa", sum := "b739a88699cc9751aeaa9dfb7a1e1552150c7f964502a76d211c1a96343d6e41", func := "loop.example/g00678/laws.FnExactRumorPut", spec := "fnExactRumorPut", apart := false, narrowed := true }
def FnExactRumorPutUptoSaid : Prop := fnExactRumorPutUptoRow.holds Try.pinned (OpenSpec.upto fnExactRumorPutSpec)

/-- 'laws.FnExactRumorPick', WHERE WHAT IT READS IS OF BULK AT MOST 1048576: true; the input reads as it did. -/
def fnExactRumorPickUptoRow : OpenClaim := { program := "ytenefjnahanfbaa", sum := "b739a88699cc9751aeaa9dfb7a1e1552150c7f964502a76d211c1a96343d6e41", func := "loop.example/g00678/laws.FnExactRumorPick", spec := "fnExactRumorPick", inPlace := ["slices.overlaps[loop.example/g00678/impl.Fact]"], unfollowed := true, recurses := true, apart := false, narrowed := true }
def FnExactRumorPickUptoSaid : Prop := fnExactRumorPickUptoRow.holds Try.pinned (OpenSpec.upto fnExactRumorPickSpec)

end Rows
end Go.Proofs.Ytenefjnahanfbaa
