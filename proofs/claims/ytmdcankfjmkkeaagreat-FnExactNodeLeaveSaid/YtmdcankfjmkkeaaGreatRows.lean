/-
  No cell of these rows narrows 'for every input' (looked for: loops, veiled, ifaces, maps, wideKeys, modest, calm, conditions, laid).
  DERIVED. THE GIVEN ROWS OF THIS SEAT. 6 by the template 'for every input the law returns true; each argument reads behind the call as it read before'; 0 by the template 'total and deterministic' (their statements: YtmdcankfjmkkeaaGreatTotals.lean).
  GIVEN WITH THE SEED: the statements are not yours to turn. If you find one false, say at which input.
  Laid BY PROGRAM, IN A SANDBOX (cutbox-rows.mjs): the forced cells as the released guide's own fill.sh prints them over the translation 334b9d06a73a2f7a… (all of the seat's roots in one cut). By AI agents, Wed Nov 11 2026. No macro, syntax, notation, axiom, sorry.
-/
import Derived.Test.YtmdcankfjmkkeaaGreatChecked
import GoSem.Claim
import GoSem.ClaimJoined
import GoSem.ClaimMapViews
import Derived.JoinedTies
import Derived.KernelRfl
namespace Go.Proofs.YtmdcankfjmkkeaaGreat
/- THE CELL 'sum', in the pinned program and in every row, IS THE sha256 OF THE DUMP (.gsa) THAT YtmdcankfjmkkeaaGreatProg.lean LOADS. Nothing in Lean hashes anything: it is a label: what it is worth is what the hold of that sum in a sandbox is worth. -/
noncomputable def Tryz.pinned : Pinned := { name := "ytmdcankfjmkkeaagreat", sum := "334b9d06a73a2f7aa51d16ec9a036fa4fc92c29c6e27255de82a2cc97d1be944", checked := Tryz.checked }
namespace Rows
def none {H : Type} : Left H := { results := [], args := [] }

/-- 'laws.FnNode': WHATEVER THE INPUT: true; the input reads as it did. -/
def fnNodeSpec : ChangeSpec := { name := "fnNode", fn := fun _ => fun
  | [d1, d2] => { results := [.lit (.bool true)], args := [d1, d2] }
  | _ => none }
def fnNodeRow : OpenClaim := { program := "ytmdcankfjmkkeaagreat", sum := "334b9d06a73a2f7aa51d16ec9a036fa4fc92c29c6e27255de82a2cc97d1be944", func := "loop.example/g00678/laws.FnNode", spec := "fnNode", inPlace := ["slices.overlaps[loop.example/g00678/impl.Fact]", "slices.overlaps[loop.example/g00678/impl.Doubt]"], unfollowed := true, recurses := true, plainKeys := false, apart := false }
def FnNodeSaid : Prop := fnNodeRow.holds Tryz.pinned (OpenSpec.ofChange fnNodeSpec)

/-- ITS FALSE NEIGHBOUR: 'it returns false'. Refute it at one input. -/
def fnNodeWrong : ChangeSpec := { name := "fnNode", fn := fun _ => fun
  | [d1, d2] => { results := [.lit (.bool false)], args := [d1, d2] }
  | _ => none }
def FnNodeWrongFalsely : Prop := fnNodeRow.holds Tryz.pinned (OpenSpec.ofChange fnNodeWrong)

/-- 'laws.FnRefute': WHATEVER THE INPUT: true; the input reads as it did. -/
def fnRefuteSpec : ChangeSpec := { name := "fnRefute", fn := fun _ => fun
  | [d1, d2] => { results := [.lit (.bool true)], args := [d1, d2] }
  | _ => none }
def fnRefuteRow : OpenClaim := { program := "ytmdcankfjmkkeaagreat", sum := "334b9d06a73a2f7aa51d16ec9a036fa4fc92c29c6e27255de82a2cc97d1be944", func := "loop.example/g00678/laws.FnRefute", spec := "fnRefute", inPlace := ["slices.overlaps[loop.example/g00678/impl.Fact]", "slices.overlaps[loop.example/g00678/impl.Doubt]"], unfollowed := true, recurses := true, plainKeys := false, apart := false }
def FnRefuteSaid : Prop := fnRefuteRow.holds Tryz.pinned (OpenSpec.ofChange fnRefuteSpec)

/-- ITS FALSE NEIGHBOUR: 'it returns false'. Refute it at one input. -/
def fnRefuteWrong : ChangeSpec := { name := "fnRefute", fn := fun _ => fun
  | [d1, d2] => { results := [.lit (.bool false)], args := [d1, d2] }
  | _ => none }
def FnRefuteWrongFalsely : Prop := fnRefuteRow.holds Tryz.pinned (OpenSpec.ofChange fnRefuteWrong)

/-- 'laws.FnExactNodeMeet': WHATEVER THE INPUT: true; the input reads as it did. -/
def fnExactNodeMeetSpec : ChangeSpec := { name := "fnExactNodeMeet", fn := fun _ => fun
  | [d1, d2] => { results := [.lit (.bool true)], args := [d1, d2] }
  | _ => none }
def fnExactNodeMeetRow : OpenClaim := { program := "ytmdcankfjmkkeaagreat", sum := "334b9d06a73a2f7aa51d16ec9a036fa4fc92c29c6e27255de82a2cc97d1be944", func := "loop.example/g00678/laws.FnExactNodeMeet", spec := "fnExactNodeMeet", inPlace := ["slices.overlaps[loop.example/g00678/impl.Fact]"], unfollowed := true, recurses := true, plainKeys := false, apart := false }
def FnExactNodeMeetSaid : Prop := fnExactNodeMeetRow.holds Tryz.pinned (OpenSpec.ofChange fnExactNodeMeetSpec)

/-- ITS FALSE NEIGHBOUR: 'it returns false'. Refute it at one input. -/
def fnExactNodeMeetWrong : ChangeSpec := { name := "fnExactNodeMeet", fn := fun _ => fun
  | [d1, d2] => { results := [.lit (.bool false)], args := [d1, d2] }
  | _ => none }
def FnExactNodeMeetWrongFalsely : Prop := fnExactNodeMeetRow.holds Tryz.pinned (OpenSpec.ofChange fnExactNodeMeetWrong)

/-- 'laws.FnExactNodeWake': WHATEVER THE INPUT: true; the input reads as it did. -/
def fnExactNodeWakeSpec : ChangeSpec := { name := "fnExactNodeWake", fn := fun _ => fun
  | [d1, d2] => { results := [.lit (.bool true)], args := [d1, d2] }
  | _ => none }
def fnExactNodeWakeRow : OpenClaim := { program := "ytmdcankfjmkkeaagreat", sum := "334b9d06a73a2f7aa51d16ec9a036fa4fc92c29c6e27255de82a2cc97d1be944", func := "loop.example/g00678/laws.FnExactNodeWake", spec := "fnExactNodeWake", inPlace := ["slices.overlaps[loop.example/g00678/impl.Fact]", "slices.overlaps[loop.example/g00678/impl.Doubt]"], unfollowed := true, recurses := true, plainKeys := false, apart := false }
def FnExactNodeWakeSaid : Prop := fnExactNodeWakeRow.holds Tryz.pinned (OpenSpec.ofChange fnExactNodeWakeSpec)

/-- ITS FALSE NEIGHBOUR: 'it returns false'. Refute it at one input. -/
def fnExactNodeWakeWrong : ChangeSpec := { name := "fnExactNodeWake", fn := fun _ => fun
  | [d1, d2] => { results := [.lit (.bool false)], args := [d1, d2] }
  | _ => none }
def FnExactNodeWakeWrongFalsely : Prop := fnExactNodeWakeRow.holds Tryz.pinned (OpenSpec.ofChange fnExactNodeWakeWrong)

/-- 'laws.FnExactNodeHear': WHATEVER THE INPUT: true; the input reads as it did. -/
def fnExactNodeHearSpec : ChangeSpec := { name := "fnExactNodeHear", fn := fun _ => fun
  | [d1, d2, d3] => { results := [.lit (.bool true)], args := [d1, d2, d3] }
  | _ => none }
def fnExactNodeHearRow : OpenClaim := { program := "ytmdcankfjmkkeaagreat", sum := "334b9d06a73a2f7aa51d16ec9a036fa4fc92c29c6e27255de82a2cc97d1be944", func := "loop.example/g00678/laws.FnExactNodeHear", spec := "fnExactNodeHear", inPlace := ["slices.overlaps[loop.example/g00678/impl.Fact]", "slices.overlaps[loop.example/g00678/impl.Doubt]"], unfollowed := true, recurses := true, plainKeys := false, apart := false }
def FnExactNodeHearSaid : Prop := fnExactNodeHearRow.holds Tryz.pinned (OpenSpec.ofChange fnExactNodeHearSpec)

/-- ITS FALSE NEIGHBOUR: 'it returns false'. Refute it at one input. -/
def fnExactNodeHearWrong : ChangeSpec := { name := "fnExactNodeHear", fn := fun _ => fun
  | [d1, d2, d3] => { results := [.lit (.bool false)], args := [d1, d2, d3] }
  | _ => none }
def FnExactNodeHearWrongFalsely : Prop := fnExactNodeHearRow.holds Tryz.pinned (OpenSpec.ofChange fnExactNodeHearWrong)

/-- 'laws.FnExactNodeLeave': WHATEVER THE INPUT: true; the input reads as it did. -/
def fnExactNodeLeaveSpec : ChangeSpec := { name := "fnExactNodeLeave", fn := fun _ => fun
  | [d] => { results := [.lit (.bool true)], args := [d] }
  | _ => none }
def fnExactNodeLeaveRow : OpenClaim := { program := "ytmdcankfjmkkeaagreat", sum := "334b9d06a73a2f7aa51d16ec9a036fa4fc92c29c6e27255de82a2cc97d1be944", func := "loop.example/g00678/laws.FnExactNodeLeave", spec := "fnExactNodeLeave", inPlace := ["slices.overlaps[loop.example/g00678/impl.Fact]"], unfollowed := true, recurses := true, plainKeys := false, apart := false }
def FnExactNodeLeaveSaid : Prop := fnExactNodeLeaveRow.holds Tryz.pinned (OpenSpec.ofChange fnExactNodeLeaveSpec)

/-- ITS FALSE NEIGHBOUR: 'it returns false'. Refute it at one input. -/
def fnExactNodeLeaveWrong : ChangeSpec := { name := "fnExactNodeLeave", fn := fun _ => fun
  | [d] => { results := [.lit (.bool false)], args := [d] }
  | _ => none }
def FnExactNodeLeaveWrongFalsely : Prop := fnExactNodeLeaveRow.holds Tryz.pinned (OpenSpec.ofChange fnExactNodeLeaveWrong)

/- THE SECOND FORM. 'bulk': how many values and letters a reading holds, each counted each time it is reached (what is shared counts as often as it is met; a slice's spare places count too). A statement '..UptoSaid' is the law's where the arguments, and the package variables that the reading takes, are together of bulk at most 1048576: NARROWER than '..Said'. Prove '..Said' where nothing that the law and all that it calls make is longer than what came in: it says more and counts as full. Else prove '..UptoSaid'. A law counts once. -/
mutual
def uptoBulk {H : Type} : DataW H → Nat
  | .lit (.string bytes) => bytes.length + 1
  | .lit _ => 1
  | .nil => 1
  | .ptr d => uptoBulk d + 1
  | .slice elems spare => uptoBulkAll elems + uptoBulkAll spare + 1
  | .agg parts => uptoBulkAll parts + 1
  | .iface _ d => uptoBulk d + 1
  | .map entries => uptoBulkEntries entries + 1
  | .held _ => 1
def uptoBulkAll {H : Type} : List (DataW H) → Nat
  | [] => 0
  | d :: r => uptoBulk d + uptoBulkAll r
def uptoBulkEntries {H : Type} : List (Lit × DataW H) → Nat
  | [] => 0
  | x :: r => uptoBulkEntry x + uptoBulkEntries r
def uptoBulkEntry {H : Type} : Lit × DataW H → Nat
  | (.string bytes, d) => bytes.length + uptoBulk d + 1
  | (_, d) => uptoBulk d + 1
 end
def uptoSmall : (H : Type) → List (DataW H) → Bool := fun _ ds => decide (uptoBulkAll ds ≤ 1048576)
def OpenSpec.upto (s : _root_.Go.ChangeSpec) : _root_.Go.OpenSpec := { _root_.Go.OpenSpec.ofChange s with cond := some uptoSmall }

/-- 'laws.FnNode', WHERE WHAT IT READS IS OF BULK AT MOST 1048576: true; the input reads as it did. -/
def fnNodeUptoRow : OpenClaim := { program := "ytmdcankfjmkkeaagreat", sum := "334b9d06a73a2f7aa51d16ec9a036fa4fc92c29c6e27255de82a2cc97d1be944", func := "loop.example/g00678/laws.FnNode", spec := "fnNode", inPlace := ["slices.overlaps[loop.example/g00678/impl.Fact]", "slices.overlaps[loop.example/g00678/impl.Doubt]"], unfollowed := true, recurses := true, plainKeys := false, apart := false, narrowed := true }
def FnNodeUptoSaid : Prop := fnNodeUptoRow.holds Tryz.pinned (OpenSpec.upto fnNodeSpec)

/-- 'laws.FnRefute', WHERE WHAT IT READS IS OF BULK AT MOST 1048576: true; the input reads as it did. -/
def fnRefuteUptoRow : OpenClaim := { program := "ytmdcankfjmkkeaagreat", sum := "334b9d06a73a2f7aa51d16ec9a036fa4fc92c29c6e27255de82a2cc97d1be944", func := "loop.example/g00678/laws.FnRefute", spec := "fnRefute", inPlace := ["slices.overlaps[loop.example/g00678/impl.Fact]", "slices.overlaps[loop.example/g00678/impl.Doubt]"], unfollowed := true, recurses := true, plainKeys := false, apart := false, narrowed := true }
def FnRefuteUptoSaid : Prop := fnRefuteUptoRow.holds Tryz.pinned (OpenSpec.upto fnRefuteSpec)

/-- 'laws.FnExactNodeMeet', WHERE WHAT IT READS IS OF BULK AT MOST 1048576: true; the input reads as it did. -/
def fnExactNodeMeetUptoRow : OpenClaim := { program := "ytmdcankfjmkkeaagreat", sum := "334b9d06a73a2f7aa51d16ec9a036fa4fc92c29c6e27255de82a2cc97d1be944", func := "loop.example/g00678/laws.FnExactNodeMeet", spec := "fnExactNodeMeet", inPlace := ["slices.overlaps[loop.example/g00678/impl.Fact]"], unfollowed := true, recurses := true, plainKeys := false, apart := false, narrowed := true }
def FnExactNodeMeetUptoSaid : Prop := fnExactNodeMeetUptoRow.holds Tryz.pinned (OpenSpec.upto fnExactNodeMeetSpec)

/-- 'laws.FnExactNodeWake', WHERE WHAT IT READS IS OF BULK AT MOST 1048576: true; the input reads as it did. -/
def fnExactNodeWakeUptoRow : OpenClaim := { program := "ytmdcankfjmkkeaagreat", sum := "334b9d06a73a2f7aa51d16ec9a036fa4fc92c29c6e27255de82a2cc97d1be944", func := "loop.example/g00678/laws.FnExactNodeWake", spec := "fnExactNodeWake", inPlace := ["slices.overlaps[loop.example/g00678/impl.Fact]", "slices.overlaps[loop.example/g00678/impl.Doubt]"], unfollowed := true, recurses := true, plainKeys := false, apart := false, narrowed := true }
def FnExactNodeWakeUptoSaid : Prop := fnExactNodeWakeUptoRow.holds Tryz.pinned (OpenSpec.upto fnExactNodeWakeSpec)

/-- 'laws.FnExactNodeHear', WHERE WHAT IT READS IS OF BULK AT MOST 1048576: true; the input reads as it did. -/
def fnExactNodeHearUptoRow : OpenClaim := { program := "ytmdcankfjmkkeaagreat", sum := "334b9d06a73a2f7aa51d16ec9a036fa4fc92c29c6e27255de82a2cc97d1be944", func := "loop.example/g00678/laws.FnExactNodeHear", spec := "fnExactNodeHear", inPlace := ["slices.overlaps[loop.example/g00678/impl.Fact]", "slices.overlaps[loop.example/g00678/impl.Doubt]"], unfollowed := true, recurses := true, plainKeys := false, apart := false, narrowed := true }
def FnExactNodeHearUptoSaid : Prop := fnExactNodeHearUptoRow.holds Tryz.pinned (OpenSpec.upto fnExactNodeHearSpec)

/-- 'laws.FnExactNodeLeave', WHERE WHAT IT READS IS OF BULK AT MOST 1048576: true; the input reads as it did. -/
def fnExactNodeLeaveUptoRow : OpenClaim := { program := "ytmdcankfjmkkeaagreat", sum := "334b9d06a73a2f7aa51d16ec9a036fa4fc92c29c6e27255de82a2cc97d1be944", func := "loop.example/g00678/laws.FnExactNodeLeave", spec := "fnExactNodeLeave", inPlace := ["slices.overlaps[loop.example/g00678/impl.Fact]"], unfollowed := true, recurses := true, plainKeys := false, apart := false, narrowed := true }
def FnExactNodeLeaveUptoSaid : Prop := fnExactNodeLeaveUptoRow.holds Tryz.pinned (OpenSpec.upto fnExactNodeLeaveSpec)

end Rows
end Go.Proofs.YtmdcankfjmkkeaaGreat
