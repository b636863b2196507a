/-
  DERIVED. GIVEN WITH THE SEED: THE CARDS: each row of YtpjdkgcdkfmkiaaDoorRows.lean that lists a variable, with what it lists TIED to the program's text (the seventh form; the later family's looks); each row that meets fmt, with fmt's text TOLD by the authors' own Lean function (tested against real Go, not proved from fmt's source: count such statements apart). THE CARD IS WHAT COUNTS. Prove the row's statement (the work); the ties are given (YtpjdkgcdkfmkiaaDoorTie.lean); close each card by the builder's one call (the guide's Derived/Test/ToyasCard.lean, 'card_holds'). Laid BY PROGRAM, IN A SANDBOX (cutbox-door.mjs). By AI agents, Wed Nov 11 2026. No macro, syntax, notation, axiom, sorry.
-/
import Derived.Test.YtpjdkgcdkfmkiaaDoorRows
import GoSem.ClaimSeven
namespace Go.Proofs.YtpjdkgcdkfmkiaaDoor
namespace Rows

/-- THE TIED CARD OF 'laws.FnMail'. -/
def fnMailCard : Claim7 := { stood := { row := fnMailRow, standIns := [], harness := (true, "7c92e43d66fef99a5e947797ff0de03458fe86c9c934486432ee2ec82cdd349e"), looks := true }, kinds := [], alts := [], laidByText := true, laidKinds := [.handle], laidTests := true, laidLooks := .later }
def FnMailCardSaid : Prop := Claim7.holds Tryd.pinned (.plain (OpenSpec.ofChange fnMailSpec)) fnMailCard

/-- THE TIED CARD OF 'laws.FnExactMailRead'. -/
def fnExactMailReadCard : Claim7 := { stood := { row := fnExactMailReadRow, standIns := [], harness := (true, "7c92e43d66fef99a5e947797ff0de03458fe86c9c934486432ee2ec82cdd349e"), looks := true }, kinds := [], alts := [], laidByText := true, laidKinds := [.handle], laidTests := true, laidLooks := .later }
def FnExactMailReadCardSaid : Prop := Claim7.holds Tryd.pinned (.plain (OpenSpec.ofChange fnExactMailReadSpec)) fnExactMailReadCard

/-- THE SECOND FORM's CARD OF 'laws.FnMail'. -/
def fnMailUptoCard : Claim7 := { stood := { row := fnMailUptoRow, standIns := [], harness := (true, "7c92e43d66fef99a5e947797ff0de03458fe86c9c934486432ee2ec82cdd349e"), looks := true }, kinds := [], alts := [], laidByText := true, laidKinds := [.handle], laidTests := true, laidLooks := .later }
def FnMailUptoCardSaid : Prop := Claim7.holds Tryd.pinned (.plain (OpenSpec.upto fnMailSpec)) fnMailUptoCard

/-- THE SECOND FORM's CARD OF 'laws.FnExactMailRead'. -/
def fnExactMailReadUptoCard : Claim7 := { stood := { row := fnExactMailReadUptoRow, standIns := [], harness := (true, "7c92e43d66fef99a5e947797ff0de03458fe86c9c934486432ee2ec82cdd349e"), looks := true }, kinds := [], alts := [], laidByText := true, laidKinds := [.handle], laidTests := true, laidLooks := .later }
def FnExactMailReadUptoCardSaid : Prop := Claim7.holds Tryd.pinned (.plain (OpenSpec.upto fnExactMailReadSpec)) fnExactMailReadUptoCard
end Rows
end Go.Proofs.YtpjdkgcdkfmkiaaDoor
