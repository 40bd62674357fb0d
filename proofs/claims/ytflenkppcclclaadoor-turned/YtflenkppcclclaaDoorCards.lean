/-
  DERIVED. GIVEN WITH THE SEED: THE CARDS: each row of YtflenkppcclclaaDoorRows.lean that lists a variable, with what it lists TIED to the program's text (the seventh form; the later family's looks); each row that meets fmt, with fmt's text TOLD by the authors' own Lean function (tested against real Go, not proved from fmt's source: count such statements apart). THE CARD IS WHAT COUNTS. Prove the row's statement (the work); the ties are given (YtflenkppcclclaaDoorTie.lean); close each card by the builder's one call (the guide's Derived/Test/ToyasCard.lean, 'card_holds'). Laid BY PROGRAM, IN A SANDBOX (cutbox-door.mjs). By AI agents, Wed Nov 11 2026. No macro, syntax, notation, axiom, sorry.
-/
import Derived.Test.YtflenkppcclclaaDoorRows
import GoSem.ClaimSeven
namespace Go.Proofs.YtflenkppcclclaaDoor
namespace Rows

/-- THE TIED CARD OF 'prowlkeep.Echoed'. -/
def echoedCard : Claim7 := { stood := { row := echoedRow, standIns := [], harness := (true, "4f3ef44ee6b8428924216279c81bd74361e218ab347c3fab8add7b7cb8ca0bff"), looks := false }, kinds := [], alts := [], laidByText := true, laidKinds := [.data], laidTests := true, laidLooks := .later }
def EchoedCardSaid : Prop := Claim7.holds Tryd.pinned (.plain (OpenSpec.ofChange echoedSpec)) echoedCard

/-- THE TIED CARD OF 'prowlkeep.Probed'. -/
def probedCard : Claim7 := { stood := { row := probedRow, standIns := [], harness := (true, "4f3ef44ee6b8428924216279c81bd74361e218ab347c3fab8add7b7cb8ca0bff"), looks := false }, kinds := [], alts := [], laidByText := true, laidKinds := [.data], laidTests := true, laidLooks := .later }
def ProbedCardSaid : Prop := Claim7.holds Tryd.pinned (.plain (OpenSpec.ofChange probedSpec)) probedCard

/-- THE TIED CARD OF 'prowlkeep.Turned'. -/
def turnedCard : Claim7 := { stood := { row := turnedRow, standIns := [], harness := (true, "4f3ef44ee6b8428924216279c81bd74361e218ab347c3fab8add7b7cb8ca0bff"), looks := false }, kinds := [], alts := [], laidByText := true, laidKinds := [.data, .data], laidTests := true, laidLooks := .later }
def TurnedCardSaid : Prop := Claim7.holds Tryd.pinned (.plain (OpenSpec.ofChange turnedSpec)) turnedCard

/-- THE TIED CARD OF 'prowlkeep.Wildly'. -/
def wildlyCard : Claim7 := { stood := { row := wildlyRow, standIns := [], harness := (true, "4f3ef44ee6b8428924216279c81bd74361e218ab347c3fab8add7b7cb8ca0bff"), looks := false }, kinds := [], alts := [], laidByText := true, laidKinds := [.data, .data], laidTests := true, laidLooks := .later }
def WildlyCardSaid : Prop := Claim7.holds Tryd.pinned (.plain (OpenSpec.ofChange wildlySpec)) wildlyCard

/-- THE SECOND FORM's CARD OF 'prowlkeep.Echoed'. -/
def echoedUptoCard : Claim7 := { stood := { row := echoedUptoRow, standIns := [], harness := (true, "4f3ef44ee6b8428924216279c81bd74361e218ab347c3fab8add7b7cb8ca0bff"), looks := false }, kinds := [], alts := [], laidByText := true, laidKinds := [.data], laidTests := true, laidLooks := .later }
def EchoedUptoCardSaid : Prop := Claim7.holds Tryd.pinned (.plain (OpenSpec.upto echoedSpec)) echoedUptoCard

/-- THE SECOND FORM's CARD OF 'prowlkeep.Probed'. -/
def probedUptoCard : Claim7 := { stood := { row := probedUptoRow, standIns := [], harness := (true, "4f3ef44ee6b8428924216279c81bd74361e218ab347c3fab8add7b7cb8ca0bff"), looks := false }, kinds := [], alts := [], laidByText := true, laidKinds := [.data], laidTests := true, laidLooks := .later }
def ProbedUptoCardSaid : Prop := Claim7.holds Tryd.pinned (.plain (OpenSpec.upto probedSpec)) probedUptoCard

/-- THE SECOND FORM's CARD OF 'prowlkeep.Turned'. -/
def turnedUptoCard : Claim7 := { stood := { row := turnedUptoRow, standIns := [], harness := (true, "4f3ef44ee6b8428924216279c81bd74361e218ab347c3fab8add7b7cb8ca0bff"), looks := false }, kinds := [], alts := [], laidByText := true, laidKinds := [.data, .data], laidTests := true, laidLooks := .later }
def TurnedUptoCardSaid : Prop := Claim7.holds Tryd.pinned (.plain (OpenSpec.upto turnedSpec)) turnedUptoCard

/-- THE SECOND FORM's CARD OF 'prowlkeep.Wildly'. -/
def wildlyUptoCard : Claim7 := { stood := { row := wildlyUptoRow, standIns := [], harness := (true, "4f3ef44ee6b8428924216279c81bd74361e218ab347c3fab8add7b7cb8ca0bff"), looks := false }, kinds := [], alts := [], laidByText := true, laidKinds := [.data, .data], laidTests := true, laidLooks := .later }
def WildlyUptoCardSaid : Prop := Claim7.holds Tryd.pinned (.plain (OpenSpec.upto wildlySpec)) wildlyUptoCard
end Rows
end Go.Proofs.YtflenkppcclclaaDoor
