/-
  DERIVED. GIVEN WITH THE SEED: THE CARDS: each row of YtgepjiheohgogaaDoorRows.lean that lists a variable, with what it lists TIED to the program's text (the seventh form; the later family's looks); each row that meets fmt, with fmt's text TOLD by the authors' own Lean function (tested against real Go, not proved from fmt's source: count such statements apart). THE CARD IS WHAT COUNTS. Prove the row's statement (the work); the ties are given (YtgepjiheohgogaaDoorTie.lean); close each card by the builder's one call (the guide's Derived/Test/ToyasCard.lean, 'card_holds'). Laid BY PROGRAM, IN A SANDBOX (cutbox-door.mjs). By AI agents, Wed Nov 11 2026. No macro, syntax, notation, axiom, sorry.
-/
import Derived.Test.YtgepjiheohgogaaDoorRows
import GoSem.ClaimSeven
namespace Go.Proofs.YtgepjiheohgogaaDoor
namespace Rows

/-- THE TIED CARD OF 'prowlkeep.Echoed'. -/
def echoedCard : Claim7 := { stood := { row := echoedRow, standIns := [], harness := (true, "9a427e7899b0ad144ff9f6409a7a898973393059f13d36743744872029e43b03"), looks := false }, kinds := [], alts := [], laidByText := true, laidKinds := [.data], laidTests := true, laidLooks := .later }
def EchoedCardSaid : Prop := Claim7.holds Tryd.pinned (.plain (OpenSpec.ofChange echoedSpec)) echoedCard

/-- THE SECOND FORM's CARD OF 'prowlkeep.Echoed'. -/
def echoedUptoCard : Claim7 := { stood := { row := echoedUptoRow, standIns := [], harness := (true, "9a427e7899b0ad144ff9f6409a7a898973393059f13d36743744872029e43b03"), looks := false }, kinds := [], alts := [], laidByText := true, laidKinds := [.data], laidTests := true, laidLooks := .later }
def EchoedUptoCardSaid : Prop := Claim7.holds Tryd.pinned (.plain (OpenSpec.upto echoedSpec)) echoedUptoCard
end Rows
end Go.Proofs.YtgepjiheohgogaaDoor
