/-
  DERIVED. GIVEN WITH THE SEED: THE CARDS: each row of YtebnlafjepfkdaaDoorRows.lean that lists a variable, with what it lists TIED to the program's text (the seventh form; the later family's looks); each row that meets fmt, with fmt's text TOLD by the authors' own Lean function (tested against real Go, not proved from fmt's source: count such statements apart). THE CARD IS WHAT COUNTS. Prove the row's statement (the work); the ties are given (YtebnlafjepfkdaaDoorTie.lean); close each card by the builder's one call (the guide's Derived/Test/ToyasCard.lean, 'card_holds'). Laid BY PROGRAM, IN A SANDBOX (cutbox-door.mjs). By AI agents, Wed Nov 11 2026. No macro, syntax, notation, axiom, sorry.
-/
import Derived.Test.YtebnlafjepfkdaaDoorRows
import GoSem.ClaimSeven
namespace Go.Proofs.YtebnlafjepfkdaaDoor
namespace Rows

/-- THE TIED CARD OF 'prowlkeep.Echoed'. -/
def echoedCard : Claim7 := { stood := { row := echoedRow, standIns := [], harness := (true, "8764ae4106fdc2c4865c8b195fcd372d97c8e745a6ae4d7a26e689f88c43c20f"), looks := false }, kinds := [], alts := [], laidByText := true, laidKinds := [.data], laidTests := true, laidLooks := .later }
def EchoedCardSaid : Prop := Claim7.holds Tryd.pinned (.plain (OpenSpec.ofChange echoedSpec)) echoedCard

/-- THE TIED CARD OF 'prowlkeep.Probed'. -/
def probedCard : Claim7 := { stood := { row := probedRow, standIns := [], harness := (true, "8764ae4106fdc2c4865c8b195fcd372d97c8e745a6ae4d7a26e689f88c43c20f"), looks := false }, kinds := [], alts := [], laidByText := true, laidKinds := [.data], laidTests := true, laidLooks := .later }
def ProbedCardSaid : Prop := Claim7.holds Tryd.pinned (.plain (OpenSpec.ofChange probedSpec)) probedCard

/-- THE SECOND FORM's CARD OF 'prowlkeep.Echoed'. -/
def echoedUptoCard : Claim7 := { stood := { row := echoedUptoRow, standIns := [], harness := (true, "8764ae4106fdc2c4865c8b195fcd372d97c8e745a6ae4d7a26e689f88c43c20f"), looks := false }, kinds := [], alts := [], laidByText := true, laidKinds := [.data], laidTests := true, laidLooks := .later }
def EchoedUptoCardSaid : Prop := Claim7.holds Tryd.pinned (.plain (OpenSpec.upto echoedSpec)) echoedUptoCard

/-- THE SECOND FORM's CARD OF 'prowlkeep.Probed'. -/
def probedUptoCard : Claim7 := { stood := { row := probedUptoRow, standIns := [], harness := (true, "8764ae4106fdc2c4865c8b195fcd372d97c8e745a6ae4d7a26e689f88c43c20f"), looks := false }, kinds := [], alts := [], laidByText := true, laidKinds := [.data], laidTests := true, laidLooks := .later }
def ProbedUptoCardSaid : Prop := Claim7.holds Tryd.pinned (.plain (OpenSpec.upto probedSpec)) probedUptoCard
end Rows
end Go.Proofs.YtebnlafjepfkdaaDoor
