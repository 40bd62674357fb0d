/-
  DERIVED. GIVEN WITH THE SEED: THE CARDS: each row of YtebnlafjepfkdaaGreatDoorRows.lean that lists a variable, with what it lists TIED to the program's text (the seventh form; the later family's looks); each row that meets fmt, with fmt's text TOLD by the authors' own Lean function (tested against real Go, not proved from fmt's source: count such statements apart). THE CARD IS WHAT COUNTS. Prove the row's statement (the work); the ties are given (YtebnlafjepfkdaaGreatDoorTie.lean); close each card by the builder's one call (the guide's Derived/Test/ToyasCard.lean, 'card_holds'). Laid BY PROGRAM, IN A SANDBOX (cutbox-door.mjs). By AI agents, Wed Nov 11 2026. No macro, syntax, notation, axiom, sorry.
-/
import Derived.Test.YtebnlafjepfkdaaGreatDoorRows
import GoSem.ClaimSeven
namespace Go.Proofs.YtebnlafjepfkdaaGreatDoor
namespace Rows

/-- THE TIED CARD OF 'prowllaw.Runs'. -/
def runsCard : Claim7 := { stood := { row := runsRow, standIns := [], harness := (true, "ca8cb4108ba436e551f07a5db1e8481409c15469b50b03f4a8768cf42df87285"), looks := false }, kinds := [], alts := [], laidByText := true, laidKinds := [.data], laidTests := true, laidLooks := .later }
def RunsCardSaid : Prop := Claim7.holds Tryz.pinned (.plain (OpenSpec.ofChange runsSpec)) runsCard

/-- THE TIED CARD OF 'prowllaw.Probes'. -/
def probesCard : Claim7 := { stood := { row := probesRow, standIns := [], harness := (true, "ca8cb4108ba436e551f07a5db1e8481409c15469b50b03f4a8768cf42df87285"), looks := false }, kinds := [], alts := [], laidByText := true, laidKinds := [.data], laidTests := true, laidLooks := .later }
def ProbesCardSaid : Prop := Claim7.holds Tryz.pinned (.plain (OpenSpec.ofChange probesSpec)) probesCard

/-- THE SECOND FORM's CARD OF 'prowllaw.Runs'. -/
def runsUptoCard : Claim7 := { stood := { row := runsUptoRow, standIns := [], harness := (true, "ca8cb4108ba436e551f07a5db1e8481409c15469b50b03f4a8768cf42df87285"), looks := false }, kinds := [], alts := [], laidByText := true, laidKinds := [.data], laidTests := true, laidLooks := .later }
def RunsUptoCardSaid : Prop := Claim7.holds Tryz.pinned (.plain (OpenSpec.upto runsSpec)) runsUptoCard

/-- THE SECOND FORM's CARD OF 'prowllaw.Probes'. -/
def probesUptoCard : Claim7 := { stood := { row := probesUptoRow, standIns := [], harness := (true, "ca8cb4108ba436e551f07a5db1e8481409c15469b50b03f4a8768cf42df87285"), looks := false }, kinds := [], alts := [], laidByText := true, laidKinds := [.data], laidTests := true, laidLooks := .later }
def ProbesUptoCardSaid : Prop := Claim7.holds Tryz.pinned (.plain (OpenSpec.upto probesSpec)) probesUptoCard
end Rows
end Go.Proofs.YtebnlafjepfkdaaGreatDoor
