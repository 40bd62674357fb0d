/-
  DERIVED. GIVEN WITH THE SEED: THE CARDS: each row of YtmajanfkcafgnaaGreatDoorRows.lean that lists a variable, with what it lists TIED to the program's text (the seventh form; the later family's looks); each row that meets fmt, with fmt's text TOLD by the authors' own Lean function (tested against real Go, not proved from fmt's source: count such statements apart). THE CARD IS WHAT COUNTS. Prove the row's statement (the work); the ties are given (YtmajanfkcafgnaaGreatDoorTie.lean); close each card by the builder's one call (the guide's Derived/Test/ToyasCard.lean, 'card_holds'). Laid BY PROGRAM, IN A SANDBOX (cutbox-door.mjs). By AI agents, Wed Nov 11 2026. No macro, syntax, notation, axiom, sorry.
-/
import Derived.Test.YtmajanfkcafgnaaGreatDoorRows
import GoSem.ClaimSeven
namespace Go.Proofs.YtmajanfkcafgnaaGreatDoor
namespace Rows

/-- THE TIED CARD OF 'prowllaw.Runs'. -/
def runsCard : Claim7 := { stood := { row := runsRow, standIns := [], harness := (true, "508f81d33638f3e53988cdaecbc87a6da48e3b97ccc8f0ecf33773d41b08f88d"), looks := false }, kinds := [], alts := [], laidByText := true, laidKinds := [.data, .data], laidTests := true, laidLooks := .later }
def RunsCardSaid : Prop := Claim7.holds Tryz.pinned (.plain (OpenSpec.ofChange runsSpec)) runsCard

/-- THE TIED CARD OF 'prowllaw.Probes'. -/
def probesCard : Claim7 := { stood := { row := probesRow, standIns := [], harness := (true, "508f81d33638f3e53988cdaecbc87a6da48e3b97ccc8f0ecf33773d41b08f88d"), looks := false }, kinds := [], alts := [], laidByText := true, laidKinds := [.data, .data], laidTests := true, laidLooks := .later }
def ProbesCardSaid : Prop := Claim7.holds Tryz.pinned (.plain (OpenSpec.ofChange probesSpec)) probesCard

/-- THE TIED CARD OF 'prowllaw.Changes'. -/
def changesCard : Claim7 := { stood := { row := changesRow, standIns := [], harness := (true, "508f81d33638f3e53988cdaecbc87a6da48e3b97ccc8f0ecf33773d41b08f88d"), looks := false }, kinds := [], alts := [], laidByText := true, laidKinds := [.data, .data], laidTests := true, laidLooks := .later }
def ChangesCardSaid : Prop := Claim7.holds Tryz.pinned (.plain (OpenSpec.ofChange changesSpec)) changesCard

/-- THE SECOND FORM's CARD OF 'prowllaw.Runs'. -/
def runsUptoCard : Claim7 := { stood := { row := runsUptoRow, standIns := [], harness := (true, "508f81d33638f3e53988cdaecbc87a6da48e3b97ccc8f0ecf33773d41b08f88d"), looks := false }, kinds := [], alts := [], laidByText := true, laidKinds := [.data, .data], laidTests := true, laidLooks := .later }
def RunsUptoCardSaid : Prop := Claim7.holds Tryz.pinned (.plain (OpenSpec.upto runsSpec)) runsUptoCard

/-- THE SECOND FORM's CARD OF 'prowllaw.Probes'. -/
def probesUptoCard : Claim7 := { stood := { row := probesUptoRow, standIns := [], harness := (true, "508f81d33638f3e53988cdaecbc87a6da48e3b97ccc8f0ecf33773d41b08f88d"), looks := false }, kinds := [], alts := [], laidByText := true, laidKinds := [.data, .data], laidTests := true, laidLooks := .later }
def ProbesUptoCardSaid : Prop := Claim7.holds Tryz.pinned (.plain (OpenSpec.upto probesSpec)) probesUptoCard

/-- THE SECOND FORM's CARD OF 'prowllaw.Changes'. -/
def changesUptoCard : Claim7 := { stood := { row := changesUptoRow, standIns := [], harness := (true, "508f81d33638f3e53988cdaecbc87a6da48e3b97ccc8f0ecf33773d41b08f88d"), looks := false }, kinds := [], alts := [], laidByText := true, laidKinds := [.data, .data], laidTests := true, laidLooks := .later }
def ChangesUptoCardSaid : Prop := Claim7.holds Tryz.pinned (.plain (OpenSpec.upto changesSpec)) changesUptoCard
end Rows
end Go.Proofs.YtmajanfkcafgnaaGreatDoor
