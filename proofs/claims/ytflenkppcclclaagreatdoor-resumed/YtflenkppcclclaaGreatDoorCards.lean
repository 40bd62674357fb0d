/-
  DERIVED. GIVEN WITH THE SEED: THE CARDS: each row of YtflenkppcclclaaGreatDoorRows.lean that lists a variable, with what it lists TIED to the program's text (the seventh form; the later family's looks); each row that meets fmt, with fmt's text TOLD by the authors' own Lean function (tested against real Go, not proved from fmt's source: count such statements apart). THE CARD IS WHAT COUNTS. Prove the row's statement (the work); the ties are given (YtflenkppcclclaaGreatDoorTie.lean); close each card by the builder's one call (the guide's Derived/Test/ToyasCard.lean, 'card_holds'). Laid BY PROGRAM, IN A SANDBOX (cutbox-door.mjs). By AI agents, Wed Nov 11 2026. No macro, syntax, notation, axiom, sorry.
-/
import Derived.Test.YtflenkppcclclaaGreatDoorRows
import GoSem.ClaimSeven
namespace Go.Proofs.YtflenkppcclclaaGreatDoor
namespace Rows

/-- THE TIED CARD OF 'prowllaw.Runs'. -/
def runsCard : Claim7 := { stood := { row := runsRow, standIns := [], harness := (true, "8b0841706286a3620b31d6535d739f7d14dcb038edf3b579515dc1bee66c622d"), looks := false }, kinds := [], alts := [], laidByText := true, laidKinds := [.data, .data], laidTests := true, laidLooks := .later }
def RunsCardSaid : Prop := Claim7.holds Tryz.pinned (.plain (OpenSpec.ofChange runsSpec)) runsCard

/-- THE TIED CARD OF 'prowllaw.Probes'. -/
def probesCard : Claim7 := { stood := { row := probesRow, standIns := [], harness := (true, "8b0841706286a3620b31d6535d739f7d14dcb038edf3b579515dc1bee66c622d"), looks := false }, kinds := [], alts := [], laidByText := true, laidKinds := [.data, .data], laidTests := true, laidLooks := .later }
def ProbesCardSaid : Prop := Claim7.holds Tryz.pinned (.plain (OpenSpec.ofChange probesSpec)) probesCard

/-- THE TIED CARD OF 'prowllaw.Changes'. -/
def changesCard : Claim7 := { stood := { row := changesRow, standIns := [], harness := (true, "8b0841706286a3620b31d6535d739f7d14dcb038edf3b579515dc1bee66c622d"), looks := false }, kinds := [], alts := [], laidByText := true, laidKinds := [.data, .data], laidTests := true, laidLooks := .later }
def ChangesCardSaid : Prop := Claim7.holds Tryz.pinned (.plain (OpenSpec.ofChange changesSpec)) changesCard

/-- THE TIED CARD OF 'prowlkeep.Replayed'. -/
def replayedCard : Claim7 := { stood := { row := replayedRow, standIns := [], harness := (true, "8b0841706286a3620b31d6535d739f7d14dcb038edf3b579515dc1bee66c622d"), looks := false }, kinds := [], alts := [], laidByText := true, laidKinds := [.data, .data], laidTests := true, laidLooks := .later }
def ReplayedCardSaid : Prop := Claim7.holds Tryz.pinned (.plain (OpenSpec.ofChange replayedSpec)) replayedCard

/-- THE TIED CARD OF 'prowlkeep.Enough'. -/
def enoughCard : Claim7 := { stood := { row := enoughRow, standIns := [], harness := (true, "8b0841706286a3620b31d6535d739f7d14dcb038edf3b579515dc1bee66c622d"), looks := false }, kinds := [], alts := [], laidByText := true, laidKinds := [.data, .data], laidTests := true, laidLooks := .later }
def EnoughCardSaid : Prop := Claim7.holds Tryz.pinned (.plain (OpenSpec.ofChange enoughSpec)) enoughCard

/-- THE TIED CARD OF 'prowlkeep.Halves'. -/
def halvesCard : Claim7 := { stood := { row := halvesRow, standIns := [], harness := (true, "8b0841706286a3620b31d6535d739f7d14dcb038edf3b579515dc1bee66c622d"), looks := false }, kinds := [], alts := [], laidByText := true, laidKinds := [.data, .data], laidTests := true, laidLooks := .later }
def HalvesCardSaid : Prop := Claim7.holds Tryz.pinned (.plain (OpenSpec.ofChange halvesSpec)) halvesCard

/-- THE TIED CARD OF 'prowlkeep.Resumed'. -/
def resumedCard : Claim7 := { stood := { row := resumedRow, standIns := [], harness := (true, "8b0841706286a3620b31d6535d739f7d14dcb038edf3b579515dc1bee66c622d"), looks := false }, kinds := [], alts := [], laidByText := true, laidKinds := [.data, .data], laidTests := true, laidLooks := .later }
def ResumedCardSaid : Prop := Claim7.holds Tryz.pinned (.plain (OpenSpec.ofChange resumedSpec)) resumedCard

/-- THE TIED CARD OF 'prowlkeep.Strange'. -/
def strangeCard : Claim7 := { stood := { row := strangeRow, standIns := [], harness := (true, "8b0841706286a3620b31d6535d739f7d14dcb038edf3b579515dc1bee66c622d"), looks := false }, kinds := [], alts := [], laidByText := true, laidKinds := [.data, .data], laidTests := true, laidLooks := .later }
def StrangeCardSaid : Prop := Claim7.holds Tryz.pinned (.plain (OpenSpec.ofChange strangeSpec)) strangeCard

/-- THE SECOND FORM's CARD OF 'prowllaw.Runs'. -/
def runsUptoCard : Claim7 := { stood := { row := runsUptoRow, standIns := [], harness := (true, "8b0841706286a3620b31d6535d739f7d14dcb038edf3b579515dc1bee66c622d"), looks := false }, kinds := [], alts := [], laidByText := true, laidKinds := [.data, .data], laidTests := true, laidLooks := .later }
def RunsUptoCardSaid : Prop := Claim7.holds Tryz.pinned (.plain (OpenSpec.upto runsSpec)) runsUptoCard

/-- THE SECOND FORM's CARD OF 'prowllaw.Probes'. -/
def probesUptoCard : Claim7 := { stood := { row := probesUptoRow, standIns := [], harness := (true, "8b0841706286a3620b31d6535d739f7d14dcb038edf3b579515dc1bee66c622d"), looks := false }, kinds := [], alts := [], laidByText := true, laidKinds := [.data, .data], laidTests := true, laidLooks := .later }
def ProbesUptoCardSaid : Prop := Claim7.holds Tryz.pinned (.plain (OpenSpec.upto probesSpec)) probesUptoCard

/-- THE SECOND FORM's CARD OF 'prowllaw.Changes'. -/
def changesUptoCard : Claim7 := { stood := { row := changesUptoRow, standIns := [], harness := (true, "8b0841706286a3620b31d6535d739f7d14dcb038edf3b579515dc1bee66c622d"), looks := false }, kinds := [], alts := [], laidByText := true, laidKinds := [.data, .data], laidTests := true, laidLooks := .later }
def ChangesUptoCardSaid : Prop := Claim7.holds Tryz.pinned (.plain (OpenSpec.upto changesSpec)) changesUptoCard

/-- THE SECOND FORM's CARD OF 'prowlkeep.Replayed'. -/
def replayedUptoCard : Claim7 := { stood := { row := replayedUptoRow, standIns := [], harness := (true, "8b0841706286a3620b31d6535d739f7d14dcb038edf3b579515dc1bee66c622d"), looks := false }, kinds := [], alts := [], laidByText := true, laidKinds := [.data, .data], laidTests := true, laidLooks := .later }
def ReplayedUptoCardSaid : Prop := Claim7.holds Tryz.pinned (.plain (OpenSpec.upto replayedSpec)) replayedUptoCard

/-- THE SECOND FORM's CARD OF 'prowlkeep.Enough'. -/
def enoughUptoCard : Claim7 := { stood := { row := enoughUptoRow, standIns := [], harness := (true, "8b0841706286a3620b31d6535d739f7d14dcb038edf3b579515dc1bee66c622d"), looks := false }, kinds := [], alts := [], laidByText := true, laidKinds := [.data, .data], laidTests := true, laidLooks := .later }
def EnoughUptoCardSaid : Prop := Claim7.holds Tryz.pinned (.plain (OpenSpec.upto enoughSpec)) enoughUptoCard

/-- THE SECOND FORM's CARD OF 'prowlkeep.Halves'. -/
def halvesUptoCard : Claim7 := { stood := { row := halvesUptoRow, standIns := [], harness := (true, "8b0841706286a3620b31d6535d739f7d14dcb038edf3b579515dc1bee66c622d"), looks := false }, kinds := [], alts := [], laidByText := true, laidKinds := [.data, .data], laidTests := true, laidLooks := .later }
def HalvesUptoCardSaid : Prop := Claim7.holds Tryz.pinned (.plain (OpenSpec.upto halvesSpec)) halvesUptoCard

/-- THE SECOND FORM's CARD OF 'prowlkeep.Resumed'. -/
def resumedUptoCard : Claim7 := { stood := { row := resumedUptoRow, standIns := [], harness := (true, "8b0841706286a3620b31d6535d739f7d14dcb038edf3b579515dc1bee66c622d"), looks := false }, kinds := [], alts := [], laidByText := true, laidKinds := [.data, .data], laidTests := true, laidLooks := .later }
def ResumedUptoCardSaid : Prop := Claim7.holds Tryz.pinned (.plain (OpenSpec.upto resumedSpec)) resumedUptoCard

/-- THE SECOND FORM's CARD OF 'prowlkeep.Strange'. -/
def strangeUptoCard : Claim7 := { stood := { row := strangeUptoRow, standIns := [], harness := (true, "8b0841706286a3620b31d6535d739f7d14dcb038edf3b579515dc1bee66c622d"), looks := false }, kinds := [], alts := [], laidByText := true, laidKinds := [.data, .data], laidTests := true, laidLooks := .later }
def StrangeUptoCardSaid : Prop := Claim7.holds Tryz.pinned (.plain (OpenSpec.upto strangeSpec)) strangeUptoCard
end Rows
end Go.Proofs.YtflenkppcclclaaGreatDoor
