/-
  NARROWER THAN 'FOR EVERY INPUT', by the rows' own cells (each row's printed sentence says how): Runs: laid · Probes: laid · Changes: laid · Replayed: laid · Enough: laid · Halves: laid · Resumed: laid · Strange: laid.
  DERIVED. THE GIVEN ROWS OF THIS SEAT. 8 by the template 'for every input the law returns true; each argument reads behind the call as it read before'; 0 by the template 'total and deterministic' (their statements: YtflenkppcclclaaGreatDoorTotals.lean).
  GIVEN WITH THE SEED: the statements are not yours to turn. If you find one false, say at which input.
  Laid BY PROGRAM, IN A SANDBOX (cutbox-rows.mjs): the forced cells as the released guide's own fill.sh prints them over the translation d85df5afc3b036da… (all of the seat's roots in one cut). By AI agents, Wed Nov 11 2026. No macro, syntax, notation, axiom, sorry.
-/
import Derived.Test.YtflenkppcclclaaGreatDoorChecked
import GoSem.Claim
import GoSem.ClaimJoined
import GoSem.ClaimMapViews
import Derived.JoinedTies
import Derived.KernelRfl
namespace Go.Proofs.YtflenkppcclclaaGreatDoor
/- THE CELL 'sum', in the pinned program and in every row, IS THE sha256 OF THE DUMP (.gsa) THAT YtflenkppcclclaaGreatDoorProg.lean LOADS. Nothing in Lean hashes anything: it is a label: what it is worth is what the hold of that sum in a sandbox is worth. -/
noncomputable def Tryz.pinned : Pinned := { name := "ytflenkppcclclaagreatdoor", sum := "d85df5afc3b036da36c590713e8b60ef31f8428a5c14b4b8965f229bbac3e64f", checked := Tryz.checked }
namespace Rows
def none {H : Type} : Left H := { results := [], args := [] }

/- WHAT THE LISTED PACKAGE-LEVEL VARIABLES READ AS WHEN THE CALL BEGINS. Each datum BY PROGRAM (the guide's laid-datum.mjs) off the statement by which the dump's own 'gosem.cut.vars' lays the variable. In a bare row this is a premise. The card (YtflenkppcclclaaGreatDoorCards.lean) ties it to the program's text. -/
def laid_prowl_program_shapes {H : Type} : DataW H := .agg [.agg [.lit (.int .i64 1), .lit (.int .i64 0), .lit (.int .i64 0)], .agg [.lit (.int .i64 2), .lit (.int .i64 0), .lit (.int .i64 1)], .agg [.lit (.int .i64 1), .lit (.int .i64 0), .lit (.int .i64 1)], .agg [.lit (.int .i64 1), .lit (.int .i64 1), .lit (.int .i64 2)], .agg [.lit (.int .i64 1), .lit (.int .i64 1), .lit (.int .i64 0)], .agg [.lit (.int .i64 1), .lit (.int .i64 2), .lit (.int .i64 2)], .agg [.lit (.int .i64 1), .lit (.int .i64 2), .lit (.int .i64 1)], .agg [.lit (.int .i64 1), .lit (.int .i64 2), .lit (.int .i64 1)], .agg [.lit (.int .i64 1), .lit (.int .i64 2), .lit (.int .i64 1)], .agg [.lit (.int .i64 1), .lit (.int .i64 2), .lit (.int .i64 1)], .agg [.lit (.int .i64 1), .lit (.int .i64 2), .lit (.int .i64 1)], .agg [.lit (.int .i64 1), .lit (.int .i64 2), .lit (.int .i64 1)], .agg [.lit (.int .i64 1), .lit (.int .i64 2), .lit (.int .i64 1)], .agg [.lit (.int .i64 1), .lit (.int .i64 2), .lit (.int .i64 1)], .agg [.lit (.int .i64 2), .lit (.int .i64 0), .lit (.int .i64 0)], .agg [.lit (.int .i64 2), .lit (.int .i64 1), .lit (.int .i64 0)], .agg [.lit (.int .i64 2), .lit (.int .i64 0), .lit (.int .i64 1)], .agg [.lit (.int .i64 2), .lit (.int .i64 1), .lit (.int .i64 0)], .agg [.lit (.int .i64 1), .lit (.int .i64 1), .lit (.int .i64 0)], .agg [.lit (.int .i64 2), .lit (.int .i64 0), .lit (.int .i64 0)], .agg [.lit (.int .i64 2), .lit (.int .i64 0), .lit (.int .i64 0)]]
def laid_prowl_changes_marked {H : Type} : DataW H := .agg [.lit (.int .u8 0), .lit (.int .u8 1), .lit (.int .u8 127), .lit (.int .u8 128), .lit (.int .u8 255)]

/-- 'prowllaw.Runs': WHATEVER THE INPUT: true; the input reads as it did. -/
def runsSpec : ChangeSpec := { name := "runs", fn := fun _ => fun
  | [d] => { results := [.lit (.bool true)], args := [d] }
  | _ => none }
def runsRow : OpenClaim := { program := "ytflenkppcclclaagreatdoor", sum := "d85df5afc3b036da36c590713e8b60ef31f8428a5c14b4b8965f229bbac3e64f", func := "prowl/prowllaw.Runs", spec := "runs", inPlace := ["slices.overlaps[byte]", "internal/bytealg.IndexByteString", "internal/bytealg.IndexString", "internal/abi.NoEscape"], unfollowed := true, recurses := true, named := ["prowl/program.shapes", "prowl/changes.marked", "internal/bytealg.MaxLen"], apart := false, laid := [("prowl/program.shapes", laid_prowl_program_shapes), ("prowl/changes.marked", laid_prowl_changes_marked)] }
def RunsSaid : Prop := runsRow.holds Tryz.pinned (OpenSpec.ofChange runsSpec)

/-- ITS FALSE NEIGHBOUR: 'it returns false'. Refute it at one input. -/
def runsWrong : ChangeSpec := { name := "runs", fn := fun _ => fun
  | [d] => { results := [.lit (.bool false)], args := [d] }
  | _ => none }
def RunsWrongFalsely : Prop := runsRow.holds Tryz.pinned (OpenSpec.ofChange runsWrong)

/-- 'prowllaw.Probes': WHATEVER THE INPUT: true; the input reads as it did. -/
def probesSpec : ChangeSpec := { name := "probes", fn := fun _ => fun
  | [d] => { results := [.lit (.bool true)], args := [d] }
  | _ => none }
def probesRow : OpenClaim := { program := "ytflenkppcclclaagreatdoor", sum := "d85df5afc3b036da36c590713e8b60ef31f8428a5c14b4b8965f229bbac3e64f", func := "prowl/prowllaw.Probes", spec := "probes", inPlace := ["slices.overlaps[byte]", "internal/bytealg.IndexByteString", "internal/bytealg.IndexString", "internal/abi.NoEscape"], unfollowed := true, recurses := true, named := ["prowl/program.shapes", "prowl/changes.marked", "internal/bytealg.MaxLen"], apart := false, laid := [("prowl/program.shapes", laid_prowl_program_shapes), ("prowl/changes.marked", laid_prowl_changes_marked)] }
def ProbesSaid : Prop := probesRow.holds Tryz.pinned (OpenSpec.ofChange probesSpec)

/-- ITS FALSE NEIGHBOUR: 'it returns false'. Refute it at one input. -/
def probesWrong : ChangeSpec := { name := "probes", fn := fun _ => fun
  | [d] => { results := [.lit (.bool false)], args := [d] }
  | _ => none }
def ProbesWrongFalsely : Prop := probesRow.holds Tryz.pinned (OpenSpec.ofChange probesWrong)

/-- 'prowllaw.Changes': WHATEVER THE INPUT: true; the input reads as it did. -/
def changesSpec : ChangeSpec := { name := "changes", fn := fun _ => fun
  | [d] => { results := [.lit (.bool true)], args := [d] }
  | _ => none }
def changesRow : OpenClaim := { program := "ytflenkppcclclaagreatdoor", sum := "d85df5afc3b036da36c590713e8b60ef31f8428a5c14b4b8965f229bbac3e64f", func := "prowl/prowllaw.Changes", spec := "changes", inPlace := ["slices.overlaps[byte]", "internal/bytealg.IndexByteString", "internal/bytealg.IndexString", "internal/abi.NoEscape"], unfollowed := true, recurses := true, named := ["prowl/program.shapes", "prowl/changes.marked", "internal/bytealg.MaxLen"], apart := false, laid := [("prowl/program.shapes", laid_prowl_program_shapes), ("prowl/changes.marked", laid_prowl_changes_marked)] }
def ChangesSaid : Prop := changesRow.holds Tryz.pinned (OpenSpec.ofChange changesSpec)

/-- ITS FALSE NEIGHBOUR: 'it returns false'. Refute it at one input. -/
def changesWrong : ChangeSpec := { name := "changes", fn := fun _ => fun
  | [d] => { results := [.lit (.bool false)], args := [d] }
  | _ => none }
def ChangesWrongFalsely : Prop := changesRow.holds Tryz.pinned (OpenSpec.ofChange changesWrong)

/-- 'prowlkeep.Replayed': WHATEVER THE INPUT: true; the input reads as it did. -/
def replayedSpec : ChangeSpec := { name := "replayed", fn := fun _ => fun
  | [d1, d2, d3, d4, d5] => { results := [.lit (.bool true)], args := [d1, d2, d3, d4, d5] }
  | _ => none }
def replayedRow : OpenClaim := { program := "ytflenkppcclclaagreatdoor", sum := "d85df5afc3b036da36c590713e8b60ef31f8428a5c14b4b8965f229bbac3e64f", func := "prowl/prowlkeep.Replayed", spec := "replayed", inPlace := ["slices.overlaps[byte]", "internal/abi.NoEscape"], unfollowed := true, recurses := true, named := ["prowl/program.shapes", "prowl/changes.marked"], apart := false, laid := [("prowl/program.shapes", laid_prowl_program_shapes), ("prowl/changes.marked", laid_prowl_changes_marked)] }
def ReplayedSaid : Prop := replayedRow.holds Tryz.pinned (OpenSpec.ofChange replayedSpec)

/-- ITS FALSE NEIGHBOUR: 'it returns false'. Refute it at one input. -/
def replayedWrong : ChangeSpec := { name := "replayed", fn := fun _ => fun
  | [d1, d2, d3, d4, d5] => { results := [.lit (.bool false)], args := [d1, d2, d3, d4, d5] }
  | _ => none }
def ReplayedWrongFalsely : Prop := replayedRow.holds Tryz.pinned (OpenSpec.ofChange replayedWrong)

/-- 'prowlkeep.Enough': WHATEVER THE INPUT: true; the input reads as it did. -/
def enoughSpec : ChangeSpec := { name := "enough", fn := fun _ => fun
  | [d1, d2, d3, d4, d5] => { results := [.lit (.bool true)], args := [d1, d2, d3, d4, d5] }
  | _ => none }
def enoughRow : OpenClaim := { program := "ytflenkppcclclaagreatdoor", sum := "d85df5afc3b036da36c590713e8b60ef31f8428a5c14b4b8965f229bbac3e64f", func := "prowl/prowlkeep.Enough", spec := "enough", inPlace := ["slices.overlaps[byte]", "internal/abi.NoEscape"], unfollowed := true, recurses := true, named := ["prowl/program.shapes", "prowl/changes.marked"], apart := false, laid := [("prowl/program.shapes", laid_prowl_program_shapes), ("prowl/changes.marked", laid_prowl_changes_marked)] }
def EnoughSaid : Prop := enoughRow.holds Tryz.pinned (OpenSpec.ofChange enoughSpec)

/-- ITS FALSE NEIGHBOUR: 'it returns false'. Refute it at one input. -/
def enoughWrong : ChangeSpec := { name := "enough", fn := fun _ => fun
  | [d1, d2, d3, d4, d5] => { results := [.lit (.bool false)], args := [d1, d2, d3, d4, d5] }
  | _ => none }
def EnoughWrongFalsely : Prop := enoughRow.holds Tryz.pinned (OpenSpec.ofChange enoughWrong)

/-- 'prowlkeep.Halves': WHATEVER THE INPUT: true; the input reads as it did. -/
def halvesSpec : ChangeSpec := { name := "halves", fn := fun _ => fun
  | [d1, d2, d3, d4, d5, d6] => { results := [.lit (.bool true)], args := [d1, d2, d3, d4, d5, d6] }
  | _ => none }
def halvesRow : OpenClaim := { program := "ytflenkppcclclaagreatdoor", sum := "d85df5afc3b036da36c590713e8b60ef31f8428a5c14b4b8965f229bbac3e64f", func := "prowl/prowlkeep.Halves", spec := "halves", inPlace := ["slices.overlaps[byte]", "internal/abi.NoEscape"], unfollowed := true, recurses := true, named := ["prowl/program.shapes", "prowl/changes.marked"], apart := false, laid := [("prowl/program.shapes", laid_prowl_program_shapes), ("prowl/changes.marked", laid_prowl_changes_marked)] }
def HalvesSaid : Prop := halvesRow.holds Tryz.pinned (OpenSpec.ofChange halvesSpec)

/-- ITS FALSE NEIGHBOUR: 'it returns false'. Refute it at one input. -/
def halvesWrong : ChangeSpec := { name := "halves", fn := fun _ => fun
  | [d1, d2, d3, d4, d5, d6] => { results := [.lit (.bool false)], args := [d1, d2, d3, d4, d5, d6] }
  | _ => none }
def HalvesWrongFalsely : Prop := halvesRow.holds Tryz.pinned (OpenSpec.ofChange halvesWrong)

/-- 'prowlkeep.Resumed': WHATEVER THE INPUT: true; the input reads as it did. -/
def resumedSpec : ChangeSpec := { name := "resumed", fn := fun _ => fun
  | [d1, d2, d3, d4, d5, d6] => { results := [.lit (.bool true)], args := [d1, d2, d3, d4, d5, d6] }
  | _ => none }
def resumedRow : OpenClaim := { program := "ytflenkppcclclaagreatdoor", sum := "d85df5afc3b036da36c590713e8b60ef31f8428a5c14b4b8965f229bbac3e64f", func := "prowl/prowlkeep.Resumed", spec := "resumed", inPlace := ["slices.overlaps[byte]", "internal/abi.NoEscape", "internal/bytealg.IndexByteString", "internal/bytealg.IndexString"], unfollowed := true, recurses := true, named := ["prowl/program.shapes", "prowl/changes.marked", "internal/bytealg.MaxLen"], apart := false, laid := [("prowl/program.shapes", laid_prowl_program_shapes), ("prowl/changes.marked", laid_prowl_changes_marked)] }
def ResumedSaid : Prop := resumedRow.holds Tryz.pinned (OpenSpec.ofChange resumedSpec)

/-- ITS FALSE NEIGHBOUR: 'it returns false'. Refute it at one input. -/
def resumedWrong : ChangeSpec := { name := "resumed", fn := fun _ => fun
  | [d1, d2, d3, d4, d5, d6] => { results := [.lit (.bool false)], args := [d1, d2, d3, d4, d5, d6] }
  | _ => none }
def ResumedWrongFalsely : Prop := resumedRow.holds Tryz.pinned (OpenSpec.ofChange resumedWrong)

/-- 'prowlkeep.Strange': WHATEVER THE INPUT: true; the input reads as it did. -/
def strangeSpec : ChangeSpec := { name := "strange", fn := fun _ => fun
  | [d1, d2, d3, d4, d5] => { results := [.lit (.bool true)], args := [d1, d2, d3, d4, d5] }
  | _ => none }
def strangeRow : OpenClaim := { program := "ytflenkppcclclaagreatdoor", sum := "d85df5afc3b036da36c590713e8b60ef31f8428a5c14b4b8965f229bbac3e64f", func := "prowl/prowlkeep.Strange", spec := "strange", inPlace := ["slices.overlaps[byte]", "internal/abi.NoEscape", "internal/bytealg.IndexByteString", "internal/bytealg.IndexString"], unfollowed := true, recurses := true, named := ["prowl/program.shapes", "prowl/changes.marked", "internal/bytealg.MaxLen"], apart := false, laid := [("prowl/program.shapes", laid_prowl_program_shapes), ("prowl/changes.marked", laid_prowl_changes_marked)] }
def StrangeSaid : Prop := strangeRow.holds Tryz.pinned (OpenSpec.ofChange strangeSpec)

/-- ITS FALSE NEIGHBOUR: 'it returns false'. Refute it at one input. -/
def strangeWrong : ChangeSpec := { name := "strange", fn := fun _ => fun
  | [d1, d2, d3, d4, d5] => { results := [.lit (.bool false)], args := [d1, d2, d3, d4, d5] }
  | _ => none }
def StrangeWrongFalsely : Prop := strangeRow.holds Tryz.pinned (OpenSpec.ofChange strangeWrong)

/- THE SECOND FORM. 'bulk': how many values and letters a reading holds, each counted each time it is reached (what is shared counts as often as it is met; a slice's spare places count too). A statement '..UptoSaid' is the law's where the arguments, and the package variables that the reading takes, are together of bulk at most 1048576: NARROWER than '..Said'. Prove '..Said' where nothing that the law and all that it calls make is longer than what came in: it says more and counts as full. Else prove '..UptoSaid'. A law counts once. -/
mutual
def uptoBulk {H : Type} : DataW H → Nat
  | .lit (.string bytes) => bytes.length + 1
  | .lit _ => 1
  | .nil => 1
  | .ptr d => uptoBulk d + 1
  | .slice elems spare => uptoBulkAll elems + uptoBulkAll spare + 1
  | .agg parts => uptoBulkAll parts + 1
  | .iface _ d => uptoBulk d + 1
  | .map entries => uptoBulkEntries entries + 1
  | .held _ => 1
def uptoBulkAll {H : Type} : List (DataW H) → Nat
  | [] => 0
  | d :: r => uptoBulk d + uptoBulkAll r
def uptoBulkEntries {H : Type} : List (Lit × DataW H) → Nat
  | [] => 0
  | x :: r => uptoBulkEntry x + uptoBulkEntries r
def uptoBulkEntry {H : Type} : Lit × DataW H → Nat
  | (.string bytes, d) => bytes.length + uptoBulk d + 1
  | (_, d) => uptoBulk d + 1
 end
def uptoSmall : (H : Type) → List (DataW H) → Bool := fun _ ds => decide (uptoBulkAll ds ≤ 1048576)
def OpenSpec.upto (s : _root_.Go.ChangeSpec) : _root_.Go.OpenSpec := { _root_.Go.OpenSpec.ofChange s with cond := some uptoSmall }

/-- 'prowllaw.Runs', WHERE WHAT IT READS IS OF BULK AT MOST 1048576: true; the input reads as it did. -/
def runsUptoRow : OpenClaim := { program := "ytflenkppcclclaagreatdoor", sum := "d85df5afc3b036da36c590713e8b60ef31f8428a5c14b4b8965f229bbac3e64f", func := "prowl/prowllaw.Runs", spec := "runs", inPlace := ["slices.overlaps[byte]", "internal/bytealg.IndexByteString", "internal/bytealg.IndexString", "internal/abi.NoEscape"], unfollowed := true, recurses := true, named := ["prowl/program.shapes", "prowl/changes.marked", "internal/bytealg.MaxLen"], apart := false, laid := [("prowl/program.shapes", laid_prowl_program_shapes), ("prowl/changes.marked", laid_prowl_changes_marked)], narrowed := true }
def RunsUptoSaid : Prop := runsUptoRow.holds Tryz.pinned (OpenSpec.upto runsSpec)

/-- 'prowllaw.Probes', WHERE WHAT IT READS IS OF BULK AT MOST 1048576: true; the input reads as it did. -/
def probesUptoRow : OpenClaim := { program := "ytflenkppcclclaagreatdoor", sum := "d85df5afc3b036da36c590713e8b60ef31f8428a5c14b4b8965f229bbac3e64f", func := "prowl/prowllaw.Probes", spec := "probes", inPlace := ["slices.overlaps[byte]", "internal/bytealg.IndexByteString", "internal/bytealg.IndexString", "internal/abi.NoEscape"], unfollowed := true, recurses := true, named := ["prowl/program.shapes", "prowl/changes.marked", "internal/bytealg.MaxLen"], apart := false, laid := [("prowl/program.shapes", laid_prowl_program_shapes), ("prowl/changes.marked", laid_prowl_changes_marked)], narrowed := true }
def ProbesUptoSaid : Prop := probesUptoRow.holds Tryz.pinned (OpenSpec.upto probesSpec)

/-- 'prowllaw.Changes', WHERE WHAT IT READS IS OF BULK AT MOST 1048576: true; the input reads as it did. -/
def changesUptoRow : OpenClaim := { program := "ytflenkppcclclaagreatdoor", sum := "d85df5afc3b036da36c590713e8b60ef31f8428a5c14b4b8965f229bbac3e64f", func := "prowl/prowllaw.Changes", spec := "changes", inPlace := ["slices.overlaps[byte]", "internal/bytealg.IndexByteString", "internal/bytealg.IndexString", "internal/abi.NoEscape"], unfollowed := true, recurses := true, named := ["prowl/program.shapes", "prowl/changes.marked", "internal/bytealg.MaxLen"], apart := false, laid := [("prowl/program.shapes", laid_prowl_program_shapes), ("prowl/changes.marked", laid_prowl_changes_marked)], narrowed := true }
def ChangesUptoSaid : Prop := changesUptoRow.holds Tryz.pinned (OpenSpec.upto changesSpec)

/-- 'prowlkeep.Replayed', WHERE WHAT IT READS IS OF BULK AT MOST 1048576: true; the input reads as it did. -/
def replayedUptoRow : OpenClaim := { program := "ytflenkppcclclaagreatdoor", sum := "d85df5afc3b036da36c590713e8b60ef31f8428a5c14b4b8965f229bbac3e64f", func := "prowl/prowlkeep.Replayed", spec := "replayed", inPlace := ["slices.overlaps[byte]", "internal/abi.NoEscape"], unfollowed := true, recurses := true, named := ["prowl/program.shapes", "prowl/changes.marked"], apart := false, laid := [("prowl/program.shapes", laid_prowl_program_shapes), ("prowl/changes.marked", laid_prowl_changes_marked)], narrowed := true }
def ReplayedUptoSaid : Prop := replayedUptoRow.holds Tryz.pinned (OpenSpec.upto replayedSpec)

/-- 'prowlkeep.Enough', WHERE WHAT IT READS IS OF BULK AT MOST 1048576: true; the input reads as it did. -/
def enoughUptoRow : OpenClaim := { program := "ytflenkppcclclaagreatdoor", sum := "d85df5afc3b036da36c590713e8b60ef31f8428a5c14b4b8965f229bbac3e64f", func := "prowl/prowlkeep.Enough", spec := "enough", inPlace := ["slices.overlaps[byte]", "internal/abi.NoEscape"], unfollowed := true, recurses := true, named := ["prowl/program.shapes", "prowl/changes.marked"], apart := false, laid := [("prowl/program.shapes", laid_prowl_program_shapes), ("prowl/changes.marked", laid_prowl_changes_marked)], narrowed := true }
def EnoughUptoSaid : Prop := enoughUptoRow.holds Tryz.pinned (OpenSpec.upto enoughSpec)

/-- 'prowlkeep.Halves', WHERE WHAT IT READS IS OF BULK AT MOST 1048576: true; the input reads as it did. -/
def halvesUptoRow : OpenClaim := { program := "ytflenkppcclclaagreatdoor", sum := "d85df5afc3b036da36c590713e8b60ef31f8428a5c14b4b8965f229bbac3e64f", func := "prowl/prowlkeep.Halves", spec := "halves", inPlace := ["slices.overlaps[byte]", "internal/abi.NoEscape"], unfollowed := true, recurses := true, named := ["prowl/program.shapes", "prowl/changes.marked"], apart := false, laid := [("prowl/program.shapes", laid_prowl_program_shapes), ("prowl/changes.marked", laid_prowl_changes_marked)], narrowed := true }
def HalvesUptoSaid : Prop := halvesUptoRow.holds Tryz.pinned (OpenSpec.upto halvesSpec)

/-- 'prowlkeep.Resumed', WHERE WHAT IT READS IS OF BULK AT MOST 1048576: true; the input reads as it did. -/
def resumedUptoRow : OpenClaim := { program := "ytflenkppcclclaagreatdoor", sum := "d85df5afc3b036da36c590713e8b60ef31f8428a5c14b4b8965f229bbac3e64f", func := "prowl/prowlkeep.Resumed", spec := "resumed", inPlace := ["slices.overlaps[byte]", "internal/abi.NoEscape", "internal/bytealg.IndexByteString", "internal/bytealg.IndexString"], unfollowed := true, recurses := true, named := ["prowl/program.shapes", "prowl/changes.marked", "internal/bytealg.MaxLen"], apart := false, laid := [("prowl/program.shapes", laid_prowl_program_shapes), ("prowl/changes.marked", laid_prowl_changes_marked)], narrowed := true }
def ResumedUptoSaid : Prop := resumedUptoRow.holds Tryz.pinned (OpenSpec.upto resumedSpec)

/-- 'prowlkeep.Strange', WHERE WHAT IT READS IS OF BULK AT MOST 1048576: true; the input reads as it did. -/
def strangeUptoRow : OpenClaim := { program := "ytflenkppcclclaagreatdoor", sum := "d85df5afc3b036da36c590713e8b60ef31f8428a5c14b4b8965f229bbac3e64f", func := "prowl/prowlkeep.Strange", spec := "strange", inPlace := ["slices.overlaps[byte]", "internal/abi.NoEscape", "internal/bytealg.IndexByteString", "internal/bytealg.IndexString"], unfollowed := true, recurses := true, named := ["prowl/program.shapes", "prowl/changes.marked", "internal/bytealg.MaxLen"], apart := false, laid := [("prowl/program.shapes", laid_prowl_program_shapes), ("prowl/changes.marked", laid_prowl_changes_marked)], narrowed := true }
def StrangeUptoSaid : Prop := strangeUptoRow.holds Tryz.pinned (OpenSpec.upto strangeSpec)

end Rows
end Go.Proofs.YtflenkppcclclaaGreatDoor
