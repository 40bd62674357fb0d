/-
  NARROWER THAN 'FOR EVERY INPUT', by the rows' own cells (each row's printed sentence says how): Echoed: laid · Probed: laid · Turned: laid · Wildly: laid.
  DERIVED. THE GIVEN ROWS OF THIS SEAT. 4 by the template 'for every input the law returns true; each argument reads behind the call as it read before'; 0 by the template 'total and deterministic' (their statements: YtflenkppcclclaaDoorTotals.lean).
  GIVEN WITH THE SEED: the statements are not yours to turn. If you find one false, say at which input.
  Laid BY PROGRAM, IN A SANDBOX (cutbox-rows.mjs): the forced cells as the released guide's own fill.sh prints them over the translation d3616c5de1173813… (all of the seat's roots in one cut). By AI agents, Wed Nov 11 2026. No macro, syntax, notation, axiom, sorry.
-/
import Derived.Test.YtflenkppcclclaaDoorChecked
import GoSem.Claim
import GoSem.ClaimJoined
import GoSem.ClaimMapViews
import Derived.JoinedTies
import Derived.KernelRfl
namespace Go.Proofs.YtflenkppcclclaaDoor
/- THE CELL 'sum', in the pinned program and in every row, IS THE sha256 OF THE DUMP (.gsa) THAT YtflenkppcclclaaDoorProg.lean LOADS. Nothing in Lean hashes anything: it is a label: what it is worth is what the hold of that sum in a sandbox is worth. -/
noncomputable def Tryd.pinned : Pinned := { name := "ytflenkppcclclaadoor", sum := "d3616c5de1173813d6719e401ed5a4c153cc414415a94bbcb81b6a849cf60811", checked := Tryd.checked }
namespace Rows
def none {H : Type} : Left H := { results := [], args := [] }

/- WHAT THE LISTED PACKAGE-LEVEL VARIABLES READ AS WHEN THE CALL BEGINS. Each datum BY PROGRAM (the guide's laid-datum.mjs) off the statement by which the dump's own 'gosem.cut.vars' lays the variable. In a bare row this is a premise. The card (YtflenkppcclclaaDoorCards.lean) ties it to the program's text. -/
def laid_prowl_program_shapes {H : Type} : DataW H := .agg [.agg [.lit (.int .i64 1), .lit (.int .i64 0), .lit (.int .i64 0)], .agg [.lit (.int .i64 2), .lit (.int .i64 0), .lit (.int .i64 1)], .agg [.lit (.int .i64 1), .lit (.int .i64 0), .lit (.int .i64 1)], .agg [.lit (.int .i64 1), .lit (.int .i64 1), .lit (.int .i64 2)], .agg [.lit (.int .i64 1), .lit (.int .i64 1), .lit (.int .i64 0)], .agg [.lit (.int .i64 1), .lit (.int .i64 2), .lit (.int .i64 2)], .agg [.lit (.int .i64 1), .lit (.int .i64 2), .lit (.int .i64 1)], .agg [.lit (.int .i64 1), .lit (.int .i64 2), .lit (.int .i64 1)], .agg [.lit (.int .i64 1), .lit (.int .i64 2), .lit (.int .i64 1)], .agg [.lit (.int .i64 1), .lit (.int .i64 2), .lit (.int .i64 1)], .agg [.lit (.int .i64 1), .lit (.int .i64 2), .lit (.int .i64 1)], .agg [.lit (.int .i64 1), .lit (.int .i64 2), .lit (.int .i64 1)], .agg [.lit (.int .i64 1), .lit (.int .i64 2), .lit (.int .i64 1)], .agg [.lit (.int .i64 1), .lit (.int .i64 2), .lit (.int .i64 1)], .agg [.lit (.int .i64 2), .lit (.int .i64 0), .lit (.int .i64 0)], .agg [.lit (.int .i64 2), .lit (.int .i64 1), .lit (.int .i64 0)], .agg [.lit (.int .i64 2), .lit (.int .i64 0), .lit (.int .i64 1)], .agg [.lit (.int .i64 2), .lit (.int .i64 1), .lit (.int .i64 0)], .agg [.lit (.int .i64 1), .lit (.int .i64 1), .lit (.int .i64 0)], .agg [.lit (.int .i64 2), .lit (.int .i64 0), .lit (.int .i64 0)], .agg [.lit (.int .i64 2), .lit (.int .i64 0), .lit (.int .i64 0)]]
def laid_prowl_changes_marked {H : Type} : DataW H := .agg [.lit (.int .u8 0), .lit (.int .u8 1), .lit (.int .u8 127), .lit (.int .u8 128), .lit (.int .u8 255)]

/-- 'prowlkeep.Echoed': WHATEVER THE INPUT: true; the input reads as it did. -/
def echoedSpec : ChangeSpec := { name := "echoed", fn := fun _ => fun
  | [d1, d2] => { results := [.lit (.bool true)], args := [d1, d2] }
  | _ => none }
def echoedRow : OpenClaim := { program := "ytflenkppcclclaadoor", sum := "d3616c5de1173813d6719e401ed5a4c153cc414415a94bbcb81b6a849cf60811", func := "prowl/prowlkeep.Echoed", spec := "echoed", named := ["prowl/program.shapes"], apart := false, laid := [("prowl/program.shapes", laid_prowl_program_shapes)] }
def EchoedSaid : Prop := echoedRow.holds Tryd.pinned (OpenSpec.ofChange echoedSpec)

/-- ITS FALSE NEIGHBOUR: 'it returns false'. Refute it at one input. -/
def echoedWrong : ChangeSpec := { name := "echoed", fn := fun _ => fun
  | [d1, d2] => { results := [.lit (.bool false)], args := [d1, d2] }
  | _ => none }
def EchoedWrongFalsely : Prop := echoedRow.holds Tryd.pinned (OpenSpec.ofChange echoedWrong)

/-- 'prowlkeep.Probed': WHATEVER THE INPUT: true; the input reads as it did. -/
def probedSpec : ChangeSpec := { name := "probed", fn := fun _ => fun
  | [d1, d2, d3] => { results := [.lit (.bool true)], args := [d1, d2, d3] }
  | _ => none }
def probedRow : OpenClaim := { program := "ytflenkppcclclaadoor", sum := "d3616c5de1173813d6719e401ed5a4c153cc414415a94bbcb81b6a849cf60811", func := "prowl/prowlkeep.Probed", spec := "probed", named := ["prowl/program.shapes"], apart := false, laid := [("prowl/program.shapes", laid_prowl_program_shapes)] }
def ProbedSaid : Prop := probedRow.holds Tryd.pinned (OpenSpec.ofChange probedSpec)

/-- ITS FALSE NEIGHBOUR: 'it returns false'. Refute it at one input. -/
def probedWrong : ChangeSpec := { name := "probed", fn := fun _ => fun
  | [d1, d2, d3] => { results := [.lit (.bool false)], args := [d1, d2, d3] }
  | _ => none }
def ProbedWrongFalsely : Prop := probedRow.holds Tryd.pinned (OpenSpec.ofChange probedWrong)

/-- 'prowlkeep.Turned': WHATEVER THE INPUT: true; the input reads as it did. -/
def turnedSpec : ChangeSpec := { name := "turned", fn := fun _ => fun
  | [d1, d2] => { results := [.lit (.bool true)], args := [d1, d2] }
  | _ => none }
def turnedRow : OpenClaim := { program := "ytflenkppcclclaadoor", sum := "d3616c5de1173813d6719e401ed5a4c153cc414415a94bbcb81b6a849cf60811", func := "prowl/prowlkeep.Turned", spec := "turned", inPlace := ["slices.overlaps[byte]"], unfollowed := true, recurses := true, named := ["prowl/program.shapes", "prowl/changes.marked"], apart := false, laid := [("prowl/program.shapes", laid_prowl_program_shapes), ("prowl/changes.marked", laid_prowl_changes_marked)] }
def TurnedSaid : Prop := turnedRow.holds Tryd.pinned (OpenSpec.ofChange turnedSpec)

/-- ITS FALSE NEIGHBOUR: 'it returns false'. Refute it at one input. -/
def turnedWrong : ChangeSpec := { name := "turned", fn := fun _ => fun
  | [d1, d2] => { results := [.lit (.bool false)], args := [d1, d2] }
  | _ => none }
def TurnedWrongFalsely : Prop := turnedRow.holds Tryd.pinned (OpenSpec.ofChange turnedWrong)

/-- 'prowlkeep.Wildly': WHATEVER THE INPUT: true; the input reads as it did. -/
def wildlySpec : ChangeSpec := { name := "wildly", fn := fun _ => fun
  | [d1, d2, d3, d4] => { results := [.lit (.bool true)], args := [d1, d2, d3, d4] }
  | _ => none }
def wildlyRow : OpenClaim := { program := "ytflenkppcclclaadoor", sum := "d3616c5de1173813d6719e401ed5a4c153cc414415a94bbcb81b6a849cf60811", func := "prowl/prowlkeep.Wildly", spec := "wildly", inPlace := ["slices.overlaps[byte]"], unfollowed := true, recurses := true, named := ["prowl/program.shapes", "prowl/changes.marked"], apart := false, laid := [("prowl/program.shapes", laid_prowl_program_shapes), ("prowl/changes.marked", laid_prowl_changes_marked)] }
def WildlySaid : Prop := wildlyRow.holds Tryd.pinned (OpenSpec.ofChange wildlySpec)

/-- ITS FALSE NEIGHBOUR: 'it returns false'. Refute it at one input. -/
def wildlyWrong : ChangeSpec := { name := "wildly", fn := fun _ => fun
  | [d1, d2, d3, d4] => { results := [.lit (.bool false)], args := [d1, d2, d3, d4] }
  | _ => none }
def WildlyWrongFalsely : Prop := wildlyRow.holds Tryd.pinned (OpenSpec.ofChange wildlyWrong)

/- THE SECOND FORM. 'bulk': how many values and letters a reading holds, each counted each time it is reached (what is shared counts as often as it is met; a slice's spare places count too). A statement '..UptoSaid' is the law's where the arguments, and the package variables that the reading takes, are together of bulk at most 1048576: NARROWER than '..Said'. Prove '..Said' where nothing that the law and all that it calls make is longer than what came in: it says more and counts as full. Else prove '..UptoSaid'. A law counts once. -/
mutual
def uptoBulk {H : Type} : DataW H → Nat
  | .lit (.string bytes) => bytes.length + 1
  | .lit _ => 1
  | .nil => 1
  | .ptr d => uptoBulk d + 1
  | .slice elems spare => uptoBulkAll elems + uptoBulkAll spare + 1
  | .agg parts => uptoBulkAll parts + 1
  | .iface _ d => uptoBulk d + 1
  | .map entries => uptoBulkEntries entries + 1
  | .held _ => 1
def uptoBulkAll {H : Type} : List (DataW H) → Nat
  | [] => 0
  | d :: r => uptoBulk d + uptoBulkAll r
def uptoBulkEntries {H : Type} : List (Lit × DataW H) → Nat
  | [] => 0
  | x :: r => uptoBulkEntry x + uptoBulkEntries r
def uptoBulkEntry {H : Type} : Lit × DataW H → Nat
  | (.string bytes, d) => bytes.length + uptoBulk d + 1
  | (_, d) => uptoBulk d + 1
 end
def uptoSmall : (H : Type) → List (DataW H) → Bool := fun _ ds => decide (uptoBulkAll ds ≤ 1048576)
def OpenSpec.upto (s : _root_.Go.ChangeSpec) : _root_.Go.OpenSpec := { _root_.Go.OpenSpec.ofChange s with cond := some uptoSmall }

/-- 'prowlkeep.Echoed', WHERE WHAT IT READS IS OF BULK AT MOST 1048576: true; the input reads as it did. -/
def echoedUptoRow : OpenClaim := { program := "ytflenkppcclclaadoor", sum := "d3616c5de1173813d6719e401ed5a4c153cc414415a94bbcb81b6a849cf60811", func := "prowl/prowlkeep.Echoed", spec := "echoed", named := ["prowl/program.shapes"], apart := false, laid := [("prowl/program.shapes", laid_prowl_program_shapes)], narrowed := true }
def EchoedUptoSaid : Prop := echoedUptoRow.holds Tryd.pinned (OpenSpec.upto echoedSpec)

/-- 'prowlkeep.Probed', WHERE WHAT IT READS IS OF BULK AT MOST 1048576: true; the input reads as it did. -/
def probedUptoRow : OpenClaim := { program := "ytflenkppcclclaadoor", sum := "d3616c5de1173813d6719e401ed5a4c153cc414415a94bbcb81b6a849cf60811", func := "prowl/prowlkeep.Probed", spec := "probed", named := ["prowl/program.shapes"], apart := false, laid := [("prowl/program.shapes", laid_prowl_program_shapes)], narrowed := true }
def ProbedUptoSaid : Prop := probedUptoRow.holds Tryd.pinned (OpenSpec.upto probedSpec)

/-- 'prowlkeep.Turned', WHERE WHAT IT READS IS OF BULK AT MOST 1048576: true; the input reads as it did. -/
def turnedUptoRow : OpenClaim := { program := "ytflenkppcclclaadoor", sum := "d3616c5de1173813d6719e401ed5a4c153cc414415a94bbcb81b6a849cf60811", func := "prowl/prowlkeep.Turned", spec := "turned", inPlace := ["slices.overlaps[byte]"], unfollowed := true, recurses := true, named := ["prowl/program.shapes", "prowl/changes.marked"], apart := false, laid := [("prowl/program.shapes", laid_prowl_program_shapes), ("prowl/changes.marked", laid_prowl_changes_marked)], narrowed := true }
def TurnedUptoSaid : Prop := turnedUptoRow.holds Tryd.pinned (OpenSpec.upto turnedSpec)

/-- 'prowlkeep.Wildly', WHERE WHAT IT READS IS OF BULK AT MOST 1048576: true; the input reads as it did. -/
def wildlyUptoRow : OpenClaim := { program := "ytflenkppcclclaadoor", sum := "d3616c5de1173813d6719e401ed5a4c153cc414415a94bbcb81b6a849cf60811", func := "prowl/prowlkeep.Wildly", spec := "wildly", inPlace := ["slices.overlaps[byte]"], unfollowed := true, recurses := true, named := ["prowl/program.shapes", "prowl/changes.marked"], apart := false, laid := [("prowl/program.shapes", laid_prowl_program_shapes), ("prowl/changes.marked", laid_prowl_changes_marked)], narrowed := true }
def WildlyUptoSaid : Prop := wildlyUptoRow.holds Tryd.pinned (OpenSpec.upto wildlySpec)

end Rows
end Go.Proofs.YtflenkppcclclaaDoor
