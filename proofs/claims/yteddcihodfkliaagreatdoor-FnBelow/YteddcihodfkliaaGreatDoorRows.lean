/-
  NARROWER THAN 'FOR EVERY INPUT', by the rows' own cells (each row's printed sentence says how): FnFirst: ifaces, laid · FnBelow: ifaces, laid · FnParts: ifaces, laid · FnExactView: ifaces, laid · FnExactSight: ifaces, laid.
  DERIVED. THE GIVEN ROWS OF THIS SEAT. 5 by the template 'for every input the law returns true; each argument reads behind the call as it read before'; 0 by the template 'total and deterministic' (their statements: YteddcihodfkliaaGreatDoorTotals.lean).
  GIVEN WITH THE SEED: the statements are not yours to turn. If you find one false, say at which input.
  Laid BY PROGRAM, IN A SANDBOX (cutbox-rows.mjs): the forced cells as the released guide's own fill.sh prints them over the translation 263a4e80d4d66db0… (all of the seat's roots in one cut). By AI agents, Wed Nov 11 2026. No macro, syntax, notation, axiom, sorry.
-/
import Derived.Test.YteddcihodfkliaaGreatDoorChecked
import GoSem.Claim
import GoSem.ClaimJoined
import GoSem.ClaimMapViews
import Derived.JoinedTies
import Derived.KernelRfl
namespace Go.Proofs.YteddcihodfkliaaGreatDoor
/- THE CELL 'sum', in the pinned program and in every row, IS THE sha256 OF THE DUMP (.gsa) THAT YteddcihodfkliaaGreatDoorProg.lean LOADS. Nothing in Lean hashes anything: it is a label: what it is worth is what the hold of that sum in a sandbox is worth. -/
noncomputable def Tryz.pinned : Pinned := { name := "yteddcihodfkliaagreatdoor", sum := "263a4e80d4d66db0e02d92a1b41105bb412ffac40a73372ac6edcce461bc6ff6", checked := Tryz.checked }
namespace Rows
def none {H : Type} : Left H := { results := [], args := [] }

/- WHAT THE LISTED PACKAGE-LEVEL VARIABLES READ AS WHEN THE CALL BEGINS. Each datum BY PROGRAM (the guide's laid-datum.mjs) off the statement by which the dump's own 'gosem.cut.vars' lays the variable. In a bare row this is a premise. The card (YteddcihodfkliaaGreatDoorCards.lean) ties it to the program's text. -/
def laid_loop_example_g00449_impl_errTooLong {H : Type} : DataW H := .iface "*errors.errorString" (.ptr (.agg [.lit (.string [116, 114, 101, 101, 58, 32, 97, 32, 116, 101, 120, 116, 32, 111, 114, 32, 97, 32, 108, 105, 115, 116, 32, 105, 115, 32, 116, 111, 111, 32, 108, 111, 110, 103])]))
def laid_loop_example_g00449_impl_errNotRight {H : Type} : DataW H := .iface "*errors.errorString" (.ptr (.agg [.lit (.string [116, 114, 101, 101, 58, 32, 115, 111, 109, 101, 116, 104, 105, 110, 103, 32, 105, 115, 32, 110, 111, 116, 32, 114, 105, 103, 104, 116])]))
def laid_loop_example_g00449_impl_errNoNode {H : Type} : DataW H := .iface "*errors.errorString" (.ptr (.agg [.lit (.string [116, 114, 101, 101, 58, 32, 116, 104, 101, 114, 101, 32, 105, 115, 32, 110, 111, 32, 115, 117, 99, 104, 32, 110, 111, 100, 101])]))
def laid_loop_example_g00449_impl_errNoDir {H : Type} : DataW H := .iface "*errors.errorString" (.ptr (.agg [.lit (.string [116, 114, 101, 101, 58, 32, 116, 104, 101, 32, 112, 97, 114, 101, 110, 116, 32, 105, 115, 32, 110, 111, 32, 100, 105, 114, 101, 99, 116, 111, 114, 121])]))
def laid_loop_example_g00449_impl_errNodesUnder {H : Type} : DataW H := .iface "*errors.errorString" (.ptr (.agg [.lit (.string [116, 114, 101, 101, 58, 32, 116, 104, 101, 114, 101, 32, 97, 114, 101, 32, 110, 111, 100, 101, 115, 32, 117, 110, 100, 101, 114, 32, 105, 116])]))
def laid_loop_example_g00449_impl_errNoRoom {H : Type} : DataW H := .iface "*errors.errorString" (.ptr (.agg [.lit (.string [116, 114, 101, 101, 58, 32, 116, 104, 101, 114, 101, 32, 105, 115, 32, 110, 111, 32, 114, 111, 111, 109, 32, 102, 111, 114, 32, 111, 110, 101, 32, 109, 111, 114, 101])]))

/-- 'laws.FnFirst': WHATEVER THE INPUT: true; the input reads as it did. -/
def fnFirstSpec : ChangeSpec := { name := "fnFirst", vars := ["loop.example/g00449/impl.errNotRight", "loop.example/g00449/impl.errNoNode", "loop.example/g00449/impl.errNoDir", "loop.example/g00449/impl.errTooLong", "loop.example/g00449/impl.errNodesUnder", "loop.example/g00449/impl.errNoRoom"], fn := fun _ => fun
  | [d, g1, g2, g3, g4, g5, g6] => { results := [.lit (.bool true)], args := [d], vars := [g1, g2, g3, g4, g5, g6] }
  | _ => none }
def fnFirstRow : OpenClaim := { program := "yteddcihodfkliaagreatdoor", sum := "263a4e80d4d66db0e02d92a1b41105bb412ffac40a73372ac6edcce461bc6ff6", func := "loop.example/g00449/laws.FnFirst", spec := "fnFirst", inPlace := ["internal/reflectlite.TypeOf"], unfollowed := true, recurses := true, named := ["loop.example/g00449/impl.errNotRight", "loop.example/g00449/impl.errNoNode", "loop.example/g00449/impl.errNoDir", "loop.example/g00449/impl.errTooLong", "loop.example/g00449/impl.errNodesUnder", "loop.example/g00449/impl.errNoRoom"], ifaces := true, apart := false, laid := [("loop.example/g00449/impl.errTooLong", laid_loop_example_g00449_impl_errTooLong), ("loop.example/g00449/impl.errNotRight", laid_loop_example_g00449_impl_errNotRight), ("loop.example/g00449/impl.errNoNode", laid_loop_example_g00449_impl_errNoNode), ("loop.example/g00449/impl.errNoDir", laid_loop_example_g00449_impl_errNoDir), ("loop.example/g00449/impl.errNodesUnder", laid_loop_example_g00449_impl_errNodesUnder), ("loop.example/g00449/impl.errNoRoom", laid_loop_example_g00449_impl_errNoRoom)] }
def FnFirstSaid : Prop := fnFirstRow.holds Tryz.pinned (OpenSpec.ofChange fnFirstSpec)

/-- ITS FALSE NEIGHBOUR: 'it returns false'. Refute it at one input. -/
def fnFirstWrong : ChangeSpec := { name := "fnFirst", vars := ["loop.example/g00449/impl.errNotRight", "loop.example/g00449/impl.errNoNode", "loop.example/g00449/impl.errNoDir", "loop.example/g00449/impl.errTooLong", "loop.example/g00449/impl.errNodesUnder", "loop.example/g00449/impl.errNoRoom"], fn := fun _ => fun
  | [d, g1, g2, g3, g4, g5, g6] => { results := [.lit (.bool false)], args := [d], vars := [g1, g2, g3, g4, g5, g6] }
  | _ => none }
def FnFirstWrongFalsely : Prop := fnFirstRow.holds Tryz.pinned (OpenSpec.ofChange fnFirstWrong)

/-- 'laws.FnBelow': WHATEVER THE INPUT: true; the input reads as it did. -/
def fnBelowSpec : ChangeSpec := { name := "fnBelow", vars := ["loop.example/g00449/impl.errNotRight", "loop.example/g00449/impl.errNoNode", "loop.example/g00449/impl.errNoDir", "loop.example/g00449/impl.errTooLong", "loop.example/g00449/impl.errNodesUnder", "loop.example/g00449/impl.errNoRoom"], fn := fun _ => fun
  | [d1, d2, g1, g2, g3, g4, g5, g6] => { results := [.lit (.bool true)], args := [d1, d2], vars := [g1, g2, g3, g4, g5, g6] }
  | _ => none }
def fnBelowRow : OpenClaim := { program := "yteddcihodfkliaagreatdoor", sum := "263a4e80d4d66db0e02d92a1b41105bb412ffac40a73372ac6edcce461bc6ff6", func := "loop.example/g00449/laws.FnBelow", spec := "fnBelow", inPlace := ["internal/reflectlite.TypeOf"], unfollowed := true, recurses := true, named := ["loop.example/g00449/impl.errNotRight", "loop.example/g00449/impl.errNoNode", "loop.example/g00449/impl.errNoDir", "loop.example/g00449/impl.errTooLong", "loop.example/g00449/impl.errNodesUnder", "loop.example/g00449/impl.errNoRoom"], ifaces := true, apart := false, laid := [("loop.example/g00449/impl.errTooLong", laid_loop_example_g00449_impl_errTooLong), ("loop.example/g00449/impl.errNotRight", laid_loop_example_g00449_impl_errNotRight), ("loop.example/g00449/impl.errNoNode", laid_loop_example_g00449_impl_errNoNode), ("loop.example/g00449/impl.errNoDir", laid_loop_example_g00449_impl_errNoDir), ("loop.example/g00449/impl.errNodesUnder", laid_loop_example_g00449_impl_errNodesUnder), ("loop.example/g00449/impl.errNoRoom", laid_loop_example_g00449_impl_errNoRoom)] }
def FnBelowSaid : Prop := fnBelowRow.holds Tryz.pinned (OpenSpec.ofChange fnBelowSpec)

/-- ITS FALSE NEIGHBOUR: 'it returns false'. Refute it at one input. -/
def fnBelowWrong : ChangeSpec := { name := "fnBelow", vars := ["loop.example/g00449/impl.errNotRight", "loop.example/g00449/impl.errNoNode", "loop.example/g00449/impl.errNoDir", "loop.example/g00449/impl.errTooLong", "loop.example/g00449/impl.errNodesUnder", "loop.example/g00449/impl.errNoRoom"], fn := fun _ => fun
  | [d1, d2, g1, g2, g3, g4, g5, g6] => { results := [.lit (.bool false)], args := [d1, d2], vars := [g1, g2, g3, g4, g5, g6] }
  | _ => none }
def FnBelowWrongFalsely : Prop := fnBelowRow.holds Tryz.pinned (OpenSpec.ofChange fnBelowWrong)

/-- 'laws.FnParts': WHATEVER THE INPUT: true; the input reads as it did. -/
def fnPartsSpec : ChangeSpec := { name := "fnParts", vars := ["loop.example/g00449/impl.errNotRight", "loop.example/g00449/impl.errNoNode", "loop.example/g00449/impl.errNoDir", "loop.example/g00449/impl.errTooLong", "loop.example/g00449/impl.errNodesUnder", "loop.example/g00449/impl.errNoRoom"], fn := fun _ => fun
  | [d1, d2, g1, g2, g3, g4, g5, g6] => { results := [.lit (.bool true)], args := [d1, d2], vars := [g1, g2, g3, g4, g5, g6] }
  | _ => none }
def fnPartsRow : OpenClaim := { program := "yteddcihodfkliaagreatdoor", sum := "263a4e80d4d66db0e02d92a1b41105bb412ffac40a73372ac6edcce461bc6ff6", func := "loop.example/g00449/laws.FnParts", spec := "fnParts", inPlace := ["internal/reflectlite.TypeOf"], unfollowed := true, recurses := true, named := ["loop.example/g00449/impl.errNotRight", "loop.example/g00449/impl.errNoNode", "loop.example/g00449/impl.errNoDir", "loop.example/g00449/impl.errTooLong", "loop.example/g00449/impl.errNodesUnder", "loop.example/g00449/impl.errNoRoom"], ifaces := true, apart := false, laid := [("loop.example/g00449/impl.errTooLong", laid_loop_example_g00449_impl_errTooLong), ("loop.example/g00449/impl.errNotRight", laid_loop_example_g00449_impl_errNotRight), ("loop.example/g00449/impl.errNoNode", laid_loop_example_g00449_impl_errNoNode), ("loop.example/g00449/impl.errNoDir", laid_loop_example_g00449_impl_errNoDir), ("loop.example/g00449/impl.errNodesUnder", laid_loop_example_g00449_impl_errNodesUnder), ("loop.example/g00449/impl.errNoRoom", laid_loop_example_g00449_impl_errNoRoom)] }
def FnPartsSaid : Prop := fnPartsRow.holds Tryz.pinned (OpenSpec.ofChange fnPartsSpec)

/-- ITS FALSE NEIGHBOUR: 'it returns false'. Refute it at one input. -/
def fnPartsWrong : ChangeSpec := { name := "fnParts", vars := ["loop.example/g00449/impl.errNotRight", "loop.example/g00449/impl.errNoNode", "loop.example/g00449/impl.errNoDir", "loop.example/g00449/impl.errTooLong", "loop.example/g00449/impl.errNodesUnder", "loop.example/g00449/impl.errNoRoom"], fn := fun _ => fun
  | [d1, d2, g1, g2, g3, g4, g5, g6] => { results := [.lit (.bool false)], args := [d1, d2], vars := [g1, g2, g3, g4, g5, g6] }
  | _ => none }
def FnPartsWrongFalsely : Prop := fnPartsRow.holds Tryz.pinned (OpenSpec.ofChange fnPartsWrong)

/-- 'laws.FnExactView': WHATEVER THE INPUT: true; the input reads as it did. -/
def fnExactViewSpec : ChangeSpec := { name := "fnExactView", vars := ["loop.example/g00449/impl.errTooLong", "loop.example/g00449/impl.errNotRight", "loop.example/g00449/impl.errNoNode", "loop.example/g00449/impl.errNoDir", "loop.example/g00449/impl.errNodesUnder", "loop.example/g00449/impl.errNoRoom"], fn := fun _ => fun
  | [d, g1, g2, g3, g4, g5, g6] => { results := [.lit (.bool true)], args := [d], vars := [g1, g2, g3, g4, g5, g6] }
  | _ => none }
def fnExactViewRow : OpenClaim := { program := "yteddcihodfkliaagreatdoor", sum := "263a4e80d4d66db0e02d92a1b41105bb412ffac40a73372ac6edcce461bc6ff6", func := "loop.example/g00449/laws.FnExactView", spec := "fnExactView", inPlace := ["internal/reflectlite.TypeOf"], unfollowed := true, recurses := true, named := ["loop.example/g00449/impl.errTooLong", "loop.example/g00449/impl.errNotRight", "loop.example/g00449/impl.errNoNode", "loop.example/g00449/impl.errNoDir", "loop.example/g00449/impl.errNodesUnder", "loop.example/g00449/impl.errNoRoom"], ifaces := true, apart := false, laid := [("loop.example/g00449/impl.errTooLong", laid_loop_example_g00449_impl_errTooLong), ("loop.example/g00449/impl.errNotRight", laid_loop_example_g00449_impl_errNotRight), ("loop.example/g00449/impl.errNoNode", laid_loop_example_g00449_impl_errNoNode), ("loop.example/g00449/impl.errNoDir", laid_loop_example_g00449_impl_errNoDir), ("loop.example/g00449/impl.errNodesUnder", laid_loop_example_g00449_impl_errNodesUnder), ("loop.example/g00449/impl.errNoRoom", laid_loop_example_g00449_impl_errNoRoom)] }
def FnExactViewSaid : Prop := fnExactViewRow.holds Tryz.pinned (OpenSpec.ofChange fnExactViewSpec)

/-- ITS FALSE NEIGHBOUR: 'it returns false'. Refute it at one input. -/
def fnExactViewWrong : ChangeSpec := { name := "fnExactView", vars := ["loop.example/g00449/impl.errTooLong", "loop.example/g00449/impl.errNotRight", "loop.example/g00449/impl.errNoNode", "loop.example/g00449/impl.errNoDir", "loop.example/g00449/impl.errNodesUnder", "loop.example/g00449/impl.errNoRoom"], fn := fun _ => fun
  | [d, g1, g2, g3, g4, g5, g6] => { results := [.lit (.bool false)], args := [d], vars := [g1, g2, g3, g4, g5, g6] }
  | _ => none }
def FnExactViewWrongFalsely : Prop := fnExactViewRow.holds Tryz.pinned (OpenSpec.ofChange fnExactViewWrong)

/-- 'laws.FnExactSight': WHATEVER THE INPUT: true; the input reads as it did. -/
def fnExactSightSpec : ChangeSpec := { name := "fnExactSight", vars := ["loop.example/g00449/impl.errTooLong", "loop.example/g00449/impl.errNotRight", "loop.example/g00449/impl.errNoNode", "loop.example/g00449/impl.errNoDir", "loop.example/g00449/impl.errNodesUnder", "loop.example/g00449/impl.errNoRoom"], fn := fun _ => fun
  | [d, g1, g2, g3, g4, g5, g6] => { results := [.lit (.bool true)], args := [d], vars := [g1, g2, g3, g4, g5, g6] }
  | _ => none }
def fnExactSightRow : OpenClaim := { program := "yteddcihodfkliaagreatdoor", sum := "263a4e80d4d66db0e02d92a1b41105bb412ffac40a73372ac6edcce461bc6ff6", func := "loop.example/g00449/laws.FnExactSight", spec := "fnExactSight", inPlace := ["internal/reflectlite.TypeOf"], unfollowed := true, recurses := true, named := ["loop.example/g00449/impl.errTooLong", "loop.example/g00449/impl.errNotRight", "loop.example/g00449/impl.errNoNode", "loop.example/g00449/impl.errNoDir", "loop.example/g00449/impl.errNodesUnder", "loop.example/g00449/impl.errNoRoom"], ifaces := true, apart := false, laid := [("loop.example/g00449/impl.errTooLong", laid_loop_example_g00449_impl_errTooLong), ("loop.example/g00449/impl.errNotRight", laid_loop_example_g00449_impl_errNotRight), ("loop.example/g00449/impl.errNoNode", laid_loop_example_g00449_impl_errNoNode), ("loop.example/g00449/impl.errNoDir", laid_loop_example_g00449_impl_errNoDir), ("loop.example/g00449/impl.errNodesUnder", laid_loop_example_g00449_impl_errNodesUnder), ("loop.example/g00449/impl.errNoRoom", laid_loop_example_g00449_impl_errNoRoom)] }
def FnExactSightSaid : Prop := fnExactSightRow.holds Tryz.pinned (OpenSpec.ofChange fnExactSightSpec)

/-- ITS FALSE NEIGHBOUR: 'it returns false'. Refute it at one input. -/
def fnExactSightWrong : ChangeSpec := { name := "fnExactSight", vars := ["loop.example/g00449/impl.errTooLong", "loop.example/g00449/impl.errNotRight", "loop.example/g00449/impl.errNoNode", "loop.example/g00449/impl.errNoDir", "loop.example/g00449/impl.errNodesUnder", "loop.example/g00449/impl.errNoRoom"], fn := fun _ => fun
  | [d, g1, g2, g3, g4, g5, g6] => { results := [.lit (.bool false)], args := [d], vars := [g1, g2, g3, g4, g5, g6] }
  | _ => none }
def FnExactSightWrongFalsely : Prop := fnExactSightRow.holds Tryz.pinned (OpenSpec.ofChange fnExactSightWrong)

/- THE SECOND FORM. 'bulk': how many values and letters a reading holds, each counted each time it is reached (what is shared counts as often as it is met; a slice's spare places count too). A statement '..UptoSaid' is the law's where the arguments, and the package variables that the reading takes, are together of bulk at most 1048576: NARROWER than '..Said'. Prove '..Said' where nothing that the law and all that it calls make is longer than what came in: it says more and counts as full. Else prove '..UptoSaid'. A law counts once. -/
mutual
def uptoBulk {H : Type} : DataW H → Nat
  | .lit (.string bytes) => bytes.length + 1
  | .lit _ => 1
  | .nil => 1
  | .ptr d => uptoBulk d + 1
  | .slice elems spare => uptoBulkAll elems + uptoBulkAll spare + 1
  | .agg parts => uptoBulkAll parts + 1
  | .iface _ d => uptoBulk d + 1
  | .map entries => uptoBulkEntries entries + 1
  | .held _ => 1
def uptoBulkAll {H : Type} : List (DataW H) → Nat
  | [] => 0
  | d :: r => uptoBulk d + uptoBulkAll r
def uptoBulkEntries {H : Type} : List (Lit × DataW H) → Nat
  | [] => 0
  | x :: r => uptoBulkEntry x + uptoBulkEntries r
def uptoBulkEntry {H : Type} : Lit × DataW H → Nat
  | (.string bytes, d) => bytes.length + uptoBulk d + 1
  | (_, d) => uptoBulk d + 1
 end
def uptoSmall : (H : Type) → List (DataW H) → Bool := fun _ ds => decide (uptoBulkAll ds ≤ 1048576)
def OpenSpec.upto (s : _root_.Go.ChangeSpec) : _root_.Go.OpenSpec := { _root_.Go.OpenSpec.ofChange s with cond := some uptoSmall }

/-- 'laws.FnFirst', WHERE WHAT IT READS IS OF BULK AT MOST 1048576: true; the input reads as it did. -/
def fnFirstUptoRow : OpenClaim := { program := "yteddcihodfkliaagreatdoor", sum := "263a4e80d4d66db0e02d92a1b41105bb412ffac40a73372ac6edcce461bc6ff6", func := "loop.example/g00449/laws.FnFirst", spec := "fnFirst", inPlace := ["internal/reflectlite.TypeOf"], unfollowed := true, recurses := true, named := ["loop.example/g00449/impl.errNotRight", "loop.example/g00449/impl.errNoNode", "loop.example/g00449/impl.errNoDir", "loop.example/g00449/impl.errTooLong", "loop.example/g00449/impl.errNodesUnder", "loop.example/g00449/impl.errNoRoom"], ifaces := true, apart := false, laid := [("loop.example/g00449/impl.errTooLong", laid_loop_example_g00449_impl_errTooLong), ("loop.example/g00449/impl.errNotRight", laid_loop_example_g00449_impl_errNotRight), ("loop.example/g00449/impl.errNoNode", laid_loop_example_g00449_impl_errNoNode), ("loop.example/g00449/impl.errNoDir", laid_loop_example_g00449_impl_errNoDir), ("loop.example/g00449/impl.errNodesUnder", laid_loop_example_g00449_impl_errNodesUnder), ("loop.example/g00449/impl.errNoRoom", laid_loop_example_g00449_impl_errNoRoom)], narrowed := true }
def FnFirstUptoSaid : Prop := fnFirstUptoRow.holds Tryz.pinned (OpenSpec.upto fnFirstSpec)

/-- 'laws.FnBelow', WHERE WHAT IT READS IS OF BULK AT MOST 1048576: true; the input reads as it did. -/
def fnBelowUptoRow : OpenClaim := { program := "yteddcihodfkliaagreatdoor", sum := "263a4e80d4d66db0e02d92a1b41105bb412ffac40a73372ac6edcce461bc6ff6", func := "loop.example/g00449/laws.FnBelow", spec := "fnBelow", inPlace := ["internal/reflectlite.TypeOf"], unfollowed := true, recurses := true, named := ["loop.example/g00449/impl.errNotRight", "loop.example/g00449/impl.errNoNode", "loop.example/g00449/impl.errNoDir", "loop.example/g00449/impl.errTooLong", "loop.example/g00449/impl.errNodesUnder", "loop.example/g00449/impl.errNoRoom"], ifaces := true, apart := false, laid := [("loop.example/g00449/impl.errTooLong", laid_loop_example_g00449_impl_errTooLong), ("loop.example/g00449/impl.errNotRight", laid_loop_example_g00449_impl_errNotRight), ("loop.example/g00449/impl.errNoNode", laid_loop_example_g00449_impl_errNoNode), ("loop.example/g00449/impl.errNoDir", laid_loop_example_g00449_impl_errNoDir), ("loop.example/g00449/impl.errNodesUnder", laid_loop_example_g00449_impl_errNodesUnder), ("loop.example/g00449/impl.errNoRoom", laid_loop_example_g00449_impl_errNoRoom)], narrowed := true }
def FnBelowUptoSaid : Prop := fnBelowUptoRow.holds Tryz.pinned (OpenSpec.upto fnBelowSpec)

/-- 'laws.FnParts', WHERE WHAT IT READS IS OF BULK AT MOST 1048576: true; the input reads as it did. -/
def fnPartsUptoRow : OpenClaim := { program := "yteddcihodfkliaagreatdoor", sum := "263a4e80d4d66db0e02d92a1b41105bb412ffac40a73372ac6edcce461bc6ff6", func := "loop.example/g00449/laws.FnParts", spec := "fnParts", inPlace := ["internal/reflectlite.TypeOf"], unfollowed := true, recurses := true, named := ["loop.example/g00449/impl.errNotRight", "loop.example/g00449/impl.errNoNode", "loop.example/g00449/impl.errNoDir", "loop.example/g00449/impl.errTooLong", "loop.example/g00449/impl.errNodesUnder", "loop.example/g00449/impl.errNoRoom"], ifaces := true, apart := false, laid := [("loop.example/g00449/impl.errTooLong", laid_loop_example_g00449_impl_errTooLong), ("loop.example/g00449/impl.errNotRight", laid_loop_example_g00449_impl_errNotRight), ("loop.example/g00449/impl.errNoNode", laid_loop_example_g00449_impl_errNoNode), ("loop.example/g00449/impl.errNoDir", laid_loop_example_g00449_impl_errNoDir), ("loop.example/g00449/impl.errNodesUnder", laid_loop_example_g00449_impl_errNodesUnder), ("loop.example/g00449/impl.errNoRoom", laid_loop_example_g00449_impl_errNoRoom)], narrowed := true }
def FnPartsUptoSaid : Prop := fnPartsUptoRow.holds Tryz.pinned (OpenSpec.upto fnPartsSpec)

/-- 'laws.FnExactView', WHERE WHAT IT READS IS OF BULK AT MOST 1048576: true; the input reads as it did. -/
def fnExactViewUptoRow : OpenClaim := { program := "yteddcihodfkliaagreatdoor", sum := "263a4e80d4d66db0e02d92a1b41105bb412ffac40a73372ac6edcce461bc6ff6", func := "loop.example/g00449/laws.FnExactView", spec := "fnExactView", inPlace := ["internal/reflectlite.TypeOf"], unfollowed := true, recurses := true, named := ["loop.example/g00449/impl.errTooLong", "loop.example/g00449/impl.errNotRight", "loop.example/g00449/impl.errNoNode", "loop.example/g00449/impl.errNoDir", "loop.example/g00449/impl.errNodesUnder", "loop.example/g00449/impl.errNoRoom"], ifaces := true, apart := false, laid := [("loop.example/g00449/impl.errTooLong", laid_loop_example_g00449_impl_errTooLong), ("loop.example/g00449/impl.errNotRight", laid_loop_example_g00449_impl_errNotRight), ("loop.example/g00449/impl.errNoNode", laid_loop_example_g00449_impl_errNoNode), ("loop.example/g00449/impl.errNoDir", laid_loop_example_g00449_impl_errNoDir), ("loop.example/g00449/impl.errNodesUnder", laid_loop_example_g00449_impl_errNodesUnder), ("loop.example/g00449/impl.errNoRoom", laid_loop_example_g00449_impl_errNoRoom)], narrowed := true }
def FnExactViewUptoSaid : Prop := fnExactViewUptoRow.holds Tryz.pinned (OpenSpec.upto fnExactViewSpec)

/-- 'laws.FnExactSight', WHERE WHAT IT READS IS OF BULK AT MOST 1048576: true; the input reads as it did. -/
def fnExactSightUptoRow : OpenClaim := { program := "yteddcihodfkliaagreatdoor", sum := "263a4e80d4d66db0e02d92a1b41105bb412ffac40a73372ac6edcce461bc6ff6", func := "loop.example/g00449/laws.FnExactSight", spec := "fnExactSight", inPlace := ["internal/reflectlite.TypeOf"], unfollowed := true, recurses := true, named := ["loop.example/g00449/impl.errTooLong", "loop.example/g00449/impl.errNotRight", "loop.example/g00449/impl.errNoNode", "loop.example/g00449/impl.errNoDir", "loop.example/g00449/impl.errNodesUnder", "loop.example/g00449/impl.errNoRoom"], ifaces := true, apart := false, laid := [("loop.example/g00449/impl.errTooLong", laid_loop_example_g00449_impl_errTooLong), ("loop.example/g00449/impl.errNotRight", laid_loop_example_g00449_impl_errNotRight), ("loop.example/g00449/impl.errNoNode", laid_loop_example_g00449_impl_errNoNode), ("loop.example/g00449/impl.errNoDir", laid_loop_example_g00449_impl_errNoDir), ("loop.example/g00449/impl.errNodesUnder", laid_loop_example_g00449_impl_errNodesUnder), ("loop.example/g00449/impl.errNoRoom", laid_loop_example_g00449_impl_errNoRoom)], narrowed := true }
def FnExactSightUptoSaid : Prop := fnExactSightUptoRow.holds Tryz.pinned (OpenSpec.upto fnExactSightSpec)

end Rows
end Go.Proofs.YteddcihodfkliaaGreatDoor
