/-
  NARROWER THAN 'FOR EVERY INPUT', by the rows' own cells (each row's printed sentence says how): FnExactTreeNames: ifaces, laid · FnExactTreePut: ifaces, laid · FnExactTreeCut: ifaces, laid · FnExactPlainOf: ifaces, laid · FnExactPlainRemove: ifaces, laid · FnExactPlainTouch: ifaces, laid.
  DERIVED. THE GIVEN ROWS OF THIS SEAT. 6 by the template 'for every input the law returns true; each argument reads behind the call as it read before'; 0 by the template 'total and deterministic' (their statements: YtnmdmhokdcmhcaaDoorTotals.lean).
  GIVEN WITH THE SEED: the statements are not yours to turn. If you find one false, say at which input.
  Laid BY PROGRAM, IN A SANDBOX (cutbox-rows.mjs): the forced cells as the released guide's own fill.sh prints them over the translation 65c4ac18379c3633… (all of the seat's roots in one cut). By AI agents, Wed Nov 11 2026. No macro, syntax, notation, axiom, sorry.
-/
import Derived.Test.YtnmdmhokdcmhcaaDoorChecked
import GoSem.Claim
import GoSem.ClaimJoined
import GoSem.ClaimMapViews
import Derived.JoinedTies
import Derived.KernelRfl
namespace Go.Proofs.YtnmdmhokdcmhcaaDoor
/- THE CELL 'sum', in the pinned program and in every row, IS THE sha256 OF THE DUMP (.gsa) THAT YtnmdmhokdcmhcaaDoorProg.lean LOADS. Nothing in Lean hashes anything: it is a label: what it is worth is what the hold of that sum in a sandbox is worth. -/
noncomputable def Tryd.pinned : Pinned := { name := "ytnmdmhokdcmhcaadoor", sum := "65c4ac18379c3633f859a1c63b7fdb5946f41b6cfcc635746b3a7f4490852edd", checked := Tryd.checked }
namespace Rows
def none {H : Type} : Left H := { results := [], args := [] }

/- WHAT THE LISTED PACKAGE-LEVEL VARIABLES READ AS WHEN THE CALL BEGINS. Each datum BY PROGRAM (the guide's laid-datum.mjs) off the statement by which the dump's own 'gosem.cut.vars' lays the variable. In a bare row this is a premise. The card (YtnmdmhokdcmhcaaDoorCards.lean) ties it to the program's text. -/
def laid_loop_example_g00449_impl_errNotRight {H : Type} : DataW H := .iface "*errors.errorString" (.ptr (.agg [.lit (.string [116, 114, 101, 101, 58, 32, 115, 111, 109, 101, 116, 104, 105, 110, 103, 32, 105, 115, 32, 110, 111, 116, 32, 114, 105, 103, 104, 116])]))
def laid_loop_example_g00449_impl_errNoNode {H : Type} : DataW H := .iface "*errors.errorString" (.ptr (.agg [.lit (.string [116, 114, 101, 101, 58, 32, 116, 104, 101, 114, 101, 32, 105, 115, 32, 110, 111, 32, 115, 117, 99, 104, 32, 110, 111, 100, 101])]))
def laid_loop_example_g00449_impl_errNoDir {H : Type} : DataW H := .iface "*errors.errorString" (.ptr (.agg [.lit (.string [116, 114, 101, 101, 58, 32, 116, 104, 101, 32, 112, 97, 114, 101, 110, 116, 32, 105, 115, 32, 110, 111, 32, 100, 105, 114, 101, 99, 116, 111, 114, 121])]))
def laid_loop_example_g00449_impl_errTooLong {H : Type} : DataW H := .iface "*errors.errorString" (.ptr (.agg [.lit (.string [116, 114, 101, 101, 58, 32, 97, 32, 116, 101, 120, 116, 32, 111, 114, 32, 97, 32, 108, 105, 115, 116, 32, 105, 115, 32, 116, 111, 111, 32, 108, 111, 110, 103])]))
def laid_loop_example_g00449_impl_errNodesUnder {H : Type} : DataW H := .iface "*errors.errorString" (.ptr (.agg [.lit (.string [116, 114, 101, 101, 58, 32, 116, 104, 101, 114, 101, 32, 97, 114, 101, 32, 110, 111, 100, 101, 115, 32, 117, 110, 100, 101, 114, 32, 105, 116])]))
def laid_loop_example_g00449_impl_errNoRoom {H : Type} : DataW H := .iface "*errors.errorString" (.ptr (.agg [.lit (.string [116, 114, 101, 101, 58, 32, 116, 104, 101, 114, 101, 32, 105, 115, 32, 110, 111, 32, 114, 111, 111, 109, 32, 102, 111, 114, 32, 111, 110, 101, 32, 109, 111, 114, 101])]))

/-- 'laws.FnExactTreeNames': WHATEVER THE INPUT: true; the input reads as it did. -/
def fnExactTreeNamesSpec : ChangeSpec := { name := "fnExactTreeNames", vars := ["loop.example/g00449/impl.errNotRight", "loop.example/g00449/impl.errNoNode", "loop.example/g00449/impl.errNoDir"], fn := fun _ => fun
  | [d1, d2, g1, g2, g3] => { results := [.lit (.bool true)], args := [d1, d2], vars := [g1, g2, g3] }
  | _ => none }
def fnExactTreeNamesRow : OpenClaim := { program := "ytnmdmhokdcmhcaadoor", sum := "65c4ac18379c3633f859a1c63b7fdb5946f41b6cfcc635746b3a7f4490852edd", func := "loop.example/g00449/laws.FnExactTreeNames", spec := "fnExactTreeNames", unfollowed := true, recurses := true, named := ["loop.example/g00449/impl.errNotRight", "loop.example/g00449/impl.errNoNode", "loop.example/g00449/impl.errNoDir"], ifaces := true, apart := false, laid := [("loop.example/g00449/impl.errNotRight", laid_loop_example_g00449_impl_errNotRight), ("loop.example/g00449/impl.errNoNode", laid_loop_example_g00449_impl_errNoNode), ("loop.example/g00449/impl.errNoDir", laid_loop_example_g00449_impl_errNoDir)] }
def FnExactTreeNamesSaid : Prop := fnExactTreeNamesRow.holds Tryd.pinned (OpenSpec.ofChange fnExactTreeNamesSpec)

/-- ITS FALSE NEIGHBOUR: 'it returns false'. Refute it at one input. -/
def fnExactTreeNamesWrong : ChangeSpec := { name := "fnExactTreeNames", vars := ["loop.example/g00449/impl.errNotRight", "loop.example/g00449/impl.errNoNode", "loop.example/g00449/impl.errNoDir"], fn := fun _ => fun
  | [d1, d2, g1, g2, g3] => { results := [.lit (.bool false)], args := [d1, d2], vars := [g1, g2, g3] }
  | _ => none }
def FnExactTreeNamesWrongFalsely : Prop := fnExactTreeNamesRow.holds Tryd.pinned (OpenSpec.ofChange fnExactTreeNamesWrong)

/-- 'laws.FnExactTreePut': WHATEVER THE INPUT: true; the input reads as it did. -/
def fnExactTreePutSpec : ChangeSpec := { name := "fnExactTreePut", vars := ["loop.example/g00449/impl.errNotRight", "loop.example/g00449/impl.errNoNode", "loop.example/g00449/impl.errNoDir", "loop.example/g00449/impl.errNodesUnder", "loop.example/g00449/impl.errNoRoom", "loop.example/g00449/impl.errTooLong"], fn := fun _ => fun
  | [d1, d2, g1, g2, g3, g4, g5, g6] => { results := [.lit (.bool true)], args := [d1, d2], vars := [g1, g2, g3, g4, g5, g6] }
  | _ => none }
def fnExactTreePutRow : OpenClaim := { program := "ytnmdmhokdcmhcaadoor", sum := "65c4ac18379c3633f859a1c63b7fdb5946f41b6cfcc635746b3a7f4490852edd", func := "loop.example/g00449/laws.FnExactTreePut", spec := "fnExactTreePut", inPlace := ["internal/reflectlite.TypeOf"], unfollowed := true, recurses := true, named := ["loop.example/g00449/impl.errNotRight", "loop.example/g00449/impl.errNoNode", "loop.example/g00449/impl.errNoDir", "loop.example/g00449/impl.errNodesUnder", "loop.example/g00449/impl.errNoRoom", "loop.example/g00449/impl.errTooLong"], ifaces := true, apart := false, laid := [("loop.example/g00449/impl.errTooLong", laid_loop_example_g00449_impl_errTooLong), ("loop.example/g00449/impl.errNotRight", laid_loop_example_g00449_impl_errNotRight), ("loop.example/g00449/impl.errNoNode", laid_loop_example_g00449_impl_errNoNode), ("loop.example/g00449/impl.errNoDir", laid_loop_example_g00449_impl_errNoDir), ("loop.example/g00449/impl.errNodesUnder", laid_loop_example_g00449_impl_errNodesUnder), ("loop.example/g00449/impl.errNoRoom", laid_loop_example_g00449_impl_errNoRoom)] }
def FnExactTreePutSaid : Prop := fnExactTreePutRow.holds Tryd.pinned (OpenSpec.ofChange fnExactTreePutSpec)

/-- ITS FALSE NEIGHBOUR: 'it returns false'. Refute it at one input. -/
def fnExactTreePutWrong : ChangeSpec := { name := "fnExactTreePut", vars := ["loop.example/g00449/impl.errNotRight", "loop.example/g00449/impl.errNoNode", "loop.example/g00449/impl.errNoDir", "loop.example/g00449/impl.errNodesUnder", "loop.example/g00449/impl.errNoRoom", "loop.example/g00449/impl.errTooLong"], fn := fun _ => fun
  | [d1, d2, g1, g2, g3, g4, g5, g6] => { results := [.lit (.bool false)], args := [d1, d2], vars := [g1, g2, g3, g4, g5, g6] }
  | _ => none }
def FnExactTreePutWrongFalsely : Prop := fnExactTreePutRow.holds Tryd.pinned (OpenSpec.ofChange fnExactTreePutWrong)

/-- 'laws.FnExactTreeCut': WHATEVER THE INPUT: true; the input reads as it did. -/
def fnExactTreeCutSpec : ChangeSpec := { name := "fnExactTreeCut", vars := ["loop.example/g00449/impl.errTooLong", "loop.example/g00449/impl.errNotRight", "loop.example/g00449/impl.errNoNode", "loop.example/g00449/impl.errNoDir", "loop.example/g00449/impl.errNodesUnder", "loop.example/g00449/impl.errNoRoom"], fn := fun _ => fun
  | [d1, d2, g1, g2, g3, g4, g5, g6] => { results := [.lit (.bool true)], args := [d1, d2], vars := [g1, g2, g3, g4, g5, g6] }
  | _ => none }
def fnExactTreeCutRow : OpenClaim := { program := "ytnmdmhokdcmhcaadoor", sum := "65c4ac18379c3633f859a1c63b7fdb5946f41b6cfcc635746b3a7f4490852edd", func := "loop.example/g00449/laws.FnExactTreeCut", spec := "fnExactTreeCut", inPlace := ["internal/reflectlite.TypeOf"], unfollowed := true, recurses := true, named := ["loop.example/g00449/impl.errTooLong", "loop.example/g00449/impl.errNotRight", "loop.example/g00449/impl.errNoNode", "loop.example/g00449/impl.errNoDir", "loop.example/g00449/impl.errNodesUnder", "loop.example/g00449/impl.errNoRoom"], ifaces := true, apart := false, laid := [("loop.example/g00449/impl.errTooLong", laid_loop_example_g00449_impl_errTooLong), ("loop.example/g00449/impl.errNotRight", laid_loop_example_g00449_impl_errNotRight), ("loop.example/g00449/impl.errNoNode", laid_loop_example_g00449_impl_errNoNode), ("loop.example/g00449/impl.errNoDir", laid_loop_example_g00449_impl_errNoDir), ("loop.example/g00449/impl.errNodesUnder", laid_loop_example_g00449_impl_errNodesUnder), ("loop.example/g00449/impl.errNoRoom", laid_loop_example_g00449_impl_errNoRoom)] }
def FnExactTreeCutSaid : Prop := fnExactTreeCutRow.holds Tryd.pinned (OpenSpec.ofChange fnExactTreeCutSpec)

/-- ITS FALSE NEIGHBOUR: 'it returns false'. Refute it at one input. -/
def fnExactTreeCutWrong : ChangeSpec := { name := "fnExactTreeCut", vars := ["loop.example/g00449/impl.errTooLong", "loop.example/g00449/impl.errNotRight", "loop.example/g00449/impl.errNoNode", "loop.example/g00449/impl.errNoDir", "loop.example/g00449/impl.errNodesUnder", "loop.example/g00449/impl.errNoRoom"], fn := fun _ => fun
  | [d1, d2, g1, g2, g3, g4, g5, g6] => { results := [.lit (.bool false)], args := [d1, d2], vars := [g1, g2, g3, g4, g5, g6] }
  | _ => none }
def FnExactTreeCutWrongFalsely : Prop := fnExactTreeCutRow.holds Tryd.pinned (OpenSpec.ofChange fnExactTreeCutWrong)

/-- 'laws.FnExactPlainOf': WHATEVER THE INPUT: true; the input reads as it did. -/
def fnExactPlainOfSpec : ChangeSpec := { name := "fnExactPlainOf", vars := ["loop.example/g00449/impl.errNotRight", "loop.example/g00449/impl.errNoNode", "loop.example/g00449/impl.errNoDir"], fn := fun _ => fun
  | [d, g1, g2, g3] => { results := [.lit (.bool true)], args := [d], vars := [g1, g2, g3] }
  | _ => none }
def fnExactPlainOfRow : OpenClaim := { program := "ytnmdmhokdcmhcaadoor", sum := "65c4ac18379c3633f859a1c63b7fdb5946f41b6cfcc635746b3a7f4490852edd", func := "loop.example/g00449/laws.FnExactPlainOf", spec := "fnExactPlainOf", unfollowed := true, recurses := true, named := ["loop.example/g00449/impl.errNotRight", "loop.example/g00449/impl.errNoNode", "loop.example/g00449/impl.errNoDir"], ifaces := true, apart := false, laid := [("loop.example/g00449/impl.errNotRight", laid_loop_example_g00449_impl_errNotRight), ("loop.example/g00449/impl.errNoNode", laid_loop_example_g00449_impl_errNoNode), ("loop.example/g00449/impl.errNoDir", laid_loop_example_g00449_impl_errNoDir)] }
def FnExactPlainOfSaid : Prop := fnExactPlainOfRow.holds Tryd.pinned (OpenSpec.ofChange fnExactPlainOfSpec)

/-- ITS FALSE NEIGHBOUR: 'it returns false'. Refute it at one input. -/
def fnExactPlainOfWrong : ChangeSpec := { name := "fnExactPlainOf", vars := ["loop.example/g00449/impl.errNotRight", "loop.example/g00449/impl.errNoNode", "loop.example/g00449/impl.errNoDir"], fn := fun _ => fun
  | [d, g1, g2, g3] => { results := [.lit (.bool false)], args := [d], vars := [g1, g2, g3] }
  | _ => none }
def FnExactPlainOfWrongFalsely : Prop := fnExactPlainOfRow.holds Tryd.pinned (OpenSpec.ofChange fnExactPlainOfWrong)

/-- 'laws.FnExactPlainRemove': WHATEVER THE INPUT: true; the input reads as it did. -/
def fnExactPlainRemoveSpec : ChangeSpec := { name := "fnExactPlainRemove", vars := ["loop.example/g00449/impl.errNotRight", "loop.example/g00449/impl.errNoNode", "loop.example/g00449/impl.errNoDir"], fn := fun _ => fun
  | [d1, d2, g1, g2, g3] => { results := [.lit (.bool true)], args := [d1, d2], vars := [g1, g2, g3] }
  | _ => none }
def fnExactPlainRemoveRow : OpenClaim := { program := "ytnmdmhokdcmhcaadoor", sum := "65c4ac18379c3633f859a1c63b7fdb5946f41b6cfcc635746b3a7f4490852edd", func := "loop.example/g00449/laws.FnExactPlainRemove", spec := "fnExactPlainRemove", unfollowed := true, recurses := true, named := ["loop.example/g00449/impl.errNotRight", "loop.example/g00449/impl.errNoNode", "loop.example/g00449/impl.errNoDir"], ifaces := true, apart := false, laid := [("loop.example/g00449/impl.errNotRight", laid_loop_example_g00449_impl_errNotRight), ("loop.example/g00449/impl.errNoNode", laid_loop_example_g00449_impl_errNoNode), ("loop.example/g00449/impl.errNoDir", laid_loop_example_g00449_impl_errNoDir)] }
def FnExactPlainRemoveSaid : Prop := fnExactPlainRemoveRow.holds Tryd.pinned (OpenSpec.ofChange fnExactPlainRemoveSpec)

/-- ITS FALSE NEIGHBOUR: 'it returns false'. Refute it at one input. -/
def fnExactPlainRemoveWrong : ChangeSpec := { name := "fnExactPlainRemove", vars := ["loop.example/g00449/impl.errNotRight", "loop.example/g00449/impl.errNoNode", "loop.example/g00449/impl.errNoDir"], fn := fun _ => fun
  | [d1, d2, g1, g2, g3] => { results := [.lit (.bool false)], args := [d1, d2], vars := [g1, g2, g3] }
  | _ => none }
def FnExactPlainRemoveWrongFalsely : Prop := fnExactPlainRemoveRow.holds Tryd.pinned (OpenSpec.ofChange fnExactPlainRemoveWrong)

/-- 'laws.FnExactPlainTouch': WHATEVER THE INPUT: true; the input reads as it did. -/
def fnExactPlainTouchSpec : ChangeSpec := { name := "fnExactPlainTouch", vars := ["loop.example/g00449/impl.errNotRight", "loop.example/g00449/impl.errNoNode", "loop.example/g00449/impl.errNoDir"], fn := fun _ => fun
  | [d1, d2, d3, g1, g2, g3] => { results := [.lit (.bool true)], args := [d1, d2, d3], vars := [g1, g2, g3] }
  | _ => none }
def fnExactPlainTouchRow : OpenClaim := { program := "ytnmdmhokdcmhcaadoor", sum := "65c4ac18379c3633f859a1c63b7fdb5946f41b6cfcc635746b3a7f4490852edd", func := "loop.example/g00449/laws.FnExactPlainTouch", spec := "fnExactPlainTouch", unfollowed := true, recurses := true, named := ["loop.example/g00449/impl.errNotRight", "loop.example/g00449/impl.errNoNode", "loop.example/g00449/impl.errNoDir"], ifaces := true, apart := false, laid := [("loop.example/g00449/impl.errNotRight", laid_loop_example_g00449_impl_errNotRight), ("loop.example/g00449/impl.errNoNode", laid_loop_example_g00449_impl_errNoNode), ("loop.example/g00449/impl.errNoDir", laid_loop_example_g00449_impl_errNoDir)] }
def FnExactPlainTouchSaid : Prop := fnExactPlainTouchRow.holds Tryd.pinned (OpenSpec.ofChange fnExactPlainTouchSpec)

/-- ITS FALSE NEIGHBOUR: 'it returns false'. Refute it at one input. -/
def fnExactPlainTouchWrong : ChangeSpec := { name := "fnExactPlainTouch", vars := ["loop.example/g00449/impl.errNotRight", "loop.example/g00449/impl.errNoNode", "loop.example/g00449/impl.errNoDir"], fn := fun _ => fun
  | [d1, d2, d3, g1, g2, g3] => { results := [.lit (.bool false)], args := [d1, d2, d3], vars := [g1, g2, g3] }
  | _ => none }
def FnExactPlainTouchWrongFalsely : Prop := fnExactPlainTouchRow.holds Tryd.pinned (OpenSpec.ofChange fnExactPlainTouchWrong)

/- THE SECOND FORM. 'bulk': how many values and letters a reading holds, each counted each time it is reached (what is shared counts as often as it is met; a slice's spare places count too). A statement '..UptoSaid' is the law's where the arguments, and the package variables that the reading takes, are together of bulk at most 1048576: NARROWER than '..Said'. Prove '..Said' where nothing that the law and all that it calls make is longer than what came in: it says more and counts as full. Else prove '..UptoSaid'. A law counts once. -/
mutual
def uptoBulk {H : Type} : DataW H → Nat
  | .lit (.string bytes) => bytes.length + 1
  | .lit _ => 1
  | .nil => 1
  | .ptr d => uptoBulk d + 1
  | .slice elems spare => uptoBulkAll elems + uptoBulkAll spare + 1
  | .agg parts => uptoBulkAll parts + 1
  | .iface _ d => uptoBulk d + 1
  | .map entries => uptoBulkEntries entries + 1
  | .held _ => 1
def uptoBulkAll {H : Type} : List (DataW H) → Nat
  | [] => 0
  | d :: r => uptoBulk d + uptoBulkAll r
def uptoBulkEntries {H : Type} : List (Lit × DataW H) → Nat
  | [] => 0
  | x :: r => uptoBulkEntry x + uptoBulkEntries r
def uptoBulkEntry {H : Type} : Lit × DataW H → Nat
  | (.string bytes, d) => bytes.length + uptoBulk d + 1
  | (_, d) => uptoBulk d + 1
 end
def uptoSmall : (H : Type) → List (DataW H) → Bool := fun _ ds => decide (uptoBulkAll ds ≤ 1048576)
def OpenSpec.upto (s : _root_.Go.ChangeSpec) : _root_.Go.OpenSpec := { _root_.Go.OpenSpec.ofChange s with cond := some uptoSmall }

/-- 'laws.FnExactTreeNames', WHERE WHAT IT READS IS OF BULK AT MOST 1048576: true; the input reads as it did. -/
def fnExactTreeNamesUptoRow : OpenClaim := { program := "ytnmdmhokdcmhcaadoor", sum := "65c4ac18379c3633f859a1c63b7fdb5946f41b6cfcc635746b3a7f4490852edd", func := "loop.example/g00449/laws.FnExactTreeNames", spec := "fnExactTreeNames", unfollowed := true, recurses := true, named := ["loop.example/g00449/impl.errNotRight", "loop.example/g00449/impl.errNoNode", "loop.example/g00449/impl.errNoDir"], ifaces := true, apart := false, laid := [("loop.example/g00449/impl.errNotRight", laid_loop_example_g00449_impl_errNotRight), ("loop.example/g00449/impl.errNoNode", laid_loop_example_g00449_impl_errNoNode), ("loop.example/g00449/impl.errNoDir", laid_loop_example_g00449_impl_errNoDir)], narrowed := true }
def FnExactTreeNamesUptoSaid : Prop := fnExactTreeNamesUptoRow.holds Tryd.pinned (OpenSpec.upto fnExactTreeNamesSpec)

/-- 'laws.FnExactTreePut', WHERE WHAT IT READS IS OF BULK AT MOST 1048576: true; the input reads as it did. -/
def fnExactTreePutUptoRow : OpenClaim := { program := "ytnmdmhokdcmhcaadoor", sum := "65c4ac18379c3633f859a1c63b7fdb5946f41b6cfcc635746b3a7f4490852edd", func := "loop.example/g00449/laws.FnExactTreePut", spec := "fnExactTreePut", inPlace := ["internal/reflectlite.TypeOf"], unfollowed := true, recurses := true, named := ["loop.example/g00449/impl.errNotRight", "loop.example/g00449/impl.errNoNode", "loop.example/g00449/impl.errNoDir", "loop.example/g00449/impl.errNodesUnder", "loop.example/g00449/impl.errNoRoom", "loop.example/g00449/impl.errTooLong"], ifaces := true, apart := false, laid := [("loop.example/g00449/impl.errTooLong", laid_loop_example_g00449_impl_errTooLong), ("loop.example/g00449/impl.errNotRight", laid_loop_example_g00449_impl_errNotRight), ("loop.example/g00449/impl.errNoNode", laid_loop_example_g00449_impl_errNoNode), ("loop.example/g00449/impl.errNoDir", laid_loop_example_g00449_impl_errNoDir), ("loop.example/g00449/impl.errNodesUnder", laid_loop_example_g00449_impl_errNodesUnder), ("loop.example/g00449/impl.errNoRoom", laid_loop_example_g00449_impl_errNoRoom)], narrowed := true }
def FnExactTreePutUptoSaid : Prop := fnExactTreePutUptoRow.holds Tryd.pinned (OpenSpec.upto fnExactTreePutSpec)

/-- 'laws.FnExactTreeCut', WHERE WHAT IT READS IS OF BULK AT MOST 1048576: true; the input reads as it did. -/
def fnExactTreeCutUptoRow : OpenClaim := { program := "ytnmdmhokdcmhcaadoor", sum := "65c4ac18379c3633f859a1c63b7fdb5946f41b6cfcc635746b3a7f4490852edd", func := "loop.example/g00449/laws.FnExactTreeCut", spec := "fnExactTreeCut", inPlace := ["internal/reflectlite.TypeOf"], unfollowed := true, recurses := true, named := ["loop.example/g00449/impl.errTooLong", "loop.example/g00449/impl.errNotRight", "loop.example/g00449/impl.errNoNode", "loop.example/g00449/impl.errNoDir", "loop.example/g00449/impl.errNodesUnder", "loop.example/g00449/impl.errNoRoom"], ifaces := true, apart := false, laid := [("loop.example/g00449/impl.errTooLong", laid_loop_example_g00449_impl_errTooLong), ("loop.example/g00449/impl.errNotRight", laid_loop_example_g00449_impl_errNotRight), ("loop.example/g00449/impl.errNoNode", laid_loop_example_g00449_impl_errNoNode), ("loop.example/g00449/impl.errNoDir", laid_loop_example_g00449_impl_errNoDir), ("loop.example/g00449/impl.errNodesUnder", laid_loop_example_g00449_impl_errNodesUnder), ("loop.example/g00449/impl.errNoRoom", laid_loop_example_g00449_impl_errNoRoom)], narrowed := true }
def FnExactTreeCutUptoSaid : Prop := fnExactTreeCutUptoRow.holds Tryd.pinned (OpenSpec.upto fnExactTreeCutSpec)

/-- 'laws.FnExactPlainOf', WHERE WHAT IT READS IS OF BULK AT MOST 1048576: true; the input reads as it did. -/
def fnExactPlainOfUptoRow : OpenClaim := { program := "ytnmdmhokdcmhcaadoor", sum := "65c4ac18379c3633f859a1c63b7fdb5946f41b6cfcc635746b3a7f4490852edd", func := "loop.example/g00449/laws.FnExactPlainOf", spec := "fnExactPlainOf", unfollowed := true, recurses := true, named := ["loop.example/g00449/impl.errNotRight", "loop.example/g00449/impl.errNoNode", "loop.example/g00449/impl.errNoDir"], ifaces := true, apart := false, laid := [("loop.example/g00449/impl.errNotRight", laid_loop_example_g00449_impl_errNotRight), ("loop.example/g00449/impl.errNoNode", laid_loop_example_g00449_impl_errNoNode), ("loop.example/g00449/impl.errNoDir", laid_loop_example_g00449_impl_errNoDir)], narrowed := true }
def FnExactPlainOfUptoSaid : Prop := fnExactPlainOfUptoRow.holds Tryd.pinned (OpenSpec.upto fnExactPlainOfSpec)

/-- 'laws.FnExactPlainRemove', WHERE WHAT IT READS IS OF BULK AT MOST 1048576: true; the input reads as it did. -/
def fnExactPlainRemoveUptoRow : OpenClaim := { program := "ytnmdmhokdcmhcaadoor", sum := "65c4ac18379c3633f859a1c63b7fdb5946f41b6cfcc635746b3a7f4490852edd", func := "loop.example/g00449/laws.FnExactPlainRemove", spec := "fnExactPlainRemove", unfollowed := true, recurses := true, named := ["loop.example/g00449/impl.errNotRight", "loop.example/g00449/impl.errNoNode", "loop.example/g00449/impl.errNoDir"], ifaces := true, apart := false, laid := [("loop.example/g00449/impl.errNotRight", laid_loop_example_g00449_impl_errNotRight), ("loop.example/g00449/impl.errNoNode", laid_loop_example_g00449_impl_errNoNode), ("loop.example/g00449/impl.errNoDir", laid_loop_example_g00449_impl_errNoDir)], narrowed := true }
def FnExactPlainRemoveUptoSaid : Prop := fnExactPlainRemoveUptoRow.holds Tryd.pinned (OpenSpec.upto fnExactPlainRemoveSpec)

/-- 'laws.FnExactPlainTouch', WHERE WHAT IT READS IS OF BULK AT MOST 1048576: true; the input reads as it did. -/
def fnExactPlainTouchUptoRow : OpenClaim := { program := "ytnmdmhokdcmhcaadoor", sum := "65c4ac18379c3633f859a1c63b7fdb5946f41b6cfcc635746b3a7f4490852edd", func := "loop.example/g00449/laws.FnExactPlainTouch", spec := "fnExactPlainTouch", unfollowed := true, recurses := true, named := ["loop.example/g00449/impl.errNotRight", "loop.example/g00449/impl.errNoNode", "loop.example/g00449/impl.errNoDir"], ifaces := true, apart := false, laid := [("loop.example/g00449/impl.errNotRight", laid_loop_example_g00449_impl_errNotRight), ("loop.example/g00449/impl.errNoNode", laid_loop_example_g00449_impl_errNoNode), ("loop.example/g00449/impl.errNoDir", laid_loop_example_g00449_impl_errNoDir)], narrowed := true }
def FnExactPlainTouchUptoSaid : Prop := fnExactPlainTouchUptoRow.holds Tryd.pinned (OpenSpec.upto fnExactPlainTouchSpec)

end Rows
end Go.Proofs.YtnmdmhokdcmhcaaDoor
