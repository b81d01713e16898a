/-
  NARROWER THAN 'FOR EVERY INPUT', by the rows' own cells (each row's printed sentence says how): FnExactWhere: ifaces, laid · FnExactUnmount: ifaces, laid · FnExactDetach: ifaces, laid · FnExactClose: ifaces, laid.
  DERIVED. THE GIVEN ROWS OF THIS SEAT. 4 by the template 'for every input the law returns true; each argument reads behind the call as it read before'; 0 by the template 'total and deterministic' (their statements: YtonffldjbmednaaGreatDoorTotals.lean).
  GIVEN WITH THE SEED: the statements are not yours to turn. If you find one false, say at which input.
  Laid BY PROGRAM, IN A SANDBOX (cutbox-rows.mjs): the forced cells as the released guide's own fill.sh prints them over the translation 4608b39fa5bfc2ed… (all of the seat's roots in one cut). By AI agents, Wed Nov 11 2026. No macro, syntax, notation, axiom, sorry.
-/
import Derived.Test.YtonffldjbmednaaGreatDoorChecked
import GoSem.Claim
import GoSem.ClaimJoined
import GoSem.ClaimMapViews
import Derived.JoinedTies
import Derived.KernelRfl
namespace Go.Proofs.YtonffldjbmednaaGreatDoor
/- THE CELL 'sum', in the pinned program and in every row, IS THE sha256 OF THE DUMP (.gsa) THAT YtonffldjbmednaaGreatDoorProg.lean LOADS. Nothing in Lean hashes anything: it is a label: what it is worth is what the hold of that sum in a sandbox is worth. -/
noncomputable def Tryz.pinned : Pinned := { name := "ytonffldjbmednaagreatdoor", sum := "4608b39fa5bfc2ede1028e5bbf96c438679aed276eda69d0e38bbab60cf4e98a", checked := Tryz.checked }
namespace Rows
def none {H : Type} : Left H := { results := [], args := [] }

/- WHAT THE LISTED PACKAGE-LEVEL VARIABLES READ AS WHEN THE CALL BEGINS. Each datum BY PROGRAM (the guide's laid-datum.mjs) off the statement by which the dump's own 'gosem.cut.vars' lays the variable. In a bare row this is a premise. The card (YtonffldjbmednaaGreatDoorCards.lean) ties it to the program's text. -/
def laid_loop_example_g00449_impl_errTooLong {H : Type} : DataW H := .iface "*errors.errorString" (.ptr (.agg [.lit (.string [116, 114, 101, 101, 58, 32, 97, 32, 116, 101, 120, 116, 32, 111, 114, 32, 97, 32, 108, 105, 115, 116, 32, 105, 115, 32, 116, 111, 111, 32, 108, 111, 110, 103])]))
def laid_loop_example_g00449_impl_errNotRight {H : Type} : DataW H := .iface "*errors.errorString" (.ptr (.agg [.lit (.string [116, 114, 101, 101, 58, 32, 115, 111, 109, 101, 116, 104, 105, 110, 103, 32, 105, 115, 32, 110, 111, 116, 32, 114, 105, 103, 104, 116])]))
def laid_loop_example_g00449_impl_errNoNode {H : Type} : DataW H := .iface "*errors.errorString" (.ptr (.agg [.lit (.string [116, 114, 101, 101, 58, 32, 116, 104, 101, 114, 101, 32, 105, 115, 32, 110, 111, 32, 115, 117, 99, 104, 32, 110, 111, 100, 101])]))
def laid_loop_example_g00449_impl_errNoDir {H : Type} : DataW H := .iface "*errors.errorString" (.ptr (.agg [.lit (.string [116, 114, 101, 101, 58, 32, 116, 104, 101, 32, 112, 97, 114, 101, 110, 116, 32, 105, 115, 32, 110, 111, 32, 100, 105, 114, 101, 99, 116, 111, 114, 121])]))
def laid_loop_example_g00449_impl_reasonCodes {H : Type} : DataW H := .agg [.lit (.int .i64 0), .lit (.int .i64 2), .lit (.int .i64 1), .lit (.int .i64 7), .lit (.int .i64 6), .lit (.int .i64 12), .lit (.int .i64 11), .lit (.int .i64 13), .lit (.int .i64 9)]

/-- 'laws.FnExactWhere': WHATEVER THE INPUT: true; the input reads as it did. -/
def fnExactWhereSpec : ChangeSpec := { name := "fnExactWhere", vars := ["loop.example/g00449/impl.errTooLong", "loop.example/g00449/impl.errNotRight", "loop.example/g00449/impl.errNoNode", "loop.example/g00449/impl.errNoDir", "loop.example/g00449/impl.reasonCodes"], fn := fun _ => fun
  | [d1, d2, g1, g2, g3, g4, g5] => { results := [.lit (.bool true)], args := [d1, d2], vars := [g1, g2, g3, g4, g5] }
  | _ => none }
def fnExactWhereRow : OpenClaim := { program := "ytonffldjbmednaagreatdoor", sum := "4608b39fa5bfc2ede1028e5bbf96c438679aed276eda69d0e38bbab60cf4e98a", func := "loop.example/g00449/laws.FnExactWhere", spec := "fnExactWhere", unfollowed := true, recurses := true, named := ["loop.example/g00449/impl.errTooLong", "loop.example/g00449/impl.errNotRight", "loop.example/g00449/impl.errNoNode", "loop.example/g00449/impl.errNoDir", "loop.example/g00449/impl.reasonCodes"], ifaces := true, apart := false, laid := [("loop.example/g00449/impl.errTooLong", laid_loop_example_g00449_impl_errTooLong), ("loop.example/g00449/impl.errNotRight", laid_loop_example_g00449_impl_errNotRight), ("loop.example/g00449/impl.errNoNode", laid_loop_example_g00449_impl_errNoNode), ("loop.example/g00449/impl.errNoDir", laid_loop_example_g00449_impl_errNoDir), ("loop.example/g00449/impl.reasonCodes", laid_loop_example_g00449_impl_reasonCodes)] }
def FnExactWhereSaid : Prop := fnExactWhereRow.holds Tryz.pinned (OpenSpec.ofChange fnExactWhereSpec)

/-- ITS FALSE NEIGHBOUR: 'it returns false'. Refute it at one input. -/
def fnExactWhereWrong : ChangeSpec := { name := "fnExactWhere", vars := ["loop.example/g00449/impl.errTooLong", "loop.example/g00449/impl.errNotRight", "loop.example/g00449/impl.errNoNode", "loop.example/g00449/impl.errNoDir", "loop.example/g00449/impl.reasonCodes"], fn := fun _ => fun
  | [d1, d2, g1, g2, g3, g4, g5] => { results := [.lit (.bool false)], args := [d1, d2], vars := [g1, g2, g3, g4, g5] }
  | _ => none }
def FnExactWhereWrongFalsely : Prop := fnExactWhereRow.holds Tryz.pinned (OpenSpec.ofChange fnExactWhereWrong)

/-- 'laws.FnExactUnmount': WHATEVER THE INPUT: true; the input reads as it did. -/
def fnExactUnmountSpec : ChangeSpec := { name := "fnExactUnmount", vars := ["loop.example/g00449/impl.errTooLong", "loop.example/g00449/impl.errNotRight", "loop.example/g00449/impl.errNoNode", "loop.example/g00449/impl.errNoDir", "loop.example/g00449/impl.reasonCodes"], fn := fun _ => fun
  | [d1, d2, g1, g2, g3, g4, g5] => { results := [.lit (.bool true)], args := [d1, d2], vars := [g1, g2, g3, g4, g5] }
  | _ => none }
def fnExactUnmountRow : OpenClaim := { program := "ytonffldjbmednaagreatdoor", sum := "4608b39fa5bfc2ede1028e5bbf96c438679aed276eda69d0e38bbab60cf4e98a", func := "loop.example/g00449/laws.FnExactUnmount", spec := "fnExactUnmount", unfollowed := true, recurses := true, named := ["loop.example/g00449/impl.errTooLong", "loop.example/g00449/impl.errNotRight", "loop.example/g00449/impl.errNoNode", "loop.example/g00449/impl.errNoDir", "loop.example/g00449/impl.reasonCodes"], ifaces := true, apart := false, laid := [("loop.example/g00449/impl.errTooLong", laid_loop_example_g00449_impl_errTooLong), ("loop.example/g00449/impl.errNotRight", laid_loop_example_g00449_impl_errNotRight), ("loop.example/g00449/impl.errNoNode", laid_loop_example_g00449_impl_errNoNode), ("loop.example/g00449/impl.errNoDir", laid_loop_example_g00449_impl_errNoDir), ("loop.example/g00449/impl.reasonCodes", laid_loop_example_g00449_impl_reasonCodes)] }
def FnExactUnmountSaid : Prop := fnExactUnmountRow.holds Tryz.pinned (OpenSpec.ofChange fnExactUnmountSpec)

/-- ITS FALSE NEIGHBOUR: 'it returns false'. Refute it at one input. -/
def fnExactUnmountWrong : ChangeSpec := { name := "fnExactUnmount", vars := ["loop.example/g00449/impl.errTooLong", "loop.example/g00449/impl.errNotRight", "loop.example/g00449/impl.errNoNode", "loop.example/g00449/impl.errNoDir", "loop.example/g00449/impl.reasonCodes"], fn := fun _ => fun
  | [d1, d2, g1, g2, g3, g4, g5] => { results := [.lit (.bool false)], args := [d1, d2], vars := [g1, g2, g3, g4, g5] }
  | _ => none }
def FnExactUnmountWrongFalsely : Prop := fnExactUnmountRow.holds Tryz.pinned (OpenSpec.ofChange fnExactUnmountWrong)

/-- 'laws.FnExactDetach': WHATEVER THE INPUT: true; the input reads as it did. -/
def fnExactDetachSpec : ChangeSpec := { name := "fnExactDetach", vars := ["loop.example/g00449/impl.errTooLong", "loop.example/g00449/impl.errNotRight", "loop.example/g00449/impl.errNoNode", "loop.example/g00449/impl.errNoDir", "loop.example/g00449/impl.reasonCodes"], fn := fun _ => fun
  | [d1, d2, g1, g2, g3, g4, g5] => { results := [.lit (.bool true)], args := [d1, d2], vars := [g1, g2, g3, g4, g5] }
  | _ => none }
def fnExactDetachRow : OpenClaim := { program := "ytonffldjbmednaagreatdoor", sum := "4608b39fa5bfc2ede1028e5bbf96c438679aed276eda69d0e38bbab60cf4e98a", func := "loop.example/g00449/laws.FnExactDetach", spec := "fnExactDetach", unfollowed := true, recurses := true, named := ["loop.example/g00449/impl.errTooLong", "loop.example/g00449/impl.errNotRight", "loop.example/g00449/impl.errNoNode", "loop.example/g00449/impl.errNoDir", "loop.example/g00449/impl.reasonCodes"], ifaces := true, apart := false, laid := [("loop.example/g00449/impl.errTooLong", laid_loop_example_g00449_impl_errTooLong), ("loop.example/g00449/impl.errNotRight", laid_loop_example_g00449_impl_errNotRight), ("loop.example/g00449/impl.errNoNode", laid_loop_example_g00449_impl_errNoNode), ("loop.example/g00449/impl.errNoDir", laid_loop_example_g00449_impl_errNoDir), ("loop.example/g00449/impl.reasonCodes", laid_loop_example_g00449_impl_reasonCodes)] }
def FnExactDetachSaid : Prop := fnExactDetachRow.holds Tryz.pinned (OpenSpec.ofChange fnExactDetachSpec)

/-- ITS FALSE NEIGHBOUR: 'it returns false'. Refute it at one input. -/
def fnExactDetachWrong : ChangeSpec := { name := "fnExactDetach", vars := ["loop.example/g00449/impl.errTooLong", "loop.example/g00449/impl.errNotRight", "loop.example/g00449/impl.errNoNode", "loop.example/g00449/impl.errNoDir", "loop.example/g00449/impl.reasonCodes"], fn := fun _ => fun
  | [d1, d2, g1, g2, g3, g4, g5] => { results := [.lit (.bool false)], args := [d1, d2], vars := [g1, g2, g3, g4, g5] }
  | _ => none }
def FnExactDetachWrongFalsely : Prop := fnExactDetachRow.holds Tryz.pinned (OpenSpec.ofChange fnExactDetachWrong)

/-- 'laws.FnExactClose': WHATEVER THE INPUT: true; the input reads as it did. -/
def fnExactCloseSpec : ChangeSpec := { name := "fnExactClose", vars := ["loop.example/g00449/impl.errTooLong", "loop.example/g00449/impl.errNotRight", "loop.example/g00449/impl.errNoNode", "loop.example/g00449/impl.errNoDir", "loop.example/g00449/impl.reasonCodes"], fn := fun _ => fun
  | [d1, d2, g1, g2, g3, g4, g5] => { results := [.lit (.bool true)], args := [d1, d2], vars := [g1, g2, g3, g4, g5] }
  | _ => none }
def fnExactCloseRow : OpenClaim := { program := "ytonffldjbmednaagreatdoor", sum := "4608b39fa5bfc2ede1028e5bbf96c438679aed276eda69d0e38bbab60cf4e98a", func := "loop.example/g00449/laws.FnExactClose", spec := "fnExactClose", unfollowed := true, recurses := true, named := ["loop.example/g00449/impl.errTooLong", "loop.example/g00449/impl.errNotRight", "loop.example/g00449/impl.errNoNode", "loop.example/g00449/impl.errNoDir", "loop.example/g00449/impl.reasonCodes"], ifaces := true, apart := false, laid := [("loop.example/g00449/impl.errTooLong", laid_loop_example_g00449_impl_errTooLong), ("loop.example/g00449/impl.errNotRight", laid_loop_example_g00449_impl_errNotRight), ("loop.example/g00449/impl.errNoNode", laid_loop_example_g00449_impl_errNoNode), ("loop.example/g00449/impl.errNoDir", laid_loop_example_g00449_impl_errNoDir), ("loop.example/g00449/impl.reasonCodes", laid_loop_example_g00449_impl_reasonCodes)] }
def FnExactCloseSaid : Prop := fnExactCloseRow.holds Tryz.pinned (OpenSpec.ofChange fnExactCloseSpec)

/-- ITS FALSE NEIGHBOUR: 'it returns false'. Refute it at one input. -/
def fnExactCloseWrong : ChangeSpec := { name := "fnExactClose", vars := ["loop.example/g00449/impl.errTooLong", "loop.example/g00449/impl.errNotRight", "loop.example/g00449/impl.errNoNode", "loop.example/g00449/impl.errNoDir", "loop.example/g00449/impl.reasonCodes"], fn := fun _ => fun
  | [d1, d2, g1, g2, g3, g4, g5] => { results := [.lit (.bool false)], args := [d1, d2], vars := [g1, g2, g3, g4, g5] }
  | _ => none }
def FnExactCloseWrongFalsely : Prop := fnExactCloseRow.holds Tryz.pinned (OpenSpec.ofChange fnExactCloseWrong)

/- THE SECOND FORM. 'bulk': how many values and letters a reading holds, each counted each time it is reached (what is shared counts as often as it is met; a slice's spare places count too). A statement '..UptoSaid' is the law's where the arguments, and the package variables that the reading takes, are together of bulk at most 1048576: NARROWER than '..Said'. Prove '..Said' where nothing that the law and all that it calls make is longer than what came in: it says more and counts as full. Else prove '..UptoSaid'. A law counts once. -/
mutual
def uptoBulk {H : Type} : DataW H → Nat
  | .lit (.string bytes) => bytes.length + 1
  | .lit _ => 1
  | .nil => 1
  | .ptr d => uptoBulk d + 1
  | .slice elems spare => uptoBulkAll elems + uptoBulkAll spare + 1
  | .agg parts => uptoBulkAll parts + 1
  | .iface _ d => uptoBulk d + 1
  | .map entries => uptoBulkEntries entries + 1
  | .held _ => 1
def uptoBulkAll {H : Type} : List (DataW H) → Nat
  | [] => 0
  | d :: r => uptoBulk d + uptoBulkAll r
def uptoBulkEntries {H : Type} : List (Lit × DataW H) → Nat
  | [] => 0
  | x :: r => uptoBulkEntry x + uptoBulkEntries r
def uptoBulkEntry {H : Type} : Lit × DataW H → Nat
  | (.string bytes, d) => bytes.length + uptoBulk d + 1
  | (_, d) => uptoBulk d + 1
 end
def uptoSmall : (H : Type) → List (DataW H) → Bool := fun _ ds => decide (uptoBulkAll ds ≤ 1048576)
def OpenSpec.upto (s : _root_.Go.ChangeSpec) : _root_.Go.OpenSpec := { _root_.Go.OpenSpec.ofChange s with cond := some uptoSmall }

/-- 'laws.FnExactWhere', WHERE WHAT IT READS IS OF BULK AT MOST 1048576: true; the input reads as it did. -/
def fnExactWhereUptoRow : OpenClaim := { program := "ytonffldjbmednaagreatdoor", sum := "4608b39fa5bfc2ede1028e5bbf96c438679aed276eda69d0e38bbab60cf4e98a", func := "loop.example/g00449/laws.FnExactWhere", spec := "fnExactWhere", unfollowed := true, recurses := true, named := ["loop.example/g00449/impl.errTooLong", "loop.example/g00449/impl.errNotRight", "loop.example/g00449/impl.errNoNode", "loop.example/g00449/impl.errNoDir", "loop.example/g00449/impl.reasonCodes"], ifaces := true, apart := false, laid := [("loop.example/g00449/impl.errTooLong", laid_loop_example_g00449_impl_errTooLong), ("loop.example/g00449/impl.errNotRight", laid_loop_example_g00449_impl_errNotRight), ("loop.example/g00449/impl.errNoNode", laid_loop_example_g00449_impl_errNoNode), ("loop.example/g00449/impl.errNoDir", laid_loop_example_g00449_impl_errNoDir), ("loop.example/g00449/impl.reasonCodes", laid_loop_example_g00449_impl_reasonCodes)], narrowed := true }
def FnExactWhereUptoSaid : Prop := fnExactWhereUptoRow.holds Tryz.pinned (OpenSpec.upto fnExactWhereSpec)

/-- 'laws.FnExactUnmount', WHERE WHAT IT READS IS OF BULK AT MOST 1048576: true; the input reads as it did. -/
def fnExactUnmountUptoRow : OpenClaim := { program := "ytonffldjbmednaagreatdoor", sum := "4608b39fa5bfc2ede1028e5bbf96c438679aed276eda69d0e38bbab60cf4e98a", func := "loop.example/g00449/laws.FnExactUnmount", spec := "fnExactUnmount", unfollowed := true, recurses := true, named := ["loop.example/g00449/impl.errTooLong", "loop.example/g00449/impl.errNotRight", "loop.example/g00449/impl.errNoNode", "loop.example/g00449/impl.errNoDir", "loop.example/g00449/impl.reasonCodes"], ifaces := true, apart := false, laid := [("loop.example/g00449/impl.errTooLong", laid_loop_example_g00449_impl_errTooLong), ("loop.example/g00449/impl.errNotRight", laid_loop_example_g00449_impl_errNotRight), ("loop.example/g00449/impl.errNoNode", laid_loop_example_g00449_impl_errNoNode), ("loop.example/g00449/impl.errNoDir", laid_loop_example_g00449_impl_errNoDir), ("loop.example/g00449/impl.reasonCodes", laid_loop_example_g00449_impl_reasonCodes)], narrowed := true }
def FnExactUnmountUptoSaid : Prop := fnExactUnmountUptoRow.holds Tryz.pinned (OpenSpec.upto fnExactUnmountSpec)

/-- 'laws.FnExactDetach', WHERE WHAT IT READS IS OF BULK AT MOST 1048576: true; the input reads as it did. -/
def fnExactDetachUptoRow : OpenClaim := { program := "ytonffldjbmednaagreatdoor", sum := "4608b39fa5bfc2ede1028e5bbf96c438679aed276eda69d0e38bbab60cf4e98a", func := "loop.example/g00449/laws.FnExactDetach", spec := "fnExactDetach", unfollowed := true, recurses := true, named := ["loop.example/g00449/impl.errTooLong", "loop.example/g00449/impl.errNotRight", "loop.example/g00449/impl.errNoNode", "loop.example/g00449/impl.errNoDir", "loop.example/g00449/impl.reasonCodes"], ifaces := true, apart := false, laid := [("loop.example/g00449/impl.errTooLong", laid_loop_example_g00449_impl_errTooLong), ("loop.example/g00449/impl.errNotRight", laid_loop_example_g00449_impl_errNotRight), ("loop.example/g00449/impl.errNoNode", laid_loop_example_g00449_impl_errNoNode), ("loop.example/g00449/impl.errNoDir", laid_loop_example_g00449_impl_errNoDir), ("loop.example/g00449/impl.reasonCodes", laid_loop_example_g00449_impl_reasonCodes)], narrowed := true }
def FnExactDetachUptoSaid : Prop := fnExactDetachUptoRow.holds Tryz.pinned (OpenSpec.upto fnExactDetachSpec)

/-- 'laws.FnExactClose', WHERE WHAT IT READS IS OF BULK AT MOST 1048576: true; the input reads as it did. -/
def fnExactCloseUptoRow : OpenClaim := { program := "ytonffldjbmednaagreatdoor", sum := "4608b39fa5bfc2ede1028e5bbf96c438679aed276eda69d0e38bbab60cf4e98a", func := "loop.example/g00449/laws.FnExactClose", spec := "fnExactClose", unfollowed := true, recurses := true, named := ["loop.example/g00449/impl.errTooLong", "loop.example/g00449/impl.errNotRight", "loop.example/g00449/impl.errNoNode", "loop.example/g00449/impl.errNoDir", "loop.example/g00449/impl.reasonCodes"], ifaces := true, apart := false, laid := [("loop.example/g00449/impl.errTooLong", laid_loop_example_g00449_impl_errTooLong), ("loop.example/g00449/impl.errNotRight", laid_loop_example_g00449_impl_errNotRight), ("loop.example/g00449/impl.errNoNode", laid_loop_example_g00449_impl_errNoNode), ("loop.example/g00449/impl.errNoDir", laid_loop_example_g00449_impl_errNoDir), ("loop.example/g00449/impl.reasonCodes", laid_loop_example_g00449_impl_reasonCodes)], narrowed := true }
def FnExactCloseUptoSaid : Prop := fnExactCloseUptoRow.holds Tryz.pinned (OpenSpec.upto fnExactCloseSpec)

end Rows
end Go.Proofs.YtonffldjbmednaaGreatDoor
