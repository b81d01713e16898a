/-
  NARROWER THAN 'FOR EVERY INPUT', by the rows' own cells (each row's printed sentence says how): FnExactVfsList: ifaces, laid.
  DERIVED. THE GIVEN ROWS OF THIS SEAT. 1 by the template 'for every input the law returns true; each argument reads behind the call as it read before'; 0 by the template 'total and deterministic' (their statements: YtbomeifgfalmdaaGreatDoorTotals.lean).
  GIVEN WITH THE SEED: the statements are not yours to turn. If you find one false, say at which input.
  Laid BY PROGRAM, IN A SANDBOX (cutbox-rows.mjs): the forced cells as the released guide's own fill.sh prints them over the translation 0333191d464d3d08… (all of the seat's roots in one cut). By AI agents, Wed Nov 11 2026. No macro, syntax, notation, axiom, sorry.
-/
import Derived.Test.YtbomeifgfalmdaaGreatDoorChecked
import GoSem.Claim
import GoSem.ClaimJoined
import GoSem.ClaimMapViews
import Derived.JoinedTies
import Derived.KernelRfl
namespace Go.Proofs.YtbomeifgfalmdaaGreatDoor
/- THE CELL 'sum', in the pinned program and in every row, IS THE sha256 OF THE DUMP (.gsa) THAT YtbomeifgfalmdaaGreatDoorProg.lean LOADS. Nothing in Lean hashes anything: it is a label: what it is worth is what the hold of that sum in a sandbox is worth. -/
noncomputable def Tryz.pinned : Pinned := { name := "ytbomeifgfalmdaagreatdoor", sum := "0333191d464d3d08aa832ddecfb2e3c414a5fcc9cdc7bf5d3a00d6e4a40f7922", checked := Tryz.checked }
namespace Rows
def none {H : Type} : Left H := { results := [], args := [] }

/- WHAT THE LISTED PACKAGE-LEVEL VARIABLES READ AS WHEN THE CALL BEGINS. Each datum BY PROGRAM (the guide's laid-datum.mjs) off the statement by which the dump's own 'gosem.cut.vars' lays the variable. In a bare row this is a premise. The card (YtbomeifgfalmdaaGreatDoorCards.lean) ties it to the program's text. -/
def laid_errors_errorType {H : Type} : DataW H := .iface "internal/reflectlite.rtype" (.agg [.ptr (.lit (.string [101, 114, 114, 111, 114]))])
def laid_loop_example_g00449_impl_errTooLong {H : Type} : DataW H := .iface "*errors.errorString" (.ptr (.agg [.lit (.string [116, 114, 101, 101, 58, 32, 97, 32, 116, 101, 120, 116, 32, 111, 114, 32, 97, 32, 108, 105, 115, 116, 32, 105, 115, 32, 116, 111, 111, 32, 108, 111, 110, 103])]))
def laid_loop_example_g00449_impl_errNotRight {H : Type} : DataW H := .iface "*errors.errorString" (.ptr (.agg [.lit (.string [116, 114, 101, 101, 58, 32, 115, 111, 109, 101, 116, 104, 105, 110, 103, 32, 105, 115, 32, 110, 111, 116, 32, 114, 105, 103, 104, 116])]))
def laid_loop_example_g00449_impl_errNoNode {H : Type} : DataW H := .iface "*errors.errorString" (.ptr (.agg [.lit (.string [116, 114, 101, 101, 58, 32, 116, 104, 101, 114, 101, 32, 105, 115, 32, 110, 111, 32, 115, 117, 99, 104, 32, 110, 111, 100, 101])]))
def laid_loop_example_g00449_impl_errNoDir {H : Type} : DataW H := .iface "*errors.errorString" (.ptr (.agg [.lit (.string [116, 114, 101, 101, 58, 32, 116, 104, 101, 32, 112, 97, 114, 101, 110, 116, 32, 105, 115, 32, 110, 111, 32, 100, 105, 114, 101, 99, 116, 111, 114, 121])]))
def laid_loop_example_g00449_impl_reasonCodes {H : Type} : DataW H := .agg [.lit (.int .i64 0), .lit (.int .i64 2), .lit (.int .i64 1), .lit (.int .i64 7), .lit (.int .i64 6), .lit (.int .i64 12), .lit (.int .i64 11), .lit (.int .i64 13), .lit (.int .i64 9)]

/-- 'laws.FnExactVfsList': WHATEVER THE INPUT: true; the input reads as it did. -/
def fnExactVfsListSpec : ChangeSpec := { name := "fnExactVfsList", vars := ["loop.example/g00449/impl.errTooLong", "loop.example/g00449/impl.errNotRight", "loop.example/g00449/impl.errNoNode", "loop.example/g00449/impl.errNoDir", "loop.example/g00449/impl.reasonCodes"], fn := fun _ => fun
  | [d1, d2, g1, g2, g3, g4, g5] => { results := [.lit (.bool true)], args := [d1, d2], vars := [g1, g2, g3, g4, g5] }
  | _ => none }
def fnExactVfsListRow : OpenClaim := { program := "ytbomeifgfalmdaagreatdoor", sum := "0333191d464d3d08aa832ddecfb2e3c414a5fcc9cdc7bf5d3a00d6e4a40f7922", func := "loop.example/g00449/laws.FnExactVfsList", spec := "fnExactVfsList", inPlace := ["internal/reflectlite.ValueOf", "(internal/reflectlite.Value).Type", "(internal/reflectlite.Value).IsNil", "internal/reflectlite.TypeOf", "(internal/reflectlite.Value).Elem", "(internal/reflectlite.Value).Set"], unfollowed := true, recurses := true, named := ["loop.example/g00449/impl.errTooLong", "loop.example/g00449/impl.errNotRight", "loop.example/g00449/impl.errNoNode", "loop.example/g00449/impl.errNoDir", "loop.example/g00449/impl.reasonCodes", "errors.errorType"], ifaces := true, apart := false, laid := [("errors.errorType", laid_errors_errorType), ("loop.example/g00449/impl.errTooLong", laid_loop_example_g00449_impl_errTooLong), ("loop.example/g00449/impl.errNotRight", laid_loop_example_g00449_impl_errNotRight), ("loop.example/g00449/impl.errNoNode", laid_loop_example_g00449_impl_errNoNode), ("loop.example/g00449/impl.errNoDir", laid_loop_example_g00449_impl_errNoDir), ("loop.example/g00449/impl.reasonCodes", laid_loop_example_g00449_impl_reasonCodes)] }
def FnExactVfsListSaid : Prop := fnExactVfsListRow.holds Tryz.pinned (OpenSpec.ofChange fnExactVfsListSpec)

/-- ITS FALSE NEIGHBOUR: 'it returns false'. Refute it at one input. -/
def fnExactVfsListWrong : ChangeSpec := { name := "fnExactVfsList", vars := ["loop.example/g00449/impl.errTooLong", "loop.example/g00449/impl.errNotRight", "loop.example/g00449/impl.errNoNode", "loop.example/g00449/impl.errNoDir", "loop.example/g00449/impl.reasonCodes"], fn := fun _ => fun
  | [d1, d2, g1, g2, g3, g4, g5] => { results := [.lit (.bool false)], args := [d1, d2], vars := [g1, g2, g3, g4, g5] }
  | _ => none }
def FnExactVfsListWrongFalsely : Prop := fnExactVfsListRow.holds Tryz.pinned (OpenSpec.ofChange fnExactVfsListWrong)

/- THE SECOND FORM. 'bulk': how many values and letters a reading holds, each counted each time it is reached (what is shared counts as often as it is met; a slice's spare places count too). A statement '..UptoSaid' is the law's where the arguments, and the package variables that the reading takes, are together of bulk at most 1048576: NARROWER than '..Said'. Prove '..Said' where nothing that the law and all that it calls make is longer than what came in: it says more and counts as full. Else prove '..UptoSaid'. A law counts once. -/
mutual
def uptoBulk {H : Type} : DataW H → Nat
  | .lit (.string bytes) => bytes.length + 1
  | .lit _ => 1
  | .nil => 1
  | .ptr d => uptoBulk d + 1
  | .slice elems spare => uptoBulkAll elems + uptoBulkAll spare + 1
  | .agg parts => uptoBulkAll parts + 1
  | .iface _ d => uptoBulk d + 1
  | .map entries => uptoBulkEntries entries + 1
  | .held _ => 1
def uptoBulkAll {H : Type} : List (DataW H) → Nat
  | [] => 0
  | d :: r => uptoBulk d + uptoBulkAll r
def uptoBulkEntries {H : Type} : List (Lit × DataW H) → Nat
  | [] => 0
  | x :: r => uptoBulkEntry x + uptoBulkEntries r
def uptoBulkEntry {H : Type} : Lit × DataW H → Nat
  | (.string bytes, d) => bytes.length + uptoBulk d + 1
  | (_, d) => uptoBulk d + 1
 end
def uptoSmall : (H : Type) → List (DataW H) → Bool := fun _ ds => decide (uptoBulkAll ds ≤ 1048576)
def OpenSpec.upto (s : _root_.Go.ChangeSpec) : _root_.Go.OpenSpec := { _root_.Go.OpenSpec.ofChange s with cond := some uptoSmall }

/-- 'laws.FnExactVfsList', WHERE WHAT IT READS IS OF BULK AT MOST 1048576: true; the input reads as it did. -/
def fnExactVfsListUptoRow : OpenClaim := { program := "ytbomeifgfalmdaagreatdoor", sum := "0333191d464d3d08aa832ddecfb2e3c414a5fcc9cdc7bf5d3a00d6e4a40f7922", func := "loop.example/g00449/laws.FnExactVfsList", spec := "fnExactVfsList", inPlace := ["internal/reflectlite.ValueOf", "(internal/reflectlite.Value).Type", "(internal/reflectlite.Value).IsNil", "internal/reflectlite.TypeOf", "(internal/reflectlite.Value).Elem", "(internal/reflectlite.Value).Set"], unfollowed := true, recurses := true, named := ["loop.example/g00449/impl.errTooLong", "loop.example/g00449/impl.errNotRight", "loop.example/g00449/impl.errNoNode", "loop.example/g00449/impl.errNoDir", "loop.example/g00449/impl.reasonCodes", "errors.errorType"], ifaces := true, apart := false, laid := [("errors.errorType", laid_errors_errorType), ("loop.example/g00449/impl.errTooLong", laid_loop_example_g00449_impl_errTooLong), ("loop.example/g00449/impl.errNotRight", laid_loop_example_g00449_impl_errNotRight), ("loop.example/g00449/impl.errNoNode", laid_loop_example_g00449_impl_errNoNode), ("loop.example/g00449/impl.errNoDir", laid_loop_example_g00449_impl_errNoDir), ("loop.example/g00449/impl.reasonCodes", laid_loop_example_g00449_impl_reasonCodes)], narrowed := true }
def FnExactVfsListUptoSaid : Prop := fnExactVfsListUptoRow.holds Tryz.pinned (OpenSpec.upto fnExactVfsListSpec)

end Rows
end Go.Proofs.YtbomeifgfalmdaaGreatDoor
