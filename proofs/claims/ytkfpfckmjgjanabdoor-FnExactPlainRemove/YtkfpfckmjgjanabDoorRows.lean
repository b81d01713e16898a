/-
  NARROWER THAN 'FOR EVERY INPUT', by the rows' own cells (each row's printed sentence says how): FnExactLayersRight: ifaces, laid · FnExactPlainOf: ifaces, laid · FnExactSeenAt: ifaces, laid · FnExactLayersOf: ifaces, laid · FnExactPlainRemove: ifaces, laid · FnExactPlainTouch: ifaces, laid.
  DERIVED. THE GIVEN ROWS OF THIS SEAT. 6 by the template 'for every input the law returns true; each argument reads behind the call as it read before'; 0 by the template 'total and deterministic' (their statements: YtkfpfckmjgjanabDoorTotals.lean).
  GIVEN WITH THE SEED: the statements are not yours to turn. If you find one false, say at which input.
  Laid BY PROGRAM, IN A SANDBOX (cutbox-rows.mjs): the forced cells as the released guide's own fill.sh prints them over the translation 7295d54e187424f5… (all of the seat's roots in one cut). By AI agents, Wed Nov 11 2026. No macro, syntax, notation, axiom, sorry.
-/
import Derived.Test.YtkfpfckmjgjanabDoorChecked
import GoSem.Claim
import GoSem.ClaimJoined
import GoSem.ClaimMapViews
import Derived.JoinedTies
import Derived.KernelRfl
namespace Go.Proofs.YtkfpfckmjgjanabDoor
/- THE CELL 'sum', in the pinned program and in every row, IS THE sha256 OF THE DUMP (.gsa) THAT YtkfpfckmjgjanabDoorProg.lean LOADS. Nothing in Lean hashes anything: it is a label: what it is worth is what the hold of that sum in a sandbox is worth. -/
noncomputable def Tryd.pinned : Pinned := { name := "ytkfpfckmjgjanabdoor", sum := "7295d54e187424f511b3685eee493f0f441f08255668b4dd2c4205ca67c7cf8c", checked := Tryd.checked }
namespace Rows
def none {H : Type} : Left H := { results := [], args := [] }

/- WHAT THE LISTED PACKAGE-LEVEL VARIABLES READ AS WHEN THE CALL BEGINS. Each datum BY PROGRAM (the guide's laid-datum.mjs) off the statement by which the dump's own 'gosem.cut.vars' lays the variable. In a bare row this is a premise. The card (YtkfpfckmjgjanabDoorCards.lean) ties it to the program's text. -/
def laid_loop_example_g00449_impl_errNotRight {H : Type} : DataW H := .iface "*errors.errorString" (.ptr (.agg [.lit (.string [116, 114, 101, 101, 58, 32, 115, 111, 109, 101, 116, 104, 105, 110, 103, 32, 105, 115, 32, 110, 111, 116, 32, 114, 105, 103, 104, 116])]))
def laid_loop_example_g00449_impl_errNoNode {H : Type} : DataW H := .iface "*errors.errorString" (.ptr (.agg [.lit (.string [116, 114, 101, 101, 58, 32, 116, 104, 101, 114, 101, 32, 105, 115, 32, 110, 111, 32, 115, 117, 99, 104, 32, 110, 111, 100, 101])]))
def laid_loop_example_g00449_impl_errNoDir {H : Type} : DataW H := .iface "*errors.errorString" (.ptr (.agg [.lit (.string [116, 114, 101, 101, 58, 32, 116, 104, 101, 32, 112, 97, 114, 101, 110, 116, 32, 105, 115, 32, 110, 111, 32, 100, 105, 114, 101, 99, 116, 111, 114, 121])]))

/-- 'laws.FnExactLayersRight': WHATEVER THE INPUT: true; the input reads as it did. -/
def fnExactLayersRightSpec : ChangeSpec := { name := "fnExactLayersRight", vars := ["loop.example/g00449/impl.errNotRight", "loop.example/g00449/impl.errNoNode", "loop.example/g00449/impl.errNoDir"], fn := fun _ => fun
  | [d, g1, g2, g3] => { results := [.lit (.bool true)], args := [d], vars := [g1, g2, g3] }
  | _ => none }
def fnExactLayersRightRow : OpenClaim := { program := "ytkfpfckmjgjanabdoor", sum := "7295d54e187424f511b3685eee493f0f441f08255668b4dd2c4205ca67c7cf8c", func := "loop.example/g00449/laws.FnExactLayersRight", spec := "fnExactLayersRight", unfollowed := true, recurses := true, named := ["loop.example/g00449/impl.errNotRight", "loop.example/g00449/impl.errNoNode", "loop.example/g00449/impl.errNoDir"], ifaces := true, apart := false, laid := [("loop.example/g00449/impl.errNotRight", laid_loop_example_g00449_impl_errNotRight), ("loop.example/g00449/impl.errNoNode", laid_loop_example_g00449_impl_errNoNode), ("loop.example/g00449/impl.errNoDir", laid_loop_example_g00449_impl_errNoDir)] }
def FnExactLayersRightSaid : Prop := fnExactLayersRightRow.holds Tryd.pinned (OpenSpec.ofChange fnExactLayersRightSpec)

/-- ITS FALSE NEIGHBOUR: 'it returns false'. Refute it at one input. -/
def fnExactLayersRightWrong : ChangeSpec := { name := "fnExactLayersRight", vars := ["loop.example/g00449/impl.errNotRight", "loop.example/g00449/impl.errNoNode", "loop.example/g00449/impl.errNoDir"], fn := fun _ => fun
  | [d, g1, g2, g3] => { results := [.lit (.bool false)], args := [d], vars := [g1, g2, g3] }
  | _ => none }
def FnExactLayersRightWrongFalsely : Prop := fnExactLayersRightRow.holds Tryd.pinned (OpenSpec.ofChange fnExactLayersRightWrong)

/-- 'laws.FnExactPlainOf': WHATEVER THE INPUT: true; the input reads as it did. -/
def fnExactPlainOfSpec : ChangeSpec := { name := "fnExactPlainOf", vars := ["loop.example/g00449/impl.errNotRight", "loop.example/g00449/impl.errNoNode", "loop.example/g00449/impl.errNoDir"], fn := fun _ => fun
  | [d, g1, g2, g3] => { results := [.lit (.bool true)], args := [d], vars := [g1, g2, g3] }
  | _ => none }
def fnExactPlainOfRow : OpenClaim := { program := "ytkfpfckmjgjanabdoor", sum := "7295d54e187424f511b3685eee493f0f441f08255668b4dd2c4205ca67c7cf8c", func := "loop.example/g00449/laws.FnExactPlainOf", spec := "fnExactPlainOf", unfollowed := true, recurses := true, named := ["loop.example/g00449/impl.errNotRight", "loop.example/g00449/impl.errNoNode", "loop.example/g00449/impl.errNoDir"], ifaces := true, apart := false, laid := [("loop.example/g00449/impl.errNotRight", laid_loop_example_g00449_impl_errNotRight), ("loop.example/g00449/impl.errNoNode", laid_loop_example_g00449_impl_errNoNode), ("loop.example/g00449/impl.errNoDir", laid_loop_example_g00449_impl_errNoDir)] }
def FnExactPlainOfSaid : Prop := fnExactPlainOfRow.holds Tryd.pinned (OpenSpec.ofChange fnExactPlainOfSpec)

/-- ITS FALSE NEIGHBOUR: 'it returns false'. Refute it at one input. -/
def fnExactPlainOfWrong : ChangeSpec := { name := "fnExactPlainOf", vars := ["loop.example/g00449/impl.errNotRight", "loop.example/g00449/impl.errNoNode", "loop.example/g00449/impl.errNoDir"], fn := fun _ => fun
  | [d, g1, g2, g3] => { results := [.lit (.bool false)], args := [d], vars := [g1, g2, g3] }
  | _ => none }
def FnExactPlainOfWrongFalsely : Prop := fnExactPlainOfRow.holds Tryd.pinned (OpenSpec.ofChange fnExactPlainOfWrong)

/-- 'laws.FnExactSeenAt': WHATEVER THE INPUT: true; the input reads as it did. -/
def fnExactSeenAtSpec : ChangeSpec := { name := "fnExactSeenAt", vars := ["loop.example/g00449/impl.errNotRight", "loop.example/g00449/impl.errNoNode", "loop.example/g00449/impl.errNoDir"], fn := fun _ => fun
  | [d1, d2, g1, g2, g3] => { results := [.lit (.bool true)], args := [d1, d2], vars := [g1, g2, g3] }
  | _ => none }
def fnExactSeenAtRow : OpenClaim := { program := "ytkfpfckmjgjanabdoor", sum := "7295d54e187424f511b3685eee493f0f441f08255668b4dd2c4205ca67c7cf8c", func := "loop.example/g00449/laws.FnExactSeenAt", spec := "fnExactSeenAt", unfollowed := true, recurses := true, named := ["loop.example/g00449/impl.errNotRight", "loop.example/g00449/impl.errNoNode", "loop.example/g00449/impl.errNoDir"], ifaces := true, apart := false, laid := [("loop.example/g00449/impl.errNotRight", laid_loop_example_g00449_impl_errNotRight), ("loop.example/g00449/impl.errNoNode", laid_loop_example_g00449_impl_errNoNode), ("loop.example/g00449/impl.errNoDir", laid_loop_example_g00449_impl_errNoDir)] }
def FnExactSeenAtSaid : Prop := fnExactSeenAtRow.holds Tryd.pinned (OpenSpec.ofChange fnExactSeenAtSpec)

/-- ITS FALSE NEIGHBOUR: 'it returns false'. Refute it at one input. -/
def fnExactSeenAtWrong : ChangeSpec := { name := "fnExactSeenAt", vars := ["loop.example/g00449/impl.errNotRight", "loop.example/g00449/impl.errNoNode", "loop.example/g00449/impl.errNoDir"], fn := fun _ => fun
  | [d1, d2, g1, g2, g3] => { results := [.lit (.bool false)], args := [d1, d2], vars := [g1, g2, g3] }
  | _ => none }
def FnExactSeenAtWrongFalsely : Prop := fnExactSeenAtRow.holds Tryd.pinned (OpenSpec.ofChange fnExactSeenAtWrong)

/-- 'laws.FnExactLayersOf': WHATEVER THE INPUT: true; the input reads as it did. -/
def fnExactLayersOfSpec : ChangeSpec := { name := "fnExactLayersOf", vars := ["loop.example/g00449/impl.errNotRight", "loop.example/g00449/impl.errNoNode", "loop.example/g00449/impl.errNoDir"], fn := fun _ => fun
  | [d1, d2, g1, g2, g3] => { results := [.lit (.bool true)], args := [d1, d2], vars := [g1, g2, g3] }
  | _ => none }
def fnExactLayersOfRow : OpenClaim := { program := "ytkfpfckmjgjanabdoor", sum := "7295d54e187424f511b3685eee493f0f441f08255668b4dd2c4205ca67c7cf8c", func := "loop.example/g00449/laws.FnExactLayersOf", spec := "fnExactLayersOf", unfollowed := true, recurses := true, named := ["loop.example/g00449/impl.errNotRight", "loop.example/g00449/impl.errNoNode", "loop.example/g00449/impl.errNoDir"], ifaces := true, apart := false, laid := [("loop.example/g00449/impl.errNotRight", laid_loop_example_g00449_impl_errNotRight), ("loop.example/g00449/impl.errNoNode", laid_loop_example_g00449_impl_errNoNode), ("loop.example/g00449/impl.errNoDir", laid_loop_example_g00449_impl_errNoDir)] }
def FnExactLayersOfSaid : Prop := fnExactLayersOfRow.holds Tryd.pinned (OpenSpec.ofChange fnExactLayersOfSpec)

/-- ITS FALSE NEIGHBOUR: 'it returns false'. Refute it at one input. -/
def fnExactLayersOfWrong : ChangeSpec := { name := "fnExactLayersOf", vars := ["loop.example/g00449/impl.errNotRight", "loop.example/g00449/impl.errNoNode", "loop.example/g00449/impl.errNoDir"], fn := fun _ => fun
  | [d1, d2, g1, g2, g3] => { results := [.lit (.bool false)], args := [d1, d2], vars := [g1, g2, g3] }
  | _ => none }
def FnExactLayersOfWrongFalsely : Prop := fnExactLayersOfRow.holds Tryd.pinned (OpenSpec.ofChange fnExactLayersOfWrong)

/-- 'laws.FnExactPlainRemove': WHATEVER THE INPUT: true; the input reads as it did. -/
def fnExactPlainRemoveSpec : ChangeSpec := { name := "fnExactPlainRemove", vars := ["loop.example/g00449/impl.errNotRight", "loop.example/g00449/impl.errNoNode", "loop.example/g00449/impl.errNoDir"], fn := fun _ => fun
  | [d1, d2, g1, g2, g3] => { results := [.lit (.bool true)], args := [d1, d2], vars := [g1, g2, g3] }
  | _ => none }
def fnExactPlainRemoveRow : OpenClaim := { program := "ytkfpfckmjgjanabdoor", sum := "7295d54e187424f511b3685eee493f0f441f08255668b4dd2c4205ca67c7cf8c", func := "loop.example/g00449/laws.FnExactPlainRemove", spec := "fnExactPlainRemove", unfollowed := true, recurses := true, named := ["loop.example/g00449/impl.errNotRight", "loop.example/g00449/impl.errNoNode", "loop.example/g00449/impl.errNoDir"], ifaces := true, apart := false, laid := [("loop.example/g00449/impl.errNotRight", laid_loop_example_g00449_impl_errNotRight), ("loop.example/g00449/impl.errNoNode", laid_loop_example_g00449_impl_errNoNode), ("loop.example/g00449/impl.errNoDir", laid_loop_example_g00449_impl_errNoDir)] }
def FnExactPlainRemoveSaid : Prop := fnExactPlainRemoveRow.holds Tryd.pinned (OpenSpec.ofChange fnExactPlainRemoveSpec)

/-- ITS FALSE NEIGHBOUR: 'it returns false'. Refute it at one input. -/
def fnExactPlainRemoveWrong : ChangeSpec := { name := "fnExactPlainRemove", vars := ["loop.example/g00449/impl.errNotRight", "loop.example/g00449/impl.errNoNode", "loop.example/g00449/impl.errNoDir"], fn := fun _ => fun
  | [d1, d2, g1, g2, g3] => { results := [.lit (.bool false)], args := [d1, d2], vars := [g1, g2, g3] }
  | _ => none }
def FnExactPlainRemoveWrongFalsely : Prop := fnExactPlainRemoveRow.holds Tryd.pinned (OpenSpec.ofChange fnExactPlainRemoveWrong)

/-- 'laws.FnExactPlainTouch': WHATEVER THE INPUT: true; the input reads as it did. -/
def fnExactPlainTouchSpec : ChangeSpec := { name := "fnExactPlainTouch", vars := ["loop.example/g00449/impl.errNotRight", "loop.example/g00449/impl.errNoNode", "loop.example/g00449/impl.errNoDir"], fn := fun _ => fun
  | [d1, d2, d3, g1, g2, g3] => { results := [.lit (.bool true)], args := [d1, d2, d3], vars := [g1, g2, g3] }
  | _ => none }
def fnExactPlainTouchRow : OpenClaim := { program := "ytkfpfckmjgjanabdoor", sum := "7295d54e187424f511b3685eee493f0f441f08255668b4dd2c4205ca67c7cf8c", func := "loop.example/g00449/laws.FnExactPlainTouch", spec := "fnExactPlainTouch", unfollowed := true, recurses := true, named := ["loop.example/g00449/impl.errNotRight", "loop.example/g00449/impl.errNoNode", "loop.example/g00449/impl.errNoDir"], ifaces := true, apart := false, laid := [("loop.example/g00449/impl.errNotRight", laid_loop_example_g00449_impl_errNotRight), ("loop.example/g00449/impl.errNoNode", laid_loop_example_g00449_impl_errNoNode), ("loop.example/g00449/impl.errNoDir", laid_loop_example_g00449_impl_errNoDir)] }
def FnExactPlainTouchSaid : Prop := fnExactPlainTouchRow.holds Tryd.pinned (OpenSpec.ofChange fnExactPlainTouchSpec)

/-- ITS FALSE NEIGHBOUR: 'it returns false'. Refute it at one input. -/
def fnExactPlainTouchWrong : ChangeSpec := { name := "fnExactPlainTouch", vars := ["loop.example/g00449/impl.errNotRight", "loop.example/g00449/impl.errNoNode", "loop.example/g00449/impl.errNoDir"], fn := fun _ => fun
  | [d1, d2, d3, g1, g2, g3] => { results := [.lit (.bool false)], args := [d1, d2, d3], vars := [g1, g2, g3] }
  | _ => none }
def FnExactPlainTouchWrongFalsely : Prop := fnExactPlainTouchRow.holds Tryd.pinned (OpenSpec.ofChange fnExactPlainTouchWrong)

/- THE SECOND FORM. 'bulk': how many values and letters a reading holds, each counted each time it is reached (what is shared counts as often as it is met; a slice's spare places count too). A statement '..UptoSaid' is the law's where the arguments, and the package variables that the reading takes, are together of bulk at most 1048576: NARROWER than '..Said'. Prove '..Said' where nothing that the law and all that it calls make is longer than what came in: it says more and counts as full. Else prove '..UptoSaid'. A law counts once. -/
mutual
def uptoBulk {H : Type} : DataW H → Nat
  | .lit (.string bytes) => bytes.length + 1
  | .lit _ => 1
  | .nil => 1
  | .ptr d => uptoBulk d + 1
  | .slice elems spare => uptoBulkAll elems + uptoBulkAll spare + 1
  | .agg parts => uptoBulkAll parts + 1
  | .iface _ d => uptoBulk d + 1
  | .map entries => uptoBulkEntries entries + 1
  | .held _ => 1
def uptoBulkAll {H : Type} : List (DataW H) → Nat
  | [] => 0
  | d :: r => uptoBulk d + uptoBulkAll r
def uptoBulkEntries {H : Type} : List (Lit × DataW H) → Nat
  | [] => 0
  | x :: r => uptoBulkEntry x + uptoBulkEntries r
def uptoBulkEntry {H : Type} : Lit × DataW H → Nat
  | (.string bytes, d) => bytes.length + uptoBulk d + 1
  | (_, d) => uptoBulk d + 1
 end
def uptoSmall : (H : Type) → List (DataW H) → Bool := fun _ ds => decide (uptoBulkAll ds ≤ 1048576)
def OpenSpec.upto (s : _root_.Go.ChangeSpec) : _root_.Go.OpenSpec := { _root_.Go.OpenSpec.ofChange s with cond := some uptoSmall }

/-- 'laws.FnExactLayersRight', WHERE WHAT IT READS IS OF BULK AT MOST 1048576: true; the input reads as it did. -/
def fnExactLayersRightUptoRow : OpenClaim := { program := "ytkfpfckmjgjanabdoor", sum := "7295d54e187424f511b3685eee493f0f441f08255668b4dd2c4205ca67c7cf8c", func := "loop.example/g00449/laws.FnExactLayersRight", spec := "fnExactLayersRight", unfollowed := true, recurses := true, named := ["loop.example/g00449/impl.errNotRight", "loop.example/g00449/impl.errNoNode", "loop.example/g00449/impl.errNoDir"], ifaces := true, apart := false, laid := [("loop.example/g00449/impl.errNotRight", laid_loop_example_g00449_impl_errNotRight), ("loop.example/g00449/impl.errNoNode", laid_loop_example_g00449_impl_errNoNode), ("loop.example/g00449/impl.errNoDir", laid_loop_example_g00449_impl_errNoDir)], narrowed := true }
def FnExactLayersRightUptoSaid : Prop := fnExactLayersRightUptoRow.holds Tryd.pinned (OpenSpec.upto fnExactLayersRightSpec)

/-- 'laws.FnExactPlainOf', WHERE WHAT IT READS IS OF BULK AT MOST 1048576: true; the input reads as it did. -/
def fnExactPlainOfUptoRow : OpenClaim := { program := "ytkfpfckmjgjanabdoor", sum := "7295d54e187424f511b3685eee493f0f441f08255668b4dd2c4205ca67c7cf8c", func := "loop.example/g00449/laws.FnExactPlainOf", spec := "fnExactPlainOf", unfollowed := true, recurses := true, named := ["loop.example/g00449/impl.errNotRight", "loop.example/g00449/impl.errNoNode", "loop.example/g00449/impl.errNoDir"], ifaces := true, apart := false, laid := [("loop.example/g00449/impl.errNotRight", laid_loop_example_g00449_impl_errNotRight), ("loop.example/g00449/impl.errNoNode", laid_loop_example_g00449_impl_errNoNode), ("loop.example/g00449/impl.errNoDir", laid_loop_example_g00449_impl_errNoDir)], narrowed := true }
def FnExactPlainOfUptoSaid : Prop := fnExactPlainOfUptoRow.holds Tryd.pinned (OpenSpec.upto fnExactPlainOfSpec)

/-- 'laws.FnExactSeenAt', WHERE WHAT IT READS IS OF BULK AT MOST 1048576: true; the input reads as it did. -/
def fnExactSeenAtUptoRow : OpenClaim := { program := "ytkfpfckmjgjanabdoor", sum := "7295d54e187424f511b3685eee493f0f441f08255668b4dd2c4205ca67c7cf8c", func := "loop.example/g00449/laws.FnExactSeenAt", spec := "fnExactSeenAt", unfollowed := true, recurses := true, named := ["loop.example/g00449/impl.errNotRight", "loop.example/g00449/impl.errNoNode", "loop.example/g00449/impl.errNoDir"], ifaces := true, apart := false, laid := [("loop.example/g00449/impl.errNotRight", laid_loop_example_g00449_impl_errNotRight), ("loop.example/g00449/impl.errNoNode", laid_loop_example_g00449_impl_errNoNode), ("loop.example/g00449/impl.errNoDir", laid_loop_example_g00449_impl_errNoDir)], narrowed := true }
def FnExactSeenAtUptoSaid : Prop := fnExactSeenAtUptoRow.holds Tryd.pinned (OpenSpec.upto fnExactSeenAtSpec)

/-- 'laws.FnExactLayersOf', WHERE WHAT IT READS IS OF BULK AT MOST 1048576: true; the input reads as it did. -/
def fnExactLayersOfUptoRow : OpenClaim := { program := "ytkfpfckmjgjanabdoor", sum := "7295d54e187424f511b3685eee493f0f441f08255668b4dd2c4205ca67c7cf8c", func := "loop.example/g00449/laws.FnExactLayersOf", spec := "fnExactLayersOf", unfollowed := true, recurses := true, named := ["loop.example/g00449/impl.errNotRight", "loop.example/g00449/impl.errNoNode", "loop.example/g00449/impl.errNoDir"], ifaces := true, apart := false, laid := [("loop.example/g00449/impl.errNotRight", laid_loop_example_g00449_impl_errNotRight), ("loop.example/g00449/impl.errNoNode", laid_loop_example_g00449_impl_errNoNode), ("loop.example/g00449/impl.errNoDir", laid_loop_example_g00449_impl_errNoDir)], narrowed := true }
def FnExactLayersOfUptoSaid : Prop := fnExactLayersOfUptoRow.holds Tryd.pinned (OpenSpec.upto fnExactLayersOfSpec)

/-- 'laws.FnExactPlainRemove', WHERE WHAT IT READS IS OF BULK AT MOST 1048576: true; the input reads as it did. -/
def fnExactPlainRemoveUptoRow : OpenClaim := { program := "ytkfpfckmjgjanabdoor", sum := "7295d54e187424f511b3685eee493f0f441f08255668b4dd2c4205ca67c7cf8c", func := "loop.example/g00449/laws.FnExactPlainRemove", spec := "fnExactPlainRemove", unfollowed := true, recurses := true, named := ["loop.example/g00449/impl.errNotRight", "loop.example/g00449/impl.errNoNode", "loop.example/g00449/impl.errNoDir"], ifaces := true, apart := false, laid := [("loop.example/g00449/impl.errNotRight", laid_loop_example_g00449_impl_errNotRight), ("loop.example/g00449/impl.errNoNode", laid_loop_example_g00449_impl_errNoNode), ("loop.example/g00449/impl.errNoDir", laid_loop_example_g00449_impl_errNoDir)], narrowed := true }
def FnExactPlainRemoveUptoSaid : Prop := fnExactPlainRemoveUptoRow.holds Tryd.pinned (OpenSpec.upto fnExactPlainRemoveSpec)

/-- 'laws.FnExactPlainTouch', WHERE WHAT IT READS IS OF BULK AT MOST 1048576: true; the input reads as it did. -/
def fnExactPlainTouchUptoRow : OpenClaim := { program := "ytkfpfckmjgjanabdoor", sum := "7295d54e187424f511b3685eee493f0f441f08255668b4dd2c4205ca67c7cf8c", func := "loop.example/g00449/laws.FnExactPlainTouch", spec := "fnExactPlainTouch", unfollowed := true, recurses := true, named := ["loop.example/g00449/impl.errNotRight", "loop.example/g00449/impl.errNoNode", "loop.example/g00449/impl.errNoDir"], ifaces := true, apart := false, laid := [("loop.example/g00449/impl.errNotRight", laid_loop_example_g00449_impl_errNotRight), ("loop.example/g00449/impl.errNoNode", laid_loop_example_g00449_impl_errNoNode), ("loop.example/g00449/impl.errNoDir", laid_loop_example_g00449_impl_errNoDir)], narrowed := true }
def FnExactPlainTouchUptoSaid : Prop := fnExactPlainTouchUptoRow.holds Tryd.pinned (OpenSpec.upto fnExactPlainTouchSpec)

end Rows
end Go.Proofs.YtkfpfckmjgjanabDoor
