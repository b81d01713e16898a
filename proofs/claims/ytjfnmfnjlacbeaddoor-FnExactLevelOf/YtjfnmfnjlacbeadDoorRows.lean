/-
  NARROWER THAN 'FOR EVERY INPUT', by the rows' own cells (each row's printed sentence says how): FnExactNestRight: ifaces, laid · FnExactNestDepth: ifaces, laid · FnExactLeaves: ifaces, laid · FnExactFirstLeaf: ifaces, laid · FnExactLevelOf: ifaces, laid.
  DERIVED. THE GIVEN ROWS OF THIS SEAT. 5 by the template 'for every input the law returns true; each argument reads behind the call as it read before'; 0 by the template 'total and deterministic' (their statements: YtjfnmfnjlacbeadDoorTotals.lean).
  GIVEN WITH THE SEED: the statements are not yours to turn. If you find one false, say at which input.
  Laid BY PROGRAM, IN A SANDBOX (cutbox-rows.mjs): the forced cells as the released guide's own fill.sh prints them over the translation 75d0c0caef15bd06… (all of the seat's roots in one cut). By AI agents, Wed Nov 11 2026. No macro, syntax, notation, axiom, sorry.
-/
import Derived.Test.YtjfnmfnjlacbeadDoorChecked
import GoSem.Claim
import GoSem.ClaimJoined
import GoSem.ClaimMapViews
import Derived.JoinedTies
import Derived.KernelRfl
namespace Go.Proofs.YtjfnmfnjlacbeadDoor
/- THE CELL 'sum', in the pinned program and in every row, IS THE sha256 OF THE DUMP (.gsa) THAT YtjfnmfnjlacbeadDoorProg.lean LOADS. Nothing in Lean hashes anything: it is a label: what it is worth is what the hold of that sum in a sandbox is worth. -/
noncomputable def Tryd.pinned : Pinned := { name := "ytjfnmfnjlacbeaddoor", sum := "75d0c0caef15bd06dfb831e9b9c99b5cddd5397c0f3676d4704d6200f6e9affe", checked := Tryd.checked }
namespace Rows
def none {H : Type} : Left H := { results := [], args := [] }

/- WHAT THE LISTED PACKAGE-LEVEL VARIABLES READ AS WHEN THE CALL BEGINS. Each datum BY PROGRAM (the guide's laid-datum.mjs) off the statement by which the dump's own 'gosem.cut.vars' lays the variable. In a bare row this is a premise. The card (YtjfnmfnjlacbeadDoorCards.lean) ties it to the program's text. -/
def laid_loop_example_g00449_impl_errTooLong {H : Type} : DataW H := .iface "*errors.errorString" (.ptr (.agg [.lit (.string [116, 114, 101, 101, 58, 32, 97, 32, 116, 101, 120, 116, 32, 111, 114, 32, 97, 32, 108, 105, 115, 116, 32, 105, 115, 32, 116, 111, 111, 32, 108, 111, 110, 103])]))
def laid_loop_example_g00449_impl_errNotRight {H : Type} : DataW H := .iface "*errors.errorString" (.ptr (.agg [.lit (.string [116, 114, 101, 101, 58, 32, 115, 111, 109, 101, 116, 104, 105, 110, 103, 32, 105, 115, 32, 110, 111, 116, 32, 114, 105, 103, 104, 116])]))
def laid_loop_example_g00449_impl_errNoNode {H : Type} : DataW H := .iface "*errors.errorString" (.ptr (.agg [.lit (.string [116, 114, 101, 101, 58, 32, 116, 104, 101, 114, 101, 32, 105, 115, 32, 110, 111, 32, 115, 117, 99, 104, 32, 110, 111, 100, 101])]))
def laid_loop_example_g00449_impl_errNoDir {H : Type} : DataW H := .iface "*errors.errorString" (.ptr (.agg [.lit (.string [116, 114, 101, 101, 58, 32, 116, 104, 101, 32, 112, 97, 114, 101, 110, 116, 32, 105, 115, 32, 110, 111, 32, 100, 105, 114, 101, 99, 116, 111, 114, 121])]))

/-- 'laws.FnExactNestRight': WHATEVER THE INPUT: true; the input reads as it did. -/
def fnExactNestRightSpec : ChangeSpec := { name := "fnExactNestRight", vars := ["loop.example/g00449/impl.errTooLong", "loop.example/g00449/impl.errNotRight", "loop.example/g00449/impl.errNoNode", "loop.example/g00449/impl.errNoDir"], fn := fun _ => fun
  | [d, g1, g2, g3, g4] => { results := [.lit (.bool true)], args := [d], vars := [g1, g2, g3, g4] }
  | _ => none }
def fnExactNestRightRow : OpenClaim := { program := "ytjfnmfnjlacbeaddoor", sum := "75d0c0caef15bd06dfb831e9b9c99b5cddd5397c0f3676d4704d6200f6e9affe", func := "loop.example/g00449/laws.FnExactNestRight", spec := "fnExactNestRight", unfollowed := true, recurses := true, named := ["loop.example/g00449/impl.errTooLong", "loop.example/g00449/impl.errNotRight", "loop.example/g00449/impl.errNoNode", "loop.example/g00449/impl.errNoDir"], ifaces := true, apart := false, laid := [("loop.example/g00449/impl.errTooLong", laid_loop_example_g00449_impl_errTooLong), ("loop.example/g00449/impl.errNotRight", laid_loop_example_g00449_impl_errNotRight), ("loop.example/g00449/impl.errNoNode", laid_loop_example_g00449_impl_errNoNode), ("loop.example/g00449/impl.errNoDir", laid_loop_example_g00449_impl_errNoDir)] }
def FnExactNestRightSaid : Prop := fnExactNestRightRow.holds Tryd.pinned (OpenSpec.ofChange fnExactNestRightSpec)

/-- ITS FALSE NEIGHBOUR: 'it returns false'. Refute it at one input. -/
def fnExactNestRightWrong : ChangeSpec := { name := "fnExactNestRight", vars := ["loop.example/g00449/impl.errTooLong", "loop.example/g00449/impl.errNotRight", "loop.example/g00449/impl.errNoNode", "loop.example/g00449/impl.errNoDir"], fn := fun _ => fun
  | [d, g1, g2, g3, g4] => { results := [.lit (.bool false)], args := [d], vars := [g1, g2, g3, g4] }
  | _ => none }
def FnExactNestRightWrongFalsely : Prop := fnExactNestRightRow.holds Tryd.pinned (OpenSpec.ofChange fnExactNestRightWrong)

/-- 'laws.FnExactNestDepth': WHATEVER THE INPUT: true; the input reads as it did. -/
def fnExactNestDepthSpec : ChangeSpec := { name := "fnExactNestDepth", vars := ["loop.example/g00449/impl.errTooLong", "loop.example/g00449/impl.errNotRight", "loop.example/g00449/impl.errNoNode", "loop.example/g00449/impl.errNoDir"], fn := fun _ => fun
  | [d, g1, g2, g3, g4] => { results := [.lit (.bool true)], args := [d], vars := [g1, g2, g3, g4] }
  | _ => none }
def fnExactNestDepthRow : OpenClaim := { program := "ytjfnmfnjlacbeaddoor", sum := "75d0c0caef15bd06dfb831e9b9c99b5cddd5397c0f3676d4704d6200f6e9affe", func := "loop.example/g00449/laws.FnExactNestDepth", spec := "fnExactNestDepth", unfollowed := true, recurses := true, named := ["loop.example/g00449/impl.errTooLong", "loop.example/g00449/impl.errNotRight", "loop.example/g00449/impl.errNoNode", "loop.example/g00449/impl.errNoDir"], ifaces := true, apart := false, laid := [("loop.example/g00449/impl.errTooLong", laid_loop_example_g00449_impl_errTooLong), ("loop.example/g00449/impl.errNotRight", laid_loop_example_g00449_impl_errNotRight), ("loop.example/g00449/impl.errNoNode", laid_loop_example_g00449_impl_errNoNode), ("loop.example/g00449/impl.errNoDir", laid_loop_example_g00449_impl_errNoDir)] }
def FnExactNestDepthSaid : Prop := fnExactNestDepthRow.holds Tryd.pinned (OpenSpec.ofChange fnExactNestDepthSpec)

/-- ITS FALSE NEIGHBOUR: 'it returns false'. Refute it at one input. -/
def fnExactNestDepthWrong : ChangeSpec := { name := "fnExactNestDepth", vars := ["loop.example/g00449/impl.errTooLong", "loop.example/g00449/impl.errNotRight", "loop.example/g00449/impl.errNoNode", "loop.example/g00449/impl.errNoDir"], fn := fun _ => fun
  | [d, g1, g2, g3, g4] => { results := [.lit (.bool false)], args := [d], vars := [g1, g2, g3, g4] }
  | _ => none }
def FnExactNestDepthWrongFalsely : Prop := fnExactNestDepthRow.holds Tryd.pinned (OpenSpec.ofChange fnExactNestDepthWrong)

/-- 'laws.FnExactLeaves': WHATEVER THE INPUT: true; the input reads as it did. -/
def fnExactLeavesSpec : ChangeSpec := { name := "fnExactLeaves", vars := ["loop.example/g00449/impl.errTooLong", "loop.example/g00449/impl.errNotRight", "loop.example/g00449/impl.errNoNode", "loop.example/g00449/impl.errNoDir"], fn := fun _ => fun
  | [d, g1, g2, g3, g4] => { results := [.lit (.bool true)], args := [d], vars := [g1, g2, g3, g4] }
  | _ => none }
def fnExactLeavesRow : OpenClaim := { program := "ytjfnmfnjlacbeaddoor", sum := "75d0c0caef15bd06dfb831e9b9c99b5cddd5397c0f3676d4704d6200f6e9affe", func := "loop.example/g00449/laws.FnExactLeaves", spec := "fnExactLeaves", unfollowed := true, recurses := true, named := ["loop.example/g00449/impl.errTooLong", "loop.example/g00449/impl.errNotRight", "loop.example/g00449/impl.errNoNode", "loop.example/g00449/impl.errNoDir"], ifaces := true, apart := false, laid := [("loop.example/g00449/impl.errTooLong", laid_loop_example_g00449_impl_errTooLong), ("loop.example/g00449/impl.errNotRight", laid_loop_example_g00449_impl_errNotRight), ("loop.example/g00449/impl.errNoNode", laid_loop_example_g00449_impl_errNoNode), ("loop.example/g00449/impl.errNoDir", laid_loop_example_g00449_impl_errNoDir)] }
def FnExactLeavesSaid : Prop := fnExactLeavesRow.holds Tryd.pinned (OpenSpec.ofChange fnExactLeavesSpec)

/-- ITS FALSE NEIGHBOUR: 'it returns false'. Refute it at one input. -/
def fnExactLeavesWrong : ChangeSpec := { name := "fnExactLeaves", vars := ["loop.example/g00449/impl.errTooLong", "loop.example/g00449/impl.errNotRight", "loop.example/g00449/impl.errNoNode", "loop.example/g00449/impl.errNoDir"], fn := fun _ => fun
  | [d, g1, g2, g3, g4] => { results := [.lit (.bool false)], args := [d], vars := [g1, g2, g3, g4] }
  | _ => none }
def FnExactLeavesWrongFalsely : Prop := fnExactLeavesRow.holds Tryd.pinned (OpenSpec.ofChange fnExactLeavesWrong)

/-- 'laws.FnExactFirstLeaf': WHATEVER THE INPUT: true; the input reads as it did. -/
def fnExactFirstLeafSpec : ChangeSpec := { name := "fnExactFirstLeaf", vars := ["loop.example/g00449/impl.errTooLong", "loop.example/g00449/impl.errNotRight", "loop.example/g00449/impl.errNoNode", "loop.example/g00449/impl.errNoDir"], fn := fun _ => fun
  | [d, g1, g2, g3, g4] => { results := [.lit (.bool true)], args := [d], vars := [g1, g2, g3, g4] }
  | _ => none }
def fnExactFirstLeafRow : OpenClaim := { program := "ytjfnmfnjlacbeaddoor", sum := "75d0c0caef15bd06dfb831e9b9c99b5cddd5397c0f3676d4704d6200f6e9affe", func := "loop.example/g00449/laws.FnExactFirstLeaf", spec := "fnExactFirstLeaf", unfollowed := true, recurses := true, named := ["loop.example/g00449/impl.errTooLong", "loop.example/g00449/impl.errNotRight", "loop.example/g00449/impl.errNoNode", "loop.example/g00449/impl.errNoDir"], ifaces := true, apart := false, laid := [("loop.example/g00449/impl.errTooLong", laid_loop_example_g00449_impl_errTooLong), ("loop.example/g00449/impl.errNotRight", laid_loop_example_g00449_impl_errNotRight), ("loop.example/g00449/impl.errNoNode", laid_loop_example_g00449_impl_errNoNode), ("loop.example/g00449/impl.errNoDir", laid_loop_example_g00449_impl_errNoDir)] }
def FnExactFirstLeafSaid : Prop := fnExactFirstLeafRow.holds Tryd.pinned (OpenSpec.ofChange fnExactFirstLeafSpec)

/-- ITS FALSE NEIGHBOUR: 'it returns false'. Refute it at one input. -/
def fnExactFirstLeafWrong : ChangeSpec := { name := "fnExactFirstLeaf", vars := ["loop.example/g00449/impl.errTooLong", "loop.example/g00449/impl.errNotRight", "loop.example/g00449/impl.errNoNode", "loop.example/g00449/impl.errNoDir"], fn := fun _ => fun
  | [d, g1, g2, g3, g4] => { results := [.lit (.bool false)], args := [d], vars := [g1, g2, g3, g4] }
  | _ => none }
def FnExactFirstLeafWrongFalsely : Prop := fnExactFirstLeafRow.holds Tryd.pinned (OpenSpec.ofChange fnExactFirstLeafWrong)

/-- 'laws.FnExactLevelOf': WHATEVER THE INPUT: true; the input reads as it did. -/
def fnExactLevelOfSpec : ChangeSpec := { name := "fnExactLevelOf", vars := ["loop.example/g00449/impl.errTooLong", "loop.example/g00449/impl.errNotRight", "loop.example/g00449/impl.errNoNode", "loop.example/g00449/impl.errNoDir"], fn := fun _ => fun
  | [d, g1, g2, g3, g4] => { results := [.lit (.bool true)], args := [d], vars := [g1, g2, g3, g4] }
  | _ => none }
def fnExactLevelOfRow : OpenClaim := { program := "ytjfnmfnjlacbeaddoor", sum := "75d0c0caef15bd06dfb831e9b9c99b5cddd5397c0f3676d4704d6200f6e9affe", func := "loop.example/g00449/laws.FnExactLevelOf", spec := "fnExactLevelOf", unfollowed := true, recurses := true, named := ["loop.example/g00449/impl.errTooLong", "loop.example/g00449/impl.errNotRight", "loop.example/g00449/impl.errNoNode", "loop.example/g00449/impl.errNoDir"], ifaces := true, apart := false, laid := [("loop.example/g00449/impl.errTooLong", laid_loop_example_g00449_impl_errTooLong), ("loop.example/g00449/impl.errNotRight", laid_loop_example_g00449_impl_errNotRight), ("loop.example/g00449/impl.errNoNode", laid_loop_example_g00449_impl_errNoNode), ("loop.example/g00449/impl.errNoDir", laid_loop_example_g00449_impl_errNoDir)] }
def FnExactLevelOfSaid : Prop := fnExactLevelOfRow.holds Tryd.pinned (OpenSpec.ofChange fnExactLevelOfSpec)

/-- ITS FALSE NEIGHBOUR: 'it returns false'. Refute it at one input. -/
def fnExactLevelOfWrong : ChangeSpec := { name := "fnExactLevelOf", vars := ["loop.example/g00449/impl.errTooLong", "loop.example/g00449/impl.errNotRight", "loop.example/g00449/impl.errNoNode", "loop.example/g00449/impl.errNoDir"], fn := fun _ => fun
  | [d, g1, g2, g3, g4] => { results := [.lit (.bool false)], args := [d], vars := [g1, g2, g3, g4] }
  | _ => none }
def FnExactLevelOfWrongFalsely : Prop := fnExactLevelOfRow.holds Tryd.pinned (OpenSpec.ofChange fnExactLevelOfWrong)

/- THE SECOND FORM. 'bulk': how many values and letters a reading holds, each counted each time it is reached (what is shared counts as often as it is met; a slice's spare places count too). A statement '..UptoSaid' is the law's where the arguments, and the package variables that the reading takes, are together of bulk at most 1048576: NARROWER than '..Said'. Prove '..Said' where nothing that the law and all that it calls make is longer than what came in: it says more and counts as full. Else prove '..UptoSaid'. A law counts once. -/
mutual
def uptoBulk {H : Type} : DataW H → Nat
  | .lit (.string bytes) => bytes.length + 1
  | .lit _ => 1
  | .nil => 1
  | .ptr d => uptoBulk d + 1
  | .slice elems spare => uptoBulkAll elems + uptoBulkAll spare + 1
  | .agg parts => uptoBulkAll parts + 1
  | .iface _ d => uptoBulk d + 1
  | .map entries => uptoBulkEntries entries + 1
  | .held _ => 1
def uptoBulkAll {H : Type} : List (DataW H) → Nat
  | [] => 0
  | d :: r => uptoBulk d + uptoBulkAll r
def uptoBulkEntries {H : Type} : List (Lit × DataW H) → Nat
  | [] => 0
  | x :: r => uptoBulkEntry x + uptoBulkEntries r
def uptoBulkEntry {H : Type} : Lit × DataW H → Nat
  | (.string bytes, d) => bytes.length + uptoBulk d + 1
  | (_, d) => uptoBulk d + 1
 end
def uptoSmall : (H : Type) → List (DataW H) → Bool := fun _ ds => decide (uptoBulkAll ds ≤ 1048576)
def OpenSpec.upto (s : _root_.Go.ChangeSpec) : _root_.Go.OpenSpec := { _root_.Go.OpenSpec.ofChange s with cond := some uptoSmall }

/-- 'laws.FnExactNestRight', WHERE WHAT IT READS IS OF BULK AT MOST 1048576: true; the input reads as it did. -/
def fnExactNestRightUptoRow : OpenClaim := { program := "ytjfnmfnjlacbeaddoor", sum := "75d0c0caef15bd06dfb831e9b9c99b5cddd5397c0f3676d4704d6200f6e9affe", func := "loop.example/g00449/laws.FnExactNestRight", spec := "fnExactNestRight", unfollowed := true, recurses := true, named := ["loop.example/g00449/impl.errTooLong", "loop.example/g00449/impl.errNotRight", "loop.example/g00449/impl.errNoNode", "loop.example/g00449/impl.errNoDir"], ifaces := true, apart := false, laid := [("loop.example/g00449/impl.errTooLong", laid_loop_example_g00449_impl_errTooLong), ("loop.example/g00449/impl.errNotRight", laid_loop_example_g00449_impl_errNotRight), ("loop.example/g00449/impl.errNoNode", laid_loop_example_g00449_impl_errNoNode), ("loop.example/g00449/impl.errNoDir", laid_loop_example_g00449_impl_errNoDir)], narrowed := true }
def FnExactNestRightUptoSaid : Prop := fnExactNestRightUptoRow.holds Tryd.pinned (OpenSpec.upto fnExactNestRightSpec)

/-- 'laws.FnExactNestDepth', WHERE WHAT IT READS IS OF BULK AT MOST 1048576: true; the input reads as it did. -/
def fnExactNestDepthUptoRow : OpenClaim := { program := "ytjfnmfnjlacbeaddoor", sum := "75d0c0caef15bd06dfb831e9b9c99b5cddd5397c0f3676d4704d6200f6e9affe", func := "loop.example/g00449/laws.FnExactNestDepth", spec := "fnExactNestDepth", unfollowed := true, recurses := true, named := ["loop.example/g00449/impl.errTooLong", "loop.example/g00449/impl.errNotRight", "loop.example/g00449/impl.errNoNode", "loop.example/g00449/impl.errNoDir"], ifaces := true, apart := false, laid := [("loop.example/g00449/impl.errTooLong", laid_loop_example_g00449_impl_errTooLong), ("loop.example/g00449/impl.errNotRight", laid_loop_example_g00449_impl_errNotRight), ("loop.example/g00449/impl.errNoNode", laid_loop_example_g00449_impl_errNoNode), ("loop.example/g00449/impl.errNoDir", laid_loop_example_g00449_impl_errNoDir)], narrowed := true }
def FnExactNestDepthUptoSaid : Prop := fnExactNestDepthUptoRow.holds Tryd.pinned (OpenSpec.upto fnExactNestDepthSpec)

/-- 'laws.FnExactLeaves', WHERE WHAT IT READS IS OF BULK AT MOST 1048576: true; the input reads as it did. -/
def fnExactLeavesUptoRow : OpenClaim := { program := "ytjfnmfnjlacbeaddoor", sum := "75d0c0caef15bd06dfb831e9b9c99b5cddd5397c0f3676d4704d6200f6e9affe", func := "loop.example/g00449/laws.FnExactLeaves", spec := "fnExactLeaves", unfollowed := true, recurses := true, named := ["loop.example/g00449/impl.errTooLong", "loop.example/g00449/impl.errNotRight", "loop.example/g00449/impl.errNoNode", "loop.example/g00449/impl.errNoDir"], ifaces := true, apart := false, laid := [("loop.example/g00449/impl.errTooLong", laid_loop_example_g00449_impl_errTooLong), ("loop.example/g00449/impl.errNotRight", laid_loop_example_g00449_impl_errNotRight), ("loop.example/g00449/impl.errNoNode", laid_loop_example_g00449_impl_errNoNode), ("loop.example/g00449/impl.errNoDir", laid_loop_example_g00449_impl_errNoDir)], narrowed := true }
def FnExactLeavesUptoSaid : Prop := fnExactLeavesUptoRow.holds Tryd.pinned (OpenSpec.upto fnExactLeavesSpec)

/-- 'laws.FnExactFirstLeaf', WHERE WHAT IT READS IS OF BULK AT MOST 1048576: true; the input reads as it did. -/
def fnExactFirstLeafUptoRow : OpenClaim := { program := "ytjfnmfnjlacbeaddoor", sum := "75d0c0caef15bd06dfb831e9b9c99b5cddd5397c0f3676d4704d6200f6e9affe", func := "loop.example/g00449/laws.FnExactFirstLeaf", spec := "fnExactFirstLeaf", unfollowed := true, recurses := true, named := ["loop.example/g00449/impl.errTooLong", "loop.example/g00449/impl.errNotRight", "loop.example/g00449/impl.errNoNode", "loop.example/g00449/impl.errNoDir"], ifaces := true, apart := false, laid := [("loop.example/g00449/impl.errTooLong", laid_loop_example_g00449_impl_errTooLong), ("loop.example/g00449/impl.errNotRight", laid_loop_example_g00449_impl_errNotRight), ("loop.example/g00449/impl.errNoNode", laid_loop_example_g00449_impl_errNoNode), ("loop.example/g00449/impl.errNoDir", laid_loop_example_g00449_impl_errNoDir)], narrowed := true }
def FnExactFirstLeafUptoSaid : Prop := fnExactFirstLeafUptoRow.holds Tryd.pinned (OpenSpec.upto fnExactFirstLeafSpec)

/-- 'laws.FnExactLevelOf', WHERE WHAT IT READS IS OF BULK AT MOST 1048576: true; the input reads as it did. -/
def fnExactLevelOfUptoRow : OpenClaim := { program := "ytjfnmfnjlacbeaddoor", sum := "75d0c0caef15bd06dfb831e9b9c99b5cddd5397c0f3676d4704d6200f6e9affe", func := "loop.example/g00449/laws.FnExactLevelOf", spec := "fnExactLevelOf", unfollowed := true, recurses := true, named := ["loop.example/g00449/impl.errTooLong", "loop.example/g00449/impl.errNotRight", "loop.example/g00449/impl.errNoNode", "loop.example/g00449/impl.errNoDir"], ifaces := true, apart := false, laid := [("loop.example/g00449/impl.errTooLong", laid_loop_example_g00449_impl_errTooLong), ("loop.example/g00449/impl.errNotRight", laid_loop_example_g00449_impl_errNotRight), ("loop.example/g00449/impl.errNoNode", laid_loop_example_g00449_impl_errNoNode), ("loop.example/g00449/impl.errNoDir", laid_loop_example_g00449_impl_errNoDir)], narrowed := true }
def FnExactLevelOfUptoSaid : Prop := fnExactLevelOfUptoRow.holds Tryd.pinned (OpenSpec.upto fnExactLevelOfSpec)

end Rows
end Go.Proofs.YtjfnmfnjlacbeadDoor
