/-
  No cell of these rows narrows 'for every input' (looked for: loops, veiled, ifaces, maps, wideKeys, modest, calm, conditions, laid).
  DERIVED. THE GIVEN ROWS OF THIS SEAT. 6 by the template 'for every input the law returns true; each argument reads behind the call as it read before'; 0 by the template 'total and deterministic' (their statements: YtopipjfomnnjcagTotals.lean).
  GIVEN WITH THE SEED: the statements are not yours to turn. If you find one false, say at which input.
  Laid BY PROGRAM, IN A SANDBOX (cutbox-rows.mjs): the forced cells as the released guide's own fill.sh prints them over the translation 05e8a979e2928b37… (all of the seat's roots in one cut). By AI agents, Wed Nov 11 2026. No macro, syntax, notation, axiom, sorry.
-/
import Derived.Test.YtopipjfomnnjcagChecked
import GoSem.Claim
import GoSem.ClaimJoined
import GoSem.ClaimMapViews
import Derived.JoinedTies
import Derived.KernelRfl
namespace Go.Proofs.Ytopipjfomnnjcag
/- THE CELL 'sum', in the pinned program and in every row, IS THE sha256 OF THE DUMP (.gsa) THAT YtopipjfomnnjcagProg.lean LOADS. Nothing in Lean hashes anything: it is a label: what it is worth is what the hold of that sum in a sandbox is worth. -/
noncomputable def Try.pinned : Pinned := { name := "ytopipjfomnnjcag", sum := "05e8a979e2928b374f3833a38754e0c141e9e844410b56d0465cc27d0de17622", checked := Try.checked }
namespace Rows
def none {H : Type} : Left H := { results := [], args := [] }

/-- 'laws.FnExactUnseal': WHATEVER THE INPUT: true; the input reads as it did. -/
def fnExactUnsealSpec : ChangeSpec := { name := "fnExactUnseal", fn := fun _ => fun
  | [d] => { results := [.lit (.bool true)], args := [d] }
  | _ => none }
def fnExactUnsealRow : OpenClaim := { program := "ytopipjfomnnjcag", sum := "05e8a979e2928b374f3833a38754e0c141e9e844410b56d0465cc27d0de17622", func := "loop.example/g00449/laws.FnExactUnseal", spec := "fnExactUnseal", apart := false }
def FnExactUnsealSaid : Prop := fnExactUnsealRow.holds Try.pinned (OpenSpec.ofChange fnExactUnsealSpec)

/-- ITS FALSE NEIGHBOUR: 'it returns false'. Refute it at one input. -/
def fnExactUnsealWrong : ChangeSpec := { name := "fnExactUnseal", fn := fun _ => fun
  | [d] => { results := [.lit (.bool false)], args := [d] }
  | _ => none }
def FnExactUnsealWrongFalsely : Prop := fnExactUnsealRow.holds Try.pinned (OpenSpec.ofChange fnExactUnsealWrong)

/-- 'laws.FnExactPathRight': WHATEVER THE INPUT: true; the input reads as it did. -/
def fnExactPathRightSpec : ChangeSpec := { name := "fnExactPathRight", fn := fun _ => fun
  | [d] => { results := [.lit (.bool true)], args := [d] }
  | _ => none }
def fnExactPathRightRow : OpenClaim := { program := "ytopipjfomnnjcag", sum := "05e8a979e2928b374f3833a38754e0c141e9e844410b56d0465cc27d0de17622", func := "loop.example/g00449/laws.FnExactPathRight", spec := "fnExactPathRight", apart := false }
def FnExactPathRightSaid : Prop := fnExactPathRightRow.holds Try.pinned (OpenSpec.ofChange fnExactPathRightSpec)

/-- ITS FALSE NEIGHBOUR: 'it returns false'. Refute it at one input. -/
def fnExactPathRightWrong : ChangeSpec := { name := "fnExactPathRight", fn := fun _ => fun
  | [d] => { results := [.lit (.bool false)], args := [d] }
  | _ => none }
def FnExactPathRightWrongFalsely : Prop := fnExactPathRightRow.holds Try.pinned (OpenSpec.ofChange fnExactPathRightWrong)

/-- 'laws.FnExactPathNames': WHATEVER THE INPUT: true; the input reads as it did. -/
def fnExactPathNamesSpec : ChangeSpec := { name := "fnExactPathNames", fn := fun _ => fun
  | [d] => { results := [.lit (.bool true)], args := [d] }
  | _ => none }
def fnExactPathNamesRow : OpenClaim := { program := "ytopipjfomnnjcag", sum := "05e8a979e2928b374f3833a38754e0c141e9e844410b56d0465cc27d0de17622", func := "loop.example/g00449/laws.FnExactPathNames", spec := "fnExactPathNames", apart := false }
def FnExactPathNamesSaid : Prop := fnExactPathNamesRow.holds Try.pinned (OpenSpec.ofChange fnExactPathNamesSpec)

/-- ITS FALSE NEIGHBOUR: 'it returns false'. Refute it at one input. -/
def fnExactPathNamesWrong : ChangeSpec := { name := "fnExactPathNames", fn := fun _ => fun
  | [d] => { results := [.lit (.bool false)], args := [d] }
  | _ => none }
def FnExactPathNamesWrongFalsely : Prop := fnExactPathNamesRow.holds Try.pinned (OpenSpec.ofChange fnExactPathNamesWrong)

/-- 'laws.FnExactPathJoin': WHATEVER THE INPUT: true; the input reads as it did. -/
def fnExactPathJoinSpec : ChangeSpec := { name := "fnExactPathJoin", fn := fun _ => fun
  | [d1, d2] => { results := [.lit (.bool true)], args := [d1, d2] }
  | _ => none }
def fnExactPathJoinRow : OpenClaim := { program := "ytopipjfomnnjcag", sum := "05e8a979e2928b374f3833a38754e0c141e9e844410b56d0465cc27d0de17622", func := "loop.example/g00449/laws.FnExactPathJoin", spec := "fnExactPathJoin", apart := false }
def FnExactPathJoinSaid : Prop := fnExactPathJoinRow.holds Try.pinned (OpenSpec.ofChange fnExactPathJoinSpec)

/-- ITS FALSE NEIGHBOUR: 'it returns false'. Refute it at one input. -/
def fnExactPathJoinWrong : ChangeSpec := { name := "fnExactPathJoin", fn := fun _ => fun
  | [d1, d2] => { results := [.lit (.bool false)], args := [d1, d2] }
  | _ => none }
def FnExactPathJoinWrongFalsely : Prop := fnExactPathJoinRow.holds Try.pinned (OpenSpec.ofChange fnExactPathJoinWrong)

/-- 'laws.FnExactPathParent': WHATEVER THE INPUT: true; the input reads as it did. -/
def fnExactPathParentSpec : ChangeSpec := { name := "fnExactPathParent", fn := fun _ => fun
  | [d] => { results := [.lit (.bool true)], args := [d] }
  | _ => none }
def fnExactPathParentRow : OpenClaim := { program := "ytopipjfomnnjcag", sum := "05e8a979e2928b374f3833a38754e0c141e9e844410b56d0465cc27d0de17622", func := "loop.example/g00449/laws.FnExactPathParent", spec := "fnExactPathParent", apart := false }
def FnExactPathParentSaid : Prop := fnExactPathParentRow.holds Try.pinned (OpenSpec.ofChange fnExactPathParentSpec)

/-- ITS FALSE NEIGHBOUR: 'it returns false'. Refute it at one input. -/
def fnExactPathParentWrong : ChangeSpec := { name := "fnExactPathParent", fn := fun _ => fun
  | [d] => { results := [.lit (.bool false)], args := [d] }
  | _ => none }
def FnExactPathParentWrongFalsely : Prop := fnExactPathParentRow.holds Try.pinned (OpenSpec.ofChange fnExactPathParentWrong)

/-- 'laws.FnExactPathBase': WHATEVER THE INPUT: true; the input reads as it did. -/
def fnExactPathBaseSpec : ChangeSpec := { name := "fnExactPathBase", fn := fun _ => fun
  | [d] => { results := [.lit (.bool true)], args := [d] }
  | _ => none }
def fnExactPathBaseRow : OpenClaim := { program := "ytopipjfomnnjcag", sum := "05e8a979e2928b374f3833a38754e0c141e9e844410b56d0465cc27d0de17622", func := "loop.example/g00449/laws.FnExactPathBase", spec := "fnExactPathBase", apart := false }
def FnExactPathBaseSaid : Prop := fnExactPathBaseRow.holds Try.pinned (OpenSpec.ofChange fnExactPathBaseSpec)

/-- ITS FALSE NEIGHBOUR: 'it returns false'. Refute it at one input. -/
def fnExactPathBaseWrong : ChangeSpec := { name := "fnExactPathBase", fn := fun _ => fun
  | [d] => { results := [.lit (.bool false)], args := [d] }
  | _ => none }
def FnExactPathBaseWrongFalsely : Prop := fnExactPathBaseRow.holds Try.pinned (OpenSpec.ofChange fnExactPathBaseWrong)

/- THE SECOND FORM. 'bulk': how many values and letters a reading holds, each counted each time it is reached (what is shared counts as often as it is met; a slice's spare places count too). A statement '..UptoSaid' is the law's where the arguments, and the package variables that the reading takes, are together of bulk at most 1048576: NARROWER than '..Said'. Prove '..Said' where nothing that the law and all that it calls make is longer than what came in: it says more and counts as full. Else prove '..UptoSaid'. A law counts once. -/
mutual
def uptoBulk {H : Type} : DataW H → Nat
  | .lit (.string bytes) => bytes.length + 1
  | .lit _ => 1
  | .nil => 1
  | .ptr d => uptoBulk d + 1
  | .slice elems spare => uptoBulkAll elems + uptoBulkAll spare + 1
  | .agg parts => uptoBulkAll parts + 1
  | .iface _ d => uptoBulk d + 1
  | .map entries => uptoBulkEntries entries + 1
  | .held _ => 1
def uptoBulkAll {H : Type} : List (DataW H) → Nat
  | [] => 0
  | d :: r => uptoBulk d + uptoBulkAll r
def uptoBulkEntries {H : Type} : List (Lit × DataW H) → Nat
  | [] => 0
  | x :: r => uptoBulkEntry x + uptoBulkEntries r
def uptoBulkEntry {H : Type} : Lit × DataW H → Nat
  | (.string bytes, d) => bytes.length + uptoBulk d + 1
  | (_, d) => uptoBulk d + 1
 end
def uptoSmall : (H : Type) → List (DataW H) → Bool := fun _ ds => decide (uptoBulkAll ds ≤ 1048576)
def OpenSpec.upto (s : _root_.Go.ChangeSpec) : _root_.Go.OpenSpec := { _root_.Go.OpenSpec.ofChange s with cond := some uptoSmall }

/-- 'laws.FnExactUnseal', WHERE WHAT IT READS IS OF BULK AT MOST 1048576: true; the input reads as it did. -/
def fnExactUnsealUptoRow : OpenClaim := { program := "ytopipjfomnnjcag", sum := "05e8a979e2928b374f3833a38754e0c141e9e844410b56d0465cc27d0de17622", func := "loop.example/g00449/laws.FnExactUnseal", spec := "fnExactUnseal", apart := false, narrowed := true }
def FnExactUnsealUptoSaid : Prop := fnExactUnsealUptoRow.holds Try.pinned (OpenSpec.upto fnExactUnsealSpec)

/-- 'laws.FnExactPathRight', WHERE WHAT IT READS IS OF BULK AT MOST 1048576: true; the input reads as it did. -/
def fnExactPathRightUptoRow : OpenClaim := { program := "ytopipjfomnnjcag", sum := "05e8a979e2928b374f3833a38754e0c141e9e844410b56d0465cc27d0de17622", func := "loop.example/g00449/laws.FnExactPathRight", spec := "fnExactPathRight", apart := false, narrowed := true }
def FnExactPathRightUptoSaid : Prop := fnExactPathRightUptoRow.holds Try.pinned (OpenSpec.upto fnExactPathRightSpec)

/-- 'laws.FnExactPathNames', WHERE WHAT IT READS IS OF BULK AT MOST 1048576: true; the input reads as it did. -/
def fnExactPathNamesUptoRow : OpenClaim := { program := "ytopipjfomnnjcag", sum := "05e8a979e2928b374f3833a38754e0c141e9e844410b56d0465cc27d0de17622", func := "loop.example/g00449/laws.FnExactPathNames", spec := "fnExactPathNames", apart := false, narrowed := true }
def FnExactPathNamesUptoSaid : Prop := fnExactPathNamesUptoRow.holds Try.pinned (OpenSpec.upto fnExactPathNamesSpec)

/-- 'laws.FnExactPathJoin', WHERE WHAT IT READS IS OF BULK AT MOST 1048576: true; the input reads as it did. -/
def fnExactPathJoinUptoRow : OpenClaim := { program := "ytopipjfomnnjcag", sum := "05e8a979e2928b374f3833a38754e0c141e9e844410b56d0465cc27d0de17622", func := "loop.example/g00449/laws.FnExactPathJoin", spec := "fnExactPathJoin", apart := false, narrowed := true }
def FnExactPathJoinUptoSaid : Prop := fnExactPathJoinUptoRow.holds Try.pinned (OpenSpec.upto fnExactPathJoinSpec)

/-- 'laws.FnExactPathParent', WHERE WHAT IT READS IS OF BULK AT MOST 1048576: true; the input reads as it did. -/
def fnExactPathParentUptoRow : OpenClaim := { program := "ytopipjfomnnjcag", sum := "05e8a979e2928b374f3833a38754e0c141e9e844410b56d0465cc27d0de17622", func := "loop.example/g00449/laws.FnExactPathParent", spec := "fnExactPathParent", apart := false, narrowed := true }
def FnExactPathParentUptoSaid : Prop := fnExactPathParentUptoRow.holds Try.pinned (OpenSpec.upto fnExactPathParentSpec)

/-- 'laws.FnExactPathBase', WHERE WHAT IT READS IS OF BULK AT MOST 1048576: true; the input reads as it did. -/
def fnExactPathBaseUptoRow : OpenClaim := { program := "ytopipjfomnnjcag", sum := "05e8a979e2928b374f3833a38754e0c141e9e844410b56d0465cc27d0de17622", func := "loop.example/g00449/laws.FnExactPathBase", spec := "fnExactPathBase", apart := false, narrowed := true }
def FnExactPathBaseUptoSaid : Prop := fnExactPathBaseUptoRow.holds Try.pinned (OpenSpec.upto fnExactPathBaseSpec)

end Rows
end Go.Proofs.Ytopipjfomnnjcag
