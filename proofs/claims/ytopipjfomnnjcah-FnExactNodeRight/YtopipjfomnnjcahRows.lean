/-
  No cell of these rows narrows 'for every input' (looked for: loops, veiled, ifaces, maps, wideKeys, modest, calm, conditions, laid).
  DERIVED. THE GIVEN ROWS OF THIS SEAT. 6 by the template 'for every input the law returns true; each argument reads behind the call as it read before'; 0 by the template 'total and deterministic' (their statements: YtopipjfomnnjcahTotals.lean).
  GIVEN WITH THE SEED: the statements are not yours to turn. If you find one false, say at which input.
  Laid BY PROGRAM, IN A SANDBOX (cutbox-rows.mjs): the forced cells as the released guide's own fill.sh prints them over the translation 55eb1280817ddc32… (all of the seat's roots in one cut). By AI agents, Wed Nov 11 2026. No macro, syntax, notation, axiom, sorry.
-/
import Derived.Test.YtopipjfomnnjcahChecked
import GoSem.Claim
import GoSem.ClaimJoined
import GoSem.ClaimMapViews
import Derived.JoinedTies
import Derived.KernelRfl
namespace Go.Proofs.Ytopipjfomnnjcah
/- THE CELL 'sum', in the pinned program and in every row, IS THE sha256 OF THE DUMP (.gsa) THAT YtopipjfomnnjcahProg.lean LOADS. Nothing in Lean hashes anything: it is a label: what it is worth is what the hold of that sum in a sandbox is worth. -/
noncomputable def Try.pinned : Pinned := { name := "ytopipjfomnnjcah", sum := "55eb1280817ddc32cea2dce135f6869e7b6528007c5f85c478f90e6bff81f1bd", checked := Try.checked }
namespace Rows
def none {H : Type} : Left H := { results := [], args := [] }

/-- 'laws.FnExactPathUnder': WHATEVER THE INPUT: true; the input reads as it did. -/
def fnExactPathUnderSpec : ChangeSpec := { name := "fnExactPathUnder", fn := fun _ => fun
  | [d1, d2] => { results := [.lit (.bool true)], args := [d1, d2] }
  | _ => none }
def fnExactPathUnderRow : OpenClaim := { program := "ytopipjfomnnjcah", sum := "55eb1280817ddc32cea2dce135f6869e7b6528007c5f85c478f90e6bff81f1bd", func := "loop.example/g00449/laws.FnExactPathUnder", spec := "fnExactPathUnder", apart := false }
def FnExactPathUnderSaid : Prop := fnExactPathUnderRow.holds Try.pinned (OpenSpec.ofChange fnExactPathUnderSpec)

/-- ITS FALSE NEIGHBOUR: 'it returns false'. Refute it at one input. -/
def fnExactPathUnderWrong : ChangeSpec := { name := "fnExactPathUnder", fn := fun _ => fun
  | [d1, d2] => { results := [.lit (.bool false)], args := [d1, d2] }
  | _ => none }
def FnExactPathUnderWrongFalsely : Prop := fnExactPathUnderRow.holds Try.pinned (OpenSpec.ofChange fnExactPathUnderWrong)

/-- 'laws.FnExactPathRest': WHATEVER THE INPUT: true; the input reads as it did. -/
def fnExactPathRestSpec : ChangeSpec := { name := "fnExactPathRest", fn := fun _ => fun
  | [d1, d2] => { results := [.lit (.bool true)], args := [d1, d2] }
  | _ => none }
def fnExactPathRestRow : OpenClaim := { program := "ytopipjfomnnjcah", sum := "55eb1280817ddc32cea2dce135f6869e7b6528007c5f85c478f90e6bff81f1bd", func := "loop.example/g00449/laws.FnExactPathRest", spec := "fnExactPathRest", apart := false }
def FnExactPathRestSaid : Prop := fnExactPathRestRow.holds Try.pinned (OpenSpec.ofChange fnExactPathRestSpec)

/-- ITS FALSE NEIGHBOUR: 'it returns false'. Refute it at one input. -/
def fnExactPathRestWrong : ChangeSpec := { name := "fnExactPathRest", fn := fun _ => fun
  | [d1, d2] => { results := [.lit (.bool false)], args := [d1, d2] }
  | _ => none }
def FnExactPathRestWrongFalsely : Prop := fnExactPathRestRow.holds Try.pinned (OpenSpec.ofChange fnExactPathRestWrong)

/-- 'laws.FnExactPathBoth': WHATEVER THE INPUT: true; the input reads as it did. -/
def fnExactPathBothSpec : ChangeSpec := { name := "fnExactPathBoth", fn := fun _ => fun
  | [d1, d2] => { results := [.lit (.bool true)], args := [d1, d2] }
  | _ => none }
def fnExactPathBothRow : OpenClaim := { program := "ytopipjfomnnjcah", sum := "55eb1280817ddc32cea2dce135f6869e7b6528007c5f85c478f90e6bff81f1bd", func := "loop.example/g00449/laws.FnExactPathBoth", spec := "fnExactPathBoth", apart := false }
def FnExactPathBothSaid : Prop := fnExactPathBothRow.holds Try.pinned (OpenSpec.ofChange fnExactPathBothSpec)

/-- ITS FALSE NEIGHBOUR: 'it returns false'. Refute it at one input. -/
def fnExactPathBothWrong : ChangeSpec := { name := "fnExactPathBoth", fn := fun _ => fun
  | [d1, d2] => { results := [.lit (.bool false)], args := [d1, d2] }
  | _ => none }
def FnExactPathBothWrongFalsely : Prop := fnExactPathBothRow.holds Try.pinned (OpenSpec.ofChange fnExactPathBothWrong)

/-- 'laws.FnExactPathAt': WHATEVER THE INPUT: true; the input reads as it did. -/
def fnExactPathAtSpec : ChangeSpec := { name := "fnExactPathAt", fn := fun _ => fun
  | [d1, d2] => { results := [.lit (.bool true)], args := [d1, d2] }
  | _ => none }
def fnExactPathAtRow : OpenClaim := { program := "ytopipjfomnnjcah", sum := "55eb1280817ddc32cea2dce135f6869e7b6528007c5f85c478f90e6bff81f1bd", func := "loop.example/g00449/laws.FnExactPathAt", spec := "fnExactPathAt", apart := false }
def FnExactPathAtSaid : Prop := fnExactPathAtRow.holds Try.pinned (OpenSpec.ofChange fnExactPathAtSpec)

/-- ITS FALSE NEIGHBOUR: 'it returns false'. Refute it at one input. -/
def fnExactPathAtWrong : ChangeSpec := { name := "fnExactPathAt", fn := fun _ => fun
  | [d1, d2] => { results := [.lit (.bool false)], args := [d1, d2] }
  | _ => none }
def FnExactPathAtWrongFalsely : Prop := fnExactPathAtRow.holds Try.pinned (OpenSpec.ofChange fnExactPathAtWrong)

/-- 'laws.FnExactPathLess': WHATEVER THE INPUT: true; the input reads as it did. -/
def fnExactPathLessSpec : ChangeSpec := { name := "fnExactPathLess", fn := fun _ => fun
  | [d1, d2] => { results := [.lit (.bool true)], args := [d1, d2] }
  | _ => none }
def fnExactPathLessRow : OpenClaim := { program := "ytopipjfomnnjcah", sum := "55eb1280817ddc32cea2dce135f6869e7b6528007c5f85c478f90e6bff81f1bd", func := "loop.example/g00449/laws.FnExactPathLess", spec := "fnExactPathLess", unfollowed := true, recurses := true, apart := false }
def FnExactPathLessSaid : Prop := fnExactPathLessRow.holds Try.pinned (OpenSpec.ofChange fnExactPathLessSpec)

/-- ITS FALSE NEIGHBOUR: 'it returns false'. Refute it at one input. -/
def fnExactPathLessWrong : ChangeSpec := { name := "fnExactPathLess", fn := fun _ => fun
  | [d1, d2] => { results := [.lit (.bool false)], args := [d1, d2] }
  | _ => none }
def FnExactPathLessWrongFalsely : Prop := fnExactPathLessRow.holds Try.pinned (OpenSpec.ofChange fnExactPathLessWrong)

/-- 'laws.FnExactNodeRight': WHATEVER THE INPUT: true; the input reads as it did. -/
def fnExactNodeRightSpec : ChangeSpec := { name := "fnExactNodeRight", fn := fun _ => fun
  | [d] => { results := [.lit (.bool true)], args := [d] }
  | _ => none }
def fnExactNodeRightRow : OpenClaim := { program := "ytopipjfomnnjcah", sum := "55eb1280817ddc32cea2dce135f6869e7b6528007c5f85c478f90e6bff81f1bd", func := "loop.example/g00449/laws.FnExactNodeRight", spec := "fnExactNodeRight", apart := false }
def FnExactNodeRightSaid : Prop := fnExactNodeRightRow.holds Try.pinned (OpenSpec.ofChange fnExactNodeRightSpec)

/-- ITS FALSE NEIGHBOUR: 'it returns false'. Refute it at one input. -/
def fnExactNodeRightWrong : ChangeSpec := { name := "fnExactNodeRight", fn := fun _ => fun
  | [d] => { results := [.lit (.bool false)], args := [d] }
  | _ => none }
def FnExactNodeRightWrongFalsely : Prop := fnExactNodeRightRow.holds Try.pinned (OpenSpec.ofChange fnExactNodeRightWrong)

/- THE SECOND FORM. 'bulk': how many values and letters a reading holds, each counted each time it is reached (what is shared counts as often as it is met; a slice's spare places count too). A statement '..UptoSaid' is the law's where the arguments, and the package variables that the reading takes, are together of bulk at most 1048576: NARROWER than '..Said'. Prove '..Said' where nothing that the law and all that it calls make is longer than what came in: it says more and counts as full. Else prove '..UptoSaid'. A law counts once. -/
mutual
def uptoBulk {H : Type} : DataW H → Nat
  | .lit (.string bytes) => bytes.length + 1
  | .lit _ => 1
  | .nil => 1
  | .ptr d => uptoBulk d + 1
  | .slice elems spare => uptoBulkAll elems + uptoBulkAll spare + 1
  | .agg parts => uptoBulkAll parts + 1
  | .iface _ d => uptoBulk d + 1
  | .map entries => uptoBulkEntries entries + 1
  | .held _ => 1
def uptoBulkAll {H : Type} : List (DataW H) → Nat
  | [] => 0
  | d :: r => uptoBulk d + uptoBulkAll r
def uptoBulkEntries {H : Type} : List (Lit × DataW H) → Nat
  | [] => 0
  | x :: r => uptoBulkEntry x + uptoBulkEntries r
def uptoBulkEntry {H : Type} : Lit × DataW H → Nat
  | (.string bytes, d) => bytes.length + uptoBulk d + 1
  | (_, d) => uptoBulk d + 1
 end
def uptoSmall : (H : Type) → List (DataW H) → Bool := fun _ ds => decide (uptoBulkAll ds ≤ 1048576)
def OpenSpec.upto (s : _root_.Go.ChangeSpec) : _root_.Go.OpenSpec := { _root_.Go.OpenSpec.ofChange s with cond := some uptoSmall }

/-- 'laws.FnExactPathUnder', WHERE WHAT IT READS IS OF BULK AT MOST 1048576: true; the input reads as it did. -/
def fnExactPathUnderUptoRow : OpenClaim := { program := "ytopipjfomnnjcah", sum := "55eb1280817ddc32cea2dce135f6869e7b6528007c5f85c478f90e6bff81f1bd", func := "loop.example/g00449/laws.FnExactPathUnder", spec := "fnExactPathUnder", apart := false, narrowed := true }
def FnExactPathUnderUptoSaid : Prop := fnExactPathUnderUptoRow.holds Try.pinned (OpenSpec.upto fnExactPathUnderSpec)

/-- 'laws.FnExactPathRest', WHERE WHAT IT READS IS OF BULK AT MOST 1048576: true; the input reads as it did. -/
def fnExactPathRestUptoRow : OpenClaim := { program := "ytopipjfomnnjcah", sum := "55eb1280817ddc32cea2dce135f6869e7b6528007c5f85c478f90e6bff81f1bd", func := "loop.example/g00449/laws.FnExactPathRest", spec := "fnExactPathRest", apart := false, narrowed := true }
def FnExactPathRestUptoSaid : Prop := fnExactPathRestUptoRow.holds Try.pinned (OpenSpec.upto fnExactPathRestSpec)

/-- 'laws.FnExactPathBoth', WHERE WHAT IT READS IS OF BULK AT MOST 1048576: true; the input reads as it did. -/
def fnExactPathBothUptoRow : OpenClaim := { program := "ytopipjfomnnjcah", sum := "55eb1280817ddc32cea2dce135f6869e7b6528007c5f85c478f90e6bff81f1bd", func := "loop.example/g00449/laws.FnExactPathBoth", spec := "fnExactPathBoth", apart := false, narrowed := true }
def FnExactPathBothUptoSaid : Prop := fnExactPathBothUptoRow.holds Try.pinned (OpenSpec.upto fnExactPathBothSpec)

/-- 'laws.FnExactPathAt', WHERE WHAT IT READS IS OF BULK AT MOST 1048576: true; the input reads as it did. -/
def fnExactPathAtUptoRow : OpenClaim := { program := "ytopipjfomnnjcah", sum := "55eb1280817ddc32cea2dce135f6869e7b6528007c5f85c478f90e6bff81f1bd", func := "loop.example/g00449/laws.FnExactPathAt", spec := "fnExactPathAt", apart := false, narrowed := true }
def FnExactPathAtUptoSaid : Prop := fnExactPathAtUptoRow.holds Try.pinned (OpenSpec.upto fnExactPathAtSpec)

/-- 'laws.FnExactPathLess', WHERE WHAT IT READS IS OF BULK AT MOST 1048576: true; the input reads as it did. -/
def fnExactPathLessUptoRow : OpenClaim := { program := "ytopipjfomnnjcah", sum := "55eb1280817ddc32cea2dce135f6869e7b6528007c5f85c478f90e6bff81f1bd", func := "loop.example/g00449/laws.FnExactPathLess", spec := "fnExactPathLess", unfollowed := true, recurses := true, apart := false, narrowed := true }
def FnExactPathLessUptoSaid : Prop := fnExactPathLessUptoRow.holds Try.pinned (OpenSpec.upto fnExactPathLessSpec)

/-- 'laws.FnExactNodeRight', WHERE WHAT IT READS IS OF BULK AT MOST 1048576: true; the input reads as it did. -/
def fnExactNodeRightUptoRow : OpenClaim := { program := "ytopipjfomnnjcah", sum := "55eb1280817ddc32cea2dce135f6869e7b6528007c5f85c478f90e6bff81f1bd", func := "loop.example/g00449/laws.FnExactNodeRight", spec := "fnExactNodeRight", apart := false, narrowed := true }
def FnExactNodeRightUptoSaid : Prop := fnExactNodeRightUptoRow.holds Try.pinned (OpenSpec.upto fnExactNodeRightSpec)

end Rows
end Go.Proofs.Ytopipjfomnnjcah
