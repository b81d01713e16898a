/-
  NARROWER THAN 'FOR EVERY INPUT', by the rows' own cells (each row's printed sentence says how): FnExactDeskWords: laid.
  DERIVED. THE GIVEN ROWS OF THIS SEAT. 1 by the template 'for every input the law returns true; each argument reads behind the call as it read before'; 0 by the template 'total and deterministic' (their statements: YtgdfadibdioedaaDoorTotals.lean).
  GIVEN WITH THE SEED: the statements are not yours to turn. If you find one false, say at which input.
  Laid BY PROGRAM, IN A SANDBOX (cutbox-rows.mjs): the forced cells as the released guide's own fill.sh prints them over the translation 207e973e36c97f0c… (all of the seat's roots in one cut). By AI agents, Wed Nov 11 2026. No macro, syntax, notation, axiom, sorry.
-/
import Derived.Test.YtgdfadibdioedaaDoorChecked
import GoSem.Claim
import GoSem.ClaimJoined
import GoSem.ClaimMapViews
import Derived.JoinedTies
import Derived.KernelRfl
namespace Go.Proofs.YtgdfadibdioedaaDoor
/- THE CELL 'sum', in the pinned program and in every row, IS THE sha256 OF THE DUMP (.gsa) THAT YtgdfadibdioedaaDoorProg.lean LOADS. Nothing in Lean hashes anything: it is a label: what it is worth is what the hold of that sum in a sandbox is worth. -/
noncomputable def Tryd.pinned : Pinned := { name := "ytgdfadibdioedaadoor", sum := "207e973e36c97f0c970927ef1458d1878615105948a908359ba5870bebdc3563", checked := Tryd.checked }
namespace Rows
def none {H : Type} : Left H := { results := [], args := [] }

/- WHAT THE LISTED PACKAGE-LEVEL VARIABLES READ AS WHEN THE CALL BEGINS. Each datum BY PROGRAM (the guide's laid-datum.mjs) off the statement by which the dump's own 'gosem.cut.vars' lays the variable. In a bare row this is a premise. The card (YtgdfadibdioedaaDoorCards.lean) ties it to the program's text. -/
def laid_loop_example_g00449_impl_verbWords {H : Type} : DataW H := .agg [.lit (.string [99, 100]), .lit (.string [99, 108, 111, 115, 101]), .lit (.string [100, 101, 116, 97, 99, 104]), .lit (.string [102, 108, 97, 116]), .lit (.string [103, 101, 116]), .lit (.string [108, 105, 115, 116]), .lit (.string [109, 107, 100, 105, 114]), .lit (.string [109, 111, 117, 110, 116]), .lit (.string [111, 112, 101, 110]), .lit (.string [112, 117, 116]), .lit (.string [114, 101, 97, 100]), .lit (.string [114, 109]), .lit (.string [116, 111, 117, 99, 104]), .lit (.string [117, 109, 111, 117, 110, 116]), .lit (.string [119, 114, 105, 116, 101])]

/-- 'laws.FnExactDeskWords': WHATEVER THE INPUT: true; the input reads as it did. -/
def fnExactDeskWordsSpec : ChangeSpec := { name := "fnExactDeskWords", vars := ["loop.example/g00449/impl.verbWords"], fn := fun _ => fun
  | [g1] => { results := [.lit (.bool true)], args := [], vars := [g1] }
  | _ => none }
def fnExactDeskWordsRow : OpenClaim := { program := "ytgdfadibdioedaadoor", sum := "207e973e36c97f0c970927ef1458d1878615105948a908359ba5870bebdc3563", func := "loop.example/g00449/laws.FnExactDeskWords", spec := "fnExactDeskWords", named := ["loop.example/g00449/impl.verbWords"], apart := false, laid := [("loop.example/g00449/impl.verbWords", laid_loop_example_g00449_impl_verbWords)] }
def FnExactDeskWordsSaid : Prop := fnExactDeskWordsRow.holds Tryd.pinned (OpenSpec.ofChange fnExactDeskWordsSpec)

/-- ITS FALSE NEIGHBOUR: 'it returns false'. Refute it at one input. -/
def fnExactDeskWordsWrong : ChangeSpec := { name := "fnExactDeskWords", vars := ["loop.example/g00449/impl.verbWords"], fn := fun _ => fun
  | [g1] => { results := [.lit (.bool false)], args := [], vars := [g1] }
  | _ => none }
def FnExactDeskWordsWrongFalsely : Prop := fnExactDeskWordsRow.holds Tryd.pinned (OpenSpec.ofChange fnExactDeskWordsWrong)

/- THE SECOND FORM. 'bulk': how many values and letters a reading holds, each counted each time it is reached (what is shared counts as often as it is met; a slice's spare places count too). A statement '..UptoSaid' is the law's where the arguments, and the package variables that the reading takes, are together of bulk at most 1048576: NARROWER than '..Said'. Prove '..Said' where nothing that the law and all that it calls make is longer than what came in: it says more and counts as full. Else prove '..UptoSaid'. A law counts once. -/
mutual
def uptoBulk {H : Type} : DataW H → Nat
  | .lit (.string bytes) => bytes.length + 1
  | .lit _ => 1
  | .nil => 1
  | .ptr d => uptoBulk d + 1
  | .slice elems spare => uptoBulkAll elems + uptoBulkAll spare + 1
  | .agg parts => uptoBulkAll parts + 1
  | .iface _ d => uptoBulk d + 1
  | .map entries => uptoBulkEntries entries + 1
  | .held _ => 1
def uptoBulkAll {H : Type} : List (DataW H) → Nat
  | [] => 0
  | d :: r => uptoBulk d + uptoBulkAll r
def uptoBulkEntries {H : Type} : List (Lit × DataW H) → Nat
  | [] => 0
  | x :: r => uptoBulkEntry x + uptoBulkEntries r
def uptoBulkEntry {H : Type} : Lit × DataW H → Nat
  | (.string bytes, d) => bytes.length + uptoBulk d + 1
  | (_, d) => uptoBulk d + 1
 end
def uptoSmall : (H : Type) → List (DataW H) → Bool := fun _ ds => decide (uptoBulkAll ds ≤ 1048576)
def OpenSpec.upto (s : _root_.Go.ChangeSpec) : _root_.Go.OpenSpec := { _root_.Go.OpenSpec.ofChange s with cond := some uptoSmall }

/-- 'laws.FnExactDeskWords', WHERE WHAT IT READS IS OF BULK AT MOST 1048576: true; the input reads as it did. -/
def fnExactDeskWordsUptoRow : OpenClaim := { program := "ytgdfadibdioedaadoor", sum := "207e973e36c97f0c970927ef1458d1878615105948a908359ba5870bebdc3563", func := "loop.example/g00449/laws.FnExactDeskWords", spec := "fnExactDeskWords", named := ["loop.example/g00449/impl.verbWords"], apart := false, laid := [("loop.example/g00449/impl.verbWords", laid_loop_example_g00449_impl_verbWords)], narrowed := true }
def FnExactDeskWordsUptoSaid : Prop := fnExactDeskWordsUptoRow.holds Tryd.pinned (OpenSpec.upto fnExactDeskWordsSpec)

end Rows
end Go.Proofs.YtgdfadibdioedaaDoor
