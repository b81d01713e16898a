/- What the layers that have a part have at a path, as the specification asks them. -/
import Derived.Test.YtmmomfnejkjkjaaDoorPlainPick
namespace Go.Proofs.YtmmomfnejkjkjaaDoor
open Go.RowKit
namespace Pl
def zeroO : Ot := ⟨false, zeroN, []⟩
/-- What the layers that have a part have at a path, as the specification asks them. -/
def askO (Ls : List (List Nd)) (ks : List Nat) (q : ByteArray) : List (Nat × Option Nd) := ks.map (fun k => (k, lk (Ls.getD k []) q))
def childO (Ls : List (List Nd)) (ks : List Nat) (q : ByteArray) : Ot := pickO q zeroO 0 (askO Ls ks q)
end Pl
end Go.Proofs.YtmmomfnejkjkjaaDoor
