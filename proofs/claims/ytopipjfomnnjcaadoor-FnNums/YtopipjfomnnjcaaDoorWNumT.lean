/- What GetNum and GetText answer, as values; no function in sight. -/
import Derived.Test.YtopipjfomnnjcaaDoorMem
import Derived.Test.YtopipjfomnnjcaaDoorPlainText
import Derived.Test.YtopipjfomnnjcaaDoorProg
import Derived.WalkSpells
import Derived.Deep.RegionHeld3
namespace Go.Proofs.YtopipjfomnnjcaaDoor
open Go.RowKit
namespace WGetS
def num (r : Int × Int × Int) : Value := .agg #[.int .i64 r.1, .int .i64 r.2.1, .int .i64 r.2.2]
end WGetS
namespace WTextS
def txt (r : ByteArray × Int × Int) : Value := .agg #[.string r.1, .int .i64 r.2.1, .int .i64 r.2.2]
theorem new_cell (W : World) (C : Array Value) (T : TypeId) (B : Nat) {j : Nat} {v : Value} (hB : W.heap.size = B) (hv : C[j]? = some v) : ((W.alloc (.cells C T)).drew).cell? ⟨B, j, none⟩ = some v := by
  subst hB
  show (W.alloc (.cells C T)).cell? ⟨W.heap.size, j, none⟩ = some v
  rw [World.cell?_alloc_mark]
  exact hv

end WTextS
end Go.Proofs.YtopipjfomnnjcaaDoor
