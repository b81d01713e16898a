/- The walk of the specification's TreeBytes. -/
import Derived.Test.YtopipjfomnnjcajDoorWBytesI
namespace Go.Proofs.YtopipjfomnnjcajDoor
open Go.RowKit
namespace WBytesT
set_option maxRecDepth 100000 in
theorem spec_any (a : Option Addr) (cap : Nat) (L : List Pl.Nd) (w : World) (hl : L.length ≤ 1048576) (hv : Mem.isNodes w a L) (hok : ∀ n ∈ L, n.path.size ≤ 1048576 ∧ n.data.size ≤ 1048576) :
    Calls Tryd.prog 9 #[.agg #[.slice a L.length cap]] w fun e w' => e = .returned (.string (Pl.treeBytes L)) ∧ Below w.heap.size w w' := by
  have b0 : Below w.heap.size w (w.alloc (.cells #[.slice a L.length cap] 29)) := (Below.refl _ _).alloc (Nat.le_refl _) _
  have hr := hide (WTreeS.right_tree a cap L _ hl (Mem.nodes_call hv b0) hok)
  have hby := hide (fun W (b : Below w.heap.size w W) (ht : Pl.treeB L = true) => bytes_any a cap L W (Pl.tree_parts ht).1 (Mem.nodes_call hv b) (Pl.tree_parts ht).2)
  have hvar := Mem.var_new w [.slice a L.length cap] 29
  have E : Hid (Pl.treeBytes L = if Pl.treeB L then (if 8000 < (Pl.bytesT L).size then ⟨#[]⟩ else Pl.bytesT L) else ⟨#[]⟩) := rfl
  generalize Pl.treeBytes L = R at E ⊢
  generalize Pl.treeB L = R2 at E hr hby
  generalize Pl.bytesT L = Y at E hby
  clear hv hok
  cases R2
  · have E2 := hide (show R = ⟨#[]⟩ from unhide E)
    clear hvar hby E
    go_enter Tryd.func9, Tryd.ntmps9
    go_wp2_with fail
    refine (unhide hr).mono ?_
    rintro e w1 ⟨rfl, b1⟩
    have b2 := b0.trans (b1.mono b0.size)
    clear hr b0 b1
    go_wp2
    go_ret
    exact ⟨ret_string (unhide E2).symm, b2⟩
  have hby2 := hide (fun W b => unhide hby W b rfl)
  have EL : Hid (8000 < Y.size → R = ⟨#[]⟩) := fun hy => by have := unhide E; rw [if_pos rfl, if_pos hy] at this; exact this
  have ES : Hid (¬ 8000 < Y.size → R = Y) := fun hy => by have := unhide E; rw [if_pos rfl, if_neg hy] at this; exact this
  clear hby E
  go_enter Tryd.func9, Tryd.ntmps9
  go_wp2_with fail
  refine (unhide hr).mono ?_
  rintro e w1 ⟨rfl, b1⟩
  have b2 := b0.trans (b1.mono b0.size)
  have c0 := (Mem.var_call hvar b1).2 0 _ rfl
  clear hvar hr b0 b1
  go_wp2_with fail
  refine (unhide hby2 _ b2).mono ?_
  rintro e w3 ⟨rfl, b3⟩
  have b4 := b2.trans (b3.mono b2.size)
  clear b2 b3 hby2
  by_cases hy : 8000 < Y.size
  · have E2 := hide (unhide EL hy)
    clear EL ES
    go_wp2
    go_ret
    exact ⟨ret_string (unhide E2).symm, b4⟩
  · have E2 := hide (unhide ES hy)
    clear EL ES
    go_wp2
    go_ret
    exact ⟨ret_string (unhide E2).symm, b4⟩
end WBytesT
end Go.Proofs.YtopipjfomnnjcajDoor
