/- The nodes of a right tree rise out of their map. -/
import Derived.Test.YteddcihodfkliabGreatDoorMemFx
import Derived.Test.YteddcihodfkliabGreatDoorPartQ
import Derived.Test.YteddcihodfkliabGreatDoorPartF
import Derived.Test.YteddcihodfkliabGreatDoorPartM
import Derived.Test.YteddcihodfkliabGreatDoorPlainNames
import Derived.Test.YteddcihodfkliabGreatDoorPlainTreeI
namespace Go.Proofs.YteddcihodfkliabGreatDoor
open Go.RowKit Go.Maps
namespace WViewI
theorem six4 {w : World} {x : Nat → Addr} (h : WIs.Six w x) : WNestI.Errs4 w 222 222 222 222 (.pointer (some (x 0))) (.pointer (some (x 1))) (.pointer (some (x 2))) (.pointer (some (x 3))) := ⟨h.c0, h.errs⟩
/-- The nodes of a right tree rise out of their map. -/
theorem rise_tree (B : Nat) (L : List Pl.Nd) (w : World) (ht : Pl.treeB L = true) (hm : Mem.ownM w B L) :
    Calls Tryz.prog 63 #[.map (some B)] w fun e w' => ∃ v, e = .returned v ∧ Mem.ownN w' w.heap.size v L ∧ Below w.heap.size w w' :=
  WRising.any B 40 L L (MapN.mapOf L) w hm (by omega) (MapN.reads_mapOf (Pl.tree_apart' ht)) (Pl.tree_apart' ht) (List.Perm.refl _) (Pl.tree_rise' ht) (fun n hn => by
    have h2 := (((Pl.tree_iff _).1 ht).2.1 n hn).1
    have h4 := (Pl.node_bounds h2).1
    exact ⟨(Pl.node_right h2).1, by omega⟩)
end WViewI
end Go.Proofs.YteddcihodfkliabGreatDoor
