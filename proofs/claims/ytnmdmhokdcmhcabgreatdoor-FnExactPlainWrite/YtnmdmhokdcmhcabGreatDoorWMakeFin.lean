/- What stands behind a put that went well. -/
import Derived.Test.YtnmdmhokdcmhcabGreatDoorWInTree
import Derived.Test.YtnmdmhokdcmhcabGreatDoorPlainPutP
import Derived.Test.YtnmdmhokdcmhcabGreatDoorPlainCut
namespace Go.Proofs.YtnmdmhokdcmhcabGreatDoor
open Go.RowKit Go.Maps
namespace WPanic
/-- What stands behind a put that went well. -/
theorem put_fin {B : Nat} {L : List Pl.Nd} {n : Pl.Nd} (ht : Pl.treeB L = true) (hnb : Pl.nodeB n = true) {w' : World} (h : ∃ D', w'.ownsMap Tryz.prog 9 MapN.elem B 41 D' ∧ MapN.Reads D' (L.filter (fun m => !decide (m.path = n.path)) ++ [n])) :
    ∃ N D' C, N ≤ 1000 ∧ w'.ownsMap Tryz.prog 9 MapN.elem B N D' ∧ MapN.Reads D' C ∧ C.Pairwise (fun a b => a.path ≠ b.path) ∧ (Pl.putL L n).Perm C ∧ (Pl.putL L n).Pairwise (fun a b => Pl.ltP a.path b.path = true) ∧ (∀ n ∈ C, Pl.pathB n.path = true ∧ n.data.size ≤ 1048576) := by
  obtain ⟨D', h1, h2⟩ := h
  have hpo := Pl.put_ok (fun m hm => ((Pl.tree_rise ht).2.1 m hm).1) (Pl.node_right hnb).1 (Pl.tree_rise ht).1
  exact ⟨41, D', _, by omega, h1, h2, Pl.apart_put (Pl.tree_apart ht), hpo.2, hpo.1, fun m hm => (Pl.mem_put hm).elim (fun h => (Pl.tree_rise ht).2.1 m h) (fun h => by rw [h]; exact ⟨(Pl.node_right hnb).1, by have := (Pl.node_bounds hnb).1; omega⟩)⟩
end WPanic
end Go.Proofs.YtnmdmhokdcmhcabGreatDoor
