/- Several texts of one claim in one file: WJoinS, WAt4A. -/
import Derived.Test.YtkfpfckmjgjanabDoorG10
import Derived.Test.YtkfpfckmjgjanabDoorG03
import Derived.Test.YtkfpfckmjgjanabDoorWChildS
import Derived.Test.YtkfpfckmjgjanabDoorPlainAtS
import Derived.Test.YtkfpfckmjgjanabDoorG07
import Derived.Test.YtkfpfckmjgjanabDoorPlainLaw
/- The walk of the specification's l02Join. -/
namespace Go.Proofs.YtkfpfckmjgjanabDoor
open Go.RowKit
namespace WPathS
theorem join1_any (p n : ByteArray) (w : World) (hp : p.size ≤ 1048576) (hq : n.size ≤ 1048576) :
    Calls Tryd.prog 84 #[.string p, .string n] w fun e w' => e = .returned (.string (Pl.joinN p n)) ∧ w' = w := by
  by_cases h0 : Pl.by_ p = []
  · have E := hide (Pl.joinN_root (n := n) h0)
    have d1 : p.toList.isEmpty = true := by rw [Pl.empty_list]; simp [h0]
    clear h0
    go_enter Tryd.func84, Tryd.ntmps84
    go_wp2
    go_ret
    exact ⟨ret_string (unhide E).symm, rfl⟩
  · have E : Hid (p ++ ⟨#[47]⟩ ++ n = Pl.joinN p n) := by
      show _ = _
      apply Pl.by_inj
      rw [Pl.joinN_two h0]
      simp [Pl.by_]
    have d1 : p.toList.isEmpty = false := by rw [Pl.empty_list]; simp [h0]
    clear h0
    generalize Pl.joinN p n = R at E ⊢
    go_enter Tryd.func84, Tryd.ntmps84
    go_wp2
    go_ret
    exact ⟨by rw [← unhide E]; rfl, rfl⟩

end WPathS
end Go.Proofs.YtkfpfckmjgjanabDoor

/- What stands while the specification walks down to a path. -/
namespace Go.Proofs.YtkfpfckmjgjanabDoor
open Go.RowKit
namespace WPick
structure AtQ (w W : World) (X : Nat) (vk : Value) (ks : List Nat) (o : Pl.Ot) (v vl : Value) (L : List ByteArray) : Prop where
  lt : w.heap.size + 1 ≤ X
  bel : Below w.heap.size w W
  res : Mem.Blk W w.heap.size (cellsO ⟨false, Pl.zeroN, []⟩ (.slice none 0 0)).toArray 86
  out : Mem.Blk W X (cellsO o v).toArray 86
  ownK : ownI W (w.heap.size + 1) vk ks
  own : ownI W (w.heap.size + 1) v o.parts
  txt : W.ownsRow (w.heap.size + 1) 9 1 vl L.length (L.map Value.string)
  farK : vk.ownBlock ≠ some X
  far : v.ownBlock ≠ some X
  farT : vl.ownBlock ≠ some X
theorem AtQ.call {w W W' : World} {X : Nat} {vk : Value} {ks : List Nat} {o : Pl.Ot} {v vl : Value} {L : List ByteArray} (h : AtQ w W X vk ks o v vl L) (b : Below W.heap.size W W') : AtQ w W' X vk ks o v vl L :=
  ⟨h.lt, h.bel.trans (b.mono h.bel.size), h.res.call b, h.out.call b, row_call h.ownK b, row_call h.own b, row_call h.txt b, h.farK, h.far, h.farT⟩
theorem row_set {w : World} {B e size n : Nat} {v : Value} {xs : List Value} (h : w.ownsRow B e size v n xs) (a : Addr) (u : Value) (ha : v.ownBlock ≠ some a.block) : (w.setCell a u).ownsRow B e size v n xs := by
  refine ⟨h.1, ?_⟩
  rcases h.2 with h0 | ⟨g, cap, cur, rfl, hb, hg, rest⟩
  · exact .inl h0
  · exact .inr ⟨g, cap, cur, rfl, hb, (heap_setCell_other w a g u (fun e => ha (by rw [← e]; rfl))).trans hg, rest⟩
/-- What is seen is stored. -/
theorem AtQ.put {w W : World} {X : Nat} {vk : Value} {ks : List Nat} {o : Pl.Ot} {v vl : Value} {L : List ByteArray} (h : AtQ w W X vk ks o v vl L) {o' : Pl.Ot} {v' : Value} (own' : ownI W (w.heap.size + 1) v' o'.parts) (far' : v'.ownBlock ≠ some X) :
    AtQ w (((((((W.setCell ⟨X, 0, none⟩ (.bool o'.ok)).setCell ⟨X, 1, none⟩ (.string o'.node.path)).setCell ⟨X, 2, none⟩ (.int .i64 o'.node.kind)).setCell ⟨X, 3, none⟩ (.string o'.node.data)).setCell ⟨X, 4, none⟩ (.int .i64 o'.node.time)).setCell ⟨X, 5, none⟩ (.int .i64 o'.node.mark)).setCell ⟨X, 6, none⟩ v') X vk ks o' v' vl L := by
  have hx : w.heap.size ≤ X := by have := h.lt; omega
  have hne : w.heap.size ≠ X := by have := h.lt; omega
  refine ⟨h.lt, ((((((h.bel.setCell (p := ⟨X, 0, none⟩) hx _).setCell (p := ⟨X, 1, none⟩) hx _).setCell (p := ⟨X, 2, none⟩) hx _).setCell (p := ⟨X, 3, none⟩) hx _).setCell (p := ⟨X, 4, none⟩) hx _).setCell (p := ⟨X, 5, none⟩) hx _).setCell (p := ⟨X, 6, none⟩) hx _, ((((((h.res.far ⟨X, 0, none⟩ _ hne).far ⟨X, 1, none⟩ _ hne).far ⟨X, 2, none⟩ _ hne).far ⟨X, 3, none⟩ _ hne).far ⟨X, 4, none⟩ _ hne).far ⟨X, 5, none⟩ _ hne).far ⟨X, 6, none⟩ _ hne, ?_, ?_, ?_, ?_, h.farK, far', h.farT⟩
  · have h2 := ((((((h.out.put 0 (.bool o'.ok)).put 1 (.string o'.node.path)).put 2 (.int .i64 o'.node.kind)).put 3 (.string o'.node.data)).put 4 (.int .i64 o'.node.time)).put 5 (.int .i64 o'.node.mark)).put 6 v'
    simp only [kB3] at h2
    exact h2
  · exact row_set (row_set (row_set (row_set (row_set (row_set (row_set h.ownK _ _ h.farK) _ _ h.farK) _ _ h.farK) _ _ h.farK) _ _ h.farK) _ _ h.farK) _ _ h.farK
  · exact row_set (row_set (row_set (row_set (row_set (row_set (row_set own' _ _ far') _ _ far') _ _ far') _ _ far') _ _ far') _ _ far') _ _ far'
  · exact row_set (row_set (row_set (row_set (row_set (row_set (row_set h.txt _ _ h.farT) _ _ h.farT) _ _ h.farT) _ _ h.farT) _ _ h.farT) _ _ h.farT) _ _ h.farT
theorem AtQ.next {w W : World} {X : Nat} {vk : Value} {ks : List Nat} {o : Pl.Ot} {v vl : Value} {L : List ByteArray} (h : AtQ w W X vk ks o v vl L) : AtQ w W X v o.parts o v vl L :=
  ⟨h.lt, h.bel, h.res, h.out, h.own, h.own, h.txt, h.far, h.far, h.farT⟩
/-- The numbers of those who have a part, one by one. -/
theorem ownI_cells {W : World} {B : Nat} {v : Value} {ks : List Nat} (h : ownI W B v ks) (hk : ks ≠ []) : ∃ g cap, v = .slice (some ⟨g, 0, none⟩) ks.length cap ∧ B ≤ g ∧ g < W.heap.size ∧ ∀ (i k : Nat), ks[i]? = some k → W.cell? ⟨g, i, none⟩ = some (.int .i64 (k : Int)) := by
  have hp := List.length_pos_iff.2 hk
  rcases h.2 with ⟨_, h0⟩ | ⟨g, cap, cur, hv, hb, hg, -⟩
  · omega
  subst hv
  refine ⟨g, cap, rfl, hb, (Array.getElem?_eq_some_iff.1 hg).1, fun i k hi => ?_⟩
  have := World.ownsRow.cells h (g := g) rfl i (.int .i64 (k : Int)) (by simp [intsV, hi])
  rw [Mem.add_lit] at this
  exact this
theorem ownI_new {W : World} {B : Nat} {v : Value} {ks : List Nat} (h : ownI W B v ks) {X : Nat} (hX : X < B) : v.ownBlock ≠ some X := fun e => by have := (World.ownsRow.lt h X e).1; omega
end WPick
namespace Pl
theorem way_get {L : List ByteArray} {j : Nat} (h : j < L.length) : (ways L L.length)[j]? = some (glue (L.take (j + 1))) := by simp [ways, h]
theorem way_join {L : List ByteArray} {j : Nat} {t : ByteArray} (hL : ∀ t ∈ L, nameB t = true) (h : L[j]? = some t) : joinN (glue (L.take j)) t = glue (L.take (j + 1)) := by
  have h1 := List.getElem?_eq_some_iff.1 h
  rw [joinN, names_glue (fun t ht => hL t (List.mem_of_mem_take ht)), List.take_succ_eq_append_getElem h1.1, h1.2]
theorem at_last {Ls : List (List Nd)} {ks : List Nat} {L : List ByteArray} {j : Nat} {o : Ot} (hj : j + 1 = L.length) (ho : childO Ls ks (glue (L.take (j + 1))) = o) : atW Ls ks ((ways L L.length).drop j) = if o.ok = true then o else zeroO := by
  have h1 := List.getElem?_eq_some_iff.1 (way_get (L := L) (j := j) (by omega))
  rw [List.drop_eq_getElem_cons h1.1, h1.2, List.drop_eq_nil_of_le (by rw [ways_len]; omega), atW, ho]
theorem at_more {Ls : List (List Nd)} {ks : List Nat} {L : List ByteArray} {j : Nat} {o : Ot} (hj : j + 1 < L.length) (ho : childO Ls ks (glue (L.take (j + 1))) = o) : atW Ls ks ((ways L L.length).drop j) = if o.ok = true ∧ o.node.kind = 1 then atW Ls o.parts ((ways L L.length).drop (j + 1)) else zeroO := by
  have h1 := List.getElem?_eq_some_iff.1 (way_get (L := L) (j := j) (by omega))
  have h2 := List.getElem?_eq_some_iff.1 (way_get (L := L) (j := j + 1) (by omega))
  rw [List.drop_eq_getElem_cons h1.1, h1.2, List.drop_eq_getElem_cons h2.1, h2.2, atW, ho]
end Pl
end Go.Proofs.YtkfpfckmjgjanabDoor

