/- The walk of the specification's CanFlatter. -/
import Derived.Test.YteddcihodfkliabGreatDoorWLast6
namespace Go.Proofs.YteddcihodfkliabGreatDoor
open Go.RowKit
namespace WFlatS
theorem last_neg {K : Pl.Fx} (h : K.flatK = none) : lastI K = -1 := by unfold lastI; rw [h]
theorem last_pos {K K' : Pl.Fx} (h : K.flatK = some K') : lastI K = ((1 + K.splitL.1.sz : Nat) : Int) := by unfold lastI; rw [h]
set_option linter.unusedSimpArgs false in
set_option maxRecDepth 100000 in
set_option maxHeartbeats 1000000 in
theorem can_any (a : Option Addr) (cap : Nat) (Is : List Pl.It) (w : World) (hl : Is.length ≤ 1048576) (hv : Mem.isItems w a Is) (hok : ∀ x ∈ Is, x.t.L.length ≤ 1048576 ∧ ∀ n ∈ x.t.L, n.path.size ≤ 1048576 ∧ n.data.size ≤ 1048576) :
    Calls Tryz.prog 20 #[.slice a Is.length cap] w fun e w' => e = .returned (.bool (decide (Pl.flatC (Is.map Pl.It.r) = 0))) ∧ Below w.heap.size w w' := by
  have hxl : (Is.map Pl.It.r).length = Is.length := List.length_map ..
  by_cases h400 : 400 < Is.length
  · have t0 : ¬ (Is.length : Int) ≤ 400 := by omega
    have e1 := (Pl.flat_long (xs := Is.map Pl.It.r) (by omega)).1
    rw [e1, show decide ((2 : Int) = 0) = false from rfl]
    clear e1 hv hok hxl
    go_enter Tryz.func20, Tryz.ntmps20
    go_wp2
    go_ret
    exact ⟨rfl, Below.refl _ _⟩
  have t0 : (Is.length : Int) ≤ 400 := by omega
  have hnr := hide (WNestS.right_any a cap Is w hl hv hok)
  cases hF : Pl.nest (Pl.rowO (Is.map Pl.It.r)) with
  | none =>
    have e1 := (Pl.flat_bad (xs := Is.map Pl.It.r) (by omega) hF).1
    rw [e1, show decide ((1 : Int) = 0) = false from rfl]
    rw [hF] at hnr
    clear e1 hv hok hxl hF
    go_enter Tryz.func20, Tryz.ntmps20
    go_wp2_with fail
    refine (unhide hnr).mono ?_
    rintro e w1 ⟨rfl, b1⟩
    clear hnr
    go_wp2
    go_ret
    exact ⟨rfl, b1⟩
  | some F =>
    obtain ⟨L, k, hks, hfl, hko, hnx⟩ := Pl.nest_fill hF
    have hl12 := Pl.nest_len hF
    rw [hF] at hnr
    have hd : k.shape.depth ≤ 3 := by rw [hks]; exact (Pl.nest_yes hF).2.2
    have hla := hide (fun W (b : Below w.heap.size w W) => last_any a cap Is (by omega) hok L k W hko hd hfl (Mem.items_call hv b))
    cases hK : k.flatK with
    | none =>
      rw [last_neg hK] at hla
      have e1 := (Pl.flat_none hl12 hnx hK).1
      rw [e1, show decide ((10 : Int) = 0) = false from rfl]
      clear e1 hv hok hxl hF hks hfl hko hnx hK hd
      go_enter Tryz.func20, Tryz.ntmps20
      go_wp2_with fail
      refine (unhide hnr).mono ?_
      rintro e w1 ⟨rfl, b1⟩
      clear hnr
      go_wp2_with fail
      refine (unhide hla _ b1).mono ?_
      rintro e w2 ⟨rfl, b2⟩
      have bb := b1.trans (b2.mono b1.size)
      clear hla b1 b2
      go_wp2
      go_ret
      exact ⟨rfl, bb⟩
    | some K' =>
      rw [last_pos hK] at hla
      have e1 := (Pl.flat_some hl12 hnx hK).1
      rw [e1, show decide ((0 : Int) = 0) = true from rfl]
      generalize 1 + k.splitL.1.sz = kk at hla
      have u1 : (0 : Int) ≤ (kk : Int) := by omega
      clear e1 hv hok hxl hF hks hfl hko hnx hK hd
      go_enter Tryz.func20, Tryz.ntmps20
      go_wp2_with fail
      refine (unhide hnr).mono ?_
      rintro e w1 ⟨rfl, b1⟩
      clear hnr
      go_wp2_with fail
      refine (unhide hla _ b1).mono ?_
      rintro e w2 ⟨rfl, b2⟩
      have bb := b1.trans (b2.mono b1.size)
      clear hla b1 b2
      go_wp2
      go_ret
      exact ⟨rfl, bb⟩
end WFlatS
end Go.Proofs.YteddcihodfkliabGreatDoor
