/- The walks of levelUp and (nodeMap).at. -/
import Derived.Test.YtmmomfnejkjkjaaDoorPlainSight
import Derived.Test.YtmmomfnejkjkjaaDoorPartA
import Derived.Test.YtmmomfnejkjkjaaDoorWNodesI
import Derived.Test.YtmmomfnejkjkjaaDoorProg
import Derived.WalkKit
import Derived.WalkSpells
namespace Go.Proofs.YtmmomfnejkjkjaaDoor
open Go.RowKit Go.Maps
namespace WSight
set_option linter.unusedSimpArgs false in
set_option maxRecDepth 100000 in
set_option maxHeartbeats 2000000 in
theorem up_any (s : Pl.Sg) (w : World) (hh : s.have'.length = 4) (hm : 0 ≤ s.node.mark ∧ s.node.mark ≤ 1000) :
    Calls Tryd.prog 94 #[.agg s.cs.toArray] w fun e w' => e = .returned (.agg (Pl.upS s).cs.toArray) ∧ Below w.heap.size w w' := by
  obtain ⟨told, ⟨sp, sk, sd, st, sm⟩, hv⟩ := s
  obtain ⟨h0, h1, h2, h3, rfl⟩ : ∃ h0 h1 h2 h3, hv = [h0, h1, h2, h3] := by
    match hv, hh with
    | [a, b, c, d], _ => exact ⟨a, b, c, d, rfl⟩
  simp only at hm
  have hw : IntKind.i64.wrap (sm - 1) = sm - 1 := by simp only [IntKind.wrap_i64]; omega
  generalize hU : Pl.upS ⟨told, ⟨sp, sk, sd, st, sm⟩, [h0, h1, h2, h3]⟩ = U
  simp only [Pl.upS] at hU
  rw [show (Pl.Sg.cs ⟨told, ⟨sp, sk, sd, st, sm⟩, [h0, h1, h2, h3]⟩).toArray = #[.bool told, .string sp, .int .i64 sk, .string sd, .int .i64 st, .int .i64 sm, .bool h0, .bool h1, .bool h2, .bool h3] from rfl]
  by_cases h5 : sm - 1 < 0
  · have hM : max (sm - 1) 0 = 0 := by omega
    rw [hM] at hU
    by_cases hk : sk = 0
    · subst hk
      rw [if_pos ⟨rfl, rfl⟩] at hU
      have EU := hide hU.symm
      clear hU
      go_enter Tryd.func94, Tryd.ntmps94
      go_wp2
      refine bodyPost_ret (v := .agg #[.bool false, .string ⟨#[]⟩, .int .i64 0, .string ⟨#[]⟩, .int .i64 0, .int .i64 0, .bool false, .bool false, .bool false, .bool false]) (by simp [results, Tryd.results94, go_sem]) rfl ⟨by rw [unhide EU]; rfl, ?_⟩
      repeat first | exact Below.refl _ _ | refine Below.setCell ?_ (by simp) _ | refine Below.alloc ?_ (by simp) _
    · have t1 : (sk == 0) = false := by simpa using hk
      rw [if_neg (fun h => hk h.1)] at hU
      have EU := hide hU.symm
      clear hU
      go_enter Tryd.func94, Tryd.ntmps94
      go_wp2
      refine bodyPost_ret (v := .agg #[.bool told, .string sp, .int .i64 sk, .string sd, .int .i64 st, .int .i64 (0), .bool h0, .bool h1, .bool h2, .bool h3]) (by simp [results, Tryd.results94, go_sem]) rfl ⟨by rw [unhide EU]; rfl, ?_⟩
      repeat first | exact Below.refl _ _ | refine Below.setCell ?_ (by simp) _ | refine Below.alloc ?_ (by simp) _
  · have hM : max (sm - 1) 0 = sm - 1 := by omega
    rw [hM] at hU
    by_cases hk : sk = 0
    · subst hk
      by_cases h6 : sm = 1
      · subst h6
        rw [if_pos ⟨rfl, by omega⟩] at hU
        have EU := hide hU.symm
        clear hU
        go_enter Tryd.func94, Tryd.ntmps94
        go_wp2
        refine bodyPost_ret (v := .agg #[.bool false, .string ⟨#[]⟩, .int .i64 0, .string ⟨#[]⟩, .int .i64 0, .int .i64 0, .bool false, .bool false, .bool false, .bool false]) (by simp [results, Tryd.results94, go_sem]) rfl ⟨by rw [unhide EU]; rfl, ?_⟩
        repeat first | exact Below.refl _ _ | refine Below.setCell ?_ (by simp) _ | refine Below.alloc ?_ (by simp) _
      · have t2 : (sm - 1 == 0) = false := by simp; omega
        rw [if_neg (fun h => by omega)] at hU
        have EU := hide hU.symm
        clear hU
        go_enter Tryd.func94, Tryd.ntmps94
        go_wp2
        refine bodyPost_ret (v := .agg #[.bool told, .string sp, .int .i64 0, .string sd, .int .i64 st, .int .i64 (sm - 1), .bool h0, .bool h1, .bool h2, .bool h3]) (by simp [results, Tryd.results94, go_sem]) rfl ⟨by rw [unhide EU]; rfl, ?_⟩
        repeat first | exact Below.refl _ _ | refine Below.setCell ?_ (by simp) _ | refine Below.alloc ?_ (by simp) _
    · have t1 : (sk == 0) = false := by simpa using hk
      rw [if_neg (fun h => hk h.1)] at hU
      have EU := hide hU.symm
      clear hU
      go_enter Tryd.func94, Tryd.ntmps94
      go_wp2
      refine bodyPost_ret (v := .agg #[.bool told, .string sp, .int .i64 sk, .string sd, .int .i64 st, .int .i64 (sm - 1), .bool h0, .bool h1, .bool h2, .bool h3]) (by simp [results, Tryd.results94, go_sem]) rfl ⟨by rw [unhide EU]; rfl, ?_⟩
      repeat first | exact Below.refl _ _ | refine Below.setCell ?_ (by simp) _ | refine Below.alloc ?_ (by simp) _
set_option linter.unusedSimpArgs false in
set_option maxRecDepth 100000 in
set_option maxHeartbeats 2000000 in
theorem at_some (B N : Nat) (D : DataW Unit) (p : ByteArray) (m : Pl.Nd) (w : World) (hp : p.size ≤ 1048576) (hown : w.ownsMap Tryd.prog 9 MapN.elem B N D) (h1 : D.atKey (MapN.key p) (MapN.dat ⟨⟨#[]⟩, 0, ⟨#[]⟩, 0, 0⟩) = MapN.dat m) (t : Bool) (h2 : Maps.has D (MapN.key p) = t) :
    Calls Tryd.prog 137 #[.map (some B), .string p] w fun e w' => e = .returned (.tuple #[m.val, .bool t]) ∧ Below w.heap.size w w' := by
  have hkey := MapN.keyOf_mk (p := p) (by unfold maxLen; omega)
  have HM := hide (WNodesI.map_call hown ((Below.refl _ _).alloc (Nat.le_refl _) (.cells #[.string ⟨#[]⟩, .int .i64 0, .string ⟨#[]⟩, .int .i64 0, .int .i64 0] 27)))
  have ha := hide h1
  have ha2 := hide h2
  clear h1 h2 hown
  obtain ⟨mp, mk, md, mt, mm⟩ := m
  go_enter Tryd.func137, Tryd.ntmps137
  go_wp2_with (at_lookup; refine MapN.look_ok _ rfl _ _ 110 rfl 9 27 MapN.law Tryd.underlying110 (MapN.zeroN _) B N D rfl (unhide HM) _ _ rfl hkey ⟨mp, mk, md, mt, mm⟩ (unhide ha) t (unhide ha2) ?_)
  refine bodyPost_ret (v := .tuple #[.agg #[.string mp, .int .i64 mk, .string md, .int .i64 mt, .int .i64 mm], .bool t]) (by simp [results, Tryd.results137, go_sem]) rfl ⟨rfl, ?_⟩
  repeat first | exact Below.refl _ _ | refine Below.setCell ?_ (by simp) _ | refine Below.alloc ?_ (by simp) _
end WSight
end Go.Proofs.YtmmomfnejkjkjaaDoor
