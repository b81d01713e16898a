/- Several texts of one claim in one file: WNodesI, MapLook, WNodeAt, WLevelUp, WLayS, WNodesJ, WOverI. -/
import Derived.Test.YtmohbgmbknfaiaaGreatDoorG27
import Derived.Test.YtmohbgmbknfaiaaGreatDoorG04
import Derived.Test.YtmohbgmbknfaiaaGreatDoorG07
import Derived.Test.YtmohbgmbknfaiaaGreatDoorG25
import Derived.Test.YtmohbgmbknfaiaaGreatDoorWParentI
import Derived.Deep.QuietTactic
import Derived.BigQuiet
import Derived.Deep.RegionHeld3
import Derived.Maps.OwnSet
import Derived.Test.YtmohbgmbknfaiaaGreatDoorG02
import Derived.Test.YtmohbgmbknfaiaaGreatDoorG00
import Derived.Test.YtmohbgmbknfaiaaGreatDoorProg
import Derived.WalkKit
import Derived.WalkSpells
import Derived.Test.YtmohbgmbknfaiaaGreatDoorG23
import Derived.Test.YtmohbgmbknfaiaaGreatDoorWTreeR
import Derived.Test.YtmohbgmbknfaiaaGreatDoorG13
/- The walks of the program's parentFault, nodesOf and TreeRight. -/
namespace Go.Proofs.YtmohbgmbknfaiaaGreatDoor
open Go.RowKit Go.Maps
namespace Pl
/-- What stands in the way of a path, as its parent is. -/
def parV (e2 e3 : Value) (C : List Nd) (p : ByteArray) : Value :=
  if (parentP p).size = 0 then .nilIface else match C.find? (fun m => decide (m.path = parentP p)) with | none => e2 | some m => if m.kind = 1 then .nilIface else e3
theorem par_ok {C : List Nd} {p : ByteArray} {u2 u3 : TypeId} {x2 x3 : Value} (hC : C.Pairwise (fun a b => a.path ≠ b.path)) :
    (parI C p = true ∧ parV (.iface u2 x2) (.iface u3 x3) C p = .nilIface) ∨ (parI C p = false ∧ ∃ u x, parV (.iface u2 x2) (.iface u3 x3) C p = .iface u x) := by
  unfold parV parI
  by_cases h0 : (parentP p).size = 0
  · left; simp [h0]
  simp only [h0, decide_false, Bool.false_or, if_false]
  cases hf : C.find? (fun m => decide (m.path = parentP p)) with
  | none =>
    right
    refine ⟨?_, u2, x2, rfl⟩
    rw [List.any_eq_false]
    intro m hm
    have := List.find?_eq_none.1 hf m hm
    simp at this
    simp [this]
  | some m =>
    have h1 := List.mem_of_find?_eq_some hf
    have h2 : m.path = parentP p := by simpa using List.find?_some hf
    by_cases hk : m.kind = 1
    · left
      refine ⟨?_, by simp [hk]⟩
      rw [List.any_eq_true]
      exact ⟨m, h1, by simp [h2, hk]⟩
    · right
      refine ⟨?_, u3, x3, by simp [hk]⟩
      rw [List.any_eq_false]
      intro x hx
      simp only [Bool.and_eq_true, decide_eq_true_eq, not_and]
      intro hxp
      have : x = m := by
        have hp : ∀ {A : List Nd}, A.Pairwise (fun a b => a.path ≠ b.path) → ∀ {a b : Nd}, a ∈ A → b ∈ A → a.path = b.path → a = b := by
          intro A hA
          induction hA with
          | nil => intro a b ha; cases ha
          | cons hx' _ ih =>
            intro a b ha hb e
            rcases List.mem_cons.1 ha with e1 | h1
            · rcases List.mem_cons.1 hb with e2 | h2
              · rw [e1, e2]
              · exact absurd (e1 ▸ e) (hx' _ h2)
            · rcases List.mem_cons.1 hb with e2 | h2
              · exact absurd (e2 ▸ e).symm (hx' _ h1)
              · exact ih h1 h2 e
        exact hp hC hx h1 (hxp.trans h2.symm)
      rw [this]; exact hk
end Pl
namespace MapN
section
variable {P : Program} (w : World) {ops : Array Oper} {rest : List Oper} {o : Oper} {a : Act} {Q : Exit → Act → World → Prop}
/-- 'n, ok := all[path]'. -/
theorem look_ok (hg : o.guard = none) (m x : Operand) (t : TypeId) (hop : o.op = Op.lookup t m x true)
    (k e : TypeId) (K : Keyed P k) (ht : P.underlying t = some (.map k e)) (hz : (zeroValue e).run P w = .ok (Pl.Nd.val ⟨⟨#[]⟩, 0, ⟨#[]⟩, 0, 0⟩) w) (b n : Nat) (D : DataW Unit)
    (hm : a.eval m = .map (some b)) (hown : w.ownsMap P k elem b n D) (kv : Value) (kl : Lit) (hx : a.eval x = kv) (hkey : keyOf P k kv = some kl) (nd : Pl.Nd) (hat : D.atKey kl (dat ⟨⟨#[]⟩, 0, ⟨#[]⟩, 0, 0⟩) = dat nd) (r : Bool) (hr : Maps.has D kl = r)
    (hK : wpList P ops Q rest (a.put o.dst (.tuple #[.agg #[.string nd.path, .int .i64 nd.kind, .string nd.data, .int .i64 nd.time, .int .i64 nd.mark], .bool r])) w) :
    wpList P ops Q (o :: rest) a w :=
  wpList_lookup_own_ok w hg m x t hop k e K ht elem hz _ [] (elem_mk _) b n D hm hown kv kl hx hkey (fun v ps hv => by
    obtain ⟨n1, rfl, hd⟩ := elem_inv hv
    obtain rfl := dat_inj (hat.symm.trans hd)
    rw [hr]
    exact hK)
end
end MapN
namespace WNodesI
/-- Three errors of the program's own: each is there, and none is nil. -/
structure Errs (w : World) (u1 u2 u3 : TypeId) (x1 x2 x3 : Value) : Prop where
  c1 : w.cell? ⟨0, 0, none⟩ = some (.iface u1 x1)
  c2 : w.cell? ⟨2, 0, none⟩ = some (.iface u2 x2)
  c3 : w.cell? ⟨3, 0, none⟩ = some (.iface u3 x3)
theorem Errs.call {w w' : World} {u1 u2 u3 : TypeId} {x1 x2 x3 : Value} (h : Errs w u1 u2 u3 x1 x2 x3) (b : Below w.heap.size w w') : Errs w' u1 u2 u3 x1 x2 x3 :=
  ⟨(b.cell (p := ⟨_, 0, none⟩) (World.block_lt_of_cell? w ⟨_, 0, none⟩ h.c1)).trans h.c1, (b.cell (p := ⟨_, 0, none⟩) (World.block_lt_of_cell? w ⟨_, 0, none⟩ h.c2)).trans h.c2, (b.cell (p := ⟨_, 0, none⟩) (World.block_lt_of_cell? w ⟨_, 0, none⟩ h.c3)).trans h.c3⟩
theorem map_call {w w' : World} {B n : Nat} {D : DataW Unit} (h : w.ownsMap Tryz.prog 9 MapN.elem B n D) (b : Below w.heap.size w w') : w'.ownsMap Tryz.prog 9 MapN.elem B n D :=
  h.kept (row := none) ⟨b.os, b.tape, b.output, b.size, fun k hk _ => b.block k hk⟩ (by simp)
set_option maxRecDepth 100000 in
set_option maxHeartbeats 400000 in
theorem fault_any (B N : Nat) (C : List Pl.Nd) (p : ByteArray) (w : World) (u1 u2 u3 : TypeId) (x1 x2 x3 : Value) (hE : Errs w u1 u2 u3 x1 x2 x3) (hown : w.ownsMap Tryz.prog 9 MapN.elem B N (MapN.mapOf C)) (hC : C.Pairwise (fun a b => a.path ≠ b.path)) (hp : p.size ≤ 1048576) :
    Calls Tryz.prog 136 #[.map (some B), .string p] w fun e w' => e = .returned (Pl.parV (.iface u2 x2) (.iface u3 x3) C p) ∧ Below w.heap.size w w' := by
  have hpa := hide (WPathI.parent_any p w hp)
  have hz := hide (show (Pl.parentP p).size ≤ 1048576 from by
    have h1 := Pl.namesR_all p
    have h2 := Pl.glue_size (Pl.namesR p).dropLast (fun t ht => (Pl.name_free (h1.1 t (List.dropLast_subset _ ht))).2.2.2)
    rw [List.length_dropLast] at h2
    show (Pl.glue (Pl.namesR p).dropLast).size ≤ 1048576
    omega)
  change Hid (Calls Tryz.prog _ _ w fun e w' => e = .returned (.string (Pl.parentP p)) ∧ _) at hpa
  have E1 : Hid ((Pl.parentP p).size = 0 → Pl.parV (.iface u2 x2) (.iface u3 x3) C p = .nilIface) := fun h => by simp [Pl.parV, h]
  have E2 : Hid ((Pl.parentP p).size ≠ 0 → C.find? (fun m => decide (m.path = Pl.parentP p)) = none → Pl.parV (.iface u2 x2) (.iface u3 x3) C p = .iface u2 x2) := fun h hf => by simp [Pl.parV, h, hf]
  have E3 : Hid ((Pl.parentP p).size ≠ 0 → ∀ m, C.find? (fun m => decide (m.path = Pl.parentP p)) = some m → Pl.parV (.iface u2 x2) (.iface u3 x3) C p = if m.kind = 1 then .nilIface else .iface u3 x3) := fun h m hf => by simp [Pl.parV, h, hf]
  generalize Pl.parV (.iface u2 x2) (.iface u3 x3) C p = R at E1 E2 E3 ⊢
  generalize Pl.parentP p = q at hpa hz E1 E2 E3
  have HE := hide hE
  have HM := hide hown
  clear hE hown
  go_enter Tryz.func136, Tryz.ntmps136
  go_wp2_with fail
  refine (unhide hpa).mono ?_
  rintro e w1 ⟨rfl, b1⟩
  have hE1 := (unhide HE).call b1
  have hM1 := hide (map_call (unhide HM) b1)
  have k2 : ∀ o, (w1.alloc o).cell? ⟨2, 0, none⟩ = some (.iface u2 x2) := fun o => (World.cell?_alloc_some _ _ _ (by rw [hE1.c2]; rfl)).trans hE1.c2
  have k3 : ∀ o, (w1.alloc o).cell? ⟨3, 0, none⟩ = some (.iface u3 x3) := fun o => (World.cell?_alloc_some _ _ _ (by rw [hE1.c3]; rfl)).trans hE1.c3
  clear HE HM hpa hE1
  by_cases h0 : q.size = 0
  · have t0 : q.toList.isEmpty = true := by rw [Pl.empty_list]; simpa [Pl.by_nil] using h0
    have E := hide (unhide E1 h0)
    go_wp2
    go_ret
    exact ⟨by rw [unhide E]; rfl, b1⟩
  have t0 : q.toList.isEmpty = false := by rw [Pl.empty_list]; simpa [Pl.by_nil] using h0
  have hkey := MapN.keyOf_mk (p := q) (by have := unhide hz; unfold maxLen; omega)
  cases hf : C.find? (fun m => decide (m.path = q)) with
  | none =>
    have E := hide (unhide E2 h0 hf)
    have hmiss : ∀ n ∈ C, n.path ≠ q := fun n hn => by simpa using List.find?_eq_none.1 hf n hn
    have ha := hide (MapN.has_no hmiss)
    have ha2 := hide (Maps.atKey_of_not_has (unhide ha) (MapN.dat ⟨⟨#[]⟩, 0, ⟨#[]⟩, 0, 0⟩))
    clear E1 E2 E3 hf hmiss
    go_wp2_with (at_lookup; refine MapN.look_ok _ rfl _ _ 70 rfl 9 34 MapN.law Tryz.underlying70 (MapN.zeroN _) B N (MapN.mapOf C) rfl (unhide hM1) _ _ rfl hkey ⟨⟨#[]⟩, 0, ⟨#[]⟩, 0, 0⟩ (unhide ha2) false (unhide ha) ?_)
    go_ret
    exact ⟨by rw [unhide E]; rfl, b1.alloc b1.size _⟩
  | some m =>
    have E := hide (unhide E3 h0 m hf)
    have hm1 := List.mem_of_find?_eq_some hf
    have hm2 : m.path = q := by simpa using List.find?_some hf
    obtain ⟨y1, y2⟩ := MapN.at_yes hC hm1
    rw [hm2] at y1 y2
    have ha := hide y1
    have ha2 := hide (y2 (MapN.dat ⟨⟨#[]⟩, 0, ⟨#[]⟩, 0, 0⟩))
    clear E1 E2 E3 hf y1 y2 hm1 hm2
    by_cases hk : m.kind = 1
    · have E' := hide (show R = .nilIface by rw [unhide E, if_pos hk])
      have t1 : (m.kind == 1) = true := by simpa using hk
      clear E hk
      go_wp2_with (at_lookup; refine MapN.look_ok _ rfl _ _ 70 rfl 9 34 MapN.law Tryz.underlying70 (MapN.zeroN _) B N (MapN.mapOf C) rfl (unhide hM1) _ _ rfl hkey m (unhide ha2) true (unhide ha) ?_)
      go_ret
      exact ⟨by rw [unhide E']; rfl, b1.alloc b1.size _⟩
    · have E' := hide (show R = .iface u3 x3 by rw [unhide E, if_neg hk])
      have t1 : (m.kind == 1) = false := by simpa using hk
      clear E hk
      go_wp2_with (at_lookup; refine MapN.look_ok _ rfl _ _ 70 rfl 9 34 MapN.law Tryz.underlying70 (MapN.zeroN _) B N (MapN.mapOf C) rfl (unhide hM1) _ _ rfl hkey m (unhide ha2) true (unhide ha) ?_)
      go_ret
      exact ⟨by rw [unhide E']; rfl, b1.alloc b1.size _⟩
end WNodesI
end Go.Proofs.YtmohbgmbknfaiaaGreatDoor

/- 'm[k]' at nodes, as a statement of its own. -/
namespace Go.Proofs.YtmohbgmbknfaiaaGreatDoor
open Go.RowKit Go.Maps
namespace MapN
/-- 'all[path]', as a statement of its own. -/
theorem look_no {P : Program} (w : World) {ops : Array Oper} {rest : List Oper} {o : Oper} {a : Act} {Q : Exit → Act → World → Prop} (hg : o.guard = none) (m x : Operand) (t : TypeId) (hop : o.op = Op.lookup t m x false)
    (k e : TypeId) (K : Keyed P k) (ht : P.underlying t = some (.map k e)) (hz : (zeroValue e).run P w = .ok (Pl.Nd.val ⟨⟨#[]⟩, 0, ⟨#[]⟩, 0, 0⟩) w) (b n : Nat) (D : DataW Unit)
    (hm : a.eval m = .map (some b)) (hown : w.ownsMap P k elem b n D) (kv : Value) (kl : Lit) (hx : a.eval x = kv) (hkey : keyOf P k kv = some kl) (nd : Pl.Nd) (hat : D.atKey kl (dat ⟨⟨#[]⟩, 0, ⟨#[]⟩, 0, 0⟩) = dat nd)
    (hK : wpList P ops Q rest (a.put o.dst (.agg #[.string nd.path, .int .i64 nd.kind, .string nd.data, .int .i64 nd.time, .int .i64 nd.mark])) w) :
    wpList P ops Q (o :: rest) a w := by
  refine wpList_plain hg fun K' hK' => ?_
  obtain ⟨v, ps, hrun, hv⟩ := hown.lookup K ht hz (elem_mk _) hkey
  obtain ⟨n1, rfl, hd⟩ := elem_inv hv
  obtain rfl := dat_inj (hat.symm.trans hd)
  unfold Oper.wp
  simp [execOp, hop, hm, hx, hrun, Result.andThen]
  exact hK' _ _ hK
end MapN
end Go.Proofs.YtmohbgmbknfaiaaGreatDoor

/- (nodeMap).at: the node that a map has at a path. -/
namespace Go.Proofs.YtmohbgmbknfaiaaGreatDoor
open Go.RowKit Go.Maps
namespace WSight
set_option linter.unusedSimpArgs false in
set_option maxRecDepth 100000 in
set_option maxHeartbeats 2000000 in
theorem at_some (B N : Nat) (D : DataW Unit) (p : ByteArray) (m : Pl.Nd) (w : World) (hp : p.size ≤ 1048576) (hown : w.ownsMap Tryz.prog 9 MapN.elem B N D) (h1 : D.atKey (MapN.key p) (MapN.dat ⟨⟨#[]⟩, 0, ⟨#[]⟩, 0, 0⟩) = MapN.dat m) (t : Bool) (h2 : Maps.has D (MapN.key p) = t) :
    Calls Tryz.prog 233 #[.map (some B), .string p] w fun e w' => e = .returned (.tuple #[m.val, .bool t]) ∧ Below w.heap.size w w' := by
  have hkey := MapN.keyOf_mk (p := p) (by unfold maxLen; omega)
  have HM := hide (WNodesI.map_call hown ((Below.refl _ _).alloc (Nat.le_refl _) (.cells #[.string ⟨#[]⟩, .int .i64 0, .string ⟨#[]⟩, .int .i64 0, .int .i64 0] 34)))
  have ha := hide h1
  have ha2 := hide h2
  clear h1 h2 hown
  obtain ⟨mp, mk, md, mt, mm⟩ := m
  go_enter Tryz.func233, Tryz.ntmps233
  go_wp2_with (at_lookup; refine MapN.look_ok _ rfl _ _ 70 rfl 9 34 MapN.law Tryz.underlying70 (MapN.zeroN _) B N D rfl (unhide HM) _ _ rfl hkey ⟨mp, mk, md, mt, mm⟩ (unhide ha) t (unhide ha2) ?_)
  refine bodyPost_ret (v := .tuple #[.agg #[.string mp, .int .i64 mk, .string md, .int .i64 mt, .int .i64 mm], .bool t]) (by simp [results, Tryz.results233, go_sem]) rfl ⟨rfl, ?_⟩
  repeat first | exact Below.refl _ _ | refine Below.setCell ?_ (by simp) _ | refine Below.alloc ?_ (by simp) _
end WSight
end Go.Proofs.YtmohbgmbknfaiaaGreatDoor

/- The walks of levelUp and (nodeMap).at. -/
namespace Go.Proofs.YtmohbgmbknfaiaaGreatDoor
open Go.RowKit Go.Maps
namespace WSight
set_option linter.unusedSimpArgs false in
set_option maxRecDepth 100000 in
set_option maxHeartbeats 2000000 in
theorem up_any (s : Pl.Sg) (w : World) (hh : s.have'.length = 4) (hm : 0 ≤ s.node.mark ∧ s.node.mark ≤ 1000) :
    Calls Tryz.prog 194 #[.agg s.cs.toArray] w fun e w' => e = .returned (.agg (Pl.upS s).cs.toArray) ∧ Below w.heap.size w w' := by
  obtain ⟨told, ⟨sp, sk, sd, st, sm⟩, hv⟩ := s
  obtain ⟨h0, h1, h2, h3, rfl⟩ : ∃ h0 h1 h2 h3, hv = [h0, h1, h2, h3] := by
    match hv, hh with
    | [a, b, c, d], _ => exact ⟨a, b, c, d, rfl⟩
  simp only at hm
  have hw : IntKind.i64.wrap (sm - 1) = sm - 1 := by simp only [IntKind.wrap_i64]; omega
  generalize hU : Pl.upS ⟨told, ⟨sp, sk, sd, st, sm⟩, [h0, h1, h2, h3]⟩ = U
  simp only [Pl.upS] at hU
  rw [show (Pl.Sg.cs ⟨told, ⟨sp, sk, sd, st, sm⟩, [h0, h1, h2, h3]⟩).toArray = #[.bool told, .string sp, .int .i64 sk, .string sd, .int .i64 st, .int .i64 sm, .bool h0, .bool h1, .bool h2, .bool h3] from rfl]
  by_cases h5 : sm - 1 < 0
  · have hM : max (sm - 1) 0 = 0 := by omega
    rw [hM] at hU
    by_cases hk : sk = 0
    · subst hk
      rw [if_pos ⟨rfl, rfl⟩] at hU
      have EU := hide hU.symm
      clear hU
      go_enter Tryz.func194, Tryz.ntmps194
      go_wp2
      refine bodyPost_ret (v := .agg #[.bool false, .string ⟨#[]⟩, .int .i64 0, .string ⟨#[]⟩, .int .i64 0, .int .i64 0, .bool false, .bool false, .bool false, .bool false]) (by simp [results, Tryz.results194, go_sem]) rfl ⟨by rw [unhide EU]; rfl, ?_⟩
      repeat first | exact Below.refl _ _ | refine Below.setCell ?_ (by simp) _ | refine Below.alloc ?_ (by simp) _
    · have t1 : (sk == 0) = false := by simpa using hk
      rw [if_neg (fun h => hk h.1)] at hU
      have EU := hide hU.symm
      clear hU
      go_enter Tryz.func194, Tryz.ntmps194
      go_wp2
      refine bodyPost_ret (v := .agg #[.bool told, .string sp, .int .i64 sk, .string sd, .int .i64 st, .int .i64 (0), .bool h0, .bool h1, .bool h2, .bool h3]) (by simp [results, Tryz.results194, go_sem]) rfl ⟨by rw [unhide EU]; rfl, ?_⟩
      repeat first | exact Below.refl _ _ | refine Below.setCell ?_ (by simp) _ | refine Below.alloc ?_ (by simp) _
  · have hM : max (sm - 1) 0 = sm - 1 := by omega
    rw [hM] at hU
    by_cases hk : sk = 0
    · subst hk
      by_cases h6 : sm = 1
      · subst h6
        rw [if_pos ⟨rfl, by omega⟩] at hU
        have EU := hide hU.symm
        clear hU
        go_enter Tryz.func194, Tryz.ntmps194
        go_wp2
        refine bodyPost_ret (v := .agg #[.bool false, .string ⟨#[]⟩, .int .i64 0, .string ⟨#[]⟩, .int .i64 0, .int .i64 0, .bool false, .bool false, .bool false, .bool false]) (by simp [results, Tryz.results194, go_sem]) rfl ⟨by rw [unhide EU]; rfl, ?_⟩
        repeat first | exact Below.refl _ _ | refine Below.setCell ?_ (by simp) _ | refine Below.alloc ?_ (by simp) _
      · have t2 : (sm - 1 == 0) = false := by simp; omega
        rw [if_neg (fun h => by omega)] at hU
        have EU := hide hU.symm
        clear hU
        go_enter Tryz.func194, Tryz.ntmps194
        go_wp2
        refine bodyPost_ret (v := .agg #[.bool told, .string sp, .int .i64 0, .string sd, .int .i64 st, .int .i64 (sm - 1), .bool h0, .bool h1, .bool h2, .bool h3]) (by simp [results, Tryz.results194, go_sem]) rfl ⟨by rw [unhide EU]; rfl, ?_⟩
        repeat first | exact Below.refl _ _ | refine Below.setCell ?_ (by simp) _ | refine Below.alloc ?_ (by simp) _
    · have t1 : (sk == 0) = false := by simpa using hk
      rw [if_neg (fun h => hk h.1)] at hU
      have EU := hide hU.symm
      clear hU
      go_enter Tryz.func194, Tryz.ntmps194
      go_wp2
      refine bodyPost_ret (v := .agg #[.bool told, .string sp, .int .i64 sk, .string sd, .int .i64 st, .int .i64 (sm - 1), .bool h0, .bool h1, .bool h2, .bool h3]) (by simp [results, Tryz.results194, go_sem]) rfl ⟨by rw [unhide EU]; rfl, ?_⟩
      repeat first | exact Below.refl _ _ | refine Below.setCell ?_ (by simp) _ | refine Below.alloc ?_ (by simp) _
end WSight
end Go.Proofs.YtmohbgmbknfaiaaGreatDoor

/- The walk of the specification's LayersRight. -/
namespace Go.Proofs.YtmohbgmbknfaiaaGreatDoor
open Go.RowKit
namespace WLayS
set_option linter.unusedSimpArgs false in
set_option maxRecDepth 100000 in
set_option maxHeartbeats 1000000 in
theorem any (a : Option Addr) (cap : Nat) (Ts : List Pl.Tr) (w : World) (hl : Ts.length ≤ 1048576) (hv : Mem.isTrees w a Ts) (hok : ∀ t ∈ Ts, t.L.length ≤ 1048576 ∧ ∀ n ∈ t.L, n.path.size ≤ 1048576 ∧ n.data.size ≤ 1048576) :
    Calls Tryz.prog 37 #[.agg #[.slice a Ts.length cap]] w fun e w' => e = .returned (.bool (Pl.layB (Ts.map (·.L)))) ∧ Below w.heap.size w w' := by
  have b0 : Below w.heap.size w (w.alloc (.cells #[.slice a Ts.length cap] 25)) := (Below.refl _ _).alloc (Nat.le_refl _) _
  have A0 := Mem.Blk.new w #[.slice a Ts.length cap] 25
  have HT := hide (fun (t : Pl.Tr) (k : Nat) (hk : Ts[k]? = some t) W (b : Below w.heap.size w W) => WTreeS.right_tree t.a t.cap t.L W (hok t (List.mem_of_getElem? hk)).1 (Mem.nodes_call (hv k t hk).2 b) (hok t (List.mem_of_getElem? hk)).2)
  have HV := hide hv
  have HF : Hid (∀ (t : Pl.Tr) (k : Nat), Ts[k]? = some t → Pl.treeB t.L = false → Pl.layB (Ts.map (·.L)) = false) := fun t k hk hq => by
    have : (Ts.map (·.L)).all Pl.treeB = false := by
      rw [List.all_eq_false]
      exact ⟨t.L, List.mem_map.2 ⟨t, List.mem_of_getElem? hk, rfl⟩, by rw [hq]; simp⟩
    rw [Pl.layB, this, Bool.and_false]
  have HQ : Hid (∀ k, k ≤ Ts.length → (∀ (j : Nat) t, j < k → Ts[j]? = some t → Pl.treeB t.L = true) → ¬ (k < Ts.length ∧ k ≤ 4) → k ≤ 5 → Pl.layB (Ts.map (·.L)) = (decide ((1 : Int) ≤ (Ts.length : Int)) && decide ((Ts.length : Int) ≤ 4))) := fun k hk hA hn hk5 => by
    rw [Pl.layB, List.length_map]
    by_cases h4 : Ts.length ≤ 4
    · have hkl : k = Ts.length := by omega
      have : (Ts.map (·.L)).all Pl.treeB = true := by
        rw [List.all_eq_true]
        intro x hx
        obtain ⟨t, ht, rfl⟩ := List.mem_map.1 hx
        obtain ⟨j, hj⟩ := List.mem_iff_getElem?.1 ht
        exact hA j t (by have := (List.getElem?_eq_some_iff.1 hj).1; omega) hj
      rw [this, Bool.and_true]
      congr 1
      · exact decide_eq_decide.2 (by omega)
      · exact decide_eq_decide.2 (by omega)
    · rw [show decide (Ts.length ≤ 4) = false from decide_eq_false h4, show decide ((Ts.length : Int) ≤ 4) = false from decide_eq_false (by omega)]
      simp
  clear hv hok
  generalize Pl.layB (Ts.map (·.L)) = V at HF HQ ⊢
  go_enter Tryz.func37, Tryz.ntmps37
  go_wp2
  go_loopw [3] (fun i wr => ∃ (k : Nat), k ≤ Ts.length ∧ k ≤ 5 ∧ i = .int .i64 (k : Int) ∧ Below w.heap.size w wr ∧ Hid (Mem.Blk wr w.heap.size #[.slice a Ts.length cap] 25) ∧ Hid (∀ (j : Nat) t, j < k → Ts[j]? = some t → Pl.treeB t.L = true)) (fun i _ => Ts.length - (intOf i).toNat)
  case atStart => exact ⟨0, Nat.zero_le _, by omega, rfl, b0, A0, fun j t h => absurd h (by omega)⟩
  case round =>
    obtain ⟨k, hk, hk5, rfl, hbel, HB, HA⟩ := hrel
    have c0 := HB.out.cell 0
    simp only [kA0, kA1] at c0
    by_cases hlt : k < Ts.length ∧ k ≤ 4
    · obtain ⟨t, ht⟩ : ∃ t, Ts[k]? = some t := ⟨_, List.getElem?_eq_getElem hlt.1⟩
      obtain ⟨⟨b, o, rfl, hb, q0⟩, -⟩ := (unhide HV) k t ht
      have c1 := (hbel.cell (p := ⟨b, _, none⟩) hb).trans q0
      have hz := hide (fun W b => unhide HT t k ht W b)
      have HN := hide ht
      have u1 : (k : Int) < (Ts.length : Int) := by omega
      have u2 : (k : Int) ≤ 4 := by omega
      have u3 : (0 : Int) ≤ (k : Int) := by omega
      simp only [Pl.Tr.val] at c1
      clear q0 ht
      go_wp2_with fail
      refine (unhide hz _ hbel).mono ?_
      rintro e w1 ⟨rfl, b1⟩
      have hb2 := hbel.trans (b1.mono hbel.size)
      have HB2 := hide (HB.out.call b1)
      clear b1 hbel hz c0 c1 HB
      cases hq : Pl.treeB t.L
      · go_wp2
        go_ret
        exact ⟨by rw [(unhide HF) t k (unhide HN) hq]; rfl, hb2⟩
      · have HA2 : Hid (∀ (j : Nat) m, j < k + 1 → Ts[j]? = some m → Pl.treeB m.L = true) := fun j m hj h' => by
          rcases Nat.lt_succ_iff_lt_or_eq.1 hj with h'' | rfl
          · exact HA.out j m h'' h'
          · rw [unhide HN] at h'; cases h'; exact hq
        go_wp2
        go_roundw
        case rel => exact ⟨k + 1, by omega, by omega, by go_num, hb2, HB2, HA2⟩
        case measure => simp [intOf]; omega
    · have hfin := unhide HQ k hk (unhide HA) hlt hk5
      have hIS := hide (WNode.is_any (Ts.length : Int) 1 4)
      generalize (decide ((1 : Int) ≤ (Ts.length : Int)) && decide ((Ts.length : Int) ≤ 4)) = V2 at hfin hIS
      by_cases h1 : k < Ts.length
      · have u1 : (k : Int) < (Ts.length : Int) := by omega
        have u2 : ¬ (k : Int) ≤ 4 := by omega
        go_wp2_with fail
        refine (unhide hIS _).mono ?_
        rintro e w1 ⟨rfl, rfl⟩
        go_wp2
        go_ret
        exact ⟨by rw [hfin]; rfl, hbel⟩
      · have u1 : ¬ (k : Int) < (Ts.length : Int) := by omega
        go_wp2_with fail
        refine (unhide hIS _).mono ?_
        rintro e w1 ⟨rfl, rfl⟩
        go_wp2
        go_ret
        exact ⟨by rw [hfin]; rfl, hbel⟩
end WLayS
end Go.Proofs.YtmohbgmbknfaiaaGreatDoor

/- The walks of the program's nodesOf and TreeRight. -/
namespace Go.Proofs.YtmohbgmbknfaiaaGreatDoor
open Go.RowKit Go.Maps
namespace Pl
/-- The nodes so far: rising, the last one at the path lp. -/
structure Inv (C : List Nd) (lp : ByteArray) : Prop where
  right : pathB lp = true
  rise : C.Pairwise (fun a b => lessL (names a.path) (names b.path) = true)
  last : ∀ a ∈ C, a.path = lp ∨ lessL (names a.path) (names lp) = true
theorem inv_start : Inv [] ⟨#[]⟩ := ⟨(right_root rfl).1, List.Pairwise.nil, fun a ha => by cases ha⟩
theorem inv_apart {C : List Nd} {lp : ByteArray} (h : Inv C lp) : C.Pairwise (fun a b => a.path ≠ b.path) :=
  h.rise.imp (fun {a b} hab e => by rw [e, less_irr] at hab; cases hab)
theorem inv_step {C : List Nd} {lp : ByteArray} {n : Nd} (h : Inv C lp) (hn : nodeB n = true) (hl : ltP lp n.path = true) : Inv (C ++ [n]) n.path := by
  have hr := (node_right hn).1
  rw [ltP_right h.right hr] at hl
  have hall : ∀ a ∈ C, lessL (names a.path) (names n.path) = true := fun a ha => by
    rcases h.last a ha with e | e
    · rw [e]; exact hl
    · exact less_trans _ _ _ e hl
  refine ⟨hr, ?_, fun a ha => ?_⟩
  · rw [List.pairwise_append]
    exact ⟨h.rise, List.pairwise_singleton _ _, fun a ha b hb => by simp at hb; subst hb; exact hall a ha⟩
  · rcases List.mem_append.1 ha with ha | ha
    · exact .inr (hall a ha)
    · simp at ha; subst ha; exact .inl rfl
theorem goI_step (L : List Nd) {n : Nd} {k : Nat} (h : L[k]? = some n) (C : List Nd) (lp : ByteArray) : goI C lp (L.drop k) = (nodeB n && ltP lp n.path && parI C n.path && goI (C ++ [n]) n.path (L.drop (k + 1))) := by
  have h1 := (List.getElem?_eq_some_iff.1 h)
  rw [List.drop_eq_getElem_cons h1.1, h1.2, goI]
theorem take_snoc' (L : List Nd) {n : Nd} {k : Nat} (h : L[k]? = some n) : L.take (k + 1) = L.take k ++ [n] := by
  have h1 := (List.getElem?_eq_some_iff.1 h)
  rw [List.take_succ_eq_append_getElem h1.1, h1.2]
end Pl
namespace WNodesI
set_option maxRecDepth 100000 in
set_option maxHeartbeats 1000000 in
theorem nodes_any (a : Option Addr) (cap : Nat) (L : List Pl.Nd) (w : World) (hl : L.length ≤ 1048576) (hv : Mem.isNodes w a L) (hok : ∀ n ∈ L, n.path.size ≤ 1048576 ∧ n.data.size ≤ 1048576)
    (r1 r2 r3 : TypeId) (x1 x2 x3 : Value) (hE : Errs w r1 r2 r3 x1 x2 x3) :
    Calls Tryz.prog 77 #[.agg #[.slice a L.length cap]] w fun e w' => ((Pl.treeB L = true ∧ ∃ B, e = .returned (.tuple #[.map (some B), .nilIface]) ∧ w.heap.size ≤ B ∧ w'.ownsMap Tryz.prog 9 MapN.elem B 40 (MapN.mapOf L)) ∨
      (Pl.treeB L = false ∧ e = .returned (.tuple #[.map none, .iface r1 x1]))) ∧ Below w.heap.size w w' := by
  have b0 : Below w.heap.size w (w.alloc (.cells #[.slice a L.length cap] 29)) := (Below.refl _ _).alloc (Nat.le_refl _) _
  have HV := hide hv
  have HO := hide hok
  have HE := hide hE
  have hvar := hide (Mem.var_new w [.slice a L.length cap] 29)
  have hmm := @run_makeMap Tryz.prog
  have k1 := (hE.call b0).c1
  clear hv hok hE
  by_cases h40 : 40 < L.length
  · have F := hide (show Pl.treeB L = false by simp [Pl.treeB]; omega)
    go_enter Tryz.func77, Tryz.ntmps77
    go_wp2
    go_region
    go_wp2
    go_ret2
    exact ⟨.inr ⟨unhide F, rfl⟩, Mem.below_drewN b0 1⟩
  have h41 : Pl.treeB L = Pl.goI [] ⟨#[]⟩ L := by rw [Pl.treeB, show decide (L.length ≤ 40) = true by simp; omega]; rfl
  rw [h41]
  clear h41
  generalize hR : Pl.goI [] ⟨#[]⟩ L = R
  have HR := hide hR
  clear hR
  go_enter Tryz.func77, Tryz.ntmps77
  go_wp2
  go_loopw [5, 17] (fun v i wr => ∃ (k : Nat) (lp : ByteArray), k ≤ L.length ∧ i = .int .i64 (k : Int) ∧ v = .string lp ∧ lp.size ≤ 200 ∧ Below w.heap.size w wr ∧ Hid (wr.ownsMap Tryz.prog 9 MapN.elem (w.heap.size + 1) k (MapN.mapOf (L.take k))) ∧ Hid (Pl.Inv (L.take k) lp) ∧ Hid (R = Pl.goI (L.take k) lp (L.drop k))) (fun _ i _ => L.length - (intOf i).toNat)
  case atStart =>
    refine ⟨0, ⟨#[]⟩, Nat.zero_le _, rfl, rfl, Nat.zero_le _, ?_, ?_, Pl.inv_start, (unhide HR).symm⟩
    · exact b0.alloc (by simp) _
    · have h := World.ownsMap_made (w.alloc (.cells #[.slice a L.length cap] 29)) Tryz.prog 9 MapN.elem
      rw [show (w.alloc (.cells #[.slice a L.length cap] 29)).heap.size = w.heap.size + 1 by simp] at h
      exact h
  case round =>
    obtain ⟨k, lp, hk, rfl, rfl, hlp, hbel, HM, HI, HR2⟩ := hrel
    by_cases hlt : k < L.length
    · obtain ⟨n, hn⟩ : ∃ n, L[k]? = some n := ⟨_, List.getElem?_eq_getElem hlt⟩
      obtain ⟨b, o, rfl, hb, q0, q1, q2, q3, q4⟩ := (Mem.nodes_call (unhide HV) hbel) k n hn
      have y1 : (k : Int) < (L.length : Int) := by omega
      have y3 : (0 : Int) ≤ (k : Int) := by omega
      have hBl := (unhide HM).lt
      have hsn := unhide HO n (List.mem_of_getElem? hn)
      have hnr := hide (fun W => WNode.impl_any n W hsn.1 hsn.2)
      have hls := hide (fun W => WLess.less_any lp n.path W (by omega) hsn.1)
      change Hid (∀ W, Calls Tryz.prog _ _ W fun e w' => e = .returned (.bool (Pl.ltP lp n.path)) ∧ _) at hls
      have hpf := hide (fun W hE hown hC => fault_any (w.heap.size + 1) k (L.take k) n.path W r1 r2 r3 x1 x2 x3 hE hown hC hsn.1)
      have UG := hide (Pl.goI_step L (n := n) (k := k) hn (L.take k) lp)
      have HN := hide hn
      have hkey := MapN.keyOf_mk (p := n.path) (by have := hsn.1; unfold maxLen; omega)
      have zn := Mem.var_new wr [.string n.path, .int .i64 n.kind, .string n.data, .int .i64 n.time, .int .i64 n.mark] 34
      have bw1 : Below wr.heap.size wr (wr.alloc (.cells #[.string n.path, .int .i64 n.kind, .string n.data, .int .i64 n.time, .int .i64 n.mark] 34)) := (Below.refl _ _).alloc (Nat.le_refl _) _
      have bw2 := hbel.trans (bw1.mono hbel.size)
      have HM1 := hide (map_call (unhide HM) bw1)
      clear hn HM
      simp only [Pl.Nd.val] at hnr
      go_wp2_with fail
      refine (unhide hnr _).mono ?_
      rintro e wA ⟨rfl, bA⟩
      have znA := Mem.var_call zn bA
      have bwA := bw2.trans (bA.mono bw2.size)
      have HMA := hide (map_call (unhide HM1) bA)
      have kA := ((unhide HE).call bwA).c1
      clear zn bw1 bw2 bA HM1 q0 q1 q2 q3 q4 hnr
      have c0 := znA.2 0 _ rfl
      cases hnb : Pl.nodeB n
      · have F := hide (show R = false by rw [unhide HR2, unhide UG, hnb]; rfl)
        clear hnb
        go_wp2
        go_region
        go_wp2
        go_ret2
        exact ⟨.inr ⟨unhide F, rfl⟩, Mem.below_drewN bwA 1⟩
      have HNB := hide hnb
      clear hnb
      go_wp2_with fail
      refine (unhide hls _).mono ?_
      rintro e wB ⟨rfl, bB⟩
      have znB := Mem.var_call znA bB
      have bwB := bwA.trans (bB.mono bwA.size)
      have HMB := hide (map_call (unhide HMA) bB)
      have kB := ((unhide HE).call bwB).c1
      clear znA bwA bB HMA c0 kA hls
      have c0 := znB.2 0 _ rfl
      cases hlb : Pl.ltP lp n.path
      · have F := hide (show R = false by rw [unhide HR2, unhide UG, unhide HNB, hlb]; rfl)
        clear hlb
        go_wp2
        go_region
        go_wp2
        go_ret2
        exact ⟨.inr ⟨unhide F, rfl⟩, Mem.below_drewN bwB 1⟩
      have HLB := hide hlb
      clear hlb
      go_wp2_with fail
      refine (unhide hpf _ ((unhide HE).call bwB) (unhide HMB) (Pl.inv_apart (unhide HI))).mono ?_
      rintro e wC ⟨rfl, bC⟩
      have znC := Mem.var_call znB bC
      have bwC := bwB.trans (bC.mono bwB.size)
      have HMC := hide (map_call (unhide HMB) bC)
      have kC := ((unhide HE).call bwC).c1
      clear znB bwB bC HMB c0 kB hpf
      rcases Pl.par_ok (p := n.path) (u2 := r2) (u3 := r3) (x2 := x2) (x3 := x3) (Pl.inv_apart (unhide HI)) with ⟨hp1, hp2⟩ | ⟨hp1, uu, xx, hp2⟩
      rotate_left
      · have F := hide (show R = false by rw [unhide HR2, unhide UG, unhide HNB, unhide HLB, hp1]; rfl)
        rw [hp2]
        clear hp1 hp2
        go_wp2
        go_region
        go_wp2
        go_ret2
        exact ⟨.inr ⟨unhide F, rfl⟩, Mem.below_drewN bwC 1⟩
      have HR3 := hide (show R = Pl.goI (L.take k ++ [n]) n.path (L.drop (k + 1)) by rw [unhide HR2, unhide UG, unhide HNB, unhide HLB, hp1]; rfl)
      rw [hp2]
      clear hp1 hp2
      have c0 := znC.2 0 _ rfl
      have c1 := znC.2 1 _ rfl
      have c2 := znC.2 2 _ rfl
      have c3 := znC.2 3 _ rfl
      have c4 := znC.2 4 _ rfl
      have hzl := znC.1
      have hne : some wr.heap.size ≠ some (w.heap.size + 1) := fun e => by have := Option.some.inj e; omega
      go_wp2_with (first | (at_mapUpdate; refine wpList_mapUpdate_own _ rfl _ _ _ 70 rfl 9 34 MapN.law Tryz.underlying70 _ (w.heap.size + 1) k _ rfl (unhide HMC) (by unfold maxLen; omega) _ _ _ rfl rfl hkey _ [] (MapN.elem_mk n) ?_; intro wD hownD hgrowD; have cD := hgrowD.cell c0 hne; have HOD := hide hownD; have bwD := bwC.grown hgrowD bwC.size (fun k hk => by cases hk; omega); clear hownD hgrowD) | fail)
      have HI2 := hide (Pl.inv_step (unhide HI) (unhide HNB) (unhide HLB))
      have hnl := Pl.pathB_le (Pl.node_right (unhide HNB)).1
      have HT := hide (Pl.take_snoc' L (unhide HN))
      go_wp2
      go_roundw
      case rel =>
        refine ⟨k + 1, n.path, by omega, by go_num, rfl, hnl, bwD, ?_, ?_, ?_⟩
        · rw [unhide HT, MapN.mapOf_snoc]; exact HOD
        · rw [unhide HT]; exact HI2
        · rw [unhide HT]; exact HR3
      case measure => simp [intOf]; omega
    · obtain rfl : k = L.length := by omega
      have F := hide (show R = true by rw [unhide HR2, List.drop_length]; rfl)
      rw [List.take_length] at HM
      clear HR2
      go_wp2
      go_ret2
      exact ⟨.inl ⟨unhide F, w.heap.size + 1, rfl, by omega, (unhide HM).mono (by omega)⟩, hbel⟩
end WNodesI
end Go.Proofs.YtmohbgmbknfaiaaGreatDoor

/- The walk of overlayOf. -/
namespace Go.Proofs.YtmohbgmbknfaiaaGreatDoor
open Go.RowKit Go.Maps
namespace Pl
theorem lay_no {Ts : List (List Nd)} {L : List Nd} (hL : L ∈ Ts) (h : treeB L = false) : layB Ts = false := by
  have : Ts.all treeB = false := by
    rw [List.all_eq_false]
    exact ⟨L, hL, by rw [h]; simp⟩
  rw [layB, this, Bool.and_false]
theorem lay_few {Ts : List (List Nd)} (h : Ts.length < 1 ∨ 4 < Ts.length) : layB Ts = false := by
  unfold layB
  rcases h with h | h
  · rw [show decide (1 ≤ Ts.length) = false from decide_eq_false (by omega)]; simp
  · rw [show decide (Ts.length ≤ 4) = false from decide_eq_false (by omega)]; simp
theorem lay_yes {Ts : List (List Nd)} (h1 : 1 ≤ Ts.length) (h2 : Ts.length ≤ 4) (h : ∀ L ∈ Ts, treeB L = true) : layB Ts = true := by
  rw [layB, decide_eq_true h1, decide_eq_true h2, Bool.true_and, Bool.true_and, List.all_eq_true]
  exact h
end Pl
namespace WOverI
def layV (b : Nat) : Value := .iface 70 (.map (some b))
theorem row_call {w w' : World} {B n : Nat} {T : TypeId} {v : Value} {xs : List Value} (h : w.ownsRow B T 1 v n xs) (b : Below w.heap.size w w') : w'.ownsRow B T 1 v n xs := by
  refine ⟨h.1, ?_⟩
  rcases h.2 with h0 | ⟨g, cap, cur, hv, hb, hg, rest⟩
  · exact .inl h0
  · exact .inr ⟨g, cap, cur, hv, hb, (b.block g (Array.getElem?_eq_some_iff.1 hg).1).trans hg, rest⟩
/-- Layers as they lie: a row of the call's own, each a map of nodes. -/
structure Ov (w : World) (B : Nat) (v : Value) (Bs : List Nat) (Ls : List (List Pl.Nd)) : Prop where
  row : w.ownsRow B 184 1 v Bs.length (Bs.map layV)
  len : Bs.length = Ls.length
  maps : ∀ (j : Nat) b L, Bs[j]? = some b → Ls[j]? = some L → B ≤ b ∧ w.ownsMap Tryz.prog 9 MapN.elem b 40 (MapN.mapOf L)
theorem Ov.call {w w' : World} {B : Nat} {v : Value} {Bs : List Nat} {Ls : List (List Pl.Nd)} (h : Ov w B v Bs Ls) (b : Below w.heap.size w w') : Ov w' B v Bs Ls :=
  ⟨row_call h.row b, h.len, fun j c L h1 h2 => ⟨(h.maps j c L h1 h2).1, WNodesI.map_call (h.maps j c L h1 h2).2 b⟩⟩
theorem map_not {w : World} {B b n m : Nat} {T : TypeId} {v : Value} {xs : List Value} {D : DataW Unit} (h : w.ownsRow B T 1 v n xs) (hm : w.ownsMap Tryz.prog 9 MapN.elem b m D) : some b ≠ v.ownBlock := fun e => by
  obtain ⟨es, clock, h1, _⟩ := hm
  rcases h.2 with ⟨rfl, _⟩ | ⟨g, cap, cur, rfl, _, hg, _⟩
  · cases e
  · cases e
    rw [hg] at h1
    cases h1
theorem Ov.put {w w' : World} {B b : Nat} {v v' : Value} {Bs : List Nat} {Ls : List (List Pl.Nd)} {L : List Pl.Nd} (h : Ov w B v Bs Ls) (hm : w.ownsMap Tryz.prog 9 MapN.elem b 40 (MapN.mapOf L)) (hb : B ≤ b)
    (hr : w'.ownsRow B 184 1 v' (Bs.length + 1) (Bs.map layV ++ [layV b])) (hg : w.grownBy w' v.ownBlock) : Ov w' B v' (Bs ++ [b]) (Ls ++ [L]) := by
  refine ⟨by simpa using hr, by simp [h.len], fun j c M h1 h2 => ?_⟩
  by_cases e : j < Bs.length
  · rw [List.getElem?_append_left e] at h1
    rw [List.getElem?_append_left (by rw [← h.len]; exact e)] at h2
    obtain ⟨h3, h4⟩ := h.maps j c M h1 h2
    exact ⟨h3, h4.kept hg (map_not h.row h4)⟩
  · rw [List.getElem?_append_right (by omega)] at h1
    rw [List.getElem?_append_right (by rw [← h.len]; omega)] at h2
    have e0 : j - Bs.length = 0 := by
      have := (List.getElem?_eq_some_iff.1 h1).1
      simp at this; omega
    rw [e0] at h1
    rw [← h.len, e0] at h2
    simp at h1 h2
    subst h1 h2
    exact ⟨hb, hm.kept hg (map_not h.row hm)⟩
theorem infoL : (Tryz.prog.info? 184).map (fun i => (i.zero, i.size, i.bytes)) = some (some .nilIface, 1, 16) := by kernel_rfl
set_option linter.unusedSimpArgs false in
set_option maxRecDepth 100000 in
set_option maxHeartbeats 1000000 in
theorem over_any (a : Option Addr) (cap : Nat) (Ts : List Pl.Tr) (w : World) (hl : Ts.length ≤ 1048576) (hv : Mem.isTrees w a Ts) (hok : ∀ t ∈ Ts, t.L.length ≤ 1048576 ∧ ∀ n ∈ t.L, n.path.size ≤ 1048576 ∧ n.data.size ≤ 1048576)
    (r1 r2 r3 : TypeId) (x1 x2 x3 : Value) (hE : WNodesI.Errs w r1 r2 r3 x1 x2 x3) :
    Calls Tryz.prog 33 #[.agg #[.slice a Ts.length cap]] w fun e w' => ((Pl.layB (Ts.map (·.L)) = true ∧ ∃ v Bs, e = .returned (.tuple #[v, .nilIface]) ∧ Ov w' w.heap.size v Bs (Ts.map (·.L))) ∨
      (Pl.layB (Ts.map (·.L)) = false ∧ e = .returned (.tuple #[.slice none 0 0, .iface r1 x1]))) ∧ Below w.heap.size w w' := by
  obtain ⟨i0, hi, hz0, hz1, hz2⟩ := info_parts infoL
  have b0 : Below w.heap.size w (w.alloc (.cells #[.slice a Ts.length cap] 25)) := (Below.refl _ _).alloc (Nat.le_refl _) _
  have HT := hide (fun (t : Pl.Tr) (k : Nat) (hk : Ts[k]? = some t) W (b : Below w.heap.size w W) => WNodesI.nodes_any t.a t.cap t.L W (hok t (List.mem_of_getElem? hk)).1 (Mem.nodes_call (hv k t hk).2 b) (hok t (List.mem_of_getElem? hk)).2 _ _ _ _ _ _ (hE.call b))
  have HV := hide hv
  have HF : Hid (∀ (t : Pl.Tr) (k : Nat), Ts[k]? = some t → Pl.treeB t.L = false → Pl.layB (Ts.map (·.L)) = false) := fun t k hk hq => Pl.lay_no (List.mem_map.2 ⟨t, List.mem_of_getElem? hk, rfl⟩) hq
  have HW : Hid (Ts.length < 1 ∨ 4 < Ts.length → Pl.layB (Ts.map (·.L)) = false) := fun h => Pl.lay_few (by simpa using h)
  have HY : Hid (1 ≤ Ts.length → Ts.length ≤ 4 → (∀ (j : Nat) t, j < Ts.length → Ts[j]? = some t → Pl.treeB t.L = true) → Pl.layB (Ts.map (·.L)) = true) := fun h1 h2 h3 => Pl.lay_yes (by simpa using h1) (by simpa using h2) (fun L hL => by
    obtain ⟨t, ht, rfl⟩ := List.mem_map.1 hL
    obtain ⟨j, hj⟩ := List.mem_iff_getElem?.1 ht
    exact h3 j t (List.getElem?_eq_some_iff.1 hj).1 hj)
  have HS : Hid (∀ k t, Ts[k]? = some t → (Ts.take (k + 1)).map (·.L) = (Ts.take k).map (·.L) ++ [t.L]) := fun k t hk => by
    rw [List.take_add_one, hk, List.map_append]; rfl
  have k1 := (hE.call b0).c1
  clear hv hok hE
  by_cases h1 : Ts.length < 1
  · have t0 : (Ts.length : Int) < 1 := by omega
    have hf := unhide HW (.inl h1)
    go_enter Tryz.func33, Tryz.ntmps33
    go_wp2
    go_region
    go_wp2
    go_ret2
    exact ⟨.inr ⟨hf, rfl⟩, Mem.below_drewN b0 1⟩
  have t0 : ¬ (Ts.length : Int) < 1 := by omega
  by_cases h2 : 4 < Ts.length
  · have t1 : (4 : Int) < (Ts.length : Int) := by omega
    have hf := unhide HW (.inr h2)
    go_enter Tryz.func33, Tryz.ntmps33
    go_wp2
    go_region
    go_wp2
    go_ret2
    exact ⟨.inr ⟨hf, rfl⟩, Mem.below_drewN b0 1⟩
  have t1 : ¬ (4 : Int) < (Ts.length : Int) := by omega
  have OV0 : Hid (Ov (w.alloc (.cells #[.slice a Ts.length cap] 25)) w.heap.size (.slice none 0 0) [] ((Ts.take 0).map (·.L))) := ⟨⟨by rfl, .inl ⟨rfl, rfl⟩⟩, rfl, fun j b L h => by simp at h⟩
  clear k1
  go_enter Tryz.func33, Tryz.ntmps33
  go_wp2
  go_loopw [4, 23] (fun v i wr => ∃ (k : Nat) (Bs : List Nat), k ≤ Ts.length ∧ i = .int .i64 (k : Int) ∧ Below w.heap.size w wr ∧ Hid (Ov wr w.heap.size v Bs ((Ts.take k).map (·.L))) ∧ Hid (∀ (j : Nat) t, j < k → Ts[j]? = some t → Pl.treeB t.L = true)) (fun _ i _ => Ts.length - (intOf i).toNat)
  case atStart => exact ⟨0, [], Nat.zero_le _, rfl, b0, OV0, fun j t h => absurd h (by omega)⟩
  case round =>
    obtain ⟨k, Bs, hk, rfl, hbel, HO, HA⟩ := hrel
    by_cases hlt : k < Ts.length
    · obtain ⟨t, ht⟩ : ∃ t, Ts[k]? = some t := ⟨_, List.getElem?_eq_getElem hlt⟩
      obtain ⟨⟨b, o, rfl, hb, q0⟩, -⟩ := (unhide HV) k t ht
      have c0 := (hbel.cell (p := ⟨b, _, none⟩) hb).trans q0
      have hz := hide (fun W b => unhide HT t k ht W b)
      have HN := hide ht
      have u1 : (k : Int) < (Ts.length : Int) := by omega
      have u3 : (0 : Int) ≤ (k : Int) := by omega
      simp only [Pl.Tr.val] at c0
      clear q0 ht OV0
      have bA := hbel.alloc hbel.size (.cells #[.slice t.a t.L.length t.cap] 29)
      have OA := (unhide HO).call ((Below.refl _ _).alloc (Nat.le_refl _) (.cells #[.slice t.a t.L.length t.cap] 29))
      go_wp2_with fail
      refine (unhide hz _ bA).mono ?_
      rintro e w1 ⟨h1, b1⟩
      have bw1 := bA.trans (b1.mono bA.size)
      have O1 := OA.call b1
      have hwr := hbel.size
      clear hz hbel HO OA c0
      rcases h1 with ⟨hT, B, rfl, hB, hown⟩ | ⟨hT, rfl⟩
      · have HTT := hide hT
        have hBw : w.heap.size ≤ B := Nat.le_trans bA.size hB
        have bA1 : Below w1.heap.size w1 (w1.alloc (.cells #[layV B] 184)) := (Below.refl _ _).alloc (Nat.le_refl _) _
        have O2 := O1.call bA1
        have hown2 := WNodesI.map_call hown bA1
        have HLN : Bs.length ≤ 4 := by have := O1.len; rw [List.length_map, List.length_take] at this; omega
        have HP := hide (fun v' w2 h1 h2 => O2.put (v' := v') (w' := w2) hown2 hBw h1 h2)
        have HR := hide O2.row
        have HQ := hide (fun w2 h2 => Mem.below_append (o := .cells #[layV B] 184) (w1 := w2) bw1 (Nat.le_refl _) O1.row h2)
        have HSB := hide bw1.size
        clear bA b1 hB hT O1 O2 hown2 hown bA1 bw1
        unfold layV at HP HR HQ
        go_wp2_with (at_builtin; refine wpList_append_own _ rfl _ _ 63 rfl w.heap.size 184 i0 .nilIface 1 16 Tryz.underlying63 hi hz0 hz1 hz2 rfl (by decide) _ _ _ rfl (unhide HR) ⟨w1.heap.size, 0, none⟩ 1 1 [.iface 70 (.map (some B))] rfl rfl (Mem.one_new _ _ _) (fun u hu => by simp at hu; subst hu; rfl) (by unfold maxLen; omega) (by omega) (by have := unhide HSB; simp; omega) ?_)
        intro v' w2 own' hgrow _
        have OV2 := hide (unhide HP v' w2 own' hgrow)
        have bw2 := unhide HQ w2 hgrow
        rw [← unhide HS k t (unhide HN)] at OV2
        have HA2 : Hid (∀ (j : Nat) m, j < k + 1 → Ts[j]? = some m → Pl.treeB m.L = true) := fun j m hj h' => by
          rcases Nat.lt_succ_iff_lt_or_eq.1 hj with h'' | rfl
          · exact HA.out j m h'' h'
          · rw [unhide HN] at h'; cases h'; exact unhide HTT
        clear HP HR HQ own' hgrow HSB HLN
        go_wp2
        go_roundw
        case rel => exact ⟨k + 1, _, by omega, by go_num, bw2, OV2, HA2⟩
        case measure => simp [intOf]; omega
      · have hf := unhide HF t k (unhide HN) hT
        clear O1 bA b1
        go_wp2
        go_ret2
        exact ⟨.inr ⟨hf, rfl⟩, bw1⟩
    · have u1 : ¬ (k : Int) < (Ts.length : Int) := by omega
      have hkl : k = Ts.length := by omega
      have HF2 := hide (unhide HY (by omega) (by omega) (fun j t hj ht => HA.out j t (by omega) ht))
      have OF := hide (show Ov wr w.heap.size _ Bs (Ts.map (·.L)) by have := unhide HO; rw [hkl, List.take_length] at this; exact this)
      clear HO HA
      go_wp2
      go_ret2
      exact ⟨.inl ⟨unhide HF2, _, rfl, Bs, unhide OF⟩, hbel⟩
end WOverI
end Go.Proofs.YtmohbgmbknfaiaaGreatDoor

