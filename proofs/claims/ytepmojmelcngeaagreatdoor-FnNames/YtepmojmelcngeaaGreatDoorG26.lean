/- Several texts of one claim in one file: WNodesI, WCode. -/
import Derived.Test.YtepmojmelcngeaaGreatDoorMapN
import Derived.Test.YtepmojmelcngeaaGreatDoorG12
import Derived.Test.YtepmojmelcngeaaGreatDoorWNode
import Derived.Test.YtepmojmelcngeaaGreatDoorWLess
import Derived.Test.YtepmojmelcngeaaGreatDoorWParentI
import Derived.Deep.QuietTactic
import Derived.BigQuiet
import Derived.Deep.RegionHeld3
import Derived.Maps.OwnSet
import Derived.Test.YtepmojmelcngeaaGreatDoorG24
/- The walks of the program's parentFault, nodesOf and TreeRight. -/
namespace Go.Proofs.YtepmojmelcngeaaGreatDoor
open Go.RowKit Go.Maps
namespace Pl
/-- What stands in the way of a path, as its parent is. -/
def parV (e2 e3 : Value) (C : List Nd) (p : ByteArray) : Value :=
  if (parentP p).size = 0 then .nilIface else match C.find? (fun m => decide (m.path = parentP p)) with | none => e2 | some m => if m.kind = 1 then .nilIface else e3
theorem par_ok {C : List Nd} {p : ByteArray} {u2 u3 : TypeId} {x2 x3 : Value} (hC : C.Pairwise (fun a b => a.path ≠ b.path)) :
    (parI C p = true ∧ parV (.iface u2 x2) (.iface u3 x3) C p = .nilIface) ∨ (parI C p = false ∧ ∃ u x, parV (.iface u2 x2) (.iface u3 x3) C p = .iface u x) := by
  unfold parV parI
  by_cases h0 : (parentP p).size = 0
  · left; simp [h0]
  simp only [h0, decide_false, Bool.false_or, if_false]
  cases hf : C.find? (fun m => decide (m.path = parentP p)) with
  | none =>
    right
    refine ⟨?_, u2, x2, rfl⟩
    rw [List.any_eq_false]
    intro m hm
    have := List.find?_eq_none.1 hf m hm
    simp at this
    simp [this]
  | some m =>
    have h1 := List.mem_of_find?_eq_some hf
    have h2 : m.path = parentP p := by simpa using List.find?_some hf
    by_cases hk : m.kind = 1
    · left
      refine ⟨?_, by simp [hk]⟩
      rw [List.any_eq_true]
      exact ⟨m, h1, by simp [h2, hk]⟩
    · right
      refine ⟨?_, u3, x3, by simp [hk]⟩
      rw [List.any_eq_false]
      intro x hx
      simp only [Bool.and_eq_true, decide_eq_true_eq, not_and]
      intro hxp
      have : x = m := by
        have hp : ∀ {A : List Nd}, A.Pairwise (fun a b => a.path ≠ b.path) → ∀ {a b : Nd}, a ∈ A → b ∈ A → a.path = b.path → a = b := by
          intro A hA
          induction hA with
          | nil => intro a b ha; cases ha
          | cons hx' _ ih =>
            intro a b ha hb e
            rcases List.mem_cons.1 ha with e1 | h1
            · rcases List.mem_cons.1 hb with e2 | h2
              · rw [e1, e2]
              · exact absurd (e1 ▸ e) (hx' _ h2)
            · rcases List.mem_cons.1 hb with e2 | h2
              · exact absurd (e2 ▸ e).symm (hx' _ h1)
              · exact ih h1 h2 e
        exact hp hC hx h1 (hxp.trans h2.symm)
      rw [this]; exact hk
end Pl
namespace MapN
section
variable {P : Program} (w : World) {ops : Array Oper} {rest : List Oper} {o : Oper} {a : Act} {Q : Exit → Act → World → Prop}
/-- 'n, ok := all[path]'. -/
theorem look_ok (hg : o.guard = none) (m x : Operand) (t : TypeId) (hop : o.op = Op.lookup t m x true)
    (k e : TypeId) (K : Keyed P k) (ht : P.underlying t = some (.map k e)) (hz : (zeroValue e).run P w = .ok (Pl.Nd.val ⟨⟨#[]⟩, 0, ⟨#[]⟩, 0, 0⟩) w) (b n : Nat) (D : DataW Unit)
    (hm : a.eval m = .map (some b)) (hown : w.ownsMap P k elem b n D) (kv : Value) (kl : Lit) (hx : a.eval x = kv) (hkey : keyOf P k kv = some kl) (nd : Pl.Nd) (hat : D.atKey kl (dat ⟨⟨#[]⟩, 0, ⟨#[]⟩, 0, 0⟩) = dat nd) (r : Bool) (hr : Maps.has D kl = r)
    (hK : wpList P ops Q rest (a.put o.dst (.tuple #[.agg #[.string nd.path, .int .i64 nd.kind, .string nd.data, .int .i64 nd.time, .int .i64 nd.mark], .bool r])) w) :
    wpList P ops Q (o :: rest) a w :=
  wpList_lookup_own_ok w hg m x t hop k e K ht elem hz _ [] (elem_mk _) b n D hm hown kv kl hx hkey (fun v ps hv => by
    obtain ⟨n1, rfl, hd⟩ := elem_inv hv
    obtain rfl := dat_inj (hat.symm.trans hd)
    rw [hr]
    exact hK)
end
end MapN
namespace WNodesI
/-- Three errors of the program's own: each is there, and none is nil. -/
structure Errs (w : World) (u1 u2 u3 : TypeId) (x1 x2 x3 : Value) : Prop where
  c1 : w.cell? ⟨0, 0, none⟩ = some (.iface u1 x1)
  c2 : w.cell? ⟨4, 0, none⟩ = some (.iface u2 x2)
  c3 : w.cell? ⟨5, 0, none⟩ = some (.iface u3 x3)
theorem Errs.call {w w' : World} {u1 u2 u3 : TypeId} {x1 x2 x3 : Value} (h : Errs w u1 u2 u3 x1 x2 x3) (b : Below w.heap.size w w') : Errs w' u1 u2 u3 x1 x2 x3 :=
  ⟨(b.cell (p := ⟨_, 0, none⟩) (World.block_lt_of_cell? w ⟨_, 0, none⟩ h.c1)).trans h.c1, (b.cell (p := ⟨_, 0, none⟩) (World.block_lt_of_cell? w ⟨_, 0, none⟩ h.c2)).trans h.c2, (b.cell (p := ⟨_, 0, none⟩) (World.block_lt_of_cell? w ⟨_, 0, none⟩ h.c3)).trans h.c3⟩
theorem map_call {w w' : World} {B n : Nat} {D : DataW Unit} (h : w.ownsMap Tryz.prog 9 MapN.elem B n D) (b : Below w.heap.size w w') : w'.ownsMap Tryz.prog 9 MapN.elem B n D :=
  h.kept (row := none) ⟨b.os, b.tape, b.output, b.size, fun k hk _ => b.block k hk⟩ (by simp)
set_option maxRecDepth 100000 in
set_option maxHeartbeats 400000 in
theorem fault_any (B N : Nat) (C : List Pl.Nd) (p : ByteArray) (w : World) (u1 u2 u3 : TypeId) (x1 x2 x3 : Value) (hE : Errs w u1 u2 u3 x1 x2 x3) (hown : w.ownsMap Tryz.prog 9 MapN.elem B N (MapN.mapOf C)) (hC : C.Pairwise (fun a b => a.path ≠ b.path)) (hp : p.size ≤ 1048576) :
    Calls Tryz.prog 84 #[.map (some B), .string p] w fun e w' => e = .returned (Pl.parV (.iface u2 x2) (.iface u3 x3) C p) ∧ Below w.heap.size w w' := by
  have hpa := hide (WPathI.parent_any p w hp)
  have hz := hide (show (Pl.parentP p).size ≤ 1048576 from by
    have h1 := Pl.namesR_all p
    have h2 := Pl.glue_size (Pl.namesR p).dropLast (fun t ht => (Pl.name_free (h1.1 t (List.dropLast_subset _ ht))).2.2.2)
    rw [List.length_dropLast] at h2
    show (Pl.glue (Pl.namesR p).dropLast).size ≤ 1048576
    omega)
  change Hid (Calls Tryz.prog _ _ w fun e w' => e = .returned (.string (Pl.parentP p)) ∧ _) at hpa
  have E1 : Hid ((Pl.parentP p).size = 0 → Pl.parV (.iface u2 x2) (.iface u3 x3) C p = .nilIface) := fun h => by simp [Pl.parV, h]
  have E2 : Hid ((Pl.parentP p).size ≠ 0 → C.find? (fun m => decide (m.path = Pl.parentP p)) = none → Pl.parV (.iface u2 x2) (.iface u3 x3) C p = .iface u2 x2) := fun h hf => by simp [Pl.parV, h, hf]
  have E3 : Hid ((Pl.parentP p).size ≠ 0 → ∀ m, C.find? (fun m => decide (m.path = Pl.parentP p)) = some m → Pl.parV (.iface u2 x2) (.iface u3 x3) C p = if m.kind = 1 then .nilIface else .iface u3 x3) := fun h m hf => by simp [Pl.parV, h, hf]
  generalize Pl.parV (.iface u2 x2) (.iface u3 x3) C p = R at E1 E2 E3 ⊢
  generalize Pl.parentP p = q at hpa hz E1 E2 E3
  have HE := hide hE
  have HM := hide hown
  clear hE hown
  go_enter Tryz.func84, Tryz.ntmps84
  go_wp2_with fail
  refine (unhide hpa).mono ?_
  rintro e w1 ⟨rfl, b1⟩
  have hE1 := (unhide HE).call b1
  have hM1 := hide (map_call (unhide HM) b1)
  have k2 : ∀ o, (w1.alloc o).cell? ⟨4, 0, none⟩ = some (.iface u2 x2) := fun o => (World.cell?_alloc_some _ _ _ (by rw [hE1.c2]; rfl)).trans hE1.c2
  have k3 : ∀ o, (w1.alloc o).cell? ⟨5, 0, none⟩ = some (.iface u3 x3) := fun o => (World.cell?_alloc_some _ _ _ (by rw [hE1.c3]; rfl)).trans hE1.c3
  clear HE HM hpa hE1
  by_cases h0 : q.size = 0
  · have t0 : q.toList.isEmpty = true := by rw [Pl.empty_list]; simpa [Pl.by_nil] using h0
    have E := hide (unhide E1 h0)
    go_wp2
    go_ret
    exact ⟨by rw [unhide E]; rfl, b1⟩
  have t0 : q.toList.isEmpty = false := by rw [Pl.empty_list]; simpa [Pl.by_nil] using h0
  have hkey := MapN.keyOf_mk (p := q) (by have := unhide hz; unfold maxLen; omega)
  cases hf : C.find? (fun m => decide (m.path = q)) with
  | none =>
    have E := hide (unhide E2 h0 hf)
    have hmiss : ∀ n ∈ C, n.path ≠ q := fun n hn => by simpa using List.find?_eq_none.1 hf n hn
    have ha := hide (MapN.has_no hmiss)
    have ha2 := hide (Maps.atKey_of_not_has (unhide ha) (MapN.dat ⟨⟨#[]⟩, 0, ⟨#[]⟩, 0, 0⟩))
    clear E1 E2 E3 hf hmiss
    go_wp2_with (at_lookup; refine MapN.look_ok _ rfl _ _ 74 rfl 9 36 MapN.law Tryz.underlying74 (MapN.zeroN _) B N (MapN.mapOf C) rfl (unhide hM1) _ _ rfl hkey ⟨⟨#[]⟩, 0, ⟨#[]⟩, 0, 0⟩ (unhide ha2) false (unhide ha) ?_)
    go_ret
    exact ⟨by rw [unhide E]; rfl, b1.alloc b1.size _⟩
  | some m =>
    have E := hide (unhide E3 h0 m hf)
    have hm1 := List.mem_of_find?_eq_some hf
    have hm2 : m.path = q := by simpa using List.find?_some hf
    obtain ⟨y1, y2⟩ := MapN.at_yes hC hm1
    rw [hm2] at y1 y2
    have ha := hide y1
    have ha2 := hide (y2 (MapN.dat ⟨⟨#[]⟩, 0, ⟨#[]⟩, 0, 0⟩))
    clear E1 E2 E3 hf y1 y2 hm1 hm2
    by_cases hk : m.kind = 1
    · have E' := hide (show R = .nilIface by rw [unhide E, if_pos hk])
      have t1 : (m.kind == 1) = true := by simpa using hk
      clear E hk
      go_wp2_with (at_lookup; refine MapN.look_ok _ rfl _ _ 74 rfl 9 36 MapN.law Tryz.underlying74 (MapN.zeroN _) B N (MapN.mapOf C) rfl (unhide hM1) _ _ rfl hkey m (unhide ha2) true (unhide ha) ?_)
      go_ret
      exact ⟨by rw [unhide E']; rfl, b1.alloc b1.size _⟩
    · have E' := hide (show R = .iface u3 x3 by rw [unhide E, if_neg hk])
      have t1 : (m.kind == 1) = false := by simpa using hk
      clear E hk
      go_wp2_with (at_lookup; refine MapN.look_ok _ rfl _ _ 74 rfl 9 36 MapN.law Tryz.underlying74 (MapN.zeroN _) B N (MapN.mapOf C) rfl (unhide hM1) _ _ rfl hkey m (unhide ha2) true (unhide ha) ?_)
      go_ret
      exact ⟨by rw [unhide E']; rfl, b1.alloc b1.size _⟩
end WNodesI
end Go.Proofs.YtepmojmelcngeaaGreatDoor

/- The program's six errors, each its own; what treeCode says of each. -/
namespace Go.Proofs.YtepmojmelcngeaaGreatDoor
open Go.RowKit
namespace WIs
/-- The six errors: where each lies, and that no two are one. -/
structure Six (w : World) (x : Nat → Addr) : Prop where
  c0 : w.cell? ⟨3, 0, none⟩ = some (.iface 207 (.pointer (some (x 0))))
  c1 : w.cell? ⟨0, 0, none⟩ = some (.iface 207 (.pointer (some (x 1))))
  c2 : w.cell? ⟨4, 0, none⟩ = some (.iface 207 (.pointer (some (x 2))))
  c3 : w.cell? ⟨5, 0, none⟩ = some (.iface 207 (.pointer (some (x 3))))
  c4 : w.cell? ⟨1, 0, none⟩ = some (.iface 207 (.pointer (some (x 4))))
  c5 : w.cell? ⟨2, 0, none⟩ = some (.iface 207 (.pointer (some (x 5))))
  row : ∀ k, k < 6 → ∃ c t, w.heap[(x k).block]? = some (.cells c t (0, 0))
  apart : ∀ i j, i < 6 → j < 6 → i ≠ j → x i ≠ x j
theorem Six.call {w w' : World} {x : Nat → Addr} (h : Six w x) (b : Below w.heap.size w w') : Six w' x :=
  ⟨(b.cell (p := ⟨_, 0, none⟩) (World.block_lt_of_cell? w ⟨_, 0, none⟩ h.c0)).trans h.c0, (b.cell (p := ⟨_, 0, none⟩) (World.block_lt_of_cell? w ⟨_, 0, none⟩ h.c1)).trans h.c1, (b.cell (p := ⟨_, 0, none⟩) (World.block_lt_of_cell? w ⟨_, 0, none⟩ h.c2)).trans h.c2, (b.cell (p := ⟨_, 0, none⟩) (World.block_lt_of_cell? w ⟨_, 0, none⟩ h.c3)).trans h.c3, (b.cell (p := ⟨_, 0, none⟩) (World.block_lt_of_cell? w ⟨_, 0, none⟩ h.c4)).trans h.c4, (b.cell (p := ⟨_, 0, none⟩) (World.block_lt_of_cell? w ⟨_, 0, none⟩ h.c5)).trans h.c5,
    fun k hk => by
      obtain ⟨c, t, hr⟩ := h.row k hk
      exact ⟨c, t, (b.block _ (Array.getElem?_eq_some_iff.1 hr).1).trans hr⟩, h.apart⟩
theorem Six.errs {w : World} {x : Nat → Addr} (h : Six w x) : WNodesI.Errs w 207 207 207 (.pointer (some (x 1))) (.pointer (some (x 2))) (.pointer (some (x 3))) := ⟨h.c1, h.c2, h.c3⟩
/-- errors.Is between two of the six. -/
theorem Six.other {w : World} {x : Nat → Addr} (h : Six w x) (i j : Nat) (hi : i < 6) (hj : j < 6) (hij : i ≠ j) :
    Calls Tryz.prog 85 #[.iface 207 (.pointer (some (x i))), .iface 207 (.pointer (some (x j)))] w fun e w' => e = .returned (.bool false) ∧ w' = w := by
  obtain ⟨c1, t1, h1⟩ := h.row i hi
  obtain ⟨c2, t2, h2⟩ := h.row j hj
  exact WIs.other (x i) (x j) c1 c2 t1 t2 w (h.apart i j hi hj hij) h1 h2
/-- The code of the k-th. -/
def codeOf : Nat → Int
  | 0 => 2
  | 1 => 1
  | 2 => 6
  | 3 => 12
  | 4 => 11
  | _ => 9
set_option maxRecDepth 100000 in
set_option maxHeartbeats 400000 in
theorem code0 (x : Nat → Addr) (w : World) (h : Six w x) :
    Calls Tryz.prog 44 #[.iface 207 (.pointer (some (x 0)))] w fun e w' => e = .returned (.int .i64 2) ∧ w' = w := by
  have k0 := h.c0
  have k2 := h.c2
  have k3 := h.c3
  have k4 := h.c4
  have k5 := h.c5
  have H := hide h
  clear h
  go_enter Tryz.func44, Tryz.ntmps44
  go_wp2_with fail
  refine (WIs.same (x 0) _).mono ?_
  rintro e w1 ⟨rfl, rfl⟩
  go_wp2
  go_ret
  exact ⟨rfl, rfl⟩
set_option maxRecDepth 100000 in
set_option maxHeartbeats 400000 in
theorem code1 (x : Nat → Addr) (w : World) (h : Six w x) :
    Calls Tryz.prog 44 #[.iface 207 (.pointer (some (x 1)))] w fun e w' => e = .returned (.int .i64 1) ∧ w' = w := by
  have k0 := h.c0
  have k2 := h.c2
  have k3 := h.c3
  have k4 := h.c4
  have k5 := h.c5
  have H := hide h
  clear h
  go_enter Tryz.func44, Tryz.ntmps44
  go_wp2_with fail
  refine ((unhide H).other 1 0 (by decide) (by decide) (by decide)).mono ?_
  rintro e w1 ⟨rfl, rfl⟩
  go_wp2_with fail
  refine ((unhide H).other 1 2 (by decide) (by decide) (by decide)).mono ?_
  rintro e w3 ⟨rfl, rfl⟩
  go_wp2_with fail
  refine ((unhide H).other 1 3 (by decide) (by decide) (by decide)).mono ?_
  rintro e w4 ⟨rfl, rfl⟩
  go_wp2_with fail
  refine ((unhide H).other 1 4 (by decide) (by decide) (by decide)).mono ?_
  rintro e w5 ⟨rfl, rfl⟩
  go_wp2_with fail
  refine ((unhide H).other 1 5 (by decide) (by decide) (by decide)).mono ?_
  rintro e w6 ⟨rfl, rfl⟩
  go_wp2
  go_ret
  exact ⟨rfl, rfl⟩
set_option maxRecDepth 100000 in
set_option maxHeartbeats 400000 in
theorem code2 (x : Nat → Addr) (w : World) (h : Six w x) :
    Calls Tryz.prog 44 #[.iface 207 (.pointer (some (x 2)))] w fun e w' => e = .returned (.int .i64 6) ∧ w' = w := by
  have k0 := h.c0
  have k2 := h.c2
  have k3 := h.c3
  have k4 := h.c4
  have k5 := h.c5
  have H := hide h
  clear h
  go_enter Tryz.func44, Tryz.ntmps44
  go_wp2_with fail
  refine ((unhide H).other 2 0 (by decide) (by decide) (by decide)).mono ?_
  rintro e w1 ⟨rfl, rfl⟩
  go_wp2_with fail
  refine (WIs.same (x 2) _).mono ?_
  rintro e w1 ⟨rfl, rfl⟩
  go_wp2
  go_ret
  exact ⟨rfl, rfl⟩
set_option maxRecDepth 100000 in
set_option maxHeartbeats 400000 in
theorem code3 (x : Nat → Addr) (w : World) (h : Six w x) :
    Calls Tryz.prog 44 #[.iface 207 (.pointer (some (x 3)))] w fun e w' => e = .returned (.int .i64 12) ∧ w' = w := by
  have k0 := h.c0
  have k2 := h.c2
  have k3 := h.c3
  have k4 := h.c4
  have k5 := h.c5
  have H := hide h
  clear h
  go_enter Tryz.func44, Tryz.ntmps44
  go_wp2_with fail
  refine ((unhide H).other 3 0 (by decide) (by decide) (by decide)).mono ?_
  rintro e w1 ⟨rfl, rfl⟩
  go_wp2_with fail
  refine ((unhide H).other 3 2 (by decide) (by decide) (by decide)).mono ?_
  rintro e w3 ⟨rfl, rfl⟩
  go_wp2_with fail
  refine (WIs.same (x 3) _).mono ?_
  rintro e w1 ⟨rfl, rfl⟩
  go_wp2
  go_ret
  exact ⟨rfl, rfl⟩
set_option maxRecDepth 100000 in
set_option maxHeartbeats 400000 in
theorem code4 (x : Nat → Addr) (w : World) (h : Six w x) :
    Calls Tryz.prog 44 #[.iface 207 (.pointer (some (x 4)))] w fun e w' => e = .returned (.int .i64 11) ∧ w' = w := by
  have k0 := h.c0
  have k2 := h.c2
  have k3 := h.c3
  have k4 := h.c4
  have k5 := h.c5
  have H := hide h
  clear h
  go_enter Tryz.func44, Tryz.ntmps44
  go_wp2_with fail
  refine ((unhide H).other 4 0 (by decide) (by decide) (by decide)).mono ?_
  rintro e w1 ⟨rfl, rfl⟩
  go_wp2_with fail
  refine ((unhide H).other 4 2 (by decide) (by decide) (by decide)).mono ?_
  rintro e w3 ⟨rfl, rfl⟩
  go_wp2_with fail
  refine ((unhide H).other 4 3 (by decide) (by decide) (by decide)).mono ?_
  rintro e w4 ⟨rfl, rfl⟩
  go_wp2_with fail
  refine (WIs.same (x 4) _).mono ?_
  rintro e w1 ⟨rfl, rfl⟩
  go_wp2
  go_ret
  exact ⟨rfl, rfl⟩
set_option maxRecDepth 100000 in
set_option maxHeartbeats 400000 in
theorem code5 (x : Nat → Addr) (w : World) (h : Six w x) :
    Calls Tryz.prog 44 #[.iface 207 (.pointer (some (x 5)))] w fun e w' => e = .returned (.int .i64 9) ∧ w' = w := by
  have k0 := h.c0
  have k2 := h.c2
  have k3 := h.c3
  have k4 := h.c4
  have k5 := h.c5
  have H := hide h
  clear h
  go_enter Tryz.func44, Tryz.ntmps44
  go_wp2_with fail
  refine ((unhide H).other 5 0 (by decide) (by decide) (by decide)).mono ?_
  rintro e w1 ⟨rfl, rfl⟩
  go_wp2_with fail
  refine ((unhide H).other 5 2 (by decide) (by decide) (by decide)).mono ?_
  rintro e w3 ⟨rfl, rfl⟩
  go_wp2_with fail
  refine ((unhide H).other 5 3 (by decide) (by decide) (by decide)).mono ?_
  rintro e w4 ⟨rfl, rfl⟩
  go_wp2_with fail
  refine ((unhide H).other 5 4 (by decide) (by decide) (by decide)).mono ?_
  rintro e w5 ⟨rfl, rfl⟩
  go_wp2_with fail
  refine (WIs.same (x 5) _).mono ?_
  rintro e w1 ⟨rfl, rfl⟩
  go_wp2
  go_ret
  exact ⟨rfl, rfl⟩
end WIs
end Go.Proofs.YtepmojmelcngeaaGreatDoor

