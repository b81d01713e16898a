/- Several texts of one claim in one file: MapLook, WGetT, WGetW. -/
import Derived.Test.YtepmojmelcngeaaGreatDoorMapN
import Derived.Test.YtepmojmelcngeaaGreatDoorG26
import Derived.Test.YtepmojmelcngeaaGreatDoorWGetP
import Derived.Test.YtepmojmelcngeaaGreatDoorWCopied
import Derived.Test.YtepmojmelcngeaaGreatDoorWNodesJ
/- 'm[k]' at nodes, as a statement of its own. -/
namespace Go.Proofs.YtepmojmelcngeaaGreatDoor
open Go.RowKit Go.Maps
namespace MapN
/-- 'all[path]', as a statement of its own. -/
theorem look_no {P : Program} (w : World) {ops : Array Oper} {rest : List Oper} {o : Oper} {a : Act} {Q : Exit → Act → World → Prop} (hg : o.guard = none) (m x : Operand) (t : TypeId) (hop : o.op = Op.lookup t m x false)
    (k e : TypeId) (K : Keyed P k) (ht : P.underlying t = some (.map k e)) (hz : (zeroValue e).run P w = .ok (Pl.Nd.val ⟨⟨#[]⟩, 0, ⟨#[]⟩, 0, 0⟩) w) (b n : Nat) (D : DataW Unit)
    (hm : a.eval m = .map (some b)) (hown : w.ownsMap P k elem b n D) (kv : Value) (kl : Lit) (hx : a.eval x = kv) (hkey : keyOf P k kv = some kl) (nd : Pl.Nd) (hat : D.atKey kl (dat ⟨⟨#[]⟩, 0, ⟨#[]⟩, 0, 0⟩) = dat nd)
    (hK : wpList P ops Q rest (a.put o.dst (.agg #[.string nd.path, .int .i64 nd.kind, .string nd.data, .int .i64 nd.time, .int .i64 nd.mark])) w) :
    wpList P ops Q (o :: rest) a w := by
  refine wpList_plain hg fun K' hK' => ?_
  obtain ⟨v, ps, hrun, hv⟩ := hown.lookup K ht hz (elem_mk _) hkey
  obtain ⟨n1, rfl, hd⟩ := elem_inv hv
  obtain rfl := dat_inj (hat.symm.trans hd)
  unfold Oper.wp
  simp [execOp, hop, hm, hx, hrun, Result.andThen]
  exact hK' _ _ hK
end MapN
end Go.Proofs.YtepmojmelcngeaaGreatDoor

/- 'm[k]' at nodes, where there is none. -/
namespace Go.Proofs.YtepmojmelcngeaaGreatDoor
open Go.RowKit Go.Maps
end Go.Proofs.YtepmojmelcngeaaGreatDoor

/- The walks of nodesWith and of the program's TreeGet. -/
namespace Go.Proofs.YtepmojmelcngeaaGreatDoor
open Go.RowKit Go.Maps
namespace WGetT
/-- What nodesWith hands back. -/
structure WithIs (L : List Pl.Nd) (p : ByteArray) (x : Nat → Addr) (w w' : World) (e : Ending) : Prop where
  out : (∃ i, i < 3 ∧ e = .returned (.tuple #[.map none, .iface 207 (.pointer (some (x i)))]) ∧ Pl.getV L p = .agg #[.string ⟨#[]⟩, .int .i64 0, .string ⟨#[]⟩, .int .i64 0, .int .i64 0, .int .i64 (WIs.codeOf i)]) ∨
    (∃ B m, e = .returned (.tuple #[.map (some B), .nilIface]) ∧ w.heap.size ≤ B ∧ w'.ownsMap Tryz.prog 9 MapN.elem B 40 (MapN.mapOf L) ∧ m ∈ L ∧ m.path = p ∧ L.Pairwise (fun a b => a.path ≠ b.path) ∧ Pl.getV L p = .agg #[.string m.path, .int .i64 m.kind, .string m.data, .int .i64 m.time, .int .i64 m.mark, .int .i64 0])
set_option linter.unusedSimpArgs false in
set_option maxRecDepth 100000 in
set_option maxHeartbeats 4000000 in
theorem with_any (a : Option Addr) (cap : Nat) (L : List Pl.Nd) (p : ByteArray) (w : World) (hl : L.length ≤ 1048576) (hv : Mem.isNodes w a L) (hok : ∀ n ∈ L, n.path.size ≤ 1048576 ∧ n.data.size ≤ 1048576) (hp : p.size ≤ 1048576) (x : Nat → Addr) (hE : WIs.Six w x) :
    Calls Tryz.prog 58 #[.agg #[.slice a L.length cap], .string p] w fun e w' => WithIs L p x w w' e ∧ Below w.heap.size w w' := by
  have b0 : Below w.heap.size w (w.alloc (.cells #[.slice a L.length cap] 31)) := (Below.refl _ _).alloc (Nat.le_refl _) _
  have hno := hide (WNodesI.nodes_any a cap L _ hl (Mem.nodes_call hv b0) hok _ _ _ _ _ _ (hE.call b0).errs)
  have hpr := hide (fun W => WPathI.right_any p W hp)
  have HE := hide hE
  by_cases hz : 8000 < p.size
  · have t0 : (8000 : Int) < (p.size : Int) := by omega
    have E : Hid (∀ w' e, e = .returned (.tuple #[.map none, .iface 207 (.pointer (some (x 0)))]) → WithIs L p x w w' e) := fun w' e h => ⟨.inl ⟨0, by decide, h, Pl.get_long hz⟩⟩
    have k0 := (hE.call b0).c0
    clear hz hE hno hpr hv hok
    go_enter Tryz.func58, Tryz.ntmps58
    go_wp2
    go_region
    go_wp2
    go_ret2
    exact ⟨unhide E _ _ rfl, Mem.below_drewN b0 1⟩
  have t0 : ¬ (8000 : Int) < (p.size : Int) := by omega
  have E1 : Hid ((Pl.treeB L = false ∨ p.size = 0 ∨ Pl.pathB p = false) → ∀ w' e, e = .returned (.tuple #[.map none, .iface 207 (.pointer (some (x 1)))]) → WithIs L p x w w' e) := fun h w' e he => ⟨.inl ⟨1, by decide, he, Pl.get_form hz h⟩⟩
  have E2 : Hid (¬ (Pl.treeB L = false ∨ p.size = 0 ∨ Pl.pathB p = false) → L.find? (fun m => decide (m.path = p)) = none → ∀ w' e, e = .returned (.tuple #[.map none, .iface 207 (.pointer (some (x 2)))]) → WithIs L p x w w' e) := fun h hf w' e he => ⟨.inl ⟨2, by decide, he, Pl.get_none hz h hf⟩⟩
  have E3 : Hid (¬ (Pl.treeB L = false ∨ p.size = 0 ∨ Pl.pathB p = false) → ∀ m, L.find? (fun m => decide (m.path = p)) = some m → ∀ w' e B, e = .returned (.tuple #[.map (some B), .nilIface]) → w.heap.size ≤ B → w'.ownsMap Tryz.prog 9 MapN.elem B 40 (MapN.mapOf L) → WithIs L p x w w' e) := fun h m hf w' e B he hb ho => ⟨.inr ⟨B, m, he, hb, ho, List.mem_of_find?_eq_some hf, by simpa using List.find?_some hf, Pl.tree_apart (by cases ht : Pl.treeB L <;> simp [ht] at h ⊢), Pl.get_some hz h hf⟩⟩
  have HT : Hid (Pl.treeB L = true → L.Pairwise (fun a b => a.path ≠ b.path)) := Pl.tree_apart
  generalize Pl.treeB L = R1 at hno E1 E2 E3 HT
  generalize Pl.pathB p = R2 at hpr E1 E2 E3
  clear hE hv hok hz
  go_enter Tryz.func58, Tryz.ntmps58
  go_wp2_with fail
  refine (unhide hno).mono ?_
  rintro e w1 ⟨h1, b1⟩
  have bw1 := b0.trans (b1.mono b0.size)
  have HE1 := hide ((unhide HE).call bw1)
  clear hno b1 b0 HE
  rcases h1 with ⟨rfl, B, rfl, hB, hown⟩ | ⟨rfl, rfl⟩
  rotate_left
  · have E := hide (unhide E1 (.inl rfl))
    clear E1 E2 E3 HT
    go_wp2
    go_ret2
    exact ⟨unhide E _ _ rfl, bw1⟩
  have HM1 := hide hown
  have hB' : w.heap.size ≤ B := Nat.le_trans (by simp) hB
  clear hown hB
  by_cases hs : p.size = 0
  · have t1 : p.toList.isEmpty = true := by rw [Pl.empty_list]; simpa [Pl.by_nil] using hs
    have E := hide (unhide E1 (.inr (.inl hs)))
    have k1 := (unhide HE1).c1
    clear E1 E2 E3 hs HT
    go_wp2
    go_region
    go_wp2
    go_ret2
    exact ⟨unhide E _ _ rfl, Mem.below_drewN bw1 1⟩
  have t1 : p.toList.isEmpty = false := by rw [Pl.empty_list]; simpa [Pl.by_nil] using hs
  go_wp2_with fail
  refine (unhide hpr _).mono ?_
  rintro e w2 ⟨rfl, b2⟩
  have bw2 := bw1.trans (b2.mono bw1.size)
  have HE2 := hide ((unhide HE1).call b2)
  have HM2 := hide (WNodesI.map_call (unhide HM1) b2)
  clear hpr b2 HE1 HM1 bw1
  cases R2
  · have E := hide (unhide E1 (.inr (.inr rfl)))
    have k1 := (unhide HE2).c1
    clear E1 E2 E3 hs HT
    go_wp2
    go_region
    go_wp2
    go_ret2
    exact ⟨unhide E _ _ rfl, Mem.below_drewN bw2 1⟩
  have hnn : ¬ (true = false ∨ p.size = 0 ∨ true = false) := by simp [hs]
  have hkey := MapN.keyOf_mk (p := p) (by unfold maxLen; omega)
  cases hf : L.find? (fun m => decide (m.path = p)) with
  | none =>
    have E := hide (unhide E2 hnn hf)
    have hmiss : ∀ n ∈ L, n.path ≠ p := fun n hn => by simpa using List.find?_eq_none.1 hf n hn
    have ha := hide (MapN.has_no hmiss)
    have ha2 := hide (Maps.atKey_of_not_has (unhide ha) (MapN.dat ⟨⟨#[]⟩, 0, ⟨#[]⟩, 0, 0⟩))
    have k2 : ∀ o, (w2.alloc o).cell? ⟨4, 0, none⟩ = some (.iface 207 (.pointer (some (x 2)))) := fun o => (World.cell?_alloc_some _ _ _ (by rw [(unhide HE2).c2]; rfl)).trans (unhide HE2).c2
    clear E1 E2 E3 hf hmiss hnn hs HT
    go_wp2_with (at_lookup; refine MapN.look_ok _ rfl _ _ 74 rfl 9 36 MapN.law Tryz.underlying74 (MapN.zeroN _) B 40 (MapN.mapOf L) rfl (unhide HM2) _ _ rfl hkey ⟨⟨#[]⟩, 0, ⟨#[]⟩, 0, 0⟩ (unhide ha2) false (unhide ha) ?_)
    go_region
    go_wp2
    go_ret2
    exact ⟨unhide E _ _ rfl, Mem.below_drewN (bw2.alloc bw2.size _) 1⟩
  | some m =>
    have E := hide (unhide E3 hnn m hf)
    have hm1 := List.mem_of_find?_eq_some hf
    have hm2 : m.path = p := by simpa using List.find?_some hf
    obtain ⟨y1, y2⟩ := MapN.at_yes (unhide HT trivial) hm1
    rw [hm2] at y1 y2
    have ha := hide y1
    have ha2 := hide (y2 (MapN.dat ⟨⟨#[]⟩, 0, ⟨#[]⟩, 0, 0⟩))
    clear E1 E2 E3 hf y1 y2 hm1 hm2 hnn hs HT
    go_wp2_with (at_lookup; refine MapN.look_ok _ rfl _ _ 74 rfl 9 36 MapN.law Tryz.underlying74 (MapN.zeroN _) B 40 (MapN.mapOf L) rfl (unhide HM2) _ _ rfl hkey m (unhide ha2) true (unhide ha) ?_)
    go_ret2
    exact ⟨unhide E _ _ B rfl hB' (WNodesI.map_call (unhide HM2) ((Below.refl _ _).alloc (Nat.le_refl _) _)), bw2.alloc bw2.size _⟩
end WGetT
end Go.Proofs.YtepmojmelcngeaaGreatDoor

