/- Several texts of one claim in one file: WOverS, WGetT, WGetW, WGetI. -/
import Derived.Test.YtmohbgmbknfaiaaGreatDoorWWalk4
import Derived.Test.YtmohbgmbknfaiaaGreatDoorG13
import Derived.Test.YtmohbgmbknfaiaaGreatDoorG30
import Derived.Test.YtmohbgmbknfaiaaGreatDoorG20
import Derived.Test.YtmohbgmbknfaiaaGreatDoorG34
import Derived.Test.YtmohbgmbknfaiaaGreatDoorG26
/- The specification's l04Over and Over. -/
namespace Go.Proofs.YtmohbgmbknfaiaaGreatDoor
open Go.RowKit
namespace WWalk4
open WPick WName4
set_option linter.unusedSimpArgs false in
set_option maxRecDepth 100000 in
set_option maxHeartbeats 1000000 in
theorem over4_any (Ts : List Pl.Tr) (ad : Option Addr) (capt : Nat) (w : World) (hT : Mem.isTrees w ad Ts) (hn1 : 1 ≤ Ts.length) (hn4 : Ts.length ≤ 4) (htr : ∀ M ∈ Ts.map (·.L), Pl.treeB M = true) :
    Calls Tryz.prog 39 #[.slice ad Ts.length capt] w fun e w' => ∃ v, e = .returned (.agg #[v, .int .i64 (if 40 < (Pl.allO (Ts.map (·.L))).length then 9 else 0)]) ∧ Mem.ownN w' w.heap.size v (if 40 < (Pl.allO (Ts.map (·.L))).length then [] else Pl.allO (Ts.map (·.L))) ∧ Below w.heap.size w w' := by
  have b0 : Below w.heap.size w (w.alloc (.cells #[.slice none 0 0, .int .i64 0] 31)) := (Below.refl _ _).alloc (Nat.le_refl _) _
  have V0 := Mem.Blk.new w #[.slice none 0 0, .int .i64 0] 31
  have hs0 := sz_alloc w (.cells #[.slice none 0 0, .int .i64 0] 31)
  have hL : ∀ t ∈ Ts, t.L.length ≤ 40 ∧ ∀ n ∈ t.L, (n.path.size ≤ 1048576 ∧ n.data.size ≤ 1048576) ∧ 0 ≤ n.mark ∧ n.mark ≤ 8 := fun t ht => by
    have h1 := htr t.L (List.mem_map_of_mem ht)
    simp only [Pl.treeB, Bool.and_eq_true, decide_eq_true_eq] at h1
    refine ⟨h1.1, fun n hn => ?_⟩
    have h2 := Pl.goI_all t.L _ _ h1.2 n hn
    have h3 := Pl.node_bounds h2
    have h4 := Pl.pathB_le (Pl.node_right h2).1
    exact ⟨⟨by omega, by omega⟩, by omega⟩
  have hn4' : (Ts.map (·.L)).length ≤ 4 := by rw [List.length_map]; exact hn4
  have hroot := Pl.at4_root hn4'
  have hlen := Pl.all_len hn4' htr
  have HW := hide (fun (gp cp : Nat) (W : World) (hb : Below (w.alloc (.cells #[.slice none 0 0, .int .i64 0] 31)).heap.size (w.alloc (.cells #[.slice none 0 0, .int .i64 0] 31)) W) (hg : gp < W.heap.size) hc =>
    walk_any (w.alloc (.cells #[.slice none 0 0, .int .i64 0] 31)) Ts ad capt (Mem.trees_call hT b0) hn4 hL htr 7 ⟨#[]⟩ (List.range Ts.length) gp cp (.slice none 0 0) [] W hb (Mem.ownN_nil _ _) hg (fun e => by cases e) hc (by rw [List.length_map] at hroot; exact hroot) (fun e => by have h := congrArg List.length e; rw [List.length_range, List.length_nil] at h; omega) (by rw [(Pl.right_root (s := ⟨#[]⟩) rfl).2]; rfl) (by
      have h := hlen
      unfold Pl.allO at h
      rw [List.length_map] at h
      simp only [List.length_nil]
      omega))
  have EO : Hid ([] ++ Pl.walkO (Ts.map (·.L)) 7 (List.range Ts.length) ⟨#[]⟩ = Pl.allO (Ts.map (·.L))) := by
    show _ = _
    unfold Pl.allO
    rw [List.nil_append, List.length_map]
  rw [unhide EO] at HW
  have HAL := hide (fun W => all_any Ts.length W hn4)
  generalize Pl.allO (Ts.map (·.L)) = O at HW hlen ⊢
  have HS0 := hide hs0
  have BB := hide b0
  have VV := hide V0
  clear hT hL htr hroot EO b0 V0 hs0
  go_enter Tryz.func39, Tryz.ntmps39
  go_wp2_with fail
  refine (unhide HAL _).mono ?_
  rintro e w1 ⟨vk, rfl, hownK, b1⟩
  obtain ⟨gp, cp, rfl, -, hgp, hck⟩ := ownI_cells hownK (by intro e; have h := congrArg List.length e; rw [List.length_range, List.length_nil] at h; omega)
  have hcall := hide (unhide HW gp cp w1 b1 hgp hck)
  have B1 := hide ((unhide BB).trans (b1.mono (by rw [unhide HS0]; omega)))
  have V1 := hide ((unhide VV).call b1)
  rw [List.length_range] at hcall
  simp only [List.length_range]
  clear HW HAL hownK b1 hck BB VV
  go_wp2_with fail
  refine (unhide hcall).mono ?_
  rintro e w2 ⟨v', rfl, hown, hgr, hfar⟩
  rw [unhide HS0] at hown
  obtain ⟨va, vc, rfl⟩ := Mem.own_shape hown
  have B2 := hide ((unhide B1).grown hgr (unhide B1).size (fun q hq => by cases hq))
  have V2 := hide ((unhide V1).grown hgr (fun e => by cases e))
  have HO := hide hown
  clear hcall hgr hfar hown B1 V1 hlen
  by_cases h40 : 40 < O.length
  · have y1 : (40 : Int) < (O.length : Int) := by omega
    have HP40 := hide h40
    have hil := hide (fun W => WIll3.ill_any 9 W)
    clear h40
    go_wp2_with fail
    refine (unhide hil _).mono ?_
    rintro e w3 ⟨rfl, b3⟩
    have B3 := (unhide B2).trans (b3.mono (unhide B2).size)
    have V3 := (unhide V2).call b3
    have d0 := V3.cell 0
    have d1 := V3.cell 1
    have f0 := V3.fr 0
    have f1 := V3.fr 1
    simp only [kA0, kA1, kA2] at d0 d1
    clear V3 V2 hil b3 B2 HO
    go_wp2
    refine bodyPost_ret (v := .agg #[.slice none 0 0, .int .i64 9]) (by simp [results, Tryz.results39, go_sem, d0, d1]) rfl ⟨.slice none 0 0, rfl, Mem.ownN_nil _ _, ?_⟩
    exact (B3.setCell (Nat.le_refl _) _).setCell (Nat.le_refl _) _
  · have y1 : ¬ (40 : Int) < (O.length : Int) := by omega
    have HN40 := hide h40
    have V6 : Hid (Mem.Blk ((w2.setCell ⟨w.heap.size, 0, none⟩ (.slice va O.length vc)).setCell ⟨w.heap.size, 1, none⟩ (.int .i64 0)) w.heap.size #[.slice va O.length vc, .int .i64 0] 31) := by
      have h := ((unhide V2).put 0 (.slice va O.length vc)).put 1 (.int .i64 0)
      simp only [kB3] at h
      exact h
    have RT : Hid (Below w.heap.size w ((w2.setCell ⟨w.heap.size, 0, none⟩ (.slice va O.length vc)).setCell ⟨w.heap.size, 1, none⟩ (.int .i64 0)) ∧ Mem.ownN ((w2.setCell ⟨w.heap.size, 0, none⟩ (.slice va O.length vc)).setCell ⟨w.heap.size, 1, none⟩ (.int .i64 0)) w.heap.size (.slice va O.length vc) O) :=
      ⟨((unhide B2).setCell (Nat.le_refl _) _).setCell (Nat.le_refl _) _, Mem.ownN_mono (Mem.ownN_set (Mem.ownN_set (unhide HO) _ _ (by show w.heap.size < _; omega)) _ _ (by show w.heap.size < _; omega)) (by omega)⟩
    have d0 := (unhide V2).cell 0
    have d1 := (unhide V2).cell 1
    have f0 := (unhide V2).fr 0
    have f1 := (unhide V2).fr 1
    simp only [kA0, kA1, kA2] at d0 d1
    clear V2 B2 HO h40
    go_wp2
    generalize (w2.setCell ⟨w.heap.size, 0, none⟩ (.slice va O.length vc)).setCell ⟨w.heap.size, 1, none⟩ (.int .i64 0) = WR at RT V6 ⊢
    have q0 := (unhide V6).cell 0
    have q1 := (unhide V6).cell 1
    simp only [kA0, kA1, kA2] at q0 q1
    exact bodyPost_ret (v := .agg #[.slice va O.length vc, .int .i64 0]) (by simp [results, Tryz.results39, go_sem, q0, q1]) rfl ⟨.slice va O.length vc, rfl, (unhide RT).2, (unhide RT).1⟩
set_option linter.unusedSimpArgs false in
set_option maxRecDepth 100000 in
set_option maxHeartbeats 1000000 in
theorem spec_any (a : Option Addr) (cap : Nat) (Ts : List Pl.Tr) (w : World) (hl : Ts.length ≤ 1048576) (hv : Mem.isTrees w a Ts) (hok : ∀ t ∈ Ts, t.L.length ≤ 1048576 ∧ ∀ n ∈ t.L, n.path.size ≤ 1048576 ∧ n.data.size ≤ 1048576) :
    Calls Tryz.prog 11 #[.agg #[.slice a Ts.length cap]] w fun e w' => ∃ v, e = .returned (.agg #[v, .int .i64 (Pl.overC (Ts.map (·.L)) (Pl.allO (Ts.map (·.L))))]) ∧ Mem.ownN w' w.heap.size v (Pl.overN (Ts.map (·.L)) (Pl.allO (Ts.map (·.L)))) ∧ Below w.heap.size w w' := by
  have b0 : Below w.heap.size w ((w.alloc (.cells #[.slice a Ts.length cap] 25)).alloc (.cells #[.slice none 0 0, .int .i64 0] 31)) := ((Below.refl _ _).alloc (Nat.le_refl _) _).alloc (by simp) _
  have T0 : Mem.Blk ((w.alloc (.cells #[.slice a Ts.length cap] 25)).alloc (.cells #[.slice none 0 0, .int .i64 0] 31)) w.heap.size #[.slice a Ts.length cap] 25 := (Mem.Blk.new _ _ _).alloc _
  have V0 : Mem.Blk ((w.alloc (.cells #[.slice a Ts.length cap] 25)).alloc (.cells #[.slice none 0 0, .int .i64 0] 31)) (w.heap.size + 1) #[.slice none 0 0, .int .i64 0] 31 := Mem.new_two _ _ _
  have HLR := hide (fun W (b : Below w.heap.size w W) => WLayS.any a cap Ts W hl (Mem.trees_call hv b) hok)
  have HOV := hide (fun W (b : Below w.heap.size w W) (h : Pl.layB (Ts.map (·.L)) = true) => over4_any Ts a cap W (Mem.trees_call hv b) (by simp only [Pl.layB, Bool.and_eq_true, decide_eq_true_eq, List.length_map] at h; exact h.1.1) (by have h2 := (Pl.lay_ok h).1; rw [List.length_map] at h2; exact h2) (Pl.lay_ok h).2)
  have E1 : Hid (Pl.layB (Ts.map (·.L)) = false → Pl.overC (Ts.map (·.L)) (Pl.allO (Ts.map (·.L))) = 1 ∧ Pl.overN (Ts.map (·.L)) (Pl.allO (Ts.map (·.L))) = []) := fun h => ⟨by rw [Pl.overC, if_neg (by rw [h]; simp)], by rw [Pl.overN, if_neg (by rw [h]; simp)]⟩
  have E2 : Hid (Pl.layB (Ts.map (·.L)) = true → (if 40 < (Pl.allO (Ts.map (·.L))).length then (9 : Int) else 0) = Pl.overC (Ts.map (·.L)) (Pl.allO (Ts.map (·.L))) ∧ (if 40 < (Pl.allO (Ts.map (·.L))).length then [] else Pl.allO (Ts.map (·.L))) = Pl.overN (Ts.map (·.L)) (Pl.allO (Ts.map (·.L)))) := fun h => by
    refine ⟨by rw [Pl.overC, if_pos h], ?_⟩
    rw [Pl.overN]
    by_cases h40 : 40 < (Pl.allO (Ts.map (·.L))).length
    · rw [if_pos h40, if_neg (by omega)]
    · rw [if_neg h40, if_pos ⟨h, by omega⟩]
  generalize Pl.overC (Ts.map (·.L)) (Pl.allO (Ts.map (·.L))) = RC at E1 E2 ⊢
  generalize Pl.overN (Ts.map (·.L)) (Pl.allO (Ts.map (·.L))) = RN at E1 E2 ⊢
  generalize (if 40 < (Pl.allO (Ts.map (·.L))).length then (9 : Int) else 0) = C2 at HOV E2
  generalize (if 40 < (Pl.allO (Ts.map (·.L))).length then [] else Pl.allO (Ts.map (·.L))) = N2 at HOV E2
  generalize Pl.layB (Ts.map (·.L)) = R1 at HLR HOV E1 E2
  have BB := hide b0
  have TT := hide T0
  have VV := hide V0
  have c0 := T0.cell 0
  simp only [kA0, kA1] at c0
  clear hv hok b0 T0 V0
  go_enter Tryz.func11, Tryz.ntmps11
  go_wp2_with fail
  refine (unhide HLR _ (unhide BB)).mono ?_
  rintro e w1 ⟨rfl, b1⟩
  have B1 := hide ((unhide BB).trans (b1.mono (unhide BB).size))
  have T1 := hide ((unhide TT).call b1)
  have V1 := hide ((unhide VV).call b1)
  clear HLR b1 BB TT VV c0
  cases R1
  · obtain ⟨e1, e2⟩ := unhide E1 (by trivial)
    have X1 := hide e1
    have X2 := hide e2
    have hil := hide (fun W => WIll3.ill_any 1 W)
    clear E1 E2 e1 e2 HOV
    go_wp2_with fail
    refine (unhide hil _).mono ?_
    rintro e w3 ⟨rfl, b3⟩
    have B3 := (unhide B1).trans (b3.mono (unhide B1).size)
    have V3 := (unhide V1).call b3
    have d0 := V3.cell 0
    have d1 := V3.cell 1
    have f0 := V3.fr 0
    have f1 := V3.fr 1
    simp only [kA0, kA1, kA2] at d0 d1
    clear V3 V1 hil b3 B1 T1
    go_wp2
    refine bodyPost_ret (v := .agg #[.slice none 0 0, .int .i64 1]) (by simp [results, Tryz.results11, go_sem, d0, d1]) rfl ⟨.slice none 0 0, by rw [unhide X1], by rw [unhide X2]; exact Mem.ownN_nil _ _, ?_⟩
    exact (B3.setCell (by show w.heap.size ≤ w.heap.size + 1; omega) _).setCell (by show w.heap.size ≤ w.heap.size + 1; omega) _
  · obtain ⟨e1, e2⟩ := unhide E2 (by trivial)
    subst e1 e2
    have hcall := hide (unhide HOV w1 (unhide B1) (by trivial))
    have c0 := (unhide T1).cell 0
    simp only [kA0, kA1] at c0
    clear E1 E2 HOV
    go_wp2_with fail
    refine (unhide hcall).mono ?_
    rintro e w2 ⟨v, rfl, hown, b2⟩
    obtain ⟨va, vc, rfl⟩ := Mem.own_shape hown
    have hlt := (unhide V1).lt
    have B2 := hide ((unhide B1).trans (b2.mono (unhide B1).size))
    have V2 := hide ((unhide V1).call b2)
    have V6 : Hid (Mem.Blk ((w2.setCell ⟨w.heap.size + 1, 0, none⟩ (.slice va N2.length vc)).setCell ⟨w.heap.size + 1, 1, none⟩ (.int .i64 C2)) (w.heap.size + 1) #[.slice va N2.length vc, .int .i64 C2] 31) := by
      have h := ((unhide V2).put 0 (.slice va N2.length vc)).put 1 (.int .i64 C2)
      simp only [kB3] at h
      exact h
    have RT : Hid (Below w.heap.size w ((w2.setCell ⟨w.heap.size + 1, 0, none⟩ (.slice va N2.length vc)).setCell ⟨w.heap.size + 1, 1, none⟩ (.int .i64 C2)) ∧ Mem.ownN ((w2.setCell ⟨w.heap.size + 1, 0, none⟩ (.slice va N2.length vc)).setCell ⟨w.heap.size + 1, 1, none⟩ (.int .i64 C2)) w.heap.size (.slice va N2.length vc) N2) :=
      ⟨((unhide B2).setCell (by show w.heap.size ≤ w.heap.size + 1; omega) _).setCell (by show w.heap.size ≤ w.heap.size + 1; omega) _, Mem.ownN_mono (Mem.ownN_set (Mem.ownN_set hown _ _ (by show w.heap.size + 1 < _; omega)) _ _ (by show w.heap.size + 1 < _; omega)) (by omega)⟩
    have d0 := (unhide V2).cell 0
    have d1 := (unhide V2).cell 1
    have f0 := (unhide V2).fr 0
    have f1 := (unhide V2).fr 1
    simp only [kA0, kA1, kA2] at d0 d1
    clear V2 B2 hown hcall b2 B1 T1 V1 c0
    go_wp2
    generalize (w2.setCell ⟨w.heap.size + 1, 0, none⟩ (.slice va N2.length vc)).setCell ⟨w.heap.size + 1, 1, none⟩ (.int .i64 C2) = WR at RT V6 ⊢
    have q0 := (unhide V6).cell 0
    have q1 := (unhide V6).cell 1
    simp only [kA0, kA1, kA2] at q0 q1
    exact bodyPost_ret (v := .agg #[.slice va N2.length vc, .int .i64 C2]) (by simp [results, Tryz.results11, go_sem, q0, q1]) rfl ⟨.slice va N2.length vc, rfl, (unhide RT).2, (unhide RT).1⟩
end WWalk4
end Go.Proofs.YtmohbgmbknfaiaaGreatDoor

/- 'm[k]' at nodes, where there is none. -/
namespace Go.Proofs.YtmohbgmbknfaiaaGreatDoor
open Go.RowKit Go.Maps
end Go.Proofs.YtmohbgmbknfaiaaGreatDoor

/- The walks of nodesWith and of the program's TreeGet. -/
namespace Go.Proofs.YtmohbgmbknfaiaaGreatDoor
open Go.RowKit Go.Maps
namespace WGetT
/-- What nodesWith hands back. -/
structure WithIs (L : List Pl.Nd) (p : ByteArray) (x : Nat → Addr) (w w' : World) (e : Ending) : Prop where
  out : (∃ i, i < 3 ∧ e = .returned (.tuple #[.map none, .iface 269 (.pointer (some (x i)))]) ∧ Pl.getV L p = .agg #[.string ⟨#[]⟩, .int .i64 0, .string ⟨#[]⟩, .int .i64 0, .int .i64 0, .int .i64 (WIs.codeOf i)]) ∨
    (∃ B m, e = .returned (.tuple #[.map (some B), .nilIface]) ∧ w.heap.size ≤ B ∧ w'.ownsMap Tryz.prog 9 MapN.elem B 40 (MapN.mapOf L) ∧ m ∈ L ∧ m.path = p ∧ L.Pairwise (fun a b => a.path ≠ b.path) ∧ Pl.getV L p = .agg #[.string m.path, .int .i64 m.kind, .string m.data, .int .i64 m.time, .int .i64 m.mark, .int .i64 0])
set_option linter.unusedSimpArgs false in
set_option maxRecDepth 100000 in
set_option maxHeartbeats 4000000 in
theorem with_any (a : Option Addr) (cap : Nat) (L : List Pl.Nd) (p : ByteArray) (w : World) (hl : L.length ≤ 1048576) (hv : Mem.isNodes w a L) (hok : ∀ n ∈ L, n.path.size ≤ 1048576 ∧ n.data.size ≤ 1048576) (hp : p.size ≤ 1048576) (x : Nat → Addr) (hE : WIs.Six w x) :
    Calls Tryz.prog 40 #[.agg #[.slice a L.length cap], .string p] w fun e w' => WithIs L p x w w' e ∧ Below w.heap.size w w' := by
  have b0 : Below w.heap.size w (w.alloc (.cells #[.slice a L.length cap] 29)) := (Below.refl _ _).alloc (Nat.le_refl _) _
  have hno := hide (WNodesI.nodes_any a cap L _ hl (Mem.nodes_call hv b0) hok _ _ _ _ _ _ (hE.call b0).errs)
  have hpr := hide (fun W => WPathI.right_any p W hp)
  have HE := hide hE
  by_cases hz : 8000 < p.size
  · have t0 : (8000 : Int) < (p.size : Int) := by omega
    have E : Hid (∀ w' e, e = .returned (.tuple #[.map none, .iface 269 (.pointer (some (x 0)))]) → WithIs L p x w w' e) := fun w' e h => ⟨.inl ⟨0, by decide, h, Pl.get_long hz⟩⟩
    have k0 := (hE.call b0).c0
    clear hz hE hno hpr hv hok
    go_enter Tryz.func40, Tryz.ntmps40
    go_wp2
    go_region
    go_wp2
    go_ret2
    exact ⟨unhide E _ _ rfl, Mem.below_drewN b0 1⟩
  have t0 : ¬ (8000 : Int) < (p.size : Int) := by omega
  have E1 : Hid ((Pl.treeB L = false ∨ p.size = 0 ∨ Pl.pathB p = false) → ∀ w' e, e = .returned (.tuple #[.map none, .iface 269 (.pointer (some (x 1)))]) → WithIs L p x w w' e) := fun h w' e he => ⟨.inl ⟨1, by decide, he, Pl.get_form hz h⟩⟩
  have E2 : Hid (¬ (Pl.treeB L = false ∨ p.size = 0 ∨ Pl.pathB p = false) → L.find? (fun m => decide (m.path = p)) = none → ∀ w' e, e = .returned (.tuple #[.map none, .iface 269 (.pointer (some (x 2)))]) → WithIs L p x w w' e) := fun h hf w' e he => ⟨.inl ⟨2, by decide, he, Pl.get_none hz h hf⟩⟩
  have E3 : Hid (¬ (Pl.treeB L = false ∨ p.size = 0 ∨ Pl.pathB p = false) → ∀ m, L.find? (fun m => decide (m.path = p)) = some m → ∀ w' e B, e = .returned (.tuple #[.map (some B), .nilIface]) → w.heap.size ≤ B → w'.ownsMap Tryz.prog 9 MapN.elem B 40 (MapN.mapOf L) → WithIs L p x w w' e) := fun h m hf w' e B he hb ho => ⟨.inr ⟨B, m, he, hb, ho, List.mem_of_find?_eq_some hf, by simpa using List.find?_some hf, Pl.tree_apart (by cases ht : Pl.treeB L <;> simp [ht] at h ⊢), Pl.get_some hz h hf⟩⟩
  have HT : Hid (Pl.treeB L = true → L.Pairwise (fun a b => a.path ≠ b.path)) := Pl.tree_apart
  generalize Pl.treeB L = R1 at hno E1 E2 E3 HT
  generalize Pl.pathB p = R2 at hpr E1 E2 E3
  clear hE hv hok hz
  go_enter Tryz.func40, Tryz.ntmps40
  go_wp2_with fail
  refine (unhide hno).mono ?_
  rintro e w1 ⟨h1, b1⟩
  have bw1 := b0.trans (b1.mono b0.size)
  have HE1 := hide ((unhide HE).call bw1)
  clear hno b1 b0 HE
  rcases h1 with ⟨rfl, B, rfl, hB, hown⟩ | ⟨rfl, rfl⟩
  rotate_left
  · have E := hide (unhide E1 (.inl rfl))
    clear E1 E2 E3 HT
    go_wp2
    go_ret2
    exact ⟨unhide E _ _ rfl, bw1⟩
  have HM1 := hide hown
  have hB' : w.heap.size ≤ B := Nat.le_trans (by simp) hB
  clear hown hB
  by_cases hs : p.size = 0
  · have t1 : p.toList.isEmpty = true := by rw [Pl.empty_list]; simpa [Pl.by_nil] using hs
    have E := hide (unhide E1 (.inr (.inl hs)))
    have k1 := (unhide HE1).c1
    clear E1 E2 E3 hs HT
    go_wp2
    go_region
    go_wp2
    go_ret2
    exact ⟨unhide E _ _ rfl, Mem.below_drewN bw1 1⟩
  have t1 : p.toList.isEmpty = false := by rw [Pl.empty_list]; simpa [Pl.by_nil] using hs
  go_wp2_with fail
  refine (unhide hpr _).mono ?_
  rintro e w2 ⟨rfl, b2⟩
  have bw2 := bw1.trans (b2.mono bw1.size)
  have HE2 := hide ((unhide HE1).call b2)
  have HM2 := hide (WNodesI.map_call (unhide HM1) b2)
  clear hpr b2 HE1 HM1 bw1
  cases R2
  · have E := hide (unhide E1 (.inr (.inr rfl)))
    have k1 := (unhide HE2).c1
    clear E1 E2 E3 hs HT
    go_wp2
    go_region
    go_wp2
    go_ret2
    exact ⟨unhide E _ _ rfl, Mem.below_drewN bw2 1⟩
  have hnn : ¬ (true = false ∨ p.size = 0 ∨ true = false) := by simp [hs]
  have hkey := MapN.keyOf_mk (p := p) (by unfold maxLen; omega)
  cases hf : L.find? (fun m => decide (m.path = p)) with
  | none =>
    have E := hide (unhide E2 hnn hf)
    have hmiss : ∀ n ∈ L, n.path ≠ p := fun n hn => by simpa using List.find?_eq_none.1 hf n hn
    have ha := hide (MapN.has_no hmiss)
    have ha2 := hide (Maps.atKey_of_not_has (unhide ha) (MapN.dat ⟨⟨#[]⟩, 0, ⟨#[]⟩, 0, 0⟩))
    have k2 : ∀ o, (w2.alloc o).cell? ⟨2, 0, none⟩ = some (.iface 269 (.pointer (some (x 2)))) := fun o => (World.cell?_alloc_some _ _ _ (by rw [(unhide HE2).c2]; rfl)).trans (unhide HE2).c2
    clear E1 E2 E3 hf hmiss hnn hs HT
    go_wp2_with (at_lookup; refine MapN.look_ok _ rfl _ _ 70 rfl 9 34 MapN.law Tryz.underlying70 (MapN.zeroN _) B 40 (MapN.mapOf L) rfl (unhide HM2) _ _ rfl hkey ⟨⟨#[]⟩, 0, ⟨#[]⟩, 0, 0⟩ (unhide ha2) false (unhide ha) ?_)
    go_region
    go_wp2
    go_ret2
    exact ⟨unhide E _ _ rfl, Mem.below_drewN (bw2.alloc bw2.size _) 1⟩
  | some m =>
    have E := hide (unhide E3 hnn m hf)
    have hm1 := List.mem_of_find?_eq_some hf
    have hm2 : m.path = p := by simpa using List.find?_some hf
    obtain ⟨y1, y2⟩ := MapN.at_yes (unhide HT trivial) hm1
    rw [hm2] at y1 y2
    have ha := hide y1
    have ha2 := hide (y2 (MapN.dat ⟨⟨#[]⟩, 0, ⟨#[]⟩, 0, 0⟩))
    clear E1 E2 E3 hf y1 y2 hm1 hm2 hnn hs HT
    go_wp2_with (at_lookup; refine MapN.look_ok _ rfl _ _ 70 rfl 9 34 MapN.law Tryz.underlying70 (MapN.zeroN _) B 40 (MapN.mapOf L) rfl (unhide HM2) _ _ rfl hkey m (unhide ha2) true (unhide ha) ?_)
    go_ret2
    exact ⟨unhide E _ _ B rfl hB' (WNodesI.map_call (unhide HM2) ((Below.refl _ _).alloc (Nat.le_refl _) _)), bw2.alloc bw2.size _⟩
end WGetT
end Go.Proofs.YtmohbgmbknfaiaaGreatDoor

/- The walk of the program's TreeGet. -/
namespace Go.Proofs.YtmohbgmbknfaiaaGreatDoor
open Go.RowKit Go.Maps
namespace WGetT
set_option linter.unusedSimpArgs false in
set_option maxRecDepth 100000 in
set_option maxHeartbeats 4000000 in
theorem impl_any (a : Option Addr) (cap : Nat) (L : List Pl.Nd) (p : ByteArray) (w : World) (hl : L.length ≤ 1048576) (hv : Mem.isNodes w a L) (hok : ∀ n ∈ L, n.path.size ≤ 1048576 ∧ n.data.size ≤ 1048576) (hp : p.size ≤ 1048576) (x : Nat → Addr) (hE : WIs.Six w x) :
    Calls Tryz.prog 12 #[.agg #[.slice a L.length cap], .string p] w fun e w' => e = .returned (Pl.getV L p) ∧ Below w.heap.size w w' := by
  have h0 : Held w ((w.alloc (.cells #[.slice a L.length cap] 29)).alloc (.cells #[.string ⟨#[]⟩, .int .i64 0, .string ⟨#[]⟩, .int .i64 0, .int .i64 0, .int .i64 0] 36)) := ⟨((Below.refl _ _).alloc (Nat.le_refl _) _).alloc (by simp) _, Mem.new_two _ _ _⟩
  have hw := hide (with_any a cap L p _ hl (Mem.nodes_call hv h0.1) hok hp x (hE.call h0.1))
  have HOK := hide hok
  have HE := hide hE
  clear hv hE hok
  go_enter Tryz.func12, Tryz.ntmps12
  go_wp2_with fail
  refine (unhide hw).mono ?_
  rintro e w1 ⟨⟨h1⟩, b1⟩
  have HO := hide (h0.call b1)
  have HE1 := hide ((unhide HE).call (unhide HO).1)
  clear hw b1 h0 HE
  rcases h1 with ⟨i, hi, rfl, hg⟩ | ⟨B, m, rfl, hB, hown, hm1, rfl, hC, hg⟩
  · obtain rfl | rfl | rfl : i = 0 ∨ i = 1 ∨ i = 2 := by omega
    · have E : Hid (Pl.getV L p = .agg #[.string ⟨#[]⟩, .int .i64 0, .string ⟨#[]⟩, .int .i64 0, .int .i64 0, .int .i64 2]) := hg
      clear hg hi HOK
      go_wp2_with fail
      refine (WIs.code0 x _ (unhide HE1)).mono ?_
      rintro e w2 ⟨rfl, rfl⟩
      have HR := unhide HO
      have z0 := HR.at 0
      have f0 := HR.fr 0
      have z1 := HR.at 1
      have f1 := HR.fr 1
      have z2 := HR.at 2
      have f2 := HR.fr 2
      have z3 := HR.at 3
      have f3 := HR.fr 3
      have z4 := HR.at 4
      have f4 := HR.fr 4
      have z5 := HR.at 5
      have f5 := HR.fr 5
      clear HR
      simp only [kA0, kA1, kA2] at z0 z1 z2 z3 z4 z5
      go_wp2
      have HR := unhide HO
      have r6 : ((((((w2.setCell ⟨w.heap.size + 1, 0, none⟩ (.string ⟨#[]⟩)).setCell ⟨w.heap.size + 1, 1, none⟩ (.int .i64 0)).setCell ⟨w.heap.size + 1, 2, none⟩ (.string ⟨#[]⟩)).setCell ⟨w.heap.size + 1, 3, none⟩ (.int .i64 0)).setCell ⟨w.heap.size + 1, 4, none⟩ (.int .i64 0)).setCell ⟨w.heap.size + 1, 5, none⟩ (.int .i64 2)).heap[w.heap.size + 1]? = some (.cells #[.string ⟨#[]⟩, .int .i64 0, .string ⟨#[]⟩, .int .i64 0, .int .i64 0, .int .i64 2] 36 (0, 0)) := (heap_setCell_same _ _ 5 _ _ _ (heap_setCell_same _ _ 4 _ _ _ (heap_setCell_same _ _ 3 _ _ _ (heap_setCell_same _ _ 2 _ _ _ (heap_setCell_same _ _ 1 _ _ _ (heap_setCell_same _ _ 0 _ _ _ HR.2))))))
      have d0 : ((((((w2.setCell ⟨w.heap.size + 1, 0, none⟩ (.string ⟨#[]⟩)).setCell ⟨w.heap.size + 1, 1, none⟩ (.int .i64 0)).setCell ⟨w.heap.size + 1, 2, none⟩ (.string ⟨#[]⟩)).setCell ⟨w.heap.size + 1, 3, none⟩ (.int .i64 0)).setCell ⟨w.heap.size + 1, 4, none⟩ (.int .i64 0)).setCell ⟨w.heap.size + 1, 5, none⟩ (.int .i64 2)).cell? ⟨w.heap.size + 1, 0, none⟩ = some (.string ⟨#[]⟩) := cell_of_row _ _ 0 _ _ (0, 0) r6
      have d1 : ((((((w2.setCell ⟨w.heap.size + 1, 0, none⟩ (.string ⟨#[]⟩)).setCell ⟨w.heap.size + 1, 1, none⟩ (.int .i64 0)).setCell ⟨w.heap.size + 1, 2, none⟩ (.string ⟨#[]⟩)).setCell ⟨w.heap.size + 1, 3, none⟩ (.int .i64 0)).setCell ⟨w.heap.size + 1, 4, none⟩ (.int .i64 0)).setCell ⟨w.heap.size + 1, 5, none⟩ (.int .i64 2)).cell? ⟨w.heap.size + 1, 1, none⟩ = some (.int .i64 0) := cell_of_row _ _ 1 _ _ (0, 0) r6
      have d2 : ((((((w2.setCell ⟨w.heap.size + 1, 0, none⟩ (.string ⟨#[]⟩)).setCell ⟨w.heap.size + 1, 1, none⟩ (.int .i64 0)).setCell ⟨w.heap.size + 1, 2, none⟩ (.string ⟨#[]⟩)).setCell ⟨w.heap.size + 1, 3, none⟩ (.int .i64 0)).setCell ⟨w.heap.size + 1, 4, none⟩ (.int .i64 0)).setCell ⟨w.heap.size + 1, 5, none⟩ (.int .i64 2)).cell? ⟨w.heap.size + 1, 2, none⟩ = some (.string ⟨#[]⟩) := cell_of_row _ _ 2 _ _ (0, 0) r6
      have d3 : ((((((w2.setCell ⟨w.heap.size + 1, 0, none⟩ (.string ⟨#[]⟩)).setCell ⟨w.heap.size + 1, 1, none⟩ (.int .i64 0)).setCell ⟨w.heap.size + 1, 2, none⟩ (.string ⟨#[]⟩)).setCell ⟨w.heap.size + 1, 3, none⟩ (.int .i64 0)).setCell ⟨w.heap.size + 1, 4, none⟩ (.int .i64 0)).setCell ⟨w.heap.size + 1, 5, none⟩ (.int .i64 2)).cell? ⟨w.heap.size + 1, 3, none⟩ = some (.int .i64 0) := cell_of_row _ _ 3 _ _ (0, 0) r6
      have d4 : ((((((w2.setCell ⟨w.heap.size + 1, 0, none⟩ (.string ⟨#[]⟩)).setCell ⟨w.heap.size + 1, 1, none⟩ (.int .i64 0)).setCell ⟨w.heap.size + 1, 2, none⟩ (.string ⟨#[]⟩)).setCell ⟨w.heap.size + 1, 3, none⟩ (.int .i64 0)).setCell ⟨w.heap.size + 1, 4, none⟩ (.int .i64 0)).setCell ⟨w.heap.size + 1, 5, none⟩ (.int .i64 2)).cell? ⟨w.heap.size + 1, 4, none⟩ = some (.int .i64 0) := cell_of_row _ _ 4 _ _ (0, 0) r6
      have d5 : ((((((w2.setCell ⟨w.heap.size + 1, 0, none⟩ (.string ⟨#[]⟩)).setCell ⟨w.heap.size + 1, 1, none⟩ (.int .i64 0)).setCell ⟨w.heap.size + 1, 2, none⟩ (.string ⟨#[]⟩)).setCell ⟨w.heap.size + 1, 3, none⟩ (.int .i64 0)).setCell ⟨w.heap.size + 1, 4, none⟩ (.int .i64 0)).setCell ⟨w.heap.size + 1, 5, none⟩ (.int .i64 2)).cell? ⟨w.heap.size + 1, 5, none⟩ = some (.int .i64 2) := cell_of_row _ _ 5 _ _ (0, 0) r6
      have bf : Below w.heap.size w ((((((w2.setCell ⟨w.heap.size + 1, 0, none⟩ (.string ⟨#[]⟩)).setCell ⟨w.heap.size + 1, 1, none⟩ (.int .i64 0)).setCell ⟨w.heap.size + 1, 2, none⟩ (.string ⟨#[]⟩)).setCell ⟨w.heap.size + 1, 3, none⟩ (.int .i64 0)).setCell ⟨w.heap.size + 1, 4, none⟩ (.int .i64 0)).setCell ⟨w.heap.size + 1, 5, none⟩ (.int .i64 2)) := ((((((HR.1.setCell (by simp) _).setCell (by simp) _).setCell (by simp) _).setCell (by simp) _).setCell (by simp) _).setCell (by simp) _)
      refine bodyPost_ret (v := .agg #[.string ⟨#[]⟩, .int .i64 0, .string ⟨#[]⟩, .int .i64 0, .int .i64 0, .int .i64 2]) (by simp [results, Tryz.results12, go_sem, d0, d1, d2, d3, d4, d5]) rfl ⟨by rw [unhide E], bf⟩
    · have E : Hid (Pl.getV L p = .agg #[.string ⟨#[]⟩, .int .i64 0, .string ⟨#[]⟩, .int .i64 0, .int .i64 0, .int .i64 1]) := hg
      clear hg hi HOK
      go_wp2_with fail
      refine (WIs.code1 x _ (unhide HE1)).mono ?_
      rintro e w2 ⟨rfl, rfl⟩
      have HR := unhide HO
      have z0 := HR.at 0
      have f0 := HR.fr 0
      have z1 := HR.at 1
      have f1 := HR.fr 1
      have z2 := HR.at 2
      have f2 := HR.fr 2
      have z3 := HR.at 3
      have f3 := HR.fr 3
      have z4 := HR.at 4
      have f4 := HR.fr 4
      have z5 := HR.at 5
      have f5 := HR.fr 5
      clear HR
      simp only [kA0, kA1, kA2] at z0 z1 z2 z3 z4 z5
      go_wp2
      have HR := unhide HO
      have r6 : ((((((w2.setCell ⟨w.heap.size + 1, 0, none⟩ (.string ⟨#[]⟩)).setCell ⟨w.heap.size + 1, 1, none⟩ (.int .i64 0)).setCell ⟨w.heap.size + 1, 2, none⟩ (.string ⟨#[]⟩)).setCell ⟨w.heap.size + 1, 3, none⟩ (.int .i64 0)).setCell ⟨w.heap.size + 1, 4, none⟩ (.int .i64 0)).setCell ⟨w.heap.size + 1, 5, none⟩ (.int .i64 1)).heap[w.heap.size + 1]? = some (.cells #[.string ⟨#[]⟩, .int .i64 0, .string ⟨#[]⟩, .int .i64 0, .int .i64 0, .int .i64 1] 36 (0, 0)) := (heap_setCell_same _ _ 5 _ _ _ (heap_setCell_same _ _ 4 _ _ _ (heap_setCell_same _ _ 3 _ _ _ (heap_setCell_same _ _ 2 _ _ _ (heap_setCell_same _ _ 1 _ _ _ (heap_setCell_same _ _ 0 _ _ _ HR.2))))))
      have d0 : ((((((w2.setCell ⟨w.heap.size + 1, 0, none⟩ (.string ⟨#[]⟩)).setCell ⟨w.heap.size + 1, 1, none⟩ (.int .i64 0)).setCell ⟨w.heap.size + 1, 2, none⟩ (.string ⟨#[]⟩)).setCell ⟨w.heap.size + 1, 3, none⟩ (.int .i64 0)).setCell ⟨w.heap.size + 1, 4, none⟩ (.int .i64 0)).setCell ⟨w.heap.size + 1, 5, none⟩ (.int .i64 1)).cell? ⟨w.heap.size + 1, 0, none⟩ = some (.string ⟨#[]⟩) := cell_of_row _ _ 0 _ _ (0, 0) r6
      have d1 : ((((((w2.setCell ⟨w.heap.size + 1, 0, none⟩ (.string ⟨#[]⟩)).setCell ⟨w.heap.size + 1, 1, none⟩ (.int .i64 0)).setCell ⟨w.heap.size + 1, 2, none⟩ (.string ⟨#[]⟩)).setCell ⟨w.heap.size + 1, 3, none⟩ (.int .i64 0)).setCell ⟨w.heap.size + 1, 4, none⟩ (.int .i64 0)).setCell ⟨w.heap.size + 1, 5, none⟩ (.int .i64 1)).cell? ⟨w.heap.size + 1, 1, none⟩ = some (.int .i64 0) := cell_of_row _ _ 1 _ _ (0, 0) r6
      have d2 : ((((((w2.setCell ⟨w.heap.size + 1, 0, none⟩ (.string ⟨#[]⟩)).setCell ⟨w.heap.size + 1, 1, none⟩ (.int .i64 0)).setCell ⟨w.heap.size + 1, 2, none⟩ (.string ⟨#[]⟩)).setCell ⟨w.heap.size + 1, 3, none⟩ (.int .i64 0)).setCell ⟨w.heap.size + 1, 4, none⟩ (.int .i64 0)).setCell ⟨w.heap.size + 1, 5, none⟩ (.int .i64 1)).cell? ⟨w.heap.size + 1, 2, none⟩ = some (.string ⟨#[]⟩) := cell_of_row _ _ 2 _ _ (0, 0) r6
      have d3 : ((((((w2.setCell ⟨w.heap.size + 1, 0, none⟩ (.string ⟨#[]⟩)).setCell ⟨w.heap.size + 1, 1, none⟩ (.int .i64 0)).setCell ⟨w.heap.size + 1, 2, none⟩ (.string ⟨#[]⟩)).setCell ⟨w.heap.size + 1, 3, none⟩ (.int .i64 0)).setCell ⟨w.heap.size + 1, 4, none⟩ (.int .i64 0)).setCell ⟨w.heap.size + 1, 5, none⟩ (.int .i64 1)).cell? ⟨w.heap.size + 1, 3, none⟩ = some (.int .i64 0) := cell_of_row _ _ 3 _ _ (0, 0) r6
      have d4 : ((((((w2.setCell ⟨w.heap.size + 1, 0, none⟩ (.string ⟨#[]⟩)).setCell ⟨w.heap.size + 1, 1, none⟩ (.int .i64 0)).setCell ⟨w.heap.size + 1, 2, none⟩ (.string ⟨#[]⟩)).setCell ⟨w.heap.size + 1, 3, none⟩ (.int .i64 0)).setCell ⟨w.heap.size + 1, 4, none⟩ (.int .i64 0)).setCell ⟨w.heap.size + 1, 5, none⟩ (.int .i64 1)).cell? ⟨w.heap.size + 1, 4, none⟩ = some (.int .i64 0) := cell_of_row _ _ 4 _ _ (0, 0) r6
      have d5 : ((((((w2.setCell ⟨w.heap.size + 1, 0, none⟩ (.string ⟨#[]⟩)).setCell ⟨w.heap.size + 1, 1, none⟩ (.int .i64 0)).setCell ⟨w.heap.size + 1, 2, none⟩ (.string ⟨#[]⟩)).setCell ⟨w.heap.size + 1, 3, none⟩ (.int .i64 0)).setCell ⟨w.heap.size + 1, 4, none⟩ (.int .i64 0)).setCell ⟨w.heap.size + 1, 5, none⟩ (.int .i64 1)).cell? ⟨w.heap.size + 1, 5, none⟩ = some (.int .i64 1) := cell_of_row _ _ 5 _ _ (0, 0) r6
      have bf : Below w.heap.size w ((((((w2.setCell ⟨w.heap.size + 1, 0, none⟩ (.string ⟨#[]⟩)).setCell ⟨w.heap.size + 1, 1, none⟩ (.int .i64 0)).setCell ⟨w.heap.size + 1, 2, none⟩ (.string ⟨#[]⟩)).setCell ⟨w.heap.size + 1, 3, none⟩ (.int .i64 0)).setCell ⟨w.heap.size + 1, 4, none⟩ (.int .i64 0)).setCell ⟨w.heap.size + 1, 5, none⟩ (.int .i64 1)) := ((((((HR.1.setCell (by simp) _).setCell (by simp) _).setCell (by simp) _).setCell (by simp) _).setCell (by simp) _).setCell (by simp) _)
      refine bodyPost_ret (v := .agg #[.string ⟨#[]⟩, .int .i64 0, .string ⟨#[]⟩, .int .i64 0, .int .i64 0, .int .i64 1]) (by simp [results, Tryz.results12, go_sem, d0, d1, d2, d3, d4, d5]) rfl ⟨by rw [unhide E], bf⟩
    · have E : Hid (Pl.getV L p = .agg #[.string ⟨#[]⟩, .int .i64 0, .string ⟨#[]⟩, .int .i64 0, .int .i64 0, .int .i64 6]) := hg
      clear hg hi HOK
      go_wp2_with fail
      refine (WIs.code2 x _ (unhide HE1)).mono ?_
      rintro e w2 ⟨rfl, rfl⟩
      have HR := unhide HO
      have z0 := HR.at 0
      have f0 := HR.fr 0
      have z1 := HR.at 1
      have f1 := HR.fr 1
      have z2 := HR.at 2
      have f2 := HR.fr 2
      have z3 := HR.at 3
      have f3 := HR.fr 3
      have z4 := HR.at 4
      have f4 := HR.fr 4
      have z5 := HR.at 5
      have f5 := HR.fr 5
      clear HR
      simp only [kA0, kA1, kA2] at z0 z1 z2 z3 z4 z5
      go_wp2
      have HR := unhide HO
      have r6 : ((((((w2.setCell ⟨w.heap.size + 1, 0, none⟩ (.string ⟨#[]⟩)).setCell ⟨w.heap.size + 1, 1, none⟩ (.int .i64 0)).setCell ⟨w.heap.size + 1, 2, none⟩ (.string ⟨#[]⟩)).setCell ⟨w.heap.size + 1, 3, none⟩ (.int .i64 0)).setCell ⟨w.heap.size + 1, 4, none⟩ (.int .i64 0)).setCell ⟨w.heap.size + 1, 5, none⟩ (.int .i64 6)).heap[w.heap.size + 1]? = some (.cells #[.string ⟨#[]⟩, .int .i64 0, .string ⟨#[]⟩, .int .i64 0, .int .i64 0, .int .i64 6] 36 (0, 0)) := (heap_setCell_same _ _ 5 _ _ _ (heap_setCell_same _ _ 4 _ _ _ (heap_setCell_same _ _ 3 _ _ _ (heap_setCell_same _ _ 2 _ _ _ (heap_setCell_same _ _ 1 _ _ _ (heap_setCell_same _ _ 0 _ _ _ HR.2))))))
      have d0 : ((((((w2.setCell ⟨w.heap.size + 1, 0, none⟩ (.string ⟨#[]⟩)).setCell ⟨w.heap.size + 1, 1, none⟩ (.int .i64 0)).setCell ⟨w.heap.size + 1, 2, none⟩ (.string ⟨#[]⟩)).setCell ⟨w.heap.size + 1, 3, none⟩ (.int .i64 0)).setCell ⟨w.heap.size + 1, 4, none⟩ (.int .i64 0)).setCell ⟨w.heap.size + 1, 5, none⟩ (.int .i64 6)).cell? ⟨w.heap.size + 1, 0, none⟩ = some (.string ⟨#[]⟩) := cell_of_row _ _ 0 _ _ (0, 0) r6
      have d1 : ((((((w2.setCell ⟨w.heap.size + 1, 0, none⟩ (.string ⟨#[]⟩)).setCell ⟨w.heap.size + 1, 1, none⟩ (.int .i64 0)).setCell ⟨w.heap.size + 1, 2, none⟩ (.string ⟨#[]⟩)).setCell ⟨w.heap.size + 1, 3, none⟩ (.int .i64 0)).setCell ⟨w.heap.size + 1, 4, none⟩ (.int .i64 0)).setCell ⟨w.heap.size + 1, 5, none⟩ (.int .i64 6)).cell? ⟨w.heap.size + 1, 1, none⟩ = some (.int .i64 0) := cell_of_row _ _ 1 _ _ (0, 0) r6
      have d2 : ((((((w2.setCell ⟨w.heap.size + 1, 0, none⟩ (.string ⟨#[]⟩)).setCell ⟨w.heap.size + 1, 1, none⟩ (.int .i64 0)).setCell ⟨w.heap.size + 1, 2, none⟩ (.string ⟨#[]⟩)).setCell ⟨w.heap.size + 1, 3, none⟩ (.int .i64 0)).setCell ⟨w.heap.size + 1, 4, none⟩ (.int .i64 0)).setCell ⟨w.heap.size + 1, 5, none⟩ (.int .i64 6)).cell? ⟨w.heap.size + 1, 2, none⟩ = some (.string ⟨#[]⟩) := cell_of_row _ _ 2 _ _ (0, 0) r6
      have d3 : ((((((w2.setCell ⟨w.heap.size + 1, 0, none⟩ (.string ⟨#[]⟩)).setCell ⟨w.heap.size + 1, 1, none⟩ (.int .i64 0)).setCell ⟨w.heap.size + 1, 2, none⟩ (.string ⟨#[]⟩)).setCell ⟨w.heap.size + 1, 3, none⟩ (.int .i64 0)).setCell ⟨w.heap.size + 1, 4, none⟩ (.int .i64 0)).setCell ⟨w.heap.size + 1, 5, none⟩ (.int .i64 6)).cell? ⟨w.heap.size + 1, 3, none⟩ = some (.int .i64 0) := cell_of_row _ _ 3 _ _ (0, 0) r6
      have d4 : ((((((w2.setCell ⟨w.heap.size + 1, 0, none⟩ (.string ⟨#[]⟩)).setCell ⟨w.heap.size + 1, 1, none⟩ (.int .i64 0)).setCell ⟨w.heap.size + 1, 2, none⟩ (.string ⟨#[]⟩)).setCell ⟨w.heap.size + 1, 3, none⟩ (.int .i64 0)).setCell ⟨w.heap.size + 1, 4, none⟩ (.int .i64 0)).setCell ⟨w.heap.size + 1, 5, none⟩ (.int .i64 6)).cell? ⟨w.heap.size + 1, 4, none⟩ = some (.int .i64 0) := cell_of_row _ _ 4 _ _ (0, 0) r6
      have d5 : ((((((w2.setCell ⟨w.heap.size + 1, 0, none⟩ (.string ⟨#[]⟩)).setCell ⟨w.heap.size + 1, 1, none⟩ (.int .i64 0)).setCell ⟨w.heap.size + 1, 2, none⟩ (.string ⟨#[]⟩)).setCell ⟨w.heap.size + 1, 3, none⟩ (.int .i64 0)).setCell ⟨w.heap.size + 1, 4, none⟩ (.int .i64 0)).setCell ⟨w.heap.size + 1, 5, none⟩ (.int .i64 6)).cell? ⟨w.heap.size + 1, 5, none⟩ = some (.int .i64 6) := cell_of_row _ _ 5 _ _ (0, 0) r6
      have bf : Below w.heap.size w ((((((w2.setCell ⟨w.heap.size + 1, 0, none⟩ (.string ⟨#[]⟩)).setCell ⟨w.heap.size + 1, 1, none⟩ (.int .i64 0)).setCell ⟨w.heap.size + 1, 2, none⟩ (.string ⟨#[]⟩)).setCell ⟨w.heap.size + 1, 3, none⟩ (.int .i64 0)).setCell ⟨w.heap.size + 1, 4, none⟩ (.int .i64 0)).setCell ⟨w.heap.size + 1, 5, none⟩ (.int .i64 6)) := ((((((HR.1.setCell (by simp) _).setCell (by simp) _).setCell (by simp) _).setCell (by simp) _).setCell (by simp) _).setCell (by simp) _)
      refine bodyPost_ret (v := .agg #[.string ⟨#[]⟩, .int .i64 0, .string ⟨#[]⟩, .int .i64 0, .int .i64 0, .int .i64 6]) (by simp [results, Tryz.results12, go_sem, d0, d1, d2, d3, d4, d5]) rfl ⟨by rw [unhide E], bf⟩
  · have E := hide hg
    obtain ⟨y1, y2⟩ := MapN.at_yes hC hm1
    have ha2 := hide (y2 (MapN.dat ⟨⟨#[]⟩, 0, ⟨#[]⟩, 0, 0⟩))
    have HM1 := hide hown
    have hkey := MapN.keyOf_mk (p := m.path) (by unfold maxLen; omega)
    have hcp := hide (fun W => WCopied.any m W ((unhide HOK) m hm1).1 ((unhide HOK) m hm1).2)
    simp only [Pl.Nd.val] at hcp
    clear hg y1 y2 hC hm1 hown hB HE1 HOK
    go_wp2_with (at_lookup; refine MapN.look_no _ rfl _ _ 70 rfl 9 34 MapN.law Tryz.underlying70 (MapN.zeroN _) B 40 (MapN.mapOf L) rfl (unhide HM1) _ _ rfl hkey m (unhide ha2) ?_)
    refine (unhide hcp _).mono ?_
    rintro e w2 ⟨rfl, b2⟩
    have HO2 := hide ((unhide HO).call b2)
    clear HO hcp HM1 ha2 b2
    have HO := HO2
    clear HO2
    have HR := unhide HO
    have z0 := HR.at 0
    have f0 := HR.fr 0
    have z1 := HR.at 1
    have f1 := HR.fr 1
    have z2 := HR.at 2
    have f2 := HR.fr 2
    have z3 := HR.at 3
    have f3 := HR.fr 3
    have z4 := HR.at 4
    have f4 := HR.fr 4
    have z5 := HR.at 5
    have f5 := HR.fr 5
    clear HR
    simp only [kA0, kA1, kA2] at z0 z1 z2 z3 z4 z5
    go_wp2
    have HR := unhide HO
    have r6 : ((((((w2.setCell ⟨w.heap.size + 1, 0, none⟩ (.string m.path)).setCell ⟨w.heap.size + 1, 1, none⟩ (.int .i64 m.kind)).setCell ⟨w.heap.size + 1, 2, none⟩ (.string m.data)).setCell ⟨w.heap.size + 1, 3, none⟩ (.int .i64 m.time)).setCell ⟨w.heap.size + 1, 4, none⟩ (.int .i64 m.mark)).setCell ⟨w.heap.size + 1, 5, none⟩ (.int .i64 0)).heap[w.heap.size + 1]? = some (.cells #[.string m.path, .int .i64 m.kind, .string m.data, .int .i64 m.time, .int .i64 m.mark, .int .i64 0] 36 (0, 0)) := (heap_setCell_same _ _ 5 _ _ _ (heap_setCell_same _ _ 4 _ _ _ (heap_setCell_same _ _ 3 _ _ _ (heap_setCell_same _ _ 2 _ _ _ (heap_setCell_same _ _ 1 _ _ _ (heap_setCell_same _ _ 0 _ _ _ HR.2))))))
    have d0 : ((((((w2.setCell ⟨w.heap.size + 1, 0, none⟩ (.string m.path)).setCell ⟨w.heap.size + 1, 1, none⟩ (.int .i64 m.kind)).setCell ⟨w.heap.size + 1, 2, none⟩ (.string m.data)).setCell ⟨w.heap.size + 1, 3, none⟩ (.int .i64 m.time)).setCell ⟨w.heap.size + 1, 4, none⟩ (.int .i64 m.mark)).setCell ⟨w.heap.size + 1, 5, none⟩ (.int .i64 0)).cell? ⟨w.heap.size + 1, 0, none⟩ = some (.string m.path) := cell_of_row _ _ 0 _ _ (0, 0) r6
    have d1 : ((((((w2.setCell ⟨w.heap.size + 1, 0, none⟩ (.string m.path)).setCell ⟨w.heap.size + 1, 1, none⟩ (.int .i64 m.kind)).setCell ⟨w.heap.size + 1, 2, none⟩ (.string m.data)).setCell ⟨w.heap.size + 1, 3, none⟩ (.int .i64 m.time)).setCell ⟨w.heap.size + 1, 4, none⟩ (.int .i64 m.mark)).setCell ⟨w.heap.size + 1, 5, none⟩ (.int .i64 0)).cell? ⟨w.heap.size + 1, 1, none⟩ = some (.int .i64 m.kind) := cell_of_row _ _ 1 _ _ (0, 0) r6
    have d2 : ((((((w2.setCell ⟨w.heap.size + 1, 0, none⟩ (.string m.path)).setCell ⟨w.heap.size + 1, 1, none⟩ (.int .i64 m.kind)).setCell ⟨w.heap.size + 1, 2, none⟩ (.string m.data)).setCell ⟨w.heap.size + 1, 3, none⟩ (.int .i64 m.time)).setCell ⟨w.heap.size + 1, 4, none⟩ (.int .i64 m.mark)).setCell ⟨w.heap.size + 1, 5, none⟩ (.int .i64 0)).cell? ⟨w.heap.size + 1, 2, none⟩ = some (.string m.data) := cell_of_row _ _ 2 _ _ (0, 0) r6
    have d3 : ((((((w2.setCell ⟨w.heap.size + 1, 0, none⟩ (.string m.path)).setCell ⟨w.heap.size + 1, 1, none⟩ (.int .i64 m.kind)).setCell ⟨w.heap.size + 1, 2, none⟩ (.string m.data)).setCell ⟨w.heap.size + 1, 3, none⟩ (.int .i64 m.time)).setCell ⟨w.heap.size + 1, 4, none⟩ (.int .i64 m.mark)).setCell ⟨w.heap.size + 1, 5, none⟩ (.int .i64 0)).cell? ⟨w.heap.size + 1, 3, none⟩ = some (.int .i64 m.time) := cell_of_row _ _ 3 _ _ (0, 0) r6
    have d4 : ((((((w2.setCell ⟨w.heap.size + 1, 0, none⟩ (.string m.path)).setCell ⟨w.heap.size + 1, 1, none⟩ (.int .i64 m.kind)).setCell ⟨w.heap.size + 1, 2, none⟩ (.string m.data)).setCell ⟨w.heap.size + 1, 3, none⟩ (.int .i64 m.time)).setCell ⟨w.heap.size + 1, 4, none⟩ (.int .i64 m.mark)).setCell ⟨w.heap.size + 1, 5, none⟩ (.int .i64 0)).cell? ⟨w.heap.size + 1, 4, none⟩ = some (.int .i64 m.mark) := cell_of_row _ _ 4 _ _ (0, 0) r6
    have d5 : ((((((w2.setCell ⟨w.heap.size + 1, 0, none⟩ (.string m.path)).setCell ⟨w.heap.size + 1, 1, none⟩ (.int .i64 m.kind)).setCell ⟨w.heap.size + 1, 2, none⟩ (.string m.data)).setCell ⟨w.heap.size + 1, 3, none⟩ (.int .i64 m.time)).setCell ⟨w.heap.size + 1, 4, none⟩ (.int .i64 m.mark)).setCell ⟨w.heap.size + 1, 5, none⟩ (.int .i64 0)).cell? ⟨w.heap.size + 1, 5, none⟩ = some (.int .i64 0) := cell_of_row _ _ 5 _ _ (0, 0) r6
    have bf : Below w.heap.size w ((((((w2.setCell ⟨w.heap.size + 1, 0, none⟩ (.string m.path)).setCell ⟨w.heap.size + 1, 1, none⟩ (.int .i64 m.kind)).setCell ⟨w.heap.size + 1, 2, none⟩ (.string m.data)).setCell ⟨w.heap.size + 1, 3, none⟩ (.int .i64 m.time)).setCell ⟨w.heap.size + 1, 4, none⟩ (.int .i64 m.mark)).setCell ⟨w.heap.size + 1, 5, none⟩ (.int .i64 0)) := ((((((HR.1.setCell (by simp) _).setCell (by simp) _).setCell (by simp) _).setCell (by simp) _).setCell (by simp) _).setCell (by simp) _)
    refine bodyPost_ret (v := .agg #[.string m.path, .int .i64 m.kind, .string m.data, .int .i64 m.time, .int .i64 m.mark, .int .i64 0]) (by simp [results, Tryz.results12, go_sem, d0, d1, d2, d3, d4, d5]) rfl ⟨by rw [unhide E], bf⟩
end WGetT
end Go.Proofs.YtmohbgmbknfaiaaGreatDoor

