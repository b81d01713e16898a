/- Several texts of one claim in one file: WOverS, WLwTree. -/
import Derived.Test.YtepmojmelcngeaaGreatDoorWWalk4
import Derived.Test.YtepmojmelcngeaaGreatDoorG11
import Derived.Test.YtepmojmelcngeaaGreatDoorG34
import Derived.Test.YtepmojmelcngeaaGreatDoorWTreeR
import Derived.Test.YtepmojmelcngeaaGreatDoorG03
import Derived.Deep.QuietTactic
import Derived.BigQuiet
/- The specification's l04Over and Over. -/
namespace Go.Proofs.YtepmojmelcngeaaGreatDoor
open Go.RowKit
namespace WWalk4
open WPick WName4
set_option linter.unusedSimpArgs false in
set_option maxRecDepth 100000 in
set_option maxHeartbeats 1000000 in
theorem over4_any (Ts : List Pl.Tr) (ad : Option Addr) (capt : Nat) (w : World) (hT : Mem.isTrees w ad Ts) (hn1 : 1 ≤ Ts.length) (hn4 : Ts.length ≤ 4) (htr : ∀ M ∈ Ts.map (·.L), Pl.treeB M = true) :
    Calls Tryz.prog 74 #[.slice ad Ts.length capt] w fun e w' => ∃ v, e = .returned (.agg #[v, .int .i64 (if 40 < (Pl.allO (Ts.map (·.L))).length then 9 else 0)]) ∧ Mem.ownN w' w.heap.size v (if 40 < (Pl.allO (Ts.map (·.L))).length then [] else Pl.allO (Ts.map (·.L))) ∧ Below w.heap.size w w' := by
  have b0 : Below w.heap.size w (w.alloc (.cells #[.slice none 0 0, .int .i64 0] 33)) := (Below.refl _ _).alloc (Nat.le_refl _) _
  have V0 := Mem.Blk.new w #[.slice none 0 0, .int .i64 0] 33
  have hs0 := sz_alloc w (.cells #[.slice none 0 0, .int .i64 0] 33)
  have hL : ∀ t ∈ Ts, t.L.length ≤ 40 ∧ ∀ n ∈ t.L, (n.path.size ≤ 1048576 ∧ n.data.size ≤ 1048576) ∧ 0 ≤ n.mark ∧ n.mark ≤ 8 := fun t ht => by
    have h1 := htr t.L (List.mem_map_of_mem ht)
    simp only [Pl.treeB, Bool.and_eq_true, decide_eq_true_eq] at h1
    refine ⟨h1.1, fun n hn => ?_⟩
    have h2 := Pl.goI_all t.L _ _ h1.2 n hn
    have h3 := Pl.node_bounds h2
    have h4 := Pl.pathB_le (Pl.node_right h2).1
    exact ⟨⟨by omega, by omega⟩, by omega⟩
  have hn4' : (Ts.map (·.L)).length ≤ 4 := by rw [List.length_map]; exact hn4
  have hroot := Pl.at4_root hn4'
  have hlen := Pl.all_len hn4' htr
  have HW := hide (fun (gp cp : Nat) (W : World) (hb : Below (w.alloc (.cells #[.slice none 0 0, .int .i64 0] 33)).heap.size (w.alloc (.cells #[.slice none 0 0, .int .i64 0] 33)) W) (hg : gp < W.heap.size) hc =>
    walk_any (w.alloc (.cells #[.slice none 0 0, .int .i64 0] 33)) Ts ad capt (Mem.trees_call hT b0) hn4 hL htr 7 ⟨#[]⟩ (List.range Ts.length) gp cp (.slice none 0 0) [] W hb (Mem.ownN_nil _ _) hg (fun e => by cases e) hc (by rw [List.length_map] at hroot; exact hroot) (fun e => by have h := congrArg List.length e; rw [List.length_range, List.length_nil] at h; omega) (by rw [(Pl.right_root (s := ⟨#[]⟩) rfl).2]; rfl) (by
      have h := hlen
      unfold Pl.allO at h
      rw [List.length_map] at h
      simp only [List.length_nil]
      omega))
  have EO : Hid ([] ++ Pl.walkO (Ts.map (·.L)) 7 (List.range Ts.length) ⟨#[]⟩ = Pl.allO (Ts.map (·.L))) := by
    show _ = _
    unfold Pl.allO
    rw [List.nil_append, List.length_map]
  rw [unhide EO] at HW
  have HAL := hide (fun W => all_any Ts.length W hn4)
  generalize Pl.allO (Ts.map (·.L)) = O at HW hlen ⊢
  have HS0 := hide hs0
  have BB := hide b0
  have VV := hide V0
  clear hT hL htr hroot EO b0 V0 hs0
  go_enter Tryz.func74, Tryz.ntmps74
  go_wp2_with fail
  refine (unhide HAL _).mono ?_
  rintro e w1 ⟨vk, rfl, hownK, b1⟩
  obtain ⟨gp, cp, rfl, -, hgp, hck⟩ := ownI_cells hownK (by intro e; have h := congrArg List.length e; rw [List.length_range, List.length_nil] at h; omega)
  have hcall := hide (unhide HW gp cp w1 b1 hgp hck)
  have B1 := hide ((unhide BB).trans (b1.mono (by rw [unhide HS0]; omega)))
  have V1 := hide ((unhide VV).call b1)
  rw [List.length_range] at hcall
  simp only [List.length_range]
  clear HW HAL hownK b1 hck BB VV
  go_wp2_with fail
  refine (unhide hcall).mono ?_
  rintro e w2 ⟨v', rfl, hown, hgr, hfar⟩
  rw [unhide HS0] at hown
  obtain ⟨va, vc, rfl⟩ := Mem.own_shape hown
  have B2 := hide ((unhide B1).grown hgr (unhide B1).size (fun q hq => by cases hq))
  have V2 := hide ((unhide V1).grown hgr (fun e => by cases e))
  have HO := hide hown
  clear hcall hgr hfar hown B1 V1 hlen
  by_cases h40 : 40 < O.length
  · have y1 : (40 : Int) < (O.length : Int) := by omega
    have HP40 := hide h40
    have hil := hide (fun W => WIll3.ill_any 9 W)
    clear h40
    go_wp2_with fail
    refine (unhide hil _).mono ?_
    rintro e w3 ⟨rfl, b3⟩
    have B3 := (unhide B2).trans (b3.mono (unhide B2).size)
    have V3 := (unhide V2).call b3
    have d0 := V3.cell 0
    have d1 := V3.cell 1
    have f0 := V3.fr 0
    have f1 := V3.fr 1
    simp only [kA0, kA1, kA2] at d0 d1
    clear V3 V2 hil b3 B2 HO
    go_wp2
    refine bodyPost_ret (v := .agg #[.slice none 0 0, .int .i64 9]) (by simp [results, Tryz.results74, go_sem, d0, d1]) rfl ⟨.slice none 0 0, rfl, Mem.ownN_nil _ _, ?_⟩
    exact (B3.setCell (Nat.le_refl _) _).setCell (Nat.le_refl _) _
  · have y1 : ¬ (40 : Int) < (O.length : Int) := by omega
    have HN40 := hide h40
    have V6 : Hid (Mem.Blk ((w2.setCell ⟨w.heap.size, 0, none⟩ (.slice va O.length vc)).setCell ⟨w.heap.size, 1, none⟩ (.int .i64 0)) w.heap.size #[.slice va O.length vc, .int .i64 0] 33) := by
      have h := ((unhide V2).put 0 (.slice va O.length vc)).put 1 (.int .i64 0)
      simp only [kB3] at h
      exact h
    have RT : Hid (Below w.heap.size w ((w2.setCell ⟨w.heap.size, 0, none⟩ (.slice va O.length vc)).setCell ⟨w.heap.size, 1, none⟩ (.int .i64 0)) ∧ Mem.ownN ((w2.setCell ⟨w.heap.size, 0, none⟩ (.slice va O.length vc)).setCell ⟨w.heap.size, 1, none⟩ (.int .i64 0)) w.heap.size (.slice va O.length vc) O) :=
      ⟨((unhide B2).setCell (Nat.le_refl _) _).setCell (Nat.le_refl _) _, Mem.ownN_mono (Mem.ownN_set (Mem.ownN_set (unhide HO) _ _ (by show w.heap.size < _; omega)) _ _ (by show w.heap.size < _; omega)) (by omega)⟩
    have d0 := (unhide V2).cell 0
    have d1 := (unhide V2).cell 1
    have f0 := (unhide V2).fr 0
    have f1 := (unhide V2).fr 1
    simp only [kA0, kA1, kA2] at d0 d1
    clear V2 B2 HO h40
    go_wp2
    generalize (w2.setCell ⟨w.heap.size, 0, none⟩ (.slice va O.length vc)).setCell ⟨w.heap.size, 1, none⟩ (.int .i64 0) = WR at RT V6 ⊢
    have q0 := (unhide V6).cell 0
    have q1 := (unhide V6).cell 1
    simp only [kA0, kA1, kA2] at q0 q1
    exact bodyPost_ret (v := .agg #[.slice va O.length vc, .int .i64 0]) (by simp [results, Tryz.results74, go_sem, q0, q1]) rfl ⟨.slice va O.length vc, rfl, (unhide RT).2, (unhide RT).1⟩
set_option linter.unusedSimpArgs false in
set_option maxRecDepth 100000 in
set_option maxHeartbeats 1000000 in
theorem spec_any (a : Option Addr) (cap : Nat) (Ts : List Pl.Tr) (w : World) (hl : Ts.length ≤ 1048576) (hv : Mem.isTrees w a Ts) (hok : ∀ t ∈ Ts, t.L.length ≤ 1048576 ∧ ∀ n ∈ t.L, n.path.size ≤ 1048576 ∧ n.data.size ≤ 1048576) :
    Calls Tryz.prog 31 #[.agg #[.slice a Ts.length cap]] w fun e w' => ∃ v, e = .returned (.agg #[v, .int .i64 (Pl.overC (Ts.map (·.L)) (Pl.allO (Ts.map (·.L))))]) ∧ Mem.ownN w' w.heap.size v (Pl.overN (Ts.map (·.L)) (Pl.allO (Ts.map (·.L)))) ∧ Below w.heap.size w w' := by
  have b0 : Below w.heap.size w ((w.alloc (.cells #[.slice a Ts.length cap] 60)).alloc (.cells #[.slice none 0 0, .int .i64 0] 33)) := ((Below.refl _ _).alloc (Nat.le_refl _) _).alloc (by simp) _
  have T0 : Mem.Blk ((w.alloc (.cells #[.slice a Ts.length cap] 60)).alloc (.cells #[.slice none 0 0, .int .i64 0] 33)) w.heap.size #[.slice a Ts.length cap] 60 := (Mem.Blk.new _ _ _).alloc _
  have V0 : Mem.Blk ((w.alloc (.cells #[.slice a Ts.length cap] 60)).alloc (.cells #[.slice none 0 0, .int .i64 0] 33)) (w.heap.size + 1) #[.slice none 0 0, .int .i64 0] 33 := Mem.new_two _ _ _
  have HLR := hide (fun W (b : Below w.heap.size w W) => WLayS.any a cap Ts W hl (Mem.trees_call hv b) hok)
  have HOV := hide (fun W (b : Below w.heap.size w W) (h : Pl.layB (Ts.map (·.L)) = true) => over4_any Ts a cap W (Mem.trees_call hv b) (by simp only [Pl.layB, Bool.and_eq_true, decide_eq_true_eq, List.length_map] at h; exact h.1.1) (by have h2 := (Pl.lay_ok h).1; rw [List.length_map] at h2; exact h2) (Pl.lay_ok h).2)
  have E1 : Hid (Pl.layB (Ts.map (·.L)) = false → Pl.overC (Ts.map (·.L)) (Pl.allO (Ts.map (·.L))) = 1 ∧ Pl.overN (Ts.map (·.L)) (Pl.allO (Ts.map (·.L))) = []) := fun h => ⟨by rw [Pl.overC, if_neg (by rw [h]; simp)], by rw [Pl.overN, if_neg (by rw [h]; simp)]⟩
  have E2 : Hid (Pl.layB (Ts.map (·.L)) = true → (if 40 < (Pl.allO (Ts.map (·.L))).length then (9 : Int) else 0) = Pl.overC (Ts.map (·.L)) (Pl.allO (Ts.map (·.L))) ∧ (if 40 < (Pl.allO (Ts.map (·.L))).length then [] else Pl.allO (Ts.map (·.L))) = Pl.overN (Ts.map (·.L)) (Pl.allO (Ts.map (·.L)))) := fun h => by
    refine ⟨by rw [Pl.overC, if_pos h], ?_⟩
    rw [Pl.overN]
    by_cases h40 : 40 < (Pl.allO (Ts.map (·.L))).length
    · rw [if_pos h40, if_neg (by omega)]
    · rw [if_neg h40, if_pos ⟨h, by omega⟩]
  generalize Pl.overC (Ts.map (·.L)) (Pl.allO (Ts.map (·.L))) = RC at E1 E2 ⊢
  generalize Pl.overN (Ts.map (·.L)) (Pl.allO (Ts.map (·.L))) = RN at E1 E2 ⊢
  generalize (if 40 < (Pl.allO (Ts.map (·.L))).length then (9 : Int) else 0) = C2 at HOV E2
  generalize (if 40 < (Pl.allO (Ts.map (·.L))).length then [] else Pl.allO (Ts.map (·.L))) = N2 at HOV E2
  generalize Pl.layB (Ts.map (·.L)) = R1 at HLR HOV E1 E2
  have BB := hide b0
  have TT := hide T0
  have VV := hide V0
  have c0 := T0.cell 0
  simp only [kA0, kA1] at c0
  clear hv hok b0 T0 V0
  go_enter Tryz.func31, Tryz.ntmps31
  go_wp2_with fail
  refine (unhide HLR _ (unhide BB)).mono ?_
  rintro e w1 ⟨rfl, b1⟩
  have B1 := hide ((unhide BB).trans (b1.mono (unhide BB).size))
  have T1 := hide ((unhide TT).call b1)
  have V1 := hide ((unhide VV).call b1)
  clear HLR b1 BB TT VV c0
  cases R1
  · obtain ⟨e1, e2⟩ := unhide E1 (by trivial)
    have X1 := hide e1
    have X2 := hide e2
    have hil := hide (fun W => WIll3.ill_any 1 W)
    clear E1 E2 e1 e2 HOV
    go_wp2_with fail
    refine (unhide hil _).mono ?_
    rintro e w3 ⟨rfl, b3⟩
    have B3 := (unhide B1).trans (b3.mono (unhide B1).size)
    have V3 := (unhide V1).call b3
    have d0 := V3.cell 0
    have d1 := V3.cell 1
    have f0 := V3.fr 0
    have f1 := V3.fr 1
    simp only [kA0, kA1, kA2] at d0 d1
    clear V3 V1 hil b3 B1 T1
    go_wp2
    refine bodyPost_ret (v := .agg #[.slice none 0 0, .int .i64 1]) (by simp [results, Tryz.results31, go_sem, d0, d1]) rfl ⟨.slice none 0 0, by rw [unhide X1], by rw [unhide X2]; exact Mem.ownN_nil _ _, ?_⟩
    exact (B3.setCell (by show w.heap.size ≤ w.heap.size + 1; omega) _).setCell (by show w.heap.size ≤ w.heap.size + 1; omega) _
  · obtain ⟨e1, e2⟩ := unhide E2 (by trivial)
    subst e1 e2
    have hcall := hide (unhide HOV w1 (unhide B1) (by trivial))
    have c0 := (unhide T1).cell 0
    simp only [kA0, kA1] at c0
    clear E1 E2 HOV
    go_wp2_with fail
    refine (unhide hcall).mono ?_
    rintro e w2 ⟨v, rfl, hown, b2⟩
    obtain ⟨va, vc, rfl⟩ := Mem.own_shape hown
    have hlt := (unhide V1).lt
    have B2 := hide ((unhide B1).trans (b2.mono (unhide B1).size))
    have V2 := hide ((unhide V1).call b2)
    have V6 : Hid (Mem.Blk ((w2.setCell ⟨w.heap.size + 1, 0, none⟩ (.slice va N2.length vc)).setCell ⟨w.heap.size + 1, 1, none⟩ (.int .i64 C2)) (w.heap.size + 1) #[.slice va N2.length vc, .int .i64 C2] 33) := by
      have h := ((unhide V2).put 0 (.slice va N2.length vc)).put 1 (.int .i64 C2)
      simp only [kB3] at h
      exact h
    have RT : Hid (Below w.heap.size w ((w2.setCell ⟨w.heap.size + 1, 0, none⟩ (.slice va N2.length vc)).setCell ⟨w.heap.size + 1, 1, none⟩ (.int .i64 C2)) ∧ Mem.ownN ((w2.setCell ⟨w.heap.size + 1, 0, none⟩ (.slice va N2.length vc)).setCell ⟨w.heap.size + 1, 1, none⟩ (.int .i64 C2)) w.heap.size (.slice va N2.length vc) N2) :=
      ⟨((unhide B2).setCell (by show w.heap.size ≤ w.heap.size + 1; omega) _).setCell (by show w.heap.size ≤ w.heap.size + 1; omega) _, Mem.ownN_mono (Mem.ownN_set (Mem.ownN_set hown _ _ (by show w.heap.size + 1 < _; omega)) _ _ (by show w.heap.size + 1 < _; omega)) (by omega)⟩
    have d0 := (unhide V2).cell 0
    have d1 := (unhide V2).cell 1
    have f0 := (unhide V2).fr 0
    have f1 := (unhide V2).fr 1
    simp only [kA0, kA1, kA2] at d0 d1
    clear V2 B2 hown hcall b2 B1 T1 V1 c0
    go_wp2
    generalize (w2.setCell ⟨w.heap.size + 1, 0, none⟩ (.slice va N2.length vc)).setCell ⟨w.heap.size + 1, 1, none⟩ (.int .i64 C2) = WR at RT V6 ⊢
    have q0 := (unhide V6).cell 0
    have q1 := (unhide V6).cell 1
    simp only [kA0, kA1, kA2] at q0 q1
    exact bodyPost_ret (v := .agg #[.slice va N2.length vc, .int .i64 C2]) (by simp [results, Tryz.results31, go_sem, q0, q1]) rfl ⟨.slice va N2.length vc, rfl, (unhide RT).2, (unhide RT).1⟩
end WWalk4
end Go.Proofs.YtepmojmelcngeaaGreatDoor

/- The walks of the laws' own lwTree (over the same nodes) and lwTrees. -/
namespace Go.Proofs.YtepmojmelcngeaaGreatDoor
open Go.RowKit
namespace WLw
set_option linter.unusedSimpArgs false in
set_option maxRecDepth 100000 in
set_option maxHeartbeats 2000000 in
theorem tree_any (a b : Option Addr) (c1 c2 : Nat) (L : List Pl.Nd) (w : World) (hA : L.length ≤ 1048576) (hv : Mem.isNodes w a L) (hu : Mem.isNodes w b L) :
    Calls Tryz.prog 73 #[.agg #[.slice a L.length c1], .agg #[.slice b L.length c2]] w fun e w' => e = .returned (.bool true) ∧ Below w.heap.size w w' := by
  have b0 : Below w.heap.size w ((w.alloc (.cells #[.slice a L.length c1] 31)).alloc (.cells #[.slice b L.length c2] 31)) := ((Below.refl _ _).alloc (Nat.le_refl _) _).alloc (by simp) _
  have HV := hide hv
  have HU := hide hu
  clear hv hu
  go_enter Tryz.func73, Tryz.ntmps73
  go_wp2
  go_loopw [5] (fun i wr => ∃ k : Nat, k ≤ L.length ∧ i = .int .i64 (k : Int) ∧ Below w.heap.size w wr ∧ Hid (Mem.Var wr w.heap.size [.slice a L.length c1]) ∧ Hid (Mem.Var wr (w.heap.size + 1) [.slice b L.length c2])) (fun i _ => L.length - (intOf i).toNat)
  case atStart =>
    refine ⟨0, Nat.zero_le _, rfl, b0, ?_, ?_⟩
    · exact hide (Mem.var_alloc (Mem.var_new w [.slice a L.length c1] 31) _)
    · have h := Mem.var_new (w.alloc (.cells #[.slice a L.length c1] 31)) [.slice b L.length c2] 31
      rw [show (w.alloc (.cells #[.slice a L.length c1] 31)).heap.size = w.heap.size + 1 by simp] at h
      exact hide h
  case round =>
    obtain ⟨k, hk, rfl, hbel, V1, V2⟩ := hrel
    have cv1 := (unhide V1).2 0 _ rfl
    have cv2 := (unhide V2).2 0 _ rfl
    by_cases hlt : k < L.length
    · obtain ⟨n, hn⟩ : ∃ n, L[k]? = some n := ⟨_, List.getElem?_eq_getElem hlt⟩
      have y1 : (k : Int) < (L.length : Int) := by omega
      have y3 : (0 : Int) ≤ (k : Int) := by omega
      obtain ⟨g, o, rfl, hg, q0, q1, q2, q3, q4⟩ := (Mem.nodes_call (unhide HV) hbel) k n hn
      obtain ⟨g2, o2, rfl, hg2, p0, p1, p2, p3, p4⟩ := (Mem.nodes_call (unhide HU) hbel) k n hn
      obtain ⟨np, nk, nd, nt, nm⟩ := n
      simp only at q0 q1 q2 q3 q4 p0 p1 p2 p3 p4
      clear hn HV HU b0
      go_wp2
      go_quiet (fail)
      go_wp2
      go_roundw
      case rel => exact ⟨k + 1, by omega, by go_num, Mem.below_drewN hbel _, unhide V1, unhide V2⟩
      case measure => simp [intOf]; omega
    · have y1 : ¬ (k : Int) < (L.length : Int) := by omega
      go_wp2
      go_ret
      exact ⟨rfl, hbel⟩
set_option linter.unusedSimpArgs false in
set_option maxRecDepth 100000 in
set_option maxHeartbeats 2000000 in
theorem trees_any (a b : Option Addr) (c1 c2 : Nat) (C : Int) (L : List Pl.Nd) (w : World) (hA : L.length ≤ 1048576) (hv : Mem.isNodes w a L) (hu : Mem.isNodes w b L) (hok : ∀ n ∈ L, n.path.size ≤ 1048576 ∧ n.data.size ≤ 1048576) (hr : C = 0 → Pl.treeB L = true) :
    Calls Tryz.prog 30 #[.agg #[.slice a L.length c1, .int .i64 C], .agg #[.slice b L.length c2, .int .i64 C]] w fun e w' => e = .returned (.bool true) ∧ Below w.heap.size w w' := by
  have b0 : Below w.heap.size w ((w.alloc (.cells #[.slice a L.length c1, .int .i64 C] 33)).alloc (.cells #[.slice b L.length c2, .int .i64 C] 33)) := ((Below.refl _ _).alloc (Nat.le_refl _) _).alloc (by simp) _
  have B1 := hide ((Mem.Blk.new w #[.slice a L.length c1, .int .i64 C] 33).alloc (.cells #[.slice b L.length c2, .int .i64 C] 33))
  have B2 : Hid (Mem.Blk ((w.alloc (.cells #[.slice a L.length c1, .int .i64 C] 33)).alloc (.cells #[.slice b L.length c2, .int .i64 C] 33)) (w.heap.size + 1) #[.slice b L.length c2, .int .i64 C] 33) := Mem.new_two _ _ _
  have HT := hide (tree_any a b c1 c2 L _ hA (Mem.nodes_call hv b0) (Mem.nodes_call hu b0))
  have HR := hide (fun W (b : Below w.heap.size w W) => WTreeS.right_tree a c1 L W hA (Mem.nodes_call hv b) hok)
  clear hv hu hok
  have x0 := (unhide B1).cell 0
  have x1 := (unhide B1).cell 1
  have y0 := (unhide B2).cell 0
  have y1 := (unhide B2).cell 1
  simp only [kA0, kA1, kA2] at x0 x1 y0 y1
  go_enter Tryz.func30, Tryz.ntmps30
  go_wp2_with fail
  refine (unhide HT).mono ?_
  rintro e w1 ⟨rfl, b1⟩
  have B3 := hide ((unhide B1).call b1)
  have bw1 := b0.trans (b1.mono b0.size)
  clear HT x0 x1 y0 y1 B1 B2 b1 b0
  have x0 := (unhide B3).cell 0
  have x1 := (unhide B3).cell 1
  simp only [kA0, kA1, kA2] at x0 x1
  by_cases h0 : C = 0
  · subst h0
    have hr' := hide (hr rfl)
    clear hr
    rw [unhide hr'] at HR
    go_wp2_with fail
    refine (unhide HR _ bw1).mono ?_
    rintro e w2 ⟨rfl, b2⟩
    go_wp2
    go_ret
    exact ⟨rfl, bw1.trans (b2.mono bw1.size)⟩
  · clear HR hr
    go_wp2
    go_ret
    exact ⟨rfl, bw1⟩
end WLw
end Go.Proofs.YtepmojmelcngeaaGreatDoor

