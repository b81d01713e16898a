/- The specification's SeenAt (by genSS.py). -/
import Derived.Test.YtkfpfckmjgjanabDoorWAt4S
import Derived.Test.YtkfpfckmjgjanabDoorG27
import Derived.Test.YtkfpfckmjgjanabDoorG10
import Derived.Test.YtkfpfckmjgjanabDoorPlainSeen
import Derived.Deep.Cut
import Derived.Test.YtkfpfckmjgjanabDoorPlainAtN
namespace Go.Proofs.YtkfpfckmjgjanabDoor
open Go.RowKit
namespace WPick
set_option linter.unusedSimpArgs false in
set_option maxRecDepth 100000 in
set_option maxHeartbeats 4000000 in
theorem seenS_any (a : Option Addr) (cap : Nat) (Ts : List Pl.Tr) (p : ByteArray) (w : World) (hl : Ts.length ≤ 1048576) (hv : Mem.isTrees w a Ts) (hok : ∀ t ∈ Ts, t.L.length ≤ 1048576 ∧ ∀ n ∈ t.L, n.path.size ≤ 1048576 ∧ n.data.size ≤ 1048576) (hp : p.size ≤ 1048576) :
    Calls Tryd.prog 23 #[.agg #[.slice a Ts.length cap], .string p] w fun e w' => e = .returned (Pl.seenV (Ts.map (·.L)) p) ∧ Below w.heap.size w w' := by
  have hfour : Pl.layB (Ts.map (·.L)) = true → Ts.length ≤ 4 ∧ 1 ≤ Ts.length ∧ ∀ M ∈ Ts.map (·.L), Pl.treeB M = true := fun h => by
    have h2 := Pl.lay_ok h
    rw [List.length_map] at h2
    refine ⟨h2.1, ?_, h2.2⟩
    simp only [Pl.layB, Bool.and_eq_true, decide_eq_true_eq, List.length_map] at h
    exact h.1.1
  have HA4 := hide (fun (W : World) (b : Below w.heap.size w W) (h : Pl.layB (Ts.map (·.L)) = true) (hz : ¬ p.size = 0) (hp2 : Pl.pathB p = true) => at4_any p (Pl.names p) Ts a cap W (Mem.trees_call hv b) (hfour h).2.1 (hfour h).1 (fun t ht => ⟨(hok t ht).1, fun n hn => by
      have h1 := (hfour h).2.2 t.L (List.mem_map_of_mem ht)
      simp only [Pl.treeB, Bool.and_eq_true, decide_eq_true_eq] at h1
      have h2 := Pl.goI_all t.L _ _ h1.2 n hn
      have h3 := (Pl.node_bounds h2)
      omega⟩) (hfour h).2.2 rfl (Pl.names_right hp2) (Pl.names_some hz) (Pl.names_six hp2) (by have := Pl.pathB_le hp2; omega) (fun j => Pl.way_small hp2 j))
  have HSM := hide (fun (h : Pl.layB (Ts.map (·.L)) = true) (hz : ¬ p.size = 0) (hp2 : Pl.pathB p = true) => Pl.at_seen (hfour h).1 (hfour h).2.2 hz hp2)
  have HLR := hide (fun W (b : Below w.heap.size w W) => WLayS.any a cap Ts W hl (Mem.trees_call hv b) hok)
  have HPR := hide (fun W => WPathS.right_one p W hp)
  have E1 : Hid (8000 < p.size → Pl.seenV (Ts.map (·.L)) p = _) := Pl.seen_long
  have E2 : Hid (¬ 8000 < p.size → _ → Pl.seenV (Ts.map (·.L)) p = _) := Pl.seen_form
  have E3 : Hid (¬ 8000 < p.size → _ → _ → _ → Pl.seenV (Ts.map (·.L)) p = _) := Pl.seen_end
  generalize Pl.seenV (Ts.map (·.L)) p = RV at E1 E2 E3 ⊢
  generalize Pl.layB (Ts.map (·.L)) = R1 at HA4 HSM HLR E2 E3
  generalize Pl.pathB p = R2 at HA4 HSM HPR E2 E3
  have SS : Hid ((fun W => Below w.heap.size w W ∧ Mem.Blk W w.heap.size #[.slice a Ts.length cap] 29 ∧ Mem.Blk W (w.heap.size + 1) #[.string ⟨#[]⟩, .int .i64 0, .string ⟨#[]⟩, .int .i64 0, .int .i64 0, .int .i64 0] 52) ((w.alloc (.cells #[.slice a Ts.length cap] 29)).alloc (.cells #[.string ⟨#[]⟩, .int .i64 0, .string ⟨#[]⟩, .int .i64 0, .int .i64 0, .int .i64 0] 52))) := ⟨((Below.refl _ _).alloc (Nat.le_refl _) _).alloc (by simp) _, (Mem.Blk.new _ _ _).alloc _, Mem.new_two _ _ _⟩
  clear hv hok hfour
  by_cases hz : 8000 < p.size
  · have t0 : (8000 : Int) < (p.size : Int) := by omega
    have E := hide (unhide E1 hz)
    clear hz E1 E2 E3
    go_enter Tryd.func23, Tryd.ntmps23
    go_wp2
    refine bodyPost_ret (v := .agg #[.string ⟨#[]⟩, .int .i64 0, .string ⟨#[]⟩, .int .i64 0, .int .i64 0, .int .i64 2]) (by simp [results, Tryd.results23, go_sem]) rfl ⟨by rw [unhide E], ?_⟩
    exact ((Below.refl _ _).alloc (Nat.le_refl _) _).alloc (by simp) _
  have t0 : ¬ (8000 : Int) < (p.size : Int) := by omega
  go_enter Tryd.func23, Tryd.ntmps23
  go_wp2_with fail
  refine (unhide HLR _ (unhide SS).1).mono ?_
  rintro e w1 ⟨rfl, bN⟩
  have SS2 : Hid ((fun W => Below w.heap.size w W ∧ Mem.Blk W w.heap.size #[.slice a Ts.length cap] 29 ∧ Mem.Blk W (w.heap.size + 1) #[.string ⟨#[]⟩, .int .i64 0, .string ⟨#[]⟩, .int .i64 0, .int .i64 0, .int .i64 0] 52) w1) := ⟨(unhide SS).1.trans (bN.mono (unhide SS).1.size), (unhide SS).2.1.call bN, (unhide SS).2.2.call bN⟩
  clear SS bN
  have SS := SS2
  clear SS2
  clear HLR
  cases R1
  · have E := hide (unhide E2 hz (.inl rfl))
    clear E1 E2 E3 hz HA4 HSM
    have z0 := (unhide SS).2.2.cell 0
    have f0 := (unhide SS).2.2.fr 0
    have z1 := (unhide SS).2.2.cell 1
    have f1 := (unhide SS).2.2.fr 1
    have z2 := (unhide SS).2.2.cell 2
    have f2 := (unhide SS).2.2.fr 2
    have z3 := (unhide SS).2.2.cell 3
    have f3 := (unhide SS).2.2.fr 3
    have z4 := (unhide SS).2.2.cell 4
    have f4 := (unhide SS).2.2.fr 4
    have z5 := (unhide SS).2.2.cell 5
    have f5 := (unhide SS).2.2.fr 5
    simp only [kA0, kA1, kA2] at z0 z1 z2 z3 z4 z5
    have RT : Hid (Below w.heap.size w ((((((w1.setCell ⟨w.heap.size + 1, 0, none⟩ (.string ⟨#[]⟩)).setCell ⟨w.heap.size + 1, 1, none⟩ (.int .i64 0)).setCell ⟨w.heap.size + 1, 2, none⟩ (.string ⟨#[]⟩)).setCell ⟨w.heap.size + 1, 3, none⟩ (.int .i64 0)).setCell ⟨w.heap.size + 1, 4, none⟩ (.int .i64 0)).setCell ⟨w.heap.size + 1, 5, none⟩ (.int .i64 1)) ∧ Mem.Blk ((((((w1.setCell ⟨w.heap.size + 1, 0, none⟩ (.string ⟨#[]⟩)).setCell ⟨w.heap.size + 1, 1, none⟩ (.int .i64 0)).setCell ⟨w.heap.size + 1, 2, none⟩ (.string ⟨#[]⟩)).setCell ⟨w.heap.size + 1, 3, none⟩ (.int .i64 0)).setCell ⟨w.heap.size + 1, 4, none⟩ (.int .i64 0)).setCell ⟨w.heap.size + 1, 5, none⟩ (.int .i64 1)) (w.heap.size + 1) #[.string ⟨#[]⟩, .int .i64 0, .string ⟨#[]⟩, .int .i64 0, .int .i64 0, .int .i64 1] 52) := ⟨(((((((unhide SS).1.setCell (p := ⟨w.heap.size + 1, 0, none⟩) (Nat.le_succ _) _).setCell (p := ⟨w.heap.size + 1, 1, none⟩) (Nat.le_succ _) _).setCell (p := ⟨w.heap.size + 1, 2, none⟩) (Nat.le_succ _) _).setCell (p := ⟨w.heap.size + 1, 3, none⟩) (Nat.le_succ _) _).setCell (p := ⟨w.heap.size + 1, 4, none⟩) (Nat.le_succ _) _).setCell (p := ⟨w.heap.size + 1, 5, none⟩) (Nat.le_succ _) _), by
      have h := (((((((unhide SS).2.2.put 0 (.string ⟨#[]⟩)).put 1 (.int .i64 0)).put 2 (.string ⟨#[]⟩)).put 3 (.int .i64 0)).put 4 (.int .i64 0)).put 5 (.int .i64 1))
      simp only [kB3] at h
      exact h⟩
    have EV := E
    go_wp2
    generalize ((((((w1.setCell ⟨w.heap.size + 1, 0, none⟩ (.string ⟨#[]⟩)).setCell ⟨w.heap.size + 1, 1, none⟩ (.int .i64 0)).setCell ⟨w.heap.size + 1, 2, none⟩ (.string ⟨#[]⟩)).setCell ⟨w.heap.size + 1, 3, none⟩ (.int .i64 0)).setCell ⟨w.heap.size + 1, 4, none⟩ (.int .i64 0)).setCell ⟨w.heap.size + 1, 5, none⟩ (.int .i64 1)) = WR at RT ⊢
    have q0 := (unhide RT).2.cell 0
    have q1 := (unhide RT).2.cell 1
    have q2 := (unhide RT).2.cell 2
    have q3 := (unhide RT).2.cell 3
    have q4 := (unhide RT).2.cell 4
    have q5 := (unhide RT).2.cell 5
    simp only [kA0, kA1, kA2] at q0 q1 q2 q3 q4 q5
    exact bodyPost_ret (v := .agg #[.string ⟨#[]⟩, .int .i64 0, .string ⟨#[]⟩, .int .i64 0, .int .i64 0, .int .i64 1]) (by simp [results, Tryd.results23, go_sem, q0, q1, q2, q3, q4, q5]) rfl ⟨by rw [unhide EV], (unhide RT).1⟩
  by_cases hs : p.size = 0
  · have t1 : p.toList.isEmpty = true := by rw [Pl.empty_list]; simpa [Pl.by_nil] using hs
    have E := hide (unhide E2 hz (.inr (.inl hs)))
    clear E1 E2 E3 hz hs HA4 HSM
    have z0 := (unhide SS).2.2.cell 0
    have f0 := (unhide SS).2.2.fr 0
    have z1 := (unhide SS).2.2.cell 1
    have f1 := (unhide SS).2.2.fr 1
    have z2 := (unhide SS).2.2.cell 2
    have f2 := (unhide SS).2.2.fr 2
    have z3 := (unhide SS).2.2.cell 3
    have f3 := (unhide SS).2.2.fr 3
    have z4 := (unhide SS).2.2.cell 4
    have f4 := (unhide SS).2.2.fr 4
    have z5 := (unhide SS).2.2.cell 5
    have f5 := (unhide SS).2.2.fr 5
    simp only [kA0, kA1, kA2] at z0 z1 z2 z3 z4 z5
    have RT : Hid (Below w.heap.size w ((((((w1.setCell ⟨w.heap.size + 1, 0, none⟩ (.string ⟨#[]⟩)).setCell ⟨w.heap.size + 1, 1, none⟩ (.int .i64 0)).setCell ⟨w.heap.size + 1, 2, none⟩ (.string ⟨#[]⟩)).setCell ⟨w.heap.size + 1, 3, none⟩ (.int .i64 0)).setCell ⟨w.heap.size + 1, 4, none⟩ (.int .i64 0)).setCell ⟨w.heap.size + 1, 5, none⟩ (.int .i64 1)) ∧ Mem.Blk ((((((w1.setCell ⟨w.heap.size + 1, 0, none⟩ (.string ⟨#[]⟩)).setCell ⟨w.heap.size + 1, 1, none⟩ (.int .i64 0)).setCell ⟨w.heap.size + 1, 2, none⟩ (.string ⟨#[]⟩)).setCell ⟨w.heap.size + 1, 3, none⟩ (.int .i64 0)).setCell ⟨w.heap.size + 1, 4, none⟩ (.int .i64 0)).setCell ⟨w.heap.size + 1, 5, none⟩ (.int .i64 1)) (w.heap.size + 1) #[.string ⟨#[]⟩, .int .i64 0, .string ⟨#[]⟩, .int .i64 0, .int .i64 0, .int .i64 1] 52) := ⟨(((((((unhide SS).1.setCell (p := ⟨w.heap.size + 1, 0, none⟩) (Nat.le_succ _) _).setCell (p := ⟨w.heap.size + 1, 1, none⟩) (Nat.le_succ _) _).setCell (p := ⟨w.heap.size + 1, 2, none⟩) (Nat.le_succ _) _).setCell (p := ⟨w.heap.size + 1, 3, none⟩) (Nat.le_succ _) _).setCell (p := ⟨w.heap.size + 1, 4, none⟩) (Nat.le_succ _) _).setCell (p := ⟨w.heap.size + 1, 5, none⟩) (Nat.le_succ _) _), by
      have h := (((((((unhide SS).2.2.put 0 (.string ⟨#[]⟩)).put 1 (.int .i64 0)).put 2 (.string ⟨#[]⟩)).put 3 (.int .i64 0)).put 4 (.int .i64 0)).put 5 (.int .i64 1))
      simp only [kB3] at h
      exact h⟩
    have EV := E
    go_wp2
    generalize ((((((w1.setCell ⟨w.heap.size + 1, 0, none⟩ (.string ⟨#[]⟩)).setCell ⟨w.heap.size + 1, 1, none⟩ (.int .i64 0)).setCell ⟨w.heap.size + 1, 2, none⟩ (.string ⟨#[]⟩)).setCell ⟨w.heap.size + 1, 3, none⟩ (.int .i64 0)).setCell ⟨w.heap.size + 1, 4, none⟩ (.int .i64 0)).setCell ⟨w.heap.size + 1, 5, none⟩ (.int .i64 1)) = WR at RT ⊢
    have q0 := (unhide RT).2.cell 0
    have q1 := (unhide RT).2.cell 1
    have q2 := (unhide RT).2.cell 2
    have q3 := (unhide RT).2.cell 3
    have q4 := (unhide RT).2.cell 4
    have q5 := (unhide RT).2.cell 5
    simp only [kA0, kA1, kA2] at q0 q1 q2 q3 q4 q5
    exact bodyPost_ret (v := .agg #[.string ⟨#[]⟩, .int .i64 0, .string ⟨#[]⟩, .int .i64 0, .int .i64 0, .int .i64 1]) (by simp [results, Tryd.results23, go_sem, q0, q1, q2, q3, q4, q5]) rfl ⟨by rw [unhide EV], (unhide RT).1⟩
  have t1 : p.toList.isEmpty = false := by rw [Pl.empty_list]; simpa [Pl.by_nil] using hs
  go_wp2_with fail
  refine (unhide HPR _).mono ?_
  rintro e w2 ⟨rfl, bN⟩
  have SS2 : Hid ((fun W => Below w.heap.size w W ∧ Mem.Blk W w.heap.size #[.slice a Ts.length cap] 29 ∧ Mem.Blk W (w.heap.size + 1) #[.string ⟨#[]⟩, .int .i64 0, .string ⟨#[]⟩, .int .i64 0, .int .i64 0, .int .i64 0] 52) w2) := ⟨(unhide SS).1.trans (bN.mono (unhide SS).1.size), (unhide SS).2.1.call bN, (unhide SS).2.2.call bN⟩
  clear SS bN
  have SS := SS2
  clear SS2
  clear HPR
  cases R2
  · have E := hide (unhide E2 hz (.inr (.inr rfl)))
    clear E1 E2 E3 hz hs HA4 HSM
    have z0 := (unhide SS).2.2.cell 0
    have f0 := (unhide SS).2.2.fr 0
    have z1 := (unhide SS).2.2.cell 1
    have f1 := (unhide SS).2.2.fr 1
    have z2 := (unhide SS).2.2.cell 2
    have f2 := (unhide SS).2.2.fr 2
    have z3 := (unhide SS).2.2.cell 3
    have f3 := (unhide SS).2.2.fr 3
    have z4 := (unhide SS).2.2.cell 4
    have f4 := (unhide SS).2.2.fr 4
    have z5 := (unhide SS).2.2.cell 5
    have f5 := (unhide SS).2.2.fr 5
    simp only [kA0, kA1, kA2] at z0 z1 z2 z3 z4 z5
    have RT : Hid (Below w.heap.size w ((((((w2.setCell ⟨w.heap.size + 1, 0, none⟩ (.string ⟨#[]⟩)).setCell ⟨w.heap.size + 1, 1, none⟩ (.int .i64 0)).setCell ⟨w.heap.size + 1, 2, none⟩ (.string ⟨#[]⟩)).setCell ⟨w.heap.size + 1, 3, none⟩ (.int .i64 0)).setCell ⟨w.heap.size + 1, 4, none⟩ (.int .i64 0)).setCell ⟨w.heap.size + 1, 5, none⟩ (.int .i64 1)) ∧ Mem.Blk ((((((w2.setCell ⟨w.heap.size + 1, 0, none⟩ (.string ⟨#[]⟩)).setCell ⟨w.heap.size + 1, 1, none⟩ (.int .i64 0)).setCell ⟨w.heap.size + 1, 2, none⟩ (.string ⟨#[]⟩)).setCell ⟨w.heap.size + 1, 3, none⟩ (.int .i64 0)).setCell ⟨w.heap.size + 1, 4, none⟩ (.int .i64 0)).setCell ⟨w.heap.size + 1, 5, none⟩ (.int .i64 1)) (w.heap.size + 1) #[.string ⟨#[]⟩, .int .i64 0, .string ⟨#[]⟩, .int .i64 0, .int .i64 0, .int .i64 1] 52) := ⟨(((((((unhide SS).1.setCell (p := ⟨w.heap.size + 1, 0, none⟩) (Nat.le_succ _) _).setCell (p := ⟨w.heap.size + 1, 1, none⟩) (Nat.le_succ _) _).setCell (p := ⟨w.heap.size + 1, 2, none⟩) (Nat.le_succ _) _).setCell (p := ⟨w.heap.size + 1, 3, none⟩) (Nat.le_succ _) _).setCell (p := ⟨w.heap.size + 1, 4, none⟩) (Nat.le_succ _) _).setCell (p := ⟨w.heap.size + 1, 5, none⟩) (Nat.le_succ _) _), by
      have h := (((((((unhide SS).2.2.put 0 (.string ⟨#[]⟩)).put 1 (.int .i64 0)).put 2 (.string ⟨#[]⟩)).put 3 (.int .i64 0)).put 4 (.int .i64 0)).put 5 (.int .i64 1))
      simp only [kB3] at h
      exact h⟩
    have EV := E
    go_wp2
    generalize ((((((w2.setCell ⟨w.heap.size + 1, 0, none⟩ (.string ⟨#[]⟩)).setCell ⟨w.heap.size + 1, 1, none⟩ (.int .i64 0)).setCell ⟨w.heap.size + 1, 2, none⟩ (.string ⟨#[]⟩)).setCell ⟨w.heap.size + 1, 3, none⟩ (.int .i64 0)).setCell ⟨w.heap.size + 1, 4, none⟩ (.int .i64 0)).setCell ⟨w.heap.size + 1, 5, none⟩ (.int .i64 1)) = WR at RT ⊢
    have q0 := (unhide RT).2.cell 0
    have q1 := (unhide RT).2.cell 1
    have q2 := (unhide RT).2.cell 2
    have q3 := (unhide RT).2.cell 3
    have q4 := (unhide RT).2.cell 4
    have q5 := (unhide RT).2.cell 5
    simp only [kA0, kA1, kA2] at q0 q1 q2 q3 q4 q5
    exact bodyPost_ret (v := .agg #[.string ⟨#[]⟩, .int .i64 0, .string ⟨#[]⟩, .int .i64 0, .int .i64 0, .int .i64 1]) (by simp [results, Tryd.results23, go_sem, q0, q1, q2, q3, q4, q5]) rfl ⟨by rw [unhide EV], (unhide RT).1⟩
  have HAT := hide (unhide HA4 w2 (unhide SS).1 (by trivial) hs (by trivial))
  have HS3 := hide (unhide HSM (by trivial) hs (by trivial))
  have E := hide (unhide E3 hz (by trivial) hs (by trivial))
  clear E1 E2 E3 HA4 HSM hz hs
  generalize Pl.seenS (Ts.map (·.L)) p = sg at HS3 E
  generalize Pl.atW (Ts.map (·.L)) (List.range Ts.length) (Pl.ways (Pl.names p) (Pl.names p).length) = A at HS3 HAT
  have c0 := (unhide SS).2.1.cell 0
  simp only [kA0, kA1] at c0
  go_wp2_with fail
  refine (unhide HAT).mono ?_
  rintro e w3 ⟨v, rfl, hown, bN⟩
  obtain ⟨ok, ⟨np, nk, nd, nt, nm⟩, kz⟩ := A
  obtain ⟨va, vc, rfl⟩ := ownI_shape hown
  have SS2 : Hid ((fun W => Below w.heap.size w W ∧ Mem.Blk W w.heap.size #[.slice a Ts.length cap] 29 ∧ Mem.Blk W (w.heap.size + 1) #[.string ⟨#[]⟩, .int .i64 0, .string ⟨#[]⟩, .int .i64 0, .int .i64 0, .int .i64 0] 52) w3) := ⟨(unhide SS).1.trans (bN.mono (unhide SS).1.size), (unhide SS).2.1.call bN, (unhide SS).2.2.call bN⟩
  clear SS bN
  have SS := SS2
  clear SS2
  clear HAT hown c0
  simp only [cellsO]
  go_upto_region 6 with fail
  have NB := hide (Mem.Blk.new w3 #[.bool ok, .string np, .int .i64 nk, .string nd, .int .i64 nt, .int .i64 nm, .slice va kz.length vc] 86)
  have bN : Below w3.heap.size w3 (w3.alloc (.cells #[.bool ok, .string np, .int .i64 nk, .string nd, .int .i64 nt, .int .i64 nm, .slice va kz.length vc] 86)) := (Below.refl _ _).alloc (Nat.le_refl _) _
  have SS2 : Hid ((fun W => Below w.heap.size w W ∧ Mem.Blk W w.heap.size #[.slice a Ts.length cap] 29 ∧ Mem.Blk W (w.heap.size + 1) #[.string ⟨#[]⟩, .int .i64 0, .string ⟨#[]⟩, .int .i64 0, .int .i64 0, .int .i64 0] 52) (w3.alloc (.cells #[.bool ok, .string np, .int .i64 nk, .string nd, .int .i64 nt, .int .i64 nm, .slice va kz.length vc] 86))) := ⟨(unhide SS).1.trans (bN.mono (unhide SS).1.size), (unhide SS).2.1.call bN, (unhide SS).2.2.call bN⟩
  clear SS bN
  have SS := SS2
  clear SS2
  generalize w3.alloc (.cells #[.bool ok, .string np, .int .i64 nk, .string nd, .int .i64 nt, .int .i64 nm, .slice va kz.length vc] 86) = W4 at NB SS ⊢
  generalize w3.heap.size = X at NB ⊢
  have x0 := (unhide NB).cell 0
  have x1 := (unhide NB).cell 1
  have x2 := (unhide NB).cell 2
  have x3 := (unhide NB).cell 3
  have x4 := (unhide NB).cell 4
  have x5 := (unhide NB).cell 5
  simp only [kA0, kA1, kA2] at x0 x1 x2 x3 x4 x5
  clear NB
  obtain ⟨hs1, hs2⟩ := unhide HS3
  simp only at hs1 hs2
  cases ok with
  | false =>
    have EE := hide (unhide E)
    rw [← hs1, if_neg (by decide)] at EE
    clear hs1 hs2 HS3 E
    go_upto_region 7 with fail
    clear x0 x1 x2 x3 x4 x5
    have z0 := (unhide SS).2.2.cell 0
    have f0 := (unhide SS).2.2.fr 0
    have z1 := (unhide SS).2.2.cell 1
    have f1 := (unhide SS).2.2.fr 1
    have z2 := (unhide SS).2.2.cell 2
    have f2 := (unhide SS).2.2.fr 2
    have z3 := (unhide SS).2.2.cell 3
    have f3 := (unhide SS).2.2.fr 3
    have z4 := (unhide SS).2.2.cell 4
    have f4 := (unhide SS).2.2.fr 4
    have z5 := (unhide SS).2.2.cell 5
    have f5 := (unhide SS).2.2.fr 5
    simp only [kA0, kA1, kA2] at z0 z1 z2 z3 z4 z5
    have RT : Hid (Below w.heap.size w ((((((W4.setCell ⟨w.heap.size + 1, 0, none⟩ (.string ⟨#[]⟩)).setCell ⟨w.heap.size + 1, 1, none⟩ (.int .i64 0)).setCell ⟨w.heap.size + 1, 2, none⟩ (.string ⟨#[]⟩)).setCell ⟨w.heap.size + 1, 3, none⟩ (.int .i64 0)).setCell ⟨w.heap.size + 1, 4, none⟩ (.int .i64 0)).setCell ⟨w.heap.size + 1, 5, none⟩ (.int .i64 6)) ∧ Mem.Blk ((((((W4.setCell ⟨w.heap.size + 1, 0, none⟩ (.string ⟨#[]⟩)).setCell ⟨w.heap.size + 1, 1, none⟩ (.int .i64 0)).setCell ⟨w.heap.size + 1, 2, none⟩ (.string ⟨#[]⟩)).setCell ⟨w.heap.size + 1, 3, none⟩ (.int .i64 0)).setCell ⟨w.heap.size + 1, 4, none⟩ (.int .i64 0)).setCell ⟨w.heap.size + 1, 5, none⟩ (.int .i64 6)) (w.heap.size + 1) #[.string ⟨#[]⟩, .int .i64 0, .string ⟨#[]⟩, .int .i64 0, .int .i64 0, .int .i64 6] 52) := ⟨(((((((unhide SS).1.setCell (p := ⟨w.heap.size + 1, 0, none⟩) (Nat.le_succ _) _).setCell (p := ⟨w.heap.size + 1, 1, none⟩) (Nat.le_succ _) _).setCell (p := ⟨w.heap.size + 1, 2, none⟩) (Nat.le_succ _) _).setCell (p := ⟨w.heap.size + 1, 3, none⟩) (Nat.le_succ _) _).setCell (p := ⟨w.heap.size + 1, 4, none⟩) (Nat.le_succ _) _).setCell (p := ⟨w.heap.size + 1, 5, none⟩) (Nat.le_succ _) _), by
      have h := (((((((unhide SS).2.2.put 0 (.string ⟨#[]⟩)).put 1 (.int .i64 0)).put 2 (.string ⟨#[]⟩)).put 3 (.int .i64 0)).put 4 (.int .i64 0)).put 5 (.int .i64 6))
      simp only [kB3] at h
      exact h⟩
    have EV := EE
    go_wp2
    generalize ((((((W4.setCell ⟨w.heap.size + 1, 0, none⟩ (.string ⟨#[]⟩)).setCell ⟨w.heap.size + 1, 1, none⟩ (.int .i64 0)).setCell ⟨w.heap.size + 1, 2, none⟩ (.string ⟨#[]⟩)).setCell ⟨w.heap.size + 1, 3, none⟩ (.int .i64 0)).setCell ⟨w.heap.size + 1, 4, none⟩ (.int .i64 0)).setCell ⟨w.heap.size + 1, 5, none⟩ (.int .i64 6)) = WR at RT ⊢
    have q0 := (unhide RT).2.cell 0
    have q1 := (unhide RT).2.cell 1
    have q2 := (unhide RT).2.cell 2
    have q3 := (unhide RT).2.cell 3
    have q4 := (unhide RT).2.cell 4
    have q5 := (unhide RT).2.cell 5
    simp only [kA0, kA1, kA2] at q0 q1 q2 q3 q4 q5
    exact bodyPost_ret (v := .agg #[.string ⟨#[]⟩, .int .i64 0, .string ⟨#[]⟩, .int .i64 0, .int .i64 0, .int .i64 6]) (by simp [results, Tryd.results23, go_sem, q0, q1, q2, q3, q4, q5]) rfl ⟨by rw [unhide EV], (unhide RT).1⟩
  | true =>
    have EE := hide (unhide E)
    rw [← hs1, if_pos rfl, ← hs2 rfl] at EE
    clear hs1 hs2 HS3 E
    go_upto_region 8 with fail
    have z0 := (unhide SS).2.2.cell 0
    have f0 := (unhide SS).2.2.fr 0
    have z1 := (unhide SS).2.2.cell 1
    have f1 := (unhide SS).2.2.fr 1
    have z2 := (unhide SS).2.2.cell 2
    have f2 := (unhide SS).2.2.fr 2
    have z3 := (unhide SS).2.2.cell 3
    have f3 := (unhide SS).2.2.fr 3
    have z4 := (unhide SS).2.2.cell 4
    have f4 := (unhide SS).2.2.fr 4
    have z5 := (unhide SS).2.2.cell 5
    have f5 := (unhide SS).2.2.fr 5
    simp only [kA0, kA1, kA2] at z0 z1 z2 z3 z4 z5
    have RT : Hid (Below w.heap.size w ((((((W4.setCell ⟨w.heap.size + 1, 0, none⟩ (.string np)).setCell ⟨w.heap.size + 1, 1, none⟩ (.int .i64 nk)).setCell ⟨w.heap.size + 1, 2, none⟩ (.string nd)).setCell ⟨w.heap.size + 1, 3, none⟩ (.int .i64 nt)).setCell ⟨w.heap.size + 1, 4, none⟩ (.int .i64 nm)).setCell ⟨w.heap.size + 1, 5, none⟩ (.int .i64 0)) ∧ Mem.Blk ((((((W4.setCell ⟨w.heap.size + 1, 0, none⟩ (.string np)).setCell ⟨w.heap.size + 1, 1, none⟩ (.int .i64 nk)).setCell ⟨w.heap.size + 1, 2, none⟩ (.string nd)).setCell ⟨w.heap.size + 1, 3, none⟩ (.int .i64 nt)).setCell ⟨w.heap.size + 1, 4, none⟩ (.int .i64 nm)).setCell ⟨w.heap.size + 1, 5, none⟩ (.int .i64 0)) (w.heap.size + 1) #[.string np, .int .i64 nk, .string nd, .int .i64 nt, .int .i64 nm, .int .i64 0] 52) := ⟨(((((((unhide SS).1.setCell (p := ⟨w.heap.size + 1, 0, none⟩) (Nat.le_succ _) _).setCell (p := ⟨w.heap.size + 1, 1, none⟩) (Nat.le_succ _) _).setCell (p := ⟨w.heap.size + 1, 2, none⟩) (Nat.le_succ _) _).setCell (p := ⟨w.heap.size + 1, 3, none⟩) (Nat.le_succ _) _).setCell (p := ⟨w.heap.size + 1, 4, none⟩) (Nat.le_succ _) _).setCell (p := ⟨w.heap.size + 1, 5, none⟩) (Nat.le_succ _) _), by
      have h := (((((((unhide SS).2.2.put 0 (.string np)).put 1 (.int .i64 nk)).put 2 (.string nd)).put 3 (.int .i64 nt)).put 4 (.int .i64 nm)).put 5 (.int .i64 0))
      simp only [kB3] at h
      exact h⟩
    have EV := EE
    go_wp2
    generalize ((((((W4.setCell ⟨w.heap.size + 1, 0, none⟩ (.string np)).setCell ⟨w.heap.size + 1, 1, none⟩ (.int .i64 nk)).setCell ⟨w.heap.size + 1, 2, none⟩ (.string nd)).setCell ⟨w.heap.size + 1, 3, none⟩ (.int .i64 nt)).setCell ⟨w.heap.size + 1, 4, none⟩ (.int .i64 nm)).setCell ⟨w.heap.size + 1, 5, none⟩ (.int .i64 0)) = WR at RT ⊢
    have q0 := (unhide RT).2.cell 0
    have q1 := (unhide RT).2.cell 1
    have q2 := (unhide RT).2.cell 2
    have q3 := (unhide RT).2.cell 3
    have q4 := (unhide RT).2.cell 4
    have q5 := (unhide RT).2.cell 5
    simp only [kA0, kA1, kA2] at q0 q1 q2 q3 q4 q5
    exact bodyPost_ret (v := .agg #[.string np, .int .i64 nk, .string nd, .int .i64 nt, .int .i64 nm, .int .i64 0]) (by simp [results, Tryd.results23, go_sem, q0, q1, q2, q3, q4, q5]) rfl ⟨by rw [unhide EV], (unhide RT).1⟩

end WPick
end Go.Proofs.YtkfpfckmjgjanabDoor
