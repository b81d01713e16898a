/- The program's SeenAt (by genSF.py). -/
import Derived.Test.YtkfpfckmjgjanabDoorWAtO
import Derived.Test.YtkfpfckmjgjanabDoorPlainSeen
import Derived.Test.YtkfpfckmjgjanabDoorWCopied
import Derived.Test.YtkfpfckmjgjanabDoorG09
namespace Go.Proofs.YtkfpfckmjgjanabDoor
open Go.RowKit
namespace WSeen
set_option linter.unusedSimpArgs false in
set_option maxRecDepth 100000 in
set_option maxHeartbeats 4000000 in
theorem impl_any (a : Option Addr) (cap : Nat) (Ts : List Pl.Tr) (p : ByteArray) (w : World) (hl : Ts.length ≤ 1048576) (hv : Mem.isTrees w a Ts) (hok : ∀ t ∈ Ts, t.L.length ≤ 1048576 ∧ ∀ n ∈ t.L, n.path.size ≤ 1048576 ∧ n.data.size ≤ 1048576) (hp : p.size ≤ 1048576)
    (r1 r2 r3 : TypeId) (x1 x2 x3 : Value) (hE : WNodesI.Errs w r1 r2 r3 x1 x2 x3) :
    Calls Tryd.prog 24 #[.agg #[.slice a Ts.length cap], .string p] w fun e w' => e = .returned (Pl.seenV (Ts.map (·.L)) p) ∧ Below w.heap.size w w' := by
  have b0 : Below w.heap.size w ((w.alloc (.cells #[.slice a Ts.length cap] 29)).alloc (.cells #[.string ⟨#[]⟩, .int .i64 0, .string ⟨#[]⟩, .int .i64 0, .int .i64 0, .int .i64 0] 52)) := ((Below.refl _ _).alloc (Nat.le_refl _) _).alloc (by simp) _
  have T0 : Mem.Blk ((w.alloc (.cells #[.slice a Ts.length cap] 29)).alloc (.cells #[.string ⟨#[]⟩, .int .i64 0, .string ⟨#[]⟩, .int .i64 0, .int .i64 0, .int .i64 0] 52)) w.heap.size #[.slice a Ts.length cap] 29 := (Mem.Blk.new _ _ _).alloc _
  have R0 : Mem.Blk ((w.alloc (.cells #[.slice a Ts.length cap] 29)).alloc (.cells #[.string ⟨#[]⟩, .int .i64 0, .string ⟨#[]⟩, .int .i64 0, .int .i64 0, .int .i64 0] 52)) (w.heap.size + 1) #[.string ⟨#[]⟩, .int .i64 0, .string ⟨#[]⟩, .int .i64 0, .int .i64 0, .int .i64 0] 52 := Mem.new_two _ _ _
  have HOV := hide (fun W (b : Below w.heap.size w W) => WOverI.over_any a cap Ts W hl (Mem.trees_call hv b) hok r1 r2 r3 x1 x2 x3 (hE.call b))
  have HPR := hide (fun W => WPathI.right_any p W hp)
  have HLT := hide (fun h => Pl.lay_ok (Ls := Ts.map (·.L)) h)
  generalize Ts.map (·.L) = Ls at HOV HLT ⊢
  clear hv hok hE
  by_cases hz : 8000 < p.size
  · have t0 : (8000 : Int) < (p.size : Int) := by omega
    go_enter Tryd.func24, Tryd.ntmps24
    go_wp2
    refine bodyPost_ret (v := .agg #[.string ⟨#[]⟩, .int .i64 0, .string ⟨#[]⟩, .int .i64 0, .int .i64 0, .int .i64 2]) (by simp [results, Tryd.results24, go_sem]) rfl ⟨by rw [Pl.seen_long hz], ?_⟩
    exact ((Below.refl _ _).alloc (Nat.le_refl _) _).alloc (by simp) _
  have t0 : ¬ (8000 : Int) < (p.size : Int) := by omega
  have c0 := T0.cell 0
  simp only [kA0, kA1] at c0
  go_enter Tryd.func24, Tryd.ntmps24
  go_wp2_with fail
  refine (unhide HOV _ b0).mono ?_
  rintro e w1 ⟨h1, b1⟩
  have bw1 := b0.trans (b1.mono b0.size)
  have R1 := R0.call b1
  clear b0 T0 R0 c0 HOV
  rcases h1 with ⟨hL, v, Bs, rfl, hov⟩ | ⟨hL, rfl⟩
  rotate_left
  · clear b1
    have E : Hid (Pl.seenV Ls p = .agg #[.string ⟨#[]⟩, .int .i64 0, .string ⟨#[]⟩, .int .i64 0, .int .i64 0, .int .i64 1]) := Pl.seen_form hz (.inl hL)
    have V9 : Mem.Blk ((((((w1.setCell ⟨w.heap.size + 1, 0, none⟩ (.string ⟨#[]⟩)).setCell ⟨w.heap.size + 1, 1, none⟩ (.int .i64 0)).setCell ⟨w.heap.size + 1, 2, none⟩ (.string ⟨#[]⟩)).setCell ⟨w.heap.size + 1, 3, none⟩ (.int .i64 0)).setCell ⟨w.heap.size + 1, 4, none⟩ (.int .i64 0)).setCell ⟨w.heap.size + 1, 5, none⟩ (.int .i64 1)) (w.heap.size + 1) #[.string ⟨#[]⟩, .int .i64 0, .string ⟨#[]⟩, .int .i64 0, .int .i64 0, .int .i64 1] 52 := by
      have h := ((((((R1.put 0 (.string ⟨#[]⟩)).put 1 (.int .i64 0)).put 2 (.string ⟨#[]⟩)).put 3 (.int .i64 0)).put 4 (.int .i64 0)).put 5 (.int .i64 1))
      simp only [kB3] at h
      exact h
    have HV := hide V9
    have HB := hide (((((((bw1.setCell (p := ⟨w.heap.size + 1, 0, none⟩) (by show w.heap.size ≤ w.heap.size + 1; omega) (.string ⟨#[]⟩)).setCell (p := ⟨w.heap.size + 1, 1, none⟩) (by show w.heap.size ≤ w.heap.size + 1; omega) (.int .i64 0)).setCell (p := ⟨w.heap.size + 1, 2, none⟩) (by show w.heap.size ≤ w.heap.size + 1; omega) (.string ⟨#[]⟩)).setCell (p := ⟨w.heap.size + 1, 3, none⟩) (by show w.heap.size ≤ w.heap.size + 1; omega) (.int .i64 0)).setCell (p := ⟨w.heap.size + 1, 4, none⟩) (by show w.heap.size ≤ w.heap.size + 1; omega) (.int .i64 0)).setCell (p := ⟨w.heap.size + 1, 5, none⟩) (by show w.heap.size ≤ w.heap.size + 1; omega) (.int .i64 1)))
    have z0 := R1.cell 0
    have f0 := R1.fr 0
    have z1 := R1.cell 1
    have f1 := R1.fr 1
    have z2 := R1.cell 2
    have f2 := R1.fr 2
    have z3 := R1.cell 3
    have f3 := R1.fr 3
    have z4 := R1.cell 4
    have f4 := R1.fr 4
    have z5 := R1.cell 5
    have f5 := R1.fr 5
    simp only [kA0, kA1, kA2] at z0 z1 z2 z3 z4 z5
    clear V9 R1 bw1
    go_wp2
    have r0 := (unhide HV).cell 0
    have r1 := (unhide HV).cell 1
    have r2 := (unhide HV).cell 2
    have r3 := (unhide HV).cell 3
    have r4 := (unhide HV).cell 4
    have r5 := (unhide HV).cell 5
    simp only [kA0, kA1, kA2] at r0 r1 r2 r3 r4 r5
    exact bodyPost_ret (v := .agg #[.string ⟨#[]⟩, .int .i64 0, .string ⟨#[]⟩, .int .i64 0, .int .i64 0, .int .i64 1]) (by simp [results, Tryd.results24, go_sem, r0, r1, r2, r3, r4, r5]) rfl ⟨by rw [unhide E], unhide HB⟩
  have HO1 := hide hov
  obtain ⟨a1, cap1, rfl⟩ := WSight.ov_shape hov
  clear b1 hov
  by_cases hs : p.size = 0
  · have t1 : p.toList.isEmpty = true := by rw [Pl.empty_list]; simpa [Pl.by_nil] using hs
    have E : Hid (Pl.seenV Ls p = .agg #[.string ⟨#[]⟩, .int .i64 0, .string ⟨#[]⟩, .int .i64 0, .int .i64 0, .int .i64 1]) := Pl.seen_form hz (.inr (.inl hs))
    have V9 : Mem.Blk ((((((w1.setCell ⟨w.heap.size + 1, 0, none⟩ (.string ⟨#[]⟩)).setCell ⟨w.heap.size + 1, 1, none⟩ (.int .i64 0)).setCell ⟨w.heap.size + 1, 2, none⟩ (.string ⟨#[]⟩)).setCell ⟨w.heap.size + 1, 3, none⟩ (.int .i64 0)).setCell ⟨w.heap.size + 1, 4, none⟩ (.int .i64 0)).setCell ⟨w.heap.size + 1, 5, none⟩ (.int .i64 1)) (w.heap.size + 1) #[.string ⟨#[]⟩, .int .i64 0, .string ⟨#[]⟩, .int .i64 0, .int .i64 0, .int .i64 1] 52 := by
      have h := ((((((R1.put 0 (.string ⟨#[]⟩)).put 1 (.int .i64 0)).put 2 (.string ⟨#[]⟩)).put 3 (.int .i64 0)).put 4 (.int .i64 0)).put 5 (.int .i64 1))
      simp only [kB3] at h
      exact h
    have HV := hide V9
    have HB := hide (((((((bw1.setCell (p := ⟨w.heap.size + 1, 0, none⟩) (by show w.heap.size ≤ w.heap.size + 1; omega) (.string ⟨#[]⟩)).setCell (p := ⟨w.heap.size + 1, 1, none⟩) (by show w.heap.size ≤ w.heap.size + 1; omega) (.int .i64 0)).setCell (p := ⟨w.heap.size + 1, 2, none⟩) (by show w.heap.size ≤ w.heap.size + 1; omega) (.string ⟨#[]⟩)).setCell (p := ⟨w.heap.size + 1, 3, none⟩) (by show w.heap.size ≤ w.heap.size + 1; omega) (.int .i64 0)).setCell (p := ⟨w.heap.size + 1, 4, none⟩) (by show w.heap.size ≤ w.heap.size + 1; omega) (.int .i64 0)).setCell (p := ⟨w.heap.size + 1, 5, none⟩) (by show w.heap.size ≤ w.heap.size + 1; omega) (.int .i64 1)))
    have z0 := R1.cell 0
    have f0 := R1.fr 0
    have z1 := R1.cell 1
    have f1 := R1.fr 1
    have z2 := R1.cell 2
    have f2 := R1.fr 2
    have z3 := R1.cell 3
    have f3 := R1.fr 3
    have z4 := R1.cell 4
    have f4 := R1.fr 4
    have z5 := R1.cell 5
    have f5 := R1.fr 5
    simp only [kA0, kA1, kA2] at z0 z1 z2 z3 z4 z5
    clear V9 R1 bw1
    go_wp2
    have r0 := (unhide HV).cell 0
    have r1 := (unhide HV).cell 1
    have r2 := (unhide HV).cell 2
    have r3 := (unhide HV).cell 3
    have r4 := (unhide HV).cell 4
    have r5 := (unhide HV).cell 5
    simp only [kA0, kA1, kA2] at r0 r1 r2 r3 r4 r5
    exact bodyPost_ret (v := .agg #[.string ⟨#[]⟩, .int .i64 0, .string ⟨#[]⟩, .int .i64 0, .int .i64 0, .int .i64 1]) (by simp [results, Tryd.results24, go_sem, r0, r1, r2, r3, r4, r5]) rfl ⟨by rw [unhide E], unhide HB⟩
  have t1 : p.toList.isEmpty = false := by rw [Pl.empty_list]; simpa [Pl.by_nil] using hs
  go_wp2_with fail
  refine (unhide HPR _).mono ?_
  rintro e w2 ⟨rfl, b2⟩
  have bw2 := bw1.trans (b2.mono bw1.size)
  have R2 := R1.call b2
  have HO2 := hide ((unhide HO1).call b2)
  clear HPR HO1 bw1 R1 b2
  cases hq : Pl.pathB p
  · skip
    have E : Hid (Pl.seenV Ls p = .agg #[.string ⟨#[]⟩, .int .i64 0, .string ⟨#[]⟩, .int .i64 0, .int .i64 0, .int .i64 1]) := Pl.seen_form hz (.inr (.inr hq))
    have V9 : Mem.Blk ((((((w2.setCell ⟨w.heap.size + 1, 0, none⟩ (.string ⟨#[]⟩)).setCell ⟨w.heap.size + 1, 1, none⟩ (.int .i64 0)).setCell ⟨w.heap.size + 1, 2, none⟩ (.string ⟨#[]⟩)).setCell ⟨w.heap.size + 1, 3, none⟩ (.int .i64 0)).setCell ⟨w.heap.size + 1, 4, none⟩ (.int .i64 0)).setCell ⟨w.heap.size + 1, 5, none⟩ (.int .i64 1)) (w.heap.size + 1) #[.string ⟨#[]⟩, .int .i64 0, .string ⟨#[]⟩, .int .i64 0, .int .i64 0, .int .i64 1] 52 := by
      have h := ((((((R2.put 0 (.string ⟨#[]⟩)).put 1 (.int .i64 0)).put 2 (.string ⟨#[]⟩)).put 3 (.int .i64 0)).put 4 (.int .i64 0)).put 5 (.int .i64 1))
      simp only [kB3] at h
      exact h
    have HV := hide V9
    have HB := hide (((((((bw2.setCell (p := ⟨w.heap.size + 1, 0, none⟩) (by show w.heap.size ≤ w.heap.size + 1; omega) (.string ⟨#[]⟩)).setCell (p := ⟨w.heap.size + 1, 1, none⟩) (by show w.heap.size ≤ w.heap.size + 1; omega) (.int .i64 0)).setCell (p := ⟨w.heap.size + 1, 2, none⟩) (by show w.heap.size ≤ w.heap.size + 1; omega) (.string ⟨#[]⟩)).setCell (p := ⟨w.heap.size + 1, 3, none⟩) (by show w.heap.size ≤ w.heap.size + 1; omega) (.int .i64 0)).setCell (p := ⟨w.heap.size + 1, 4, none⟩) (by show w.heap.size ≤ w.heap.size + 1; omega) (.int .i64 0)).setCell (p := ⟨w.heap.size + 1, 5, none⟩) (by show w.heap.size ≤ w.heap.size + 1; omega) (.int .i64 1)))
    have z0 := R2.cell 0
    have f0 := R2.fr 0
    have z1 := R2.cell 1
    have f1 := R2.fr 1
    have z2 := R2.cell 2
    have f2 := R2.fr 2
    have z3 := R2.cell 3
    have f3 := R2.fr 3
    have z4 := R2.cell 4
    have f4 := R2.fr 4
    have z5 := R2.cell 5
    have f5 := R2.fr 5
    simp only [kA0, kA1, kA2] at z0 z1 z2 z3 z4 z5
    clear V9 R2 bw2
    go_wp2
    have r0 := (unhide HV).cell 0
    have r1 := (unhide HV).cell 1
    have r2 := (unhide HV).cell 2
    have r3 := (unhide HV).cell 3
    have r4 := (unhide HV).cell 4
    have r5 := (unhide HV).cell 5
    simp only [kA0, kA1, kA2] at r0 r1 r2 r3 r4 r5
    exact bodyPost_ret (v := .agg #[.string ⟨#[]⟩, .int .i64 0, .string ⟨#[]⟩, .int .i64 0, .int .i64 0, .int .i64 1]) (by simp [results, Tryd.results24, go_sem, r0, r1, r2, r3, r4, r5]) rfl ⟨by rw [unhide E], unhide HB⟩
  obtain ⟨h14, htr⟩ := unhide HLT hL
  have hat := hide (WSight.atO_any _ _ Bs Ls p w2 (unhide HO2) h14 htr hp)
  have HSM := hide (Pl.seen_small htr p)
  have EV := hide (Pl.seen_end hz hL hs hq)
  generalize Pl.seenS Ls p = S at hat HSM EV
  obtain ⟨tt, ⟨sp, sk, sd, st, sm⟩, sh⟩ := S
  simp only [Pl.Nd.val] at hat
  clear HO2 htr
  cases tt
  · go_wp2_with fail
    refine (unhide hat).mono ?_
    rintro e w3 ⟨rfl, b3⟩
    have bw3 := bw2.trans (b3.mono bw2.size)
    have bw4 := bw3.alloc bw3.size (.cells #[.string sp, .int .i64 sk, .string sd, .int .i64 st, .int .i64 sm] 50)
    have R4 := (R2.call b3).alloc (.cells #[.string sp, .int .i64 sk, .string sd, .int .i64 st, .int .i64 sm] 50)
    clear hat bw2 b3 R2 bw3
    have E : Hid (Pl.seenV Ls p = .agg #[.string ⟨#[]⟩, .int .i64 0, .string ⟨#[]⟩, .int .i64 0, .int .i64 0, .int .i64 6]) := unhide EV
    have V9 : Mem.Blk (((((((w3.alloc (.cells #[.string sp, .int .i64 sk, .string sd, .int .i64 st, .int .i64 sm] 50)).setCell ⟨w.heap.size + 1, 0, none⟩ (.string ⟨#[]⟩)).setCell ⟨w.heap.size + 1, 1, none⟩ (.int .i64 0)).setCell ⟨w.heap.size + 1, 2, none⟩ (.string ⟨#[]⟩)).setCell ⟨w.heap.size + 1, 3, none⟩ (.int .i64 0)).setCell ⟨w.heap.size + 1, 4, none⟩ (.int .i64 0)).setCell ⟨w.heap.size + 1, 5, none⟩ (.int .i64 6)) (w.heap.size + 1) #[.string ⟨#[]⟩, .int .i64 0, .string ⟨#[]⟩, .int .i64 0, .int .i64 0, .int .i64 6] 52 := by
      have h := ((((((R4.put 0 (.string ⟨#[]⟩)).put 1 (.int .i64 0)).put 2 (.string ⟨#[]⟩)).put 3 (.int .i64 0)).put 4 (.int .i64 0)).put 5 (.int .i64 6))
      simp only [kB3] at h
      exact h
    have HV := hide V9
    have HB := hide (((((((bw4.setCell (p := ⟨w.heap.size + 1, 0, none⟩) (by show w.heap.size ≤ w.heap.size + 1; omega) (.string ⟨#[]⟩)).setCell (p := ⟨w.heap.size + 1, 1, none⟩) (by show w.heap.size ≤ w.heap.size + 1; omega) (.int .i64 0)).setCell (p := ⟨w.heap.size + 1, 2, none⟩) (by show w.heap.size ≤ w.heap.size + 1; omega) (.string ⟨#[]⟩)).setCell (p := ⟨w.heap.size + 1, 3, none⟩) (by show w.heap.size ≤ w.heap.size + 1; omega) (.int .i64 0)).setCell (p := ⟨w.heap.size + 1, 4, none⟩) (by show w.heap.size ≤ w.heap.size + 1; omega) (.int .i64 0)).setCell (p := ⟨w.heap.size + 1, 5, none⟩) (by show w.heap.size ≤ w.heap.size + 1; omega) (.int .i64 6)))
    have z0 := R4.cell 0
    have f0 := R4.fr 0
    have z1 := R4.cell 1
    have f1 := R4.fr 1
    have z2 := R4.cell 2
    have f2 := R4.fr 2
    have z3 := R4.cell 3
    have f3 := R4.fr 3
    have z4 := R4.cell 4
    have f4 := R4.fr 4
    have z5 := R4.cell 5
    have f5 := R4.fr 5
    simp only [kA0, kA1, kA2] at z0 z1 z2 z3 z4 z5
    clear V9 R4 bw4
    go_wp2
    have r0 := (unhide HV).cell 0
    have r1 := (unhide HV).cell 1
    have r2 := (unhide HV).cell 2
    have r3 := (unhide HV).cell 3
    have r4 := (unhide HV).cell 4
    have r5 := (unhide HV).cell 5
    simp only [kA0, kA1, kA2] at r0 r1 r2 r3 r4 r5
    exact bodyPost_ret (v := .agg #[.string ⟨#[]⟩, .int .i64 0, .string ⟨#[]⟩, .int .i64 0, .int .i64 0, .int .i64 6]) (by simp [results, Tryd.results24, go_sem, r0, r1, r2, r3, r4, r5]) rfl ⟨by rw [unhide E], unhide HB⟩
  · go_wp2_with fail
    refine (unhide hat).mono ?_
    rintro e w3 ⟨rfl, b3⟩
    have bw3 := bw2.trans (b3.mono bw2.size)
    have bw4 := bw3.alloc bw3.size (.cells #[.string sp, .int .i64 sk, .string sd, .int .i64 st, .int .i64 sm] 50)
    have R4 := (R2.call b3).alloc (.cells #[.string sp, .int .i64 sk, .string sd, .int .i64 st, .int .i64 sm] 50)
    have hcp := hide (fun W => WCopied.any ⟨sp, sk, sd, st, sm⟩ W (unhide HSM).1 (unhide HSM).2)
    simp only [Pl.Nd.val] at hcp
    clear hat bw2 b3 R2 bw3
    go_wp2_with fail
    refine (unhide hcp _).mono ?_
    rintro e w5 ⟨rfl, b5⟩
    have bw5 := bw4.trans (b5.mono bw4.size)
    have R5 := R4.call b5
    clear hcp bw4 b5 R4
    have E : Hid (Pl.seenV Ls p = .agg #[.string sp, .int .i64 sk, .string sd, .int .i64 st, .int .i64 sm, .int .i64 0]) := unhide EV
    have V9 : Mem.Blk ((((((w5.setCell ⟨w.heap.size + 1, 0, none⟩ (.string sp)).setCell ⟨w.heap.size + 1, 1, none⟩ (.int .i64 sk)).setCell ⟨w.heap.size + 1, 2, none⟩ (.string sd)).setCell ⟨w.heap.size + 1, 3, none⟩ (.int .i64 st)).setCell ⟨w.heap.size + 1, 4, none⟩ (.int .i64 sm)).setCell ⟨w.heap.size + 1, 5, none⟩ (.int .i64 0)) (w.heap.size + 1) #[.string sp, .int .i64 sk, .string sd, .int .i64 st, .int .i64 sm, .int .i64 0] 52 := by
      have h := ((((((R5.put 0 (.string sp)).put 1 (.int .i64 sk)).put 2 (.string sd)).put 3 (.int .i64 st)).put 4 (.int .i64 sm)).put 5 (.int .i64 0))
      simp only [kB3] at h
      exact h
    have HV := hide V9
    have HB := hide (((((((bw5.setCell (p := ⟨w.heap.size + 1, 0, none⟩) (by show w.heap.size ≤ w.heap.size + 1; omega) (.string sp)).setCell (p := ⟨w.heap.size + 1, 1, none⟩) (by show w.heap.size ≤ w.heap.size + 1; omega) (.int .i64 sk)).setCell (p := ⟨w.heap.size + 1, 2, none⟩) (by show w.heap.size ≤ w.heap.size + 1; omega) (.string sd)).setCell (p := ⟨w.heap.size + 1, 3, none⟩) (by show w.heap.size ≤ w.heap.size + 1; omega) (.int .i64 st)).setCell (p := ⟨w.heap.size + 1, 4, none⟩) (by show w.heap.size ≤ w.heap.size + 1; omega) (.int .i64 sm)).setCell (p := ⟨w.heap.size + 1, 5, none⟩) (by show w.heap.size ≤ w.heap.size + 1; omega) (.int .i64 0)))
    have z0 := R5.cell 0
    have f0 := R5.fr 0
    have z1 := R5.cell 1
    have f1 := R5.fr 1
    have z2 := R5.cell 2
    have f2 := R5.fr 2
    have z3 := R5.cell 3
    have f3 := R5.fr 3
    have z4 := R5.cell 4
    have f4 := R5.fr 4
    have z5 := R5.cell 5
    have f5 := R5.fr 5
    simp only [kA0, kA1, kA2] at z0 z1 z2 z3 z4 z5
    clear V9 R5 bw5
    go_wp2
    have r0 := (unhide HV).cell 0
    have r1 := (unhide HV).cell 1
    have r2 := (unhide HV).cell 2
    have r3 := (unhide HV).cell 3
    have r4 := (unhide HV).cell 4
    have r5 := (unhide HV).cell 5
    simp only [kA0, kA1, kA2] at r0 r1 r2 r3 r4 r5
    exact bodyPost_ret (v := .agg #[.string sp, .int .i64 sk, .string sd, .int .i64 st, .int .i64 sm, .int .i64 0]) (by simp [results, Tryd.results24, go_sem, r0, r1, r2, r3, r4, r5]) rfl ⟨by rw [unhide E], unhide HB⟩
end WSeen
end Go.Proofs.YtkfpfckmjgjanabDoor
