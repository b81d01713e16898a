/- What is told of layers at a path: (overlay).at. -/
import Derived.Test.YtkfpfckmjgjanabDoorWSeenI
namespace Go.Proofs.YtkfpfckmjgjanabDoor
open Go.RowKit
namespace WSight
set_option linter.unusedSimpArgs false in
set_option maxRecDepth 100000 in
set_option maxHeartbeats 2000000 in
theorem atO_any (B : Nat) (v : Value) (Bs : List Nat) (Ls : List (List Pl.Nd)) (p : ByteArray) (w : World) (hov : WOverI.Ov w B v Bs Ls) (h4 : Ls.length ≤ 4) (htr : ∀ L ∈ Ls, Pl.treeB L = true) (hp : p.size ≤ 1048576) :
    Calls Tryd.prog 54 #[v, .string p] w fun e w' => e = .returned (.tuple #[(Pl.seenS Ls p).node.val, .bool (Pl.seenS Ls p).told]) ∧ Below w.heap.size w w' := by
  have b0 : Below w.heap.size w (w.alloc (.cells #[.string ⟨#[]⟩, .int .i64 0, .string ⟨#[]⟩, .int .i64 0, .int .i64 0] 50)) := (Below.refl _ _).alloc (Nat.le_refl _) _
  have hs := hide (seen_any B v Bs Ls p _ (hov.call b0) h4 htr hp)
  have HL : Hid ((Pl.seenS Ls p).have'.length = 4) := Pl.walk_len Ls Ls.length _
  generalize Pl.seenS Ls p = S at hs HL ⊢
  obtain ⟨tt, ⟨sp, sk, sd, st, sm⟩, sh⟩ := S
  obtain ⟨e0, e1, e2, e3, rfl⟩ : ∃ h0 h1 h2 h3, sh = [h0, h1, h2, h3] := by
    match sh, unhide HL with
    | [a, b, c, d], _ => exact ⟨a, b, c, d, rfl⟩
  rw [show (Pl.Sg.cs ⟨tt, ⟨sp, sk, sd, st, sm⟩, [e0, e1, e2, e3]⟩).toArray = #[.bool tt, .string sp, .int .i64 sk, .string sd, .int .i64 st, .int .i64 sm, .bool e0, .bool e1, .bool e2, .bool e3] from rfl] at hs
  have V0 := Mem.Blk.new w #[.string ⟨#[]⟩, .int .i64 0, .string ⟨#[]⟩, .int .i64 0, .int .i64 0] 50
  obtain ⟨a, cap, rfl⟩ := ov_shape hov
  clear hov HL
  go_enter Tryd.func54, Tryd.ntmps54
  go_wp2_with fail
  refine (unhide hs).mono ?_
  rintro e w1 ⟨rfl, b1⟩
  have b2 := b0.trans (b1.mono b0.size)
  have b3 := b2.alloc b2.size (.cells #[.bool tt, .string sp, .int .i64 sk, .string sd, .int .i64 st, .int .i64 sm, .bool e0, .bool e1, .bool e2, .bool e3] 95)
  have V3 := (V0.call b1).alloc (.cells #[.bool tt, .string sp, .int .i64 sk, .string sd, .int .i64 st, .int .i64 sm, .bool e0, .bool e1, .bool e2, .bool e3] 95)
  have S3 := Mem.Blk.new w1 #[.bool tt, .string sp, .int .i64 sk, .string sd, .int .i64 st, .int .i64 sm, .bool e0, .bool e1, .bool e2, .bool e3] 95
  have hlt : w.heap.size < w1.heap.size := (V0.call b1).lt
  have hne : ¬ w.heap.size = w1.heap.size := by omega
  have hne2 : ¬ w1.heap.size = w.heap.size := by omega
  have V1 := V0.call b1
  have k0 := V1.cell 0
  have h0 := V1.fr 0
  have k1 := V1.cell 1
  have h1 := V1.fr 1
  have k2 := V1.cell 2
  have h2 := V1.fr 2
  have k3 := V1.cell 3
  have h3 := V1.fr 3
  have k4 := V1.cell 4
  have h4 := V1.fr 4
  simp only [kA0, kA1, kA2] at k0 k1 k2 k3 k4
  have c0 := V3.cell 0
  have c1 := V3.cell 1
  have c2 := V3.cell 2
  have c3 := V3.cell 3
  have c4 := V3.cell 4
  have f0 := V3.fr 0
  have f1 := V3.fr 1
  have f2 := V3.fr 2
  have f3 := V3.fr 3
  have f4 := V3.fr 4
  have d0 := S3.cell 0
  have d1 := S3.cell 1
  have d2 := S3.cell 2
  have d3 := S3.cell 3
  have d4 := S3.cell 4
  have d5 := S3.cell 5
  simp only [kA0, kA1, kA2] at c0 c1 c2 c3 c4 d0 d1 d2 d3 d4 d5
  have V4 : Mem.Blk ((((((w1.setCell ⟨w.heap.size, 0, none⟩ (.string sp)).setCell ⟨w.heap.size, 1, none⟩ (.int .i64 sk)).setCell ⟨w.heap.size, 2, none⟩ (.string sd)).setCell ⟨w.heap.size, 3, none⟩ (.int .i64 st)).setCell ⟨w.heap.size, 4, none⟩ (.int .i64 sm)).alloc (.cells #[.bool tt, .string sp, .int .i64 sk, .string sd, .int .i64 st, .int .i64 sm, .bool e0, .bool e1, .bool e2, .bool e3] 95)).drew w.heap.size #[.string sp, .int .i64 sk, .string sd, .int .i64 st, .int .i64 sm] 50 := by
    have h := ((((((V1.put 0 (.string sp)).put 1 (.int .i64 sk)).put 2 (.string sd)).put 3 (.int .i64 st)).put 4 (.int .i64 sm))).alloc (.cells #[.bool tt, .string sp, .int .i64 sk, .string sd, .int .i64 st, .int .i64 sm, .bool e0, .bool e1, .bool e2, .bool e3] 95)
    simp only [kB3] at h
    exact h
  have B4 : Below w.heap.size w ((((((w1.setCell ⟨w.heap.size, 0, none⟩ (.string sp)).setCell ⟨w.heap.size, 1, none⟩ (.int .i64 sk)).setCell ⟨w.heap.size, 2, none⟩ (.string sd)).setCell ⟨w.heap.size, 3, none⟩ (.int .i64 st)).setCell ⟨w.heap.size, 4, none⟩ (.int .i64 sm)).alloc (.cells #[.bool tt, .string sp, .int .i64 sk, .string sd, .int .i64 st, .int .i64 sm, .bool e0, .bool e1, .bool e2, .bool e3] 95)).drew := by
    have h : Below w.heap.size w ((((((w1.setCell ⟨w.heap.size, 0, none⟩ (.string sp)).setCell ⟨w.heap.size, 1, none⟩ (.int .i64 sk)).setCell ⟨w.heap.size, 2, none⟩ (.string sd)).setCell ⟨w.heap.size, 3, none⟩ (.int .i64 st)).setCell ⟨w.heap.size, 4, none⟩ (.int .i64 sm)).alloc (.cells #[.bool tt, .string sp, .int .i64 sk, .string sd, .int .i64 st, .int .i64 sm, .bool e0, .bool e1, .bool e2, .bool e3] 95)) := (((((b2.setCell (p := ⟨w.heap.size, 0, none⟩) (Nat.le_refl _) (.string sp)).setCell (p := ⟨w.heap.size, 1, none⟩) (Nat.le_refl _) (.int .i64 sk)).setCell (p := ⟨w.heap.size, 2, none⟩) (Nat.le_refl _) (.string sd)).setCell (p := ⟨w.heap.size, 3, none⟩) (Nat.le_refl _) (.int .i64 st)).setCell (p := ⟨w.heap.size, 4, none⟩) (Nat.le_refl _) (.int .i64 sm)).alloc ((((((b2.setCell (p := ⟨w.heap.size, 0, none⟩) (Nat.le_refl _) (.string sp)).setCell (p := ⟨w.heap.size, 1, none⟩) (Nat.le_refl _) (.int .i64 sk)).setCell (p := ⟨w.heap.size, 2, none⟩) (Nat.le_refl _) (.string sd)).setCell (p := ⟨w.heap.size, 3, none⟩) (Nat.le_refl _) (.int .i64 st)).setCell (p := ⟨w.heap.size, 4, none⟩) (Nat.le_refl _) (.int .i64 sm))).size _
    exact ⟨h.os, h.tape, h.output, h.size, h.block⟩
  have HV := hide V4
  have HB := hide B4
  clear hs b0 b1 b2 b3 V0 V1 V3 V4 S3 B4
  go_wp2_with fail
  go_region
  go_wp2
  have r0 := (unhide HV).cell 0
  have r1 := (unhide HV).cell 1
  have r2 := (unhide HV).cell 2
  have r3 := (unhide HV).cell 3
  have r4 := (unhide HV).cell 4
  simp only [kA0, kA1, kA2] at r0 r1 r2 r3 r4
  exact bodyPost_ret (v := .tuple #[.agg #[.string sp, .int .i64 sk, .string sd, .int .i64 st, .int .i64 sm], .bool tt]) (by simp [results, Tryd.results54, go_sem, r0, r1, r2, r3, r4]) rfl ⟨rfl, unhide HB⟩
end WSight
end Go.Proofs.YtkfpfckmjgjanabDoor
