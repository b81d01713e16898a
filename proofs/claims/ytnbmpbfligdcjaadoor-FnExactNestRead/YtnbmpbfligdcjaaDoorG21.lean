/- Several texts of one claim in one file: WReadN, Merge. -/
import Derived.Test.YtnbmpbfligdcjaaDoorG20
import Derived.Test.YtnbmpbfligdcjaaDoorG02
import Derived.Deep.RegionHeld3
/- The walk of readNode. -/
namespace Go.Proofs.YtnbmpbfligdcjaaDoor
open Go.RowKit
namespace Pl
theorem getNum_at {s : ByteArray} {a : Int} (h : (getNum s a).2.2 = 0) : (getNum s a).2.1 ≤ (s.size : Int) := by
  unfold getNum at h ⊢
  split at h
  · simp at h
  · rename_i h1
    rw [if_neg h1]
    split at h
    · simp at h
    · rename_i h2
      rw [if_neg h2]
      obtain ⟨q, e, hq⟩ := getAt_ok s 10 _ _ _ h
      rw [e]; omega
theorem numR_at {s : ByteArray} {a : Int} {f : Option Int} (h8 : s.size ≤ 8000) (ha : a ≤ 9223372036854775807) : (numR s a f).2.1 ≤ 9223372036854775807 := by
  cases f with
  | some c => exact ha
  | none =>
    by_cases h : (getNum s a).2.2 = 0
    · have := getNum_at h
      rw [show numR s a none = ((getNum s a).1, (getNum s a).2.1, none) from if_pos h]
      show (getNum s a).2.1 ≤ _
      omega
    · rw [show numR s a none = (0, 0, some (getNum s a).2.2) from if_neg h]
      show (0 : Int) ≤ _; omega
theorem strR_at {s : ByteArray} {a : Int} {f : Option Int} (h8 : s.size ≤ 8000) (ha : a ≤ 9223372036854775807) : (strR s a f).2.1 ≤ 9223372036854775807 := by
  cases f with
  | some c => exact ha
  | none =>
    by_cases h : (getText s a).2.2 = 0
    · rw [show strR s a none = ((getText s a).1, (getText s a).2.1, none) from if_pos h]
      show (getText s a).2.1 ≤ _
      unfold getText
      split
      · show (0 : Int) ≤ _; omega
      · split
        · show (0 : Int) ≤ _; omega
        · split
          · show (0 : Int) ≤ _; omega
          · show (getNum s a).2.1 + (getNum s a).1 ≤ _; omega
    · rw [show strR s a none = (⟨#[]⟩, 0, some (getText s a).2.2) from if_neg h]
      show (0 : Int) ≤ _; omega
structure NodeR where
  n : Nd
  a : Int
  f : Option Int
def nodeR (s : ByteArray) (a0 : Int) (f0 : Option Int) : NodeR :=
  let r1 := strR s a0 f0
  let r2 := numR s r1.2.1 r1.2.2
  let r3 := strR s r2.2.1 r2.2.2
  let r4 := numR s r3.2.1 r3.2.2
  let r5 := numR s r4.2.1 r4.2.2
  ⟨⟨r1.1, r2.1, r3.1, r4.1, r5.1⟩, r5.2.1, r5.2.2⟩
theorem nodeR_at {s : ByteArray} {a : Int} {f : Option Int} (h8 : s.size ≤ 8000) (ha : a ≤ 9223372036854775807) : (nodeR s a f).a ≤ 9223372036854775807 := numR_at h8 (numR_at h8 (strR_at h8 (numR_at h8 (strR_at h8 ha))))
end Pl
namespace WReadI
theorem grown_new {w W : World} {r : Option Nat} (h : w.grownBy W r) (X k : Nat) (v : Value) (hX : w.heap.size ≤ X) : w.grownBy (W.setCell ⟨X, k, none⟩ v) r :=
  have b : Below X W (W.setCell ⟨X, k, none⟩ v) := (Below.refl X W).setCell (Nat.le_refl _) v
  ⟨b.os.trans h.os, b.tape.trans h.tape, b.output.trans h.output, Nat.le_trans h.size b.size, fun j hj hne => (heap_setCell_other W _ j v (by show j ≠ X; omega)).trans (h.block j hj hne)⟩
set_option linter.unusedSimpArgs false in
set_option maxRecDepth 100000 in
set_option maxHeartbeats 2000000 in
theorem node_any (X : Nat) (s : ByteArray) (a : Int) (f : Option Int) (w : World) (h8 : s.size ≤ 8000) (ha : a ≤ 9223372036854775807) (hv : Rd w X s a f) :
    Calls Tryd.prog 42 #[.pointer (some ⟨X, 0, none⟩)] w fun e w' => e = .returned (Pl.nodeR s a f).n.val ∧ Rd w' X s (Pl.nodeR s a f).a (Pl.nodeR s a f).f ∧ w.grownBy w' (some X) := by
  have hX : X < w.heap.size := hv.lt
  unfold Pl.nodeR
  simp only [Pl.Nd.val]
  have R0 : Rd ((w.alloc (.cells #[.string ⟨#[]⟩, .int .i64 0, .string ⟨#[]⟩, .int .i64 0, .int .i64 0] 57)).alloc (.cells #[.string ⟨#[]⟩, .int .i64 0, .string ⟨#[]⟩, .int .i64 0, .int .i64 0] 57)) X s a f := Mem.Blk.alloc (Mem.Blk.alloc hv _) _
  have U0 : Mem.Blk ((w.alloc (.cells #[.string ⟨#[]⟩, .int .i64 0, .string ⟨#[]⟩, .int .i64 0, .int .i64 0] 57)).alloc (.cells #[.string ⟨#[]⟩, .int .i64 0, .string ⟨#[]⟩, .int .i64 0, .int .i64 0] 57)) w.heap.size #[.string ⟨#[]⟩, .int .i64 0, .string ⟨#[]⟩, .int .i64 0, .int .i64 0] 57 := (Mem.Blk.new w #[.string ⟨#[]⟩, .int .i64 0, .string ⟨#[]⟩, .int .i64 0, .int .i64 0] 57).alloc _
  have V0 : Mem.Blk ((w.alloc (.cells #[.string ⟨#[]⟩, .int .i64 0, .string ⟨#[]⟩, .int .i64 0, .int .i64 0] 57)).alloc (.cells #[.string ⟨#[]⟩, .int .i64 0, .string ⟨#[]⟩, .int .i64 0, .int .i64 0] 57)) (w.heap.size + 1) #[.string ⟨#[]⟩, .int .i64 0, .string ⟨#[]⟩, .int .i64 0, .int .i64 0] 57 := Mem.new_two _ _ _
  have G0 : w.grownBy ((w.alloc (.cells #[.string ⟨#[]⟩, .int .i64 0, .string ⟨#[]⟩, .int .i64 0, .int .i64 0] 57)).alloc (.cells #[.string ⟨#[]⟩, .int .i64 0, .string ⟨#[]⟩, .int .i64 0, .int .i64 0] 57)) (some X) := (World.grownBy_alloc w _ _).trans (World.grownBy_alloc _ _ _)
  clear hv
  have hz0 := hide (fun W (h : Rd W X s a f) => str_any X s a f W h8 ha h)
  have hA0 : (Pl.strR s a f).2.1 ≤ 9223372036854775807 := Pl.strR_at h8 ha
  obtain ⟨⟨v0, a0, f0⟩, hr0⟩ : ∃ r, (Pl.strR s a f) = r := ⟨_, rfl⟩
  rw [hr0] at hz0 hA0 ⊢
  simp only at hz0 hA0
  clear ha
  have ha := hA0
  clear hA0 hr0
  have hz1 := hide (fun W (h : Rd W X s a0 f0) => num_any X s a0 f0 W h8 ha h)
  have hA1 : (Pl.numR s a0 f0).2.1 ≤ 9223372036854775807 := Pl.numR_at h8 ha
  obtain ⟨⟨v1, a1, f1⟩, hr1⟩ : ∃ r, (Pl.numR s a0 f0) = r := ⟨_, rfl⟩
  rw [hr1] at hz1 hA1 ⊢
  simp only at hz1 hA1
  clear ha
  have ha := hA1
  clear hA1 hr1
  have hz2 := hide (fun W (h : Rd W X s a1 f1) => str_any X s a1 f1 W h8 ha h)
  have hA2 : (Pl.strR s a1 f1).2.1 ≤ 9223372036854775807 := Pl.strR_at h8 ha
  obtain ⟨⟨v2, a2, f2⟩, hr2⟩ : ∃ r, (Pl.strR s a1 f1) = r := ⟨_, rfl⟩
  rw [hr2] at hz2 hA2 ⊢
  simp only at hz2 hA2
  clear ha
  have ha := hA2
  clear hA2 hr2
  have hz3 := hide (fun W (h : Rd W X s a2 f2) => num_any X s a2 f2 W h8 ha h)
  have hA3 : (Pl.numR s a2 f2).2.1 ≤ 9223372036854775807 := Pl.numR_at h8 ha
  obtain ⟨⟨v3, a3, f3⟩, hr3⟩ : ∃ r, (Pl.numR s a2 f2) = r := ⟨_, rfl⟩
  rw [hr3] at hz3 hA3 ⊢
  simp only at hz3 hA3
  clear ha
  have ha := hA3
  clear hA3 hr3
  have hz4 := hide (fun W (h : Rd W X s a3 f3) => num_any X s a3 f3 W h8 ha h)
  have hA4 : (Pl.numR s a3 f3).2.1 ≤ 9223372036854775807 := Pl.numR_at h8 ha
  obtain ⟨⟨v4, a4, f4⟩, hr4⟩ : ∃ r, (Pl.numR s a3 f3) = r := ⟨_, rfl⟩
  rw [hr4] at hz4 hA4 ⊢
  simp only at hz4 hA4
  clear ha
  have ha := hA4
  clear hA4 hr4
  go_enter Tryd.func42, Tryd.ntmps42
  have KR := hide R0
  have KU := hide U0
  have KV := hide V0
  have KG := hide G0
  clear R0 U0 V0 G0
  go_wp2_with fail
  refine (unhide hz0 _ (unhide KR)).mono ?_
  rintro e w1 ⟨rfl, R0', g0⟩
  have U0' := (unhide KU).grown g0 (fun e => by cases e; omega)
  have V0' := (unhide KV).grown g0 (fun e => by cases e; omega)
  have G0' := (unhide KG).trans g0
  clear hz0 KR KU KV KG g0
  have d0 := V0'.cell 0
  have e0 := V0'.fr 0
  simp only [kA0, kA1, kA2] at d0
  have R1 : Rd (w1.setCell ⟨w.heap.size + 1, 0, none⟩ (.string v0)) X s a0 f0 := Mem.Blk.far R0' _ _ (by show X ≠ w.heap.size + 1; omega)
  have U1 : Mem.Blk (w1.setCell ⟨w.heap.size + 1, 0, none⟩ (.string v0)) w.heap.size #[.string ⟨#[]⟩, .int .i64 0, .string ⟨#[]⟩, .int .i64 0, .int .i64 0] 57 := U0'.far _ _ (by show w.heap.size ≠ w.heap.size + 1; omega)
  have V1 : Mem.Blk (w1.setCell ⟨w.heap.size + 1, 0, none⟩ (.string v0)) (w.heap.size + 1) #[.string v0, .int .i64 0, .string ⟨#[]⟩, .int .i64 0, .int .i64 0] 57 := V0'.put 0 _
  have G1 := grown_new G0' (w.heap.size + 1) 0 (.string v0) (by omega)
  clear R0' U0' V0' G0'
  have KR := hide R1
  have KU := hide U1
  have KV := hide V1
  have KG := hide G1
  clear R1 U1 V1 G1
  go_wp2_with fail
  refine (unhide hz1 _ (unhide KR)).mono ?_
  rintro e w2 ⟨rfl, R1', g1⟩
  have U1' := (unhide KU).grown g1 (fun e => by cases e; omega)
  have V1' := (unhide KV).grown g1 (fun e => by cases e; omega)
  have G1' := (unhide KG).trans g1
  clear hz1 KR KU KV KG g1
  have d1 := V1'.cell 1
  have e1 := V1'.fr 1
  simp only [kA0, kA1, kA2] at d1
  have R2 : Rd (w2.setCell ⟨w.heap.size + 1, 1, none⟩ (.int .i64 v1)) X s a1 f1 := Mem.Blk.far R1' _ _ (by show X ≠ w.heap.size + 1; omega)
  have U2 : Mem.Blk (w2.setCell ⟨w.heap.size + 1, 1, none⟩ (.int .i64 v1)) w.heap.size #[.string ⟨#[]⟩, .int .i64 0, .string ⟨#[]⟩, .int .i64 0, .int .i64 0] 57 := U1'.far _ _ (by show w.heap.size ≠ w.heap.size + 1; omega)
  have V2 : Mem.Blk (w2.setCell ⟨w.heap.size + 1, 1, none⟩ (.int .i64 v1)) (w.heap.size + 1) #[.string v0, .int .i64 v1, .string ⟨#[]⟩, .int .i64 0, .int .i64 0] 57 := V1'.put 1 _
  have G2 := grown_new G1' (w.heap.size + 1) 1 (.int .i64 v1) (by omega)
  clear R1' U1' V1' G1'
  have KR := hide R2
  have KU := hide U2
  have KV := hide V2
  have KG := hide G2
  clear R2 U2 V2 G2
  go_wp2_with fail
  refine (unhide hz2 _ (unhide KR)).mono ?_
  rintro e w3 ⟨rfl, R2', g2⟩
  have U2' := (unhide KU).grown g2 (fun e => by cases e; omega)
  have V2' := (unhide KV).grown g2 (fun e => by cases e; omega)
  have G2' := (unhide KG).trans g2
  clear hz2 KR KU KV KG g2
  have d2 := V2'.cell 2
  have e2 := V2'.fr 2
  simp only [kA0, kA1, kA2] at d2
  have R3 : Rd (w3.setCell ⟨w.heap.size + 1, 2, none⟩ (.string v2)) X s a2 f2 := Mem.Blk.far R2' _ _ (by show X ≠ w.heap.size + 1; omega)
  have U3 : Mem.Blk (w3.setCell ⟨w.heap.size + 1, 2, none⟩ (.string v2)) w.heap.size #[.string ⟨#[]⟩, .int .i64 0, .string ⟨#[]⟩, .int .i64 0, .int .i64 0] 57 := U2'.far _ _ (by show w.heap.size ≠ w.heap.size + 1; omega)
  have V3 : Mem.Blk (w3.setCell ⟨w.heap.size + 1, 2, none⟩ (.string v2)) (w.heap.size + 1) #[.string v0, .int .i64 v1, .string v2, .int .i64 0, .int .i64 0] 57 := V2'.put 2 _
  have G3 := grown_new G2' (w.heap.size + 1) 2 (.string v2) (by omega)
  clear R2' U2' V2' G2'
  have KR := hide R3
  have KU := hide U3
  have KV := hide V3
  have KG := hide G3
  clear R3 U3 V3 G3
  go_wp2_with fail
  refine (unhide hz3 _ (unhide KR)).mono ?_
  rintro e w4 ⟨rfl, R3', g3⟩
  have U3' := (unhide KU).grown g3 (fun e => by cases e; omega)
  have V3' := (unhide KV).grown g3 (fun e => by cases e; omega)
  have G3' := (unhide KG).trans g3
  clear hz3 KR KU KV KG g3
  have d3 := V3'.cell 3
  have e3 := V3'.fr 3
  simp only [kA0, kA1, kA2] at d3
  have R4 : Rd (w4.setCell ⟨w.heap.size + 1, 3, none⟩ (.int .i64 v3)) X s a3 f3 := Mem.Blk.far R3' _ _ (by show X ≠ w.heap.size + 1; omega)
  have U4 : Mem.Blk (w4.setCell ⟨w.heap.size + 1, 3, none⟩ (.int .i64 v3)) w.heap.size #[.string ⟨#[]⟩, .int .i64 0, .string ⟨#[]⟩, .int .i64 0, .int .i64 0] 57 := U3'.far _ _ (by show w.heap.size ≠ w.heap.size + 1; omega)
  have V4 : Mem.Blk (w4.setCell ⟨w.heap.size + 1, 3, none⟩ (.int .i64 v3)) (w.heap.size + 1) #[.string v0, .int .i64 v1, .string v2, .int .i64 v3, .int .i64 0] 57 := V3'.put 3 _
  have G4 := grown_new G3' (w.heap.size + 1) 3 (.int .i64 v3) (by omega)
  clear R3' U3' V3' G3'
  have KR := hide R4
  have KU := hide U4
  have KV := hide V4
  have KG := hide G4
  clear R4 U4 V4 G4
  go_wp2_with fail
  refine (unhide hz4 _ (unhide KR)).mono ?_
  rintro e w5 ⟨rfl, R4', g4⟩
  have U4' := (unhide KU).grown g4 (fun e => by cases e; omega)
  have V4' := (unhide KV).grown g4 (fun e => by cases e; omega)
  have G4' := (unhide KG).trans g4
  clear hz4 KR KU KV KG g4
  have d4 := V4'.cell 4
  have e4 := V4'.fr 4
  simp only [kA0, kA1, kA2] at d4
  have R5 : Rd (w5.setCell ⟨w.heap.size + 1, 4, none⟩ (.int .i64 v4)) X s a4 f4 := Mem.Blk.far R4' _ _ (by show X ≠ w.heap.size + 1; omega)
  have U5 : Mem.Blk (w5.setCell ⟨w.heap.size + 1, 4, none⟩ (.int .i64 v4)) w.heap.size #[.string ⟨#[]⟩, .int .i64 0, .string ⟨#[]⟩, .int .i64 0, .int .i64 0] 57 := U4'.far _ _ (by show w.heap.size ≠ w.heap.size + 1; omega)
  have V5 : Mem.Blk (w5.setCell ⟨w.heap.size + 1, 4, none⟩ (.int .i64 v4)) (w.heap.size + 1) #[.string v0, .int .i64 v1, .string v2, .int .i64 v3, .int .i64 v4] 57 := V4'.put 4 _
  have G5 := grown_new G4' (w.heap.size + 1) 4 (.int .i64 v4) (by omega)
  clear R4' U4' V4' G4'
  have KR := hide R5
  have KG := hide G5
  have p0 := V5.cell 0
  have q0 := U5.cell 0
  have t0 := U5.fr 0
  have p1 := V5.cell 1
  have q1 := U5.cell 1
  have t1 := U5.fr 1
  have p2 := V5.cell 2
  have q2 := U5.cell 2
  have t2 := U5.fr 2
  have p3 := V5.cell 3
  have q3 := U5.cell 3
  have t3 := U5.fr 3
  have p4 := V5.cell 4
  have q4 := U5.cell 4
  have t4 := U5.fr 4
  simp only [kA0, kA1, kA2] at p0 p1 p2 p3 p4 q0 q1 q2 q3 q4
  clear R5 U5 V5 G5
  go_wp2
  refine bodyPost_ret (v := .agg #[.string v0, .int .i64 v1, .string v2, .int .i64 v3, .int .i64 v4]) (by simp [results, Tryd.results42, go_sem, q0, q1, q2, q3, q4]) rfl ⟨rfl, ?_, ?_⟩
  · exact Mem.Blk.far (Mem.Blk.far (Mem.Blk.far (Mem.Blk.far (Mem.Blk.far (unhide KR) _ _ (by show X ≠ w.heap.size; omega)) _ _ (by show X ≠ w.heap.size; omega)) _ _ (by show X ≠ w.heap.size; omega)) _ _ (by show X ≠ w.heap.size; omega)) _ _ (by show X ≠ w.heap.size; omega)
  · exact grown_new (grown_new (grown_new (grown_new (grown_new (unhide KG) w.heap.size 0 _ (Nat.le_refl _)) w.heap.size 1 _ (Nat.le_refl _)) w.heap.size 2 _ (Nat.le_refl _)) w.heap.size 3 _ (Nat.le_refl _)) w.heap.size 4 _ (Nat.le_refl _)
end WReadI
end Go.Proofs.YtnbmpbfligdcjaaDoor

/- The orders of a region brought together again behind it. -/
namespace Go.Proofs.YtnbmpbfligdcjaaDoor

theorem wp_merge {P : Program} {code : Code} {Q : Exit → Act → World → Prop} {T : Array Value} {D : List _} {w : World} (R : Array Value → Array Value → World → Prop)
    (h : code.wp P (fun e a W => e = .normal ∧ a.defers = D ∧ R T a.tmps W) ⟨T, D⟩ w) (h2 : ∀ T' W, R T T' W → Q .normal ⟨T', D⟩ W) : code.wp P Q ⟨T, D⟩ w :=
  Code.wp_mono (fun e a W ⟨h1, h3, h4⟩ => by
    obtain ⟨t, d⟩ := a
    simp only at h3
    subst h1 h3
    exact h2 _ _ h4) h
end Go.Proofs.YtnbmpbfligdcjaaDoor

