/- Several texts of one claim in one file: WNReadI, WItemI, MemNest. -/
import Derived.Test.YtnbmpbfligdcjaaDoorG29
import Derived.Test.YtnbmpbfligdcjaaDoorWReadJ
import Derived.Deep.Cut
import Derived.Test.YtnbmpbfligdcjaaDoorG12
import Derived.Test.YtnbmpbfligdcjaaDoorG26
import Derived.Test.YtnbmpbfligdcjaaDoorG04
import Derived.Test.YtnbmpbfligdcjaaDoorG20
/- The walk of the program's readItem (by genNRI.py). -/
namespace Go.Proofs.YtnbmpbfligdcjaaDoor
open Go.RowKit
namespace WNReadI
def Got (w w' : World) (X : Nat) (s : ByteArray) (r : Pl.Im) (e : Ending) : Prop := ∃ ta tc, e = .returned (.agg #[.int .i64 r.n.1, .slice ta r.n.2.length tc]) ∧ Mem.ownN w' w.heap.size (.slice ta r.n.2.length tc) r.n.2 ∧ WReadI.Rd w' X s r.a r.f ∧ w.grownBy w' (some X)
set_option linter.unusedSimpArgs false in
set_option maxRecDepth 100000 in
set_option maxHeartbeats 2000000 in
theorem item_any (X : Nat) (s : ByteArray) (a : Int) (f : Option Int) (w : World) (h8 : s.size ≤ 8000) (ha : a ≤ 9223372036854775807) (hv : WReadI.Rd w X s a f) (r1 r2 r3 : TypeId) (x1 x2 x3 : Value) (hE : ∀ W, w.grownBy W (some X) → WNodesI.Errs W r1 r2 r3 x1 x2 x3) :
    Calls Tryd.prog 52 #[.pointer (some ⟨X, 0, none⟩)] w fun e w' => Got w w' X s (Pl.itemR s a f) e := by
  have hX : X < w.heap.size := hv.lt
  have HIT : Hid (Pl.itemR s a f = ⟨((Pl.numR s a f).1, (Pl.readO (Pl.strR s (Pl.numR s a f).2.1 (Pl.numR s a f).2.2).1).1), (Pl.strR s (Pl.numR s a f).2.1 (Pl.numR s a f).2.2).2.1, (match (Pl.strR s (Pl.numR s a f).2.1 (Pl.numR s a f).2.2).2.2 with | none => if (Pl.readO (Pl.strR s (Pl.numR s a f).2.1 (Pl.numR s a f).2.2).1).2 = 0 then none else some (Pl.readO (Pl.strR s (Pl.numR s a f).2.1 (Pl.numR s a f).2.2).1).2 | some c => some c)⟩) := hide rfl
  generalize Pl.itemR s a f = R at HIT ⊢
  have c1 := hide (fun W h => WReadI.num_any X s a f W h8 ha h)
  have z1 : (Pl.numR s a f).2.1 ≤ 9223372036854775807 := Pl.numR_at h8 ha
  obtain ⟨⟨p1, a1, f1⟩, hr1⟩ : ∃ r, Pl.numR s a f = r := ⟨_, rfl⟩
  rw [hr1] at c1 z1 HIT
  simp only at c1 z1 HIT
  have c2 := hide (fun W h => WReadI.str_any X s a1 f1 W h8 z1 h)
  obtain ⟨⟨p2, a2, f2⟩, hr2⟩ : ∃ r, Pl.strR s a1 f1 = r := ⟨_, rfl⟩
  rw [hr2] at c2 HIT
  simp only at c2 HIT
  have c3 := hide (fun W h => WReadJ.impl_any p2 W r1 r2 r3 x1 x2 x3 h)
  obtain ⟨⟨L2, co⟩, hr3⟩ : ∃ r, Pl.readO p2 = r := ⟨_, rfl⟩
  rw [hr3] at c3 HIT
  simp only at c3 HIT
  have HE := hide hE
  have b0 : Below w.heap.size w (w.alloc (.cells #[.int .i64 0, .slice none 0 0] 81)) := (Below.refl _ _).alloc (Nat.le_refl _) _
  have G0 := hide (Mem.grown_of_below b0 (some X))
  have R0 := hide (Mem.Blk.call hv b0)
  have Z0 := hide (Mem.Blk.new w #[.int .i64 0, .slice none 0 0] 81)
  clear hv ha hr1 hr2 hr3 hE b0 z1
  go_enter Tryd.func52, Tryd.ntmps52
  go_wp2_with fail
  refine (unhide c1 _ (unhide R0)).mono ?_
  rintro e w1 ⟨rfl, hrd, hgr⟩
  have G1 := hide (Mem.grown_trans (unhide G0) hgr)
  have Z1 := hide ((unhide Z0).grown hgr (fun e => by have := Option.some.inj e; omega))
  have R1 := hide hrd
  clear G0 R0 Z0 hrd hgr c1
  go_wp2_with fail
  refine (unhide c2 _ (unhide R1)).mono ?_
  rintro e w2 ⟨rfl, hrd, hgr⟩
  have G2 := hide (Mem.grown_trans (unhide G1) hgr)
  have Z2 := hide ((unhide Z1).grown hgr (fun e => by have := Option.some.inj e; omega))
  have R2 := hide hrd
  have E2 := hide (unhide HE _ (unhide G2))
  clear G1 R1 Z1 hrd hgr c2 HE
  go_wp2_with fail
  refine (unhide c3 _ (unhide E2)).mono ?_
  rintro e w4 ⟨vt, rfl, ownT, b4⟩
  obtain ⟨ta, tc, rfl⟩ := Mem.own_shape ownT
  have bA : Below w4.heap.size w4 (w4.alloc (.cells #[.slice ta L2.length tc, .int .i64 co] 34)) := (Below.refl _ _).alloc (Nat.le_refl _) _
  have bB := b4.trans (bA.mono b4.size)
  have hs2 := (unhide G2).size
  have hX2 : X < w2.heap.size := by omega
  have hZ2 : w.heap.size < w2.heap.size := (unhide Z2).lt
  have G4 := hide (Mem.grown_trans (unhide G2) (Mem.grown_of_below bB _))
  have Z4 := hide ((unhide Z2).call bB)
  have R4 := hide (Mem.Blk.call (unhide R2) bB)
  have T4 := hide (Mem.ownN_call ownT bA)
  have Y4 := hide (Mem.Blk.new w4 #[.slice ta L2.length tc, .int .i64 co] 34)
  have hs4 : w2.heap.size ≤ w4.heap.size := b4.size
  clear c3 G2 Z2 R2 ownT b4 bA bB E2
  go_upto_region 3 with fail
  generalize hX7 : w4.heap.size = X7 at Y4 hs4 ⊢
  generalize w4.alloc (.cells #[.slice ta L2.length tc, .int .i64 co] 34) = W4 at G4 Z4 R4 T4 Y4 ⊢
  have q0 := (unhide R4).cell 2
  have y0 := (unhide Y4).cell 0
  have y1 := (unhide Y4).cell 1
  simp only [kA0, kA1, kA2] at q0 y0 y1
  have hd1 : X ≠ w.heap.size := by omega
  have hd2 : X ≠ X7 := by omega
  have hd3 : w.heap.size ≠ X7 := by omega
  cases f2 with
  | some c0 =>
    simp only [WReadI.fv] at q0
    have HR : Hid (R = ⟨(p1, L2), a2, some c0⟩) := hide (unhide HIT)
    have z0 := (unhide Z4).cell 0
    have z1 := (unhide Z4).cell 1
    have zf0 := (unhide Z4).fr 0
    have zf1 := (unhide Z4).fr 1
    simp only [kA0, kA1, kA2] at z0 z1
    have G5 := hide (WReadI.grown_new (WReadI.grown_new (unhide G4) w.heap.size 0 (.int .i64 p1) (Nat.le_refl _)) w.heap.size 1 (.slice ta L2.length tc) (Nat.le_refl _))
    have R5 := hide (Mem.Blk.far (Mem.Blk.far (unhide R4) ⟨w.heap.size, 0, none⟩ (.int .i64 p1) hd1) ⟨w.heap.size, 1, none⟩ (.slice ta L2.length tc) hd1)
    have T5 := hide (Mem.ownN_set (Mem.ownN_set (unhide T4) ⟨w.heap.size, 0, none⟩ (.int .i64 p1) hZ2) ⟨w.heap.size, 1, none⟩ (.slice ta L2.length tc) hZ2)
    clear G4 R4 T4 Y4 Z4
    clear HIT
    go_wp2
    refine bodyPost_ret (v := .agg #[.int .i64 p1, .slice ta L2.length tc]) (by simp [results, Tryd.results52, go_sem, z0, z1]) rfl (by rw [unhide HR]; exact ⟨ta, tc, rfl, Mem.ownN_mono (unhide T5) (by omega), unhide R5, unhide G5⟩)
  | none =>
    simp only [WReadI.fv] at q0
    by_cases hco : co = 0
    · subst hco
      have HR : Hid (R = ⟨(p1, L2), a2, none⟩) := hide (by have h := unhide HIT; simpa using h)
      have z0 := (unhide Z4).cell 0
      have z1 := (unhide Z4).cell 1
      have zf0 := (unhide Z4).fr 0
      have zf1 := (unhide Z4).fr 1
      simp only [kA0, kA1, kA2] at z0 z1
      have G5 := hide (WReadI.grown_new (WReadI.grown_new (unhide G4) w.heap.size 0 (.int .i64 p1) (Nat.le_refl _)) w.heap.size 1 (.slice ta L2.length tc) (Nat.le_refl _))
      have R5 := hide (Mem.Blk.far (Mem.Blk.far (unhide R4) ⟨w.heap.size, 0, none⟩ (.int .i64 p1) hd1) ⟨w.heap.size, 1, none⟩ (.slice ta L2.length tc) hd1)
      have T5 := hide (Mem.ownN_set (Mem.ownN_set (unhide T4) ⟨w.heap.size, 0, none⟩ (.int .i64 p1) hZ2) ⟨w.heap.size, 1, none⟩ (.slice ta L2.length tc) hZ2)
      clear G4 R4 T4 Y4 Z4
      clear HIT
      go_wp2
      refine bodyPost_ret (v := .agg #[.int .i64 p1, .slice ta L2.length tc]) (by simp [results, Tryd.results52, go_sem, z0, z1]) rfl (by rw [unhide HR]; exact ⟨ta, tc, rfl, Mem.ownN_mono (unhide T5) (by omega), unhide R5, unhide G5⟩)
    · have hco2 : (co != 0) = true := by simpa using hco
      have hco3 : decide (co = 0) = false := by simpa using hco
      have hco4 : (co == 0) = false := by simpa using hco
      have HR : Hid (R = ⟨(p1, L2), a2, some co⟩) := hide (by have h := unhide HIT; simpa [hco] using h)
      have q2f := (unhide R4).fr 2
      have G5 := hide (Mem.grown_trans (unhide G4) (WReadI.grown_set (w := W4) X 2 (WReadI.fv (some co))))
      have R5 := hide (show WReadI.Rd _ X s a2 (some co) from Mem.Blk.put (unhide R4) 2 (WReadI.fv (some co)))
      have Z5 := hide ((unhide Z4).far ⟨X, 2, none⟩ (WReadI.fv (some co)) (by show w.heap.size ≠ X; omega))
      have Y5 := hide ((unhide Y4).far ⟨X, 2, none⟩ (WReadI.fv (some co)) (by show X7 ≠ X; omega))
      have T5 := hide (Mem.ownN_set (unhide T4) ⟨X, 2, none⟩ (WReadI.fv (some co)) (by show X < _; omega))
      simp only [WReadI.fv] at G5 R5 Z5 Y5 T5
      go_upto_region 5 with fail
      generalize W4.setCell ⟨X, 2, none⟩ (.iface 121 (.agg #[.int .i64 co])) = W5 at G5 R5 Z5 Y5 T5 ⊢
      clear q0 y0 y1 q2f G4 R4 T4 Y4 Z4
      have y0 := (unhide Y5).cell 0
      have z0 := (unhide Z5).cell 0
      have z1 := (unhide Z5).cell 1
      have zf0 := (unhide Z5).fr 0
      have zf1 := (unhide Z5).fr 1
      simp only [kA0, kA1, kA2] at y0 z0 z1
      have G6 := hide (WReadI.grown_new (WReadI.grown_new (unhide G5) w.heap.size 0 (.int .i64 p1) (Nat.le_refl _)) w.heap.size 1 (.slice ta L2.length tc) (Nat.le_refl _))
      have R6 := hide (Mem.Blk.far (Mem.Blk.far (unhide R5) ⟨w.heap.size, 0, none⟩ (.int .i64 p1) hd1) ⟨w.heap.size, 1, none⟩ (.slice ta L2.length tc) hd1)
      have T6 := hide (Mem.ownN_set (Mem.ownN_set (unhide T5) ⟨w.heap.size, 0, none⟩ (.int .i64 p1) hZ2) ⟨w.heap.size, 1, none⟩ (.slice ta L2.length tc) hZ2)
      clear G5 R5 T5 Y5 Z5
      clear HIT
      go_wp2
      refine bodyPost_ret (v := .agg #[.int .i64 p1, .slice ta L2.length tc]) (by simp [results, Tryd.results52, go_sem, z0, z1]) rfl (by rw [unhide HR]; exact ⟨ta, tc, rfl, Mem.ownN_mono (unhide T6) (by omega), unhide R6, unhide G6⟩)
end WNReadI
end Go.Proofs.YtnbmpbfligdcjaaDoor

/- The walk of the program's treeItemOf. -/
namespace Go.Proofs.YtnbmpbfligdcjaaDoor
open Go.RowKit
namespace WNestI
set_option linter.unusedSimpArgs false in
set_option maxRecDepth 100000 in
set_option maxHeartbeats 1000000 in
theorem item_any (m : Int) (a : Option Addr) (cap : Nat) (L : List Pl.Nd) (w : World) (hl : L.length ≤ 1048576) (hv : Mem.isNodes w a L) (hok : ∀ n ∈ L, n.path.size ≤ 1048576 ∧ n.data.size ≤ 1048576)
    (r1 r2 r3 : TypeId) (x1 x2 x3 : Value) (hE : WNodesI.Errs w r1 r2 r3 x1 x2 x3) :
    Calls Tryd.prog 97 #[.agg #[.int .i64 m, .slice a L.length cap]] w fun e w' => ((Pl.itemB m L = true ∧ ∃ B, e = .returned (.tuple #[.agg #[.map (some B), .int .i64 m], .nilIface])) ∨
      (Pl.itemB m L = false ∧ ∃ k, e = .returned (.tuple #[.agg #[.map none, .int .i64 k], .iface r1 x1]))) ∧ Below w.heap.size w w' := by
  have b0 : Below w.heap.size w ((w.alloc (.cells #[.int .i64 m, .slice a L.length cap] 81)).alloc (.cells #[.map none, .int .i64 0] 114)) := ((Below.refl _ _).alloc (Nat.le_refl _) _).alloc (by simp) _
  have k1 := (hE.call b0).c1
  have HB0 := hide b0
  by_cases h1 : m < 0
  · have hb : Pl.itemB m L = false := by unfold Pl.itemB; rw [show decide (0 ≤ m) = false from decide_eq_false (by omega)]; simp
    clear b0 hv hok hE
    go_enter Tryd.func97, Tryd.ntmps97
    go_wp2
    go_region
    go_wp2
    refine bodyPost_ret (v := .tuple #[.agg #[.map none, .int .i64 0], .iface r1 x1]) (by simp [results, Tryd.results97, go_sem]) rfl ⟨.inr ⟨hb, 0, rfl⟩, ?_⟩
    exact Mem.below_drewN (unhide HB0) 1
  by_cases h2 : 4 < m
  · have hb : Pl.itemB m L = false := by unfold Pl.itemB; rw [show decide (m ≤ 4) = false from decide_eq_false (by omega)]; simp
    clear b0 hv hok hE
    go_enter Tryd.func97, Tryd.ntmps97
    go_wp2
    go_region
    go_wp2
    refine bodyPost_ret (v := .tuple #[.agg #[.map none, .int .i64 0], .iface r1 x1]) (by simp [results, Tryd.results97, go_sem]) rfl ⟨.inr ⟨hb, 0, rfl⟩, ?_⟩
    exact Mem.below_drewN (unhide HB0) 1
  by_cases h3 : 0 < m ∧ 0 < L.length
  · have hb : Pl.itemB m L = false := by
      rw [Pl.itemB_more (by omega), show decide (L.length = 0) = false from decide_eq_false (by omega)]; simp
    have u1 := h3.1
    have u2 : (0 : Int) < (L.length : Int) := by omega
    clear b0 hv hok hE
    go_enter Tryd.func97, Tryd.ntmps97
    go_wp2
    go_region
    go_wp2
    refine bodyPost_ret (v := .tuple #[.agg #[.map none, .int .i64 0], .iface r1 x1]) (by simp [results, Tryd.results97, go_sem]) rfl ⟨.inr ⟨hb, 0, rfl⟩, ?_⟩
    exact Mem.below_drewN (unhide HB0) 1
  have hb : Pl.itemB m L = Pl.treeB L := by
    by_cases h0 : m = 0
    · subst h0; exact Pl.itemB_zero L
    · have hL : L = [] := List.eq_nil_of_length_eq_zero (by omega)
      subst hL
      rw [Pl.itemB_more h0, Pl.treeB_nil, decide_eq_true (show 1 ≤ m by omega), decide_eq_true (show m ≤ 4 by omega)]; rfl
  rw [hb]
  have hz := hide (WNodesI.nodes_any a cap L _ hl (Mem.nodes_call hv b0) hok r1 r2 r3 x1 x2 x3 (hE.call b0))
  have r2' : Mem.Blk ((w.alloc (.cells #[.int .i64 m, .slice a L.length cap] 81)).alloc (.cells #[.map none, .int .i64 0] 114)) (w.heap.size + 1) #[.map none, .int .i64 0] 114 := by
    have := Mem.Blk.new (w.alloc (.cells #[.int .i64 m, .slice a L.length cap] 81)) #[.map none, .int .i64 0] 114
    simpa using this
  have r1' : Mem.Blk ((w.alloc (.cells #[.int .i64 m, .slice a L.length cap] 81)).alloc (.cells #[.map none, .int .i64 0] 114)) w.heap.size #[.int .i64 m, .slice a L.length cap] 81 := (Mem.Blk.new w _ _).alloc _
  clear hv hok hE k1 b0 hb
  by_cases h4 : 0 < m
  · have u2 : ¬ (0 : Int) < (L.length : Int) := by omega
    go_enter Tryd.func97, Tryd.ntmps97
    go_wp2_with fail
    generalize ((w.alloc (.cells #[.int .i64 m, .slice a L.length cap] 81)).alloc (.cells #[.map none, .int .i64 0] 114)) = w2 at hz r1' r2' HB0 ⊢
    refine (unhide hz).mono ?_
    rintro e w1 ⟨h1, b1⟩
    have R1 := r1'.call b1
    have R2 := r2'.call b1
    have c10 := R1.cell 0
    have c11 := R1.cell 1
    have c20 := R2.cell 0
    have c21 := R2.cell 1
    have f20 := R2.fr 0
    have f21 := R2.fr 1
    simp only [kA0, kA1, kA2] at c10 c11 c20 c21
    have bb := hide ((unhide HB0).trans (b1.mono (unhide HB0).size))
    clear hz b1 r1' r2' R1 R2 HB0
    rcases h1 with ⟨hT, B, rfl, -, -⟩ | ⟨hT, rfl⟩
    · go_wp2
      refine bodyPost_ret (v := .tuple #[.agg #[.map (some B), .int .i64 m], .nilIface]) (by simp [results, Tryd.results97, go_sem, c20, c21]) rfl ⟨.inl ⟨hT, B, rfl⟩, ?_⟩
      exact ((unhide bb).setCell (by show w.heap.size ≤ w.heap.size + 1; omega) _).setCell (by show w.heap.size ≤ w.heap.size + 1; omega) _
    · go_wp2
      refine bodyPost_ret (v := .tuple #[.agg #[.map none, .int .i64 m], .iface r1 x1]) (by simp [results, Tryd.results97, go_sem, c20, c21]) rfl ⟨.inr ⟨hT, m, rfl⟩, ?_⟩
      exact ((unhide bb).setCell (by show w.heap.size ≤ w.heap.size + 1; omega) _).setCell (by show w.heap.size ≤ w.heap.size + 1; omega) _
  · go_enter Tryd.func97, Tryd.ntmps97
    go_wp2_with fail
    generalize ((w.alloc (.cells #[.int .i64 m, .slice a L.length cap] 81)).alloc (.cells #[.map none, .int .i64 0] 114)) = w2 at hz r1' r2' HB0 ⊢
    refine (unhide hz).mono ?_
    rintro e w1 ⟨h1, b1⟩
    have R1 := r1'.call b1
    have R2 := r2'.call b1
    have c10 := R1.cell 0
    have c11 := R1.cell 1
    have c20 := R2.cell 0
    have c21 := R2.cell 1
    have f20 := R2.fr 0
    have f21 := R2.fr 1
    simp only [kA0, kA1, kA2] at c10 c11 c20 c21
    have bb := hide ((unhide HB0).trans (b1.mono (unhide HB0).size))
    clear hz b1 r1' r2' R1 R2 HB0
    rcases h1 with ⟨hT, B, rfl, -, -⟩ | ⟨hT, rfl⟩
    · go_wp2
      refine bodyPost_ret (v := .tuple #[.agg #[.map (some B), .int .i64 m], .nilIface]) (by simp [results, Tryd.results97, go_sem, c20, c21]) rfl ⟨.inl ⟨hT, B, rfl⟩, ?_⟩
      exact ((unhide bb).setCell (by show w.heap.size ≤ w.heap.size + 1; omega) _).setCell (by show w.heap.size ≤ w.heap.size + 1; omega) _
    · go_wp2
      refine bodyPost_ret (v := .tuple #[.agg #[.map none, .int .i64 m], .iface r1 x1]) (by simp [results, Tryd.results97, go_sem, c20, c21]) rfl ⟨.inr ⟨hT, m, rfl⟩, ?_⟩
      exact ((unhide bb).setCell (by show w.heap.size ≤ w.heap.size + 1; omega) _).setCell (by show w.heap.size ≤ w.heap.size + 1; omega) _
end WNestI
end Go.Proofs.YtnbmpbfligdcjaaDoor

/- A row of nests in memory: each a map, a number and the row of its layers. -/
namespace Go.Proofs.YtnbmpbfligdcjaaDoor
open Go.RowKit
namespace Mem
/-- A row of nests from a cell on; all blocks of it are of a kind. -/
def rowF (w : World) (N : Nat → Prop) : Pl.Fo → Nat → Nat → Prop
  | .nil, _, _ => True
  | .cons k m, b, i => (∃ x y a cap, w.cell? ⟨b, i, none⟩ = some x ∧ w.cell? ⟨b, i + 1, none⟩ = some y ∧ w.cell? ⟨b, i + 2, none⟩ = some (.slice a k.len cap) ∧ b < w.heap.size ∧ N b ∧
      (∃ q, x = .map q) ∧ (∃ q, y = .int .i64 q) ∧ (k = .nil ∨ ∃ b', a = some ⟨b', 0, none⟩ ∧ rowF w N k b' 0)) ∧ rowF w N m b (i + 3)
/-- The layers of a nest: a row of nests, or none. -/
def lay (w : World) (N : Nat → Prop) (k : Pl.Fo) (v : Value) : Prop := ∃ a cap, v = .slice a k.len cap ∧ (k = .nil ∨ ∃ b', a = some ⟨b', 0, none⟩ ∧ rowF w N k b' 0)
theorem rowF_mono {w w' : World} {N N' : Nat → Prop} (h : ∀ b, N b → b < w.heap.size → N' b ∧ b < w'.heap.size ∧ w'.heap[b]? = w.heap[b]?) (F : Pl.Fo) : ∀ b i, rowF w N F b i → rowF w' N' F b i := by
  induction F with
  | nil => intro b i _; trivial
  | cons k m ihk ihm =>
    intro b i hr
    obtain ⟨⟨x, y, a, cap, h1, h2, h3, h4, h5, hx, hy, h6⟩, h7⟩ := hr
    obtain ⟨g1, g2, g3⟩ := h b h5 h4
    have c : ∀ j, w'.cell? ⟨b, j, none⟩ = w.cell? ⟨b, j, none⟩ := fun j => World.cell?_of_block g3
    refine ⟨⟨x, y, a, cap, (c _).trans h1, (c _).trans h2, (c _).trans h3, g2, g1, hx, hy, ?_⟩, ihm _ _ h7⟩
    rcases h6 with h6 | ⟨b', h6, h8⟩
    · exact .inl h6
    · exact .inr ⟨b', h6, ihk _ _ h8⟩
theorem lay_mono {w w' : World} {N N' : Nat → Prop} (h : ∀ b, N b → b < w.heap.size → N' b ∧ b < w'.heap.size ∧ w'.heap[b]? = w.heap[b]?) {k : Pl.Fo} {v : Value} (hl : lay w N k v) : lay w' N' k v := by
  obtain ⟨a, cap, h1, h2⟩ := hl
  refine ⟨a, cap, h1, ?_⟩
  rcases h2 with h2 | ⟨b', h2, h3⟩
  · exact .inl h2
  · exact .inr ⟨b', h2, rowF_mono h _ _ _ h3⟩
theorem lay_call {w w' : World} {N : Nat → Prop} {k : Pl.Fo} {v : Value} (h : lay w N k v) (b : Below w.heap.size w w') : lay w' N k v := lay_mono (fun g hg hl => ⟨hg, Nat.lt_of_lt_of_le hl b.size, b.block g hl⟩) h
theorem lay_weak {w : World} {N N' : Nat → Prop} {k : Pl.Fo} {v : Value} (h : lay w N k v) (hn : ∀ b, N b → b < w.heap.size → N' b) : lay w N' k v := lay_mono (fun g hg hl => ⟨hn g hg hl, hl, rfl⟩) h
theorem lay_nil (w : World) (N : Nat → Prop) : lay w N .nil (.slice none 0 0) := ⟨none, 0, rfl, .inl rfl⟩
/-- The cells of a row of nests, one behind the other. -/
def cellsF (w : World) (N : Nat → Prop) : Pl.Fo → List Value → Prop
  | .nil, xs => xs = []
  | .cons k m, xs => ∃ q r v ys, xs = .map q :: .int .i64 r :: v :: ys ∧ lay w N k v ∧ cellsF w N m ys
theorem cellsF_mono {w w' : World} {N N' : Nat → Prop} (h : ∀ b, N b → b < w.heap.size → N' b ∧ b < w'.heap.size ∧ w'.heap[b]? = w.heap[b]?) (F : Pl.Fo) : ∀ xs, cellsF w N F xs → cellsF w' N' F xs := by
  induction F with
  | nil => intro xs h; exact h
  | cons k m _ ih =>
    intro xs hx
    obtain ⟨q, r, v, ys, h1, h2, h3⟩ := hx
    exact ⟨q, r, v, ys, h1, lay_mono h h2, ih _ h3⟩
theorem cellsF_snoc {w : World} {N : Nat → Prop} {k : Pl.Fo} {q : Option Nat} {r : Int} {v : Value} (hv : lay w N k v) (F : Pl.Fo) : ∀ xs, cellsF w N F xs → cellsF w N (F.app (.cons k .nil)) (xs ++ [.map q, .int .i64 r, v]) := by
  induction F with
  | nil => intro xs h; cases h; exact ⟨q, r, v, [], rfl, hv, rfl⟩
  | cons k' m _ ih =>
    intro xs hx
    obtain ⟨q', r', v', ys, rfl, h2, h3⟩ := hx
    exact ⟨q', r', v', _, rfl, h2, ih _ h3⟩
theorem row_of_cells {w : World} {N N' : Nat → Prop} {g : Nat} (hN : ∀ b, N b → N' b) (hg : N' g) (hlt : g < w.heap.size) (F : Pl.Fo) : ∀ (xs : List Value) (i : Nat), cellsF w N F xs → (∀ j u, xs[j]? = some u → w.cell? ⟨g, i + j, none⟩ = some u) → rowF w N' F g i := by
  induction F with
  | nil => intro xs i _ _; trivial
  | cons k m _ ih =>
    intro xs i hx hc
    obtain ⟨q, r, v, ys, rfl, h2, h3⟩ := hx
    obtain ⟨a, cap, rfl, h4⟩ := h2
    refine ⟨⟨_, _, a, cap, hc 0 _ rfl, hc 1 _ rfl, hc 2 _ rfl, hlt, hg, ⟨q, rfl⟩, ⟨r, rfl⟩, ?_⟩, ih ys (i + 3) h3 fun j u hj => ?_⟩
    · rcases h4 with h4 | ⟨b', h4, h5⟩
      · exact .inl h4
      · exact .inr ⟨b', h4, rowF_mono (fun b hb hl => ⟨hN b hb, hl, rfl⟩) _ _ _ h5⟩
    · have := hc (j + 3) u (by simpa using hj)
      rw [show i + 3 + j = i + (j + 3) by omega]; exact this
theorem lay_of_row {w : World} {B : Nat} {T : TypeId} {v : Value} {N : Nat → Prop} {F : Pl.Fo} {xs : List Value} (h : w.ownsRow B T 3 v F.len xs) (hc : cellsF w N F xs) (hN : ∀ b, N b → B ≤ b) : lay w (fun b => B ≤ b) F v := by
  rcases h.2 with ⟨rfl, h0⟩ | ⟨g, cap, cur, rfl, hb, hg, hc2, hm, hsz, ht⟩
  · cases F with
    | nil => exact lay_nil _ _
    | cons k m => simp [Pl.Fo.len] at h0
  · refine ⟨_, cap, rfl, .inr ⟨g, rfl, row_of_cells hN hb (Array.getElem?_eq_some_iff.1 hg).1 F xs 0 hc fun j u hj => ?_⟩⟩
    rw [cell_of_row w g _ cur _ (0, 0) hg, Nat.zero_add]
    rw [← ht, List.getElem?_take] at hj
    split at hj
    · simpa using hj
    · cases hj
end Mem
end Go.Proofs.YtnbmpbfligdcjaaDoor

