/- Several texts of one claim in one file: WItemsOf, WItemX, WTakeY. -/
import Derived.Test.YtfdbokipgofcdaaGreatDoorG13
import Derived.Test.YtfdbokipgofcdaaGreatDoorG42
import Derived.Laws.IdiomRangeMap
import Derived.Test.YtfdbokipgofcdaaGreatDoorG04
import Derived.Test.YtfdbokipgofcdaaGreatDoorG39
import Derived.Test.YtfdbokipgofcdaaGreatDoorG11
set_option linter.unusedSimpArgs false
namespace Go.Proofs.YtfdbokipgofcdaaGreatDoor
open Go.RowKit Go.Maps
namespace WItemsOf
set_option maxRecDepth 100000 in
theorem rise_nil (w : World) :
  Calls Tryz.prog 82 #[.map none] w fun e w' => ∃ v, e = .returned v ∧ Mem.ownN w' w.heap.size v [] ∧ Below w.heap.size w w' := by
 have hmk := zs4.makeC 0 (by omega) w
 rw [show ((0 : Nat) : Int) = 0 from rfl] at hmk
 have hr : ∀ W : World, (Instr.range 69 (.map none)).run Tryz.prog W = .ok (.pointer (some ⟨W.heap.size, 0, none⟩)) (W.alloc (.mapIter none 0 #[] 0)) := fun W => run_range_nilMap W _ _ _ Tryz.underlying69
 have hnx : ∀ (W : World) (ty : TypeId), (Instr.next (.pointer (some ⟨W.heap.size, 0, none⟩)) false ty).run Tryz.prog (W.alloc (.mapIter none 0 #[] 0)) = .ok (.tuple #[.bool false]) (W.alloc (.mapIter none 0 #[] 0)) := fun W ty => run_next_nilMap W ty 0 0 #[]
 have OW0 : Hid (Mem.ownN (w.alloc (.cells (zs4.zeros 0) 89)) w.heap.size (.slice (some ⟨w.heap.size, 0, none⟩) 0 0) []) :=
  ⟨rfl, .inr ⟨w.heap.size, _, _, rfl, Nat.le_refl _, heap_alloc_new _ _, Nat.zero_le _, by decide, size_madeCells _ _, rfl⟩⟩
 have hnx0 := hnx (w.alloc (.cells (zs4.zeros 0) 89))
 rw [show (w.alloc (.cells (zs4.zeros 0) 89)).heap.size = w.heap.size + 1 by simp] at hnx0
 have OW1 := hide (Mem.zd1 (za OW0) (.mapIter none 0 #[] 0))
 have hs := hide (zs4.sort_own (.slice (some ⟨w.heap.size, 0, none⟩) 0 0) w.heap.size [] ((w.alloc (.cells (zs4.zeros 0) 89)).alloc (.mapIter none 0 #[] 0)) (fun t ht => by cases ht) (by simp) (za OW1))
 have b1 : Below w.heap.size w ((w.alloc (.cells (zs4.zeros 0) 89)).alloc (.mapIter none 0 #[] 0)) := ((Below.refl _ _).alloc (Nat.le_refl _) _).alloc (by simp) _
 clear OW0
 go_enter Tryz.func82, Tryz.ntmps82
 go_wp2
 go_loopw [3] (fun v wr => v = .slice (some ⟨w.heap.size, 0, none⟩) 0 0 ∧ wr = (w.alloc (.cells (zs4.zeros 0) 89)).alloc (.mapIter none 0 #[] 0)) (fun _ _ => 0)
 case atStart => exact ⟨rfl, rfl⟩
 case round =>
  obtain ⟨rfl, rfl⟩ := hrel
  go_wp2_with fail
  refine (za hs).mono ?_
  rintro e w2 ⟨rfl, S, h1, h2, h3, h4⟩
  have eS : S = [] := List.Perm.eq_nil h1
  subst eS
  have O2 := hide h3
  have bw := b1.grown h4 b1.size (fun q hq => by cases hq; exact Nat.le_refl _)
  clear hs h1 h2 h3 h4 b1 OW1 hr hnx hnx0 hmk
  go_wp2
  go_ret
  exact ⟨_, rfl, za O2, bw⟩
def selfM (w : World) (qo : Option Nat) (L : List Pl.Nd) : Prop := (∃ q, qo = some q ∧ Mem.ownM w q L) ∨ (qo = none ∧ L = [])
theorem selfM.call {w w' : World} {qo : Option Nat} {L : List Pl.Nd} (h : selfM w qo L) (b : Below w.heap.size w w') : selfM w' qo L := by
 rcases h with ⟨q, h1, h2⟩ | h
 ·exact .inl ⟨q, h1, h2.call b⟩
 ·exact .inr h
theorem rise_self (qo : Option Nat) (L : List Pl.Nd) (w : World) (ht : Pl.za2 L = true) (h : selfM w qo L) :
  Calls Tryz.prog 82 #[.map qo] w fun e w' => ∃ v, e = .returned v ∧ Mem.ownN w' w.heap.size v L ∧ Below w.heap.size w w' := by
 rcases h with ⟨q, rfl, hm⟩ | ⟨rfl, rfl⟩
 ·exact zt9.rise_tree q L w ht hm
 ·exact rise_nil w
theorem zu5 : (Tryz.prog.info? 38).map (fun i => (i.zero, i.size, i.bytes)) = some (some (.agg #[.int .i64 0, .slice none 0 0]), 2, 32) := by kernel_rfl
set_option maxRecDepth 100000 in
set_option maxHeartbeats 2000000 in
theorem items_of (n : Nat) (hn : n ≤ 1000) : ∀ (N : Nat → Prop) (K : Pl.Fx) (L : List Pl.Nd) (qo : Option Nat) (m : Int) (v : Value) (w : World), K.sz < n → Pl.za2 L = true → K.okX → selfM w qo L → Mem.layX w N K v →
  Calls Tryz.prog 58 #[.agg #[.map qo, .int .i64 m, v]] w fun e w' => ∃ v' Is, e = .returned v' ∧ Mem.Io w' w.heap.size v' Is ∧ Is.map Pl.It.r = (m, L) :: K.flat ∧ Below w.heap.size w w' := by
 obtain ⟨i0, hi, hz0, hz1, hz2⟩ := info_parts zu5
 induction n with
 | zero => intro N K L qo m v w h; omega
 | succ n ih =>
  intro N K L qo m v w hs ht hx hm hl
  have hKl : K.len ≤ 1000 := by have := K.len_le; omega
  obtain ⟨a, cap, rfl, hrow⟩ := hl
  have b0 : Below w.heap.size w (w.alloc (.cells #[.map qo, .int .i64 m, .slice a K.len cap] 74)) := (Below.refl _ _).alloc (Nat.le_refl _) _
  have A0 := Mem.Blk.new w #[.map qo, .int .i64 m, .slice a K.len cap] 74
  have hri := hide (fun W (b : Below (w.alloc (.cells #[.map qo, .int .i64 m, .slice a K.len cap] 74)).heap.size (w.alloc (.cells #[.map qo, .int .i64 m, .slice a K.len cap] 74)) W) => rise_self qo L W ht ((hm.call b0).call b))
  have HRW : Hid (K = .nil ∨ ∃ b', a = some ⟨b', 0, none⟩ ∧ Mem.rowX (w.alloc (.cells #[.map qo, .int .i64 m, .slice a K.len cap] 74)) (fun b => b < w.heap.size) K b' 0) := by
   rcases hrow with h | ⟨g, h1, -, h2⟩
   ·exact .inl h
   ·exact .inr ⟨g, h1, Mem.zl9 (Mem.zt2 (N' := fun b => b < w.heap.size) (fun b _ hb => ⟨hb, hb, rfl⟩) K g 0 h2) b0⟩
  have HI := hide (ih (by omega))
  have HKX := hide hx
  have c0 := A0.cell 0
  have c1 := A0.cell 1
  simp only [kGs] at c0 c1
  have HX1 : Hid (w.heap.size < (w.alloc (.cells #[.map qo, .int .i64 m, .slice a K.len cap] 74)).heap.size) := A0.lt
  clear ih hrow hx hm ht
  go_enter Tryz.func58, Tryz.ntmps58
  go_wp2_with fail
  generalize w.alloc (.cells #[.map qo, .int .i64 m, .slice a K.len cap] 74) = w1 at b0 A0 hri HRW c0 c1 HX1 ⊢
  have MK : Hid (∀ W', Below w1.heap.size w1 W' → (fun W' => Below w1.heap.size w1 W' ∧ W'.cell? ⟨w.heap.size, 0, none⟩ = some (.map qo) ∧ W'.cell? ⟨w.heap.size, 1, none⟩ = some (.int .i64 m)) W') := fun W' hb => ⟨hb, (hb.cell (p := ⟨w.heap.size, 0, none⟩) (za HX1)).trans c0, (hb.cell (p := ⟨w.heap.size, 1, none⟩) (za HX1)).trans c1⟩
  clear c0 c1
  refine wp_region_held_drew (S := fun W' => Below w1.heap.size w1 W' ∧ W'.cell? ⟨w.heap.size, 0, none⟩ = some (.map qo) ∧ W'.cell? ⟨w.heap.size, 1, none⟩ = some (.int .i64 m)) (by kernel_rfl) ?_ (fun hHeld => ?_)
  ·exact za MK _ ((Below.refl _ _).trans ⟨rfl, rfl, rfl, Nat.le_refl _, fun _ _ => rfl⟩)
  refine tka (i := 0) rfl ?_
  try simp only [Act.put, kBs]
  refine tka (i := 1) rfl ?_
  try simp only [Act.put, kBs]
  refine tka (i := 2) rfl ?_
  try simp only [Act.put, kBs]
  refine tka (i := 3) rfl ?_
  try simp only [Act.put, kBs]
  refine tka (i := 4) rfl ?_
  try simp only [Act.put, kBs]
  refine tka (i := 5) rfl ?_
  try simp only [Act.put, kBs]
  refine wpAnyH_ready (rs := [6]) (by kernel_rfl) (by simp) ?_
  refine AllReadyH.cons rfl (fun K hK => ?_) AllReadyH.nil
  go_simp
  refine (za hri _ hHeld.1).mono ?_
  rintro e wX ⟨vr, rfl, ownr, bX⟩
  obtain ⟨ra, rc, hvr⟩ := Mem.za1 ownr
  subst hvr
  have hlr : w.heap.size + 1 ≤ _ := Nat.le_trans (za HX1) hHeld.1.size
  refine hK.out _ _ ?_ (fun hHeld => ?_)
  ·exact za MK _ (hHeld.1.trans (bX.mono hHeld.1.size))
  clear hK K
  try simp only [Act.put, kBs]
  refine tka (i := 7) rfl ?_
  try simp only [Act.put, kBs]
  refine tka (i := 8) rfl ?_
  try simp only [Act.put, kBs]
  refine wpAnyH_ready (rs := [9]) (by kernel_rfl) (by simp) ?_
  refine AllReadyH.cons rfl (fun K hK => ?_) AllReadyH.nil
  go_simp
  refine hK.out _ _ ?_ (fun hHeld => ?_)
  ·exact za MK _ (hHeld.1.alloc hHeld.1.size _)
  clear hK K
  try simp only [Act.put, kBs]
  refine tka (i := 10) rfl ?_
  try simp only [Act.put, kBs]
  refine wpAnyH_done (by kernel_rfl) ?_ _
  have hb3 := hHeld.1
  have bw3 := b0.trans (hb3.mono b0.size)
  have bA : Below wX.heap.size wX (wX.alloc (.cells #[.int .i64 m, .slice ra L.length rc] 38)) := (Below.refl _ _).alloc (Nat.le_refl _) _
  have IO0 : Hid (Mem.Io (wX.alloc (.cells #[.int .i64 m, .slice ra L.length rc] 38)) (w.heap.size + 1) (.slice (some ⟨wX.heap.size, 0, none⟩) 1 1) [⟨m, ⟨ra, rc, L⟩⟩]) := hide (Mem.Io.one (t := ⟨ra, rc, L⟩) (by have h2 := bX.size; omega) (heap_alloc_new _ _) (Mem.zb4 (Mem.zl1 ownr bA) hlr) (fun q hq e => by have := (Mem.zc3 ownr q hq).2; omega))
  have A3 := A0.call hb3
  have RW3 : Hid (K = .nil ∨ ∃ b', a = some ⟨b', 0, none⟩ ∧ Mem.rowX (wX.alloc (.cells #[.int .i64 m, .slice ra L.length rc] 38)) (fun b => b < w.heap.size) K b' 0) := by
   rcases za HRW with h | ⟨g, h1, h2⟩
   ·exact .inl h
   ·exact .inr ⟨g, h1, Mem.zl9 h2 hb3⟩
  have c2 := A3.cell 2
  simp only [kGs] at c2
  have HSZ : Hid (w.heap.size + 1 ≤ (wX.alloc (.cells #[.int .i64 m, .slice ra L.length rc] 38)).heap.size) := hide (by have h1 := A3.lt; omega)
  clear hHeld MK hri HRW A0 A3 b0 ownr bX bA hb3 hlr
  generalize wX.alloc (.cells #[.int .i64 m, .slice ra L.length rc] 38) = w3 at bw3 IO0 RW3 c2 HSZ ⊢
  have IT0 : Hid ((([⟨m, ⟨ra, rc, L⟩⟩] : List Pl.It)).map Pl.It.r ++ K.flat = (m, L) :: K.flat) := rfl
  go_wp2
  go_loopw [3, 19] (fun v i wr => ∃ (j : Nat) (Is : List Pl.It) (F : Pl.Fx), i = .int .i64 (j : Int) ∧ j + F.len = K.len ∧ F.sz ≤ n ∧ Hid (Is.length + F.sz = K.sz + 1) ∧ Below w.heap.size w wr ∧ Hid (w.heap.size + 1 ≤ wr.heap.size) ∧ Hid (Mem.Io wr (w.heap.size + 1) v Is) ∧ Hid (F = .nil ∨ ∃ b', a = some ⟨b', 0, none⟩ ∧ Mem.rowX wr (fun b => b < w.heap.size) F b' (j * 3)) ∧ Hid F.okX ∧ Hid (Is.map Pl.It.r ++ F.flat = (m, L) :: K.flat)) (fun _ i _ => K.len - (intOf i).toNat)
  case atStart => exact ⟨0, _, K, rfl, by omega, by omega, hide (by simp; omega), bw3, HSZ, IO0, hide (by simpa using za RW3), HKX, IT0⟩
  case round =>
   obtain ⟨j, Is, F, rfl, hj, hsz, HIL, hbel, HSW, IO, HR, FX, IM⟩ := hrel
   clear IO0 RW3 HSZ IT0 c2 bw3
   cases F with
   | nil =>
    simp only [Pl.Fx.len] at hj
    have u1 : ¬ (j : Int) < (K.len : Int) := by omega
    have E : Hid (Is.map Pl.It.r = (m, L) :: K.flat) := hide (by have := za IM; rw [Pl.Fx.flat, List.append_nil] at this; exact this)
    have IOM := hide ((za IO).mono (show w.heap.size ≤ w.heap.size + 1 by omega))
    clear IO HR FX IM HIL
    go_wp2
    go_ret
    first | exact ⟨_, Is, rfl, za IOM, za E, hbel⟩ | exact ⟨_, rfl, Is, za IOM, za E, hbel⟩
   | cons L1 k1 m1 =>
    simp only [Pl.Fx.len, Pl.Fx.sz] at hj hsz
    obtain ⟨g1, g2, g3, g5, g6⟩ := za FX
    rcases za HR with h | ⟨g, rfl, hrw⟩
    ·cases h
    obtain ⟨⟨q1, a1, cap1, c0, c1, c2, hg, hNg, hNq, hm1, hsub⟩, hrest⟩ := hrw
    have u1 : (j : Int) < (K.len : Int) := by omega
    have u3 : (0 : Int) ≤ (j : Int) := by omega
    have HJ := hide hj
    have bA : Below wr.heap.size wr (wr.alloc (.cells #[.map (some q1), .int .i64 (k1.len : Int), .slice a1 k1.len cap1] 74)) := (Below.refl _ _).alloc (Nat.le_refl _) _
    have HL : Mem.layX wr (fun b => b < w.heap.size) k1 (.slice a1 k1.len cap1) := ⟨a1, cap1, rfl, hsub⟩
    have bw := hbel.trans (bA.mono hbel.size)
    have hcall := hide (za HI (fun b => b < w.heap.size) k1 L1 (some q1) (k1.len : Int) _ _ (by omega) g1 g5 (.inl ⟨q1, rfl, hm1.call bA⟩) (Mem.zt5 HL bA))
    have HRR := hide (Mem.zl9 hrest bA)
    have IA := hide ((za IO).call bA)
    have G6 := hide g6
    have HIL2 := HIL
    have hlo := (za IO).lt
    have hsA : (wr.alloc (.cells #[.map (some q1), .int .i64 (k1.len : Int), .slice a1 k1.len cap1] 74)).heap.size = wr.heap.size + 1 := by simp
    have HLO := hide hlo
    have HSA := hide hsA
    clear hsub hrest HL HR IO FX g1 g2 g5 g6 hm1 hlo hsA
    go_wp2_with fail
    refine (za hcall).mono ?_
    rintro e wX2 ⟨v1, Is1, rfl, io1, hr1, bX⟩
    have bw2 := bw.trans (bX.mono bw.size)
    have hIl : Is1.length = k1.sz + 1 := by have := congrArg List.length hr1; rw [List.length_map, List.length_cons, Pl.Fx.zk6] at this; exact this
    obtain ⟨gv, cv, hv1, hcv⟩ := io1.there (by omega)
    subst hv1
    have O2 := (za IA).call bX
    have HP := hide (fun v' w4 own gr far => O2.app io1 (v' := v') (W' := w4) (by have := za HSW; have := za HSA; omega) (fun g hg => by have := ((za HLO).1 g hg).2; have := za HSA; omega) (fun i x hx g hg => by have := ((za HLO).2 i x hx g hg).2; have := za HSA; omega) own gr far)
    have HQ := hide (fun w4 (h2 : wX2.grownBy w4 _) => (⟨bw2.grown h2 bw2.size (fun k hk => by have := (O2.lt.1 k hk).1; omega), Mem.zt2 (fun b hb hlt => ⟨hb, Nat.lt_of_lt_of_le hlt h2.size, h2.block b hlt (fun e => by have := (O2.lt.1 b e.symm).1; omega)⟩) _ _ _ (Mem.zl9 (za HRR) bX)⟩ : Below w.heap.size w w4 ∧ Mem.rowX w4 (fun b => b < w.heap.size) m1 g (j * 3 + 3)))
    have HRO := hide O2.row
    have HSB : Hid (w.heap.size + 1 ≤ wX2.heap.size) := hide (by have h1 := za HSW; have h2 := bX.size; have h3 := za HSA; omega)
    have HCV := hide hcv
    have IM2 : Hid ((Is ++ Is1).map Pl.It.r ++ m1.flat = (m, L) :: K.flat) := hide (by have h := za IM; rw [Pl.Fx.flat] at h; rw [List.map_append, hr1, ← h]; simp)
    have HIL3 : Hid ((Is ++ Is1).length + m1.sz = K.sz + 1) := hide (by have h := za HIL2; simp only [Pl.Fx.sz] at h; rw [List.length_append]; omega)
    have hIs : Is.length ≤ 1001 := by have h := za HIL2; omega
    have hIs1 : Is1.length ≤ 1001 := by omega
    clear O2 IA io1 hr1 bX bw bw2 hcall HRR IM hcv HIL HIL2 HLO HSA bA hIl HSW hbel
    go_wp2_with (at_builtin; refine Mem.zb0 _ rfl _ _ 23 rfl (w.heap.size + 1) 38 i0 (.agg #[.int .i64 0, .slice none 0 0]) 2 32 Tryz.underlying23 hi hz0 hz1 hz2 rfl (by decide) _ _ _ rfl (za HRO) ⟨gv, 0, none⟩ Is1.length cv (Pl.zb9 Is1) rfl (Pl.zp3 Is1) (za HCV) (Pl.zv5 Is1) (by unfold maxLen; omega) (by omega) (za HSB) ?_)
    intro v' w4 own' hgrow hfar
    have I2 := hide (za HP v' w4 own' hgrow hfar)
    obtain ⟨bw4, HR2⟩ := za HQ w4 hgrow
    have HR3 : Hid (m1 = .nil ∨ ∃ b', some ⟨g, 0, none⟩ = some (⟨b', 0, none⟩ : Addr) ∧ Mem.rowX w4 (fun b => b < w.heap.size) m1 b' ((j + 1) * 3)) := hide (.inr ⟨g, rfl, by rw [show (j + 1) * 3 = j * 3 + 3 by omega]; exact HR2⟩)
    have HS4 : Hid (w.heap.size + 1 ≤ w4.heap.size) := hide (by have h1 := hgrow.size; have h2 := za HSB; omega)
    clear HP HQ HRO own' hgrow hfar HR2 HCV HSB
    go_wp2
    go_roundw
    case rel => exact ⟨j + 1, Is ++ Is1, m1, by go_num, by have h := za HJ; omega, by omega, HIL3, bw4, HS4, I2, HR3, G6, IM2⟩
    case measure => (have h := za HJ; simp [intOf]; omega)
end WItemsOf
end Go.Proofs.YtfdbokipgofcdaaGreatDoor

namespace Go.Proofs.YtfdbokipgofcdaaGreatDoor
open Go.RowKit
namespace zr9
set_option linter.unusedSimpArgs false in
set_option maxRecDepth 100000 in
set_option maxHeartbeats 1000000 in
theorem zw1 (m : Int) (a : Option Addr) (cap : Nat) (L : List Pl.Nd) (w : World) (hl : L.length ≤ 1048576) (hv : Mem.zc2 w a L) (hok : ∀ n ∈ L, n.path.size ≤ 1048576 ∧ n.data.size ≤ 1048576)
  (r1 r2 r3 : TypeId) (x1 x2 x3 : Value) (hE : ze7.Errs w r1 r2 r3 x1 x2 x3) :
  Calls Tryz.prog 94 #[.agg #[.int .i64 m, .slice a L.length cap]] w fun e w' => ((Pl.zf9 m L = true ∧ ∃ B, e = .returned (.tuple #[.agg #[.map (some B), .int .i64 m], .nilIface]) ∧ w.heap.size ≤ B ∧ Mem.ownM w' B L) ∨
   (Pl.zf9 m L = false ∧ ∃ k, e = .returned (.tuple #[.agg #[.map none, .int .i64 k], .iface r1 x1]))) ∧ Below w.heap.size w w' := by
 have b0 : Below w.heap.size w ((w.alloc (.cells #[.int .i64 m, .slice a L.length cap] 38)).alloc (.cells #[.map none, .int .i64 0] 71)) := ((Below.refl _ _).alloc (Nat.le_refl _) _).alloc (by simp) _
 have k1 := (hE.call b0).c1
 have HB0 := hide b0
 by_cases h1 : m < 0
 ·have hb : Pl.zf9 m L = false := by unfold Pl.zf9; rw [show decide (0 ≤ m) = false from decide_eq_false (by omega)]; simp
  clear b0 hv hok hE
  go_enter Tryz.func94, Tryz.ntmps94
  go_wp2
  go_region
  go_wp2
  refine bodyPost_ret (v := .tuple #[.agg #[.map none, .int .i64 0], .iface r1 x1]) (by simp [results, Tryz.results94, go_sem]) rfl ⟨.inr ⟨hb, 0, rfl⟩, ?_⟩
  exact Mem.below_drewN (za HB0) 1
 by_cases h2 : 4 < m
 ·have hb : Pl.zf9 m L = false := by unfold Pl.zf9; rw [show decide (m ≤ 4) = false from decide_eq_false (by omega)]; simp
  clear b0 hv hok hE
  go_enter Tryz.func94, Tryz.ntmps94
  go_wp2
  go_region
  go_wp2
  refine bodyPost_ret (v := .tuple #[.agg #[.map none, .int .i64 0], .iface r1 x1]) (by simp [results, Tryz.results94, go_sem]) rfl ⟨.inr ⟨hb, 0, rfl⟩, ?_⟩
  exact Mem.below_drewN (za HB0) 1
 by_cases h3 : 0 < m ∧ 0 < L.length
 ·have hb : Pl.zf9 m L = false := by
   rw [Pl.zy5 (by omega), show decide (L.length = 0) = false from decide_eq_false (by omega)]; simp
  have u1 := h3.1
  have u2 : (0 : Int) < (L.length : Int) := by omega
  clear b0 hv hok hE
  go_enter Tryz.func94, Tryz.ntmps94
  go_wp2
  go_region
  go_wp2
  refine bodyPost_ret (v := .tuple #[.agg #[.map none, .int .i64 0], .iface r1 x1]) (by simp [results, Tryz.results94, go_sem]) rfl ⟨.inr ⟨hb, 0, rfl⟩, ?_⟩
  exact Mem.below_drewN (za HB0) 1
 have hb : Pl.zf9 m L = Pl.za2 L := by
  by_cases h0 : m = 0
  ·subst h0; exact Pl.ym3 L
  ·have hL : L = [] := List.eq_nil_of_length_eq_zero (by omega)
   subst hL
   rw [Pl.zy5 h0, Pl.yi9, decide_eq_true (show 1 ≤ m by omega), decide_eq_true (show m ≤ 4 by omega)]; rfl
 rw [hb]
 have hz := hide (ze7.yq7 a cap L _ hl (Mem.za8 hv b0) hok r1 r2 r3 x1 x2 x3 (hE.call b0))
 have r2' : Mem.Blk ((w.alloc (.cells #[.int .i64 m, .slice a L.length cap] 38)).alloc (.cells #[.map none, .int .i64 0] 71)) (w.heap.size + 1) #[.map none, .int .i64 0] 71 := by
  have := Mem.Blk.new (w.alloc (.cells #[.int .i64 m, .slice a L.length cap] 38)) #[.map none, .int .i64 0] 71
  simpa using this
 have r1' : Mem.Blk ((w.alloc (.cells #[.int .i64 m, .slice a L.length cap] 38)).alloc (.cells #[.map none, .int .i64 0] 71)) w.heap.size #[.int .i64 m, .slice a L.length cap] 38 := (Mem.Blk.new w _ _).alloc _
 clear hv hok hE k1 b0 hb
 by_cases h4 : 0 < m
 ·have u2 : ¬ (0 : Int) < (L.length : Int) := by omega
  go_enter Tryz.func94, Tryz.ntmps94
  go_wp2_with fail
  generalize ((w.alloc (.cells #[.int .i64 m, .slice a L.length cap] 38)).alloc (.cells #[.map none, .int .i64 0] 71)) = w2 at hz r1' r2' HB0 ⊢
  refine (za hz).mono ?_
  rintro e w1 ⟨h1, b1⟩
  have R1 := r1'.call b1
  have R2 := r2'.call b1
  have c10 := R1.cell 0
  have c11 := R1.cell 1
  have c20 := R2.cell 0
  have c21 := R2.cell 1
  have f20 := R2.fr 0
  have f21 := R2.fr 1
  simp only [kGs] at c10 c11 c20 c21
  have bb := hide ((za HB0).trans (b1.mono (za HB0).size))
  have HS2 : Hid (w.heap.size + 2 ≤ w2.heap.size) := hide (by have := r2'.lt; omega)
  clear hz b1 r1' r2' R1 R2 HB0
  rcases h1 with ⟨hT, B, rfl, hB, hm⟩ | ⟨hT, rfl⟩
  ·have HM : Hid (w.heap.size ≤ B ∧ Mem.ownM ((w1.setCell ⟨w.heap.size + 1, 0, none⟩ (.map (some B))).setCell ⟨w.heap.size + 1, 1, none⟩ (.int .i64 m)) B L) :=
    hide ⟨by have := (za HS2); omega, (Mem.ownM.set (Mem.ownM.set hm _ _ (by have := (za HS2); show B ≠ w.heap.size + 1; omega)) _ _ (by have := (za HS2); show B ≠ w.heap.size + 1; omega))⟩
   clear hm hB
   go_wp2
   refine bodyPost_ret (v := .tuple #[.agg #[.map (some B), .int .i64 m], .nilIface]) (by simp [results, Tryz.results94, go_sem, c20, c21]) rfl ⟨.inl ⟨hT, B, rfl, za HM⟩, ?_⟩
   exact ((za bb).setCell (by show w.heap.size ≤ w.heap.size + 1; omega) _).setCell (by show w.heap.size ≤ w.heap.size + 1; omega) _
  ·go_wp2
   refine bodyPost_ret (v := .tuple #[.agg #[.map none, .int .i64 m], .iface r1 x1]) (by simp [results, Tryz.results94, go_sem, c20, c21]) rfl ⟨.inr ⟨hT, m, rfl⟩, ?_⟩
   exact ((za bb).setCell (by show w.heap.size ≤ w.heap.size + 1; omega) _).setCell (by show w.heap.size ≤ w.heap.size + 1; omega) _
 ·go_enter Tryz.func94, Tryz.ntmps94
  go_wp2_with fail
  generalize ((w.alloc (.cells #[.int .i64 m, .slice a L.length cap] 38)).alloc (.cells #[.map none, .int .i64 0] 71)) = w2 at hz r1' r2' HB0 ⊢
  refine (za hz).mono ?_
  rintro e w1 ⟨h1, b1⟩
  have R1 := r1'.call b1
  have R2 := r2'.call b1
  have c10 := R1.cell 0
  have c11 := R1.cell 1
  have c20 := R2.cell 0
  have c21 := R2.cell 1
  have f20 := R2.fr 0
  have f21 := R2.fr 1
  simp only [kGs] at c10 c11 c20 c21
  have bb := hide ((za HB0).trans (b1.mono (za HB0).size))
  have HS2 : Hid (w.heap.size + 2 ≤ w2.heap.size) := hide (by have := r2'.lt; omega)
  clear hz b1 r1' r2' R1 R2 HB0
  rcases h1 with ⟨hT, B, rfl, hB, hm⟩ | ⟨hT, rfl⟩
  ·have HM : Hid (w.heap.size ≤ B ∧ Mem.ownM ((w1.setCell ⟨w.heap.size + 1, 0, none⟩ (.map (some B))).setCell ⟨w.heap.size + 1, 1, none⟩ (.int .i64 m)) B L) :=
    hide ⟨by have := (za HS2); omega, (Mem.ownM.set (Mem.ownM.set hm _ _ (by have := (za HS2); show B ≠ w.heap.size + 1; omega)) _ _ (by have := (za HS2); show B ≠ w.heap.size + 1; omega))⟩
   clear hm hB
   go_wp2
   refine bodyPost_ret (v := .tuple #[.agg #[.map (some B), .int .i64 m], .nilIface]) (by simp [results, Tryz.results94, go_sem, c20, c21]) rfl ⟨.inl ⟨hT, B, rfl, za HM⟩, ?_⟩
   exact ((za bb).setCell (by show w.heap.size ≤ w.heap.size + 1; omega) _).setCell (by show w.heap.size ≤ w.heap.size + 1; omega) _
  ·go_wp2
   refine bodyPost_ret (v := .tuple #[.agg #[.map none, .int .i64 m], .iface r1 x1]) (by simp [results, Tryz.results94, go_sem, c20, c21]) rfl ⟨.inr ⟨hT, m, rfl⟩, ?_⟩
   exact ((za bb).setCell (by show w.heap.size ≤ w.heap.size + 1; omega) _).setCell (by show w.heap.size ≤ w.heap.size + 1; omega) _
end zr9
end Go.Proofs.YtfdbokipgofcdaaGreatDoor

namespace Go.Proofs.YtfdbokipgofcdaaGreatDoor
open Go.RowKit
namespace zr9
theorem yq6 {Is : List Pl.It} {x : Pl.It} (hx : Is[0]? = some x) : Pl.rowO (Is.map Pl.It.r) = Pl.zi (x.m, x.t.L) :: Pl.rowO ((Is.drop 1).map Pl.It.r) := by
 have h := Pl.yk8 (xs := Is.map Pl.It.r) (i := 0) (x := x.r) (by rw [List.getElem?_map, hx]; rfl)
 rw [List.drop_zero, Pl.rowO_drop, ← List.map_drop] at h
 exact h
theorem items_here {Is : List Pl.It} {x : Pl.It} (hx : Is[0]? = some x) : Is.map Pl.It.r = (x.m, x.t.L) :: (Is.drop 1).map Pl.It.r := by
 cases Is with
 | nil => cases hx
 | cons y Is =>
  have e : y = x := by simpa using hx
  subst e
  rfl
theorem item_tree {m : Int} {L : List Pl.Nd} (h : Pl.zf9 m L = true) : Pl.za2 L = true ∧ (m = 0 ∨ L = []) := by
 unfold Pl.zf9 at h
 simp only [Bool.and_eq_true, Bool.or_eq_true, decide_eq_true_eq, List.isEmpty_iff] at h
 exact ⟨h.2, h.1.2⟩
def Took (w : World) (r1 : TypeId) (x1 : Value) (a : Option Addr) (Is : List Pl.It) (TT : Option (Pl.Fo × Pl.Row)) (e : Ending) (w' : World) : Prop :=
 (∃ L kids q v k a' cap', TT = some (.cons kids.shape .nil, Pl.rowO ((Is.drop k).map Pl.It.r)) ∧ e = .returned (.tuple #[.agg #[.map (some q), .int .i64 (kids.len : Int), v], .slice a' (Is.drop k).length cap', .nilIface]) ∧
  0 < k ∧ k ≤ Is.length ∧ (Is.drop k).length ≤ cap' ∧ Mem.shifted a a' k Is ∧ ((w.heap.size ≤ q ∧ Mem.apart w' q kids v) ∧ Mem.ownM w' q L) ∧ ((Pl.Fx.cons L kids .nil).okX ∧ (Pl.Fx.cons L kids .nil).flat ++ (Is.drop k).map Pl.It.r = Is.map Pl.It.r) ∧ Mem.layX w' (fun b => w.heap.size ≤ b) kids v) ∨
 (TT = none ∧ e = .returned (.tuple #[.agg #[.map none, .int .i64 0, .slice none 0 0], .slice none 0 0, .iface r1 x1]))
set_option linter.unusedSimpArgs false in
set_option maxRecDepth 100000 in
set_option maxHeartbeats 2000000 in
theorem yh6 (r1 r2 r3 : TypeId) (x1 x2 x3 : Value) (n : Nat) :
  ∀ (Is : List Pl.It) (a : Option Addr) (cap : Nat) (w : World), Is.length ≤ n → Is.length ≤ 12 → Is.length ≤ cap → Mem.za6 w a Is → (∀ x ∈ Is, x.t.L.length ≤ 1048576 ∧ ∀ n ∈ x.t.L, n.path.size ≤ 1048576 ∧ n.data.size ≤ 1048576) → ze7.Errs w r1 r2 r3 x1 x2 x3 →
  Calls Tryz.prog 77 #[.slice a Is.length cap] w fun e w' => Took w r1 x1 a Is (Pl.take 1 (Pl.rowO (Is.map Pl.It.r))) e w' ∧ Below w.heap.size w w' := by
 obtain ⟨i0, hi, hz0, hz1, hz2⟩ := info_parts zl3
 induction n with
 | zero =>
  intro Is a cap w hn h12 hcap hv hok hE
  have e : Is = [] := List.eq_nil_of_length_eq_zero (by omega)
  subst e
  have b0 : Below w.heap.size w (w.alloc (.cells #[.map none, .int .i64 0, .slice none 0 0] 74)) := (Below.refl _ _).alloc (Nat.le_refl _) _
  have k1 := (hE.call b0).c1
  have HB0 := hide b0
  clear hv hok hE b0
  go_enter Tryz.func77, Tryz.ntmps77
  go_wp2
  go_region
  go_wp2
  refine bodyPost_ret (v := .tuple #[.agg #[.map none, .int .i64 0, .slice none 0 0], .slice none 0 0, .iface r1 x1]) (by simp [results, Tryz.results77, go_sem]) rfl ⟨Or.inr ⟨rfl, rfl⟩, ?_⟩
  exact Mem.below_drewN (za HB0) 1
 | succ n ih =>
  intro Is a cap w hn h12 hcap hv hok hE
  have b0 : Below w.heap.size w (w.alloc (.cells #[.map none, .int .i64 0, .slice none 0 0] 74)) := (Below.refl _ _).alloc (Nat.le_refl _) _
  have A0 := Mem.Blk.new w #[.map none, .int .i64 0, .slice none 0 0] 74
  have hs0 : (w.alloc (.cells #[.map none, .int .i64 0, .slice none 0 0] 74)).heap.size = w.heap.size + 1 := by simp
  by_cases hnil : Is.length = 0
  ·have e : Is = [] := List.eq_nil_of_length_eq_zero hnil
   subst e
   have k1 := (hE.call b0).c1
   have HB0 := hide b0
   clear hv hok hE b0 A0 ih
   go_enter Tryz.func77, Tryz.ntmps77
   go_wp2
   go_region
   go_wp2
   refine bodyPost_ret (v := .tuple #[.agg #[.map none, .int .i64 0, .slice none 0 0], .slice none 0 0, .iface r1 x1]) (by simp [results, Tryz.results77, go_sem]) rfl ⟨Or.inr ⟨rfl, rfl⟩, ?_⟩
   exact Mem.below_drewN (za HB0) 1
  have t0 : ¬ (Is.length : Int) = 0 := by omega
  have t1 : (0 : Int) < (Is.length : Int) := by omega
  have t2 : (1 : Int) ≤ (Is.length : Int) := by omega
  obtain ⟨x, hx⟩ : ∃ x, Is[0]? = some x := ⟨_, List.getElem?_eq_getElem (by omega)⟩
  obtain ⟨⟨b, o, rfl, hb, q0, q0'⟩, q1⟩ := hv 0 x hx
  have c0 := (b0.cell (p := ⟨b, _, none⟩) hb).trans q0
  have c1 := (b0.cell (p := ⟨b, _, none⟩) hb).trans q0'
  simp only [Pl.Tr.val, Nat.zero_mul, Nat.add_zero] at c0 c1
  have hz := hide (zw1 x.m x.t.a x.t.cap x.t.L _ (hok x (List.mem_of_getElem? hx)).1 (Mem.za8 q1 b0) (hok x (List.mem_of_getElem? hx)).2 r1 r2 r3 x1 x2 x3 (hE.call b0))
  have hrow := yq6 hx
  have HIS : Hid (Is.map Pl.It.r = (x.m, x.t.L) :: (Is.drop 1).map Pl.It.r) := hide (items_here hx)
  have HI : Hid (∀ (k r : Nat) (a' : Option Addr) (cap' : Nat) (W : World), 0 < k → k + r = Is.length → r ≤ cap' → Mem.shifted (some ⟨b, o, none⟩) a' k Is → Below w.heap.size w W →
    Calls Tryz.prog 77 #[.slice a' r cap'] W fun e w' => ((∃ L kids q v k1 r1 a1 cap1, Pl.take 1 (Pl.rowO ((Is.drop k).map Pl.It.r)) = some (.cons kids.shape .nil, Pl.rowO ((Is.drop (k + k1)).map Pl.It.r)) ∧ e = .returned (.tuple #[.agg #[.map (some q), .int .i64 (kids.len : Int), v], .slice a1 r1 cap1, .nilIface]) ∧
     k + k1 + r1 = Is.length ∧ r1 ≤ cap1 ∧ Mem.shifted (some ⟨b, o, none⟩) a1 (k + k1) Is ∧ ((W.heap.size ≤ q ∧ Mem.apart w' q kids v) ∧ Mem.ownM w' q L) ∧ ((Pl.Fx.cons L kids .nil).okX ∧ (Pl.Fx.cons L kids .nil).flat ++ (Is.drop (k + k1)).map Pl.It.r = (Is.drop k).map Pl.It.r) ∧ Mem.layX w' (fun b => W.heap.size ≤ b) kids v) ∨
    (Pl.take 1 (Pl.rowO ((Is.drop k).map Pl.It.r)) = none ∧ e = .returned (.tuple #[.agg #[.map none, .int .i64 0, .slice none 0 0], .slice none 0 0, .iface r1 x1]))) ∧ Below W.heap.size W w') := hide (fun k r a' cap' W hk hr hc hs bb => by
   have hrl : (Is.drop k).length = r := by rw [List.length_drop]; omega
   have h := ih (Is.drop k) a' cap' W (by omega) (by omega) (by omega) (Mem.zc1 (Mem.ys5 hv hs) bb) (fun y hy => hok y (List.mem_of_mem_drop hy)) (hE.call bb)
   rw [hrl] at h
   refine h.mono fun e w' ⟨h1, h2⟩ => ⟨?_, h2⟩
   rcases h1 with ⟨L, kids, q, v, k1, a1, cap1, g1, g2, g3, g4, g5, g6, g8, g9, g7⟩ | h1
   ·rw [List.drop_drop] at g1 g2 g5 g9
    exact .inl ⟨L, kids, q, v, k1, (Is.drop (k + k1)).length, a1, cap1, g1, g2, by rw [List.length_drop]; omega, g5, Mem.yo7 hs g6, g8, g9, g7⟩
   ·exact .inr h1)
  rw [hrow]
  generalize hTT : Pl.take 1 (Pl.zi (x.m, x.t.L) :: Pl.rowO ((Is.drop 1).map Pl.It.r)) = TT
  have HTT := hide hTT
  clear hTT
  clear ih hv hok hE q0 q0' q1 hx hrow
  go_enter Tryz.func77, Tryz.ntmps77
  go_wp2_with fail
  generalize w.alloc (.cells #[.map none, .int .i64 0, .slice none 0 0] 74) = w2 at hz A0 b0 hs0 c0 c1 ⊢
  refine (za hz).mono ?_
  rintro e w1 ⟨h1, b1⟩
  have bw1 := b0.trans (b1.mono b0.size)
  have A1 := A0.call b1
  have hs1 := b1.size
  clear hz c0 c1 b1 A0 b0
  rcases h1 with ⟨hT, B, rfl, hBw, hBm⟩ | ⟨hT, k, rfl⟩
  ·obtain ⟨hm0, hm4⟩ := Pl.zw hT
   have HTB := hide (item_tree hT)
   rw [Pl.yj3 hT, Pl.zw4] at HTT
   obtain ⟨mm, hmm⟩ : ∃ mm : Nat, x.m = (mm : Int) := ⟨x.m.toNat, by omega⟩
   rw [hmm, Int.toNat_natCast] at HTT
   rw [hmm] at HIS HTB ⊢
   have hm5 : mm ≤ 4 := by omega
   have hBl := hBm.lt
   clear hT hmm hm0 hm4
   have bA : Below w.heap.size w ((w1.alloc (.cells #[.map (some B), .int .i64 (mm : Int)] 71)).alloc (.cells #[.map (some B), .int .i64 (mm : Int), .slice none 0 0] 74)) := (bw1.alloc bw1.size _).alloc (by simp; have := bw1.size; omega) _
   have TK0 : Hid (Tk w ((w1.alloc (.cells #[.map (some B), .int .i64 (mm : Int)] 71)).alloc (.cells #[.map (some B), .int .i64 (mm : Int), .slice none 0 0] 74)) (w1.heap.size + 1 + 1) w.heap.size (w1.heap.size + 1) B x.t.L (mm : Int) (.slice none 0 0) .nil []) :=
    hide ⟨bA, by simp, (A1.alloc _).alloc _, by have := Mem.Blk.new (w1.alloc (.cells #[.map (some B), .int .i64 (mm : Int)] 71)) #[.map (some B), .int .i64 (mm : Int), .slice none 0 0] 74; simpa using this, ⟨Nat.le_refl _, by omega⟩, ⟨by omega, by omega⟩, by omega, World.ownsRow_nil _ _ _ _, rfl, ⟨by omega, by omega, by omega, by omega⟩, (hBm.call ((Below.refl _ _).alloc (Nat.le_refl _) _)).call ((Below.refl _ _).alloc (Nat.le_refl _) _), List.pairwise_singleton _ _⟩
   generalize hT0 : Pl.take mm (Pl.rowO ((Is.drop 1).map Pl.It.r)) = T0 at HTT
   have HT0 : Hid (Pl.went Pl.Fx.nil.shape (Pl.take (mm - Pl.Fx.nil.len) (Pl.rowO ((Is.drop 1).map Pl.It.r))) = T0) := hide (by show Pl.went .nil (Pl.take (mm - Pl.Fo.nil.len) _) = _; rw [Pl.yv1]; exact hT0)
   have HF0 : Hid (Pl.Fx.nil.okX ∧ Pl.Fx.nil.flat ++ (Is.drop 1).map Pl.It.r = (Is.drop 1).map Pl.It.r) := ⟨trivial, rfl⟩
   have S0 : Hid (cap = 1 → Mem.shifted (some ⟨b, o, none⟩) (some ⟨b, o, none⟩) 1 Is) := hide (fun hc => .inl (List.drop_eq_nil_of_le (by omega)))
   have S1 : Hid (Mem.shifted (some ⟨b, o, none⟩) (some ⟨b, o + 2, none⟩) 1 Is) := hide (.inr ⟨b, o, rfl, rfl⟩)
   clear hT0 A1 bw1 bA
   go_wp2
   all_goals
    go_loopw [8, 34] (fun rest i wr => ∃ (k : Nat) (a' : Option Addr) (cap' : Nat) (v : Value) (F : Pl.Fx) (xs : List Value) (r : Nat), rest = .slice a' r cap' ∧ i = .int .i64 (F.len : Int) ∧ F.len ≤ mm ∧ 0 < k ∧ k + r = Is.length ∧ r ≤ cap' ∧ Hid (Mem.shifted (some ⟨b, o, none⟩) a' k Is) ∧ Hid (Tk w wr (w1.heap.size + 1 + 1) w.heap.size (w1.heap.size + 1) B x.t.L (mm : Int) v F xs) ∧ Hid (F.okX ∧ F.flat ++ (Is.drop k).map Pl.It.r = (Is.drop 1).map Pl.It.r) ∧ Hid (Pl.went F.shape (Pl.take (mm - F.len) (Pl.rowO ((Is.drop k).map Pl.It.r))) = T0)) (fun _ i _ => mm - (intOf i).toNat)
    case atStart =>
     refine ⟨1, _, _, _, .nil, [], _, rfl, rfl, Nat.zero_le _, by omega, by omega, by omega, ?_, TK0, HF0, HT0⟩
     first | exact S1 | exact hide (za S0 (by omega))
    case round =>
     obtain ⟨k, a', cap', v, F, xs, r, rfl, rfl, hFm, hk, hkl, hc, HS, TK, HF, HT⟩ := hrel
     clear TK0 HT0 HF0 S0 S1
     by_cases hlt : F.len < mm
     ·have u1 : (F.len : Int) < (mm : Int) := by omega
      have hcall := hide (za HI k r a' cap' wr hk hkl hc (za HS) (za TK).bel)
      go_wp2_with fail
      refine (za hcall).mono ?_
      rintro e wX ⟨h1, bX⟩
      clear hcall
      rcases h1 with ⟨L1, kids, q1, v1, k1, s1, a1, cap1, ht, rfl, hk1', hc1, hs1', ⟨⟨hq1, hap1⟩, hm1⟩, hfl, hlay⟩ | ⟨ht, rfl⟩
      ·obtain ⟨va, vcap, rfl, hrest⟩ := hlay
       have HST := hide (fun (w4 : World) (v' : Value) own gr far => (za TK).step (w1 := wX) (w4 := w4) (kids := kids) (v1 := .slice va kids.len vcap) (q1 := q1) (L1 := L1) (v' := v') (o1 := .cells #[.map (some q1), .int .i64 (kids.len : Int), .slice va kids.len vcap] 74) (o2 := .cells #[.map (some q1), .int .i64 (kids.len : Int), .slice va kids.len vcap] 74) bX ⟨va, vcap, rfl, hrest⟩ hq1 hap1 hm1 own gr far)
       have HMD := hide (fun (w4 : World) gr => (za TK).mid (w1 := wX) (w4 := w4) (o1 := .cells #[.map (some q1), .int .i64 (kids.len : Int), .slice va kids.len vcap] 74) (o2 := .cells #[.map (some q1), .int .i64 (kids.len : Int), .slice va kids.len vcap] 74) bX gr)
       have HR := hide (((zz6 (za TK).row bX).alloc (.cells #[.map (some q1), .int .i64 (kids.len : Int), .slice va kids.len vcap] 74)).alloc (.cells #[.map (some q1), .int .i64 (kids.len : Int), .slice va kids.len vcap] 74))
       have X7a := ((za TK).x7.call bX).alloc (.cells #[.map (some q1), .int .i64 (kids.len : Int), .slice va kids.len vcap] 74)
       have c72 := X7a.cell 2
       simp only [kGs] at c72
       have hbig : w1.heap.size + 1 + 1 ≤ wX.heap.size := Nat.le_trans (za TK).big bX.size
       have HS2 : Hid (Mem.shifted (some ⟨b, o, none⟩) a1 (k + k1) Is) := hide hs1'
       obtain ⟨j, hj⟩ : ∃ j, mm - F.len = j + 1 := ⟨mm - F.len - 1, by omega⟩
       have HT2 : Hid (Pl.went (F.app (.cons L1 kids .nil)).shape (Pl.take (mm - (F.app (.cons L1 kids .nil)).len) (Pl.rowO ((Is.drop (k + k1)).map Pl.It.r))) = T0) := hide (by
        have h' := za HT
        rw [hj, Pl.went_step ht] at h'
        rw [Pl.Fx.zh9, Pl.Fx.yc5, ← h']
        congr 2
        simp only [Pl.Fx.len]
        omega)
       have HF2 : Hid ((F.app (.cons L1 kids .nil)).okX ∧ (F.app (.cons L1 kids .nil)).flat ++ (Is.drop (k + k1)).map Pl.It.r = (Is.drop 1).map Pl.It.r) := hide ⟨Pl.Fx.ok_app (za HF).1 hfl.1, by rw [Pl.Fx.zz9, List.append_assoc, hfl.2]; exact (za HF).2⟩
       have hlen : (F.app (.cons L1 kids .nil)).len = F.len + 1 := by rw [Pl.Fx.zh9]; rfl
       have HLEN := hide hlen
       clear TK HS HT HF hfl hq1 hap1 hm1 ht bX hs1' hrest X7a hlen
       go_wp2_with (at_builtin; refine Mem.zb0 _ rfl _ _ 72 rfl (w1.heap.size + 1 + 1) 74 i0 (.agg #[.map none, .int .i64 0, .slice none 0 0]) 3 40 Tryz.underlying72 hi hz0 hz1 hz2 rfl (by decide) _ _ _ rfl (za HR) ⟨wX.heap.size + 1, 0, none⟩ 1 1 [.map (some q1), .int .i64 (kids.len : Int), .slice va kids.len vcap] rfl rfl (yp2 _ _ _ _) (fun u hu => by simp at hu; rcases hu with rfl | rfl | rfl <;> rfl) (by unfold maxLen; omega) (by omega) (by simp; omega) ?_)
       intro v' w4 own' hgrow hfar
       have M7 := za HMD w4 hgrow
       have c74 := M7.cell 2
       have f74 := M7.fr 2
       simp only [kGs] at c74
       have TK2 := hide (za HST w4 v' own' hgrow (by simpa using hfar))
       obtain ⟨vb, vc, rfl⟩ := conc own'
       clear own' hgrow hfar M7 HMD HST HR c72
       go_wp2
       go_roundw
       case rel => exact ⟨k + k1, a1, cap1, _, _, _, s1, rfl, by rw [za HLEN]; go_num, by rw [za HLEN]; omega, by omega, hk1', hc1, HS2, TK2, HF2, HT2⟩
       case measure => simp [intOf]; omega
      ·obtain ⟨j, hj⟩ : ∃ j, mm - F.len = j + 1 := ⟨mm - F.len - 1, by omega⟩
       have hno : TT = none := by
        have h' := za HT
        rw [hj, Pl.went_fail ht] at h'
        rw [← za HTT, ← h']; rfl
       have X2a := ((za TK).x2.call bX).alloc (.cells #[.map none, .int .i64 0, .slice none 0 0] 74)
       have c20 := X2a.cell 0
       have c21 := X2a.cell 1
       have c22 := X2a.cell 2
       have f20 := X2a.fr 0
       have f21 := X2a.fr 1
       have f22 := X2a.fr 2
       simp only [kGs] at c20 c21 c22
       have bb : Hid (Below w.heap.size w (wX.alloc (.cells #[.map none, .int .i64 0, .slice none 0 0] 74))) := hide (by
        have b' := (za TK).bel.trans (bX.mono (za TK).bel.size)
        exact b'.alloc b'.size _)
       clear TK HS HT ht bX X2a
       go_wp2
       refine bodyPost_ret (v := .tuple #[.agg #[.map none, .int .i64 0, .slice none 0 0], .slice none 0 0, .iface r1 x1]) (by simp [results, Tryz.results77, go_sem, c20, c21, c22]) rfl ⟨Or.inr ⟨hno, rfl⟩, ?_⟩
       first | exact za bb | exact (((za bb).setCell (Nat.le_refl _) _).setCell (Nat.le_refl _) _).setCell (Nat.le_refl _) _
     ·have u1 : ¬ (F.len : Int) < (mm : Int) := by omega
      have hyes : Hid (TT = some (.cons F.shape .nil, Pl.rowO ((Is.drop k).map Pl.It.r))) := hide <| by
       have h' := za HT
       rw [show mm - F.len = 0 by omega, Pl.went_end] at h'
       rw [← za HTT, ← h']; rfl
      have hFe : F.len = mm := by omega
      have HFI : Hid ((Pl.Fx.cons x.t.L F .nil).okX ∧ (Pl.Fx.cons x.t.L F .nil).flat ++ (Is.drop k).map Pl.It.r = Is.map Pl.It.r) := hide ⟨⟨(za HTB).1, (za HTB).2.imp (fun h => Pl.Fx.ym9 (by omega)) id, by omega, (za HF).1, trivial⟩, by rw [za HIS, ← (za HF).2, Pl.Fx.flat, hFe]; simp [Pl.Fx.flat]⟩
      have HQ := hide (za TK).lq.1
      have HFE := hide hFe
      clear hFe
      obtain ⟨va, vcap, rfl⟩ := (za TK).conc
      have X2a := (za TK).x2
      have X7a := (za TK).x7
      have c20 := X2a.cell 0
      have c21 := X2a.cell 1
      have c22 := X2a.cell 2
      have f20 := X2a.fr 0
      have f21 := X2a.fr 1
      have f22 := X2a.fr 2
      have c70 := X7a.cell 0
      have c71 := X7a.cell 1
      have c72 := X7a.cell 2
      simp only [kGs] at c20 c21 c22 c70 c71 c72
      clear X2a X7a HT
      go_wp2
      have hrl : (Is.drop k).length = r := by rw [List.length_drop]; omega
      refine bodyPost_ret (v := .tuple #[.agg #[.map (some B), .int .i64 (mm : Int), .slice va F.len vcap], .slice a' r cap', .nilIface]) (by simp [results, Tryz.results77, go_sem, c20, c21, c22]) rfl ⟨Or.inl ⟨_, F, B, _, k, a', cap', za hyes, by rw [hrl, za HFE], hk, by omega, by rw [hrl]; exact hc, za HS, ⟨⟨za HQ, (za TK).apart _ _ _⟩, (za TK).own _ _ _⟩, za HFI, (za TK).done _ _ _⟩, ?_⟩
      exact (((za TK).bel.setCell (Nat.le_refl _) _).setCell (Nat.le_refl _) _).setCell (Nat.le_refl _) _
  ·rw [Pl.itemO_no hT] at HTT
   have hno : TT = none := (za HTT).symm
   have A2 := A1.alloc (.cells #[.map none, .int .i64 k] 71)
   have c20 := A2.cell 0
   have c21 := A2.cell 1
   have c22 := A2.cell 2
   have f20 := A2.fr 0
   have f21 := A2.fr 1
   have f22 := A2.fr 2
   simp only [kGs] at c20 c21 c22
   have bb := hide (bw1.alloc bw1.size (.cells #[.map none, .int .i64 k] 71))
   clear A1 A2 hT HI bw1
   go_wp2
   refine bodyPost_ret (v := .tuple #[.agg #[.map none, .int .i64 0, .slice none 0 0], .slice none 0 0, .iface r1 x1]) (by simp [results, Tryz.results77, go_sem, c20, c21, c22]) rfl ⟨Or.inr ⟨hno, rfl⟩, ?_⟩
   first | exact za bb | exact (((za bb).setCell (Nat.le_refl _) _).setCell (Nat.le_refl _) _).setCell (Nat.le_refl _) _
end zr9
end Go.Proofs.YtfdbokipgofcdaaGreatDoor

