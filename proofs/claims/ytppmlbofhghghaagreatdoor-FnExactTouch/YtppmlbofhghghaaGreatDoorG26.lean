/- Several texts of one claim in one file: WItemsOf, WItemsR, WNodesJ, WNodesR, WPlainT. -/
import Derived.Test.YtppmlbofhghghaaGreatDoorG02
import Derived.Test.YtppmlbofhghghaaGreatDoorG10
import Derived.Test.YtppmlbofhghghaaGreatDoorG25
import Derived.Laws.IdiomRangeMap
import Derived.Test.YtppmlbofhghghaaGreatDoorG03
import Derived.Test.YtppmlbofhghghaaGreatDoorMapPutL
import Derived.Test.YtppmlbofhghghaaGreatDoorG14
import Derived.Test.YtppmlbofhghghaaGreatDoorG09
import Derived.Test.YtppmlbofhghghaaGreatDoorG04
import Derived.Test.YtppmlbofhghghaaGreatDoorG16
namespace Go.Proofs.YtppmlbofhghghaaGreatDoor
open Go.RowKit Go.Maps
namespace yh5
set_option linter.unusedSimpArgs false in
set_option maxRecDepth 100000 in
theorem rise_nil (w : World) :
  Calls Tryz.prog 120 #[.map none] w fun e w' => ∃ v, e = .returned v ∧ Mem.ownN w' w.heap.size v [] ∧ Below w.heap.size w w' := by
 have hmk := zm9.makeC 0 (by omega) w
 rw [show ((0 : Nat) : Int) = 0 from rfl] at hmk
 have hr : ∀ W : World, (Instr.range 101 (.map none)).run Tryz.prog W = .ok (.pointer (some ⟨W.heap.size, 0, none⟩)) (W.alloc (.mapIter none 0 #[] 0)) := fun W => run_range_nilMap W _ _ _ Tryz.underlying101
 have hnx : ∀ (W : World) (ty : TypeId), (Instr.next (.pointer (some ⟨W.heap.size, 0, none⟩)) false ty).run Tryz.prog (W.alloc (.mapIter none 0 #[] 0)) = .ok (.tuple #[.bool false]) (W.alloc (.mapIter none 0 #[] 0)) := fun W ty => run_next_nilMap W ty 0 0 #[]
 have OW0 : Hid (Mem.ownN (w.alloc (.cells (zm9.zeros 0) 47)) w.heap.size (.slice (some ⟨w.heap.size, 0, none⟩) 0 0) []) :=
  ⟨rfl, .inr ⟨w.heap.size, _, _, rfl, Nat.le_refl _, heap_alloc_new _ _, Nat.zero_le _, by decide, size_madeCells _ _, rfl⟩⟩
 have hnx0 := hnx (w.alloc (.cells (zm9.zeros 0) 47))
 rw [show (w.alloc (.cells (zm9.zeros 0) 47)).heap.size = w.heap.size + 1 by simp] at hnx0
 have OW1 := hide (Mem.zf8 (za OW0) (.mapIter none 0 #[] 0))
 have hs := hide (zm9.sort_own (.slice (some ⟨w.heap.size, 0, none⟩) 0 0) w.heap.size [] ((w.alloc (.cells (zm9.zeros 0) 47)).alloc (.mapIter none 0 #[] 0)) (fun t ht => by cases ht) (by simp) (za OW1))
 have b1 : Below w.heap.size w ((w.alloc (.cells (zm9.zeros 0) 47)).alloc (.mapIter none 0 #[] 0)) := ((Below.refl _ _).alloc (Nat.le_refl _) _).alloc (by simp) _
 clear OW0
 go_enter Tryz.func120, Tryz.ntmps120
 go_wp2
 go_loopw [3] (fun v wr => v = .slice (some ⟨w.heap.size, 0, none⟩) 0 0 ∧ wr = (w.alloc (.cells (zm9.zeros 0) 47)).alloc (.mapIter none 0 #[] 0)) (fun _ _ => 0)
 case atStart => exact ⟨rfl, rfl⟩
 case round =>
  obtain ⟨rfl, rfl⟩ := hrel
  go_wp2_with fail
  refine (za hs).mono ?_
  rintro e w2 ⟨rfl, S, h1, h2, h3, h4⟩
  have eS : S = [] := List.Perm.eq_nil h1
  subst eS
  have O2 := hide h3
  have bw := b1.grown h4 b1.size (fun q hq => by cases hq; exact Nat.le_refl _)
  clear hs h1 h2 h3 h4 b1 OW1 hr hnx hnx0 hmk
  go_wp2
  go_ret
  exact ⟨_, rfl, za O2, bw⟩
def selfM (w : World) (qo : Option Nat) (L : List Pl.Nd) : Prop := (∃ q, qo = some q ∧ Mem.ownM w q L) ∨ (qo = none ∧ L = [])
theorem selfM.call {w w' : World} {qo : Option Nat} {L : List Pl.Nd} (h : selfM w qo L) (b : Below w.heap.size w w') : selfM w' qo L := by
 rcases h with ⟨q, h1, h2⟩ | h
 ·exact .inl ⟨q, h1, h2.call b⟩
 ·exact .inr h
theorem infoI : (Tryz.prog.info? 61).map (fun i => (i.zero, i.size, i.bytes)) = some (some (.agg #[.int .i64 0, .slice none 0 0]), 2, 32) := by kernel_rfl
end yh5
end Go.Proofs.YtppmlbofhghghaaGreatDoor

namespace Go.Proofs.YtppmlbofhghghaaGreatDoor
open Go.RowKit
namespace Pl
def Fx.okR : Fx → Prop
 | .nil => True
 | .cons L k m => zd9 L ∧ (k = .nil ∨ L = []) ∧ k.len ≤ 4 ∧ k.okR ∧ m.okR
theorem Fx.okR_of {X : Fx} (h : X.okX) : X.okR := by
 induction X with
 | nil => trivial
 | cons L k m ih1 ih2 => exact ⟨zd9.zv6 h.1, h.2.1, h.2.2.1, ih1 h.2.2.2.1, ih2 h.2.2.2.2⟩
end Pl
namespace yh5
theorem rise_rise (B : Nat) (L : List Pl.Nd) (w : World) (ht : Pl.zd9 L) (hm : Mem.ownM w B L) :
  Calls Tryz.prog 120 #[.map (some B)] w fun e w' => ∃ v, e = .returned v ∧ Mem.ownN w' w.heap.size v L ∧ Below w.heap.size w w' :=
 zm9.any B 40 L L (MapN.mapOf L) w hm (by omega) (MapN.zj5 ht.apart) ht.apart (List.Perm.refl _) ht.rise ht.path
theorem rise_selfR (qo : Option Nat) (L : List Pl.Nd) (w : World) (ht : Pl.zd9 L) (h : selfM w qo L) :
  Calls Tryz.prog 120 #[.map qo] w fun e w' => ∃ v, e = .returned v ∧ Mem.ownN w' w.heap.size v L ∧ Below w.heap.size w w' := by
 rcases h with ⟨q, rfl, hm⟩ | ⟨rfl, rfl⟩
 ·exact rise_rise q L w ht hm
 ·exact rise_nil w
set_option linter.unusedSimpArgs false in
set_option maxRecDepth 100000 in
set_option maxHeartbeats 2000000 in
theorem items_ofR (n : Nat) (hn : n ≤ 1000) : ∀ (N : Nat → Prop) (K : Pl.Fx) (L : List Pl.Nd) (qo : Option Nat) (m : Int) (v : Value) (w : World), K.sz < n → Pl.zd9 L → K.okR → selfM w qo L → Mem.layX w N K v →
  Calls Tryz.prog 84 #[.agg #[.map qo, .int .i64 m, v]] w fun e w' => ∃ v' Is, e = .returned v' ∧ Mem.Io w' w.heap.size v' Is ∧ Is.map Pl.It.r = (m, L) :: K.flat ∧ Below w.heap.size w w' := by
 obtain ⟨i0, hi, hz0, hz1, hz2⟩ := info_parts infoI
 induction n with
 | zero => intro N K L qo m v w h; omega
 | succ n ih =>
  intro N K L qo m v w hs ht hx hm hl
  have hKl : K.len ≤ 1000 := by have := K.len_le; omega
  obtain ⟨a, cap, rfl, hrow⟩ := hl
  have b0 : Below w.heap.size w (w.alloc (.cells #[.map qo, .int .i64 m, .slice a K.len cap] 106)) := (Below.refl _ _).alloc (Nat.le_refl _) _
  have A0 := Mem.Blk.new w #[.map qo, .int .i64 m, .slice a K.len cap] 106
  have hri := hide (fun W (b : Below (w.alloc (.cells #[.map qo, .int .i64 m, .slice a K.len cap] 106)).heap.size (w.alloc (.cells #[.map qo, .int .i64 m, .slice a K.len cap] 106)) W) => rise_selfR qo L W ht ((hm.call b0).call b))
  have HRW : Hid (K = .nil ∨ ∃ b', a = some ⟨b', 0, none⟩ ∧ Mem.rowX (w.alloc (.cells #[.map qo, .int .i64 m, .slice a K.len cap] 106)) (fun b => b < w.heap.size) K b' 0) := by
   rcases hrow with h | ⟨g, h1, -, h2⟩
   ·exact .inl h
   ·exact .inr ⟨g, h1, Mem.zq2 (Mem.zo9 (N' := fun b => b < w.heap.size) (fun b _ hb => ⟨hb, hb, rfl⟩) K g 0 h2) b0⟩
  have HI := hide (ih (by omega))
  have HKX := hide hx
  have c0 := A0.cell 0
  have c1 := A0.cell 1
  simp only [kA0, kA1, kA2] at c0 c1
  have HX1 : Hid (w.heap.size < (w.alloc (.cells #[.map qo, .int .i64 m, .slice a K.len cap] 106)).heap.size) := A0.lt
  clear ih hrow hx hm ht
  go_enter Tryz.func84, Tryz.ntmps84
  go_wp2_with fail
  generalize w.alloc (.cells #[.map qo, .int .i64 m, .slice a K.len cap] 106) = w1 at b0 A0 hri HRW c0 c1 HX1 ⊢
  have MK : Hid (∀ W', Below w1.heap.size w1 W' → (fun W' => Below w1.heap.size w1 W' ∧ W'.cell? ⟨w.heap.size, 0, none⟩ = some (.map qo) ∧ W'.cell? ⟨w.heap.size, 1, none⟩ = some (.int .i64 m)) W') := fun W' hb => ⟨hb, (hb.cell (p := ⟨w.heap.size, 0, none⟩) (za HX1)).trans c0, (hb.cell (p := ⟨w.heap.size, 1, none⟩) (za HX1)).trans c1⟩
  clear c0 c1
  refine wp_region_held_drew (S := fun W' => Below w1.heap.size w1 W' ∧ W'.cell? ⟨w.heap.size, 0, none⟩ = some (.map qo) ∧ W'.cell? ⟨w.heap.size, 1, none⟩ = some (.int .i64 m)) (by kernel_rfl) ?_ (fun hHeld => ?_)
  ·exact za MK _ ((Below.refl _ _).trans ⟨rfl, rfl, rfl, Nat.le_refl _, fun _ _ => rfl⟩)
  refine tka (i := 0) rfl ?_
  try simp only [Act.put, kBs]
  refine tka (i := 1) rfl ?_
  try simp only [Act.put, kBs]
  refine tka (i := 2) rfl ?_
  try simp only [Act.put, kBs]
  refine tka (i := 3) rfl ?_
  try simp only [Act.put, kBs]
  refine tka (i := 4) rfl ?_
  try simp only [Act.put, kBs]
  refine tka (i := 5) rfl ?_
  try simp only [Act.put, kBs]
  refine wpAnyH_ready (rs := [6]) (by kernel_rfl) (by simp) ?_
  refine AllReadyH.cons rfl (fun K hK => ?_) AllReadyH.nil
  go_simp
  refine (za hri _ hHeld.1).mono ?_
  rintro e wX ⟨vr, rfl, ownr, bX⟩
  obtain ⟨ra, rc, hvr⟩ := Mem.za2 ownr
  subst hvr
  have hlr : w.heap.size + 1 ≤ _ := Nat.le_trans (za HX1) hHeld.1.size
  refine hK.out _ _ ?_ (fun hHeld => ?_)
  ·exact za MK _ (hHeld.1.trans (bX.mono hHeld.1.size))
  clear hK K
  try simp only [Act.put, kBs]
  refine tka (i := 7) rfl ?_
  try simp only [Act.put, kBs]
  refine tka (i := 8) rfl ?_
  try simp only [Act.put, kBs]
  refine wpAnyH_ready (rs := [9]) (by kernel_rfl) (by simp) ?_
  refine AllReadyH.cons rfl (fun K hK => ?_) AllReadyH.nil
  go_simp
  refine hK.out _ _ ?_ (fun hHeld => ?_)
  ·exact za MK _ (hHeld.1.alloc hHeld.1.size _)
  clear hK K
  try simp only [Act.put, kBs]
  refine tka (i := 10) rfl ?_
  try simp only [Act.put, kBs]
  refine wpAnyH_done (by kernel_rfl) ?_ _
  have hb3 := hHeld.1
  have bw3 := b0.trans (hb3.mono b0.size)
  have bA : Below wX.heap.size wX (wX.alloc (.cells #[.int .i64 m, .slice ra L.length rc] 61)) := (Below.refl _ _).alloc (Nat.le_refl _) _
  have IO0 : Hid (Mem.Io (wX.alloc (.cells #[.int .i64 m, .slice ra L.length rc] 61)) (w.heap.size + 1) (.slice (some ⟨wX.heap.size, 0, none⟩) 1 1) [⟨m, ⟨ra, rc, L⟩⟩]) := hide (Mem.Io.one (t := ⟨ra, rc, L⟩) (by have h2 := bX.size; omega) (heap_alloc_new _ _) (Mem.zb4 (Mem.ze3 ownr bA) hlr) (fun q hq e => by have := (Mem.ze2 ownr q hq).2; omega))
  have A3 := A0.call hb3
  have RW3 : Hid (K = .nil ∨ ∃ b', a = some ⟨b', 0, none⟩ ∧ Mem.rowX (wX.alloc (.cells #[.int .i64 m, .slice ra L.length rc] 61)) (fun b => b < w.heap.size) K b' 0) := by
   rcases za HRW with h | ⟨g, h1, h2⟩
   ·exact .inl h
   ·exact .inr ⟨g, h1, Mem.zq2 h2 hb3⟩
  have c2 := A3.cell 2
  simp only [kA0, kA1, kA2] at c2
  have HSZ : Hid (w.heap.size + 1 ≤ (wX.alloc (.cells #[.int .i64 m, .slice ra L.length rc] 61)).heap.size) := hide (by have h1 := A3.lt; omega)
  clear hHeld MK hri HRW A0 A3 b0 ownr bX bA hb3 hlr
  generalize wX.alloc (.cells #[.int .i64 m, .slice ra L.length rc] 61) = w3 at bw3 IO0 RW3 c2 HSZ ⊢
  have IT0 : Hid ((([⟨m, ⟨ra, rc, L⟩⟩] : List Pl.It)).map Pl.It.r ++ K.flat = (m, L) :: K.flat) := rfl
  go_wp2
  go_loopw [3, 19] (fun v i wr => ∃ (j : Nat) (Is : List Pl.It) (F : Pl.Fx), i = .int .i64 (j : Int) ∧ j + F.len = K.len ∧ F.sz ≤ n ∧ Hid (Is.length + F.sz = K.sz + 1) ∧ Below w.heap.size w wr ∧ Hid (w.heap.size + 1 ≤ wr.heap.size) ∧ Hid (Mem.Io wr (w.heap.size + 1) v Is) ∧ Hid (F = .nil ∨ ∃ b', a = some ⟨b', 0, none⟩ ∧ Mem.rowX wr (fun b => b < w.heap.size) F b' (j * 3)) ∧ Hid F.okR ∧ Hid (Is.map Pl.It.r ++ F.flat = (m, L) :: K.flat)) (fun _ i _ => K.len - (intOf i).toNat)
  case atStart => exact ⟨0, _, K, rfl, by omega, by omega, hide (by simp; omega), bw3, HSZ, IO0, hide (by simpa using za RW3), HKX, IT0⟩
  case round =>
   obtain ⟨j, Is, F, rfl, hj, hsz, HIL, hbel, HSW, IO, HR, FX, IM⟩ := hrel
   clear IO0 RW3 HSZ IT0 c2 bw3
   cases F with
   | nil =>
    simp only [Pl.Fx.len] at hj
    have u1 : ¬ (j : Int) < (K.len : Int) := by omega
    have E : Hid (Is.map Pl.It.r = (m, L) :: K.flat) := hide (by have := za IM; rw [Pl.Fx.flat, List.append_nil] at this; exact this)
    have IOM := hide ((za IO).mono (show w.heap.size ≤ w.heap.size + 1 by omega))
    clear IO HR FX IM HIL
    go_wp2
    go_ret
    first | exact ⟨_, Is, rfl, za IOM, za E, hbel⟩ | exact ⟨_, rfl, Is, za IOM, za E, hbel⟩
   | cons L1 k1 m1 =>
    simp only [Pl.Fx.len, Pl.Fx.sz] at hj hsz
    obtain ⟨g1, g2, g3, g5, g6⟩ := za FX
    rcases za HR with h | ⟨g, rfl, hrw⟩
    ·cases h
    obtain ⟨⟨q1, a1, cap1, c0, c1, c2, hg, hNg, hNq, hm1, hsub⟩, hrest⟩ := hrw
    have u1 : (j : Int) < (K.len : Int) := by omega
    have u3 : (0 : Int) ≤ (j : Int) := by omega
    have HJ := hide hj
    have bA : Below wr.heap.size wr (wr.alloc (.cells #[.map (some q1), .int .i64 (k1.len : Int), .slice a1 k1.len cap1] 106)) := (Below.refl _ _).alloc (Nat.le_refl _) _
    have HL : Mem.layX wr (fun b => b < w.heap.size) k1 (.slice a1 k1.len cap1) := ⟨a1, cap1, rfl, hsub⟩
    have bw := hbel.trans (bA.mono hbel.size)
    have hcall := hide (za HI (fun b => b < w.heap.size) k1 L1 (some q1) (k1.len : Int) _ _ (by omega) g1 g5 (.inl ⟨q1, rfl, hm1.call bA⟩) (Mem.zl HL bA))
    have HRR := hide (Mem.zq2 hrest bA)
    have IA := hide ((za IO).call bA)
    have G6 := hide g6
    have HIL2 := HIL
    have hlo := (za IO).lt
    have hsA : (wr.alloc (.cells #[.map (some q1), .int .i64 (k1.len : Int), .slice a1 k1.len cap1] 106)).heap.size = wr.heap.size + 1 := by simp
    have HLO := hide hlo
    have HSA := hide hsA
    clear hsub hrest HL HR IO FX g1 g2 g5 g6 hm1 hlo hsA
    go_wp2_with fail
    refine (za hcall).mono ?_
    rintro e wX2 ⟨v1, Is1, rfl, io1, hr1, bX⟩
    have bw2 := bw.trans (bX.mono bw.size)
    have hIl : Is1.length = k1.sz + 1 := by have := congrArg List.length hr1; rw [List.length_map, List.length_cons, Pl.Fx.yc8] at this; exact this
    obtain ⟨gv, cv, hv1, hcv⟩ := io1.there (by omega)
    subst hv1
    have O2 := (za IA).call bX
    have HP := hide (fun v' w4 own gr far => O2.app io1 (v' := v') (W' := w4) (by have := za HSW; have := za HSA; omega) (fun g hg => by have := ((za HLO).1 g hg).2; have := za HSA; omega) (fun i x hx g hg => by have := ((za HLO).2 i x hx g hg).2; have := za HSA; omega) own gr far)
    have HQ := hide (fun w4 (h2 : wX2.grownBy w4 _) => (⟨bw2.grown h2 bw2.size (fun k hk => by have := (O2.lt.1 k hk).1; omega), Mem.zo9 (fun b hb hlt => ⟨hb, Nat.lt_of_lt_of_le hlt h2.size, h2.block b hlt (fun e => by have := (O2.lt.1 b e.symm).1; omega)⟩) _ _ _ (Mem.zq2 (za HRR) bX)⟩ : Below w.heap.size w w4 ∧ Mem.rowX w4 (fun b => b < w.heap.size) m1 g (j * 3 + 3)))
    have HRO := hide O2.row
    have HSB : Hid (w.heap.size + 1 ≤ wX2.heap.size) := hide (by have h1 := za HSW; have h2 := bX.size; have h3 := za HSA; omega)
    have HCV := hide hcv
    have IM2 : Hid ((Is ++ Is1).map Pl.It.r ++ m1.flat = (m, L) :: K.flat) := hide (by have h := za IM; rw [Pl.Fx.flat] at h; rw [List.map_append, hr1, ← h]; simp)
    have HIL3 : Hid ((Is ++ Is1).length + m1.sz = K.sz + 1) := hide (by have h := za HIL2; simp only [Pl.Fx.sz] at h; rw [List.length_append]; omega)
    have hIs : Is.length ≤ 1001 := by have h := za HIL2; omega
    have hIs1 : Is1.length ≤ 1001 := by omega
    clear O2 IA io1 hr1 bX bw bw2 hcall HRR IM hcv HIL HIL2 HLO HSA bA hIl HSW hbel
    go_wp2_with (at_builtin; refine Mem.ze6 _ rfl _ _ 24 rfl (w.heap.size + 1) 61 i0 (.agg #[.int .i64 0, .slice none 0 0]) 2 32 Tryz.underlying24 hi hz0 hz1 hz2 rfl (by decide) _ _ _ rfl (za HRO) ⟨gv, 0, none⟩ Is1.length cv (Pl.ze1 Is1) rfl (Pl.yj0 Is1) (za HCV) (Pl.yo3 Is1) (by unfold maxLen; omega) (by omega) (za HSB) ?_)
    intro v' w4 own' hgrow hfar
    have I2 := hide (za HP v' w4 own' hgrow hfar)
    obtain ⟨bw4, HR2⟩ := za HQ w4 hgrow
    have HR3 : Hid (m1 = .nil ∨ ∃ b', some ⟨g, 0, none⟩ = some (⟨b', 0, none⟩ : Addr) ∧ Mem.rowX w4 (fun b => b < w.heap.size) m1 b' ((j + 1) * 3)) := hide (.inr ⟨g, rfl, by rw [show (j + 1) * 3 = j * 3 + 3 by omega]; exact HR2⟩)
    have HS4 : Hid (w.heap.size + 1 ≤ w4.heap.size) := hide (by have h1 := hgrow.size; have h2 := za HSB; omega)
    clear HP HQ HRO own' hgrow hfar HR2 HCV HSB
    go_wp2
    go_roundw
    case rel => exact ⟨j + 1, Is ++ Is1, m1, by go_num, by have h := za HJ; omega, by omega, HIL3, bw4, HS4, I2, HR3, G6, IM2⟩
    case measure => (have h := za HJ; simp [intOf]; omega)
end yh5
end Go.Proofs.YtppmlbofhghghaaGreatDoor

namespace Go.Proofs.YtppmlbofhghghaaGreatDoor
open Go.RowKit Go.Maps
namespace Pl
structure Inv (C : List Nd) (lp : ByteArray) : Prop where
 right : za3 lp = true
 rise : C.Pairwise (fun a b => zb0 (names a.path) (names b.path) = true)
 last : ∀ a ∈ C, a.path = lp ∨ zb0 (names a.path) (names lp) = true
theorem inv_start : Inv [] ⟨#[]⟩ := ⟨(zh6 rfl).1, List.Pairwise.nil, fun a ha => by cases ha⟩
theorem inv_apart {C : List Nd} {lp : ByteArray} (h : Inv C lp) : C.Pairwise (fun a b => a.path ≠ b.path) :=
 h.rise.imp (fun {a b} hab e => by rw [e, zk8] at hab; cases hab)
theorem inv_step {C : List Nd} {lp : ByteArray} {n : Nd} (h : Inv C lp) (hn : zb n = true) (hl : ltP lp n.path = true) : Inv (C ++ [n]) n.path := by
 have hr := (za9 hn).1
 rw [zd8 h.right hr] at hl
 have hall : ∀ a ∈ C, zb0 (names a.path) (names n.path) = true := fun a ha => by
  rcases h.last a ha with e | e
  ·rw [e]; exact hl
  ·exact zm6 _ _ _ e hl
 refine ⟨hr, ?_, fun a ha => ?_⟩
 ·rw [List.pairwise_append]
  exact ⟨h.rise, List.pairwise_singleton _ _, fun a ha b hb => by simp at hb; subst hb; exact hall a ha⟩
 ·rcases List.mem_append.1 ha with ha | ha
  ·exact .inr (hall a ha)
  ·simp at ha; subst ha; exact .inl rfl
theorem goI_step (L : List Nd) {n : Nd} {k : Nat} (h : L[k]? = some n) (C : List Nd) (lp : ByteArray) : goI C lp (L.drop k) = (zb n && ltP lp n.path && parI C n.path && goI (C ++ [n]) n.path (L.drop (k + 1))) := by
 have h1 := (List.getElem?_eq_some_iff.1 h)
 rw [List.drop_eq_getElem_cons h1.1, h1.2, goI]
theorem take_snoc' (L : List Nd) {n : Nd} {k : Nat} (h : L[k]? = some n) : L.take (k + 1) = L.take k ++ [n] := by
 have h1 := (List.getElem?_eq_some_iff.1 h)
 rw [List.take_succ_eq_append_getElem h1.1, h1.2]
end Pl
namespace zc2
set_option maxRecDepth 100000 in
set_option maxHeartbeats 1000000 in
theorem yf6 (a : Option Addr) (cap : Nat) (L : List Pl.Nd) (w : World) (hl : L.length ≤ 1048576) (hv : Mem.za1 w a L) (hok : ∀ n ∈ L, n.path.size ≤ 1048576 ∧ n.data.size ≤ 1048576)
  (r1 r2 r3 : TypeId) (x1 x2 x3 : Value) (hE : Errs w r1 r2 r3 x1 x2 x3) :
  Calls Tryz.prog 80 #[.agg #[.slice a L.length cap]] w fun e w' => ((Pl.za5 L = true ∧ ∃ B, e = .returned (.tuple #[.map (some B), .nilIface]) ∧ w.heap.size ≤ B ∧ w'.ownsMap Tryz.prog 9 MapN.elem B 40 (MapN.mapOf L)) ∨
   (Pl.za5 L = false ∧ e = .returned (.tuple #[.map none, .iface r1 x1]))) ∧ Below w.heap.size w w' := by
 have b0 : Below w.heap.size w (w.alloc (.cells #[.slice a L.length cap] 50)) := (Below.refl _ _).alloc (Nat.le_refl _) _
 have HV := hide hv
 have HO := hide hok
 have HE := hide hE
 have hvar := hide (Mem.zi5 w [.slice a L.length cap] 50)
 have hmm := @run_makeMap Tryz.prog
 have k1 := (hE.call b0).c1
 clear hv hok hE
 by_cases h40 : 40 < L.length
 ·have F := hide (show Pl.za5 L = false by simp [Pl.za5]; omega)
  go_enter Tryz.func80, Tryz.ntmps80
  go_wp2
  go_region
  go_wp2
  go_ret2
  exact ⟨.inr ⟨za F, rfl⟩, Mem.below_drewN b0 1⟩
 have h41 : Pl.za5 L = Pl.goI [] ⟨#[]⟩ L := by rw [Pl.za5, show decide (L.length ≤ 40) = true by simp; omega]; rfl
 rw [h41]
 clear h41
 generalize hR : Pl.goI [] ⟨#[]⟩ L = R
 have HR := hide hR
 clear hR
 go_enter Tryz.func80, Tryz.ntmps80
 go_wp2
 go_loopw [5, 17] (fun v i wr => ∃ (k : Nat) (lp : ByteArray), k ≤ L.length ∧ i = .int .i64 (k : Int) ∧ v = .string lp ∧ lp.size ≤ 200 ∧ Below w.heap.size w wr ∧ Hid (wr.ownsMap Tryz.prog 9 MapN.elem (w.heap.size + 1) k (MapN.mapOf (L.take k))) ∧ Hid (Pl.Inv (L.take k) lp) ∧ Hid (R = Pl.goI (L.take k) lp (L.drop k))) (fun _ i _ => L.length - (intOf i).toNat)
 case atStart =>
  refine ⟨0, ⟨#[]⟩, Nat.zero_le _, rfl, rfl, Nat.zero_le _, ?_, ?_, Pl.inv_start, (za HR).symm⟩
  ·exact b0.alloc (by simp) _
  ·have h := World.ownsMap_made (w.alloc (.cells #[.slice a L.length cap] 50)) Tryz.prog 9 MapN.elem
   rw [show (w.alloc (.cells #[.slice a L.length cap] 50)).heap.size = w.heap.size + 1 by simp] at h
   exact h
 case round =>
  obtain ⟨k, lp, hk, rfl, rfl, hlp, hbel, HM, HI, HR2⟩ := hrel
  by_cases hlt : k < L.length
  ·obtain ⟨n, hn⟩ : ∃ n, L[k]? = some n := ⟨_, List.getElem?_eq_getElem hlt⟩
   obtain ⟨b, o, rfl, hb, q0, q1, q2, q3, q4⟩ := (Mem.za0 (za HV) hbel) k n hn
   have y1 : (k : Int) < (L.length : Int) := by omega
   have y3 : (0 : Int) ≤ (k : Int) := by omega
   have hBl := (za HM).lt
   have hsn := za HO n (List.mem_of_getElem? hn)
   have hnr := hide (fun W => zv9.zn0 n W hsn.1 hsn.2)
   have hls := hide (fun W => WLess.less_any lp n.path W (by omega) hsn.1)
   change Hid (∀ W, Calls Tryz.prog _ _ W fun e w' => e = .returned (.bool (Pl.ltP lp n.path)) ∧ _) at hls
   have hpf := hide (fun W hE hown hC => fault_any (w.heap.size + 1) k (L.take k) n.path W r1 r2 r3 x1 x2 x3 hE hown hC hsn.1)
   have UG := hide (Pl.goI_step L (n := n) (k := k) hn (L.take k) lp)
   have HN := hide hn
   have hkey := MapN.zi9 (p := n.path) (by have := hsn.1; unfold maxLen; omega)
   have zn := Mem.zi5 wr [.string n.path, .int .i64 n.kind, .string n.data, .int .i64 n.time, .int .i64 n.mark] 47
   have bw1 : Below wr.heap.size wr (wr.alloc (.cells #[.string n.path, .int .i64 n.kind, .string n.data, .int .i64 n.time, .int .i64 n.mark] 47)) := (Below.refl _ _).alloc (Nat.le_refl _) _
   have bw2 := hbel.trans (bw1.mono hbel.size)
   have HM1 := hide (zd6 (za HM) bw1)
   clear hn HM
   simp only [Pl.Nd.val] at hnr
   go_wp2_with fail
   refine (za hnr _).mono ?_
   rintro e wA ⟨rfl, bA⟩
   have znA := Mem.zm4 zn bA
   have bwA := bw2.trans (bA.mono bw2.size)
   have HMA := hide (zd6 (za HM1) bA)
   have kA := ((za HE).call bwA).c1
   clear zn bw1 bw2 bA HM1 q0 q1 q2 q3 q4 hnr
   have c0 := znA.2 0 _ rfl
   cases hnb : Pl.zb n
   ·have F := hide (show R = false by rw [za HR2, za UG, hnb]; rfl)
    clear hnb
    go_wp2
    go_region
    go_wp2
    go_ret2
    exact ⟨.inr ⟨za F, rfl⟩, Mem.below_drewN bwA 1⟩
   have HNB := hide hnb
   clear hnb
   go_wp2_with fail
   refine (za hls _).mono ?_
   rintro e wB ⟨rfl, bB⟩
   have znB := Mem.zm4 znA bB
   have bwB := bwA.trans (bB.mono bwA.size)
   have HMB := hide (zd6 (za HMA) bB)
   have kB := ((za HE).call bwB).c1
   clear znA bwA bB HMA c0 kA hls
   have c0 := znB.2 0 _ rfl
   cases hlb : Pl.ltP lp n.path
   ·have F := hide (show R = false by rw [za HR2, za UG, za HNB, hlb]; rfl)
    clear hlb
    go_wp2
    go_region
    go_wp2
    go_ret2
    exact ⟨.inr ⟨za F, rfl⟩, Mem.below_drewN bwB 1⟩
   have HLB := hide hlb
   clear hlb
   go_wp2_with fail
   refine (za hpf _ ((za HE).call bwB) (za HMB) (Pl.inv_apart (za HI))).mono ?_
   rintro e wC ⟨rfl, bC⟩
   have znC := Mem.zm4 znB bC
   have bwC := bwB.trans (bC.mono bwB.size)
   have HMC := hide (zd6 (za HMB) bC)
   have kC := ((za HE).call bwC).c1
   clear znB bwB bC HMB c0 kB hpf
   rcases Pl.par_ok (p := n.path) (u2 := r2) (u3 := r3) (x2 := x2) (x3 := x3) (Pl.inv_apart (za HI)) with ⟨hp1, hp2⟩ | ⟨hp1, uu, xx, hp2⟩
   rotate_left
   ·have F := hide (show R = false by rw [za HR2, za UG, za HNB, za HLB, hp1]; rfl)
    rw [hp2]
    clear hp1 hp2
    go_wp2
    go_region
    go_wp2
    go_ret2
    exact ⟨.inr ⟨za F, rfl⟩, Mem.below_drewN bwC 1⟩
   have HR3 := hide (show R = Pl.goI (L.take k ++ [n]) n.path (L.drop (k + 1)) by rw [za HR2, za UG, za HNB, za HLB, hp1]; rfl)
   rw [hp2]
   clear hp1 hp2
   have c0 := znC.2 0 _ rfl
   have c1 := znC.2 1 _ rfl
   have c2 := znC.2 2 _ rfl
   have c3 := znC.2 3 _ rfl
   have c4 := znC.2 4 _ rfl
   have hzl := znC.1
   have hne : some wr.heap.size ≠ some (w.heap.size + 1) := fun e => by have := Option.some.inj e; omega
   go_wp2_with (first | (at_mapUpdate; refine wpList_mapUpdate_own _ rfl _ _ _ 101 rfl 9 47 MapN.law Tryz.underlying101 _ (w.heap.size + 1) k _ rfl (za HMC) (by unfold maxLen; omega) _ _ _ rfl rfl hkey _ [] (MapN.zi6 n) ?_; intro wD hownD hgrowD; have cD := hgrowD.cell c0 hne; have HOD := hide hownD; have bwD := bwC.grown hgrowD bwC.size (fun k hk => by cases hk; omega); clear hownD hgrowD) | fail)
   have HI2 := hide (Pl.inv_step (za HI) (za HNB) (za HLB))
   have hnl := Pl.zb8 (Pl.za9 (za HNB)).1
   have HT := hide (Pl.take_snoc' L (za HN))
   go_wp2
   go_roundw
   case rel =>
    refine ⟨k + 1, n.path, by omega, by go_num, rfl, hnl, bwD, ?_, ?_, ?_⟩
    ·rw [za HT, MapN.mapOf_snoc]; exact HOD
    ·rw [za HT]; exact HI2
    ·rw [za HT]; exact HR3
   case measure => simp [intOf]; omega
  ·obtain rfl : k = L.length := by omega
   have F := hide (show R = true by rw [za HR2, List.drop_length]; rfl)
   rw [List.take_length] at HM
   clear HR2
   go_wp2
   go_ret2
   exact ⟨.inl ⟨za F, w.heap.size + 1, rfl, by omega, (za HM).mono (by omega)⟩, hbel⟩
end zc2
end Go.Proofs.YtppmlbofhghghaaGreatDoor

namespace Go.Proofs.YtppmlbofhghghaaGreatDoor
open Go.RowKit Go.Maps
namespace zc2
set_option maxRecDepth 100000 in
theorem yj6 (a : Option Addr) (cap : Nat) (L : List Pl.Nd) (w : World) (hl : L.length ≤ 1048576) (hv : Mem.za1 w a L) (hok : ∀ n ∈ L, n.path.size ≤ 1048576 ∧ n.data.size ≤ 1048576)
  (r1 r2 r3 : TypeId) (x1 x2 x3 : Value) (hE : Errs w r1 r2 r3 x1 x2 x3) :
  Calls Tryz.prog 143 #[.agg #[.slice a L.length cap]] w fun e w' => e = .returned (.bool (Pl.za5 L)) ∧ Below w.heap.size w w' := by
 have b0 : Below w.heap.size w (w.alloc (.cells #[.slice a L.length cap] 50)) := (Below.refl _ _).alloc (Nat.le_refl _) _
 have hn := hide (yf6 a cap L _ hl (Mem.za0 hv b0) hok r1 r2 r3 x1 x2 x3 (hE.call b0))
 clear hv hok hE
 generalize Pl.za5 L = R at hn ⊢
 go_enter Tryz.func143, Tryz.ntmps143
 go_wp2_with fail
 refine (za hn).mono ?_
 rintro e w1 ⟨h1, b1⟩
 have b2 := b0.trans (b1.mono b0.size)
 clear hn b0 b1
 rcases h1 with ⟨rfl, B, rfl, -, -⟩ | ⟨rfl, rfl⟩
 ·go_wp2
  go_ret
  exact ⟨rfl, b2⟩
 ·go_wp2
  go_ret
  exact ⟨rfl, b2⟩
end zc2
end Go.Proofs.YtppmlbofhghghaaGreatDoor

namespace Go.Proofs.YtppmlbofhghghaaGreatDoor
open Go.RowKit
namespace Pl
def zd1 (L : List Nd) : Bool := za5 L && L.all (fun n => decide (n.mark = 0))
theorem plain_not {L : List Nd} (h : za5 L = false) : zd1 L = false := by simp [zd1, h]
theorem plain_bad {L : List Nd} {k : Nat} {n : Nd} (hn : L[k]? = some n) (h : n.mark ≠ 0) : zd1 L = false := by
 have : L.all (fun n => decide (n.mark = 0)) = false := by
  rw [List.all_eq_false]
  exact ⟨n, List.mem_of_getElem? hn, by simpa using h⟩
 simp [zd1, this]
theorem yn5 {L : List Nd} (h : ∀ (j : Nat) n, L[j]? = some n → n.mark = 0) : zd1 L = za5 L := by
 have : L.all (fun n => decide (n.mark = 0)) = true := by
  rw [List.all_eq_true]
  intro n hn
  obtain ⟨j, hj⟩ := List.mem_iff_getElem?.1 hn
  simpa using h j n hj
 simp [zd1, this]
theorem tree_node {L : List Nd} (h : za5 L = true) {k : Nat} {n : Nd} (hn : L[k]? = some n) : zb n = true := by
 simp only [za5, Bool.and_eq_true] at h
 exact zs9 L _ _ h.2 n (List.mem_of_getElem? hn)
theorem gone_mark {n : Nd} (h : zb n = true) (hk : n.kind = 0) : n.mark ≠ 0 := by
 have := (zd3 h).2.2.2
 simp [zk1, hk] at this
 omega
end Pl
namespace yc2
set_option maxRecDepth 100000 in
set_option maxHeartbeats 400000 in
theorem zm3 (a : Option Addr) (cap : Nat) (L : List Pl.Nd) (w : World) (hl : L.length ≤ 1048576) (hv : Mem.za1 w a L) (hok : ∀ n ∈ L, n.path.size ≤ 1048576 ∧ n.data.size ≤ 1048576) :
  Calls Tryz.prog 61 #[.agg #[.slice a L.length cap]] w fun e w' => e = .returned (.bool (Pl.zd1 L)) ∧ Below w.heap.size w w' := by
 have b0 : Below w.heap.size w (w.alloc (.cells #[.slice a L.length cap] 50)) := (Below.refl _ _).alloc (Nat.le_refl _) _
 have HV := hide (Mem.za0 hv b0)
 have hr := hide (zk5.yq1 a cap L _ hl (Mem.za0 hv b0) hok)
 have E1 : Hid (∀ (k : Nat) n, L[k]? = some n → n.mark ≠ 0 → Pl.zd1 L = false) := fun k n => Pl.plain_bad
 have E2 : Hid ((∀ (j : Nat) n, L[j]? = some n → n.mark = 0) → Pl.zd1 L = Pl.za5 L) := Pl.yn5
 generalize Pl.zd1 L = R at E1 E2 ⊢
 generalize Pl.za5 L = R2 at E2 hr
 clear hv hok
 go_enter Tryz.func61, Tryz.ntmps61
 go_wp2
 go_loop [3] (fun i => ∃ k : Nat, k ≤ L.length ∧ i = .int .i64 (k : Int) ∧ Hid (∀ (j : Nat) m, j < k → L[j]? = some m → m.mark = 0)) (fun i => L.length - (intOf i).toNat)
 case atStart => exact ⟨0, Nat.zero_le _, rfl, fun j m h => absurd h (by omega)⟩
 case round =>
  obtain ⟨k, hk, rfl, HA⟩ := hrel
  by_cases hlt : k < L.length
  ·obtain ⟨n, hn⟩ : ∃ n, L[k]? = some n := ⟨_, List.getElem?_eq_getElem hlt⟩
   obtain ⟨b, o, rfl, hb, -, -, -, -, q4⟩ := (za HV) k n hn
   have u1 : (k : Int) < (L.length : Int) := by omega
   have u3 : (0 : Int) ≤ (k : Int) := by omega
   by_cases hm : n.mark = 0
   ·have t2 : (n.mark == 0) = true := by simpa using hm
    have HA2 : Hid (∀ (j : Nat) m, j < k + 1 → L[j]? = some m → m.mark = 0) := fun j m hj hm' => by
     rcases Nat.lt_succ_iff_lt_or_eq.1 hj with h'' | rfl
     ·exact HA.out j m h'' hm'
     ·rw [hn] at hm'; cases hm'; exact hm
    clear hm hn
    go_wp2
    go_round
    case rel => exact ⟨k + 1, by omega, by go_num, HA2⟩
    case measure => simp [intOf]; omega
   ·have t2 : (n.mark == 0) = false := by simpa using hm
    have E := hide (za E1 k n hn hm)
    clear hm hn
    go_wp2
    go_ret
    exact ⟨za4 (za E).symm, b0⟩
  ·have E := hide (za E2 (fun j n h => HA.out j n (by have := (List.getElem?_eq_some_iff.1 h).1; omega) h))
   have u1 : ¬ (k : Int) < (L.length : Int) := by omega
   go_wp2_with fail
   refine (za hr).mono ?_
   rintro e w1 ⟨rfl, b1⟩
   have b2 := b0.trans (b1.mono b0.size)
   go_wp2
   go_ret
   exact ⟨za4 (za E).symm, b2⟩
set_option maxRecDepth 100000 in
set_option maxHeartbeats 400000 in
theorem zn0 (a : Option Addr) (cap : Nat) (L : List Pl.Nd) (w : World) (hl : L.length ≤ 1048576) (hv : Mem.za1 w a L) (hok : ∀ n ∈ L, n.path.size ≤ 1048576 ∧ n.data.size ≤ 1048576)
  (r1 r2 r3 : TypeId) (x1 x2 x3 : Value) (hE : zc2.Errs w r1 r2 r3 x1 x2 x3) :
  Calls Tryz.prog 119 #[.agg #[.slice a L.length cap]] w fun e w' => e = .returned (.bool (Pl.zd1 L)) ∧ Below w.heap.size w w' := by
 have b0 : Below w.heap.size w (w.alloc (.cells #[.slice a L.length cap] 50)) := (Below.refl _ _).alloc (Nat.le_refl _) _
 have HV := hide hv
 have hvar := Mem.zi5 w [.slice a L.length cap] 50
 have hr := hide (zc2.yj6 a cap L _ hl (Mem.za0 hv b0) hok r1 r2 r3 x1 x2 x3 (hE.call b0))
 have E0 : Hid (Pl.za5 L = false → Pl.zd1 L = false) := Pl.plain_not
 have E1 : Hid (∀ (k : Nat) n, L[k]? = some n → n.mark ≠ 0 → Pl.zd1 L = false) := fun k n => Pl.plain_bad
 have E2 : Hid ((∀ (j : Nat) n, L[j]? = some n → n.mark = 0) → Pl.zd1 L = Pl.za5 L) := Pl.yn5
 have E3 : Hid (Pl.za5 L = true → ∀ (k : Nat) n, L[k]? = some n → (n.kind = 0 → n.mark ≠ 0) ∧ 0 ≤ n.mark) := fun h k n hn => ⟨fun hk => Pl.gone_mark (Pl.tree_node h hn) hk, (Pl.zd3 (Pl.tree_node h hn)).2.2.1.1⟩
 generalize Pl.zd1 L = R at E0 E1 E2 ⊢
 generalize Pl.za5 L = R2 at E0 E2 E3 hr
 clear hv hok hE
 cases R2
 ·have E := hide (za E0 rfl)
  go_enter Tryz.func119, Tryz.ntmps119
  go_wp2_with fail
  refine (za hr).mono ?_
  rintro e w1 ⟨rfl, b1⟩
  have b2 := b0.trans (b1.mono b0.size)
  clear hvar
  go_wp2
  go_ret
  exact ⟨za4 (za E).symm, b2⟩
 have E4 := hide (za E3 rfl)
 clear E0 E3
 go_enter Tryz.func119, Tryz.ntmps119
 go_wp2_with fail
 refine (za hr).mono ?_
 rintro e w1 ⟨rfl, b1⟩
 have b2 := b0.trans (b1.mono b0.size)
 have c0 := (Mem.zm4 hvar b1).2 0 _ rfl
 have HV2 := hide (Mem.za0 (za HV) b2)
 clear hvar hr HV b1 b0
 go_wp2
 go_loopw [11] (fun i wr => ∃ k : Nat, k ≤ L.length ∧ i = .int .i64 (k : Int) ∧ Below w1.heap.size w1 wr ∧ Hid (∀ (j : Nat) m, j < k → L[j]? = some m → m.mark = 0)) (fun i _ => L.length - (intOf i).toNat)
 case atStart => exact ⟨0, Nat.zero_le _, rfl, Below.refl _ _, fun j m h => absurd h (by omega)⟩
 case round =>
  obtain ⟨k, hk, rfl, hbel, HA⟩ := hrel
  by_cases hlt : k < L.length
  ·obtain ⟨n, hn⟩ : ∃ n, L[k]? = some n := ⟨_, List.getElem?_eq_getElem hlt⟩
   obtain ⟨b, o, rfl, hb, q0, q1, q2, q3, q4⟩ := (Mem.za0 (za HV2) hbel) k n hn
   have hb3 : ∀ o, Below w1.heap.size w1 (wr.alloc o) := fun o => hbel.alloc hbel.size o
   have HB3 := hide hb3
   obtain ⟨m1, m2⟩ := za E4 k n hn
   have y1 : (k : Int) < (L.length : Int) := by omega
   have y3 : (0 : Int) ≤ (k : Int) := by omega
   clear hb3
   by_cases hm : n.mark = 0
   ·have t1 : (n.kind == 0) = false := by simpa using fun e => m1 e hm
    have t2 : ¬ 0 < n.mark := by omega
    have HA2 : Hid (∀ (j : Nat) m, j < k + 1 → L[j]? = some m → m.mark = 0) := fun j m hj hm' => by
     rcases Nat.lt_succ_iff_lt_or_eq.1 hj with h'' | rfl
     ·exact HA.out j m h'' hm'
     ·rw [hn] at hm'; cases hm'; exact hm
    clear hm hn m1 m2
    go_wp2
    go_roundw
    case rel => exact ⟨k + 1, by omega, by go_num, za HB3 _, HA2⟩
    case measure => simp [intOf]; omega
   ·have E := hide (za E1 k n hn hm)
    have t2 : 0 < n.mark := by omega
    clear hm hn m1 m2
    by_cases hk0 : n.kind = 0
    ·have t1 : (n.kind == 0) = true := by simpa using hk0
     clear hk0
     go_wp2
     go_ret
     exact ⟨za4 (za E).symm, b2.trans ((za HB3 _).mono b2.size)⟩
    ·have t1 : (n.kind == 0) = false := by simpa using hk0
     clear hk0
     go_wp2
     go_ret
     exact ⟨za4 (za E).symm, b2.trans ((za HB3 _).mono b2.size)⟩
  ·have E := hide (za E2 (fun j n h => HA.out j n (by have := (List.getElem?_eq_some_iff.1 h).1; omega) h))
   have y1 : ¬ (k : Int) < (L.length : Int) := by omega
   go_wp2
   go_ret
   exact ⟨za4 (za E).symm, b2.trans (hbel.mono b2.size)⟩
end yc2
end Go.Proofs.YtppmlbofhghghaaGreatDoor

