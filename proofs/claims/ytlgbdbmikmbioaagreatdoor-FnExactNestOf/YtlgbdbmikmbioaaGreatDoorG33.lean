/- Several texts of one claim in one file: WItemsOf, MemOuts, WSpI10. -/
import Derived.Test.YtlgbdbmikmbioaaGreatDoorG18
import Derived.Test.YtlgbdbmikmbioaaGreatDoorG21
import Derived.Test.YtlgbdbmikmbioaaGreatDoorG29
import Derived.Test.YtlgbdbmikmbioaaGreatDoorG32
import Derived.Laws.IdiomRangeMap
import Derived.Test.YtlgbdbmikmbioaaGreatDoorWSpI8
import Derived.Test.YtlgbdbmikmbioaaGreatDoorG28
set_option linter.unusedSimpArgs false
namespace Go.Proofs.YtlgbdbmikmbioaaGreatDoor
open Go.RowKit Go.Maps
namespace WItemsOf
set_option maxRecDepth 100000 in
theorem rise_nil (w : World) :
  Calls Tryz.prog 88 #[.map none] w fun e w' => ∃ v, e = .returned v ∧ Mem.ownN w' w.heap.size v [] ∧ Below w.heap.size w w' := by
 have hmk := zh1.makeC 0 (by omega) w
 rw [show ((0 : Nat) : Int) = 0 from rfl] at hmk
 have hr : ∀ W : World, (Instr.range 74 (.map none)).run Tryz.prog W = .ok (.pointer (some ⟨W.heap.size, 0, none⟩)) (W.alloc (.mapIter none 0 #[] 0)) := fun W => run_range_nilMap W _ _ _ Tryz.underlying74
 have hnx : ∀ (W : World) (ty : TypeId), (Instr.next (.pointer (some ⟨W.heap.size, 0, none⟩)) false ty).run Tryz.prog (W.alloc (.mapIter none 0 #[] 0)) = .ok (.tuple #[.bool false]) (W.alloc (.mapIter none 0 #[] 0)) := fun W ty => run_next_nilMap W ty 0 0 #[]
 have OW0 : Hid (Mem.ownN (w.alloc (.cells (zh1.zeros 0) 134)) w.heap.size (.slice (some ⟨w.heap.size, 0, none⟩) 0 0) []) :=
  ⟨rfl, .inr ⟨w.heap.size, _, _, rfl, Nat.le_refl _, heap_alloc_new _ _, Nat.zero_le _, by decide, size_madeCells _ _, rfl⟩⟩
 have hnx0 := hnx (w.alloc (.cells (zh1.zeros 0) 134))
 rw [show (w.alloc (.cells (zh1.zeros 0) 134)).heap.size = w.heap.size + 1 by simp] at hnx0
 have OW1 := hide (Mem.zq9 (za OW0) (.mapIter none 0 #[] 0))
 have hs := hide (zh1.sort_own (.slice (some ⟨w.heap.size, 0, none⟩) 0 0) w.heap.size [] ((w.alloc (.cells (zh1.zeros 0) 134)).alloc (.mapIter none 0 #[] 0)) (fun t ht => by cases ht) (by simp) (za OW1))
 have b1 : Below w.heap.size w ((w.alloc (.cells (zh1.zeros 0) 134)).alloc (.mapIter none 0 #[] 0)) := ((Below.refl _ _).alloc (Nat.le_refl _) _).alloc (by simp) _
 clear OW0
 go_enter Tryz.func88, Tryz.ntmps88
 go_wp2
 go_loopw [3] (fun v wr => v = .slice (some ⟨w.heap.size, 0, none⟩) 0 0 ∧ wr = (w.alloc (.cells (zh1.zeros 0) 134)).alloc (.mapIter none 0 #[] 0)) (fun _ _ => 0)
 case atStart => exact ⟨rfl, rfl⟩
 case round =>
  obtain ⟨rfl, rfl⟩ := hrel
  go_wp2_with fail
  refine (za hs).mono ?_
  rintro e w2 ⟨rfl, S, h1, h2, h3, h4⟩
  have eS : S = [] := List.Perm.eq_nil h1
  subst eS
  have O2 := hide h3
  have bw := b1.grown h4 b1.size (fun q hq => by cases hq; exact Nat.le_refl _)
  clear hs h1 h2 h3 h4 b1 OW1 hr hnx hnx0 hmk
  go_wp2
  go_ret
  exact ⟨_, rfl, za O2, bw⟩
def selfM (w : World) (qo : Option Nat) (L : List Pl.Nd) : Prop := (∃ q, qo = some q ∧ Mem.ownM w q L) ∨ (qo = none ∧ L = [])
theorem selfM.call {w w' : World} {qo : Option Nat} {L : List Pl.Nd} (h : selfM w qo L) (b : Below w.heap.size w w') : selfM w' qo L := by
 rcases h with ⟨q, h1, h2⟩ | h
 ·exact .inl ⟨q, h1, h2.call b⟩
 ·exact .inr h
theorem rise_self (qo : Option Nat) (L : List Pl.Nd) (w : World) (ht : Pl.zc9 L = true) (h : selfM w qo L) :
  Calls Tryz.prog 88 #[.map qo] w fun e w' => ∃ v, e = .returned v ∧ Mem.ownN w' w.heap.size v L ∧ Below w.heap.size w w' := by
 rcases h with ⟨q, rfl, hm⟩ | ⟨rfl, rfl⟩
 ·exact WViewI.rise_tree q L w ht hm
 ·exact rise_nil w
theorem infoI : (Tryz.prog.info? 71).map (fun i => (i.zero, i.size, i.bytes)) = some (some (.agg #[.int .i64 0, .slice none 0 0]), 2, 32) := by kernel_rfl
set_option maxRecDepth 100000 in
set_option maxHeartbeats 2000000 in
theorem items_of (n : Nat) (hn : n ≤ 1000) : ∀ (N : Nat → Prop) (K : Pl.Fx) (L : List Pl.Nd) (qo : Option Nat) (m : Int) (v : Value) (w : World), K.sz < n → Pl.zc9 L = true → K.okX → selfM w qo L → Mem.layX w N K v →
  Calls Tryz.prog 45 #[.agg #[.map qo, .int .i64 m, v]] w fun e w' => ∃ v' Is, e = .returned v' ∧ Mem.Io w' w.heap.size v' Is ∧ Is.map Pl.It.r = (m, L) :: K.flat ∧ Below w.heap.size w w' := by
 obtain ⟨i0, hi, hz0, hz1, hz2⟩ := info_parts infoI
 induction n with
 | zero => intro N K L qo m v w h; omega
 | succ n ih =>
  intro N K L qo m v w hs ht hx hm hl
  have hKl : K.len ≤ 1000 := by have := K.len_le; omega
  obtain ⟨a, cap, rfl, hrow⟩ := hl
  have b0 : Below w.heap.size w (w.alloc (.cells #[.map qo, .int .i64 m, .slice a K.len cap] 79)) := (Below.refl _ _).alloc (Nat.le_refl _) _
  have A0 := Mem.Blk.new w #[.map qo, .int .i64 m, .slice a K.len cap] 79
  have hri := hide (fun W (b : Below (w.alloc (.cells #[.map qo, .int .i64 m, .slice a K.len cap] 79)).heap.size (w.alloc (.cells #[.map qo, .int .i64 m, .slice a K.len cap] 79)) W) => rise_self qo L W ht ((hm.call b0).call b))
  have HRW : Hid (K = .nil ∨ ∃ b', a = some ⟨b', 0, none⟩ ∧ Mem.rowX (w.alloc (.cells #[.map qo, .int .i64 m, .slice a K.len cap] 79)) (fun b => b < w.heap.size) K b' 0) := by
   rcases hrow with h | ⟨g, h1, -, h2⟩
   ·exact .inl h
   ·exact .inr ⟨g, h1, Mem.zo7 (Mem.zl9 (N' := fun b => b < w.heap.size) (fun b _ hb => ⟨hb, hb, rfl⟩) K g 0 h2) b0⟩
  have HI := hide (ih (by omega))
  have HKX := hide hx
  have c0 := A0.cell 0
  have c1 := A0.cell 1
  simp only [kGs] at c0 c1
  have HX1 : Hid (w.heap.size < (w.alloc (.cells #[.map qo, .int .i64 m, .slice a K.len cap] 79)).heap.size) := A0.lt
  clear ih hrow hx hm ht
  go_enter Tryz.func45, Tryz.ntmps45
  go_wp2_with fail
  generalize w.alloc (.cells #[.map qo, .int .i64 m, .slice a K.len cap] 79) = w1 at b0 A0 hri HRW c0 c1 HX1 ⊢
  have MK : Hid (∀ W', Below w1.heap.size w1 W' → (fun W' => Below w1.heap.size w1 W' ∧ W'.cell? ⟨w.heap.size, 0, none⟩ = some (.map qo) ∧ W'.cell? ⟨w.heap.size, 1, none⟩ = some (.int .i64 m)) W') := fun W' hb => ⟨hb, (hb.cell (p := ⟨w.heap.size, 0, none⟩) (za HX1)).trans c0, (hb.cell (p := ⟨w.heap.size, 1, none⟩) (za HX1)).trans c1⟩
  clear c0 c1
  refine wp_region_held_drew (S := fun W' => Below w1.heap.size w1 W' ∧ W'.cell? ⟨w.heap.size, 0, none⟩ = some (.map qo) ∧ W'.cell? ⟨w.heap.size, 1, none⟩ = some (.int .i64 m)) (by kernel_rfl) ?_ (fun hHeld => ?_)
  ·exact za MK _ ((Below.refl _ _).trans ⟨rfl, rfl, rfl, Nat.le_refl _, fun _ _ => rfl⟩)
  refine tka (i := 0) rfl ?_
  try simp only [Act.put, kBs]
  refine tka (i := 1) rfl ?_
  try simp only [Act.put, kBs]
  refine tka (i := 2) rfl ?_
  try simp only [Act.put, kBs]
  refine tka (i := 3) rfl ?_
  try simp only [Act.put, kBs]
  refine tka (i := 4) rfl ?_
  try simp only [Act.put, kBs]
  refine tka (i := 5) rfl ?_
  try simp only [Act.put, kBs]
  refine wpAnyH_ready (rs := [6]) (by kernel_rfl) (by simp) ?_
  refine AllReadyH.cons rfl (fun K hK => ?_) AllReadyH.nil
  go_simp
  refine (za hri _ hHeld.1).mono ?_
  rintro e wX ⟨vr, rfl, ownr, bX⟩
  obtain ⟨ra, rc, hvr⟩ := Mem.zd4 ownr
  subst hvr
  have hlr : w.heap.size + 1 ≤ _ := Nat.le_trans (za HX1) hHeld.1.size
  refine hK.out _ _ ?_ (fun hHeld => ?_)
  ·exact za MK _ (hHeld.1.trans (bX.mono hHeld.1.size))
  clear hK K
  try simp only [Act.put, kBs]
  refine tka (i := 7) rfl ?_
  try simp only [Act.put, kBs]
  refine tka (i := 8) rfl ?_
  try simp only [Act.put, kBs]
  refine wpAnyH_ready (rs := [9]) (by kernel_rfl) (by simp) ?_
  refine AllReadyH.cons rfl (fun K hK => ?_) AllReadyH.nil
  go_simp
  refine hK.out _ _ ?_ (fun hHeld => ?_)
  ·exact za MK _ (hHeld.1.alloc hHeld.1.size _)
  clear hK K
  try simp only [Act.put, kBs]
  refine tka (i := 10) rfl ?_
  try simp only [Act.put, kBs]
  refine wpAnyH_done (by kernel_rfl) ?_ _
  have hb3 := hHeld.1
  have bw3 := b0.trans (hb3.mono b0.size)
  have bA : Below wX.heap.size wX (wX.alloc (.cells #[.int .i64 m, .slice ra L.length rc] 71)) := (Below.refl _ _).alloc (Nat.le_refl _) _
  have IO0 : Hid (Mem.Io (wX.alloc (.cells #[.int .i64 m, .slice ra L.length rc] 71)) (w.heap.size + 1) (.slice (some ⟨wX.heap.size, 0, none⟩) 1 1) [⟨m, ⟨ra, rc, L⟩⟩]) := hide (Mem.Io.one (t := ⟨ra, rc, L⟩) (by have h2 := bX.size; omega) (heap_alloc_new _ _) (Mem.zm3 (Mem.zl7 ownr bA) hlr) (fun q hq e => by have := (Mem.zi0 ownr q hq).2; omega))
  have A3 := A0.call hb3
  have RW3 : Hid (K = .nil ∨ ∃ b', a = some ⟨b', 0, none⟩ ∧ Mem.rowX (wX.alloc (.cells #[.int .i64 m, .slice ra L.length rc] 71)) (fun b => b < w.heap.size) K b' 0) := by
   rcases za HRW with h | ⟨g, h1, h2⟩
   ·exact .inl h
   ·exact .inr ⟨g, h1, Mem.zo7 h2 hb3⟩
  have c2 := A3.cell 2
  simp only [kGs] at c2
  have HSZ : Hid (w.heap.size + 1 ≤ (wX.alloc (.cells #[.int .i64 m, .slice ra L.length rc] 71)).heap.size) := hide (by have h1 := A3.lt; omega)
  clear hHeld MK hri HRW A0 A3 b0 ownr bX bA hb3 hlr
  generalize wX.alloc (.cells #[.int .i64 m, .slice ra L.length rc] 71) = w3 at bw3 IO0 RW3 c2 HSZ ⊢
  have IT0 : Hid ((([⟨m, ⟨ra, rc, L⟩⟩] : List Pl.It)).map Pl.It.r ++ K.flat = (m, L) :: K.flat) := rfl
  go_wp2
  go_loopw [3, 19] (fun v i wr => ∃ (j : Nat) (Is : List Pl.It) (F : Pl.Fx), i = .int .i64 (j : Int) ∧ j + F.len = K.len ∧ F.sz ≤ n ∧ Hid (Is.length + F.sz = K.sz + 1) ∧ Below w.heap.size w wr ∧ Hid (w.heap.size + 1 ≤ wr.heap.size) ∧ Hid (Mem.Io wr (w.heap.size + 1) v Is) ∧ Hid (F = .nil ∨ ∃ b', a = some ⟨b', 0, none⟩ ∧ Mem.rowX wr (fun b => b < w.heap.size) F b' (j * 3)) ∧ Hid F.okX ∧ Hid (Is.map Pl.It.r ++ F.flat = (m, L) :: K.flat)) (fun _ i _ => K.len - (intOf i).toNat)
  case atStart => exact ⟨0, _, K, rfl, by omega, by omega, hide (by simp; omega), bw3, HSZ, IO0, hide (by simpa using za RW3), HKX, IT0⟩
  case round =>
   obtain ⟨j, Is, F, rfl, hj, hsz, HIL, hbel, HSW, IO, HR, FX, IM⟩ := hrel
   clear IO0 RW3 HSZ IT0 c2 bw3
   cases F with
   | nil =>
    simp only [Pl.Fx.len] at hj
    have u1 : ¬ (j : Int) < (K.len : Int) := by omega
    have E : Hid (Is.map Pl.It.r = (m, L) :: K.flat) := hide (by have := za IM; rw [Pl.Fx.flat, List.append_nil] at this; exact this)
    have IOM := hide ((za IO).mono (show w.heap.size ≤ w.heap.size + 1 by omega))
    clear IO HR FX IM HIL
    go_wp2
    go_ret
    first | exact ⟨_, Is, rfl, za IOM, za E, hbel⟩ | exact ⟨_, rfl, Is, za IOM, za E, hbel⟩
   | cons L1 k1 m1 =>
    simp only [Pl.Fx.len, Pl.Fx.sz] at hj hsz
    obtain ⟨g1, g2, g3, g5, g6⟩ := za FX
    rcases za HR with h | ⟨g, rfl, hrw⟩
    ·cases h
    obtain ⟨⟨q1, a1, cap1, c0, c1, c2, hg, hNg, hNq, hm1, hsub⟩, hrest⟩ := hrw
    have u1 : (j : Int) < (K.len : Int) := by omega
    have u3 : (0 : Int) ≤ (j : Int) := by omega
    have HJ := hide hj
    have bA : Below wr.heap.size wr (wr.alloc (.cells #[.map (some q1), .int .i64 (k1.len : Int), .slice a1 k1.len cap1] 79)) := (Below.refl _ _).alloc (Nat.le_refl _) _
    have HL : Mem.layX wr (fun b => b < w.heap.size) k1 (.slice a1 k1.len cap1) := ⟨a1, cap1, rfl, hsub⟩
    have bw := hbel.trans (bA.mono hbel.size)
    have hcall := hide (za HI (fun b => b < w.heap.size) k1 L1 (some q1) (k1.len : Int) _ _ (by omega) g1 g5 (.inl ⟨q1, rfl, hm1.call bA⟩) (Mem.zt7 HL bA))
    have HRR := hide (Mem.zo7 hrest bA)
    have IA := hide ((za IO).call bA)
    have G6 := hide g6
    have HIL2 := HIL
    have hlo := (za IO).lt
    have hsA : (wr.alloc (.cells #[.map (some q1), .int .i64 (k1.len : Int), .slice a1 k1.len cap1] 79)).heap.size = wr.heap.size + 1 := by simp
    have HLO := hide hlo
    have HSA := hide hsA
    clear hsub hrest HL HR IO FX g1 g2 g5 g6 hm1 hlo hsA
    go_wp2_with fail
    refine (za hcall).mono ?_
    rintro e wX2 ⟨v1, Is1, rfl, io1, hr1, bX⟩
    have bw2 := bw.trans (bX.mono bw.size)
    have hIl : Is1.length = k1.sz + 1 := by have := congrArg List.length hr1; rw [List.length_map, List.length_cons, Pl.Fx.flat_len] at this; exact this
    obtain ⟨gv, cv, hv1, hcv⟩ := io1.there (by omega)
    subst hv1
    have O2 := (za IA).call bX
    have HP := hide (fun v' w4 own gr far => O2.app io1 (v' := v') (W' := w4) (by have := za HSW; have := za HSA; omega) (fun g hg => by have := ((za HLO).1 g hg).2; have := za HSA; omega) (fun i x hx g hg => by have := ((za HLO).2 i x hx g hg).2; have := za HSA; omega) own gr far)
    have HQ := hide (fun w4 (h2 : wX2.grownBy w4 _) => (⟨bw2.grown h2 bw2.size (fun k hk => by have := (O2.lt.1 k hk).1; omega), Mem.zl9 (fun b hb hlt => ⟨hb, Nat.lt_of_lt_of_le hlt h2.size, h2.block b hlt (fun e => by have := (O2.lt.1 b e.symm).1; omega)⟩) _ _ _ (Mem.zo7 (za HRR) bX)⟩ : Below w.heap.size w w4 ∧ Mem.rowX w4 (fun b => b < w.heap.size) m1 g (j * 3 + 3)))
    have HRO := hide O2.row
    have HSB : Hid (w.heap.size + 1 ≤ wX2.heap.size) := hide (by have h1 := za HSW; have h2 := bX.size; have h3 := za HSA; omega)
    have HCV := hide hcv
    have IM2 : Hid ((Is ++ Is1).map Pl.It.r ++ m1.flat = (m, L) :: K.flat) := hide (by have h := za IM; rw [Pl.Fx.flat] at h; rw [List.map_append, hr1, ← h]; simp)
    have HIL3 : Hid ((Is ++ Is1).length + m1.sz = K.sz + 1) := hide (by have h := za HIL2; simp only [Pl.Fx.sz] at h; rw [List.length_append]; omega)
    have hIs : Is.length ≤ 1001 := by have h := za HIL2; omega
    have hIs1 : Is1.length ≤ 1001 := by omega
    clear O2 IA io1 hr1 bX bw bw2 hcall HRR IM hcv HIL HIL2 HLO HSA bA hIl HSW hbel
    go_wp2_with (at_builtin; refine Mem.zi6 _ rfl _ _ 32 rfl (w.heap.size + 1) 71 i0 (.agg #[.int .i64 0, .slice none 0 0]) 2 32 Tryz.underlying32 hi hz0 hz1 hz2 rfl (by decide) _ _ _ rfl (za HRO) ⟨gv, 0, none⟩ Is1.length cv (Pl.zb0 Is1) rfl (Pl.zt2 Is1) (za HCV) (Pl.zw0 Is1) (by unfold maxLen; omega) (by omega) (za HSB) ?_)
    intro v' w4 own' hgrow hfar
    have I2 := hide (za HP v' w4 own' hgrow hfar)
    obtain ⟨bw4, HR2⟩ := za HQ w4 hgrow
    have HR3 : Hid (m1 = .nil ∨ ∃ b', some ⟨g, 0, none⟩ = some (⟨b', 0, none⟩ : Addr) ∧ Mem.rowX w4 (fun b => b < w.heap.size) m1 b' ((j + 1) * 3)) := hide (.inr ⟨g, rfl, by rw [show (j + 1) * 3 = j * 3 + 3 by omega]; exact HR2⟩)
    have HS4 : Hid (w.heap.size + 1 ≤ w4.heap.size) := hide (by have h1 := hgrow.size; have h2 := za HSB; omega)
    clear HP HQ HRO own' hgrow hfar HR2 HCV HSB
    go_wp2
    go_roundw
    case rel => exact ⟨j + 1, Is ++ Is1, m1, by go_num, by have h := za HJ; omega, by omega, HIL3, bw4, HS4, I2, HR3, G6, IM2⟩
    case measure => (have h := za HJ; simp [intOf]; omega)
end WItemsOf
end Go.Proofs.YtlgbdbmikmbioaaGreatDoor

namespace Go.Proofs.YtlgbdbmikmbioaaGreatDoor
open Go.RowKit
namespace WFlat
def Outs (w w' : World) (C : Int) (O : List (Int × List Pl.Nd)) (e : Ending) : Prop := ∃ v Is, e = .returned (.agg #[v, .int .i64 C]) ∧ Mem.Io w' w.heap.size v Is ∧ Is.map Pl.It.r = O
end WFlat
end Go.Proofs.YtlgbdbmikmbioaaGreatDoor

namespace Go.Proofs.YtlgbdbmikmbioaaGreatDoor
open Go.RowKit Go.Maps
namespace WSpI
theorem items_nest (m : Option Nat) (n : Nat) (a : Option Addr) (cap : Nat) (R : List (Int × List Pl.Nd)) (B : Nat) (w : World) (h : Mem.zf6 w B ⟨m, n, a, cap⟩ R) (hl : R.length ≤ 12) :
  Calls Tryz.prog 45 #[.agg #[.map m, .int .i64 (n : Int), .slice a n cap]] w fun e w' => ∃ v' Is, e = .returned v' ∧ Mem.Io w' w.heap.size v' Is ∧ Is.map Pl.It.r = R ∧ Below w.heap.size w w' := by
 obtain ⟨L, k, q, h1, h2, ⟨⟨h3, h4⟩, h5⟩, ⟨h6, h7⟩, h8⟩ := h
 simp only at h1 h2 h4 h8
 subst h1 h2
 have hk : k.sz < 1000 := by
  have := congrArg List.length h7
  rw [Pl.Fx.flat_len, Pl.Fx.sz, Pl.Fx.sz] at this
  omega
 refine (WItemsOf.items_of 1000 (Nat.le_refl _) _ k L (some q) (k.len : Int) (.slice a k.len cap) w hk h6.1 h6.2.2.2.1 (.inl ⟨q, rfl, h5⟩) h8).mono fun e w' ⟨v', Is, g1, g2, g3, g4⟩ => ⟨v', Is, g1, g2, ?_, g4⟩
 rw [g3, ← h7]
 simp [Pl.Fx.flat]
set_option linter.unusedSimpArgs false in
set_option maxRecDepth 100000 in
set_option maxHeartbeats 1000000 in
theorem zr4 (s : Pl.Sp) (d : Int) (hd : MapI.i64 d) (w : World) (hok : za9.OkS s 1048576) (hn : OkN s) (ha : OkA s) (hv : Mem.zd3 w s)
  (r0 r1 r2 r3 : TypeId) (x0 x1 x2 x3 : Value) (hE : zj0.Errs4 w r0 r1 r2 r3 x0 x1 x2 x3) :
  Calls Tryz.prog 17 #[.agg s.cs, .int .i64 d] w fun e w' => WFlat.Outs w w' (Pl.nestC (Pl.zd1 s.next (s.N.map WSp.nr) s.M s.H Pl.wayB) (Pl.zc8 (s.N.map Pl.Ns.r) d)) (Pl.zj4 (Pl.zd1 s.next (s.N.map WSp.nr) s.M s.H Pl.wayB) (Pl.zc8 (s.N.map Pl.Ns.r) d)) e ∧ Below w.heap.size w w' := by
 have HX := hide (fun W (b : Below w.heap.size w W) => zu4 s W hok hn ha (hv.call b) r0 r1 r2 r3 x0 x1 x2 x3 (hE.call b))
 rw [Pl.zr6] at HX
 have HRI := hide (fun h => Pl.zp2 (N := s.N) (M := s.M) (H := s.H) (next := s.next) (way := Pl.wayB) h)
 have HAP := hide (fun (E : List (Int × Pl.Nv)) (h : Pl.zd1 s.next (s.N.map WSp.nr) s.M s.H Pl.wayB = true) (e : E.map (·.1) = s.N.map (·.d)) => ids_apart (by rw [← Pl.zr6] at h; unfold Pl.zm4 at h; simp only [Bool.and_eq_true] at h; exact h.1.1.1.2) e)
 generalize Pl.zd1 s.next (s.N.map WSp.nr) s.M s.H Pl.wayB = RB at HX HRI HAP ⊢
 have HNA := hide (fun (E : List (Int × Pl.Nv)) (P : Pl.Nv → Pl.Ns → Prop) (h1 : E.map (·.1) = s.N.map (·.d)) h2 => Pl.nestAt_get (P := P) E s.N d h1 h2)
 generalize hNE : Pl.zc8 (s.N.map Pl.Ns.r) d = o at HNA ⊢
 clear hok hn ha hv hE hNE
 obtain ⟨ia, ic, N, ma, mc, M, ha, hc, H, next⟩ := s
 simp only at HRI HNA HAP ⊢
 unfold Pl.Sp.cs at HX ⊢
 simp only at HX ⊢
 have bb0 : Below w.heap.size w ((w.alloc (.cells #[.slice ia N.length ic, .slice ma M.length mc, .slice ha H.length hc, .int .i64 next] 28)).alloc (.cells #[.slice none 0 0, .int .i64 0] 46)) := ((Below.refl _ _).alloc (Nat.le_refl _) _).alloc (by simp) _
 have V0 := hide ((Mem.Blk.new w #[.slice ia N.length ic, .slice ma M.length mc, .slice ha H.length hc, .int .i64 next] 28).alloc (.cells #[.slice none 0 0, .int .i64 0] 46))
 have R0 : Hid (Mem.Blk ((w.alloc (.cells #[.slice ia N.length ic, .slice ma M.length mc, .slice ha H.length hc, .int .i64 next] 28)).alloc (.cells #[.slice none 0 0, .int .i64 0] 46)) (w.heap.size + 1) #[.slice none 0 0, .int .i64 0] 46) := hide (Mem.zj9 _ _ _)
 have a0 := (za V0).cell 0
 have a1 := (za V0).cell 1
 have a2 := (za V0).cell 2
 have a3 := (za V0).cell 3
 simp only [kGs] at a0 a1 a2 a3
 go_enter Tryz.func17, Tryz.ntmps17
 go_wp2_with fail
 generalize (w.alloc (.cells #[.slice ia N.length ic, .slice ma M.length mc, .slice ha H.length hc, .int .i64 next] 28)).alloc (.cells #[.slice none 0 0, .int .i64 0] 46) = wA at bb0 V0 R0 a0 a1 a2 a3 ⊢
 refine (za HX _ bb0).mono ?_
 rintro e w1 ⟨hS, bX⟩
 have b1 := bb0.trans (bX.mono bb0.size)
 have R1 := hide ((za R0).call bX)
 have hwA : w.heap.size + 1 < wA.heap.size := (za R0).lt
 clear HX bX V0 a0 a1 a2 a3 bb0 R0
 rcases hS with ⟨hR, q, E, sa, sc, ta, tc, rfl, hG⟩ | ⟨hR, q, sa, sl, sc, ta, tl, tc, n, rfl⟩
 rotate_left
 ·have b2 := b1.alloc (o := .cells #[.map q, .slice sa sl sc, .slice ta tl tc, .int .i64 n] 87) b1.size
  have HC : Hid (Pl.nestC RB o = 1) := hide (by rw [hR]; rfl)
  have HL : Hid (Pl.zj4 RB o = []) := hide (by rw [hR]; rfl)
  have R2 := (za R1).alloc (.cells #[.map q, .slice sa sl sc, .slice ta tl tc, .int .i64 n] 87)
  have HB := hide b2
  have d0 := R2.cell 0
  have d1 := R2.cell 1
  have f0 := R2.fr 0
  have f1 := R2.fr 1
  simp only [kGs] at d0 d1
  clear hR b1 b2 R1 R2 HRI HNA HAP
  go_wp2
  refine bodyPost_ret (v := .agg #[.slice none 0 0, .int .i64 1]) (by simp [results, Tryz.results17, go_sem, d0, d1]) rfl ⟨by rw [za HC, za HL]; exact ⟨_, [], rfl, Mem.Io.nil _ _, rfl⟩, ?_⟩
  first | exact ((za HB).setCell (by show w.heap.size ≤ w.heap.size + 1; omega) _).setCell (by show w.heap.size ≤ w.heap.size + 1; omega) _ | exact (za HB).setCell (by show w.heap.size ≤ w.heap.size + 1; omega) _
 have bA : Below w1.heap.size w1 (w1.alloc (.cells #[.map (some q), .slice sa M.length sc, .slice ta H.length tc, .int .i64 next] 87)) := (Below.refl _ _).alloc (Nat.le_refl _) _
 have b2 := b1.alloc (o := .cells #[.map (some q), .slice sa M.length sc, .slice ta H.length tc, .int .i64 next] 87) b1.size
 have Y2 := hide (Mem.Blk.new w1 #[.map (some q), .slice sa M.length sc, .slice ta H.length tc, .int .i64 next] 87)
 have R2 := hide ((za R1).call bA)
 have HM2 := hide (hG.call bA).mo
 have HLK := hide (Pl.zp1 (za HAP E hR hG.ids) d)
 have HNS := hide ((hG.call bA).nests)
 have HIDS := hide hG.ids
 have HG2 := hide (za HNA E (fun y x => Mem.zf6 (w1.alloc (.cells #[.map (some q), .slice sa M.length sc, .slice ta H.length tc, .int .i64 next] 87)) (q + 1) y (x.Is.map Pl.It.r)) hG.ids (fun i y hy => by
  obtain ⟨x, k1, -, k3⟩ := za HNS i y hy
  exact ⟨x, k1, k3⟩))
 have HSM := hide (fun x hx => Pl.zs3 (za HRI hR x hx))
 have hkey := MapI.zj6 hd
 have y0 := (za Y2).cell 0
 simp only [kGs] at y0
 clear hG HNS HNA HAP HRI b1 R1
 go_upto_region 4 with fail
 generalize w1.alloc (.cells #[.map (some q), .slice sa M.length sc, .slice ta H.length tc, .int .i64 next] 87) = w2 at b2 Y2 R2 HM2 HG2 y0 ⊢
 by_cases hin : d ∈ E.map (·.1)
 ·obtain ⟨x, ho, hnv, hx⟩ := (za HG2).2 hin
  obtain ⟨sm1, sm2, sm3⟩ := za HSM x hx
  have HHAS : Hid (Maps.has (MapI.mapOf (Pl.vals E)) (MapI.key d) = true) := hide (by rw [(za HLK).1]; exact decide_eq_true hin)
  have HAT := hide (za HLK).2
  generalize hNV : Pl.getN E d = nv at HAT hnv
  obtain ⟨nm, nn, na, nc⟩ := nv
  simp only at HAT
  have HC : Hid (Pl.nestC RB o = 0) := hide (by rw [hR, ho]; rfl)
  have HL : Hid (Pl.zj4 RB o = x.Is.map Pl.It.r) := hide (by rw [hR, ho]; rfl)
  have bA : Below w2.heap.size w2 (w2.alloc (.cells #[.map nm, .int .i64 (nn : Int), .slice na nn nc] 79)) := (Below.refl _ _).alloc (Nat.le_refl _) _
  have b3 := b2.alloc (o := .cells #[.map nm, .int .i64 (nn : Int), .slice na nn nc] 79) b2.size
  have HIT := hide (items_nest nm nn na nc (x.Is.map Pl.It.r) (q + 1) (w2.alloc (.cells #[.map nm, .int .i64 (nn : Int), .slice na nn nc] 79)) (hnv.call bA) (by omega))
  have R3 := hide ((za R2).call bA)
  have Z3 := hide (Mem.Blk.new w2 #[.map nm, .int .i64 (nn : Int), .slice na nn nc] 79)
  generalize x.Is.map Pl.It.r = O at HIT HL sm1 sm2
  have z0 := (za Z3).cell 0
  have z1 := (za Z3).cell 1
  have z2 := (za Z3).cell 2
  simp only [kGs] at z0 z1 z2
  clear hnv hNV hin ho hx sm1 sm2 sm3 HSM HG2 HLK hR Y2 R2 HIDS
  go_wp2_with (first | (at_lookup; refine MapI.look_ok _ rfl _ _ 85 rfl 2 79 MapI.law Tryz.underlying85 _ (Pl.zm6 _) q 12 _ rfl (za HM2) _ _ rfl hkey _ (za HAT) true (za HHAS) ?_) | fail)
  generalize w2.alloc (.cells #[.map nm, .int .i64 (nn : Int), .slice na nn nc] 79) = w3 at b3 HIT R3 Z3 z0 z1 z2 ⊢
  refine (za HIT).mono ?_
  rintro e w7 ⟨v7, Js, rfl, io7, hr7, b7⟩
  obtain ⟨a7, c7, rfl⟩ := Mem.zd4 io7.row
  have hRl := (za R3).lt
  have V7 := (za R3).call b7
  have OW := hide (((io7.set ⟨w.heap.size + 1, 0, none⟩ (.slice a7 Js.length c7) (by show w.heap.size + 1 < _; omega)).set ⟨w.heap.size + 1, 1, none⟩ (.int .i64 0) (by show w.heap.size + 1 < _; omega)).mono (show w.heap.size ≤ w3.heap.size by omega))
  have HR7 := hide hr7
  have HB := hide (b3.trans (b7.mono b3.size))
  have d0 := V7.cell 0
  have d1 := V7.cell 1
  have f0 := V7.fr 0
  have f1 := V7.fr 1
  simp only [kGs] at d0 d1
  clear HIT io7 b7 V7 b3 Z3 z0 z1 z2 hr7 bA HM2 HAT HHAS R3 y0
  go_wp2
  refine bodyPost_ret (v := .agg #[.slice a7 Js.length c7, .int .i64 0]) (by simp [results, Tryz.results17, go_sem, d0, d1]) rfl ⟨by rw [za HC, za HL]; exact ⟨_, Js, rfl, za OW, za HR7⟩, ?_⟩
  exact ((za HB).setCell (by show w.heap.size ≤ w.heap.size + 1; omega) _).setCell (by show w.heap.size ≤ w.heap.size + 1; omega) _
 ·have ho := (za HG2).1 hin
  have HHAS : Hid (Maps.has (MapI.mapOf (Pl.vals E)) (MapI.key d) = false) := hide (by rw [(za HLK).1]; exact decide_eq_false hin)
  have HAT := hide (za HLK).2
  generalize Pl.getN E d = nv at HAT
  obtain ⟨nm, nn, na, nc⟩ := nv
  simp only at HAT
  have HC : Hid (Pl.nestC RB o = 6) := hide (by rw [hR, ho]; rfl)
  have HL : Hid (Pl.zj4 RB o = []) := hide (by rw [hR, ho]; rfl)
  have b3 := b2.alloc (o := .cells #[.map nm, .int .i64 (nn : Int), .slice na nn nc] 79) b2.size
  have V7 := (za R2).alloc (.cells #[.map nm, .int .i64 (nn : Int), .slice na nn nc] 79)
  have HB := hide b3
  have d0 := V7.cell 0
  have d1 := V7.cell 1
  have f0 := V7.fr 0
  have f1 := V7.fr 1
  simp only [kGs] at d0 d1
  clear hin ho HSM HG2 HLK hR Y2 R2 HIDS V7 b3
  go_wp2_with (first | (at_lookup; refine MapI.look_ok _ rfl _ _ 85 rfl 2 79 MapI.law Tryz.underlying85 _ (Pl.zm6 _) q 12 _ rfl (za HM2) _ _ rfl hkey _ (za HAT) false (za HHAS) ?_) | fail)
  refine bodyPost_ret (v := .agg #[.slice none 0 0, .int .i64 6]) (by simp [results, Tryz.results17, go_sem, d0, d1]) rfl ⟨by rw [za HC, za HL]; exact ⟨_, [], rfl, Mem.Io.nil _ _, rfl⟩, ?_⟩
  first | exact ((za HB).setCell (by show w.heap.size ≤ w.heap.size + 1; omega) _).setCell (by show w.heap.size ≤ w.heap.size + 1; omega) _ | exact (za HB).setCell (by show w.heap.size ≤ w.heap.size + 1; omega) _
end WSpI
end Go.Proofs.YtlgbdbmikmbioaaGreatDoor

