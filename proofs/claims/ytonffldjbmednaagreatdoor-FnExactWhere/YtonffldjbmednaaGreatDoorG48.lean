/- Several texts of one claim in one file: WHdM, WHdH, WSpO2, OkNode, OkItems, OpenNode, OpenTree, OpenItems. -/
import Derived.Test.YtonffldjbmednaaGreatDoorG02
import Derived.Test.YtonffldjbmednaaGreatDoorG34
import Derived.Deep.Cut
import Derived.Test.YtonffldjbmednaaGreatDoorG47
import Derived.Test.YtonffldjbmednaaGreatDoorG00
import Derived.Below
import Derived.Test.YtonffldjbmednaaGreatDoorG03
import Derived.Test.YtonffldjbmednaaGreatDoorRows
import Derived.ProofKit
import Derived.OpenShut
import Derived.ShutString
import Derived.ChangeOld
namespace Go.Proofs.YtonffldjbmednaaGreatDoor
open Go.RowKit
namespace WMkM
set_option linter.unusedSimpArgs false in
set_option maxRecDepth 100000 in
set_option maxHeartbeats 2000000 in
theorem ze9 (a : Option Addr) (n cap K : Nat) (w : World) (hn : n ≤ 1048576) (hK : 0 < K) (hK2 : K ≤ 1000000) (hv : Mem.zb4 w a (Pl.mkMns K n)) :
  Calls Tryz.prog 77 #[.slice a n cap, .int .i64 (K : Int)] w fun e w' => e = .returned (.int .i64 ((K + 3 * n : Nat) : Int)) ∧ Below w.heap.size w w' := by
 have HV := hide hv
 clear hv
 go_enter Tryz.func77, Tryz.ntmps77
 go_wp2
 go_loopw [1, 5] (fun v i wr => ∃ (k q : Nat), k ≤ n ∧ q = K + 3 * k ∧ i = .int .i64 (k : Int) ∧ v = .int .i64 (q : Int) ∧ Below w.heap.size w wr) (fun _ i _ => n - (intOf i).toNat)
 case atStart => exact ⟨0, K, Nat.zero_le _, rfl, rfl, rfl, Below.refl _ _⟩
 case round =>
  obtain ⟨k, q, hk, hq, rfl, rfl, hbel⟩ := hrel
  by_cases hlt : k < n
  ·have y1 : (k : Int) < (n : Int) := by omega
   have y3 : (0 : Int) ≤ (k : Int) := by omega
   have hg0 := Pl.mkMns_get K n k hlt
   simp only [Pl.mkMn, ← hq] at hg0
   obtain ⟨g, o, rfl, hg, c0, c1, c2⟩ := (Mem.zc7 (za HV) hbel) k _ hg0
   simp only at c0 c1 c2
   rw [show ((q + 1 : Nat) : Int) = (q : Int) + 1 by omega] at c1
   rw [← Pl.third_is] at c2
   have HM := hide (fun W => zo0.zc5 q W (by omega) (by omega))
   have HQ := hide hq
   have q1 : (q : Int) ≤ 100000000 := by omega
   clear hq hg0
   have MK : Hid (∀ W', Below wr.heap.size wr W' → (Below wr.heap.size wr W' ∧ W'.cell? ⟨g, o + k * 3, none⟩ = some (.string (Pl.mark q)))) := fun W' b => ⟨b, (b.cell (p := ⟨g, _, none⟩) hg).trans c0⟩
   go_upto_region 4 with fail
   refine wp_region_held_drew (S := fun W' => Below wr.heap.size wr W' ∧ W'.cell? ⟨g, o + k * 3, none⟩ = some (.string (Pl.mark q))) (by kernel_rfl) ?_ (fun hHeld => ?_)
   ·exact za MK _ ((Below.refl _ _).trans ⟨rfl, rfl, rfl, Nat.le_refl _, fun _ _ => rfl⟩)
   generalize wr.drew = D0 at hHeld ⊢
   refine tka (i := 0) rfl ?_
   try simp only [Act.put, kBs]
   refine tka (i := 1) rfl ?_
   try simp only [Act.put, kBs]
   refine tka (i := 2) rfl ?_
   try simp only [Act.put, kBs]
   refine tka (i := 3) rfl ?_
   try simp only [Act.put, kBs]
   refine tka (i := 4) rfl ?_
   try simp only [Act.put, kBs]
   refine tka (i := 5) rfl ?_
   try simp only [Act.put, kBs]
   refine wpAnyH_ready (rs := [6]) (by kernel_rfl) (by simp) ?_
   refine AllReadyH.cons rfl (fun K hK => ?_) AllReadyH.nil
   go_simp
   refine (za HM _).mono ?_
   rintro e D1 ⟨rfl, bX⟩
   refine hK.out _ _ ?_ (fun hHeld => ?_)
   ·exact za MK _ (hHeld.1.trans (bX.mono hHeld.1.size))
   clear hK K bX
   try simp only [Act.put, kBs]
   refine tka (i := 7) rfl ?_
   try simp only [Act.put, kBs]
   refine wpAnyH_done (by kernel_rfl) ?_ _
   have b1 := hHeld.1
   clear hHeld
   have bN := hbel.trans (b1.mono hbel.size)
   replace c1 := (b1.cell (p := ⟨g, _, none⟩) hg).trans c1
   replace c2 := (b1.cell (p := ⟨g, _, none⟩) hg).trans c2
   clear c0 MK b1
   go_wp2
   go_roundw
   case rel => exact ⟨k + 1, q + 3, by omega, by have := za HQ; omega, by go_num, by go_num, bN⟩
   case measure => simp [intOf]; omega
  ·obtain rfl : k = n := by omega
   have y1 : ¬ (k : Int) < (k : Int) := by omega
   have hq2 : (q : Int) = ((K + 3 * k : Nat) : Int) := by omega
   have HQ := hide hq2
   clear hq hq2
   go_wp2
   go_ret
   exact ⟨(by rw [za HQ]; first | done | rfl), hbel⟩
end WMkM
end Go.Proofs.YtonffldjbmednaaGreatDoor

namespace Go.Proofs.YtonffldjbmednaaGreatDoor
open Go.RowKit
namespace WMkH
set_option linter.unusedSimpArgs false in
set_option maxRecDepth 100000 in
set_option maxHeartbeats 2000000 in
theorem ze9 (a : Option Addr) (n cap K : Nat) (w : World) (hn : n ≤ 1048576) (hK : 0 < K) (hK2 : K ≤ 1000000) (hv : Mem.zc4 w a (Pl.mkHns K n)) :
  Calls Tryz.prog 78 #[.slice a n cap, .int .i64 (K : Int)] w fun e w' => e = .returned (.int .i64 ((K + 3 * n : Nat) : Int)) ∧ Below w.heap.size w w' := by
 have HV := hide hv
 clear hv
 go_enter Tryz.func78, Tryz.ntmps78
 go_wp2
 go_loopw [1, 5] (fun v i wr => ∃ (k q : Nat), k ≤ n ∧ q = K + 3 * k ∧ i = .int .i64 (k : Int) ∧ v = .int .i64 (q : Int) ∧ Below w.heap.size w wr) (fun _ i _ => n - (intOf i).toNat)
 case atStart => exact ⟨0, K, Nat.zero_le _, rfl, rfl, rfl, Below.refl _ _⟩
 case round =>
  obtain ⟨k, q, hk, hq, rfl, rfl, hbel⟩ := hrel
  by_cases hlt : k < n
  ·have y1 : (k : Int) < (n : Int) := by omega
   have y3 : (0 : Int) ≤ (k : Int) := by omega
   have hg0 := Pl.mkHns_get K n k hlt
   simp only [Pl.mkHn, ← hq] at hg0
   obtain ⟨g, o, rfl, hg, c0, c1, c2⟩ := (Mem.zd6 (za HV) hbel) k _ hg0
   simp only at c0 c1 c2
   rw [show ((q + 1 : Nat) : Int) = (q : Int) + 1 by omega] at c1
   have HM := hide (fun W => zo0.zc5 (q + 2) W (by omega) (by omega))
   rw [show ((q + 2 : Nat) : Int) = (q : Int) + 1 + 1 by omega] at HM
   have HQ := hide hq
   have q1 : (q : Int) ≤ 100000000 := by omega
   clear hq hg0
   have MK : Hid (∀ W', Below wr.heap.size wr W' → (Below wr.heap.size wr W' ∧ W'.cell? ⟨g, o + k * 3 + 2, none⟩ = some (.string (Pl.mark (q + 2))))) := fun W' b => ⟨b, (b.cell (p := ⟨g, _, none⟩) hg).trans c2⟩
   go_upto_region 10 with fail
   refine wp_region_held_drew (S := fun W' => Below wr.heap.size wr W' ∧ W'.cell? ⟨g, o + k * 3 + 2, none⟩ = some (.string (Pl.mark (q + 2)))) (by kernel_rfl) ?_ (fun hHeld => ?_)
   ·exact za MK _ ((Below.refl _ _).trans ⟨rfl, rfl, rfl, Nat.le_refl _, fun _ _ => rfl⟩)
   generalize wr.drew = D0 at hHeld ⊢
   refine tka (i := 0) rfl ?_
   try simp only [Act.put, kBs]
   refine tka (i := 1) rfl ?_
   try simp only [Act.put, kBs]
   refine tka (i := 2) rfl ?_
   try simp only [Act.put, kBs]
   refine tka (i := 3) rfl ?_
   try simp only [Act.put, kBs]
   refine tka (i := 4) rfl ?_
   try simp only [Act.put, kBs]
   refine tka (i := 5) rfl ?_
   try simp only [Act.put, kBs]
   refine wpAnyH_ready (rs := [6]) (by kernel_rfl) (by simp) ?_
   refine AllReadyH.cons rfl (fun K hK => ?_) AllReadyH.nil
   go_simp
   refine (za HM _).mono ?_
   rintro e D1 ⟨rfl, bX⟩
   refine hK.out _ _ ?_ (fun hHeld => ?_)
   ·exact za MK _ (hHeld.1.trans (bX.mono hHeld.1.size))
   clear hK K bX
   try simp only [Act.put, kBs]
   refine tka (i := 7) rfl ?_
   try simp only [Act.put, kBs]
   refine wpAnyH_done (by kernel_rfl) ?_ _
   have b1 := hHeld.1
   clear hHeld
   have bN := hbel.trans (b1.mono hbel.size)
   clear c0 c1 c2 MK b1
   go_wp2
   go_roundw
   case rel => exact ⟨k + 1, q + 3, by omega, by have := za HQ; omega, by go_num, by go_num, bN⟩
   case measure => simp [intOf]; omega
  ·obtain rfl : k = n := by omega
   have y1 : ¬ (k : Int) < (k : Int) := by omega
   have hq2 : (q : Int) = ((K + 3 * k : Nat) : Int) := by omega
   have HQ := hide hq2
   clear hq hq2
   go_wp2
   go_ret
   exact ⟨(by rw [za HQ]; first | done | rfl), hbel⟩
end WMkH
end Go.Proofs.YtonffldjbmednaaGreatDoor

set_option linter.unusedSimpArgs false
namespace Go.Proofs.YtonffldjbmednaaGreatDoor
open Go.RowKit
namespace WSpO
def kF (u : Pl.Sp) : Nat := Pl.kZ 1 u.N u.N.length + 3 * u.M.length + 3 * u.H.length
theorem kZ_small {u : Pl.Sp} (hs : Sm u) : Pl.kZ 1 u.N u.N.length ≤ 50000 ∧ 0 < Pl.kZ 1 u.N u.N.length := by
 have h1 := Pl.kZ_le 1 u.N (fun x hx => ⟨(hs.i x hx).1, (hs.i x hx).2.2⟩) _ (Nat.le_refl _)
 have h2 := Pl.kZ_ge 1 u.N u.N.length
 have := hs.n
 omega
set_option maxRecDepth 100000 in
set_option maxHeartbeats 1000000 in
theorem markSp_any (u : Pl.Sp) (S1 S2 S3 HH : Nat) (lo hi : Nat → Nat) (w : World) (hs : Sm u) (h : An w u S1 S2 S3 HH lo hi) :
  Calls Tryz.prog 13 #[.agg u.cs, .int .i64 1] w fun e w' => e = .returned (.int .i64 (kF u : Int)) ∧ Mk8 w' u ∧ Mem.Band S1 HH w w' := by
 obtain ⟨hk1, hk0⟩ := kZ_small hs
 have c1 := hide (fun W (b : Below w.heap.size w W) => marksZ u S1 S2 S3 HH lo hi W hs (h.call b))
 have c2 := hide (fun W K h0 h1 (o : Mem.own3 50 Pl.Mn.cs W S2 (.slice u.ma u.M.length u.mc) u.M) => marksM u.M u.ma u.mc S2 K W h0 h1 hs.m o)
 have c3 := hide (fun W K h0 h1 (o : Mem.own3 87 Pl.Hn.cs W S3 (.slice u.ha u.H.length u.hc) u.H) => marksH u.H u.ha u.hc S3 K W h0 h1 hs.h o)
 have HA := hide h
 have hM := hs.m
 have hH := hs.h
 have hq2 := h.s2
 have hq3 := h.s3
 have hq4 := h.s4
 have hq5 := h.s5
 have HKF : Hid (kF u = Pl.kZ 1 u.N u.N.length + 3 * u.M.length + 3 * u.H.length) := hide rfl
 unfold Pl.Sp.cs
 have b0 := (Below.refl w.heap.size w).alloc (o := .cells #[.slice u.ia u.N.length u.ic, .slice u.ma u.M.length u.mc, .slice u.ha u.H.length u.hc, .int .i64 u.next] 32) (Nat.le_refl _)
 have V0 := hide (Mem.Blk.new w #[.slice u.ia u.N.length u.ic, .slice u.ma u.M.length u.mc, .slice u.ha u.H.length u.hc, .int .i64 u.next] 32)
 have a0 := (za V0).cell 0
 simp only [kGs] at a0
 clear hs h
 go_enter Tryz.func13, Tryz.ntmps13
 go_wp2_with fail
 have HC := hide (za c1 _ b0)
 have HA1 := hide ((za HA).call b0)
 have D0 : Hid (Mem.Band S1 HH w (w.alloc (.cells #[.slice u.ia u.N.length u.ic, .slice u.ma u.M.length u.mc, .slice u.ha u.H.length u.hc, .int .i64 u.next] 32))) := hide (Mem.Band.of_below b0)
 clear c1 HA
 generalize w.alloc (.cells #[.slice u.ia u.N.length u.ic, .slice u.ma u.M.length u.mc, .slice u.ha u.H.length u.hc, .int .i64 u.next] 32) = wA at b0 V0 a0 HC HA1 D0 ⊢
 refine (za HC).mono ?_
 rintro e w1 ⟨rfl, mz, bd⟩
 have hlV : w.heap.size < wA.heap.size := (za V0).lt
 have V1 := hide (bd.blk (za V0) (.inr (by omega)))
 have MZ1 := hide mz
 have om1 := Mem.row_same (za HA1).om (fun g hg => bd.block g (Mem.zh3 (za HA1).om g hg).2 (.inr (Mem.zh3 (za HA1).om g hg).1))
 have oh1 := Mem.row_same (za HA1).oh (fun g hg => bd.block g (Mem.zh3 (za HA1).oh g hg).2 (.inr (by have := (Mem.zh3 (za HA1).oh g hg).1; omega)))
 have D1 := hide ((za D0).trans ⟨bd.os, bd.tape, bd.output, bd.size, fun b hb hh => bd.block b hb (by omega)⟩)
 have OH1 := hide oh1
 have OM1 := hide om1
 have R1 := hide (za HA1).r1
 have H1 := hide (za HA1).h1
 have R2 := hide (za HA1).r2
 have R3 := hide (za HA1).r3
 have hl1 := bd.size
 clear HC mz bd om1 oh1 HA1 V0 D0 a0 b0
 have a1 := (za V1).cell 1
 simp only [kGs] at a1
 have HC := hide (za c2 w1 (Pl.kZ 1 u.N u.N.length) hk0 (by omega) (za OM1))
 generalize hKe : Pl.kZ 1 u.N u.N.length = K1 at HC HKF hk0 hk1 ⊢
 have HKE := hide hKe
 clear c2 hKe
 go_wp2_with fail
 refine (za HC).mono ?_
 rintro e w2 ⟨rfl, hm2, gr⟩
 have V2 := hide ((za V1).grown gr (fun e => by have := za R2 _ e.symm; omega))
 have hlo2 := fun g hg => (Mem.zh3 (za OM1) g hg).1
 have MZ2 := hide (Mz_up (za MZ1) gr hlo2 (za R1) (za H1))
 have OH2 := hide (show Mem.own3 87 Pl.Hn.cs w2 S3 (.slice u.ha u.H.length u.hc) u.H from Mem.row_same (za OH1) (fun g hg => gr.block g (Mem.zh3 (za OH1) g hg).2 (fun e => by have := (Mem.zh3 (za OH1) g hg).1; have := za R2 g e.symm; omega)))
 have D2 := hide ((za D1).trans ⟨gr.os, gr.tape, gr.output, gr.size, fun b hb hh => gr.block b hb (fun e => by have h1 := hlo2 b e.symm; have h2 := za R2 b e.symm; omega)⟩)
 have HM2 := hide hm2
 have HR2 := hide hlo2
 have hl2 := gr.size
 clear HC hm2 gr MZ1 OM1 OH1 V1 D1 a1 hlo2
 have a2 := (za V2).cell 2
 simp only [kGs] at a2
 have HC := hide (za c3 w2 (K1 + 3 * u.M.length) (by omega) (by omega) (za OH2))
 have hMK := za HM2
 clear c3
 go_wp2_with fail
 refine (za HC).mono ?_
 rintro e w3 ⟨rfl, hh3, gr⟩
 have hlo3 := fun g hg => (Mem.zh3 (za OH2) g hg).1
 have MZ3 := hide (Mz_up (za MZ2) gr (fun g hg => by have := hlo3 g hg; omega) (za R1) (za H1))
 have D3 := hide ((za D2).trans ⟨gr.os, gr.tape, gr.output, gr.size, fun b hb hh => gr.block b hb (fun e => by have h1 := hlo3 b e.symm; have h2 := za R3 b e.symm; omega)⟩)
 have HM3 : Hid (Mem.zb4 w3 u.ma (Pl.mkMns K1 u.M.length)) := hide (fun i x hx => by
  obtain ⟨b, o, e1, e2, e3, e4, e5⟩ := hMK i x hx
  have hne : some b ≠ (Value.slice u.ha u.H.length u.hc).ownBlock := fun e => by
   have h3 := hlo3 b e.symm
   have h4 := za R2 b (by rw [e1]; rfl)
   omega
  exact ⟨b, o, e1, Nat.lt_of_lt_of_le e2 gr.size, gr.cell e3 hne, gr.cell e4 hne, gr.cell e5 hne⟩)
 have HH3 := hide hh3
 clear HC hh3 gr MZ2 OH2 V2 D2 a2 hMK HM2 hlo3
 go_wp2
 go_ret
 refine ⟨?_, ⟨(za MZ3).zi5, ?_, ?_⟩, za D3⟩
 ·rw [za HKF]
  exact congrArg (fun x => Ending.returned (Value.int .i64 x)) (by omega)
 ·rw [za HKE]; exact za HM3
 ·rw [za HKE]; exact za HH3
set_option maxRecDepth 100000 in
set_option maxHeartbeats 1000000 in
theorem heldSp_any (u : Pl.Sp) (w : World) (hs : Sm u) (h : Mk8 w u) :
  Calls Tryz.prog 41 #[.agg u.cs, .int .i64 1] w fun e w' => e = .returned (.int .i64 (kF u : Int)) ∧ Below w.heap.size w w' := by
 obtain ⟨hk1, hk0⟩ := kZ_small hs
 have hM := hs.m
 have hH := hs.h
 have c1 := hide (fun W (b : Below w.heap.size w W) => WMkY.ze9 u.ia u.ic u.N W hs.n (fun x hx => ⟨(hs.i x hx).1, (hs.i x hx).2.2⟩) (h.call b).i)
 have c2 := hide (fun W (b : Below w.heap.size w W) => WMkM.ze9 u.ma u.M.length u.mc (Pl.kZ 1 u.N u.N.length) W (by omega) hk0 (by omega) (h.call b).m)
 have c3 := hide (fun W (b : Below w.heap.size w W) => WMkH.ze9 u.ha u.H.length u.hc (Pl.kZ 1 u.N u.N.length + 3 * u.M.length) W (by omega) (by omega) (by omega) (h.call b).h)
 have HKF : Hid (kF u = Pl.kZ 1 u.N u.N.length + 3 * u.M.length + 3 * u.H.length) := hide rfl
 generalize kF u = KF at HKF ⊢
 generalize Pl.kZ 1 u.N u.N.length = K1 at c1 c2 c3 HKF hk0 hk1
 clear hs h
 unfold Pl.Sp.cs
 have b0 := (Below.refl w.heap.size w).alloc (o := .cells #[.slice u.ia u.N.length u.ic, .slice u.ma u.M.length u.mc, .slice u.ha u.H.length u.hc, .int .i64 u.next] 32) (Nat.le_refl _)
 have V0 := hide (Mem.Blk.new w #[.slice u.ia u.N.length u.ic, .slice u.ma u.M.length u.mc, .slice u.ha u.H.length u.hc, .int .i64 u.next] 32)
 have a0 := (za V0).cell 0
 simp only [kGs] at a0
 go_enter Tryz.func41, Tryz.ntmps41
 go_wp2_with fail
 generalize w.alloc (.cells #[.slice u.ia u.N.length u.ic, .slice u.ma u.M.length u.mc, .slice u.ha u.H.length u.hc, .int .i64 u.next] 32) = wA at b0 V0 a0 ⊢
 refine (za c1 _ b0).mono ?_
 rintro e w1 ⟨rfl, bX⟩
 have b1 := b0.trans (bX.mono b0.size)
 have V1 := hide ((za V0).call bX)
 have n1 : ¬ (K1 : Int) < 0 := by omega
 clear c1 bX V0 b0 a0
 have a1 := (za V1).cell 1
 simp only [kGs] at a1
 go_wp2_with fail
 refine (za c2 _ b1).mono ?_
 rintro e w2 ⟨rfl, bX⟩
 have b2 := b1.trans (bX.mono b1.size)
 have V2 := hide ((za V1).call bX)
 have n2 : ¬ ((K1 + 3 * u.M.length : Nat) : Int) < 0 := by omega
 clear c2 bX V1 b1 a1
 have a2 := (za V2).cell 2
 simp only [kGs] at a2
 generalize K1 + 3 * u.M.length = K2 at c3 n2 HKF ⊢
 go_wp2_with fail
 refine (za c3 _ b2).mono ?_
 rintro e w3 ⟨rfl, bX⟩
 have b3 := b2.trans (bX.mono b2.size)
 have n3 : ¬ ((K2 + 3 * u.H.length : Nat) : Int) < 0 := by omega
 clear c3 bX V2 b2 a2
 generalize K2 + 3 * u.H.length = K3 at n3 HKF ⊢
 go_wp2
 go_ret
 exact ⟨(by rw [za HKF]; first | done | rfl), b3⟩
set_option maxRecDepth 100000 in
set_option maxHeartbeats 1000000 in
theorem zc5 (u : Pl.Sp) (d : Int) (p : ByteArray) (c : Int) (S1 S2 S3 HH : Nat) (lo hi : Nat → Nat) (w : World) (hs : Sm u) (h : An w u S1 S2 S3 HH lo hi) :
  Calls Tryz.prog 14 #[.agg (so u d p c), .int .i64 1] w fun e w' => e = .returned (.int .i64 (kF u : Int)) ∧ Mk8 w' u ∧ Mem.Band S1 HH w w' := by
 have HC := hide (fun W (b : Below w.heap.size w W) => markSp_any u S1 S2 S3 HH lo hi W hs (h.call b))
 clear hs h
 unfold so
 unfold Pl.Sp.cs at HC
 generalize kF u = KF at HC ⊢
 have b0 := (Below.refl w.heap.size w).alloc (o := .cells #[.slice u.ia u.N.length u.ic, .slice u.ma u.M.length u.mc, .slice u.ha u.H.length u.hc, .int .i64 u.next, .int .i64 d, .string p, .int .i64 c] 34) (Nat.le_refl _)
 have V0 := hide (Mem.Blk.new w #[.slice u.ia u.N.length u.ic, .slice u.ma u.M.length u.mc, .slice u.ha u.H.length u.hc, .int .i64 u.next, .int .i64 d, .string p, .int .i64 c] 34)
 have a0 := (za V0).cell 0
 have a1 := (za V0).cell 1
 have a2 := (za V0).cell 2
 have a3 := (za V0).cell 3
 simp only [kGs] at a0 a1 a2 a3
 go_enter Tryz.func14, Tryz.ntmps14
 go_wp2_with fail
 generalize w.alloc (.cells #[.slice u.ia u.N.length u.ic, .slice u.ma u.M.length u.mc, .slice u.ha u.H.length u.hc, .int .i64 u.next, .int .i64 d, .string p, .int .i64 c] 34) = wA at b0 V0 a0 a1 a2 a3 ⊢
 refine (za HC _ b0).mono ?_
 rintro e w1 ⟨rfl, hm, bd⟩
 have HM := hide hm
 have HB := hide ((Mem.Band.of_below b0 : Mem.Band S1 HH w wA).trans bd)
 clear HC hm bd b0 V0 a0 a1 a2 a3
 go_wp2
 go_ret
 exact ⟨rfl, za HM, za HB⟩
set_option maxRecDepth 100000 in
set_option maxHeartbeats 1000000 in
theorem ze9 (u : Pl.Sp) (d : Int) (p : ByteArray) (c : Int) (w : World) (hs : Sm u) (h : Mk8 w u) :
  Calls Tryz.prog 15 #[.agg (so u d p c), .int .i64 1] w fun e w' => e = .returned (.int .i64 (kF u : Int)) ∧ Below w.heap.size w w' := by
 have HC := hide (fun W (b : Below w.heap.size w W) => heldSp_any u W hs (h.call b))
 clear hs h
 unfold so
 unfold Pl.Sp.cs at HC
 generalize kF u = KF at HC ⊢
 have b0 := (Below.refl w.heap.size w).alloc (o := .cells #[.slice u.ia u.N.length u.ic, .slice u.ma u.M.length u.mc, .slice u.ha u.H.length u.hc, .int .i64 u.next, .int .i64 d, .string p, .int .i64 c] 34) (Nat.le_refl _)
 have V0 := hide (Mem.Blk.new w #[.slice u.ia u.N.length u.ic, .slice u.ma u.M.length u.mc, .slice u.ha u.H.length u.hc, .int .i64 u.next, .int .i64 d, .string p, .int .i64 c] 34)
 have a0 := (za V0).cell 0
 have a1 := (za V0).cell 1
 have a2 := (za V0).cell 2
 have a3 := (za V0).cell 3
 simp only [kGs] at a0 a1 a2 a3
 have hk : ¬ (KF : Int) < 0 := by omega
 go_enter Tryz.func15, Tryz.ntmps15
 go_wp2_with fail
 generalize w.alloc (.cells #[.slice u.ia u.N.length u.ic, .slice u.ma u.M.length u.mc, .slice u.ha u.H.length u.hc, .int .i64 u.next, .int .i64 d, .string p, .int .i64 c] 34) = wA at b0 V0 a0 a1 a2 a3 ⊢
 refine (za HC _ b0).mono ?_
 rintro e w1 ⟨rfl, bX⟩
 have b1 := b0.trans (bX.mono b0.size)
 clear HC bX b0 V0 a0 a1 a2 a3
 go_wp2
 go_ret
 exact ⟨rfl, b1⟩
end WSpO
end Go.Proofs.YtonffldjbmednaaGreatDoor

namespace Go.Proofs.YtonffldjbmednaaGreatDoor
open Go.RowKit
namespace zg7
def Ok (n : Pl.Nd) : Prop := n.path.size ≤ maxLen ∧ n.data.size ≤ maxLen ∧ (-9223372036854775808 ≤ n.kind ∧ n.kind ≤ 9223372036854775807) ∧ (-9223372036854775808 ≤ n.time ∧ n.time ≤ 9223372036854775807) ∧ (-9223372036854775808 ≤ n.mark ∧ n.mark ≤ 9223372036854775807)
end zg7
end Go.Proofs.YtonffldjbmednaaGreatDoor

namespace Go.Proofs.YtonffldjbmednaaGreatDoor
open Go.RowKit
namespace zk8
structure OkI (w : World) (a : Option Addr) (Is : List Pl.It) : Prop where
 len : Is.length ≤ maxLen
 items : Mem.za5 w a Is
 ok : ∀ x ∈ Is, x.t.L.length ≤ maxLen ∧ ∀ n ∈ x.t.L, zg7.Ok n
end zk8
end Go.Proofs.YtonffldjbmednaaGreatDoor

namespace Go.Proofs.YtonffldjbmednaaGreatDoor
open Go.ChangeShapes Go.WideShapes Go.ChangeAt Go.RowKit
namespace zg7
theorem five {α : Type} {l : List α} (h : l.length = 5) : ∃ a b c d e, l = [a, b, c, d, e] := by
 match l, h with
 | [a, b, c, d, e], _ => exact ⟨a, b, c, d, e, rfl⟩
theorem cells5 : Tryz.prog.cellsOf 237 = 5 := by kernel_rfl
theorem cellsS : Tryz.prog.cellsOf 9 = 1 := by kernel_rfl
theorem zb0 : Tryz.prog.cellsOf 2 = 1 := by kernel_rfl
set_option maxRecDepth 100000 in
theorem node {H : Type} {enc : TypeId × Value → H} {w : World} {base fuel : Nat} {spare : Nat → Bool} {held : Bool} {cs : List Value} {x : DataW H × List MemPlace}
  (h : DataW.trod enc Tryz.prog w base spare held fuel 237 cs = some x) : ∃ n : Pl.Nd, cs = n.cells ∧ Ok n := by
 obtain ⟨xs, m, rfl, -, hlen, hxl, hf⟩ := DataW.trod_struct Tryz.underlying237 h
 obtain ⟨c0, c1, c2, c3, c4, rfl⟩ := five (hlen.trans cells5)
 obtain ⟨y0, y1, y2, y3, y4, rfl⟩ := five hxl
 have h0 := hf 0 _ rfl
 have h1 := hf 1 _ rfl
 have h2 := hf 2 _ rfl
 have h3 := hf 3 _ rfl
 have h4 := hf 4 _ rfl
 change DataW.trod enc Tryz.prog w base spare held m 9 (([c0, c1, c2, c3, c4].drop 0).take (Tryz.prog.cellsOf 9)) = some y0 at h0
 rw [cellsS] at h0
 change DataW.trod enc Tryz.prog w base spare held m 2 (([c0, c1, c2, c3, c4].drop 1).take (Tryz.prog.cellsOf 2)) = some y1 at h1
 rw [zb0] at h1
 change DataW.trod enc Tryz.prog w base spare held m 9 (([c0, c1, c2, c3, c4].drop 2).take (Tryz.prog.cellsOf 9)) = some y2 at h2
 rw [cellsS] at h2
 change DataW.trod enc Tryz.prog w base spare held m 2 (([c0, c1, c2, c3, c4].drop 3).take (Tryz.prog.cellsOf 2)) = some y3 at h3
 rw [zb0] at h3
 change DataW.trod enc Tryz.prog w base spare held m 2 (([c0, c1, c2, c3, c4].drop 4).take (Tryz.prog.cellsOf 2)) = some y4 at h4
 rw [zb0] at h4
 obtain ⟨p, e0, -, wp⟩ := DataW.trod_string Tryz.underlying9 h0
 obtain ⟨k, e1, -, wk⟩ := DataW.trod_int Tryz.underlying2 h1
 obtain ⟨d, e2, -, wd⟩ := DataW.trod_string Tryz.underlying9 h2
 obtain ⟨t, e3, -, wt⟩ := DataW.trod_int Tryz.underlying2 h3
 obtain ⟨q, e4, -, wq⟩ := DataW.trod_int Tryz.underlying2 h4
 simp at e0 e1 e2 e3 e4
 subst e0 e1 e2 e3 e4
 exact ⟨⟨p, k, d, t, q⟩, rfl, wp, wd, zj8 wk, zj8 wt, zj8 wq⟩
end zg7
end Go.Proofs.YtonffldjbmednaaGreatDoor

namespace Go.Proofs.YtonffldjbmednaaGreatDoor
open Go.ChangeShapes Go.WideShapes Go.ChangeAt Go.RowKit
namespace zk2
theorem cells1 : Tryz.prog.cellsOf 179 = 1 := by kernel_rfl
theorem cellsL : Tryz.prog.cellsOf 177 = 1 := by kernel_rfl
structure OkT (w : World) (a : Option Addr) (L : List Pl.Nd) : Prop where
 len : L.length ≤ maxLen
 nodes : Mem.za3 w a L
 ok : ∀ n ∈ L, zg7.Ok n
theorem one {α : Type} {l : List α} (h : l.length = 1) : ∃ a, l = [a] := by
 match l, h with
 | [a], _ => exact ⟨a, rfl⟩
theorem mapM5 {f : Nat → Option Value} {c0 c1 c2 c3 c4 : Value} (h : (List.range 5).mapM f = some [c0, c1, c2, c3, c4]) : f 0 = some c0 ∧ f 1 = some c1 ∧ f 2 = some c2 ∧ f 3 = some c3 ∧ f 4 = some c4 := by
 have e : List.range 5 = [0, 1, 2, 3, 4] := rfl
 rw [e] at h
 simp only [List.mapM_cons, List.mapM_nil, Option.pure_def, Option.bind_eq_bind] at h
 cases h0 : f 0 with
 | none => rw [h0] at h; simp at h
 | some a0 =>
  cases h1 : f 1 with
  | none => rw [h0, h1] at h; simp at h
  | some a1 =>
   cases h2 : f 2 with
   | none => rw [h0, h1, h2] at h; simp at h
   | some a2 =>
    cases h3 : f 3 with
    | none => rw [h0, h1, h2, h3] at h; simp at h
    | some a3 =>
     cases h4 : f 4 with
     | none => rw [h0, h1, h2, h3, h4] at h; simp at h
     | some a4 =>
      rw [h0, h1, h2, h3, h4] at h
      simp at h
      obtain ⟨rfl, rfl, rfl, rfl, rfl⟩ := h
      exact ⟨rfl, rfl, rfl, rfl, rfl⟩
end zk2
end Go.Proofs.YtonffldjbmednaaGreatDoor

namespace Go.Proofs.YtonffldjbmednaaGreatDoor
open Go.ChangeShapes Go.WideShapes Go.ChangeAt Go.RowKit
namespace zk8
theorem cells2 : Tryz.prog.cellsOf 181 = 2 := by kernel_rfl
theorem zb0 : Tryz.prog.cellsOf 2 = 1 := by kernel_rfl
theorem two {α : Type} {l : List α} (h : l.length = 2) : ∃ a b, l = [a, b] := by
 match l, h with
 | [a, b], _ => exact ⟨a, b, rfl⟩
set_option maxRecDepth 100000 in
theorem tree {H : Type} {enc : TypeId × Value → H} {w : World} {base fuel : Nat} {spare : Nat → Bool} {held : Bool} {cs : List Value} {x : DataW H × List MemPlace}
  (hf : DataW.trod enc Tryz.prog w base spare held fuel 179 cs = some x) : ∃ t : Pl.Tr, cs = [t.val] ∧ zk2.OkT w t.a t.L := by
 obtain ⟨xs, m, rfl, -, hlen, hxl, hfl⟩ := DataW.trod_struct Tryz.underlying179 hf
 obtain ⟨c, rfl⟩ := zk2.one (hlen.trans zk2.cells1)
 obtain ⟨y, rfl⟩ := zk2.one hxl
 have h0 := hfl 0 _ rfl
 change DataW.trod enc Tryz.prog w base spare held m 177 (([c].drop 0).take (Tryz.prog.cellsOf 177)) = some y at h0
 rw [zk2.cellsL] at h0
 rcases DataW.trod_slice Tryz.underlying177 h0 with ⟨e, -⟩ | ⟨a, len, cap, elems, rest, k, -, e, -, hb, hl, hm, hel, hE, -, -⟩
 ·simp at e
  subst e
  exact ⟨⟨none, 0, []⟩, rfl, ⟨Nat.zero_le _, Mem.zt4 _ _, fun n hn => by cases hn⟩⟩
 ·simp at e
  subst e
  have each : ∀ i, i < len → ∃ n : Pl.Nd, zg7.Ok n ∧ (∃ b o, some a = some ⟨b, o, none⟩ ∧ b < w.heap.size ∧
    w.cell? ⟨b, o + i * 5, none⟩ = some (.string n.path) ∧ w.cell? ⟨b, o + i * 5 + 1, none⟩ = some (.int .i64 n.kind) ∧ w.cell? ⟨b, o + i * 5 + 2, none⟩ = some (.string n.data) ∧
    w.cell? ⟨b, o + i * 5 + 3, none⟩ = some (.int .i64 n.time) ∧ w.cell? ⟨b, o + i * 5 + 4, none⟩ = some (.int .i64 n.mark)) := by
   intro i hi
   have h1 := hE i hi
   rw [List.getElem?_eq_getElem (by omega), zg7.cells5] at h1
   simp only [Option.bind_eq_some_iff] at h1
   obtain ⟨ds, h2, h3⟩ := h1
   obtain ⟨n, rfl, ok⟩ := zg7.node h3
   unfold World.cells? at h2
   split at h2
   rotate_left
   ·cases h2
   obtain ⟨g0, g1, g2, g3, g4⟩ := zk2.mapM5 h2
   obtain ⟨b, o, spot⟩ := a
   have hspot : spot = none := by
    have h1 := hE 0 (by omega)
    rw [List.getElem?_eq_getElem (by omega), zg7.cells5] at h1
    simp only [Option.bind_eq_some_iff] at h1
    obtain ⟨ds, h2, h3⟩ := h1
    obtain ⟨n, rfl, ok⟩ := zg7.node h3
    unfold World.cells? at h2
    split at h2
    rotate_left
    ·cases h2
    simpa [Addr.add] using World.cell?_spot (zk2.mapM5 h2).1
   subst hspot
   have add : ∀ j, ((⟨b, o, none⟩ : Addr).add (i * 5)).add j = ⟨b, o + i * 5 + j, none⟩ := fun j => by rw [Mem.zn8, Mem.zn8]
   rw [add] at g0 g1 g2 g3 g4
   exact ⟨n, ok, b, o, rfl, World.block_lt_of_cell? w ⟨b, o + i * 5 + 0, none⟩ g0, g0, g1, g2, g3, g4⟩
  refine ⟨⟨some a, cap, List.ofFn (fun i : Fin len => Classical.choose (each i i.2))⟩, by simp [Pl.Tr.val], ⟨by simp; omega, fun i n hn => ?_, fun n hn => ?_⟩⟩
  ·rw [List.getElem?_ofFn] at hn
   split at hn
   ·cases hn; exact (Classical.choose_spec (each i (by assumption))).2
   ·cases hn
  ·obtain ⟨i, rfl⟩ := List.mem_ofFn.1 hn
   exact (Classical.choose_spec (each i i.2)).1
set_option maxRecDepth 100000 in
theorem item {H : Type} {enc : TypeId × Value → H} {w : World} {base fuel : Nat} {spare : Nat → Bool} {held : Bool} {cs : List Value} {x : DataW H × List MemPlace}
  (hf : DataW.trod enc Tryz.prog w base spare held fuel 181 cs = some x) : ∃ y : Pl.It, cs = [.int .i64 y.m, y.t.val] ∧ zk2.OkT w y.t.a y.t.L := by
 obtain ⟨xs, m, rfl, -, hlen, hxl, hfl⟩ := DataW.trod_struct Tryz.underlying181 hf
 obtain ⟨c, d, rfl⟩ := two (hlen.trans cells2)
 obtain ⟨y, z, rfl⟩ := two hxl
 have h0 := hfl 0 _ rfl
 have h1 := hfl 1 _ rfl
 change DataW.trod enc Tryz.prog w base spare held m 2 (([c, d].drop 0).take (Tryz.prog.cellsOf 2)) = some y at h0
 change DataW.trod enc Tryz.prog w base spare held m 179 (([c, d].drop 1).take (Tryz.prog.cellsOf 179)) = some z at h1
 rw [zb0] at h0
 rw [zk2.cells1] at h1
 obtain ⟨t, e, ok⟩ := tree h1
 obtain ⟨n, e0, -, -⟩ := DataW.trod_int Tryz.underlying2 h0
 simp at e e0
 subst e e0
 exact ⟨⟨n, t⟩, rfl, ok⟩
end zk8
end Go.Proofs.YtonffldjbmednaaGreatDoor

