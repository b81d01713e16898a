/- Several texts of one claim in one file: WSpS5, WUnder1S, WRest1S. -/
import Derived.Test.YtonffldjbmednaaGreatDoorWSpS3
import Derived.Test.YtonffldjbmednaaGreatDoorWSpS4
import Derived.Test.YtonffldjbmednaaGreatDoorG00
import Derived.Test.YtonffldjbmednaaGreatDoorProg
import Derived.WalkSpells
namespace Go.Proofs.YtonffldjbmednaaGreatDoor
open Go.RowKit
namespace WSp
set_option linter.unusedSimpArgs false in
set_option maxRecDepth 100000 in
set_option maxHeartbeats 1000000 in
theorem ze7 (s : Pl.Sp) (w : World) (hok : za9.OkS s 1048576) (hv : Mem.zd3 w s) :
  Calls Tryz.prog 49 #[.agg s.cs] w fun e w' => e = .returned (.bool (Pl.zd1 s.next (s.N.map nr) s.M s.H Pl.wayB)) ∧ Below w.heap.size w w' := by
 have h0 := hide (fun W => zq8 s.next 1 1000000 W)
 have h1 := hide (fun W (b : Below w.heap.size w W) hn0 hn1 => handles_any s W hok (hv.call b) hn0 hn1)
 have h2 := hide (fun W (b : Below w.heap.size w W) => zr7 s W hok (hv.call b))
 have h3 := hide (fun W (b : Below w.heap.size w W) hn0 hn1 => zm7 s W hok (hv.call b) hn0 hn1)
 have HEQ : Hid (Pl.zd1 s.next (s.N.map nr) s.M s.H Pl.wayB = (Pl.isB s.next 1 1000000 && Pl.zj2 (s.N.map (·.d)) s.next Pl.wayB s.H && Pl.zh0 (s.N.map (·.d)) s.M && Pl.zi8 s.M s.H s.next (s.N.map nr))) := hide (by
  unfold Pl.zd1
  rw [List.map_map]
  rfl)
 have HIS : Hid (Pl.isB s.next 1 1000000 = true → 1 ≤ s.next ∧ s.next ≤ 1000000) := hide (fun h => (Pl.zl _ _ _).1 h)
 generalize Pl.zd1 s.next (s.N.map nr) s.M s.H Pl.wayB = R at HEQ ⊢
 generalize Pl.isB s.next 1 1000000 = R0 at HEQ h0 HIS
 generalize Pl.zj2 (s.N.map (·.d)) s.next Pl.wayB s.H = R1 at HEQ h1
 generalize Pl.zh0 (s.N.map (·.d)) s.M = R2 at HEQ h2
 generalize Pl.zi8 s.M s.H s.next (s.N.map nr) = R3 at HEQ h3
 clear hok hv
 obtain ⟨ia, ic, N, ma, mc, M, ha, hc, H, next⟩ := s
 simp only at h0 h1 h2 h3 HIS ⊢
 unfold Pl.Sp.cs at h1 h2 h3 ⊢
 simp only at h1 h2 h3 ⊢
 have b0 := (Below.refl w.heap.size w).alloc (o := .cells #[.slice ia N.length ic, .slice ma M.length mc, .slice ha H.length hc, .int .i64 next] 32) (Nat.le_refl _)
 have V0 := hide (Mem.Blk.new w #[.slice ia N.length ic, .slice ma M.length mc, .slice ha H.length hc, .int .i64 next] 32)
 have a0 := (za V0).cell 0
 have a1 := (za V0).cell 1
 have a2 := (za V0).cell 2
 have a3 := (za V0).cell 3
 simp only [kGs] at a0 a1 a2 a3
 go_enter Tryz.func49, Tryz.ntmps49
 go_wp2_with fail
 generalize w.alloc (.cells #[.slice ia N.length ic, .slice ma M.length mc, .slice ha H.length hc, .int .i64 next] 32) = wA at b0 V0 a0 a1 a2 a3 ⊢
 refine (za h0 _).mono ?_
 rintro e w1 ⟨rfl, bX⟩
 have b1 := b0.trans (bX.mono b0.size)
 have V1 := hide ((za V0).call bX)
 clear a0 a1 a2 a3 V0 b0 bX h0
 cases R0
 ·have HE : Hid (R = false) := hide (za HEQ)
  clear HEQ h1 h2 h3 HIS
  go_wp2
  go_ret
  exact ⟨(by rw [za HE]; first | done | rfl), b1⟩
 obtain ⟨n0, n1⟩ := za HIS rfl
 have a0 := (za V1).cell 0
 have a1 := (za V1).cell 1
 have a2 := (za V1).cell 2
 have a3 := (za V1).cell 3
 simp only [kGs] at a0 a1 a2 a3
 have HC := hide (za h1 _ b1 n0 n1)
 clear h1 HIS
 go_wp2_with fail
 refine (za HC).mono ?_
 rintro e w2 ⟨rfl, bX⟩
 have b2 := b1.trans (bX.mono b1.size)
 have V2 := hide ((za V1).call bX)
 clear a0 a1 a2 a3 V1 b1 bX HC
 cases R1
 ·have HE : Hid (R = false) := hide (za HEQ)
  clear HEQ h2 h3
  go_wp2
  go_ret
  exact ⟨(by rw [za HE]; first | done | rfl), b2⟩
 have a0 := (za V2).cell 0
 have a1 := (za V2).cell 1
 have a2 := (za V2).cell 2
 have a3 := (za V2).cell 3
 simp only [kGs] at a0 a1 a2 a3
 have HC := hide (za h2 _ b2)
 clear h2
 go_wp2_with fail
 refine (za HC).mono ?_
 rintro e w3 ⟨rfl, bX⟩
 have b3 := b2.trans (bX.mono b2.size)
 have V3 := hide ((za V2).call bX)
 clear a0 a1 a2 a3 V2 b2 bX HC
 cases R2
 ·have HE : Hid (R = false) := hide (za HEQ)
  clear HEQ h3
  go_wp2
  go_ret
  exact ⟨(by rw [za HE]; first | done | rfl), b3⟩
 have a0 := (za V3).cell 0
 have a1 := (za V3).cell 1
 have a2 := (za V3).cell 2
 have a3 := (za V3).cell 3
 simp only [kGs] at a0 a1 a2 a3
 have HC := hide (za h3 _ b3 n0 n1)
 clear h3
 go_wp2_with fail
 refine (za HC).mono ?_
 rintro e w4 ⟨rfl, bX⟩
 have b4 := b3.trans (bX.mono b3.size)
 have HE : Hid (R = R3) := hide (za HEQ)
 clear a0 a1 a2 a3 V3 b3 bX HC HEQ n0 n1
 go_wp2
 go_ret
 exact ⟨(by rw [za HE]; first | done | rfl), b4⟩
end WSp
end Go.Proofs.YtonffldjbmednaaGreatDoor

namespace Go.Proofs.YtonffldjbmednaaGreatDoor
open Go.RowKit
namespace Pl
theorem under_root {p t : ByteArray} (h : by_ t = []) : under p t = true := (under_iff p t).2 (.inl h)
theorem under_same (p : ByteArray) : under p p = true := (under_iff p p).2 (.inr (.inl rfl))
theorem under_short {p t : ByteArray} (h0 : by_ t ≠ []) (h1 : p ≠ t) (h : ¬ t.size < p.size) : under p t = false := by
 rw [Bool.eq_false_iff]
 intro h2
 rcases (under_iff p t).1 h2 with h3 | h3 | ⟨r, h3⟩
 ·exact h0 h3
 ·exact h1 (zf2 h3)
 ·have := congrArg List.length h3
  rw [ze6, List.length_append, List.length_cons, ze6] at this
  omega
theorem by_pre (p t : ByteArray) : by_ (p.extract 0 t.size) = (by_ p).take t.size := by rw [zt1]; simp
theorem under_other {p t : ByteArray} (h0 : by_ t ≠ []) (h1 : p ≠ t) (h : p.extract 0 t.size ≠ t) : under p t = false := by
 rw [Bool.eq_false_iff]
 intro h2
 rcases (under_iff p t).1 h2 with h3 | h3 | ⟨r, h3⟩
 ·exact h0 h3
 ·exact h1 (zf2 h3)
 ·apply h; apply zf2; rw [by_pre, h3, ← ze6, List.take_left]
theorem pre_split {p t : ByteArray} (hl : t.size < p.size) (h : p.extract 0 t.size = t) : by_ p = by_ t ++ p[t.size] :: (by_ p).drop (t.size + 1) := by
 have h1 : by_ t = (by_ p).take t.size := by rw [← by_pre, h]
 have h2 : t.size < (by_ p).length := by rw [ze6]; exact hl
 have h3 : (by_ p).drop t.size = p[t.size] :: (by_ p).drop (t.size + 1) := by rw [List.drop_eq_getElem_cons h2]; rfl
 exact (List.take_append_drop t.size (by_ p)).symm.trans (by rw [h3, ← h1]; rfl)
theorem under_yes {p t : ByteArray} (hl : t.size < p.size) (h : p.extract 0 t.size = t) (hb : p[t.size].toNat = 47) : under p t = true := by
 refine (under_iff p t).2 (.inr (.inr ⟨(by_ p).drop (t.size + 1), ?_⟩))
 have hb' : p[t.size] = 47 := UInt8.toNat_inj.1 hb
 rw [← hb']; exact pre_split hl h
theorem under_no {p t : ByteArray} (h0 : by_ t ≠ []) (h1 : p ≠ t) (hl : t.size < p.size) (h : p.extract 0 t.size = t) (hb : p[t.size].toNat ≠ 47) : under p t = false := by
 rw [Bool.eq_false_iff]
 intro h2
 rcases (under_iff p t).1 h2 with h3 | h3 | ⟨r, h3⟩
 ·exact h0 h3
 ·exact h1 (zf2 h3)
 ·rw [pre_split hl h] at h3
  have := List.append_cancel_left h3
  simp at this
  exact hb (by rw [this.1]; rfl)
end Pl
namespace zg3
set_option maxRecDepth 100000 in
set_option maxHeartbeats 400000 in
theorem under1_any (p t : ByteArray) (w : World) (ht : t.size ≤ 1048576) :
  Calls Tryz.prog 44 #[.string p, .string t] w fun e w' => e = .returned (.bool (Pl.under p t)) ∧ w' = w := by
 by_cases h0 : Pl.by_ t = []
 ·have E := hide (Pl.under_root (p := p) h0)
  have d1 : t.toList.isEmpty = true := by rw [Pl.zb8]; simp [h0]
  clear h0
  go_enter Tryz.func44, Tryz.ntmps44
  go_wp2
  go_ret
  exact ⟨za0 (za E).symm, rfl⟩
 have d1 : t.toList.isEmpty = false := by rw [Pl.zb8]; simp [h0]
 by_cases h1 : p = t
 ·subst h1
  have E := hide (Pl.under_same p)
  clear h0
  go_enter Tryz.func44, Tryz.ntmps44
  go_wp2
  go_ret
  exact ⟨za0 (za E).symm, rfl⟩
 have d2 := Pl.zo6 h1
 by_cases hl : t.size < p.size
 ·have k1 : (t.size : Int) < (p.size : Int) := by omega
  have k2 : (t.size : Int) ≤ (p.size : Int) := by omega
  have k3 : (0 : Int) ≤ (t.size : Int) := by omega
  by_cases h3 : p.extract 0 t.size = t
  ·have d3 := Pl.zr9 h3
   by_cases h4 : p[t.size].toNat = 47
   ·have E := hide (Pl.under_yes hl h3 h4)
    have d4 : ((p[t.size].toNat : Int) == 47) = true := by rw [beq_iff_eq]; omega
    clear h0 h1 h3 h4
    go_enter Tryz.func44, Tryz.ntmps44
    go_wp2
    go_ret
    exact ⟨za0 (za E).symm, rfl⟩
   ·have E := hide (Pl.under_no h0 h1 hl h3 h4)
    have d4 : ((p[t.size].toNat : Int) == 47) = false := by rw [beq_eq_false_iff_ne]; omega
    clear h0 h1 h3 h4
    go_enter Tryz.func44, Tryz.ntmps44
    go_wp2
    go_ret
    exact ⟨za0 (za E).symm, rfl⟩
  ·have E := hide (Pl.under_other h0 h1 h3)
   have d3 := Pl.zo6 h3
   clear h0 h1 h3
   go_enter Tryz.func44, Tryz.ntmps44
   go_wp2
   go_ret
   exact ⟨za0 (za E).symm, rfl⟩
 ·have E := hide (Pl.under_short h0 h1 hl)
  have k1 : ¬ (t.size : Int) < (p.size : Int) := by omega
  clear h0 h1
  go_enter Tryz.func44, Tryz.ntmps44
  go_wp2
  go_ret
  exact ⟨za0 (za E).symm, rfl⟩
end zg3
end Go.Proofs.YtonffldjbmednaaGreatDoor

namespace Go.Proofs.YtonffldjbmednaaGreatDoor
open Go.RowKit
namespace zg3
theorem rest1_any (p n : ByteArray) (w : World) (hp : p.size ≤ 1048576) (hu : Pl.under p n = true) :
  Calls Tryz.prog 59 #[.string p, .string n] w fun e w' => e = .returned (.string (Pl.rest p n)) ∧ w' = w := by
 by_cases h0 : Pl.by_ n = []
 ·have E := hide (Pl.rest_root (p := p) h0)
  have d1 : n.toList.isEmpty = true := by rw [Pl.zb8]; simp [h0]
  clear h0 hu
  go_enter Tryz.func59, Tryz.ntmps59
  go_wp2
  go_ret
  exact ⟨zx1 (za E).symm, rfl⟩
 have d1 : n.toList.isEmpty = false := by rw [Pl.zb8]; simp [h0]
 by_cases h1 : p = n
 ·subst h1
  have E := hide (Pl.rest_same p)
  clear h0 hu
  go_enter Tryz.func59, Tryz.ntmps59
  go_wp2
  go_ret
  exact ⟨zx1 (za E).symm, rfl⟩
 ·have d2 := Pl.zo6 h1
  obtain ⟨r, hr⟩ : ∃ r, Pl.by_ p = Pl.by_ n ++ 47 :: r := by
   rcases (Pl.under_iff p n).1 hu with h3 | h3 | h3
   ·exact absurd h3 h0
   ·exact absurd (Pl.zf2 h3) h1
   ·exact h3
  have E := hide (Pl.rest_more h0 hr)
  have hsz : n.size + 1 ≤ p.size := by
   have := congrArg List.length hr
   rw [Pl.ze6, List.length_append, List.length_cons, Pl.ze6] at this
   omega
  have k1 : (0 : Int) ≤ (n.size : Int) + 1 := by omega
  have k2 : (n.size : Int) + 1 ≤ (p.size : Int) := by omega
  clear h0 h1 hr hu
  generalize Pl.rest p n = R at E ⊢
  go_enter Tryz.func59, Tryz.ntmps59
  go_wp2
  go_ret
  exact ⟨by rw [za E]; rfl, rfl⟩
end zg3
end Go.Proofs.YtonffldjbmednaaGreatDoor

