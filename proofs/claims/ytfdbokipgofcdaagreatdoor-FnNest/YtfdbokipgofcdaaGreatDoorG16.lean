/- Several texts of one claim in one file: WLwT, WLwNest, WPutR, WUnder1S, WPutS. -/
import Derived.Test.YtfdbokipgofcdaaGreatDoorG00
import Derived.Test.YtfdbokipgofcdaaGreatDoorG02
import Derived.Test.YtfdbokipgofcdaaGreatDoorG07
import Derived.Deep.RegionHeld3
import Derived.Test.YtfdbokipgofcdaaGreatDoorProg
import Derived.WalkSpells
import Derived.Lib.OthersKept
import Derived.Laws.RangeAny
import Derived.Deep.QuietTactic
import Derived.BigQuiet
import Derived.Test.YtfdbokipgofcdaaGreatDoorG15
import Derived.Below
import Derived.Deep.Draws
namespace Go.Proofs.YtfdbokipgofcdaaGreatDoor
open Go.RowKit
namespace WLw
set_option linter.unusedSimpArgs false in
set_option maxRecDepth 100000 in
set_option maxHeartbeats 2000000 in
theorem zw6 (a b : Option Addr) (c1 c2 : Nat) (L : List Pl.Nd) (w : World) (hA : L.length ≤ 1048576) (hv : Mem.zc2 w a L) (hu : Mem.zc2 w b L) :
  Calls Tryz.prog 29 #[.agg #[.slice a L.length c1], .agg #[.slice b L.length c2]] w fun e w' => e = .returned (.bool true) ∧ Below w.heap.size w w' := by
 have b0 : Below w.heap.size w ((w.alloc (.cells #[.slice a L.length c1] 36)).alloc (.cells #[.slice b L.length c2] 36)) := ((Below.refl _ _).alloc (Nat.le_refl _) _).alloc (by simp) _
 have HV := hide hv
 have HU := hide hu
 clear hv hu
 go_enter Tryz.func29, Tryz.ntmps29
 go_wp2
 go_loopw [5] (fun i wr => ∃ k : Nat, k ≤ L.length ∧ i = .int .i64 (k : Int) ∧ Below w.heap.size w wr ∧ Hid (Mem.Var wr w.heap.size [.slice a L.length c1]) ∧ Hid (Mem.Var wr (w.heap.size + 1) [.slice b L.length c2])) (fun i _ => L.length - (intOf i).toNat)
 case atStart =>
  refine ⟨0, Nat.zero_le _, rfl, b0, ?_, ?_⟩
  ·exact hide (Mem.yd4 (Mem.ze0 w [.slice a L.length c1] 36) _)
  ·have h := Mem.ze0 (w.alloc (.cells #[.slice a L.length c1] 36)) [.slice b L.length c2] 36
   rw [show (w.alloc (.cells #[.slice a L.length c1] 36)).heap.size = w.heap.size + 1 by simp] at h
   exact hide h
 case round =>
  obtain ⟨k, hk, rfl, hbel, V1, V2⟩ := hrel
  have cv1 := (za V1).2 0 _ rfl
  have cv2 := (za V2).2 0 _ rfl
  by_cases hlt : k < L.length
  ·obtain ⟨n, hn⟩ : ∃ n, L[k]? = some n := ⟨_, List.getElem?_eq_getElem hlt⟩
   have y1 : (k : Int) < (L.length : Int) := by omega
   have y3 : (0 : Int) ≤ (k : Int) := by omega
   obtain ⟨g, o, rfl, hg, q0, q1, q2, q3, q4⟩ := (Mem.za8 (za HV) hbel) k n hn
   obtain ⟨g2, o2, rfl, hg2, p0, p1, p2, p3, p4⟩ := (Mem.za8 (za HU) hbel) k n hn
   obtain ⟨np, nk, nd, nt, nm⟩ := n
   simp only at q0 q1 q2 q3 q4 p0 p1 p2 p3 p4
   clear hn HV HU b0
   go_wp2
   go_quiet (fail)
   go_wp2
   go_roundw
   case rel => exact ⟨k + 1, by omega, by go_num, Mem.below_drewN hbel _, za V1, za V2⟩
   case measure => simp [intOf]; omega
  ·have y1 : ¬ (k : Int) < (L.length : Int) := by omega
   go_wp2
   go_ret
   exact ⟨rfl, hbel⟩
end WLw
end Go.Proofs.YtfdbokipgofcdaaGreatDoor

namespace Go.Proofs.YtfdbokipgofcdaaGreatDoor
open Go.RowKit
namespace WLw
set_option maxRecDepth 100000 in
set_option maxHeartbeats 800000 in
theorem zk8 (a b : Option Addr) (c1 c2 : Nat) (Ts Us : List Pl.It) (w : World) (hl : Ts.length ≤ 1048576) (hm : Us.map Pl.It.r = Ts.map Pl.It.r) (hv : Mem.za6 w a Ts) (hu : Mem.za6 w b Us) (hok : ∀ t ∈ Ts, t.t.L.length ≤ 1048576) :
  Calls Tryz.prog 10 #[.slice a Ts.length c1, .slice b Ts.length c2] w fun e w' => e = .returned (.bool true) ∧ Below w.heap.size w w' := by
 have HV := hide hv
 have HU := hide hu
 have HO := hide hok
 have HM := hide hm
 clear hv hu hok hm
 go_enter Tryz.func10, Tryz.ntmps10
 go_wp2
 go_loopw [5] (fun i wr => ∃ k : Nat, k ≤ Ts.length ∧ i = .int .i64 (k : Int) ∧ Below w.heap.size w wr) (fun i _ => Ts.length - (intOf i).toNat)
 case atStart => exact ⟨0, Nat.zero_le _, rfl, Below.refl _ _⟩
 case round =>
  obtain ⟨k, hk, rfl, hbel⟩ := hrel
  by_cases hlt : k < Ts.length
  ·obtain ⟨t, ht⟩ : ∃ n, Ts[k]? = some n := ⟨_, List.getElem?_eq_getElem hlt⟩
   obtain ⟨u, hu, hum, hul⟩ : ∃ u, Us[k]? = some u ∧ u.m = t.m ∧ u.t.L = t.t.L := by
    have h := congrArg (fun l => l[k]?) (za HM)
    simp only [List.getElem?_map, ht, Option.map_some] at h
    cases hu : Us[k]? with
    | none => rw [hu] at h; simp at h
    | some u => rw [hu] at h; simp [Pl.It.r] at h; exact ⟨u, rfl, h.1, h.2⟩
   obtain ⟨⟨g, o, rfl, hg, q0, q0'⟩, q1⟩ := (za HV) k t ht
   obtain ⟨⟨g2, o2, rfl, hg2, p0, p0'⟩, p1⟩ := (za HU) k u hu
   rw [hul] at p1
   have hz := hide (fun W (b : Below w.heap.size w W) => zw6 t.t.a u.t.a t.t.cap u.t.cap t.t.L W (za HO t (List.mem_of_getElem? ht)) (Mem.za8 q1 b) (Mem.za8 p1 b))
   have MK : Hid (∀ W', Below w.heap.size w W' → (Below w.heap.size w W' ∧ W'.cell? ⟨g, o + k * 2, none⟩ = some (.int .i64 t.m) ∧ W'.cell? ⟨g, o + k * 2 + 1, none⟩ = some (.slice t.t.a t.t.L.length t.t.cap) ∧ W'.cell? ⟨g2, o2 + k * 2, none⟩ = some (.int .i64 t.m) ∧ W'.cell? ⟨g2, o2 + k * 2 + 1, none⟩ = some (.slice u.t.a t.t.L.length u.t.cap))) := fun W' hb' => ⟨hb', (hb'.cell (p := ⟨g, _, none⟩) hg).trans q0, (hb'.cell (p := ⟨g, _, none⟩) hg).trans (by rw [q0', Pl.Tr.val]), (hb'.cell (p := ⟨g2, _, none⟩) hg2).trans (by rw [p0, hum]), (hb'.cell (p := ⟨g2, _, none⟩) hg2).trans (by rw [p0', Pl.Tr.val, hul])⟩
   have u1 : (k : Int) < (Ts.length : Int) := by omega
   have u3 : (0 : Int) ≤ (k : Int) := by omega
   have hbd : Below w.heap.size w wr.drew := ⟨hbel.os, hbel.tape, hbel.output, hbel.size, hbel.block⟩
   clear q0 p0 q0' p0' ht hu hul hum q1 p1
   go_wp2_with fail
   go_region_held3 (fun W' => Below w.heap.size w W' ∧ W'.cell? ⟨g, o + k * 2, none⟩ = some (.int .i64 t.m) ∧ W'.cell? ⟨g, o + k * 2 + 1, none⟩ = some (.slice t.t.a t.t.L.length t.t.cap) ∧ W'.cell? ⟨g2, o2 + k * 2, none⟩ = some (.int .i64 t.m) ∧ W'.cell? ⟨g2, o2 + k * 2 + 1, none⟩ = some (.slice u.t.a t.t.L.length u.t.cap)) (first | exact za MK _ hbd | exact za MK _ (hbd.trans (bX.mono hbd.size))) (first | (go_at_call 29; refine (za hz _ hbd).mono ?_; rintro e wX ⟨rfl, bX⟩))
   have hb2 := hbd.trans (bX.mono hbd.size)
   clear hbel hbd bX MK
   go_wp2
   go_roundw
   case rel => exact ⟨k + 1, by omega, by go_num, hb2⟩
   case measure => simp [intOf]; omega
  ·have u1 : ¬ (k : Int) < (Ts.length : Int) := by omega
   go_wp2
   go_ret
   exact ⟨rfl, hbel⟩
set_option linter.unusedSimpArgs false in
set_option maxRecDepth 100000 in
set_option maxHeartbeats 2000000 in
theorem nests_any (a b : Option Addr) (c1 c2 : Nat) (C : Int) (Ts Us : List Pl.It) (w : World) (hl : Ts.length ≤ 1048576) (hm : Us.map Pl.It.r = Ts.map Pl.It.r) (hv : Mem.za6 w a Ts) (hu : Mem.za6 w b Us) (hok : ∀ t ∈ Ts, t.t.L.length ≤ 1048576 ∧ ∀ n ∈ t.t.L, n.path.size ≤ 1048576 ∧ n.data.size ≤ 1048576) (hr : C = 0 → (Pl.nest (Pl.rowO (Ts.map Pl.It.r))).isSome = true) :
  Calls Tryz.prog 11 #[.agg #[.slice a Ts.length c1, .int .i64 C], .agg #[.slice b Ts.length c2, .int .i64 C]] w fun e w' => e = .returned (.bool true) ∧ Below w.heap.size w w' := by
 have b0 : Below w.heap.size w ((w.alloc (.cells #[.slice a Ts.length c1, .int .i64 C] 28)).alloc (.cells #[.slice b Ts.length c2, .int .i64 C] 28)) := ((Below.refl _ _).alloc (Nat.le_refl _) _).alloc (by simp) _
 have B1 := hide ((Mem.Blk.new w #[.slice a Ts.length c1, .int .i64 C] 28).alloc (.cells #[.slice b Ts.length c2, .int .i64 C] 28))
 have B2 : Hid (Mem.Blk ((w.alloc (.cells #[.slice a Ts.length c1, .int .i64 C] 28)).alloc (.cells #[.slice b Ts.length c2, .int .i64 C] 28)) (w.heap.size + 1) #[.slice b Ts.length c2, .int .i64 C] 28) := Mem.zh2 _ _ _
 have HT := hide (zk8 a b c1 c2 Ts Us _ hl hm (Mem.zc1 hv b0) (Mem.zc1 hu b0) (fun t ht => (hok t ht).1))
 have HR := hide (fun W (b : Below w.heap.size w W) => zj2.zf4 a c1 Ts W hl (Mem.zc1 hv b) hok)
 clear hv hu hok hm
 have x0 := (za B1).cell 0
 have x1 := (za B1).cell 1
 have y0 := (za B2).cell 0
 have y1 := (za B2).cell 1
 simp only [kGs] at x0 x1 y0 y1
 generalize (Pl.nest (Pl.rowO (Ts.map Pl.It.r))).isSome = NB at HR hr
 go_enter Tryz.func11, Tryz.ntmps11
 go_wp2_with fail
 refine (za HT).mono ?_
 rintro e w1 ⟨rfl, b1⟩
 have B3 := hide ((za B1).call b1)
 have bw1 := b0.trans (b1.mono b0.size)
 clear HT x0 x1 y0 y1 B1 B2 b1 b0
 have x0 := (za B3).cell 0
 have x1 := (za B3).cell 1
 simp only [kGs] at x0 x1
 by_cases h0 : C = 0
 ·subst h0
  have hr' := hide (hr rfl)
  clear hr
  rw [za hr'] at HR
  go_wp2_with fail
  refine (za HR _ bw1).mono ?_
  rintro e w2 ⟨rfl, b2⟩
  go_wp2
  go_ret
  exact ⟨rfl, bw1.trans (b2.mono bw1.size)⟩
 ·clear HR hr
  go_wp2
  go_ret
  exact ⟨rfl, bw1⟩
end WLw
end Go.Proofs.YtfdbokipgofcdaaGreatDoor

namespace Go.Proofs.YtfdbokipgofcdaaGreatDoor
open Go.RowKit
namespace WPutB
theorem yp1 {L : List Pl.Nd} (h : Pl.za2 L = true) : L.length ≤ 40 ∧ ∀ m ∈ L, m.path.size ≤ 200 := by
 simp only [Pl.za2, Bool.and_eq_true, decide_eq_true_eq] at h
 exact ⟨h.1, fun m hm => Pl.zi7 (Pl.ze2 (Pl.zu9 L _ _ h.2 m hm)).1⟩
end WPutB
end Go.Proofs.YtfdbokipgofcdaaGreatDoor

namespace Go.Proofs.YtfdbokipgofcdaaGreatDoor
open Go.RowKit
namespace Pl
theorem under_root {p t : ByteArray} (h : by_ t = []) : under p t = true := (zx6 p t).2 (.inl h)
theorem under_same (p : ByteArray) : under p p = true := (zx6 p p).2 (.inr (.inl rfl))
theorem under_short {p t : ByteArray} (h0 : by_ t ≠ []) (h1 : p ≠ t) (h : ¬ t.size < p.size) : under p t = false := by
 rw [Bool.eq_false_iff]
 intro h2
 rcases (zx6 p t).1 h2 with h3 | h3 | ⟨r, h3⟩
 ·exact h0 h3
 ·exact h1 (zh7 h3)
 ·have := congrArg List.length h3
  rw [zc9, List.length_append, List.length_cons, zc9] at this
  omega
theorem by_pre (p t : ByteArray) : by_ (p.extract 0 t.size) = (by_ p).take t.size := by rw [zp6]; simp
theorem under_other {p t : ByteArray} (h0 : by_ t ≠ []) (h1 : p ≠ t) (h : p.extract 0 t.size ≠ t) : under p t = false := by
 rw [Bool.eq_false_iff]
 intro h2
 rcases (zx6 p t).1 h2 with h3 | h3 | ⟨r, h3⟩
 ·exact h0 h3
 ·exact h1 (zh7 h3)
 ·apply h; apply zh7; rw [by_pre, h3, ← zc9, List.take_left]
theorem pre_split {p t : ByteArray} (hl : t.size < p.size) (h : p.extract 0 t.size = t) : by_ p = by_ t ++ p[t.size] :: (by_ p).drop (t.size + 1) := by
 have h1 : by_ t = (by_ p).take t.size := by rw [← by_pre, h]
 have h2 : t.size < (by_ p).length := by rw [zc9]; exact hl
 have h3 : (by_ p).drop t.size = p[t.size] :: (by_ p).drop (t.size + 1) := by rw [List.drop_eq_getElem_cons h2]; rfl
 exact (List.take_append_drop t.size (by_ p)).symm.trans (by rw [h3, ← h1]; rfl)
theorem under_yes {p t : ByteArray} (hl : t.size < p.size) (h : p.extract 0 t.size = t) (hb : p[t.size].toNat = 47) : under p t = true := by
 refine (zx6 p t).2 (.inr (.inr ⟨(by_ p).drop (t.size + 1), ?_⟩))
 have hb' : p[t.size] = 47 := UInt8.toNat_inj.1 hb
 rw [← hb']; exact pre_split hl h
theorem under_no {p t : ByteArray} (h0 : by_ t ≠ []) (h1 : p ≠ t) (hl : t.size < p.size) (h : p.extract 0 t.size = t) (hb : p[t.size].toNat ≠ 47) : under p t = false := by
 rw [Bool.eq_false_iff]
 intro h2
 rcases (zx6 p t).1 h2 with h3 | h3 | ⟨r, h3⟩
 ·exact h0 h3
 ·exact h1 (zh7 h3)
 ·rw [pre_split hl h] at h3
  have := List.append_cancel_left h3
  simp at this
  exact hb (by rw [this.1]; rfl)
end Pl
namespace zh5
set_option maxRecDepth 100000 in
set_option maxHeartbeats 400000 in
theorem yu5 (p t : ByteArray) (w : World) (ht : t.size ≤ 1048576) :
  Calls Tryz.prog 146 #[.string p, .string t] w fun e w' => e = .returned (.bool (Pl.under p t)) ∧ w' = w := by
 by_cases h0 : Pl.by_ t = []
 ·have E := hide (Pl.under_root (p := p) h0)
  have d1 : t.toList.isEmpty = true := by rw [Pl.ze]; simp [h0]
  clear h0
  go_enter Tryz.func146, Tryz.ntmps146
  go_wp2
  go_ret
  exact ⟨za4 (za E).symm, rfl⟩
 have d1 : t.toList.isEmpty = false := by rw [Pl.ze]; simp [h0]
 by_cases h1 : p = t
 ·subst h1
  have E := hide (Pl.under_same p)
  clear h0
  go_enter Tryz.func146, Tryz.ntmps146
  go_wp2
  go_ret
  exact ⟨za4 (za E).symm, rfl⟩
 have d2 := Pl.ya0 h1
 by_cases hl : t.size < p.size
 ·have k1 : (t.size : Int) < (p.size : Int) := by omega
  have k2 : (t.size : Int) ≤ (p.size : Int) := by omega
  have k3 : (0 : Int) ≤ (t.size : Int) := by omega
  by_cases h3 : p.extract 0 t.size = t
  ·have d3 := Pl.yh8 h3
   by_cases h4 : p[t.size].toNat = 47
   ·have E := hide (Pl.under_yes hl h3 h4)
    have d4 : ((p[t.size].toNat : Int) == 47) = true := by rw [beq_iff_eq]; omega
    clear h0 h1 h3 h4
    go_enter Tryz.func146, Tryz.ntmps146
    go_wp2
    go_ret
    exact ⟨za4 (za E).symm, rfl⟩
   ·have E := hide (Pl.under_no h0 h1 hl h3 h4)
    have d4 : ((p[t.size].toNat : Int) == 47) = false := by rw [beq_eq_false_iff_ne]; omega
    clear h0 h1 h3 h4
    go_enter Tryz.func146, Tryz.ntmps146
    go_wp2
    go_ret
    exact ⟨za4 (za E).symm, rfl⟩
  ·have E := hide (Pl.under_other h0 h1 h3)
   have d3 := Pl.ya0 h3
   clear h0 h1 h3
   go_enter Tryz.func146, Tryz.ntmps146
   go_wp2
   go_ret
   exact ⟨za4 (za E).symm, rfl⟩
 ·have E := hide (Pl.under_short h0 h1 hl)
  have k1 : ¬ (t.size : Int) < (p.size : Int) := by omega
  clear h0 h1
  go_enter Tryz.func146, Tryz.ntmps146
  go_wp2
  go_ret
  exact ⟨za4 (za E).symm, rfl⟩
end zh5
end Go.Proofs.YtfdbokipgofcdaaGreatDoor

namespace Go.Proofs.YtfdbokipgofcdaaGreatDoor
open Go.RowKit
namespace Pl
def zo7 (L : List Nd) (p : ByteArray) : Bool := L.any (fun m => !decide (m.path = p) && under m.path p)
theorem over_yes {L : List Nd} {p : ByteArray} {k : Nat} {n : Nd} (hn : L[k]? = some n) (h1 : n.path ≠ p) (h2 : under n.path p = true) : zo7 L p = true :=
 List.any_eq_true.2 ⟨n, List.mem_of_getElem? hn, by simp [h1, h2]⟩
theorem over_no {L : List Nd} {p : ByteArray} (h : ∀ (j : Nat) m, L[j]? = some m → m.path = p ∨ under m.path p = false) : zo7 L p = false := by
 rw [zo7, List.any_eq_false]
 intro m hm
 obtain ⟨j, hj⟩ := List.mem_iff_getElem?.1 hm
 rcases h j m hj with h | h <;> simp [h]
end Pl
namespace WPutS
theorem tl_ne {a b : ByteArray} (h : a ≠ b) : (a.toList == b.toList) = false := by
 rw [beq_eq_false_iff_ne]
 intro e
 exact h (Pl.zh7 (by rw [ByteArray.toList_eq, ByteArray.toList_eq] at e; exact e))
set_option linter.unusedSimpArgs false in
set_option maxRecDepth 100000 in
set_option maxHeartbeats 2000000 in
theorem over_any (a : Option Addr) (cap : Nat) (L : List Pl.Nd) (p : ByteArray) (w : World) (hl : L.length ≤ 1048576) (hv : Mem.zc2 w a L) (hp : p.size ≤ 1048576) :
  Calls Tryz.prog 144 #[.agg #[.slice a L.length cap], .string p] w fun e w' => e = .returned (.bool (Pl.zo7 L p)) ∧ Below w.heap.size w w' := by
 have b0 : Below w.heap.size w (w.alloc (.cells #[.slice a L.length cap] 36)) := (Below.refl _ _).alloc (Nat.le_refl _) _
 have HV := hide (Mem.za8 hv b0)
 have E1 : Hid (∀ (k : Nat) n, L[k]? = some n → n.path ≠ p → Pl.under n.path p = true → Pl.zo7 L p = true) := fun k n => Pl.over_yes
 have E2 : Hid ((∀ (j : Nat) m, L[j]? = some m → m.path = p ∨ Pl.under m.path p = false) → Pl.zo7 L p = false) := Pl.over_no
 generalize Pl.zo7 L p = R at E1 E2 ⊢
 clear hv
 go_enter Tryz.func144, Tryz.ntmps144
 go_wp2
 go_loop [5] (fun i => ∃ k : Nat, k ≤ L.length ∧ i = .int .i64 (k : Int) ∧ Hid (∀ (j : Nat) m, j < k → L[j]? = some m → m.path = p ∨ Pl.under m.path p = false)) (fun i => L.length - (intOf i).toNat)
 case atStart => exact ⟨0, Nat.zero_le _, rfl, fun j m h => absurd h (by omega)⟩
 case round =>
  obtain ⟨k, hk, rfl, HA⟩ := hrel
  by_cases hlt : k < L.length
  ·obtain ⟨n, hn⟩ : ∃ n, L[k]? = some n := ⟨_, List.getElem?_eq_getElem hlt⟩
   obtain ⟨b, o, rfl, hb, q0, -, -, -, -⟩ := (za HV) k n hn
   have y1 : (k : Int) < (L.length : Int) := by omega
   have y3 : (0 : Int) ≤ (k : Int) := by omega
   have EN := hide hn
   by_cases hqp : n.path = p
   ·have HA2 : Hid (∀ (j : Nat) m, j < k + 1 → L[j]? = some m → m.path = p ∨ Pl.under m.path p = false) := fun j m hj hm => by
     rcases Nat.lt_succ_iff_lt_or_eq.1 hj with h'' | rfl
     ·exact HA.out j m h'' hm
     ·rw [za EN] at hm; cases hm; exact .inl hqp
    rw [hqp] at q0
    clear hn EN hqp
    go_wp2
    go_round
    case rel => exact ⟨k + 1, by omega, by go_num, HA2⟩
    case measure => simp [intOf]; omega
   ·have t1 := tl_ne hqp
    have hcu := hide (fun W => zh5.yu5 n.path p W hp)
    cases hun : Pl.under n.path p
    ·have HA2 : Hid (∀ (j : Nat) m, j < k + 1 → L[j]? = some m → m.path = p ∨ Pl.under m.path p = false) := fun j m hj hm => by
      rcases Nat.lt_succ_iff_lt_or_eq.1 hj with h'' | rfl
      ·exact HA.out j m h'' hm
      ·rw [za EN] at hm; cases hm; exact .inr hun
     rw [hun] at hcu
     generalize n.path = np at q0 t1 hcu
     clear hn EN hqp hun
     go_wp2_with (go_at_call 146; refine (za hcu _).mono ?_; rintro e w' ⟨rfl, hw⟩; obtain rfl := hw.symm)
     go_round
     case rel => exact ⟨k + 1, by omega, by go_num, HA2⟩
     case measure => simp [intOf]; omega
    ·have E := hide (za E1 k n hn hqp hun)
     rw [hun] at hcu
     generalize n.path = np at q0 t1 hcu
     clear hn EN hqp hun
     go_wp2_with (go_at_call 146; refine (za hcu _).mono ?_; rintro e w' ⟨rfl, hw⟩; obtain rfl := hw.symm)
     go_ret
     exact ⟨za4 (za E).symm, b0⟩
  ·have E := hide (za E2 (fun j n h => HA.out j n (by have := (List.getElem?_eq_some_iff.1 h).1; omega) h))
   have u1 : ¬ (k : Int) < (L.length : Int) := by omega
   go_wp2
   go_ret
   exact ⟨za4 (za E).symm, b0⟩
end WPutS
end Go.Proofs.YtfdbokipgofcdaaGreatDoor

