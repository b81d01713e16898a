/- Several texts of one claim in one file: WFaceL, WFaceF, WNestG, WNestK, WNestJ, WNestH, WNestM, WLwT. -/
import Derived.Test.YtioildojmckepaaGreatDoorG02
import Derived.Test.YtioildojmckepaaGreatDoorG32
import Derived.Test.YtioildojmckepaaGreatDoorG43
import Derived.Test.YtioildojmckepaaGreatDoorG30
import Derived.Test.YtioildojmckepaaGreatDoorG01
import Derived.Test.YtioildojmckepaaGreatDoorG20
import Derived.Deep.RegionHeld3
import Derived.Test.YtioildojmckepaaGreatDoorProg
import Derived.WalkSpells
import Derived.Lib.OthersKept
import Derived.Laws.RangeAny
import Derived.Deep.Draws
import Derived.Deep.QuietTactic
import Derived.BigQuiet
import Derived.Laws.AppendOwn
import Derived.Test.YtioildojmckepaaGreatDoorG04
import Derived.Test.YtioildojmckepaaGreatDoorG08
namespace Go.Proofs.YtioildojmckepaaGreatDoor
open Go.RowKit
namespace zc0
set_option maxRecDepth 100000 in
theorem ye9 (a : Option Addr) (cap : Nat) (Is : List Pl.It) (w : World) (hl : Is.length ≤ 1048576) (hcap : Is.length ≤ cap) (hv : Mem.za7 w a Is) (hok : ∀ x ∈ Is, x.t.L.length ≤ 1048576 ∧ ∀ n ∈ x.t.L, n.path.size ≤ 1048576 ∧ n.data.size ≤ 1048576)
  (r0 r1 r2 r3 : TypeId) (x0 x1 x2 x3 : Value) (hE : zn1 w r0 r1 r2 r3 x0 x1 x2 x3) :
  Calls Tryz.prog 20 #[.slice a Is.length cap] w fun e w' => e = .returned (.int .i64 (Pl.zp5 (Pl.nest (Pl.rowO (Is.map Pl.It.r))))) ∧ Below w.heap.size w w' := by
 have hz := hide (zk4 a cap Is w hl hcap hv hok _ _ _ _ _ _ _ _ hE)
 have hsz : ∀ k, Pl.nest (Pl.rowO (Is.map Pl.It.r)) = some k → k.sz ≤ 12 := fun k h => Pl.nest_sz h
 have HZ := hide hsz
 clear hv hok hE hsz
 generalize Pl.nest (Pl.rowO (Is.map Pl.It.r)) = NN at hz HZ ⊢
 go_enter Tryz.func20, Tryz.ntmps20
 go_wp2_with fail
 refine (za hz).mono ?_
 rintro e w1 ⟨h1, b1⟩
 clear hz
 rcases h1 with ⟨k, q, m, va, vcap, rfl, rfl, hlay⟩ | ⟨rfl, r, x, rfl⟩
 ·have bA : Below w1.heap.size w1 (w1.alloc (.cells #[.map q, .int .i64 m, .slice va k.len vcap] 71)) := (Below.refl _ _).alloc (Nat.le_refl _) _
  have bw := b1.trans (bA.mono b1.size)
  have hcall := hide (yb1 _ 1000 (Nat.le_refl _) k q m _ _ (by have := za HZ k rfl; omega) (Mem.zm2 hlay bA))
  clear HZ hlay bA b1
  go_wp2_with fail
  refine (za hcall).mono ?_
  rintro e w2 ⟨rfl, b2⟩
  have bb := bw.trans (b2.mono bw.size)
  clear hcall b2 bw
  go_wp2
  go_ret
  exact ⟨rfl, bb⟩
 ·go_wp2
  go_ret
  exact ⟨rfl, b1.alloc b1.size _⟩
end zc0
end Go.Proofs.YtioildojmckepaaGreatDoor

namespace Go.Proofs.YtioildojmckepaaGreatDoor
open Go.RowKit
namespace zc0
set_option maxRecDepth 100000 in
theorem first_face (a : Option Addr) (cap : Nat) (Is : List Pl.It) (w : World) (hl : Is.length ≤ 1048576) (hcap : Is.length ≤ cap) (hv : Mem.za7 w a Is) (hok : ∀ x ∈ Is, x.t.L.length ≤ 1048576 ∧ ∀ n ∈ x.t.L, n.path.size ≤ 1048576 ∧ n.data.size ≤ 1048576)
  (r0 r1 r2 r3 : TypeId) (x0 x1 x2 x3 : Value) (hE : zn1 w r0 r1 r2 r3 x0 x1 x2 x3) :
  Calls Tryz.prog 18 #[.slice a Is.length cap] w fun e w' => e = .returned (.int .i64 (Pl.zp5 (Pl.nest (Pl.rowO (Is.map Pl.It.r))))) ∧ Below w.heap.size w w' := by
 have hz := hide (ye9 a cap Is w hl hcap hv hok _ _ _ _ _ _ _ _ hE)
 clear hv hok hE
 generalize Pl.zp5 (Pl.nest (Pl.rowO (Is.map Pl.It.r))) = V at hz ⊢
 go_enter Tryz.func18, Tryz.ntmps18
 go_wp2_with fail
 refine (za hz).mono ?_
 rintro e w1 ⟨rfl, b1⟩
 clear hz
 go_wp2
 go_ret
 exact ⟨rfl, b1⟩
end zc0
end Go.Proofs.YtioildojmckepaaGreatDoor

namespace Go.Proofs.YtioildojmckepaaGreatDoor
open Go.RowKit
namespace zh8
set_option maxRecDepth 100000 in
theorem max_any (x y : Int) (w : World) : Calls Tryz.prog 64 #[.int .i64 x, .int .i64 y] w fun e w' => e = .returned (.int .i64 (max x y)) ∧ w' = w := by
 by_cases h : y < x
 ·go_enter Tryz.func64, Tryz.ntmps64
  go_wp2
  go_ret
  exact ⟨by rw [show max x y = x by omega]; rfl, rfl⟩
 ·go_enter Tryz.func64, Tryz.ntmps64
  go_wp2
  go_ret
  exact ⟨by rw [show max x y = y by omega]; rfl, rfl⟩
set_option linter.unusedSimpArgs false in
set_option maxRecDepth 100000 in
set_option maxHeartbeats 1000000 in
theorem zw8 (a : Option Addr) (cap : Nat) (Is : List Pl.It) (hl : Is.length ≤ 12) (w : World) (hv : Mem.za7 w a Is) (n : Nat) (hn : n ≤ 1000) :
  ∀ (p : Nat) (kids : Pl.Fo) (R : Pl.Row), kids.sz ≤ n → p ≤ Is.length → Pl.take 1 ((Pl.rowO (Is.map Pl.It.r)).drop p) = some (.cons kids .nil, R) →
  Calls Tryz.prog 43 #[.slice a Is.length cap, .int .i64 (p : Int)] w fun e w' => e = .returned (.tuple #[.int .i64 ((kids.depth : Int) + 1), .int .i64 ((Is.length : Int) - (R.length : Int))]) ∧ w' = w := by
 have hrl : (Pl.rowO (Is.map Pl.It.r)).length = Is.length := by rw [Pl.zi7, List.length_map]
 induction n with
 | zero =>
  intro p kids R hs hp ht
  cases kids with
  | cons k m => simp [Pl.Fo.sz] at hs
  | nil =>
   have hlt : p < Is.length := by
    have := (Pl.zo3 ht).2.1
    rw [List.length_drop] at this; omega
   obtain ⟨x, hx⟩ : ∃ x, Is[p]? = some x := ⟨_, List.getElem?_eq_getElem hlt⟩
   obtain ⟨⟨b, o, rfl, hb, q0, q0'⟩, q1⟩ := hv p x hx
   have hrow : (Pl.rowO (Is.map Pl.It.r)).drop p = Pl.zh7 x.r :: (Pl.rowO (Is.map Pl.It.r)).drop (p + 1) := Pl.rowO_at (by rw [List.getElem?_map, hx]; rfl)
   rw [hrow] at ht
   cases hio : Pl.zh7 x.r with
   | none => rw [hio] at ht; cases ht
   | some mm =>
    rw [hio, Pl.zp9] at ht
    cases h1 : Pl.take mm ((Pl.rowO (Is.map Pl.It.r)).drop (p + 1)) with
    | none => rw [h1] at ht; simp at ht
    | some y =>
     rw [h1] at ht
     simp at ht
     have hm0 : mm = 0 := by have := (Pl.zo3 h1).1; rw [ht.1] at this; exact this.symm
     subst hm0
     rw [Pl.take_zero] at h1
     cases h1
     have hR : R = (Pl.rowO (Is.map Pl.It.r)).drop (p + 1) := ht.2.symm
     have hRl : (Is.length : Int) - (R.length : Int) = (p : Int) + 1 := by rw [hR, List.length_drop, hrl]; omega
     rw [hRl]
     have hm := (Pl.zp3 hio).1
     have c0 := q0
     rw [show x.m = 0 from hm] at c0
     have u3 : (0 : Int) ≤ (p : Int) := by omega
     have u4 : (p : Int) < (Is.length : Int) := by omega
     simp only [Pl.Fo.depth]
     clear hv q0 q0' q1 hx hrow ht hio hm hR hRl
     go_enter Tryz.func43, Tryz.ntmps43
     go_wp2
     go_loopw [1, 6, 7] (fun v k d wr => v = .int .i64 ((p : Int) + 1) ∧ k = .int .i64 0 ∧ d = .int .i64 0 ∧ wr = w) (fun _ _ _ _ => 0)
     case atStart => exact ⟨rfl, rfl, rfl, rfl⟩
     case round =>
      obtain ⟨rfl, rfl, rfl, rfl⟩ := hrel
      go_wp2
      go_ret2
      first | exact ⟨rfl, rfl⟩ | exact ⟨by simp, rfl⟩
 | succ n ih =>
  intro p kids R hs hp ht
  have hlt : p < Is.length := by
   have := (Pl.zo3 ht).2.1
   rw [List.length_drop] at this; omega
  obtain ⟨x, hx⟩ : ∃ x, Is[p]? = some x := ⟨_, List.getElem?_eq_getElem hlt⟩
  have hv2 := hv
  obtain ⟨⟨b, o, rfl, hb, q0, q0'⟩, q1⟩ := hv p x hx
  have hrow : (Pl.rowO (Is.map Pl.It.r)).drop p = Pl.zh7 x.r :: (Pl.rowO (Is.map Pl.It.r)).drop (p + 1) := Pl.rowO_at (by rw [List.getElem?_map, hx]; rfl)
  rw [hrow] at ht
  cases hio : Pl.zh7 x.r with
  | none => rw [hio] at ht; cases ht
  | some mm =>
   rw [hio, Pl.zp9] at ht
   cases h1 : Pl.take mm ((Pl.rowO (Is.map Pl.It.r)).drop (p + 1)) with
   | none => rw [h1] at ht; simp at ht
   | some y =>
    obtain ⟨K, R'⟩ := y
    rw [h1] at ht
    simp at ht
    obtain ⟨rfl, rfl⟩ := ht
    obtain ⟨hm, hm4⟩ := Pl.zp3 hio
    have c0 := q0
    rw [show x.m = (mm : Int) from hm] at c0
    have u3 : (0 : Int) ≤ (p : Int) := by omega
    have u4 : (p : Int) < (Is.length : Int) := by omega
    have hKd := K.zy6
    have HI := hide (ih (by omega))
    have HT := hide h1
    have HRL := hide hrl
    generalize Pl.rowO (Is.map Pl.It.r) = LL at HI HT HRL
    generalize hV : (Is.length : Int) - (R'.length : Int) = V
    have HV := hide hV
    clear hV
    clear hv hv2 q0 q0' q1 hx hrow hio hm h1 ih hrl
    go_enter Tryz.func43, Tryz.ntmps43
    go_wp2
    go_loopw [1, 6, 7] (fun v k d wr => ∃ (kk p' dd : Nat) (F : Pl.Fo), v = .int .i64 (p' : Int) ∧ k = .int .i64 (kk : Int) ∧ d = .int .i64 (dd : Int) ∧ kk ≤ 4 ∧ p' ≤ Is.length ∧ max dd F.depth = K.depth ∧ F.sz ≤ n + 1 ∧ Hid (Pl.take kk (LL.drop p') = some (F, R')) ∧ wr = w) (fun _ k _ _ => (intOf k).toNat)
    case atStart => exact ⟨mm, p + 1, 0, K, by go_num, rfl, rfl, hm4, by omega, by omega, hs, HT, rfl⟩
    case round =>
     obtain ⟨kk, p', dd, F, rfl, rfl, rfl, hk4, hp', hmax, hsz, HF, rfl⟩ := hrel
     have v3 : (0 : Int) ≤ (p' : Int) := by omega
     cases kk with
     | zero =>
      have hF := za HF
      rw [Pl.take_zero] at hF
      have hRR : R' = LL.drop p' := by injection hF with hF; exact (Prod.mk.inj hF).2.symm
      have hFF : F = .nil := by injection hF with hF; exact (Prod.mk.inj hF).1.symm
      have hfin : Hid (V = (p' : Int)) := hide (by rw [← za HV, hRR, List.length_drop, za HRL]; omega)
      rw [hFF] at hmax
      simp only [Pl.Fo.depth] at hmax
      have hdd : dd = K.depth := by omega
      subst hdd
      clear HI HT HF hF hRR hFF HV
      go_wp2
      go_ret2
      first | exact ⟨by rw [za hfin]; rfl, rfl⟩ | exact ⟨by rw [za hfin]; simp, rfl⟩
     | succ kk =>
      have u1 : (0 : Int) < ((kk + 1 : Nat) : Int) := by omega
      obtain ⟨k1, more, R1, rfl, g1, g2⟩ := Pl.take_split (za HF)
      simp only [Pl.Fo.depth, Pl.Fo.sz] at hmax hsz
      have hcall := hide (za HI p' k1 R1 (by omega) hp' g1)
      obtain ⟨p2, e2, hp2, hd2⟩ := Pl.take_at (za HRL) hp' g1
      rw [e2] at hcall
      have HF2 : Hid (Pl.take kk (LL.drop p2) = some (more, R')) := hide (by rw [hd2]; exact g2)
      clear HF g1 g2 hd2 e2
      go_wp2_with fail
      refine (za hcall).mono ?_
      rintro e wX ⟨rfl, rfl⟩
      clear hcall
      have hmx := hide (max_any (dd : Int) ((k1.depth : Int) + 1))
      have em : max (dd : Int) ((k1.depth : Int) + 1) = ((max dd (k1.depth + 1) : Nat) : Int) := by omega
      rw [em] at hmx
      generalize hM : max dd (k1.depth + 1) = M at hmx
      go_wp2_with fail
      refine (za hmx _).mono ?_
      rintro e wX ⟨rfl, rfl⟩
      clear hmx em
      go_wp2
      go_roundw
      case rel => exact ⟨kk, p2, M, more, rfl, by go_num, rfl, by omega, hp2, by omega, by omega, HF2, trivial⟩
      case measure => simp [intOf]
set_option maxRecDepth 100000 in
theorem zs2 (a : Option Addr) (cap : Nat) (Is : List Pl.It) (w : World) (hl : Is.length ≤ 1048576) (hv : Mem.za7 w a Is) (hok : ∀ x ∈ Is, x.t.L.length ≤ 1048576 ∧ ∀ n ∈ x.t.L, n.path.size ≤ 1048576 ∧ n.data.size ≤ 1048576) :
  Calls Tryz.prog 15 #[.slice a Is.length cap] w fun e w' => e = .returned (.int .i64 (Pl.depthO (Pl.nest (Pl.rowO (Is.map Pl.It.r))))) ∧ Below w.heap.size w w' := by
 have hrl : (Pl.rowO (Is.map Pl.It.r)).length = Is.length := by rw [Pl.zi7, List.length_map]
 by_cases h400 : 400 < Is.length
 ·have t0 : (400 : Int) < (Is.length : Int) := by omega
  rw [Pl.zm3 _ (by omega)]
  clear hv hok
  go_enter Tryz.func15, Tryz.ntmps15
  go_wp2
  go_ret
  exact ⟨rfl, Below.refl _ _⟩
 have t0 : ¬ (400 : Int) < (Is.length : Int) := by omega
 have hz := hide (ze6 a cap Is w hl hv hok)
 cases hN : Pl.nest (Pl.rowO (Is.map Pl.It.r)) with
 | none =>
  rw [hN] at hz
  clear hv hok hN hrl
  go_enter Tryz.func15, Tryz.ntmps15
  go_wp2_with fail
  refine (za hz).mono ?_
  rintro e w1 ⟨rfl, b1⟩
  clear hz
  go_wp2
  go_ret
  exact ⟨rfl, b1⟩
 | some k =>
  rw [hN] at hz
  have hks := Pl.nest_sz hN
  obtain ⟨h12, ht, -⟩ := Pl.zm0 hN
  have hd := hide (fun W (b : Below w.heap.size w W) => zw8 a cap Is (by omega) W (Mem.zg hv b) 12 (by omega) 0 k [] hks (Nat.zero_le _) (by simpa using ht))
  simp only [Pl.depthO]
  clear hv hok hN hrl ht
  go_enter Tryz.func15, Tryz.ntmps15
  go_wp2_with fail
  refine (za hz).mono ?_
  rintro e w1 ⟨rfl, b1⟩
  clear hz
  go_wp2_with fail
  refine (za hd _ b1).mono ?_
  rintro e w2 ⟨rfl, rfl⟩
  clear hd
  go_wp2
  go_ret
  exact ⟨rfl, b1⟩
end zh8
end Go.Proofs.YtioildojmckepaaGreatDoor

namespace Go.Proofs.YtioildojmckepaaGreatDoor
open Go.RowKit
namespace zh8
theorem zeros_take {Is : List Pl.It} {k : Nat} {x : Pl.It} (hx : Is[k]? = some x) : Pl.zeros ((Pl.rowO (Is.map Pl.It.r)).take (k + 1)) = Pl.zeros ((Pl.rowO (Is.map Pl.It.r)).take k) + (if Pl.zh7 x.r = some 0 then 1 else 0) := by
 have h : (Pl.rowO (Is.map Pl.It.r))[k]? = some (Pl.zh7 x.r) := by rw [Pl.rowO, List.getElem?_map, List.getElem?_map, hx]; rfl
 rw [List.take_add_one, h]
 unfold Pl.zeros
 rw [List.countP_append]
 simp [List.countP_cons]
theorem all_some {L : Pl.Row} {k : Pl.Fo} (h : Pl.nest L = some k) (i : Nat) (o : Option Nat) (hi : L[i]? = some o) : ∃ m, o = some m := by
 cases o with
 | some m => exact ⟨m, rfl⟩
 | none => exact absurd hi (Pl.yc2 h i)
set_option linter.unusedSimpArgs false in
set_option maxRecDepth 100000 in
set_option maxHeartbeats 1000000 in
theorem zy3 (a : Option Addr) (cap : Nat) (Is : List Pl.It) (w : World) (hl : Is.length ≤ 1048576) (hv : Mem.za7 w a Is) (hok : ∀ x ∈ Is, x.t.L.length ≤ 1048576 ∧ ∀ n ∈ x.t.L, n.path.size ≤ 1048576 ∧ n.data.size ≤ 1048576) :
  Calls Tryz.prog 17 #[.slice a Is.length cap] w fun e w' => e = .returned (.int .i64 (Pl.zx5 (Pl.nest (Pl.rowO (Is.map Pl.It.r))))) ∧ Below w.heap.size w w' := by
 have hrl : (Pl.rowO (Is.map Pl.It.r)).length = Is.length := by rw [Pl.zi7, List.length_map]
 by_cases h400 : 400 < Is.length
 ·have t0 : (400 : Int) < (Is.length : Int) := by omega
  rw [Pl.zm3 _ (by omega)]
  clear hv hok
  go_enter Tryz.func17, Tryz.ntmps17
  go_wp2
  go_ret
  exact ⟨rfl, Below.refl _ _⟩
 have t0 : ¬ (400 : Int) < (Is.length : Int) := by omega
 have hz := hide (ze6 a cap Is w hl hv hok)
 cases hN : Pl.nest (Pl.rowO (Is.map Pl.It.r)) with
 | none =>
  rw [hN] at hz
  clear hv hok hN hrl
  go_enter Tryz.func17, Tryz.ntmps17
  go_wp2_with fail
  refine (za hz).mono ?_
  rintro e w1 ⟨rfl, b1⟩
  clear hz
  go_wp2
  go_ret
  exact ⟨rfl, b1⟩
 | some k =>
  rw [hN] at hz
  have h12 := (Pl.zm0 hN).1
  have hlv : Pl.zeros ((Pl.rowO (Is.map Pl.It.r)).take Is.length) = k.leaves := by rw [← hrl, List.take_length]; exact (Pl.nest_leaves hN).symm
  have HST : Hid (∀ (j : Nat) x, Is[j]? = some x → (x.m = 0 ↔ Pl.zh7 x.r = some 0) ∧ Pl.zeros ((Pl.rowO (Is.map Pl.It.r)).take (j + 1)) = Pl.zeros ((Pl.rowO (Is.map Pl.It.r)).take j) + (if Pl.zh7 x.r = some 0 then 1 else 0)) := hide (fun j x hx => ⟨by
   have h : (Pl.rowO (Is.map Pl.It.r))[j]? = some (Pl.zh7 x.r) := by rw [Pl.rowO, List.getElem?_map, List.getElem?_map, hx]; rfl
   obtain ⟨m, hm⟩ := all_some hN j _ h
   have hm1 : x.m = (m : Int) := (Pl.zp3 hm).1
   rw [hm, hm1]
   constructor
   ·intro h; rw [show m = 0 by omega]
   ·intro h; cases h; rfl, zeros_take hx⟩)
  have HLV := hide hlv
  have HZL : Hid (∀ j, j ≤ Is.length → Pl.zeros ((Pl.rowO (Is.map Pl.It.r)).take j) ≤ j) := hide (fun j hj => by
   have := Pl.zeros_le ((Pl.rowO (Is.map Pl.It.r)).take j)
   rw [List.length_take] at this; omega)
  generalize Pl.rowO (Is.map Pl.It.r) = LL at HST HLV HZL hN h12 hrl
  simp only [Pl.zx5]
  have HV := hide hv
  clear hv hok hN hlv
  go_enter Tryz.func17, Tryz.ntmps17
  go_wp2_with fail
  refine (za hz).mono ?_
  rintro e w1 ⟨rfl, b1⟩
  clear hz
  go_wp2
  go_loopw [3, 4] (fun c i wr => ∃ j : Nat, i = .int .i64 (j : Int) ∧ j ≤ Is.length ∧ c = .int .i64 ((Pl.zeros (LL.take j) : Nat) : Int) ∧ wr = w1) (fun _ i _ => Is.length - (intOf i).toNat)
  case atStart => exact ⟨0, rfl, Nat.zero_le _, by simp [Pl.zeros], rfl⟩
  case round =>
   obtain ⟨j, rfl, hj, rfl, rfl⟩ := hrel
   have u3 : (0 : Int) ≤ (j : Int) := by omega
   have hzl := za HZL j hj
   by_cases hlt : j < Is.length
   ·have u4 : (j : Int) < (Is.length : Int) := by omega
    obtain ⟨x, hx⟩ : ∃ x, Is[j]? = some x := ⟨_, List.getElem?_eq_getElem hlt⟩
    obtain ⟨hiff, hstep⟩ := za HST j x hx
    obtain ⟨⟨b, o, rfl, hb, q0, -⟩, -⟩ := za HV j x hx
    have c0 := (b1.cell (p := ⟨b, _, none⟩) hb).trans q0
    generalize Pl.zeros (LL.take j) = z at hzl hstep ⊢
    clear q0 hx HST HV HLV HZL
    by_cases hm : x.m = 0
    ·rw [if_pos (hiff.1 hm)] at hstep
     rw [hm] at c0
     have HS := hide hstep
     clear hstep hiff
     go_wp2
     go_roundw
     case rel => exact ⟨j + 1, by go_num, by omega, by rw [za HS]; go_num, trivial⟩
     case measure => simp [intOf]; omega
    ·rw [if_neg (fun h => hm (hiff.2 h))] at hstep
     have HS := hide hstep
     clear hstep hiff
     go_wp2
     go_roundw
     case rel => exact ⟨j + 1, by go_num, by omega, by rw [za HS]; rfl, trivial⟩
     case measure => simp [intOf]; omega
   ·have u4 : ¬ (j : Int) < (Is.length : Int) := by omega
    have hjl : j = Is.length := by omega
    subst hjl
    have hfin := za HLV
    rw [hfin]
    clear hfin HST HV HLV HZL
    go_wp2
    go_ret
    exact ⟨rfl, b1⟩
end zh8
end Go.Proofs.YtioildojmckepaaGreatDoor

namespace Go.Proofs.YtioildojmckepaaGreatDoor
open Go.RowKit
namespace zh8
theorem many_at {Is : List Pl.It} {j m : Nat} (h : (Pl.rowO (Is.map Pl.It.r))[j]? = some (some m)) : ∃ x, Is[j]? = some x ∧ x.m = (m : Int) := by
 rw [Pl.rowO, List.getElem?_map, List.getElem?_map] at h
 cases hx : Is[j]? with
 | none => rw [hx] at h; simp at h
 | some x =>
  rw [hx] at h
  simp at h
  exact ⟨x, rfl, (Pl.zp3 h).1⟩
set_option linter.unusedSimpArgs false in
set_option maxRecDepth 100000 in
set_option maxHeartbeats 1000000 in
theorem first_any (a : Option Addr) (cap : Nat) (Is : List Pl.It) (hl : Is.length ≤ 12) (w : World) (hv : Mem.za7 w a Is) (k : Pl.Fo) (hN : Pl.nest (Pl.rowO (Is.map Pl.It.r)) = some k) :
  Calls Tryz.prog 45 #[.slice a Is.length cap] w fun e w' => e = .returned (.int .i64 (k.level : Int)) ∧ w' = w := by
 obtain ⟨hA, hB⟩ := Pl.yd3 hN
 have HA := hide hA
 obtain ⟨x, hx, hxm⟩ := many_at hB
 have hkl : k.level < Is.length := (List.getElem?_eq_some_iff.1 hx).1
 obtain ⟨⟨b, o, rfl, hb, q0, -⟩, -⟩ := hv _ x hx
 rw [hxm] at q0
 have HQ := hide q0
 have HV := hide hv
 clear hA hB hN hv q0 hx hxm
 go_enter Tryz.func45, Tryz.ntmps45
 go_wp2
 go_loopw [3] (fun i wr => ∃ j : Nat, i = .int .i64 (j : Int) ∧ j ≤ k.level ∧ wr = w) (fun i _ => k.level - (intOf i).toNat)
 case atStart => exact ⟨0, rfl, Nat.zero_le _, rfl⟩
 case round =>
  obtain ⟨j, rfl, hj, rfl⟩ := hrel
  have u3 : (0 : Int) ≤ (j : Int) := by omega
  have u4 : (j : Int) < (Is.length : Int) := by omega
  by_cases hlt : j < k.level
  ·obtain ⟨m, hm⟩ := za HA j hlt
   obtain ⟨y, hy, hym⟩ := many_at hm
   obtain ⟨⟨b2, o2, e2, hb2, c0, -⟩, -⟩ := za HV j y hy
   cases e2
   rw [hym] at c0
   have u5 : (0 : Int) < ((m + 1 : Nat) : Int) := by omega
   clear hm hy hym HA HV HQ
   go_wp2
   go_roundw
   case rel => exact ⟨j + 1, by go_num, by omega, trivial⟩
   case measure => simp [intOf]; omega
  ·have hjl : j = k.level := by omega
   subst hjl
   have c0 := za HQ
   clear HA HV HQ
   go_wp2
   go_ret
   exact ⟨rfl, rfl⟩
end zh8
end Go.Proofs.YtioildojmckepaaGreatDoor

namespace Go.Proofs.YtioildojmckepaaGreatDoor
open Go.RowKit
namespace zh8
set_option maxRecDepth 100000 in
theorem zz7 (a : Option Addr) (cap : Nat) (Is : List Pl.It) (w : World) (hl : Is.length ≤ 1048576) (hv : Mem.za7 w a Is) (hok : ∀ x ∈ Is, x.t.L.length ≤ 1048576 ∧ ∀ n ∈ x.t.L, n.path.size ≤ 1048576 ∧ n.data.size ≤ 1048576) :
  Calls Tryz.prog 19 #[.slice a Is.length cap] w fun e w' => e = .returned (.int .i64 (Pl.zp5 (Pl.nest (Pl.rowO (Is.map Pl.It.r))))) ∧ Below w.heap.size w w' := by
 have hrl : (Pl.rowO (Is.map Pl.It.r)).length = Is.length := by rw [Pl.zi7, List.length_map]
 by_cases h400 : 400 < Is.length
 ·have t0 : (400 : Int) < (Is.length : Int) := by omega
  rw [Pl.zm3 _ (by omega)]
  clear hv hok
  go_enter Tryz.func19, Tryz.ntmps19
  go_wp2
  go_ret
  exact ⟨rfl, Below.refl _ _⟩
 have t0 : ¬ (400 : Int) < (Is.length : Int) := by omega
 have hz := hide (ze6 a cap Is w hl hv hok)
 cases hN : Pl.nest (Pl.rowO (Is.map Pl.It.r)) with
 | none =>
  rw [hN] at hz
  clear hv hok hN hrl
  go_enter Tryz.func19, Tryz.ntmps19
  go_wp2_with fail
  refine (za hz).mono ?_
  rintro e w1 ⟨rfl, b1⟩
  clear hz
  go_wp2
  go_ret
  exact ⟨rfl, b1⟩
 | some k =>
  rw [hN] at hz
  obtain ⟨h12, ht, -⟩ := Pl.zm0 hN
  have hd := hide (fun W (b : Below w.heap.size w W) => first_any a cap Is (by omega) W (Mem.zg hv b) k hN)
  simp only [Pl.zp5]
  clear hv hok hN hrl ht
  go_enter Tryz.func19, Tryz.ntmps19
  go_wp2_with fail
  refine (za hz).mono ?_
  rintro e w1 ⟨rfl, b1⟩
  clear hz
  go_wp2_with fail
  refine (za hd _ b1).mono ?_
  rintro e w2 ⟨rfl, rfl⟩
  clear hd
  go_wp2
  go_ret
  exact ⟨rfl, b1⟩
end zh8
end Go.Proofs.YtioildojmckepaaGreatDoor

namespace Go.Proofs.YtioildojmckepaaGreatDoor
open Go.RowKit
namespace zh8
set_option maxRecDepth 100000 in
theorem yb1 (a : Option Addr) (cap : Nat) (Is : List Pl.It) (w : World) (hl : Is.length ≤ 1048576) (hv : Mem.za7 w a Is) (hok : ∀ x ∈ Is, x.t.L.length ≤ 1048576 ∧ ∀ n ∈ x.t.L, n.path.size ≤ 1048576 ∧ n.data.size ≤ 1048576) :
  Calls Tryz.prog 21 #[.slice a Is.length cap] w fun e w' => e = .returned (.int .i64 (Pl.zp5 (Pl.nest (Pl.rowO (Is.map Pl.It.r))))) ∧ Below w.heap.size w w' := by
 have hz := hide (zz7 a cap Is w hl hv hok)
 clear hv hok
 generalize Pl.zp5 (Pl.nest (Pl.rowO (Is.map Pl.It.r))) = V at hz ⊢
 go_enter Tryz.func21, Tryz.ntmps21
 go_wp2_with fail
 refine (za hz).mono ?_
 rintro e w1 ⟨rfl, b1⟩
 clear hz
 go_wp2
 go_ret
 exact ⟨rfl, b1⟩
end zh8
end Go.Proofs.YtioildojmckepaaGreatDoor

namespace Go.Proofs.YtioildojmckepaaGreatDoor
open Go.RowKit
namespace WLw
set_option linter.unusedSimpArgs false in
set_option maxRecDepth 100000 in
set_option maxHeartbeats 2000000 in
theorem zp8 (a b : Option Addr) (c1 c2 : Nat) (L : List Pl.Nd) (w : World) (hA : L.length ≤ 1048576) (hv : Mem.zb5 w a L) (hu : Mem.zb5 w b L) :
  Calls Tryz.prog 35 #[.agg #[.slice a L.length c1], .agg #[.slice b L.length c2]] w fun e w' => e = .returned (.bool true) ∧ Below w.heap.size w w' := by
 have b0 : Below w.heap.size w ((w.alloc (.cells #[.slice a L.length c1] 36)).alloc (.cells #[.slice b L.length c2] 36)) := ((Below.refl _ _).alloc (Nat.le_refl _) _).alloc (by simp) _
 have HV := hide hv
 have HU := hide hu
 clear hv hu
 go_enter Tryz.func35, Tryz.ntmps35
 go_wp2
 go_loopw [5] (fun i wr => ∃ k : Nat, k ≤ L.length ∧ i = .int .i64 (k : Int) ∧ Below w.heap.size w wr ∧ Hid (Mem.Var wr w.heap.size [.slice a L.length c1]) ∧ Hid (Mem.Var wr (w.heap.size + 1) [.slice b L.length c2])) (fun i _ => L.length - (intOf i).toNat)
 case atStart =>
  refine ⟨0, Nat.zero_le _, rfl, b0, ?_, ?_⟩
  ·exact hide (Mem.ya9 (Mem.ze w [.slice a L.length c1] 36) _)
  ·have h := Mem.ze (w.alloc (.cells #[.slice a L.length c1] 36)) [.slice b L.length c2] 36
   rw [show (w.alloc (.cells #[.slice a L.length c1] 36)).heap.size = w.heap.size + 1 by simp] at h
   exact hide h
 case round =>
  obtain ⟨k, hk, rfl, hbel, V1, V2⟩ := hrel
  have cv1 := (za V1).2 0 _ rfl
  have cv2 := (za V2).2 0 _ rfl
  by_cases hlt : k < L.length
  ·obtain ⟨n, hn⟩ : ∃ n, L[k]? = some n := ⟨_, List.getElem?_eq_getElem hlt⟩
   have y1 : (k : Int) < (L.length : Int) := by omega
   have y3 : (0 : Int) ≤ (k : Int) := by omega
   obtain ⟨g, o, rfl, hg, q0, q1, q2, q3, q4⟩ := (Mem.za5 (za HV) hbel) k n hn
   obtain ⟨g2, o2, rfl, hg2, p0, p1, p2, p3, p4⟩ := (Mem.za5 (za HU) hbel) k n hn
   obtain ⟨np, nk, nd, nt, nm⟩ := n
   simp only at q0 q1 q2 q3 q4 p0 p1 p2 p3 p4
   clear hn HV HU b0
   go_wp2
   go_quiet (fail)
   go_wp2
   go_roundw
   case rel => exact ⟨k + 1, by omega, by go_num, Mem.below_drewN hbel _, za V1, za V2⟩
   case measure => simp [intOf]; omega
  ·have y1 : ¬ (k : Int) < (L.length : Int) := by omega
   go_wp2
   go_ret
   exact ⟨rfl, hbel⟩
end WLw
end Go.Proofs.YtioildojmckepaaGreatDoor

