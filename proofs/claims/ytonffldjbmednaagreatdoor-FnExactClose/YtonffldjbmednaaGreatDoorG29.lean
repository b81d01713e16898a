/- Several texts of one claim in one file: MemRes, WLawK, WLawEs, WMk1, WMkN. -/
import Derived.Test.YtonffldjbmednaaGreatDoorG02
import Derived.Test.YtonffldjbmednaaGreatDoorG03
import Derived.Test.YtonffldjbmednaaGreatDoorG05
import Derived.Deep.Draws
import Derived.Test.YtonffldjbmednaaGreatDoorProg
import Derived.WalkSpells
import Derived.Deep.QuietTactic
import Derived.BigQuiet
import Derived.Deep.RegionHeld3
import Derived.Test.YtonffldjbmednaaGreatDoorG00
namespace Go.Proofs.YtonffldjbmednaaGreatDoor
open Go.RowKit
namespace Mem
structure Res (w w' : World) : Prop where
 heap : w'.heap[w.heap.size]? = some (.cells #[.string ⟨#[]⟩, .int .i64 0, .int .i64 0] 157 (0, 0))
 bel : Below w.heap.size w w'
theorem Res.start (w : World) : Res w (w.alloc (.cells #[.string ⟨#[]⟩, .int .i64 0, .int .i64 0] 157)) := ⟨heap_alloc_new w _, (Below.refl _ _).alloc (Nat.le_refl _) _⟩
theorem Res.lt {w w' : World} (h : Res w w') : w.heap.size < w'.heap.size := (Array.getElem?_eq_some_iff.1 h.heap).1
theorem Res.below {w w1 w2 : World} {B : Nat} (h : Res w w1) (hb : Below B w1 w2) (hB : w.heap.size < B) : Res w w2 :=
 ⟨(hb.block _ hB).trans h.heap, h.bel.trans (hb.mono (Nat.le_of_lt hB))⟩
theorem Res.call {w w1 w2 : World} (h : Res w w1) (hb : Below w1.heap.size w1 w2) : Res w w2 := h.below hb h.lt
theorem Res.cells {w w' : World} (h : Res w w') : (w'.cell? ⟨w.heap.size, 0, none⟩ = some (.string ⟨#[]⟩) ∧ w'.cell? ⟨w.heap.size, 1, none⟩ = some (.int .i64 0) ∧ w'.cell? ⟨w.heap.size, 2, none⟩ = some (.int .i64 0)) ∧
  (w'.frozen? ⟨w.heap.size, 0, none⟩ = false ∧ w'.frozen? ⟨w.heap.size, 1, none⟩ = false ∧ w'.frozen? ⟨w.heap.size, 2, none⟩ = false) := by
 refine ⟨⟨?_, ?_, ?_⟩, ⟨zb1 h.heap, zb1 h.heap, zb1 h.heap⟩⟩
 ·rw [cell_of_row w' _ 0 _ _ (0, 0) h.heap]; rfl
 ·rw [cell_of_row w' _ 1 _ _ (0, 0) h.heap]; rfl
 ·rw [cell_of_row w' _ 2 _ _ (0, 0) h.heap]; rfl
end Mem
end Go.Proofs.YtonffldjbmednaaGreatDoor

namespace Go.Proofs.YtonffldjbmednaaGreatDoor
open Go.RowKit
namespace WLaw
set_option maxRecDepth 100000 in
set_option maxHeartbeats 800000 in
theorem eqItem_any (m : Int) (a b : Option Addr) (c1 c2 : Nat) (L : List Pl.Nd) (w : World) (hl : L.length ≤ 1048576) (hv : Mem.za7 w a L) (hu : Mem.za7 w b L) :
  Calls Tryz.prog 139 #[.agg #[.int .i64 m, .slice a L.length c1], .agg #[.int .i64 m, .slice b L.length c2]] w fun e w' => e = .returned (.bool true) ∧ Below w.heap.size w w' := by
 have b0 : ∀ o1 o2, Below w.heap.size w ((w.alloc o1).alloc o2) := fun o1 o2 => ((Below.refl _ _).alloc (Nat.le_refl _) o1).alloc (by simp) o2
 have HB := hide b0
 have HZ := hide (fun W (b' : Below w.heap.size w W) => eqTree_any a b c1 c2 L W hl (Mem.za8 hv b') (Mem.za8 hu b'))
 clear hv hu b0
 go_enter Tryz.func139, Tryz.ntmps139
 go_wp2_with fail
 refine (za HZ _ (za HB _ _)).mono ?_
 rintro e w1 ⟨rfl, b1⟩
 have bb := (za HB _ _).trans (b1.mono (za HB _ _).size)
 clear HZ b1
 go_wp2
 go_ret
 exact ⟨rfl, bb⟩
set_option maxRecDepth 100000 in
set_option maxHeartbeats 800000 in
theorem eqItemS_any (a b : Option Addr) (c1 c2 : Nat) (Ts Us : List Pl.It) (w : World) (hl : Ts.length ≤ 1048576) (hm : Us.map Pl.It.r = Ts.map Pl.It.r) (hv : Mem.zb0 w a Ts) (hu : Mem.zb0 w b Us) (hok : ∀ t ∈ Ts, t.t.L.length ≤ 1048576) :
  Calls Tryz.prog 112 #[.slice a Ts.length c1, .slice b Ts.length c2] w fun e w' => e = .returned (.bool true) ∧ Below w.heap.size w w' := by
 have HV := hide hv
 have HU := hide hu
 have HO := hide hok
 have HM := hide hm
 clear hv hu hok hm
 go_enter Tryz.func112, Tryz.ntmps112
 go_wp2
 go_loopw [5] (fun i wr => ∃ k : Nat, k ≤ Ts.length ∧ i = .int .i64 (k : Int) ∧ Below w.heap.size w wr) (fun i _ => Ts.length - (intOf i).toNat)
 case atStart => exact ⟨0, Nat.zero_le _, rfl, Below.refl _ _⟩
 case round =>
  obtain ⟨k, hk, rfl, hbel⟩ := hrel
  by_cases hlt : k < Ts.length
  ·obtain ⟨t, ht⟩ : ∃ n, Ts[k]? = some n := ⟨_, List.getElem?_eq_getElem hlt⟩
   obtain ⟨u, hu, hum, hul⟩ : ∃ u, Us[k]? = some u ∧ u.m = t.m ∧ u.t.L = t.t.L := by
    have h := congrArg (fun l => l[k]?) (za HM)
    simp only [List.getElem?_map, ht, Option.map_some] at h
    cases hu : Us[k]? with
    | none => rw [hu] at h; simp at h
    | some u => rw [hu] at h; simp [Pl.It.r] at h; exact ⟨u, rfl, h.1, h.2⟩
   obtain ⟨⟨g, o, rfl, hg, q0, q0'⟩, q1⟩ := (za HV) k t ht
   obtain ⟨⟨g2, o2, rfl, hg2, p0, p0'⟩, p1⟩ := (za HU) k u hu
   rw [hul] at p1
   have hz := hide (fun W (b : Below w.heap.size w W) => eqItem_any t.m t.t.a u.t.a t.t.cap u.t.cap t.t.L W (za HO t (List.mem_of_getElem? ht)) (Mem.za8 q1 b) (Mem.za8 p1 b))
   have MK : Hid (∀ W', Below w.heap.size w W' → (Below w.heap.size w W' ∧ W'.cell? ⟨g, o + k * 2, none⟩ = some (.int .i64 t.m) ∧ W'.cell? ⟨g, o + k * 2 + 1, none⟩ = some (.slice t.t.a t.t.L.length t.t.cap) ∧ W'.cell? ⟨g2, o2 + k * 2, none⟩ = some (.int .i64 t.m) ∧ W'.cell? ⟨g2, o2 + k * 2 + 1, none⟩ = some (.slice u.t.a t.t.L.length u.t.cap))) := fun W' hb' => ⟨hb', (hb'.cell (p := ⟨g, _, none⟩) hg).trans q0, (hb'.cell (p := ⟨g, _, none⟩) hg).trans (by rw [q0', Pl.Tr.val]), (hb'.cell (p := ⟨g2, _, none⟩) hg2).trans (by rw [p0, hum]), (hb'.cell (p := ⟨g2, _, none⟩) hg2).trans (by rw [p0', Pl.Tr.val, hul])⟩
   have u1 : (k : Int) < (Ts.length : Int) := by omega
   have u3 : (0 : Int) ≤ (k : Int) := by omega
   have hbd : Below w.heap.size w wr.drew := ⟨hbel.os, hbel.tape, hbel.output, hbel.size, hbel.block⟩
   clear q0 p0 q0' p0' ht hu hul hum q1 p1
   go_wp2_with fail
   go_region_held3 (fun W' => Below w.heap.size w W' ∧ W'.cell? ⟨g, o + k * 2, none⟩ = some (.int .i64 t.m) ∧ W'.cell? ⟨g, o + k * 2 + 1, none⟩ = some (.slice t.t.a t.t.L.length t.t.cap) ∧ W'.cell? ⟨g2, o2 + k * 2, none⟩ = some (.int .i64 t.m) ∧ W'.cell? ⟨g2, o2 + k * 2 + 1, none⟩ = some (.slice u.t.a t.t.L.length u.t.cap)) (first | exact za MK _ hbd | exact za MK _ (hbd.trans (bX.mono hbd.size))) (first | (go_at_call 139; refine (za hz _ hbd).mono ?_; rintro e wX ⟨rfl, bX⟩))
   have hb2 := hbd.trans (bX.mono hbd.size)
   clear hbel hbd bX MK
   go_wp2
   go_roundw
   case rel => exact ⟨k + 1, by omega, by go_num, hb2⟩
   case measure => simp [intOf]; omega
  ·have u1 : ¬ (k : Int) < (Ts.length : Int) := by omega
   go_wp2
   go_ret
   exact ⟨rfl, hbel⟩
end WLaw
end Go.Proofs.YtonffldjbmednaaGreatDoor

namespace Go.Proofs.YtonffldjbmednaaGreatDoor
open Go.RowKit
namespace zb
set_option maxRecDepth 100000 in
set_option maxHeartbeats 800000 in
theorem eqMount_any (x : Pl.Mn) (w : World) :
  Calls Tryz.prog 72 #[.agg #[.string x.p, .int .i64 x.i, .bool x.z], .agg #[.string x.p, .int .i64 x.i, .bool x.z]] w fun e w' => e = .returned (.bool true) ∧ Below w.heap.size w w' := by
 have b0 : ∀ o1 o2, Below w.heap.size w ((w.alloc o1).alloc o2) := fun o1 o2 => ((Below.refl _ _).alloc (Nat.le_refl _) o1).alloc (by simp) o2
 have HB := hide b0
 clear b0
 go_enter Tryz.func72, Tryz.ntmps72
 go_wp2
 go_ret
 exact ⟨rfl, za HB _ _⟩
set_option maxRecDepth 100000 in
set_option maxHeartbeats 800000 in
theorem eqMountS_any (a b : Option Addr) (c1 c2 : Nat) (Ts : List Pl.Mn) (w : World) (hl : Ts.length ≤ 1048576) (hv : Mem.zb2 w a Ts) (hu : Mem.zb2 w b Ts) :
  Calls Tryz.prog 36 #[.slice a Ts.length c1, .slice b Ts.length c2] w fun e w' => e = .returned (.bool true) ∧ Below w.heap.size w w' := by
 have HV := hide hv
 have HU := hide hu
 clear hv hu
 go_enter Tryz.func36, Tryz.ntmps36
 go_wp2
 go_loopw [5] (fun i wr => ∃ k : Nat, k ≤ Ts.length ∧ i = .int .i64 (k : Int) ∧ Below w.heap.size w wr) (fun i _ => Ts.length - (intOf i).toNat)
 case atStart => exact ⟨0, Nat.zero_le _, rfl, Below.refl _ _⟩
 case round =>
  obtain ⟨k, hk, rfl, hbel⟩ := hrel
  by_cases hlt : k < Ts.length
  ·obtain ⟨t, ht⟩ : ∃ n, Ts[k]? = some n := ⟨_, List.getElem?_eq_getElem hlt⟩
   obtain ⟨g, o, rfl, hg, q0, q1, q2⟩ := (za HV) k t ht
   obtain ⟨g2, o2, rfl, hg2, p0, p1, p2⟩ := (za HU) k t ht
   have hz := hide (fun W => eqMount_any t W)
   have MK : Hid (∀ W', Below w.heap.size w W' → (Below w.heap.size w W' ∧ W'.cell? ⟨g, o + k * 3, none⟩ = some (.string t.p) ∧ W'.cell? ⟨g, o + k * 3 + 1, none⟩ = some (.int .i64 t.i) ∧ W'.cell? ⟨g, o + k * 3 + 2, none⟩ = some (.bool t.z) ∧ W'.cell? ⟨g2, o2 + k * 3, none⟩ = some (.string t.p) ∧ W'.cell? ⟨g2, o2 + k * 3 + 1, none⟩ = some (.int .i64 t.i) ∧ W'.cell? ⟨g2, o2 + k * 3 + 2, none⟩ = some (.bool t.z))) := fun W' hb' => ⟨hb', (hb'.cell (p := ⟨g, _, none⟩) hg).trans q0, (hb'.cell (p := ⟨g, _, none⟩) hg).trans q1, (hb'.cell (p := ⟨g, _, none⟩) hg).trans q2, (hb'.cell (p := ⟨g2, _, none⟩) hg2).trans p0, (hb'.cell (p := ⟨g2, _, none⟩) hg2).trans p1, (hb'.cell (p := ⟨g2, _, none⟩) hg2).trans p2⟩
   have u1 : (k : Int) < (Ts.length : Int) := by omega
   have u3 : (0 : Int) ≤ (k : Int) := by omega
   have hbd : Below w.heap.size w wr.drew := ⟨hbel.os, hbel.tape, hbel.output, hbel.size, hbel.block⟩
   clear q0 q1 q2 p0 p1 p2 ht
   go_wp2_with fail
   go_region_held3 (fun W' => Below w.heap.size w W' ∧ W'.cell? ⟨g, o + k * 3, none⟩ = some (.string t.p) ∧ W'.cell? ⟨g, o + k * 3 + 1, none⟩ = some (.int .i64 t.i) ∧ W'.cell? ⟨g, o + k * 3 + 2, none⟩ = some (.bool t.z) ∧ W'.cell? ⟨g2, o2 + k * 3, none⟩ = some (.string t.p) ∧ W'.cell? ⟨g2, o2 + k * 3 + 1, none⟩ = some (.int .i64 t.i) ∧ W'.cell? ⟨g2, o2 + k * 3 + 2, none⟩ = some (.bool t.z)) (first | exact za MK _ hbd | exact za MK _ (hbd.trans (bX.mono hbd.size))) (first | (go_at_call 72; refine (za hz _).mono ?_; rintro e wX ⟨rfl, bX⟩))
   have hb2 := hbd.trans (bX.mono hbd.size)
   clear hbel hbd bX MK
   go_wp2
   go_roundw
   case rel => exact ⟨k + 1, by omega, by go_num, hb2⟩
   case measure => simp [intOf]; omega
  ·have u1 : ¬ (k : Int) < (Ts.length : Int) := by omega
   go_wp2
   go_ret
   exact ⟨rfl, hbel⟩
set_option maxRecDepth 100000 in
set_option maxHeartbeats 800000 in
theorem eqHandle_any (x : Pl.Hn) (w : World) :
  Calls Tryz.prog 73 #[.agg #[.int .i64 x.d, .int .i64 x.i, .string x.p], .agg #[.int .i64 x.d, .int .i64 x.i, .string x.p]] w fun e w' => e = .returned (.bool true) ∧ Below w.heap.size w w' := by
 have b0 : ∀ o1 o2, Below w.heap.size w ((w.alloc o1).alloc o2) := fun o1 o2 => ((Below.refl _ _).alloc (Nat.le_refl _) o1).alloc (by simp) o2
 have HB := hide b0
 clear b0
 go_enter Tryz.func73, Tryz.ntmps73
 go_wp2
 go_ret
 exact ⟨rfl, za HB _ _⟩
set_option maxRecDepth 100000 in
set_option maxHeartbeats 800000 in
theorem eqHandleS_any (a b : Option Addr) (c1 c2 : Nat) (Ts : List Pl.Hn) (w : World) (hl : Ts.length ≤ 1048576) (hv : Mem.zb9 w a Ts) (hu : Mem.zb9 w b Ts) :
  Calls Tryz.prog 37 #[.slice a Ts.length c1, .slice b Ts.length c2] w fun e w' => e = .returned (.bool true) ∧ Below w.heap.size w w' := by
 have HV := hide hv
 have HU := hide hu
 clear hv hu
 go_enter Tryz.func37, Tryz.ntmps37
 go_wp2
 go_loopw [5] (fun i wr => ∃ k : Nat, k ≤ Ts.length ∧ i = .int .i64 (k : Int) ∧ Below w.heap.size w wr) (fun i _ => Ts.length - (intOf i).toNat)
 case atStart => exact ⟨0, Nat.zero_le _, rfl, Below.refl _ _⟩
 case round =>
  obtain ⟨k, hk, rfl, hbel⟩ := hrel
  by_cases hlt : k < Ts.length
  ·obtain ⟨t, ht⟩ : ∃ n, Ts[k]? = some n := ⟨_, List.getElem?_eq_getElem hlt⟩
   obtain ⟨g, o, rfl, hg, q0, q1, q2⟩ := (za HV) k t ht
   obtain ⟨g2, o2, rfl, hg2, p0, p1, p2⟩ := (za HU) k t ht
   have hz := hide (fun W => eqHandle_any t W)
   have MK : Hid (∀ W', Below w.heap.size w W' → (Below w.heap.size w W' ∧ W'.cell? ⟨g, o + k * 3, none⟩ = some (.int .i64 t.d) ∧ W'.cell? ⟨g, o + k * 3 + 1, none⟩ = some (.int .i64 t.i) ∧ W'.cell? ⟨g, o + k * 3 + 2, none⟩ = some (.string t.p) ∧ W'.cell? ⟨g2, o2 + k * 3, none⟩ = some (.int .i64 t.d) ∧ W'.cell? ⟨g2, o2 + k * 3 + 1, none⟩ = some (.int .i64 t.i) ∧ W'.cell? ⟨g2, o2 + k * 3 + 2, none⟩ = some (.string t.p))) := fun W' hb' => ⟨hb', (hb'.cell (p := ⟨g, _, none⟩) hg).trans q0, (hb'.cell (p := ⟨g, _, none⟩) hg).trans q1, (hb'.cell (p := ⟨g, _, none⟩) hg).trans q2, (hb'.cell (p := ⟨g2, _, none⟩) hg2).trans p0, (hb'.cell (p := ⟨g2, _, none⟩) hg2).trans p1, (hb'.cell (p := ⟨g2, _, none⟩) hg2).trans p2⟩
   have u1 : (k : Int) < (Ts.length : Int) := by omega
   have u3 : (0 : Int) ≤ (k : Int) := by omega
   have hbd : Below w.heap.size w wr.drew := ⟨hbel.os, hbel.tape, hbel.output, hbel.size, hbel.block⟩
   clear q0 q1 q2 p0 p1 p2 ht
   go_wp2_with fail
   go_region_held3 (fun W' => Below w.heap.size w W' ∧ W'.cell? ⟨g, o + k * 3, none⟩ = some (.int .i64 t.d) ∧ W'.cell? ⟨g, o + k * 3 + 1, none⟩ = some (.int .i64 t.i) ∧ W'.cell? ⟨g, o + k * 3 + 2, none⟩ = some (.string t.p) ∧ W'.cell? ⟨g2, o2 + k * 3, none⟩ = some (.int .i64 t.d) ∧ W'.cell? ⟨g2, o2 + k * 3 + 1, none⟩ = some (.int .i64 t.i) ∧ W'.cell? ⟨g2, o2 + k * 3 + 2, none⟩ = some (.string t.p)) (first | exact za MK _ hbd | exact za MK _ (hbd.trans (bX.mono hbd.size))) (first | (go_at_call 73; refine (za hz _).mono ?_; rintro e wX ⟨rfl, bX⟩))
   have hb2 := hbd.trans (bX.mono hbd.size)
   clear hbel hbd bX MK
   go_wp2
   go_roundw
   case rel => exact ⟨k + 1, by omega, by go_num, hb2⟩
   case measure => simp [intOf]; omega
  ·have u1 : ¬ (k : Int) < (Ts.length : Int) := by omega
   go_wp2
   go_ret
   exact ⟨rfl, hbel⟩
set_option maxRecDepth 100000 in
set_option maxHeartbeats 800000 in
theorem yc7 (d : Int) (a b : Option Addr) (c1 c2 : Nat) (Ts Us : List Pl.It) (w : World) (hl : Ts.length ≤ 1048576) (hm : Us.map Pl.It.r = Ts.map Pl.It.r) (hv : Mem.zb0 w a Ts) (hu : Mem.zb0 w b Us) (hok : ∀ t ∈ Ts, t.t.L.length ≤ 1048576) :
  Calls Tryz.prog 71 #[.agg #[.int .i64 d, .slice a Ts.length c1], .agg #[.int .i64 d, .slice b Ts.length c2]] w fun e w' => e = .returned (.bool true) ∧ Below w.heap.size w w' := by
 have b0 : ∀ o1 o2, Below w.heap.size w ((w.alloc o1).alloc o2) := fun o1 o2 => ((Below.refl _ _).alloc (Nat.le_refl _) o1).alloc (by simp) o2
 have HB := hide b0
 have HZ := hide (fun W (b' : Below w.heap.size w W) => WLaw.eqItemS_any a b c1 c2 Ts Us W hl hm (Mem.zc2 hv b') (Mem.zc2 hu b') hok)
 clear hv hu b0 hok hm
 go_enter Tryz.func71, Tryz.ntmps71
 go_wp2_with fail
 refine (za HZ _ (za HB _ _)).mono ?_
 rintro e w1 ⟨rfl, b1⟩
 have bb := (za HB _ _).trans (b1.mono (za HB _ _).size)
 clear HZ b1
 go_wp2
 go_ret
 exact ⟨rfl, bb⟩
set_option maxRecDepth 100000 in
set_option maxHeartbeats 800000 in
theorem yb5 (a b : Option Addr) (c1 c2 : Nat) (Ts Us : List Pl.Ns) (w : World) (hl : Ts.length ≤ 1048576) (hm : Us.map Pl.Ns.r = Ts.map Pl.Ns.r) (hv : Mem.ze4 w a Ts) (hu : Mem.ze4 w b Us) (hok : ∀ x ∈ Ts, x.Is.length ≤ 1048576 ∧ ∀ t ∈ x.Is, t.t.L.length ≤ 1048576) :
  Calls Tryz.prog 35 #[.slice a Ts.length c1, .slice b Ts.length c2] w fun e w' => e = .returned (.bool true) ∧ Below w.heap.size w w' := by
 have HV := hide hv
 have HU := hide hu
 have HO := hide hok
 have HM := hide hm
 clear hv hu hok hm
 go_enter Tryz.func35, Tryz.ntmps35
 go_wp2
 go_loopw [5] (fun i wr => ∃ k : Nat, k ≤ Ts.length ∧ i = .int .i64 (k : Int) ∧ Below w.heap.size w wr) (fun i _ => Ts.length - (intOf i).toNat)
 case atStart => exact ⟨0, Nat.zero_le _, rfl, Below.refl _ _⟩
 case round =>
  obtain ⟨k, hk, rfl, hbel⟩ := hrel
  by_cases hlt : k < Ts.length
  ·obtain ⟨t, ht⟩ : ∃ n, Ts[k]? = some n := ⟨_, List.getElem?_eq_getElem hlt⟩
   obtain ⟨u, hu, hum, hul⟩ : ∃ u, Us[k]? = some u ∧ u.d = t.d ∧ u.Is.map Pl.It.r = t.Is.map Pl.It.r := by
    have h := congrArg (fun l => l[k]?) (za HM)
    simp only [List.getElem?_map, ht, Option.map_some] at h
    cases hu : Us[k]? with
    | none => rw [hu] at h; simp at h
    | some u =>
     rw [hu] at h
     have h' := Option.some.inj h
     exact ⟨u, rfl, congrArg Prod.fst h', congrArg Prod.snd h'⟩
   have hll : u.Is.length = t.Is.length := by have h := congrArg List.length hul; simpa using h
   obtain ⟨⟨g, o, rfl, hg, q0, q0'⟩, q1⟩ := (za HV) k t ht
   obtain ⟨⟨g2, o2, rfl, hg2, p0, p0'⟩, p1⟩ := (za HU) k u hu
   rw [hum] at p0
   rw [hll] at p0'
   have hz := hide (fun W (b : Below w.heap.size w W) => yc7 t.d t.a u.a t.cap u.cap t.Is u.Is W (za HO t (List.mem_of_getElem? ht)).1 hul (Mem.zc2 q1 b) (Mem.zc2 p1 b) (za HO t (List.mem_of_getElem? ht)).2)
   have MK : Hid (∀ W', Below w.heap.size w W' → (Below w.heap.size w W' ∧ W'.cell? ⟨g, o + k * 2, none⟩ = some (.int .i64 t.d) ∧ W'.cell? ⟨g, o + k * 2 + 1, none⟩ = some (.slice t.a t.Is.length t.cap) ∧ W'.cell? ⟨g2, o2 + k * 2, none⟩ = some (.int .i64 t.d) ∧ W'.cell? ⟨g2, o2 + k * 2 + 1, none⟩ = some (.slice u.a t.Is.length u.cap))) := fun W' hb' => ⟨hb', (hb'.cell (p := ⟨g, _, none⟩) hg).trans q0, (hb'.cell (p := ⟨g, _, none⟩) hg).trans q0', (hb'.cell (p := ⟨g2, _, none⟩) hg2).trans p0, (hb'.cell (p := ⟨g2, _, none⟩) hg2).trans p0'⟩
   have u1 : (k : Int) < (Ts.length : Int) := by omega
   have u3 : (0 : Int) ≤ (k : Int) := by omega
   have hbd : Below w.heap.size w wr.drew := ⟨hbel.os, hbel.tape, hbel.output, hbel.size, hbel.block⟩
   clear q0 p0 q0' p0' ht hu hul hum q1 p1 hll
   go_wp2_with fail
   go_region_held3 (fun W' => Below w.heap.size w W' ∧ W'.cell? ⟨g, o + k * 2, none⟩ = some (.int .i64 t.d) ∧ W'.cell? ⟨g, o + k * 2 + 1, none⟩ = some (.slice t.a t.Is.length t.cap) ∧ W'.cell? ⟨g2, o2 + k * 2, none⟩ = some (.int .i64 t.d) ∧ W'.cell? ⟨g2, o2 + k * 2 + 1, none⟩ = some (.slice u.a t.Is.length u.cap)) (first | exact za MK _ hbd | exact za MK _ (hbd.trans (bX.mono hbd.size))) (first | (go_at_call 71; refine (za hz _ hbd).mono ?_; rintro e wX ⟨rfl, bX⟩))
   have hb2 := hbd.trans (bX.mono hbd.size)
   clear hbel hbd bX MK
   go_wp2
   go_roundw
   case rel => exact ⟨k + 1, by omega, by go_num, hb2⟩
   case measure => simp [intOf]; omega
  ·have u1 : ¬ (k : Int) < (Ts.length : Int) := by omega
   go_wp2
   go_ret
   exact ⟨rfl, hbel⟩
set_option linter.unusedSimpArgs false in
set_option maxRecDepth 100000 in
set_option maxHeartbeats 800000 in
theorem zy6 (s u : Pl.Sp) (w : World) (hs : OkS s 1048576) (hn : u.N.map Pl.Ns.r = s.N.map Pl.Ns.r) (hm : u.M = s.M) (hh : u.H = s.H) (hx : u.next = s.next) (hv : Mem.zc3 w s) (hu : Mem.zc3 w u) :
  Calls Tryz.prog 12 #[.agg s.cs, .agg u.cs] w fun e w' => e = .returned (.bool true) ∧ Below w.heap.size w w' := by
 have hnl : u.N.length = s.N.length := by have h := congrArg List.length hn; simpa using h
 unfold Pl.Sp.cs
 rw [hnl, hm, hh, hx]
 have bb0 : Below w.heap.size w ((w.alloc (.cells #[.slice s.ia s.N.length s.ic, .slice s.ma s.M.length s.mc, .slice s.ha s.H.length s.hc, .int .i64 s.next] 32)).alloc (.cells #[.slice u.ia s.N.length u.ic, .slice u.ma s.M.length u.mc, .slice u.ha s.H.length u.hc, .int .i64 s.next] 32)) := ((Below.refl _ _).alloc (Nat.le_refl _) _).alloc (by simp) _
 have P0 := hide ((Mem.Blk.new w #[.slice s.ia s.N.length s.ic, .slice s.ma s.M.length s.mc, .slice s.ha s.H.length s.hc, .int .i64 s.next] 32).alloc (.cells #[.slice u.ia s.N.length u.ic, .slice u.ma s.M.length u.mc, .slice u.ha s.H.length u.hc, .int .i64 s.next] 32))
 have Q0 : Hid (Mem.Blk ((w.alloc (.cells #[.slice s.ia s.N.length s.ic, .slice s.ma s.M.length s.mc, .slice s.ha s.H.length s.hc, .int .i64 s.next] 32)).alloc (.cells #[.slice u.ia s.N.length u.ic, .slice u.ma s.M.length u.mc, .slice u.ha s.H.length u.hc, .int .i64 s.next] 32)) (w.heap.size + 1) #[.slice u.ia s.N.length u.ic, .slice u.ma s.M.length u.mc, .slice u.ha s.H.length u.hc, .int .i64 s.next] 32) := Mem.zl8 _ _ _
 have h1 := hide (fun W (b : Below w.heap.size w W) => yb5 s.ia u.ia s.ic u.ic s.N u.N W hs.n hn (Mem.zf1 hv.zf9 b) (Mem.zf1 hu.zf9 b) (fun x hx => ⟨(hs.each x hx).1, fun t ht => ((hs.each x hx).2 t ht).1⟩))
 have h2 := hide (fun W (b : Below w.heap.size w W) => eqMountS_any s.ma u.ma s.mc u.mc s.M W hs.m (Mem.zc7 hv.zh b) (by have := Mem.zc7 hu.zh b; rw [hm] at this; exact this))
 have h3 := hide (fun W (b : Below w.heap.size w W) => eqHandleS_any s.ha u.ha s.hc u.hc s.H W hs.h (Mem.zc6 hv.hands b) (by have := Mem.zc6 hu.hands b; rw [hh] at this; exact this))
 clear hv hu hs hn hm hh hx hnl
 have x0 := (za P0).cell 0
 have y0 := (za Q0).cell 0
 simp only [kGs] at x0 y0
 go_enter Tryz.func12, Tryz.ntmps12
 go_wp2_with fail
 refine (za h1 _ bb0).mono ?_
 rintro e w1 ⟨rfl, b1⟩
 have bb1 := bb0.trans (b1.mono bb0.size)
 have P1 := hide ((za P0).call b1)
 have Q1 := hide ((za Q0).call b1)
 clear b1
 clear x0 y0 P0 Q0 h1
 have x1 := (za P1).cell 1
 have y1 := (za Q1).cell 1
 simp only [kGs] at x1 y1
 go_wp2_with fail
 refine (za h2 _ bb1).mono ?_
 rintro e w2 ⟨rfl, b2⟩
 have bb2 := bb1.trans (b2.mono bb1.size)
 have P2 := hide ((za P1).call b2)
 have Q2 := hide ((za Q1).call b2)
 clear b2
 clear x1 y1 P1 Q1 h2
 have x2 := (za P2).cell 2
 have y2 := (za Q2).cell 2
 simp only [kGs] at x2 y2
 go_wp2_with fail
 refine (za h3 _ bb2).mono ?_
 rintro e w3 ⟨rfl, b3⟩
 have bb3 := bb2.trans (b3.mono bb2.size)
 have P3 := hide ((za P2).call b3)
 have Q3 := hide ((za Q2).call b3)
 clear b3
 clear x2 y2 P2 Q2 h3
 have x3 := (za P3).cell 3
 have y3 := (za Q3).cell 3
 simp only [kGs] at x3 y3
 go_wp2
 go_ret
 exact ⟨rfl, bb3⟩
end zb
end Go.Proofs.YtonffldjbmednaaGreatDoor

namespace Go.Proofs.YtonffldjbmednaaGreatDoor
open Go.RowKit
namespace Pl
def decF : Nat → Nat → List UInt8 → List UInt8
 | 0, _, out => out
 | f + 1, k, out => if k = 0 then out else decF f (k / 10) (UInt8.ofNat (48 + k % 10) :: out)
theorem decF_zero (f : Nat) (out : List UInt8) : decF f 0 out = out := by cases f <;> simp [decF]
theorem decF_step {f k : Nat} (h : 0 < k) (out : List UInt8) : decF (f + 1) k out = decF f (k / 10) (UInt8.ofNat (48 + k % 10) :: out) := by
 rw [decF, if_neg (by omega)]
def mark (k : Nat) : ByteArray := ⟨(109 :: decF k k []).toArray⟩
def marks (k : Nat) : Nat → List ByteArray
 | 0 => []
 | n + 1 => marks k n ++ [mark (k + n)]
end Pl
namespace zm4
set_option maxRecDepth 100000 in
set_option maxHeartbeats 400000 in
theorem zd8 (K : Nat) (w : World) (h0 : 0 < K) (hK : K ≤ 9000000000000000000) :
  Calls Tryz.prog 75 #[.int .i64 (K : Int)] w fun e w' => e = .returned (.string (Pl.mark K)) ∧ Below w.heap.size w w' := by
 have p1 : ¬ (K : Int) ≤ 0 := by omega
 go_enter Tryz.func75, Tryz.ntmps75
 go_wp2
 go_loopw [0, 3] (fun a o wr => ∃ (f k : Nat) (out : List UInt8), k ≤ f ∧ out.length + k ≤ K ∧ a = .int .i64 (k : Int) ∧ o = .string ⟨out.toArray⟩ ∧ Below w.heap.size w wr ∧ Hid (Pl.decF f k out = Pl.decF K K [])) (fun a _ _ => (intOf a).toNat)
 case atStart => exact ⟨K, K, [], Nat.le_refl _, by simp, rfl, rfl, Below.refl _ _, rfl⟩
 case round =>
  obtain ⟨f, k, out, hf, hk, rfl, rfl, hbel, HD⟩ := hrel
  have hsz := hbel.size
  have ho : ¬ 9223372036854775807 < 1 + out.length := by omega
  by_cases hk0 : 0 < k
  ·obtain ⟨f, rfl⟩ : ∃ g, f = g + 1 := ⟨f - 1, by omega⟩
   have HD2 : Hid (Pl.decF f (k / 10) (UInt8.ofNat (48 + k % 10) :: out) = Pl.decF K K []) := (Pl.decF_step hk0 out).symm.trans HD.out
   have p2 : (0 : Int) < (k : Int) := by omega
   clear HD
   have hb : ((UInt8.ofNat (48 + k % 10)).toNat : Int) = 48 + (k : Int) % 10 := by
    rw [UInt8.toNat_ofNat_of_lt' (by show 48 + k % 10 < 256; omega)]; omega
   have hcv := Mem.row_text (P := Tryz.prog) (w := wr.alloc (.cells #[.int .u8 (48 + (k : Int) % 10)] 5)) (n := 1) (cap := 1) Tryz.underlying163 Tryz.underlying5 Tryz.underlying9 [UInt8.ofNat (48 + k % 10)] rfl (heap_alloc_new wr _) (by simp only [List.map_cons, List.map_nil, Pl.zd6, hb]; rfl)
   have HX : Hid ((⟨[UInt8.ofNat (48 + k % 10)].toArray⟩ : ByteArray) ++ (⟨out.toArray⟩ : ByteArray) = ⟨(UInt8.ofNat (48 + k % 10) :: out).toArray⟩) := by
    show _ = _
    rw [Pl.ya6]; rfl
   have hbel2 := hbel.alloc hsz (.cells #[.int .u8 (48 + (k : Int) % 10)] 5)
   generalize UInt8.ofNat (48 + k % 10) = b at hcv HX HD2
   clear hb
   go_wp2
   go_roundw
   case rel => exact ⟨f, k / 10, b :: out, by omega, by simp; omega, by go_num, congrArg Value.string HX.out, hbel2, HD2⟩
   case measure => simp [intOf]; omega
  ·have HD2 : Hid (out = Pl.decF K K []) := by
    obtain rfl : k = 0 := by omega
    exact (Pl.decF_zero f out).symm.trans HD.out
   have p2 : ¬ (0 : Int) < (k : Int) := by omega
   have HX : Hid ((⟨#[109]⟩ : ByteArray) ++ (⟨out.toArray⟩ : ByteArray) = Pl.mark K) := by
    show _ = _
    rw [Pl.mark, ← HD2.out]
    exact Pl.ya6 [109] ⟨out.toArray⟩
   clear HD
   go_wp2
   go_ret
   exact ⟨congrArg (fun x => Ending.returned (.string x)) HX.out, hbel⟩
end zm4
end Go.Proofs.YtonffldjbmednaaGreatDoor

namespace Go.Proofs.YtonffldjbmednaaGreatDoor
open Go.RowKit
namespace Pl
def zt7 (K i : Nat) : Nd := ⟨mark (K + 5 * i), ((K + 5 * i + 1 : Nat) : Int), mark (K + 5 * i + 2), ((K + 5 * i + 3 : Nat) : Int), ((K + 5 * i + 4 : Nat) : Int)⟩
def zl6 (K n : Nat) : List Nd := (List.range n).map (zt7 K)
theorem markN_get {K n i : Nat} {m : Nd} (h : (zl6 K n)[i]? = some m) : i < n ∧ m = zt7 K i := by
 unfold zl6 at h
 rw [List.getElem?_map, Option.map_eq_some_iff] at h
 obtain ⟨j, hj, rfl⟩ := h
 obtain ⟨h1, h2⟩ := List.getElem?_eq_some_iff.1 hj
 simp at h1 h2
 subst h2
 exact ⟨h1, rfl⟩
theorem zx6 (K n : Nat) : (zl6 K n).length = n := by simp [zl6]
def rowAt (cv : Array Value) (j : Nat) (m : Nd) : Prop := cv[j * 5]? = some (.string m.path) ∧ cv[j * 5 + 1]? = some (.int .i64 m.kind) ∧ cv[j * 5 + 2]? = some (.string m.data) ∧ cv[j * 5 + 3]? = some (.int .i64 m.time) ∧ cv[j * 5 + 4]? = some (.int .i64 m.mark)
end Pl
namespace zh6
theorem zp9 {w v v' : World} {g : Nat} (h : w.grownBy v (some g)) (b : Below v.heap.size v v') : w.grownBy v' (some g) :=
 ⟨b.os.trans h.os, b.tape.trans h.tape, b.output.trans h.output, Nat.le_trans h.size b.size, fun j hj hne => (b.block j (Nat.lt_of_lt_of_le hj h.size)).trans (h.block j hj hne)⟩
theorem zc4 {w v : World} {g o : Nat} {x : Value} (h : w.grownBy v (some g)) : w.grownBy (v.setCell ⟨g, o, none⟩ x) (some g) :=
 ⟨h.os, h.tape, h.output, Nat.le_trans h.size (by simp [World.setCell]), fun j hj hne => (Below.heap_setCell _ _ _ _ (by intro e; exact hne (by rw [e]))).trans (h.block j hj hne)⟩
set_option maxRecDepth 100000 in
set_option maxHeartbeats 400000 in
theorem lay_any (g n cap K : Nat) (cur : Array Value) (w : World) (hn : n ≤ 1048576) (hK : 0 < K) (hK2 : K ≤ 8000000000000000000) (hrow : w.heap[g]? = some (.cells cur 189 (0, 0))) (hsz : n * 5 ≤ cur.size) :
  Calls Tryz.prog 113 #[.slice (some ⟨g, 0, none⟩) n cap, .int .i64 (K : Int)] w fun e w' => e = .returned (.int .i64 ((K + 5 * n : Nat) : Int)) ∧
   (∃ cur', w'.heap[g]? = some (.cells cur' 189 (0, 0)) ∧ cur'.size = cur.size) ∧ Mem.za7 w' (some ⟨g, 0, none⟩) (Pl.zl6 K n) ∧ w.grownBy w' (some g) := by
 have HR0 := hide hrow
 have HS0 := hide hsz
 clear hrow hsz
 go_enter Tryz.func113, Tryz.ntmps113
 go_wp2
 go_loopw [1, 5] (fun a i wr => ∃ (k q : Nat) (cv : Array Value), k ≤ n ∧ q = K + 5 * k ∧ i = .int .i64 (k : Int) ∧ a = .int .i64 (q : Int) ∧ Hid (wr.heap[g]? = some (.cells cv 189 (0, 0))) ∧ Hid (cv.size = cur.size) ∧ Hid (w.grownBy wr (some g)) ∧
   Hid (∀ j, j < k → Pl.rowAt cv j (Pl.zt7 K j))) (fun _ i _ => n - (intOf i).toNat)
 case atStart => exact ⟨0, K, cur, Nat.zero_le _, rfl, rfl, rfl, HR0, rfl, ⟨rfl, rfl, rfl, Nat.le_refl _, fun _ _ _ => rfl⟩, fun j h => absurd h (by omega)⟩
 case round =>
  obtain ⟨k, q, cv, hk, hq, rfl, rfl, HR, HS, HG, HA⟩ := hrel
  by_cases hlt : k < n
  ·have y1 : (k : Int) < (n : Int) := by omega
   have y3 : (0 : Int) ≤ (k : Int) := by omega
   have HM := hide (fun W => zm4.zd8 q W (by omega) (by omega))
   have HM2 := hide (fun W => zm4.zd8 (q + 2) W (by omega) (by omega))
   rw [show ((q + 2 : Nat) : Int) = (q : Int) + 1 + 1 by omega] at HM2
   have HQ := hide hq
   have q1 : (q : Int) ≤ 9000000000000000000 := by omega
   clear hq
   go_wp2_with fail
   refine (za HM _).mono ?_
   rintro e w2 ⟨rfl, b2⟩
   have hg : g < wr.heap.size := (Array.getElem?_eq_some_iff.1 (za HR)).1
   have HR2 := hide ((b2.block _ hg).trans (za HR))
   have hcz : n * 5 ≤ cv.size := by rw [za HS]; exact za HS0
   have s0 : ∃ x, w2.cell? ⟨g, k * 5, none⟩ = some x := ⟨_, (cell_of_row w2 _ (k * 5) _ _ (0, 0) (za HR2)).trans (Array.getElem?_eq_getElem (by omega))⟩
   have s1 : ∃ x, w2.cell? ⟨g, k * 5 + 1, none⟩ = some x := ⟨_, (cell_of_row w2 _ (k * 5 + 1) _ _ (0, 0) (za HR2)).trans (Array.getElem?_eq_getElem (by omega))⟩
   obtain ⟨x0, s0⟩ := s0
   obtain ⟨x1, s1⟩ := s1
   have f0 : ∀ j, w2.frozen? ⟨g, j, none⟩ = false := fun j => Mem.zb1 (za HR2)
   have HG2 := hide (zp9 (za HG) b2)
   have HCZ := hide hcz
   clear b2 HR HG hcz hg HM
   go_wp2_with fail
   have HR3 := hide (heap_setCell_same _ _ (k * 5 + 1) _ _ (.int .i64 ((q : Int) + 1)) (heap_setCell_same _ _ (k * 5) _ _ (.string (Pl.mark q)) (za HR2)))
   have HG3 := hide (zc4 (o := k * 5 + 1) (x := .int .i64 ((q : Int) + 1)) (zc4 (o := k * 5) (x := .string (Pl.mark q)) (za HG2)))
   refine (za HM2 _).mono ?_
   rintro e w4 ⟨rfl, b4⟩
   have HR4 := hide ((b4.block _ (Array.getElem?_eq_some_iff.1 (za HR3)).1).trans (za HR3))
   have HG4 := hide (zp9 (za HG3) b4)
   have hcz := za HCZ
   have s2 : ∃ x, w4.cell? ⟨g, k * 5 + 2, none⟩ = some x := ⟨_, (cell_of_row w4 _ (k * 5 + 2) _ _ (0, 0) (za HR4)).trans (Array.getElem?_eq_getElem (by simp; omega))⟩
   have s3 : ∃ x, w4.cell? ⟨g, k * 5 + 3, none⟩ = some x := ⟨_, (cell_of_row w4 _ (k * 5 + 3) _ _ (0, 0) (za HR4)).trans (Array.getElem?_eq_getElem (by simp; omega))⟩
   have s4 : ∃ x, w4.cell? ⟨g, k * 5 + 4, none⟩ = some x := ⟨_, (cell_of_row w4 _ (k * 5 + 4) _ _ (0, 0) (za HR4)).trans (Array.getElem?_eq_getElem (by simp; omega))⟩
   obtain ⟨x2, s2⟩ := s2
   obtain ⟨x3, s3⟩ := s3
   obtain ⟨x4, s4⟩ := s4
   have f4 : ∀ j, w4.frozen? ⟨g, j, none⟩ = false := fun j => Mem.zb1 (za HR4)
   clear b4 HR2 HG2 HR3 HG3 hcz HM2 s0 s1 f0
   go_wp2
   go_roundw
   case rel =>
    refine ⟨k + 1, q + 5, _, by omega, by have := za HQ; omega, by go_num, by go_num, hide (heap_setCell_same _ _ (k * 5 + 4) _ _ _ (heap_setCell_same _ _ (k * 5 + 3) _ _ _ (heap_setCell_same _ _ (k * 5 + 2) _ _ _ (za HR4)))), ?_, hide (zc4 (zc4 (zc4 (za HG4)))), ?_⟩
    ·exact hide (by simpa using za HS)
    ·intro j hj
     have hcz := za HCZ
     rcases Nat.lt_succ_iff_lt_or_eq.1 hj with h'' | rfl
     ·obtain ⟨i0, i1, i2, i3, i4⟩ := HA.out j h''
      simp only [Pl.rowAt, Array.getElem?_setIfInBounds]
      refine ⟨?_, ?_, ?_, ?_, ?_⟩ <;> (repeat (rw [if_neg (by omega)])) <;> assumption
     ·have hq := za HQ
      simp only [Pl.rowAt, Pl.zt7, Array.getElem?_setIfInBounds, Array.size_setIfInBounds, ← hq]
      refine ⟨?_, ?_, ?_, ?_, ?_⟩ <;> simp <;> omega
   case measure => simp [intOf]; omega
  ·obtain rfl : k = n := by omega
   have y1 : ¬ (k : Int) < (k : Int) := by omega
   have hq2 : (q : Int) = ((K + 5 * k : Nat) : Int) := by omega
   have HQ := hide hq2
   clear hq2 hq
   go_wp2
   go_ret
   refine ⟨by rw [za HQ]; rfl, ⟨cv, za HR, za HS⟩, fun j m hj => ?_, za HG⟩
   obtain ⟨hjl, rfl⟩ := Pl.markN_get hj
   obtain ⟨i0, i1, i2, i3, i4⟩ := HA.out j hjl
   refine ⟨g, 0, rfl, (Array.getElem?_eq_some_iff.1 (za HR)).1, ?_, ?_, ?_, ?_, ?_⟩
   ·rw [cell_of_row wr _ _ _ _ (0, 0) (za HR), Nat.zero_add]; exact i0
   ·rw [cell_of_row wr _ _ _ _ (0, 0) (za HR), Nat.zero_add]; exact i1
   ·rw [cell_of_row wr _ _ _ _ (0, 0) (za HR), Nat.zero_add]; exact i2
   ·rw [cell_of_row wr _ _ _ _ (0, 0) (za HR), Nat.zero_add]; exact i3
   ·rw [cell_of_row wr _ _ _ _ (0, 0) (za HR), Nat.zero_add]; exact i4
end zh6
end Go.Proofs.YtonffldjbmednaaGreatDoor

