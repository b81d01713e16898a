/- Several texts of one claim in one file: WSpS7, WMk1, WMkN, MemBand, WMkJ. -/
import Derived.Test.YtlgbdbmikmbioaaGreatDoorG16
import Derived.Test.YtlgbdbmikmbioaaGreatDoorG28
import Derived.Test.YtlgbdbmikmbioaaGreatDoorG33
import Derived.Test.YtlgbdbmikmbioaaGreatDoorG41
import Derived.Test.YtlgbdbmikmbioaaGreatDoorG03
import Derived.Deep.Draws
import Derived.Test.YtlgbdbmikmbioaaGreatDoorProg
import Derived.WalkSpells
import Derived.Deep.QuietTactic
import Derived.BigQuiet
import Derived.Deep.RegionHeld3
import Derived.Test.YtlgbdbmikmbioaaGreatDoorG00
import Derived.Test.YtlgbdbmikmbioaaGreatDoorG04
import Derived.Test.YtlgbdbmikmbioaaGreatDoorG06
namespace Go.Proofs.YtlgbdbmikmbioaaGreatDoor
open Go.RowKit
namespace WSp
def OkR (s : Pl.Sp) : Prop := ∀ x ∈ s.N, (∃ g, x.a = some ⟨g, 0, none⟩) ∧ ∀ t ∈ x.Is, Mem.okR t.t.a t.t.cap t.t.L
set_option linter.unusedSimpArgs false in
set_option maxRecDepth 100000 in
set_option maxHeartbeats 1000000 in
theorem zr4 (s : Pl.Sp) (d : Int) (w : World) (hok : za9.OkS s 1048576) (hv : Mem.zd3 w s) (hR : OkR s) :
  Calls Tryz.prog 15 #[.agg s.cs, .int .i64 d] w fun e w' => WFlat.Outs w w' (Pl.nestC (Pl.zd1 s.next (s.N.map nr) s.M s.H Pl.wayB) (Pl.zc8 (s.N.map Pl.Ns.r) d)) (Pl.zj4 (Pl.zd1 s.next (s.N.map nr) s.M s.H Pl.wayB) (Pl.zc8 (s.N.map Pl.Ns.r) d)) e ∧ Below w.heap.size w w' := by
 have HX := hide (fun W (b : Below w.heap.size w W) => ze7 s W hok (hv.call b))
 have HI := hide (fun W (b : Below w.heap.size w W) => inst_any s d W hok.n (Mem.ze4 hv.zi5 b))
 have HRI := hide (fun h => Pl.zp2 (N := s.N) (M := s.M) (H := s.H) (next := s.next) (way := Pl.wayB) h)
 generalize Pl.zd1 s.next (s.N.map nr) s.M s.H Pl.wayB = RB at HX HRI ⊢
 have HNA := hide (Pl.nestAt_inst s.N d)
 have HGE := Pl.instI_ge (s.N.map (·.d)) d
 rw [List.length_map] at HGE
 generalize Pl.zc8 (s.N.map Pl.Ns.r) d = o at HNA ⊢
 generalize Pl.zb9 (s.N.map (·.d)) d = K at HI HNA HGE
 have HV := hide hv.zi5
 have HO := hide hR
 clear hok hv hR
 unfold OkR at HO
 obtain ⟨ia, ic, N, ma, mc, M, ha, hc, H, next⟩ := s
 simp only at HRI HNA HGE HV HO
 unfold Pl.Sp.cs at HX HI ⊢
 simp only at HX HI ⊢
 have bb0 : Below w.heap.size w ((w.alloc (.cells #[.slice ia N.length ic, .slice ma M.length mc, .slice ha H.length hc, .int .i64 next] 28)).alloc (.cells #[.slice none 0 0, .int .i64 0] 46)) := ((Below.refl _ _).alloc (Nat.le_refl _) _).alloc (by simp) _
 have V0 := hide ((Mem.Blk.new w #[.slice ia N.length ic, .slice ma M.length mc, .slice ha H.length hc, .int .i64 next] 28).alloc (.cells #[.slice none 0 0, .int .i64 0] 46))
 have R0 : Hid (Mem.Blk ((w.alloc (.cells #[.slice ia N.length ic, .slice ma M.length mc, .slice ha H.length hc, .int .i64 next] 28)).alloc (.cells #[.slice none 0 0, .int .i64 0] 46)) (w.heap.size + 1) #[.slice none 0 0, .int .i64 0] 46) := hide (Mem.zj9 _ _ _)
 have a0 := (za V0).cell 0
 have a1 := (za V0).cell 1
 have a2 := (za V0).cell 2
 have a3 := (za V0).cell 3
 simp only [kGs] at a0 a1 a2 a3
 go_enter Tryz.func15, Tryz.ntmps15
 go_wp2_with fail
 generalize (w.alloc (.cells #[.slice ia N.length ic, .slice ma M.length mc, .slice ha H.length hc, .int .i64 next] 28)).alloc (.cells #[.slice none 0 0, .int .i64 0] 46) = wA at bb0 V0 R0 a0 a1 a2 a3 ⊢
 refine (za HX _ bb0).mono ?_
 rintro e w1 ⟨rfl, bX⟩
 have b1 := bb0.trans (bX.mono bb0.size)
 have V1 := hide ((za V0).call bX)
 have R1 := hide ((za R0).call bX)
 clear HX bX V0 a0 a1 a2 a3 bb0 R0
 cases hRB : RB
 ·have HC : Hid (Pl.nestC RB o = 1) := hide (by rw [hRB]; rfl)
  have HL : Hid (Pl.zj4 RB o = []) := hide (by rw [hRB]; rfl)
  clear hRB HI HRI HNA HGE HV HO V1
  go_wp2_with fail
  refine (WSeven.ill_any 1 _).mono ?_
  rintro e w2 ⟨rfl, bX⟩
  have R2 := (za R1).call bX
  have HB := hide (b1.trans (bX.mono b1.size))
  have d0 := R2.cell 0
  have d1 := R2.cell 1
  have f0 := R2.fr 0
  have f1 := R2.fr 1
  simp only [kGs] at d0 d1
  clear b1 bX R1 R2
  go_wp2
  refine bodyPost_ret (v := .agg #[.slice none 0 0, .int .i64 1]) (by simp [results, Tryz.results15, go_sem, d0, d1]) rfl ⟨by rw [za HC, za HL]; exact ⟨_, [], rfl, Mem.Io.nil _ _, rfl⟩, ?_⟩
  first | exact ((za HB).setCell (by show w.heap.size ≤ w.heap.size + 1; omega) _).setCell (by show w.heap.size ≤ w.heap.size + 1; omega) _ | exact (za HB).setCell (by show w.heap.size ≤ w.heap.size + 1; omega) _
 have HRB := hide hRB
 have a0 := (za V1).cell 0
 have a1 := (za V1).cell 1
 have a2 := (za V1).cell 2
 have a3 := (za V1).cell 3
 simp only [kGs] at a0 a1 a2 a3
 have HCI := hide (za HI _ b1)
 clear hRB HI
 go_wp2_with fail
 refine (za HCI).mono ?_
 rintro e w2 ⟨rfl, bX⟩
 have b2 := b1.trans (bX.mono b1.size)
 have V2 := hide ((za V1).call bX)
 have R2 := hide ((za R1).call bX)
 clear HCI bX V1 a0 a1 a2 a3 b1 R1
 by_cases hK : K < 0
 ·have ho := (za HNA).1 hK
  have HC : Hid (Pl.nestC RB o = 6) := hide (by rw [za HRB, ho]; rfl)
  have HL : Hid (Pl.zj4 RB o = []) := hide (by rw [za HRB, ho]; rfl)
  clear HRI HNA HGE HV HO V2 ho
  go_wp2_with fail
  refine (WSeven.ill_any 6 _).mono ?_
  rintro e w3 ⟨rfl, bX⟩
  have R3 := (za R2).call bX
  have HB := hide (b2.trans (bX.mono b2.size))
  have d0 := R3.cell 0
  have d1 := R3.cell 1
  have f0 := R3.fr 0
  have f1 := R3.fr 1
  simp only [kGs] at d0 d1
  clear b2 bX R2 R3
  go_wp2
  refine bodyPost_ret (v := .agg #[.slice none 0 0, .int .i64 6]) (by simp [results, Tryz.results15, go_sem, d0, d1]) rfl ⟨by rw [za HC, za HL]; exact ⟨_, [], rfl, Mem.Io.nil _ _, rfl⟩, ?_⟩
  first | exact ((za HB).setCell (by show w.heap.size ≤ w.heap.size + 1; omega) _).setCell (by show w.heap.size ≤ w.heap.size + 1; omega) _ | exact (za HB).setCell (by show w.heap.size ≤ w.heap.size + 1; omega) _
 obtain ⟨k, rfl⟩ : ∃ k : Nat, K = (k : Int) := ⟨K.toNat, by omega⟩
 obtain ⟨x, hx, ho⟩ := (za HNA).2 k rfl
 have HC : Hid (Pl.nestC RB o = 0) := hide (by rw [za HRB, ho]; rfl)
 have HL : Hid (Pl.zj4 RB o = x.Is.map Pl.It.r) := hide (by rw [za HRB, ho]; rfl)
 obtain ⟨sm1, sm2, sm3⟩ := Pl.zs3 (za HRI (za HRB) x (List.mem_of_getElem? hx))
 obtain ⟨⟨gx, hgx⟩, hxr⟩ := za HO x (List.mem_of_getElem? hx)
 obtain ⟨⟨g, oo, hia, hg, -, q1⟩, q2⟩ := (za HV) k x hx
 have HL40 : Hid (∀ t ∈ x.Is, t.t.L.length ≤ 1000) := hide (fun t ht => by have := sm3 t.r (List.mem_map.2 ⟨t, ht, rfl⟩); have e : t.r.2 = t.t.L := rfl; rw [e] at this; omega)
 rw [List.length_map] at sm1 sm2
 have hkN : (k : Int) < (N.length : Int) := by have := (List.getElem?_eq_some_iff.1 hx).1; omega
 have hk0 : (0 : Int) ≤ (k : Int) := by omega
 obtain ⟨xd, xa, xc, xI⟩ := x
 simp only at hgx hxr q1 q2 sm1 sm2 HL HL40
 subst hgx hia
 have c1 := (b2.cell (p := ⟨g, _, none⟩) hg).trans q1
 have HCP := hide (WCopy5.copy_any gx 0 xc xI sm1 sm2 (za HL40) hxr w2 (Mem.za8 q2 b2))
 have v0 := (za V2).cell 0
 simp only [kGs] at v0
 have hR2 := (za R2).lt
 clear q1 q2 hxr hx ho HRI HNA HGE HV HO V2 sm1 sm2 sm3 hg HL40
 go_wp2_with fail
 refine (za HCP).mono ?_
 rintro e w7 ⟨g7, c7, Js, rfl, -, io7, hr7, b7⟩
 have V7 := (za R2).call b7
 have HJL : Hid (xI.length = Js.length) := hide (by have := congrArg List.length hr7; simpa using this.symm)
 rw [za HJL] at io7 ⊢
 have OW := hide (((io7.set ⟨w.heap.size + 1, 0, none⟩ (.slice (some ⟨g7, 0, none⟩) Js.length c7) (by show w.heap.size + 1 < _; omega)).set ⟨w.heap.size + 1, 1, none⟩ (.int .i64 0) (by show w.heap.size + 1 < _; omega)).mono (show w.heap.size ≤ w2.heap.size by omega))
 have HR7 := hide hr7
 have HB := hide (b2.trans (b7.mono b2.size))
 have d0 := V7.cell 0
 have d1 := V7.cell 1
 have f0 := V7.fr 0
 have f1 := V7.fr 1
 simp only [kGs] at d0 d1
 clear HCP io7 b7 V7 b2 hr7 R2 HJL c1
 go_wp2
 refine bodyPost_ret (v := .agg #[.slice (some ⟨g7, 0, none⟩) Js.length c7, .int .i64 0]) (by simp [results, Tryz.results15, go_sem, d0, d1]) rfl ⟨by rw [za HC, za HL]; exact ⟨_, Js, rfl, za OW, za HR7⟩, ?_⟩
 exact ((za HB).setCell (by show w.heap.size ≤ w.heap.size + 1; omega) _).setCell (by show w.heap.size ≤ w.heap.size + 1; omega) _
end WSp
end Go.Proofs.YtlgbdbmikmbioaaGreatDoor

namespace Go.Proofs.YtlgbdbmikmbioaaGreatDoor
open Go.RowKit
namespace Pl
def decF : Nat → Nat → List UInt8 → List UInt8
 | 0, _, out => out
 | f + 1, k, out => if k = 0 then out else decF f (k / 10) (UInt8.ofNat (48 + k % 10) :: out)
theorem decF_zero (f : Nat) (out : List UInt8) : decF f 0 out = out := by cases f <;> simp [decF]
theorem decF_step {f k : Nat} (h : 0 < k) (out : List UInt8) : decF (f + 1) k out = decF f (k / 10) (UInt8.ofNat (48 + k % 10) :: out) := by
 rw [decF, if_neg (by omega)]
def mark (k : Nat) : ByteArray := ⟨(109 :: decF k k []).toArray⟩
def marks (k : Nat) : Nat → List ByteArray
 | 0 => []
 | n + 1 => marks k n ++ [mark (k + n)]
end Pl
namespace zo0
set_option maxRecDepth 100000 in
set_option maxHeartbeats 400000 in
theorem zc5 (K : Nat) (w : World) (h0 : 0 < K) (hK : K ≤ 9000000000000000000) :
  Calls Tryz.prog 68 #[.int .i64 (K : Int)] w fun e w' => e = .returned (.string (Pl.mark K)) ∧ Below w.heap.size w w' := by
 have p1 : ¬ (K : Int) ≤ 0 := by omega
 go_enter Tryz.func68, Tryz.ntmps68
 go_wp2
 go_loopw [0, 3] (fun a o wr => ∃ (f k : Nat) (out : List UInt8), k ≤ f ∧ out.length + k ≤ K ∧ a = .int .i64 (k : Int) ∧ o = .string ⟨out.toArray⟩ ∧ Below w.heap.size w wr ∧ Hid (Pl.decF f k out = Pl.decF K K [])) (fun a _ _ => (intOf a).toNat)
 case atStart => exact ⟨K, K, [], Nat.le_refl _, by simp, rfl, rfl, Below.refl _ _, rfl⟩
 case round =>
  obtain ⟨f, k, out, hf, hk, rfl, rfl, hbel, HD⟩ := hrel
  have hsz := hbel.size
  have ho : ¬ 9223372036854775807 < 1 + out.length := by omega
  by_cases hk0 : 0 < k
  ·obtain ⟨f, rfl⟩ : ∃ g, f = g + 1 := ⟨f - 1, by omega⟩
   have HD2 : Hid (Pl.decF f (k / 10) (UInt8.ofNat (48 + k % 10) :: out) = Pl.decF K K []) := (Pl.decF_step hk0 out).symm.trans HD.out
   have p2 : (0 : Int) < (k : Int) := by omega
   clear HD
   have hb : ((UInt8.ofNat (48 + k % 10)).toNat : Int) = 48 + (k : Int) % 10 := by
    rw [UInt8.toNat_ofNat_of_lt' (by show 48 + k % 10 < 256; omega)]; omega
   have hcv := Mem.row_text (P := Tryz.prog) (w := wr.alloc (.cells #[.int .u8 (48 + (k : Int) % 10)] 5)) (n := 1) (cap := 1) Tryz.underlying171 Tryz.underlying5 Tryz.underlying9 [UInt8.ofNat (48 + k % 10)] rfl (heap_alloc_new wr _) (by simp only [List.map_cons, List.map_nil, Pl.zc0, hb]; rfl)
   have HX : Hid ((⟨[UInt8.ofNat (48 + k % 10)].toArray⟩ : ByteArray) ++ (⟨out.toArray⟩ : ByteArray) = ⟨(UInt8.ofNat (48 + k % 10) :: out).toArray⟩) := by
    show _ = _
    rw [Pl.zw5]; rfl
   have hbel2 := hbel.alloc hsz (.cells #[.int .u8 (48 + (k : Int) % 10)] 5)
   generalize UInt8.ofNat (48 + k % 10) = b at hcv HX HD2
   clear hb
   go_wp2
   go_roundw
   case rel => exact ⟨f, k / 10, b :: out, by omega, by simp; omega, by go_num, congrArg Value.string HX.out, hbel2, HD2⟩
   case measure => simp [intOf]; omega
  ·have HD2 : Hid (out = Pl.decF K K []) := by
    obtain rfl : k = 0 := by omega
    exact (Pl.decF_zero f out).symm.trans HD.out
   have p2 : ¬ (0 : Int) < (k : Int) := by omega
   have HX : Hid ((⟨#[109]⟩ : ByteArray) ++ (⟨out.toArray⟩ : ByteArray) = Pl.mark K) := by
    show _ = _
    rw [Pl.mark, ← HD2.out]
    exact Pl.zw5 [109] ⟨out.toArray⟩
   clear HD
   go_wp2
   go_ret
   exact ⟨congrArg (fun x => Ending.returned (.string x)) HX.out, hbel⟩
end zo0
end Go.Proofs.YtlgbdbmikmbioaaGreatDoor

namespace Go.Proofs.YtlgbdbmikmbioaaGreatDoor
open Go.RowKit
namespace Pl
def zp6 (K i : Nat) : Nd := ⟨mark (K + 5 * i), ((K + 5 * i + 1 : Nat) : Int), mark (K + 5 * i + 2), ((K + 5 * i + 3 : Nat) : Int), ((K + 5 * i + 4 : Nat) : Int)⟩
def zj3 (K n : Nat) : List Nd := (List.range n).map (zp6 K)
theorem markN_get {K n i : Nat} {m : Nd} (h : (zj3 K n)[i]? = some m) : i < n ∧ m = zp6 K i := by
 unfold zj3 at h
 rw [List.getElem?_map, Option.map_eq_some_iff] at h
 obtain ⟨j, hj, rfl⟩ := h
 obtain ⟨h1, h2⟩ := List.getElem?_eq_some_iff.1 hj
 simp at h1 h2
 subst h2
 exact ⟨h1, rfl⟩
theorem zu5 (K n : Nat) : (zj3 K n).length = n := by simp [zj3]
def rowAt (cv : Array Value) (j : Nat) (m : Nd) : Prop := cv[j * 5]? = some (.string m.path) ∧ cv[j * 5 + 1]? = some (.int .i64 m.kind) ∧ cv[j * 5 + 2]? = some (.string m.data) ∧ cv[j * 5 + 3]? = some (.int .i64 m.time) ∧ cv[j * 5 + 4]? = some (.int .i64 m.mark)
end Pl
namespace zf7
theorem zn4 {w v v' : World} {g : Nat} (h : w.grownBy v (some g)) (b : Below v.heap.size v v') : w.grownBy v' (some g) :=
 ⟨b.os.trans h.os, b.tape.trans h.tape, b.output.trans h.output, Nat.le_trans h.size b.size, fun j hj hne => (b.block j (Nat.lt_of_lt_of_le hj h.size)).trans (h.block j hj hne)⟩
theorem zd8 {w v : World} {g o : Nat} {x : Value} (h : w.grownBy v (some g)) : w.grownBy (v.setCell ⟨g, o, none⟩ x) (some g) :=
 ⟨h.os, h.tape, h.output, Nat.le_trans h.size (by simp [World.setCell]), fun j hj hne => (Below.heap_setCell _ _ _ _ (by intro e; exact hne (by rw [e]))).trans (h.block j hj hne)⟩
set_option maxRecDepth 100000 in
set_option maxHeartbeats 400000 in
theorem lay_any (g n cap K : Nat) (cur : Array Value) (w : World) (hn : n ≤ 1048576) (hK : 0 < K) (hK2 : K ≤ 8000000000000000000) (hrow : w.heap[g]? = some (.cells cur 134 (0, 0))) (hsz : n * 5 ≤ cur.size) :
  Calls Tryz.prog 33 #[.slice (some ⟨g, 0, none⟩) n cap, .int .i64 (K : Int)] w fun e w' => e = .returned (.int .i64 ((K + 5 * n : Nat) : Int)) ∧
   (∃ cur', w'.heap[g]? = some (.cells cur' 134 (0, 0)) ∧ cur'.size = cur.size) ∧ Mem.za3 w' (some ⟨g, 0, none⟩) (Pl.zj3 K n) ∧ w.grownBy w' (some g) := by
 have HR0 := hide hrow
 have HS0 := hide hsz
 clear hrow hsz
 go_enter Tryz.func33, Tryz.ntmps33
 go_wp2
 go_loopw [1, 5] (fun a i wr => ∃ (k q : Nat) (cv : Array Value), k ≤ n ∧ q = K + 5 * k ∧ i = .int .i64 (k : Int) ∧ a = .int .i64 (q : Int) ∧ Hid (wr.heap[g]? = some (.cells cv 134 (0, 0))) ∧ Hid (cv.size = cur.size) ∧ Hid (w.grownBy wr (some g)) ∧
   Hid (∀ j, j < k → Pl.rowAt cv j (Pl.zp6 K j))) (fun _ i _ => n - (intOf i).toNat)
 case atStart => exact ⟨0, K, cur, Nat.zero_le _, rfl, rfl, rfl, HR0, rfl, ⟨rfl, rfl, rfl, Nat.le_refl _, fun _ _ _ => rfl⟩, fun j h => absurd h (by omega)⟩
 case round =>
  obtain ⟨k, q, cv, hk, hq, rfl, rfl, HR, HS, HG, HA⟩ := hrel
  by_cases hlt : k < n
  ·have y1 : (k : Int) < (n : Int) := by omega
   have y3 : (0 : Int) ≤ (k : Int) := by omega
   have HM := hide (fun W => zo0.zc5 q W (by omega) (by omega))
   have HM2 := hide (fun W => zo0.zc5 (q + 2) W (by omega) (by omega))
   rw [show ((q + 2 : Nat) : Int) = (q : Int) + 1 + 1 by omega] at HM2
   have HQ := hide hq
   have q1 : (q : Int) ≤ 9000000000000000000 := by omega
   clear hq
   go_wp2_with fail
   refine (za HM _).mono ?_
   rintro e w2 ⟨rfl, b2⟩
   have hg : g < wr.heap.size := (Array.getElem?_eq_some_iff.1 (za HR)).1
   have HR2 := hide ((b2.block _ hg).trans (za HR))
   have hcz : n * 5 ≤ cv.size := by rw [za HS]; exact za HS0
   have s0 : ∃ x, w2.cell? ⟨g, k * 5, none⟩ = some x := ⟨_, (cell_of_row w2 _ (k * 5) _ _ (0, 0) (za HR2)).trans (Array.getElem?_eq_getElem (by omega))⟩
   have s1 : ∃ x, w2.cell? ⟨g, k * 5 + 1, none⟩ = some x := ⟨_, (cell_of_row w2 _ (k * 5 + 1) _ _ (0, 0) (za HR2)).trans (Array.getElem?_eq_getElem (by omega))⟩
   obtain ⟨x0, s0⟩ := s0
   obtain ⟨x1, s1⟩ := s1
   have f0 : ∀ j, w2.frozen? ⟨g, j, none⟩ = false := fun j => Mem.za6 (za HR2)
   have HG2 := hide (zn4 (za HG) b2)
   have HCZ := hide hcz
   clear b2 HR HG hcz hg HM
   go_wp2_with fail
   have HR3 := hide (heap_setCell_same _ _ (k * 5 + 1) _ _ (.int .i64 ((q : Int) + 1)) (heap_setCell_same _ _ (k * 5) _ _ (.string (Pl.mark q)) (za HR2)))
   have HG3 := hide (zd8 (o := k * 5 + 1) (x := .int .i64 ((q : Int) + 1)) (zd8 (o := k * 5) (x := .string (Pl.mark q)) (za HG2)))
   refine (za HM2 _).mono ?_
   rintro e w4 ⟨rfl, b4⟩
   have HR4 := hide ((b4.block _ (Array.getElem?_eq_some_iff.1 (za HR3)).1).trans (za HR3))
   have HG4 := hide (zn4 (za HG3) b4)
   have hcz := za HCZ
   have s2 : ∃ x, w4.cell? ⟨g, k * 5 + 2, none⟩ = some x := ⟨_, (cell_of_row w4 _ (k * 5 + 2) _ _ (0, 0) (za HR4)).trans (Array.getElem?_eq_getElem (by simp; omega))⟩
   have s3 : ∃ x, w4.cell? ⟨g, k * 5 + 3, none⟩ = some x := ⟨_, (cell_of_row w4 _ (k * 5 + 3) _ _ (0, 0) (za HR4)).trans (Array.getElem?_eq_getElem (by simp; omega))⟩
   have s4 : ∃ x, w4.cell? ⟨g, k * 5 + 4, none⟩ = some x := ⟨_, (cell_of_row w4 _ (k * 5 + 4) _ _ (0, 0) (za HR4)).trans (Array.getElem?_eq_getElem (by simp; omega))⟩
   obtain ⟨x2, s2⟩ := s2
   obtain ⟨x3, s3⟩ := s3
   obtain ⟨x4, s4⟩ := s4
   have f4 : ∀ j, w4.frozen? ⟨g, j, none⟩ = false := fun j => Mem.za6 (za HR4)
   clear b4 HR2 HG2 HR3 HG3 hcz HM2 s0 s1 f0
   go_wp2
   go_roundw
   case rel =>
    refine ⟨k + 1, q + 5, _, by omega, by have := za HQ; omega, by go_num, by go_num, hide (heap_setCell_same _ _ (k * 5 + 4) _ _ _ (heap_setCell_same _ _ (k * 5 + 3) _ _ _ (heap_setCell_same _ _ (k * 5 + 2) _ _ _ (za HR4)))), ?_, hide (zd8 (zd8 (zd8 (za HG4)))), ?_⟩
    ·exact hide (by simpa using za HS)
    ·intro j hj
     have hcz := za HCZ
     rcases Nat.lt_succ_iff_lt_or_eq.1 hj with h'' | rfl
     ·obtain ⟨i0, i1, i2, i3, i4⟩ := HA.out j h''
      simp only [Pl.rowAt, Array.getElem?_setIfInBounds]
      refine ⟨?_, ?_, ?_, ?_, ?_⟩ <;> (repeat (rw [if_neg (by omega)])) <;> assumption
     ·have hq := za HQ
      simp only [Pl.rowAt, Pl.zp6, Array.getElem?_setIfInBounds, Array.size_setIfInBounds, ← hq]
      refine ⟨?_, ?_, ?_, ?_, ?_⟩ <;> simp <;> omega
   case measure => simp [intOf]; omega
  ·obtain rfl : k = n := by omega
   have y1 : ¬ (k : Int) < (k : Int) := by omega
   have hq2 : (q : Int) = ((K + 5 * k : Nat) : Int) := by omega
   have HQ := hide hq2
   clear hq2 hq
   go_wp2
   go_ret
   refine ⟨by rw [za HQ]; rfl, ⟨cv, za HR, za HS⟩, fun j m hj => ?_, za HG⟩
   obtain ⟨hjl, rfl⟩ := Pl.markN_get hj
   obtain ⟨i0, i1, i2, i3, i4⟩ := HA.out j hjl
   refine ⟨g, 0, rfl, (Array.getElem?_eq_some_iff.1 (za HR)).1, ?_, ?_, ?_, ?_, ?_⟩
   ·rw [cell_of_row wr _ _ _ _ (0, 0) (za HR), Nat.zero_add]; exact i0
   ·rw [cell_of_row wr _ _ _ _ (0, 0) (za HR), Nat.zero_add]; exact i1
   ·rw [cell_of_row wr _ _ _ _ (0, 0) (za HR), Nat.zero_add]; exact i2
   ·rw [cell_of_row wr _ _ _ _ (0, 0) (za HR), Nat.zero_add]; exact i3
   ·rw [cell_of_row wr _ _ _ _ (0, 0) (za HR), Nat.zero_add]; exact i4
end zf7
end Go.Proofs.YtlgbdbmikmbioaaGreatDoor

namespace Go.Proofs.YtlgbdbmikmbioaaGreatDoor
open Go.RowKit
namespace Mem
structure Band (Y X : Nat) (w w' : World) : Prop where
 os : w'.os = w.os
 tape : w'.tape = w.tape
 output : w'.output = w.output
 size : w.heap.size ≤ w'.heap.size
 block : ∀ j, j < w.heap.size → (j < Y ∨ X ≤ j) → w'.heap[j]? = w.heap[j]?
theorem Band.refl (Y X : Nat) (w : World) : Band Y X w w := ⟨rfl, rfl, rfl, Nat.le_refl _, fun _ _ _ => rfl⟩
theorem Band.of_below {Y X : Nat} {w w' : World} (b : Below w.heap.size w w') : Band Y X w w' := ⟨b.os, b.tape, b.output, b.size, fun j hj _ => b.block j hj⟩
theorem Band.zq7 {Y X g : Nat} {w w' : World} (b : w.grownBy w' (some g)) (h1 : Y ≤ g) (h2 : g < X) : Band Y X w w' := ⟨b.os, b.tape, b.output, b.size, fun j hj hh => b.block j hj (fun e => by cases e; omega)⟩
theorem Band.trans {Y X : Nat} {w v v' : World} (h : Band Y X w v) (h' : Band Y X v v') : Band Y X w v' :=
 ⟨h'.os.trans h.os, h'.tape.trans h.tape, h'.output.trans h.output, Nat.le_trans h.size h'.size, fun j hj hh => (h'.block j (Nat.lt_of_lt_of_le hj h.size) hh).trans (h.block j hj hh)⟩
theorem Band.below {Y X B : Nat} {w v v' : World} (h : Band Y X v v') (b : Below B w v) (hB : B ≤ Y) (hs : B ≤ v.heap.size) : Below B w v' :=
 ⟨h.os.trans b.os, h.tape.trans b.tape, h.output.trans b.output, Nat.le_trans b.size h.size, fun j hj => (h.block j (by omega) (.inl (by omega))).trans (b.block j hj)⟩
theorem Band.blk {Y X g : Nat} {w w' : World} {cs : Array Value} {T : TypeId} (h : Band Y X w w') (hb : Blk w g cs T) (hg : g < Y ∨ X ≤ g) : Blk w' g cs T := (h.block g hb.lt hg).trans hb
theorem Band.row {Y X B e size n : Nat} {w w' : World} {v : Value} {xs : List Value} (h : Band Y X w w') (o : w.ownsRow B e size v n xs) (hg : ∀ g, v.ownBlock = some g → g < Y ∨ X ≤ g) : w'.ownsRow B e size v n xs := by
 refine ⟨o.1, ?_⟩
 rcases o.2 with h0 | ⟨g, cap, cur, rfl, hb, hh, rest⟩
 ·exact .inl h0
 ·exact .inr ⟨g, cap, cur, rfl, hb, (h.block g (Array.getElem?_eq_some_iff.1 hh).1 (hg g rfl)).trans hh, rest⟩
theorem Band.of_set {Y X : Nat} {w : World} (p : Addr) (v : Value) (h1 : Y ≤ p.block) (h2 : p.block < X) : Band Y X w (w.setCell p v) :=
 have b : Below 0 w (w.setCell p v) := (Below.refl 0 w).setCell (Nat.zero_le _) v
 ⟨b.os, b.tape, b.output, b.size, fun j _ hh => heap_setCell_other _ _ _ _ (by omega)⟩
end Mem
end Go.Proofs.YtlgbdbmikmbioaaGreatDoor

namespace Go.Proofs.YtlgbdbmikmbioaaGreatDoor
open Go.RowKit
namespace WMkJ
set_option linter.unusedSimpArgs false in
set_option maxRecDepth 100000 in
set_option maxHeartbeats 1000000 in
theorem mark_from (K0 g X cap : Nat) (D : List Pl.It) (w : World) (hK0 : 0 < K0) (hK1 : K0 + 5242881 * D.length ≤ 8000000000000000000) (hl : D.length ≤ 1048576) (hok : ∀ t ∈ D, t.t.L.length ≤ 1048576) (hv : Has w g X D) :
  Calls Tryz.prog 11 #[.slice (some ⟨g, 0, none⟩) D.length cap, .int .i64 (K0 : Int)] w fun e w' => (∃ K : Nat, e = .returned (.int .i64 (K : Int)) ∧ K0 ≤ K ∧ K ≤ K0 + 5242881 * D.length) ∧ Mem.Band g X w w' := by
 have HO := hide hok
 have HV := hide hv
 clear hok hv
 go_enter Tryz.func11, Tryz.ntmps11
 go_wp2
 go_loopw [1, 5] (fun a i wr => ∃ (j K : Nat), j ≤ D.length ∧ i = .int .i64 (j : Int) ∧ a = .int .i64 (K : Int) ∧ (K0 ≤ K ∧ K ≤ K0 + 5242881 * j) ∧ Hid (Has wr g X D ∧ Mem.Band g X w wr)) (fun _ i _ => D.length - (intOf i).toNat)
 case atStart => exact ⟨0, K0, Nat.zero_le _, rfl, rfl, by omega, ⟨za HV, Mem.Band.refl _ _ _⟩⟩
 case round =>
  obtain ⟨j, K, hj, rfl, rfl, hK, HA⟩ := hrel
  by_cases hlt : j < D.length
  ·obtain ⟨t, ht⟩ : ∃ t, D[j]? = some t := ⟨_, List.getElem?_eq_getElem hlt⟩
   have htl := za HO t (List.mem_of_getElem? ht)
   have HS := hide ((za HA).1.many (i := j) (.int .i64 (K : Int)))
   have BS := hide ((za HA).2.trans (Mem.Band.of_set (w := wr) ⟨g, j * 2, none⟩ (.int .i64 (K : Int)) (Nat.le_refl _) (za HA).1.gx))
   have c1 := (za HS).cell j t ht
   obtain ⟨q, h1, h2, h3, cs, h4, h5⟩ := (za HS).each j t ht
   obtain ⟨cur, hb1, hb2⟩ := (za HA).1.blk
   obtain ⟨x0, s0⟩ : ∃ x, wr.cell? ⟨g, j * 2, none⟩ = some x := ⟨_, (cell_of_row wr _ (j * 2) _ _ (0, 0) hb1).trans (Array.getElem?_eq_getElem (by omega))⟩
   have f0 : wr.frozen? ⟨g, j * 2, none⟩ = false := Mem.za6 hb1
   obtain ⟨tm, ta, tc, tL⟩ := t
   simp only at h1 h5 htl
   subst h1
   simp only [Pl.Tr.val] at c1
   have hm := hide (zf7.lay_any q tL.length tc (K + 1) cs (wr.setCell ⟨g, j * 2, none⟩ (.int .i64 (K : Int))) htl (by omega) (by omega) h4 h5)
   have H4 := hide h4
   have u1 : (j : Int) < (D.length : Int) := by omega
   have u3 : (0 : Int) ≤ (j : Int) := by omega
   have eK : ((K + 1 : Nat) : Int) = (K : Int) + 1 := by omega
   rw [eK] at hm
   clear h4 h5 ht HA hb1 hb2
   go_wp2_with fail
   refine (za hm).mono ?_
   rintro e w2 ⟨rfl, ⟨cur', hr', hs'⟩, -, hg⟩
   have HB : Hid (Has w2 g X D ∧ Mem.Band g X w w2) := ⟨(za HS).marked h2 (za H4) hr' hs' hg, (za BS).trans (Mem.Band.zq7 hg (by omega) h3)⟩
   clear HS BS hm H4 hr' hs' hg c1 s0 f0
   generalize hK2 : K + 1 + 5 * tL.length = K2
   have hK3 : K0 ≤ K2 ∧ K2 ≤ K0 + 5242881 * (j + 1) := by omega
   clear hK2 hK htl
   go_wp2
   go_roundw
   case rel => exact ⟨j + 1, K2, by omega, by go_num, rfl, hK3, HB⟩
   case measure => simp [intOf]; omega
  ·have u1 : ¬ (j : Int) < (D.length : Int) := by omega
   go_wp2
   go_ret
   exact ⟨⟨K, rfl, by omega, by omega⟩, (za HA).2⟩
end WMkJ
end Go.Proofs.YtlgbdbmikmbioaaGreatDoor

