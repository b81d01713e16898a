import Derived.Test.YtonffldjbmednaaGreatDoorG03
import Derived.Test.YtonffldjbmednaaGreatDoorG04
import Derived.Test.YtonffldjbmednaaGreatDoorG05
import Derived.Deep.Cut
namespace Go.Proofs.YtonffldjbmednaaGreatDoor
open Go.RowKit
namespace Mem
theorem Cop3.low {α : Type} {T : TypeId} {f0 f1 f2 : α → Value} {w wr : World} {n : Nat} {D : List α} {cur : Array Value} (h : Cop3 T f0 f1 f2 w wr n D cur) (p : Addr) (v : Value) (hp : p.block < w.heap.size) : Cop3 T f0 f1 f2 w (wr.setCell p v) n D cur :=
 ⟨(heap_setCell_other _ _ _ _ (by omega)).trans h.blk, h.size, h.each⟩
end Mem
namespace zb
theorem CopN.low {w wr : World} {Ts D : List Pl.Ns} {cur : Array Value} {B : Nat → Nat} (h : CopN w wr Ts D cur B) (p : Addr) (v : Value) (hp : p.block < w.heap.size) : CopN w (wr.setCell p v) Ts D cur B :=
 ⟨(heap_setCell_other _ _ _ _ (by omega)).trans h.blk, h.size, h.same, fun j t hj => ⟨(h.each j t hj).1, (h.each j t hj).2.1, by
  obtain ⟨g, h1, h2, h3, h4⟩ := (h.each j t hj).2.2
  exact ⟨g, h1, h2, h3.low p v (by omega), h4⟩⟩, h.lo, by rw [World.size_setCell]; exact h.top, fun j t hj => by
  obtain ⟨g, h1, h2, h3⟩ := h.band j t hj
  obtain ⟨-, -, g2, e2, h5, -⟩ := h.each j t hj
  rw [h1] at e2
  cases e2
  exact ⟨g, h1, h2, h3.low p v (by omega)⟩⟩
abbrev m0 (x : Pl.Mn) : Value := .string x.p
abbrev m1 (x : Pl.Mn) : Value := .int .i64 x.i
abbrev m2 (x : Pl.Mn) : Value := .bool x.z
abbrev h0 (x : Pl.Hn) : Value := .int .i64 x.d
abbrev h1 (x : Pl.Hn) : Value := .int .i64 x.i
abbrev h2 (x : Pl.Hn) : Value := .string x.p
theorem mounts_of {w wr : World} {n : Nat} {D : List Pl.Mn} {cur : Array Value} (h : Mem.Cop3 50 m0 m1 m2 w wr n D cur) : Mem.zb2 wr (some ⟨w.heap.size, 0, none⟩) D := fun i x hi => by
 obtain ⟨g1, g2, g3, g4⟩ := h.got hi
 exact ⟨_, 0, rfl, g1, g2, g3, g4⟩
theorem hands_of {w wr : World} {n : Nat} {D : List Pl.Hn} {cur : Array Value} (h : Mem.Cop3 87 h0 h1 h2 w wr n D cur) : Mem.zb9 wr (some ⟨w.heap.size, 0, none⟩) D := fun i x hi => by
 obtain ⟨g1, g2, g3, g4⟩ := h.got hi
 exact ⟨_, 0, rfl, g1, g2, g3, g4⟩
structure Tk (w W : World) (s : Pl.Sp) (O : Array Value) : Prop where
 bel : Below w.heap.size w W
 b0 : Mem.Blk W w.heap.size #[.slice s.ia s.N.length s.ic, .slice s.ma s.M.length s.mc, .slice s.ha s.H.length s.hc, .int .i64 s.next] 26
 b1 : Mem.Blk W (w.heap.size + 1) #[.slice none 0 0, .slice none 0 0, .slice none 0 0, .int .i64 0] 32
 b2 : Mem.Blk W (w.heap.size + 2) O 32
theorem Tk.call {w W W' : World} {s : Pl.Sp} {O : Array Value} (h : Tk w W s O) (b : Below W.heap.size W W') : Tk w W' s O := ⟨h.bel.trans (b.mono h.bel.size), h.b0.call b, h.b1.call b, h.b2.call b⟩
theorem Tk.put {w W : World} {s : Pl.Sp} {O : Array Value} (h : Tk w W s O) (k : Nat) (v : Value) : Tk w (W.setCell ⟨w.heap.size + 2, k, none⟩ v) s (O.setIfInBounds k v) :=
 ⟨h.bel.setCell (by show w.heap.size ≤ w.heap.size + 2; omega) _, h.b0.far _ _ (by show w.heap.size ≠ w.heap.size + 2; omega), h.b1.far _ _ (by show w.heap.size + 1 ≠ w.heap.size + 2; omega), h.b2.put k v⟩
structure SpT (w W : World) (s s' : Pl.Sp) : Prop where
 sp : Mem.zc3 W s'
 n : s'.N.map Pl.Ns.r = s.N.map Pl.Ns.r
 nl : s'.N.length = s.N.length
 m : s'.M = s.M
 h : s'.H = s.H
 x : s'.next = s.next
 ci : s'.ic = s'.N.length
 cm : s'.mc = s'.M.length
 ch : s'.hc = s'.H.length
 each : ∀ t ∈ s'.N, t.cap = t.Is.length ∧ ∃ g, t.a = some ⟨g, 0, none⟩
 am : ∃ g, s'.ma = some ⟨g, 0, none⟩
 ah : ∃ g, s'.ha = some ⟨g, 0, none⟩
 has : ∃ gi gm gh B, w.heap.size ≤ gi ∧ gh < W.heap.size ∧ HasS W s' gi gm gh B
set_option linter.unusedSimpArgs false in
set_option maxRecDepth 100000 in
set_option maxHeartbeats 2000000 in
theorem toSpace_any (s : Pl.Sp) (w : World) (hv : Mem.zc3 w s) (hok : OkS s 1048576) :
  Calls Tryz.prog 9 #[.agg s.cs] w fun e w' => (∃ s', e = .returned (.agg s'.cs) ∧ SpT w w' s s') ∧ Below w.heap.size w w' := by
 unfold Pl.Sp.cs
 have K0 : Hid (Tk w (((w.alloc (.cells #[.slice s.ia s.N.length s.ic, .slice s.ma s.M.length s.mc, .slice s.ha s.H.length s.hc, .int .i64 s.next] 26)).alloc (.cells #[.slice none 0 0, .slice none 0 0, .slice none 0 0, .int .i64 0] 32)).alloc (.cells #[.slice none 0 0, .slice none 0 0, .slice none 0 0, .int .i64 0] 32)) s #[.slice none 0 0, .slice none 0 0, .slice none 0 0, .int .i64 0]) := hide ⟨(((Below.refl _ _).alloc (Nat.le_refl _) _).alloc (by simp) _).alloc (by simp; omega) _, ((Mem.Blk.new w _ _).alloc _).alloc _, Mem.zn4 w _ _ _, Mem.zk0 w _ _ _⟩
 have i1 := hide (fun W (b : Below w.heap.size w W) => yb0 s.ia s.ic s.N W hok.n (Mem.zf1 hv.zf9 b) (fun x hx => ⟨(hok.each x hx).1, fun t ht => ((hok.each x hx).2 t ht).1⟩))
 have i2 := hide (fun W (b : Below w.heap.size w W) => toMountS_any s.ma s.mc s.M W hok.m (Mem.zc7 hv.zh b))
 have i3 := hide (fun W (b : Below w.heap.size w W) => toHandleS_any s.ha s.hc s.H W hok.h (Mem.zc6 hv.hands b))
 clear hv hok
 go_enter Tryz.func9, Tryz.ntmps9
 have a0 := (za K0).b0.cell 0
 simp only [kGs] at a0
 go_wp2_with fail
 generalize (((w.alloc (.cells #[.slice s.ia s.N.length s.ic, .slice s.ma s.M.length s.mc, .slice s.ha s.H.length s.hc, .int .i64 s.next] 26)).alloc (.cells #[.slice none 0 0, .slice none 0 0, .slice none 0 0, .int .i64 0] 32)).alloc (.cells #[.slice none 0 0, .slice none 0 0, .slice none 0 0, .int .i64 0] 32)) = w3 at K0 a0 ⊢
 refine (za i1 _ (za K0).bel).mono ?_
 rintro e v1 ⟨rfl, ⟨D, cu, B, hD, C1⟩, b1⟩
 have htop : B s.N.length ≤ v1.heap.size := by rw [← hD]; exact C1.top
 have hs3 : w.heap.size + 2 < w3.heap.size := (za K0).b2.lt
 have K1 := hide ((za K0).call b1)
 have o0 := (za K1).b2.cell 0
 have f0 := (za K1).b2.fr 0
 have a1 := (za K1).b0.cell 1
 simp only [kGs] at o0 a1
 have K2 := hide (show Tk w (v1.setCell ⟨w.heap.size + 2, 0, none⟩ (.slice (some ⟨w3.heap.size, 0, none⟩) s.N.length s.N.length)) s #[.slice (some ⟨w3.heap.size, 0, none⟩) s.N.length s.N.length, .slice none 0 0, .slice none 0 0, .int .i64 0] from (za K1).put 0 _)
 have N2 := hide (C1.low ⟨w.heap.size + 2, 0, none⟩ (.slice (some ⟨w3.heap.size, 0, none⟩) s.N.length s.N.length) hs3)
 have HD := hide hD
 have a1' := (za K2).b0.cell 1
 simp only [kGs] at a1'
 have hX3 : w.heap.size ≠ w.heap.size + 2 := by omega
 clear i1 K0 a0 b1 C1 hD K1
 go_wp2_with fail
 have htop2 : B s.N.length ≤ (v1.setCell ⟨w.heap.size + 2, 0, none⟩ (.slice (some ⟨w3.heap.size, 0, none⟩) s.N.length s.N.length)).heap.size := by rw [World.size_setCell]; exact htop
 clear htop
 generalize v1.setCell ⟨w.heap.size + 2, 0, none⟩ (.slice (some ⟨w3.heap.size, 0, none⟩) s.N.length s.N.length) = v2 at K2 N2 a1' htop2 ⊢
 refine (za i2 _ (za K2).bel).mono ?_
 rintro e v3 ⟨rfl, ⟨cm, C2⟩, b3⟩
 have hs4 : w.heap.size + 2 < v2.heap.size := (za K2).b2.lt
 have K3 := hide ((za K2).call b3)
 have N3 := hide (((za N2).call b3).low ⟨w.heap.size + 2, 1, none⟩ (.slice (some ⟨v2.heap.size, 0, none⟩) s.M.length s.M.length) hs3)
 have o1 := (za K3).b2.cell 1
 have f1 := (za K3).b2.fr 1
 simp only [kGs] at o1
 have K4 := hide (show Tk w (v3.setCell ⟨w.heap.size + 2, 1, none⟩ (.slice (some ⟨v2.heap.size, 0, none⟩) s.M.length s.M.length)) s #[.slice (some ⟨w3.heap.size, 0, none⟩) s.N.length s.N.length, .slice (some ⟨v2.heap.size, 0, none⟩) s.M.length s.M.length, .slice none 0 0, .int .i64 0] from (za K3).put 1 _)
 have M4 := hide (C2.low ⟨w.heap.size + 2, 1, none⟩ (.slice (some ⟨v2.heap.size, 0, none⟩) s.M.length s.M.length) hs4)
 have a2 := (za K4).b0.cell 2
 simp only [kGs] at a2
 clear i2 K2 a1 a1' b3 C2 N2 K3 o0 f0
 go_wp2_with fail
 have hmh : v2.heap.size < (v3.setCell ⟨w.heap.size + 2, 1, none⟩ (.slice (some ⟨v2.heap.size, 0, none⟩) s.M.length s.M.length)).heap.size := (Array.getElem?_eq_some_iff.1 (za M4).blk).1
 generalize v3.setCell ⟨w.heap.size + 2, 1, none⟩ (.slice (some ⟨v2.heap.size, 0, none⟩) s.M.length s.M.length) = v4 at K4 M4 N3 a2 hmh ⊢
 refine (za i3 _ (za K4).bel).mono ?_
 rintro e v5 ⟨rfl, ⟨ch, C3⟩, b5⟩
 have hs5 : w.heap.size + 2 < v4.heap.size := (za K4).b2.lt
 have K5 := hide ((za K4).call b5)
 have N5 := hide (((za N3).call b5).low ⟨w.heap.size + 2, 2, none⟩ (.slice (some ⟨v4.heap.size, 0, none⟩) s.H.length s.H.length) hs3)
 have M5 := hide (((za M4).call b5).low ⟨w.heap.size + 2, 2, none⟩ (.slice (some ⟨v4.heap.size, 0, none⟩) s.H.length s.H.length) hs4)
 have o2 := (za K5).b2.cell 2
 have f2 := (za K5).b2.fr 2
 simp only [kGs] at o2
 have K6 := hide (show Tk w (v5.setCell ⟨w.heap.size + 2, 2, none⟩ (.slice (some ⟨v4.heap.size, 0, none⟩) s.H.length s.H.length)) s #[.slice (some ⟨w3.heap.size, 0, none⟩) s.N.length s.N.length, .slice (some ⟨v2.heap.size, 0, none⟩) s.M.length s.M.length, .slice (some ⟨v4.heap.size, 0, none⟩) s.H.length s.H.length, .int .i64 0] from (za K5).put 2 _)
 have H6 := hide (C3.low ⟨w.heap.size + 2, 2, none⟩ (.slice (some ⟨v4.heap.size, 0, none⟩) s.H.length s.H.length) hs5)
 have a3 := (za K6).b0.cell 3
 have o3 := (za K6).b2.cell 3
 have f3 := (za K6).b2.fr 3
 simp only [kGs] at a3 o3
 clear i3 K4 a2 b5 C3 N3 M4 K5 o1 f1
 go_upto_region 5 with fail
 generalize v5.setCell ⟨w.heap.size + 2, 2, none⟩ (.slice (some ⟨v4.heap.size, 0, none⟩) s.H.length s.H.length) = v6 at K6 H6 M5 N5 a3 o3 f3 ⊢
 have K7 := hide (show Tk w (v6.setCell ⟨w.heap.size + 2, 3, none⟩ (.int .i64 s.next)) s #[.slice (some ⟨w3.heap.size, 0, none⟩) s.N.length s.N.length, .slice (some ⟨v2.heap.size, 0, none⟩) s.M.length s.M.length, .slice (some ⟨v4.heap.size, 0, none⟩) s.H.length s.H.length, .int .i64 s.next] from (za K6).put 3 _)
 have N7 := hide ((za N5).low ⟨w.heap.size + 2, 3, none⟩ (.int .i64 s.next) hs3)
 have M7 := hide ((za M5).low ⟨w.heap.size + 2, 3, none⟩ (.int .i64 s.next) hs4)
 have H7 := hide ((za H6).low ⟨w.heap.size + 2, 3, none⟩ (.int .i64 s.next) hs5)
 go_upto_region 6 with fail
 generalize v6.setCell ⟨w.heap.size + 2, 3, none⟩ (.int .i64 s.next) = v7 at K7 H7 M7 N7 ⊢
 clear K6 H6 M5 N5 a3 o3 f3 o2 f2
 have q0 := (za K7).b2.cell 0
 have r0 := (za K7).b1.cell 0
 have rf0 := (za K7).b1.fr 0
 have q1 := (za K7).b2.cell 1
 have r1 := (za K7).b1.cell 1
 have rf1 := (za K7).b1.fr 1
 have q2 := (za K7).b2.cell 2
 have r2 := (za K7).b1.cell 2
 have rf2 := (za K7).b1.fr 2
 have q3 := (za K7).b2.cell 3
 have r3 := (za K7).b1.cell 3
 have rf3 := (za K7).b1.fr 3
 simp only [kGs] at q0 q1 q2 q3 r0 r1 r2 r3
 have hq3 : w.heap.size + 1 < w3.heap.size := by omega
 have hq4 : w.heap.size + 1 < v2.heap.size := by omega
 have hq5 : w.heap.size + 1 < v4.heap.size := by omega
 go_wp2
 refine bodyPost_ret (v := .agg #[.slice (some ⟨w3.heap.size, 0, none⟩) s.N.length s.N.length, .slice (some ⟨v2.heap.size, 0, none⟩) s.M.length s.M.length, .slice (some ⟨v4.heap.size, 0, none⟩) s.H.length s.H.length, .int .i64 s.next]) (by simp [results, Tryz.results9, go_sem, r0, r1, r2, r3]) rfl ⟨⟨⟨some ⟨w3.heap.size, 0, none⟩, s.N.length, D, some ⟨v2.heap.size, 0, none⟩, s.M.length, s.M, some ⟨v4.heap.size, 0, none⟩, s.H.length, s.H, s.next⟩, by rw [za HD], ?_⟩, ?_⟩
 ·have n1 := ((((za N7).low ⟨w.heap.size + 1, 0, none⟩ (.slice (some ⟨w3.heap.size, 0, none⟩) s.N.length s.N.length) hq3).low ⟨w.heap.size + 1, 1, none⟩ (.slice (some ⟨v2.heap.size, 0, none⟩) s.M.length s.M.length) hq3).low ⟨w.heap.size + 1, 2, none⟩ (.slice (some ⟨v4.heap.size, 0, none⟩) s.H.length s.H.length) hq3).low ⟨w.heap.size + 1, 3, none⟩ (.int .i64 s.next) hq3
  have n2 := ((((za M7).low ⟨w.heap.size + 1, 0, none⟩ (.slice (some ⟨w3.heap.size, 0, none⟩) s.N.length s.N.length) hq4).low ⟨w.heap.size + 1, 1, none⟩ (.slice (some ⟨v2.heap.size, 0, none⟩) s.M.length s.M.length) hq4).low ⟨w.heap.size + 1, 2, none⟩ (.slice (some ⟨v4.heap.size, 0, none⟩) s.H.length s.H.length) hq4).low ⟨w.heap.size + 1, 3, none⟩ (.int .i64 s.next) hq4
  have n3 := ((((za H7).low ⟨w.heap.size + 1, 0, none⟩ (.slice (some ⟨w3.heap.size, 0, none⟩) s.N.length s.N.length) hq5).low ⟨w.heap.size + 1, 1, none⟩ (.slice (some ⟨v2.heap.size, 0, none⟩) s.M.length s.M.length) hq5).low ⟨w.heap.size + 1, 2, none⟩ (.slice (some ⟨v4.heap.size, 0, none⟩) s.H.length s.H.length) hq5).low ⟨w.heap.size + 1, 3, none⟩ (.int .i64 s.next) hq5
  exact ⟨⟨n1.zf9, mounts_of n2, hands_of n3⟩, by show D.map _ = _; rw [n1.same, za HD, List.take_length], za HD, rfl, rfl, rfl, by show s.N.length = D.length; rw [za HD], rfl, rfl, fun t ht => by
   obtain ⟨j, hj⟩ := List.getElem?_of_mem ht
   obtain ⟨-, -, g, e1, -, -, e2⟩ := n1.each j t hj
   exact ⟨e2, g, e1⟩, ⟨_, rfl⟩, ⟨_, rfl⟩, w3.heap.size, v2.heap.size, v4.heap.size, B, by omega, (Array.getElem?_eq_some_iff.1 n3.blk).1, rfl, ⟨_, n1.blk, by show _ = D.length * 2; rw [za HD]; exact n1.size, fun j t hj => (n1.each j t hj).2.1⟩, n1.lo, n1.band, by show B D.length ≤ _; rw [za HD]; exact htop2, rfl, ⟨_, n2.blk, n2.size⟩, hmh, rfl, ⟨_, n3.blk, n3.size⟩⟩
 ·have hp : w.heap.size ≤ w.heap.size + 1 := by omega
  exact ((((za K7).bel.setCell hp _).setCell hp _).setCell hp _).setCell hp _
end zb
end Go.Proofs.YtonffldjbmednaaGreatDoor
