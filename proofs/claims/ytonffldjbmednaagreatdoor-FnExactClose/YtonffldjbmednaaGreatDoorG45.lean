/- Several texts of one claim in one file: WSpS9, WSpS10, WSpS11, MemCut3. -/
import Derived.Test.YtonffldjbmednaaGreatDoorG32
import Derived.Test.YtonffldjbmednaaGreatDoorWCp8
import Derived.WalkSpells
import Derived.Lib.OthersKept
import Derived.Laws.RangeAny
import Derived.Test.YtonffldjbmednaaGreatDoorG00
import Derived.Test.YtonffldjbmednaaGreatDoorG02
import Derived.Test.YtonffldjbmednaaGreatDoorG07
import Derived.Test.YtonffldjbmednaaGreatDoorG08
import Derived.Outline
import Derived.Deep.QuietTactic
import Derived.BigQuiet
import Derived.Test.YtonffldjbmednaaGreatDoorG25
import Derived.Test.YtonffldjbmednaaGreatDoorG27
import Derived.Test.YtonffldjbmednaaGreatDoorG36
import Derived.Deep.Cut
import Derived.Test.YtonffldjbmednaaGreatDoorG35
set_option linter.unusedSimpArgs false
namespace Go.Proofs.YtonffldjbmednaaGreatDoor
open Go.RowKit
namespace WSp
set_option maxRecDepth 100000 in
set_option maxHeartbeats 1000000 in
theorem ill_any (c : Int) (w : World) :
  Calls Tryz.prog 26 #[.int .i64 c] w fun e w' => e = .returned (.agg #[.slice none 0 0, .slice none 0 0, .slice none 0 0, .int .i64 0, .int .i64 0, .string ⟨#[]⟩, .int .i64 c]) ∧ Below w.heap.size w w' := by
 have b0 := (Below.refl w.heap.size w).alloc (o := .cells #[Value.slice none 0 0, Value.slice none 0 0, Value.slice none 0 0, Value.int .i64 0, Value.int .i64 0, Value.string ⟨#[]⟩, Value.int .i64 0] 34) (Nat.le_refl _)
 have V0 := hide (Mem.Blk.new w #[Value.slice none 0 0, Value.slice none 0 0, Value.slice none 0 0, Value.int .i64 0, Value.int .i64 0, Value.string ⟨#[]⟩, Value.int .i64 0] 34)
 go_enter Tryz.func26, Tryz.ntmps26
 go_upto_region 1 with fail
 generalize w.alloc (.cells #[Value.slice none 0 0, Value.slice none 0 0, Value.slice none 0 0, Value.int .i64 0, Value.int .i64 0, Value.string ⟨#[]⟩, Value.int .i64 0] 34) = wA at b0 V0 ⊢
 have d0 := (za V0).cell 0
 have f0 := (za V0).fr 0
 have d1 := (za V0).cell 1
 have f1 := (za V0).fr 1
 have d2 := (za V0).cell 2
 have f2 := (za V0).fr 2
 have d3 := (za V0).cell 3
 have f3 := (za V0).fr 3
 have d4 := (za V0).cell 4
 have f4 := (za V0).fr 4
 have d5 := (za V0).cell 5
 have f5 := (za V0).fr 5
 have d6 := (za V0).cell 6
 have f6 := (za V0).fr 6
 simp only [kGs] at d0 d1 d2 d3 d4 d5 d6
 go_wp2
 refine bodyPost_ret (v := .agg #[Value.slice none 0 0, Value.slice none 0 0, Value.slice none 0 0, Value.int .i64 0, Value.int .i64 0, Value.string ⟨#[]⟩, Value.int .i64 c]) (by simp [results, Tryz.results26, go_sem, d0, d1, d2, d3, d4, d5, d6]) rfl ⟨rfl, ?_⟩
 exact (((((((b0).setCell (p := ⟨w.heap.size, 0, none⟩) (by show w.heap.size ≤ w.heap.size; omega) (Value.slice none 0 0)).setCell (p := ⟨w.heap.size, 1, none⟩) (by show w.heap.size ≤ w.heap.size; omega) (Value.slice none 0 0)).setCell (p := ⟨w.heap.size, 2, none⟩) (by show w.heap.size ≤ w.heap.size; omega) (Value.slice none 0 0)).setCell (p := ⟨w.heap.size, 3, none⟩) (by show w.heap.size ≤ w.heap.size; omega) (Value.int .i64 0)).setCell (p := ⟨w.heap.size, 4, none⟩) (by show w.heap.size ≤ w.heap.size; omega) (Value.int .i64 0)).setCell (p := ⟨w.heap.size, 5, none⟩) (by show w.heap.size ≤ w.heap.size; omega) (Value.string ⟨#[]⟩)).setCell (p := ⟨w.heap.size, 6, none⟩) (by show w.heap.size ≤ w.heap.size; omega) (Value.int .i64 c)
theorem _root_.Go.Proofs.YtonffldjbmednaaGreatDoor.WCp8.Cpd.far {w W : World} {s u : Pl.Sp} {S1 Y : Nat} {lo hi : Nat → Nat} (h : WCp8.Cpd w W s u S1 lo hi) (k : Nat) (v : Value) (hY : Y < w.heap.size) : WCp8.Cpd w (W.setCell ⟨Y, k, none⟩ v) s u S1 lo hi :=
 ⟨h.n, h.m, h.h, h.x, h.s1, h.iz.far k v (Nat.lt_of_lt_of_le hY h.s1), Mem.za9 h.om _ _ (fun g hg => by have := (Mem.za5 h.om g hg).1; show Y ≠ g; omega), Mem.za9 h.oh _ _ (fun g hg => by have := (Mem.za5 h.oh g hg).1; show Y ≠ g; omega), h.hm, h.hh, h.ne⟩
end WSp
end Go.Proofs.YtonffldjbmednaaGreatDoor

namespace Go.Proofs.YtonffldjbmednaaGreatDoor
open Go.RowKit
namespace WSp
set_option linter.unusedSimpArgs false in
set_option maxRecDepth 100000 in
set_option maxHeartbeats 800000 in
theorem hand_any (s : Pl.Sp) (d : Int) (w : World) (hl : s.H.length ≤ 1048576) (hv : Mem.zb9 w s.ha s.H) :
  Calls Tryz.prog 50 #[.agg s.cs, .int .i64 d] w fun e w' => e = .returned (.int .i64 (Pl.ze6 (s.H.map (·.d)) d)) ∧ Below w.heap.size w w' := by
 obtain ⟨ia, ic, N, ma, mc, M, ha, hc, H, next⟩ := s
 simp only at *
 unfold Pl.Sp.cs
 have b0 := (Below.refl w.heap.size w).alloc (o := .cells #[.slice ia N.length ic, .slice ma M.length mc, .slice ha H.length hc, .int .i64 next] 32) (Nat.le_refl _)
 have V0 := hide (Mem.Blk.new w #[.slice ia N.length ic, .slice ma M.length mc, .slice ha H.length hc, .int .i64 next] 32)
 have HI := hide hv
 have HAT := hide (fun k h hn => Pl.instI_at (l := H.map (·.d)) (d := d) (k := k) h hn)
 have HNO := hide (Pl.instI_no (l := H.map (·.d)) (d := d))
 generalize Pl.ze6 (H.map (·.d)) d = R at HAT HNO ⊢
 clear hv
 go_enter Tryz.func50, Tryz.ntmps50
 go_wp2
 go_loopw [5] (fun i wr => ∃ k : Nat, k ≤ H.length ∧ i = .int .i64 (k : Int) ∧ Below w.heap.size w wr ∧ Hid (Mem.Blk wr w.heap.size #[.slice ia N.length ic, .slice ma M.length mc, .slice ha H.length hc, .int .i64 next] 32) ∧ Hid (∀ j, j < k → (H.map (·.d))[j]? ≠ some d)) (fun i _ => H.length - (intOf i).toNat)
 case atStart => exact ⟨0, Nat.zero_le _, rfl, b0, V0, fun j h => absurd h (by omega)⟩
 case round =>
  obtain ⟨k, hk, rfl, hbel, V, HA⟩ := hrel
  clear V0 b0
  have a0 := (za V).cell 2
  simp only [kGs] at a0
  by_cases hlt : k < H.length
  ·obtain ⟨t, ht⟩ : ∃ n, H[k]? = some n := ⟨_, List.getElem?_eq_getElem hlt⟩
   obtain ⟨g, o, rfl, hg, q0, -, -⟩ := (za HI) k t ht
   have c0 := (hbel.cell (p := ⟨g, _, none⟩) hg).trans q0
   have hm : (H.map (·.d))[k]? = some t.d := by rw [List.getElem?_map, ht]; rfl
   have u1 : (k : Int) < (H.length : Int) := by omega
   have u3 : (0 : Int) ≤ (k : Int) := by omega
   clear q0 ht
   by_cases hd : t.d = d
   ·have hd1 : (t.d == d) = true := by simpa using hd
    have HR : Hid (R = (k : Int)) := hide (za HAT k (by rw [hm, hd]) (za HA))
    clear hm hd HAT HNO HA
    go_wp2
    go_ret
    exact ⟨by rw [za HR]; rfl, hbel⟩
   ·have hd1 : (t.d == d) = false := by simpa using hd
    have HA2 : Hid (∀ j, j < k + 1 → (H.map (·.d))[j]? ≠ some d) := fun j hj => by
     rcases Nat.lt_succ_iff_lt_or_eq.1 hj with h | rfl
     ·exact za HA j h
     ·rw [hm]; exact fun e => hd (Option.some.inj e)
    clear hm
    go_wp2
    go_roundw
    case rel => exact ⟨k + 1, by omega, by go_num, hbel, V, HA2⟩
    case measure => simp [intOf]; omega
  ·have u1 : ¬ (k : Int) < (H.length : Int) := by omega
   have HR : Hid (R = -1) := hide (za HNO (fun j => by
    by_cases h : j < k
    ·exact za HA j h
    ·rw [List.getElem?_eq_none (by rw [List.length_map]; omega)]; exact fun e => by cases e))
   clear HAT HNO HA
   go_wp2
   go_ret
   exact ⟨by rw [za HR]; rfl, hbel⟩
end WSp
end Go.Proofs.YtonffldjbmednaaGreatDoor

namespace Go.Proofs.YtonffldjbmednaaGreatDoor
open Go.RowKit
namespace Mem
theorem insts_own {W : World} {S n cap : Nat} {a : Option Addr} {L : List Pl.Ns} (h : W.ownsRow S 103 2 (.slice a n cap) L.length (Pl.zd5 L)) (hI : ∀ x ∈ L, zb0 W x.a x.Is) : n = L.length ∧ ze4 W a L := by
 rcases h.2 with ⟨e, h0⟩ | ⟨g, c, cur, e, hb, hg, rest⟩
 ·cases e
  have : L = [] := List.eq_nil_of_length_eq_zero h0
  subst this
  exact ⟨rfl, zr8 _ _⟩
 ·cases e
  refine ⟨rfl, fun i x hx => ⟨⟨g, 0, rfl, (Array.getElem?_eq_some_iff.1 hg).1, ?_, ?_⟩, hI x (List.mem_of_getElem? hx)⟩⟩
  ·have := World.ownsRow.cells h (g := g) rfl (i * 2) _ (Pl.zk5 L i x hx).1
   rw [add_lit] at this
   rw [Nat.zero_add]; exact this
  ·have := World.ownsRow.cells h (g := g) rfl (i * 2 + 1) _ (Pl.zk5 L i x hx).2
   rw [add_lit] at this
   rw [Nat.zero_add]; exact this
end Mem
namespace WSp
theorem infoZ8 : (Tryz.prog.info? 103).map (fun i => (i.zero, i.size, i.bytes)) = some (some (.agg #[.int .i64 0, .slice none 0 0]), 2, 32) := by kernel_rfl
structure F6 (n : Nat) (wr W : World) (cs : Array Value) (X : Nat) : Prop where
 bel : Below n wr W
 blk : Mem.Blk W X cs 103
 xs : n ≤ X
theorem meet6 {P F : World → Nat → Prop} {G : Prop} (h1 : (∀ W X, F W X → P W X) → G) (h2 : ∀ W X, F W X → P W X) : G := h1 h2
def Cleaned (w' : World) (B : Nat) (ma : Option Addr) (mc : Nat) (M : List Pl.Mn) (ha : Option Addr) (hc : Nat) (H : List Pl.Hn) (next : Int) (N : List Pl.Ns) (e : Ending) : Prop :=
 ∃ ua uc, e = .returned (.agg #[.slice ua N.length uc, .slice ma M.length mc, .slice ha H.length hc, .int .i64 next]) ∧ w'.ownsRow B 103 2 (.slice ua N.length uc) N.length (Pl.zd5 N)
structure Cl (w W : World) (V Y : Array Value) : Prop where
 bel : Below w.heap.size w W
 v : Mem.Blk W w.heap.size V 32
 u : Mem.Blk W (w.heap.size + 1) #[.slice none 0 0, .slice none 0 0, .slice none 0 0, .int .i64 0] 32
 y : Mem.Blk W (w.heap.size + 2) Y 32
theorem zd4 {w : World} {B Y e size n : Nat} {v : Value} {xs : List Value} (h : w.ownsRow B e size v n xs) (k : Nat) (u : Value) (hY : Y < B) : (w.setCell ⟨Y, k, none⟩ u).ownsRow B e size v n xs :=
 Mem.zc9 h (fun g hg => heap_setCell_other _ _ _ _ (by have := (World.ownsRow.lt h g hg).1; show g ≠ Y; omega))
theorem Cl.call {w W W' : World} {V Y : Array Value} (h : Cl w W V Y) (b : Below W.heap.size W W') : Cl w W' V Y := ⟨h.bel.trans (b.mono h.bel.size), h.v.call b, h.u.call b, h.y.call b⟩
theorem Cl.grown {w W W' : World} {V Y : Array Value} {r : Option Nat} (h : Cl w W V Y) (g : W.grownBy W' r) (hr : ∀ b, r = some b → w.heap.size + 2 < b) : Cl w W' V Y :=
 ⟨h.bel.grown g h.bel.size (fun q hq => by have := hr q hq; omega), h.v.grown g (fun e => by have := hr _ e.symm; omega), h.u.grown g (fun e => by have := hr _ e.symm; omega), h.y.grown g (fun e => by have := hr _ e.symm; omega)⟩
theorem Cl.put {w W : World} {V Y : Array Value} (h : Cl w W V Y) (k : Nat) (v : Value) : Cl w (W.setCell ⟨w.heap.size + 2, k, none⟩ v) V (Y.setIfInBounds k v) :=
 ⟨h.bel.setCell (by show w.heap.size ≤ w.heap.size + 2; omega) _, h.v.far _ _ (by show w.heap.size ≠ w.heap.size + 2; omega), h.u.far _ _ (by show w.heap.size + 1 ≠ w.heap.size + 2; omega), h.y.put k v⟩
set_option linter.unusedSimpArgs false in
set_option maxRecDepth 100000 in
set_option maxHeartbeats 4000000 in
theorem clean_any (s : Pl.Sp) (w : World) (hN : s.N.length ≤ 12) (hml : s.M.length ≤ 1048576) (hhl : s.H.length ≤ 1048576) (hv : Mem.zc3 w s) :
  Calls Tryz.prog 51 #[.agg s.cs] w fun e w' => Cleaned w' (w.heap.size + 3) s.ma s.mc s.M s.ha s.hc s.H s.next (s.N.filter (fun x => !decide (Pl.held s.M s.H x.d = 0))) e ∧ Below w.heap.size w w' := by
 obtain ⟨i0, hi0, hz0, hz1, hz2⟩ := info_parts infoZ8
 have HHD := hide (fun d W (b : Below w.heap.size w W) => zd9 s d W hml hhl (Mem.zc7 hv.zh b) (Mem.zc6 hv.hands b))
 have HI := hide hv.zf9
 clear hv
 obtain ⟨ia, ic, N, ma, mc, M, ha, hc, H, next⟩ := s
 simp only at HHD HI hN hml hhl ⊢
 unfold Pl.Sp.cs at HHD ⊢
 simp only at HHD ⊢
 obtain ⟨f, hf⟩ : ∃ f : Pl.Ns → Bool, f = fun x => !decide (Pl.held M H x.d = 0) := ⟨_, rfl⟩
 rw [← hf]
 have HF := hide hf
 clear hf
 obtain ⟨cl, hcl⟩ : ∃ cl : Nat → List Pl.Ns, cl = fun k => (N.take k).filter f := ⟨_, rfl⟩
 have HEND : Hid (cl N.length = N.filter f) := hide (by rw [hcl]; simp)
 have HZ : Hid (cl 0 = []) := hide (by rw [hcl]; simp)
 have HY : Hid (∀ k t, N[k]? = some t → f t = true → cl (k + 1) = cl k ++ [t]) := hide (fun k t h h2 => by rw [hcl]; simp only; rw [List.take_add_one, h, List.filter_append]; simp [h2])
 have HNo : Hid (∀ k t, N[k]? = some t → f t = false → cl (k + 1) = cl k) := hide (fun k t h h2 => by rw [hcl]; simp only; rw [List.take_add_one, h, List.filter_append]; simp [h2])
 have HLE : Hid (∀ k, (cl k).length ≤ 12) := hide (fun k => by rw [hcl]; exact Nat.le_trans (List.length_filter_le _ _) (by rw [List.length_take]; omega))
 clear hcl
 have C0 : Hid (Cl w (((w.alloc (.cells #[.slice ia N.length ic, .slice ma M.length mc, .slice ha H.length hc, .int .i64 next] 32)).alloc (.cells #[.slice none 0 0, .slice none 0 0, .slice none 0 0, .int .i64 0] 32)).alloc (.cells #[.slice none 0 0, .slice ma M.length mc, .slice ha H.length hc, .int .i64 next] 32)) #[.slice ia N.length ic, .slice ma M.length mc, .slice ha H.length hc, .int .i64 next] #[.slice none 0 0, .slice ma M.length mc, .slice ha H.length hc, .int .i64 next]) := hide ⟨(((Below.refl _ _).alloc (Nat.le_refl _) _).alloc (by simp) _).alloc (by simp; omega) _, ((Mem.Blk.new w _ _).alloc _).alloc _, Mem.zn4 w _ _ _, Mem.zk0 w _ _ _⟩
 have hs0 : (((w.alloc (.cells #[.slice ia N.length ic, .slice ma M.length mc, .slice ha H.length hc, .int .i64 next] 32)).alloc (.cells #[.slice none 0 0, .slice none 0 0, .slice none 0 0, .int .i64 0] 32)).alloc (.cells #[.slice none 0 0, .slice ma M.length mc, .slice ha H.length hc, .int .i64 next] 32)).heap.size = w.heap.size + 3 := by simp
 have A0 := hide ((Mem.Blk.new w #[.slice ia N.length ic, .slice ma M.length mc, .slice ha H.length hc, .int .i64 next] 32).alloc (.cells #[.slice none 0 0, .slice none 0 0, .slice none 0 0, .int .i64 0] 32))
 have a0 := (za A0).cell 1
 have a1 := (za A0).cell 2
 have a2 := (za A0).cell 3
 simp only [kGs] at a0 a1 a2
 have Z0 : Hid (World.ownsRow (((w.alloc (.cells #[.slice ia N.length ic, .slice ma M.length mc, .slice ha H.length hc, .int .i64 next] 32)).alloc (.cells #[.slice none 0 0, .slice none 0 0, .slice none 0 0, .int .i64 0] 32)).alloc (.cells #[.slice none 0 0, .slice ma M.length mc, .slice ha H.length hc, .int .i64 next] 32)) (w.heap.size + 3) 103 2 (.slice none 0 0) 0 (Pl.zd5 [])) := hide ⟨rfl, .inl ⟨rfl, rfl⟩⟩
 go_enter Tryz.func51, Tryz.ntmps51
 go_wp2
 generalize ((w.alloc (.cells #[.slice ia N.length ic, .slice ma M.length mc, .slice ha H.length hc, .int .i64 next] 32)).alloc (.cells #[.slice none 0 0, .slice none 0 0, .slice none 0 0, .int .i64 0] 32)).alloc (.cells #[.slice none 0 0, .slice ma M.length mc, .slice ha H.length hc, .int .i64 next] 32) = wA at C0 Z0 hs0 ⊢
 clear a0 a1 a2 A0
 go_loopw [4] (fun i wr => ∃ (k : Nat) (a : Option Addr) (c : Nat), k ≤ N.length ∧ i = .int .i64 (k : Int) ∧ Hid (Cl w wr #[.slice ia N.length ic, .slice ma M.length mc, .slice ha H.length hc, .int .i64 next] #[.slice a (cl k).length c, .slice ma M.length mc, .slice ha H.length hc, .int .i64 next]) ∧ Hid (wr.ownsRow (w.heap.size + 3) 103 2 (.slice a (cl k).length c) (cl k).length (Pl.zd5 (cl k))) ∧ w.heap.size + 3 ≤ wr.heap.size) (fun i _ => N.length - (intOf i).toNat)
 case atStart => exact ⟨0, none, 0, Nat.zero_le _, rfl, by rw [za HZ]; exact C0, by rw [za HZ]; exact Z0, by omega⟩
 case round =>
  obtain ⟨k, a, c, hk, rfl, HC, HO, hS⟩ := hrel
  clear C0 Z0 hs0
  have v0 := (za HC).v.cell 0
  simp only [kGs] at v0
  by_cases hlt : k < N.length
  ·obtain ⟨t, ht⟩ : ∃ n, N[k]? = some n := ⟨_, List.getElem?_eq_getElem hlt⟩
   have bw := (za HC).bel
   obtain ⟨⟨g, o, rfl, hg, q0, q1⟩, -⟩ := (za HI) k t ht
   have u1 : (k : Int) < (N.length : Int) := by omega
   have u3 : (0 : Int) ≤ (k : Int) := by omega
   have MK : Hid (∀ W', Below wr.heap.size wr W' → (Below wr.heap.size wr W' ∧ W'.cell? ⟨w.heap.size, 0, none⟩ = some (.slice (some ⟨g, o, none⟩) N.length ic) ∧ W'.cell? ⟨w.heap.size, 1, none⟩ = some (.slice ma M.length mc) ∧ W'.cell? ⟨w.heap.size, 2, none⟩ = some (.slice ha H.length hc) ∧ W'.cell? ⟨w.heap.size, 3, none⟩ = some (.int .i64 next) ∧ W'.cell? ⟨g, o + k * 2, none⟩ = some (.int .i64 t.d) ∧ W'.cell? ⟨g, o + k * 2 + 1, none⟩ = some (.slice t.a t.Is.length t.cap))) := fun W' b => by
    have v := (za HC).v.call b
    have b2 := bw.trans (b.mono bw.size)
    exact ⟨b, v.cell 0, v.cell 1, v.cell 2, v.cell 3, (b2.cell (p := ⟨g, _, none⟩) hg).trans q0, (b2.cell (p := ⟨g, _, none⟩) hg).trans q1⟩
   have HQ := hide (And.intro q0 q1)
   have HD := hide (fun W (b : Below wr.heap.size wr W) => za HHD t.d W (bw.trans (b.mono bw.size)))
   have HT := hide ht
   have hft : f t = !decide (Pl.held M H t.d = 0) := by rw [za HF]
   have HFT := hide hft
   have hpos : 0 ≤ Pl.held M H t.d := by unfold Pl.held; omega
   generalize Pl.held M H t.d = R at HD HFT hpos
   clear ht hft q0 q1
   go_upto_region 5 with fail
   clear v0
   go_wp2_with fail
   refine wp_region_held_drew (S := fun W' => Below wr.heap.size wr W' ∧ W'.cell? ⟨w.heap.size, 0, none⟩ = some (.slice (some ⟨g, o, none⟩) N.length ic) ∧ W'.cell? ⟨w.heap.size, 1, none⟩ = some (.slice ma M.length mc) ∧ W'.cell? ⟨w.heap.size, 2, none⟩ = some (.slice ha H.length hc) ∧ W'.cell? ⟨w.heap.size, 3, none⟩ = some (.int .i64 next) ∧ W'.cell? ⟨g, o + k * 2, none⟩ = some (.int .i64 t.d) ∧ W'.cell? ⟨g, o + k * 2 + 1, none⟩ = some (.slice t.a t.Is.length t.cap)) (by kernel_rfl) ?_ (fun hHeld => ?_)
   ·exact za MK _ ((Below.refl _ _).trans ⟨rfl, rfl, rfl, Nat.le_refl _, fun _ _ => rfl⟩)
   generalize wr.drew = D0 at hHeld ⊢
   refine tka (i := 0) rfl ?_
   try simp only [Act.put, kBs]
   refine tka (i := 1) rfl ?_
   try simp only [Act.put, kBs]
   refine tka (i := 2) rfl ?_
   try simp only [Act.put, kBs]
   refine tka (i := 3) rfl ?_
   try simp only [Act.put, kBs]
   refine tka (i := 4) rfl ?_
   try simp only [Act.put, kBs]
   refine tka (i := 5) rfl ?_
   try simp only [Act.put, kBs]
   refine tka (i := 6) rfl ?_
   try simp only [Act.put, kBs]
   refine wpAnyH_ready (rs := [7]) (by kernel_rfl) (by simp) ?_
   refine AllReadyH.cons rfl (fun K hK => ?_) AllReadyH.nil
   go_simp
   refine (za HD _ hHeld.1).mono ?_
   rintro e W ⟨rfl, bX⟩
   refine hK.out _ _ ?_ (fun hHeld => ?_)
   ·exact za MK _ (hHeld.1.trans (bX.mono hHeld.1.size))
   clear hK K bX
   try simp only [Act.put, kBs]
   have hb0 : decide (0 < R) = !decide (R = 0) := by by_cases h : R = 0 <;> simp [h] <;> omega
   have hbb := hide (hb0.trans (za HFT).symm)
   clear hb0
   refine tka (i := 8) rfl ?_
   try simp only [Act.put, kBs]
   generalize decide (0 < R) = bb at hbb ⊢
   refine wpAnyH_done (by kernel_rfl) ?_ _
   have bW := hHeld.1
   clear hHeld MK HD
   have HC2 := hide ((za HC).call bW)
   have HO2 := hide (Mem.ze8 (za HO) bW)
   have hS2 : w.heap.size + 3 ≤ W.heap.size := by have := bW.size; omega
   clear HC HO bW hS HFT hpos
   cases bb
   ·have HCe := hide (za HNo k t (za HT) (za hbb).symm)
    clear hbb
    go_wp2
    go_roundw
    case rel => exact ⟨k + 1, a, c, by omega, by go_num, by rw [za HCe]; exact HC2, by rw [za HCe]; exact HO2, hS2⟩
    case measure => simp [intOf]; omega
   ·have HCe := hide (za HY k t (za HT) (za hbb).symm)
    have hl12 := za HLE k
    clear hbb
    have MK : Hid (∀ W', Below w.heap.size w W' → Mem.Blk W' w.heap.size #[.slice (some ⟨g, o, none⟩) N.length ic, .slice ma M.length mc, .slice ha H.length hc, .int .i64 next] 32 → (W'.cell? ⟨w.heap.size, 0, none⟩ = some (.slice (some ⟨g, o, none⟩) N.length ic) ∧ W'.cell? ⟨g, o + k * 2, none⟩ = some (.int .i64 t.d) ∧ W'.cell? ⟨g, o + k * 2 + 1, none⟩ = some (.slice t.a t.Is.length t.cap))) := fun W' b v => ⟨v.cell 0, (b.cell (p := ⟨g, _, none⟩) hg).trans (za HQ).1, (b.cell (p := ⟨g, _, none⟩) hg).trans (za HQ).2⟩
    go_upto_region 6 with fail
    go_wp2_with fail
    have HC3 := hide ((za HC2).call (W' := W.drew) ⟨rfl, rfl, rfl, Nat.le_refl _, fun _ _ => rfl⟩)
    have HO3 := hide (Mem.ze8 (w' := W.drew) (za HO2) ⟨rfl, rfl, rfl, Nat.le_refl _, fun _ _ => rfl⟩)
    have hS3 : w.heap.size + 3 ≤ W.drew.heap.size := hS2
    refine wp_region_held_drew (S := fun W' => W'.cell? ⟨w.heap.size, 0, none⟩ = some (.slice (some ⟨g, o, none⟩) N.length ic) ∧ W'.cell? ⟨g, o + k * 2, none⟩ = some (.int .i64 t.d) ∧ W'.cell? ⟨g, o + k * 2 + 1, none⟩ = some (.slice t.a t.Is.length t.cap)) (by kernel_rfl) ?_ (fun hHeld => ?_)
    ·exact za MK _ (za HC3).bel (za HC3).v
    generalize W.drew = D0 at hHeld HC3 HO3 hS3 ⊢
    clear HC2 HO2 hS2
    refine tka (i := 0) rfl ?_
    try simp only [Act.put, kBs]
    refine tka (i := 2) rfl ?_
    try simp only [Act.put, kBs]
    refine tka (i := 3) rfl ?_
    try simp only [Act.put, kBs]
    refine tka (i := 4) rfl ?_
    try simp only [Act.put, kBs]
    refine tka (i := 5) rfl ?_
    try simp only [Act.put, kBs]
    refine tka (i := 6) rfl ?_
    try simp only [Act.put, kBs]
    apply meet6 (F := fun W X => F6 D0.heap.size D0 W #[.int .i64 t.d, .slice t.a t.Is.length t.cap] X)
    ·intro hEnd
     have bA : Below D0.heap.size D0 (D0.alloc (.cells #[.int .i64 t.d, .slice t.a t.Is.length t.cap] 103)) := (Below.refl _ _).alloc (Nat.le_refl _) _
     have hFh := (⟨bA, Mem.Blk.new _ _ _, Nat.le_refl _⟩ : F6 D0.heap.size D0 (D0.alloc (.cells #[.int .i64 t.d, .slice t.a t.Is.length t.cap] 103)) #[.int .i64 t.d, .slice t.a t.Is.length t.cap] D0.heap.size)
     have hC4 := (za HC3).call bA
     refine wpAnyH_ready (rs := [1, 7]) (by kernel_rfl) (by simp) ?_
     refine AllReadyH.cons rfl (fun K hK => ?_) (AllReadyH.cons rfl (fun K hK => ?_) (AllReadyH.nil))
     ·have y0 := (za HC3).y.cell 0
      simp only [kGs] at y0
      go_simp
      refine hK.out _ _ ?_ (fun hHeld => ?_)
      ·exact hHeld
      clear hK K y0
      try simp only [Act.put, kBs]
      refine wpAnyH_ready (rs := [7]) (by kernel_rfl) (by simp) ?_
      refine AllReadyH.cons rfl (fun K hK => ?_) (AllReadyH.nil)
      go_simp
      refine hK.out _ _ ?_ (fun hHeld => ?_)
      ·exact za MK _ hC4.bel hC4.v
      clear hK K
      try simp only [Act.put, kBs]
      have hF := hFh
      generalize D0.alloc (.cells #[.int .i64 t.d, .slice t.a t.Is.length t.cap] 103) = D9 at hF hHeld ⊢
      generalize hX9 : D0.heap.size = X9 at hF ⊢
      exact hEnd _ _ (by rw [hX9]; exact hF)
     ·go_simp
      refine hK.out _ _ ?_ (fun hHeld => ?_)
      ·exact za MK _ hC4.bel hC4.v
      clear hK K
      try simp only [Act.put, kBs]
      refine wpAnyH_ready (rs := [1]) (by kernel_rfl) (by simp) ?_
      refine AllReadyH.cons rfl (fun K hK => ?_) (AllReadyH.nil)
      have y0 := hC4.y.cell 0
      simp only [kGs] at y0
      go_simp
      refine hK.out _ _ ?_ (fun hHeld => ?_)
      ·exact za MK _ hC4.bel hC4.v
      clear hK K y0
      try simp only [Act.put, kBs]
      have hF := hFh
      generalize D0.alloc (.cells #[.int .i64 t.d, .slice t.a t.Is.length t.cap] 103) = D9 at hF hHeld ⊢
      generalize hX9 : D0.heap.size = X9 at hF ⊢
      exact hEnd _ _ (by rw [hX9]; exact hF)
    intro W1 X hF
    have hC4 := (za HC3).call hF.bel
    have hHeld := za MK _ hC4.bel hC4.v
    have hO4 := Mem.ze8 (za HO3) hF.bel
    have x0 := hF.blk.cell 0
    have x1 := hF.blk.cell 1
    simp only [kGs] at x0 x1
    refine wpAnyH_ready (rs := [8]) (by kernel_rfl) (by simp) ?_
    refine AllReadyH.cons rfl (fun K hK => ?_) AllReadyH.nil
    refine Mem.za1 rfl _ _ 28 rfl (w.heap.size + 3) 103 i0 _ 2 32 Tryz.underlying28 hi0 hz0 hz1 hz2 rfl (by decide) (.slice a (cl k).length c) (cl k).length (Pl.zd5 (cl k)) rfl hO4 (some ⟨X, 0, none⟩) 1 1 [.int .i64 t.d, .slice t.a t.Is.length t.cap] rfl rfl (.inl ⟨_, rfl, fun j u hj => ?_⟩) (by simp [Value.oneCell']) (by unfold maxLen; omega) (by omega) (by have := hF.bel.size; omega) ?_
    ·match j, hj with
     | 0, hj => cases hj; exact x0
     | 1, hj => cases hj; exact x1
     | j + 2, hj => simp at hj
    intro v' wB ownB grB farB
    obtain ⟨a', c', rfl⟩ := Mem.za4 ownB
    have hlo := fun b hb => (World.ownsRow.lt hO4 b hb).1
    have hC5 := hC4.grown grB (fun b hb => by have := hlo b hb; omega)
    refine hK.out _ _ ?_ (fun hHeld => ?_)
    ·exact za MK _ hC5.bel hC5.v
    clear hK K
    try simp only [Act.put, kBs]
    refine tka (i := 9) rfl ?_
    try simp only [Act.put, kBs]
    have d0 := hC5.y.cell 0
    have f0 := hC5.y.fr 0
    simp only [kGs] at d0
    refine wpAnyH_ready (rs := [10]) (by kernel_rfl) (by simp) ?_
    refine AllReadyH.cons rfl (fun K hK => ?_) AllReadyH.nil
    go_simp
    have HC6 := hide (hC5.put 0 (.slice a' ((cl k).length + 1) c'))
    have HO6 : Hid (World.ownsRow (wB.setCell ⟨w.heap.size + 2, 0, none⟩ (.slice a' ((cl k).length + 1) c')) (w.heap.size + 3) 103 2 (.slice a' (cl (k + 1)).length c') (cl (k + 1)).length (Pl.zd5 (cl (k + 1)))) := hide (zd4 (by rw [za HCe, List.length_append, List.length_singleton, Pl.ya9]; exact ownB) 0 _ (by omega))
    have hS6 : w.heap.size + 3 ≤ (wB.setCell ⟨w.heap.size + 2, 0, none⟩ (.slice a' ((cl k).length + 1) c')).heap.size := by rw [World.size_setCell]; have := grB.size; have := hF.bel.size; omega
    refine hK.out _ _ ?_ (fun hHeld => ?_)
    ·exact za MK _ (za HC6).bel (za HC6).v
    clear hK K d0 f0 ownB grB farB hlo hC5 x0 x1 hO4 hC4 hF MK HC3 HO3
    try simp only [Act.put, kBs]
    refine wpAnyH_done (by kernel_rfl) ?_ _
    clear hHeld
    have HLN : Hid ((cl (k + 1)).length = (cl k).length + 1) := hide (by rw [za HCe, List.length_append, List.length_singleton])
    go_wp2
    go_roundw
    case rel => exact ⟨k + 1, a', c', by omega, by go_num, by rw [za HLN]; exact HC6, HO6, hS6⟩
    case measure => simp [intOf]; omega
  ·have hke : k = N.length := by omega
   have u1 : ¬ (k : Int) < (N.length : Int) := by omega
   subst hke
   have c0 := (za HC).y.cell 0
   have c1 := (za HC).y.cell 1
   have c2 := (za HC).y.cell 2
   have c3 := (za HC).y.cell 3
   have d0 := (za HC).u.cell 0
   have d1 := (za HC).u.cell 1
   have d2 := (za HC).u.cell 2
   have d3 := (za HC).u.cell 3
   have f0 := (za HC).u.fr 0
   have f1 := (za HC).u.fr 1
   have f2 := (za HC).u.fr 2
   have f3 := (za HC).u.fr 3
   simp only [kGs] at c0 c1 c2 c3 d0 d1 d2 d3
   have bw := hide (za HC).bel
   have HO1 := hide (zd4 (zd4 (zd4 (zd4 (za HO) (Y := w.heap.size + 1) 0 (.slice a (cl N.length).length c) (by omega)) (Y := w.heap.size + 1) 1 (.slice ma M.length mc) (by omega)) (Y := w.heap.size + 1) 2 (.slice ha H.length hc) (by omega)) (Y := w.heap.size + 1) 3 (.int .i64 next) (by omega))
   have hb1 := hide (((((za bw).setCell (p := ⟨w.heap.size + 1, 0, none⟩) (by show w.heap.size ≤ w.heap.size + 1; omega) (.slice a (cl N.length).length c)).setCell (p := ⟨w.heap.size + 1, 1, none⟩) (by show w.heap.size ≤ w.heap.size + 1; omega) (.slice ma M.length mc)).setCell (p := ⟨w.heap.size + 1, 2, none⟩) (by show w.heap.size ≤ w.heap.size + 1; omega) (.slice ha H.length hc)).setCell (p := ⟨w.heap.size + 1, 3, none⟩) (by show w.heap.size ≤ w.heap.size + 1; omega) (.int .i64 next))
   clear HO HHD HI HC
   rw [za HEND] at c0 HO1 hb1
   go_wp2
   refine bodyPost_ret (v := .agg #[.slice a (N.filter f).length c, .slice ma M.length mc, .slice ha H.length hc, .int .i64 next]) (by simp [results, Tryz.results51, go_sem, d0, d1, d2, d3]) rfl ⟨⟨a, c, rfl, za HO1⟩, za hb1⟩
end WSp
end Go.Proofs.YtonffldjbmednaaGreatDoor

namespace Go.Proofs.YtonffldjbmednaaGreatDoor
open Go.RowKit
namespace Pl
theorem cells3_drop {α : Type} {cs : α → List Value} (h3 : ∀ y, (cs y).length = 3) : ∀ (L : List α) (i : Nat), (cells3 cs L).drop (i * 3) = cells3 cs (L.drop i) := by
 intro L
 induction L with
 | nil => intro i; simp [cells3]
 | cons y L ih =>
  intro i
  cases i with
  | zero => simp
  | succ i => rw [zf4, List.drop_succ_cons, ← ih i, show (i + 1) * 3 = (cs y).length + i * 3 by rw [h3]; omega, List.drop_length_add_append]
end Pl
namespace Mem
theorem take_cells {α : Type} {T : TypeId} {cs : α → List Value} {w : World} {B g n cap : Nat} {L : List α} (h3 : ∀ y, (cs y).length = 3) (h : own3 T cs w B (.slice (some ⟨g, 0, none⟩) n cap) L) (k : Nat) : ∀ j u, (Pl.cells3 cs (L.take k))[j]? = some u → w.cell? ((⟨g, 0, none⟩ : Addr).add j) = some u := fun j u hj => by
 rw [← Pl.zz7 h3] at hj
 have hl := (List.getElem?_eq_some_iff.1 hj).1
 rw [List.length_take] at hl
 rw [List.getElem?_take_of_lt (by omega)] at hj
 exact World.ownsRow.cells h (g := g) rfl j u hj
theorem drop_cells {α : Type} {T : TypeId} {cs : α → List Value} {w : World} {B g n cap : Nat} {L : List α} (h3 : ∀ y, (cs y).length = 3) (h : own3 T cs w B (.slice (some ⟨g, 0, none⟩) n cap) L) (k : Nat) {p : Addr} (hp : k < L.length → p = ⟨g, k * 3, none⟩) : ∀ j u, (Pl.cells3 cs (L.drop k))[j]? = some u → w.cell? (p.add j) = some u := fun j u hj => by
 have hl := (List.getElem?_eq_some_iff.1 hj).1
 rw [Pl.za6 h3, List.length_drop] at hl
 rw [hp (by omega)]
 rw [← Pl.cells3_drop h3, List.getElem?_drop] at hj
 have := World.ownsRow.cells h (g := g) rfl _ u hj
 rw [add_lit] at this
 rw [zn5]
 exact this
theorem slice_lo_any {P : Program} {dT E : TypeId} {s : Nat} (hu : P.underlying dT = some (.slice E)) (hz : ∀ w, (sizeOf E).run P w = .ok s w) (g n cap k : Nat) (hk : k ≤ n) (hc : n ≤ cap) :
  ∃ p c', (∀ wx, (Instr.slice dT (.slice (some ⟨g, 0, none⟩) n cap) (some (.int .i64 (k : Int))) none none).run P wx = .ok (.slice (some p) (n - k) c') wx) ∧ (k < n → p = ⟨g, k * s, none⟩) := by
 by_cases h : k < n
 ·exact ⟨⟨g, k * s, none⟩, cap - k, fun wx => slice_lo hu hz wx g n cap k h hc, fun _ => rfl⟩
 ·have ht : P.underlying dT = some (.slice (P.elem dT)) := by simp [Program.elem, hu]
  have he : P.elem dT = E := by simp [Program.elem, hu]
  refine ⟨if cap = k then ⟨g, 0, none⟩ else (⟨g, 0, none⟩ : Addr).add (k * s), cap - k, fun wx => ?_, fun h2 => absurd h2 h⟩
  have h1 := run_slice_l (P := P) wx dT (some ⟨g, 0, none⟩) n cap ht .i64 (k : Int) (by omega) (by omega)
  rw [h1, he, hz]
  by_cases e : cap = k <;> simp [sliced, Result.andThen, e]
end Mem
end Go.Proofs.YtonffldjbmednaaGreatDoor

