/- Several texts of one claim in one file: WViewI, WPlainN, WPlainP. -/
import Derived.Test.YtfdbokipgofcdaaGreatDoorG42
import Derived.Test.YtfdbokipgofcdaaGreatDoorG44
import Derived.Test.YtfdbokipgofcdaaGreatDoorG50
import Derived.Test.YtfdbokipgofcdaaGreatDoorPlainNX
import Derived.Test.YtfdbokipgofcdaaGreatDoorG00
import Derived.WalkKit
import Derived.Laws.IdiomStrings
import Derived.Test.YtfdbokipgofcdaaGreatDoorProg
import Derived.Below
import Derived.Maps.OwnSet
import Derived.WalkSpells
import Derived.Lib.OthersKept
import Derived.Laws.RangeAny
import Derived.Deep.Draws
import Derived.Deep.QuietTactic
import Derived.BigQuiet
import Derived.Deep.RegionHeld3
import Derived.Laws.AppendOwn
import Derived.Test.YtfdbokipgofcdaaGreatDoorG07
import Derived.Test.YtfdbokipgofcdaaGreatDoorG04
import Derived.Test.YtfdbokipgofcdaaGreatDoorG34
namespace Go.Proofs.YtfdbokipgofcdaaGreatDoor
open Go.RowKit Go.Maps
namespace zt9
set_option linter.unusedSimpArgs false in
set_option maxRecDepth 100000 in
set_option maxHeartbeats 1000000 in
theorem view_any (a : Option Addr) (cap : Nat) (Is : List Pl.It) (w : World) (hl : Is.length ≤ 1048576) (hcap : Is.length ≤ cap) (hv : Mem.za6 w a Is) (hok : ∀ x ∈ Is, x.t.L.length ≤ 1048576 ∧ ∀ n ∈ x.t.L, n.path.size ≤ 1048576 ∧ n.data.size ≤ 1048576) (x : Nat → Addr) (hE : WIs.Six w x) :
  Calls Tryz.prog 61 #[.slice a Is.length cap] w fun e w' => ∃ v, e = .returned (.agg #[v, .int .i64 (Pl.zg7 (Is.map Pl.It.r))]) ∧ Mem.ownN w' w.heap.size v (Pl.zh0 (Is.map Pl.It.r)) ∧ Below w.heap.size w w' := by
 have b0 : Below w.heap.size w (w.alloc (.cells #[.slice none 0 0, .int .i64 0] 42)) := (Below.refl _ _).alloc (Nat.le_refl _) _
 have V0 := Mem.Blk.new w #[.slice none 0 0, .int .i64 0] 42
 have hs0 : (w.alloc (.cells #[.slice none 0 0, .int .i64 0] 42)).heap.size = w.heap.size + 1 := by simp
 have hxl : (Is.map Pl.It.r).length = Is.length := List.length_map ..
 have hno := hide (zr9.zk8 a cap Is (w.alloc (.cells #[.slice none 0 0, .int .i64 0] 42)) hl hcap (Mem.zc1 hv b0) hok _ _ _ _ _ _ _ _ (six4 (hE.call b0)))
 have HE := hide (fun W (b : Below w.heap.size w W) => hE.call b)
 have HVL : Hid (400 < Is.length → Pl.zg7 (Is.map Pl.It.r) = 2 ∧ Pl.zh0 (Is.map Pl.It.r) = []) := fun h => Pl.yo8 (by omega)
 have HVB : Hid (¬ 400 < Is.length → Pl.nest (Pl.rowO (Is.map Pl.It.r)) = none → Pl.zg7 (Is.map Pl.It.r) = 1 ∧ Pl.zh0 (Is.map Pl.It.r) = []) := fun h1 h2 => Pl.view_bad (by omega) h2
 have HVN : Hid (∀ L k, Pl.nest (Pl.rowO (Is.map Pl.It.r)) = some (Pl.Fx.shape k) → (Pl.Fx.cons L k .nil).flat = Is.map Pl.It.r → Pl.zl7 L k = none → Pl.zg7 (Is.map Pl.It.r) = 9 ∧ Pl.zh0 (Is.map Pl.It.r) = []) := fun L k h1 h2 h3 => Pl.yp6 (Pl.zj3 h1) (Pl.zu8 h1 h2) h3
 have HVS : Hid (∀ L k V, Pl.nest (Pl.rowO (Is.map Pl.It.r)) = some (Pl.Fx.shape k) → (Pl.Fx.cons L k .nil).flat = Is.map Pl.It.r → Pl.zl7 L k = some V → Pl.zg7 (Is.map Pl.It.r) = 0 ∧ Pl.zh0 (Is.map Pl.It.r) = V) := fun L k V h1 h2 h3 => Pl.yq4 (Pl.zj3 h1) (Pl.zu8 h1 h2) h3
 have HSZ : Hid (∀ L k, Pl.nest (Pl.rowO (Is.map Pl.It.r)) = some (Pl.Fx.shape k) → (Pl.Fx.cons L k .nil).flat = Is.map Pl.It.r → k.sz ≤ 1000) := fun L k h1 h2 => by
  have h3 := Pl.zj3 h1
  have h4 := congrArg List.length h2
  rw [Pl.Fx.zk6, Pl.Fx.sz] at h4
  omega
 generalize Pl.zg7 (Is.map Pl.It.r) = C at HVL HVB HVN HVS ⊢
 generalize Pl.zh0 (Is.map Pl.It.r) = O at HVL HVB HVN HVS ⊢
 generalize Pl.nest (Pl.rowO (Is.map Pl.It.r)) = NN at hno HVB HVN HVS HSZ
 clear hv hok hE hxl
 go_enter Tryz.func61, Tryz.ntmps61
 go_wp2_with fail
 generalize w.alloc (.cells #[.slice none 0 0, .int .i64 0] 42) = w2 at b0 V0 hs0 hno ⊢
 refine (za hno).mono ?_
 rintro e w1 ⟨hN, b1⟩
 have bw1 := b0.trans (b1.mono b0.size)
 have V1 := V0.call b1
 have hs1 := b1.size
 clear hno b0 V0
 rcases hN with ⟨L, k, q, a1, cap1, hNN, rfl, ⟨-, hqm⟩, ⟨hko, hfl⟩, hlay⟩ | ⟨hNN, r, y, rfl, hwhy⟩
 rotate_left
 ·have V2 := V1.alloc (.cells #[.map none, .int .i64 0, .slice none 0 0] 74)
  have bw2 := bw1.alloc bw1.size (.cells #[.map none, .int .i64 0, .slice none 0 0] 74)
  rcases hwhy with ⟨h4, rfl, rfl⟩ | ⟨h4, rfl, rfl⟩
  ·obtain ⟨rfl, rfl⟩ := za HVL h4
   have hcd := hide (WIs.code0 x _ (za HE _ bw2))
   clear V1 bw1 HVL HVB HVN HVS HSZ hNN
   go_wp2_with fail
   refine (za hcd).mono ?_
   rintro e w3 ⟨rfl, hw3⟩
   subst w3
   have HB := hide bw2
   have d0 := V2.cell 0
   have d1 := V2.cell 1
   have f0 := V2.fr 0
   have f1 := V2.fr 1
   simp only [kGs] at d0 d1
   clear hcd V2 bw2
   go_wp2
   refine bodyPost_ret (v := .agg #[.slice none 0 0, .int .i64 2]) (by simp [results, Tryz.results61, go_sem, d0, d1]) rfl ⟨_, rfl, Mem.zd2 _ _, ?_⟩
   first | exact ((za HB).setCell (Nat.le_refl _) _).setCell (Nat.le_refl _) _ | exact (za HB).setCell (Nat.le_refl _) _
  ·obtain ⟨rfl, rfl⟩ := za HVB (by omega) hNN
   have hcd := hide (WIs.code1 x _ (za HE _ bw2))
   clear V1 bw1 HVL HVB HVN HVS HSZ hNN
   go_wp2_with fail
   refine (za hcd).mono ?_
   rintro e w3 ⟨rfl, hw3⟩
   subst w3
   have HB := hide bw2
   have d0 := V2.cell 0
   have d1 := V2.cell 1
   have f0 := V2.fr 0
   have f1 := V2.fr 1
   simp only [kGs] at d0 d1
   clear hcd V2 bw2
   go_wp2
   refine bodyPost_ret (v := .agg #[.slice none 0 0, .int .i64 1]) (by simp [results, Tryz.results61, go_sem, d0, d1]) rfl ⟨_, rfl, Mem.zd2 _ _, ?_⟩
   first | exact ((za HB).setCell (Nat.le_refl _) _).setCell (Nat.le_refl _) _ | exact (za HB).setCell (Nat.le_refl _) _
 have V2 := V1.alloc (.cells #[.map (some q), .int .i64 (k.len : Int), .slice a1 k.len cap1] 74)
 have bw2 := bw1.alloc bw1.size (.cells #[.map (some q), .int .i64 (k.len : Int), .slice a1 k.len cap1] 74)
 have bA : Below w1.heap.size w1 (w1.alloc (.cells #[.map (some q), .int .i64 (k.len : Int), .slice a1 k.len cap1] 74)) := (Below.refl _ _).alloc (Nat.le_refl _) _
 have X2 := Mem.Blk.new w1 #[.map (some q), .int .i64 (k.len : Int), .slice a1 k.len cap1] 74
 have x0 := X2.cell 0
 have x1 := X2.cell 1
 have x2 := X2.cell 2
 simp only [kGs] at x0 x1 x2
 have hlf := hide (WAsLeaf.leaf_as x 1000 (Nat.le_refl _) _ k L q (k.len : Int) _ _ (za HSZ L k hNN hfl) hko (hqm.call bA) (Mem.zt5 hlay bA) (za HE _ bw2))
 have HVT := hide (fun V (h : Pl.zl7 L k = some V) => Pl.view_ok hko h)
 have HN2 := hide (fun h => za HVN L k hNN hfl h)
 have HS2 := hide (fun V h => za HVS L k V hNN hfl h)
 clear hqm hko hfl hlay bA X2 V1 bw1 HVL HVB HVN HVS HSZ hNN
 go_wp2_with fail
 generalize w1.alloc (.cells #[.map (some q), .int .i64 (k.len : Int), .slice a1 k.len cap1] 74) = w4 at V2 bw2 hlf x0 x1 x2 ⊢
 refine (za hlf).mono ?_
 rintro e w5 ⟨hX, b5⟩
 have bw5 := bw2.trans (b5.mono bw2.size)
 have V5 := V2.call b5
 clear hlf x0 x1 x2
 rcases hX with ⟨V, q5, m5, hV, rfl, hm5⟩ | ⟨hV, rfl⟩
 ·obtain ⟨rfl, rfl⟩ := za HS2 V hV
  have V6 := V5.alloc (.cells #[.map (some q5), .int .i64 m5] 71)
  have bw6 := bw5.alloc bw5.size (.cells #[.map (some q5), .int .i64 m5] 71)
  have X6 := Mem.Blk.new w5 #[.map (some q5), .int .i64 m5] 71
  have x0 := X6.cell 0
  simp only [kGs] at x0
  have hri := hide (rise_tree q5 O (w5.alloc (.cells #[.map (some q5), .int .i64 m5] 71)) (za HVT _ hV) (hm5.call ((Below.refl _ _).alloc (Nat.le_refl _) _)))
  clear V2 V5 bw2 bw5 b5 HVT HN2 HS2 hV hm5 X6
  go_wp2_with fail
  generalize w5.alloc (.cells #[.map (some q5), .int .i64 m5] 71) = w6 at V6 bw6 hri x0 ⊢
  refine (za hri).mono ?_
  rintro e w7 ⟨v7, rfl, own7, b7⟩
  obtain ⟨a7, c7, rfl⟩ := Mem.za1 own7
  have hR := V6.lt
  have V7 := V6.call b7
  have OW := hide (Mem.zb4 (Mem.za7 (Mem.za7 own7 ⟨w.heap.size, 0, none⟩ (.slice a7 O.length c7) (by show w.heap.size < _; omega)) ⟨w.heap.size, 1, none⟩ (.int .i64 0) (by show w.heap.size < _; omega)) (show w.heap.size ≤ w6.heap.size by omega))
  have HB := hide (bw6.trans (b7.mono bw6.size))
  have d0 := V7.cell 0
  have d1 := V7.cell 1
  have f0 := V7.fr 0
  have f1 := V7.fr 1
  simp only [kGs] at d0 d1
  clear hri own7 b7 V6 V7 bw6 x0
  go_wp2
  refine bodyPost_ret (v := .agg #[.slice a7 O.length c7, .int .i64 0]) (by simp [results, Tryz.results61, go_sem, d0, d1]) rfl ⟨_, rfl, za OW, ?_⟩
  exact ((za HB).setCell (Nat.le_refl _) _).setCell (Nat.le_refl _) _
 ·obtain ⟨rfl, rfl⟩ := za HN2 hV
  have V2 := V5.alloc (.cells #[.map none, .int .i64 0] 71)
  have bw2 := bw5.alloc bw5.size (.cells #[.map none, .int .i64 0] 71)
  have hcd := hide (WIs.code5 x _ (za HE _ bw2))
  clear V5 bw5 b5 HVT HN2 HS2 hV
  go_wp2_with fail
  refine (za hcd).mono ?_
  rintro e w3 ⟨rfl, hw3⟩
  subst w3
  have HB := hide bw2
  have d0 := V2.cell 0
  have d1 := V2.cell 1
  have f0 := V2.fr 0
  have f1 := V2.fr 1
  simp only [kGs] at d0 d1
  clear hcd V2 bw2
  go_wp2
  refine bodyPost_ret (v := .agg #[.slice none 0 0, .int .i64 9]) (by simp [results, Tryz.results61, go_sem, d0, d1]) rfl ⟨_, rfl, Mem.zd2 _ _, ?_⟩
  first | exact ((za HB).setCell (Nat.le_refl _) _).setCell (Nat.le_refl _) _ | exact (za HB).setCell (Nat.le_refl _) _
end zt9
end Go.Proofs.YtfdbokipgofcdaaGreatDoor

namespace Go.Proofs.YtfdbokipgofcdaaGreatDoor
open Go.RowKit
namespace WPlainO
theorem zl3 : (Tryz.prog.info? 89).map (fun i => (i.zero, i.size, i.bytes)) = some (some (.agg #[.string ⟨#[]⟩, .int .i64 0, .string ⟨#[]⟩, .int .i64 0, .int .i64 0]), 5, 56) := by kernel_rfl
end WPlainO
end Go.Proofs.YtfdbokipgofcdaaGreatDoor

namespace Go.Proofs.YtfdbokipgofcdaaGreatDoor
open Go.RowKit
namespace WPlainO
set_option maxRecDepth 100000 in
set_option maxHeartbeats 1000000 in
theorem zg5 (a : Option Addr) (cap : Nat) (L : List Pl.Nd) (w : World) (hl : L.length ≤ 1048576) (hv : Mem.zc2 w a L) (hok : ∀ n ∈ L, n.path.size ≤ 1048576 ∧ n.data.size ≤ 1048576)
  (r1 r2 r3 : TypeId) (x1 x2 x3 : Value) (hE : ze7.Errs w r1 r2 r3 x1 x2 x3) :
  Calls Tryz.prog 62 #[.agg #[.slice a L.length cap]] w fun e w' => ∃ v, e = .returned (.agg #[v, .int .i64 (Pl.yc1 L)]) ∧ Mem.ownN w' w.heap.size v (Pl.plainO L) ∧ Below w.heap.size w w' := by
 obtain ⟨i0, hi, hz0, hz1, hz2⟩ := info_parts zl3
 have b0 : Below w.heap.size w ((w.alloc (.cells #[.slice a L.length cap] 36)).alloc (.cells #[.slice none 0 0, .int .i64 0] 42)) := ((Below.refl _ _).alloc (Nat.le_refl _) _).alloc (by simp) _
 have hr := hide (ze7.yd5 a cap L _ hl (Mem.za8 hv b0) hok r1 r2 r3 x1 x2 x3 (hE.call b0))
 have HV := hide hv
 have HO := hide hok
 have V1 := (Mem.Blk.new w #[.slice a L.length cap] 36).alloc (.cells #[.slice none 0 0, .int .i64 0] 42)
 have V2 : Mem.Blk ((w.alloc (.cells #[.slice a L.length cap] 36)).alloc (.cells #[.slice none 0 0, .int .i64 0] 42)) (w.heap.size + 1) #[.slice none 0 0, .int .i64 0] 42 := Mem.zh2 _ _ _
 have EO : Hid (Pl.za2 L = true → Pl.plainO L = Pl.ze9 L ∧ Pl.yc1 L = 0) := fun h => by simp [Pl.plainO, Pl.yc1, h]
 have EN : Hid (Pl.za2 L = false → Pl.plainO L = [] ∧ Pl.yc1 L = 1) := fun h => by simp [Pl.plainO, Pl.yc1, h]
 generalize Pl.plainO L = PO at EO EN ⊢
 generalize Pl.yc1 L = PC at EO EN ⊢
 generalize Pl.za2 L = R2 at EO EN hr
 clear hv hok hE
 cases R2
 ·obtain ⟨rfl, rfl⟩ := za EN rfl
  clear EO EN
  go_enter Tryz.func62, Tryz.ntmps62
  go_wp2_with fail
  refine (za hr).mono ?_
  rintro e w1 ⟨rfl, b1⟩
  have b2 := b0.trans (b1.mono b0.size)
  have V3 := V2.call b1
  have c0 := V3.cell 0
  have c1 := V3.cell 1
  have f0 := V3.fr 0
  have f1 := V3.fr 1
  simp only [kGs] at c0 c1
  clear hr b0 b1 V1 V2
  go_wp2
  refine bodyPost_ret (v := .agg #[.slice none 0 0, .int .i64 1]) (by simp [results, Tryz.results62, go_sem, c0, c1]) rfl ⟨_, rfl, Mem.zd2 _ _, ?_⟩
  exact (b2.setCell (by show w.heap.size ≤ w.heap.size + 1; omega) _).setCell (by show w.heap.size ≤ w.heap.size + 1; omega) _
 obtain ⟨rfl, rfl⟩ := za EO rfl
 clear EO EN
 go_enter Tryz.func62, Tryz.ntmps62
 go_wp2_with fail
 refine (za hr).mono ?_
 rintro e w1 ⟨rfl, b1⟩
 have b2 := b0.trans (b1.mono b0.size)
 have V3 := V2.call b1
 have hs : w.heap.size + 1 < w1.heap.size := V3.lt
 have c0 := ((V1.call b1).alloc (.cells #[] 89)).cell 0
 simp only [kA0, kA1] at c0
 have OW0 : Hid (Mem.ownN (w1.alloc (.cells #[] 89)) (w.heap.size + 2) (.slice (some ⟨w1.heap.size, 0, none⟩) 0 0) (Pl.ze9 (L.take 0))) :=
  ⟨rfl, .inr ⟨w1.heap.size, 0, #[], rfl, by omega, heap_alloc_new _ _, Nat.le_refl _, Nat.zero_le _, rfl, rfl⟩⟩
 have b3 := b2.alloc b2.size (.cells #[] 89)
 have V4 := hide (V3.alloc (.cells #[] 89))
 clear hr b0 b1 V1 V2 V3 b2
 go_wp2
 go_loopw [3, 14] (fun v i wr => ∃ k : Nat, k ≤ L.length ∧ i = .int .i64 (k : Int) ∧ Below w.heap.size w wr ∧ Hid (Mem.Blk wr (w.heap.size + 1) #[.slice none 0 0, .int .i64 0] 42) ∧ Hid (Mem.ownN wr (w.heap.size + 2) v (Pl.ze9 (L.take k)))) (fun _ i _ => L.length - (intOf i).toNat)
 case atStart => exact ⟨0, Nat.zero_le _, rfl, b3, V4, OW0⟩
 case round =>
  obtain ⟨k, hk, rfl, hbel, HB, HOWN⟩ := hrel
  clear c0 b3 V4 OW0
  by_cases hlt : k < L.length
  ·obtain ⟨n, hn⟩ : ∃ n, L[k]? = some n := ⟨_, List.getElem?_eq_getElem hlt⟩
   obtain ⟨b, o, rfl, hb, q0, q1, q2, q3, q4⟩ := (Mem.za8 (za HV) hbel) k n hn
   have y1 : (k : Int) < (L.length : Int) := by omega
   have y3 : (0 : Int) ≤ (k : Int) := by omega
   have hno := za HO n (List.mem_of_getElem? hn)
   by_cases hk0 : n.kind = 0
   ·have t2 : (n.kind == 0) = true := by simpa using hk0
    have OW2 := hide (show Mem.ownN (wr.alloc (.cells #[.string n.path, .int .i64 0, .string n.data, .int .i64 n.time, .int .i64 n.mark] 89)) (w.heap.size + 2) u3 (Pl.ze9 (L.take (k + 1))) by rw [Pl.plainL_out hn hk0]; exact Mem.zd1 (za HOWN) _)
    have HB2 := hide ((za HB).alloc (.cells #[.string n.path, .int .i64 0, .string n.data, .int .i64 n.time, .int .i64 n.mark] 89))
    have bb := hbel.alloc hbel.size (.cells #[.string n.path, .int .i64 0, .string n.data, .int .i64 n.time, .int .i64 n.mark] 89)
    clear hn HB HOWN hbel
    go_wp2
    go_roundw
    case rel => exact ⟨k + 1, by omega, by go_num, bb, HB2, OW2⟩
    case measure => simp [intOf]; omega
   ·have t2 : (n.kind == 0) = false := by simpa using hk0
    have HPL := hide (Pl.plainL_in hn hk0)
    have HLEN := hide (Pl.ym6 L k)
    have hc := hide (fun W => WCopied.any n.bare W hno.1 hno.2)
    clear hn hk0
    obtain ⟨p, k0, d, t, m⟩ := n
    simp only [Pl.Nd.bare, Pl.Nd.val] at q0 q1 q2 q3 q4 t2 HPL hc
    have OWD := Mem.zd1 (za HOWN) (.cells #[.string p, .int .i64 k0, .string d, .int .i64 t, .int .i64 0] 89)
    have BLD := hide ((za HB).alloc (.cells #[.string p, .int .i64 k0, .string d, .int .i64 t, .int .i64 0] 89))
    have bW := hbel.alloc hbel.size (.cells #[.string p, .int .i64 k0, .string d, .int .i64 t, .int .i64 0] 89)
    clear HB HOWN hbel
    go_wp2_with fail
    refine (za hc _).mono ?_
    rintro e wC ⟨rfl, bC⟩
    have OWC := Mem.zl1 OWD bC
    have BLC := hide ((za BLD).call bC)
    have bX := bW.trans (bC.mono bW.size)
    have HLT := hide (Mem.zc3 OWC)
    have HSZ := hide (za BLC).lt
    clear OWD BLD bW bC hc q0 q1 q2 q3 q4
    go_wp2_with (at_builtin; refine wpList_append_own _ rfl _ _ 34 rfl (w.heap.size + 2) 89 i0 _ 5 56 Tryz.underlying34 hi hz0 hz1 hz2 rfl (by decide) _ _ _ rfl (Mem.zd1 OWC _) ⟨wC.heap.size, 0, none⟩ 1 1 [.string p, .int .i64 k0, .string d, .int .i64 t, .int .i64 0] rfl rfl (Mem.zl4 wC ⟨p, k0, d, t, 0⟩ _) (Mem.zk2 ⟨p, k0, d, t, 0⟩) (by have := za HLEN; unfold maxLen; omega) (by have := za HLEN; omega) (by have := za HSZ; simp; omega) ?_)
    intro v'' wZ hownZ hgrow _
    have OWZ := hide (show Mem.ownN wZ (w.heap.size + 2) v'' (Pl.ze9 (L.take (k + 1))) by rw [za HPL]; exact Mem.zi4 (L := Pl.ze9 (L.take k)) (n := ⟨p, k0, d, t, 0⟩) hownZ)
    have BLZ := hide (((za BLC).alloc (.cells #[.string p, .int .i64 k0, .string d, .int .i64 t, .int .i64 0] 89)).grown hgrow (fun e => by have := (za HLT _ e.symm).1; omega))
    have bZ := (bX.alloc bX.size (.cells #[.string p, .int .i64 k0, .string d, .int .i64 t, .int .i64 0] 89)).grown hgrow (by have := bX.size; simp; omega) (fun q hq => by have := (za HLT q hq).1; omega)
    clear hownZ hgrow BLC OWC bX
    go_wp2
    go_roundw
    case rel => exact ⟨k + 1, by omega, by go_num, bZ, BLZ, OWZ⟩
    case measure => simp [intOf]; omega
  ·obtain rfl : k = L.length := by omega
   rw [List.take_length] at HOWN
   obtain ⟨a', cap', hv'⟩ := Mem.za1 (za HOWN)
   subst hv'
   have d0 := (za HB).cell 0
   have d1 := (za HB).cell 1
   have f0 := (za HB).fr 0
   have f1 := (za HB).fr 1
   simp only [kGs] at d0 d1
   go_wp2
   refine bodyPost_ret (v := .agg #[.slice a' (Pl.ze9 L).length cap', .int .i64 0]) (by simp [results, Tryz.results62, go_sem, d0, d1]) rfl ⟨_, rfl, ?_, ?_⟩
   ·exact Mem.zb4 (Mem.za7 (Mem.za7 (za HOWN) _ _ (by show w.heap.size + 1 < w.heap.size + 2; omega)) _ _ (by show w.heap.size + 1 < w.heap.size + 2; omega)) (by omega)
   ·exact (hbel.setCell (by show w.heap.size ≤ w.heap.size + 1; omega) _).setCell (by show w.heap.size ≤ w.heap.size + 1; omega) _
end WPlainO
end Go.Proofs.YtfdbokipgofcdaaGreatDoor

