/- Several texts of one claim in one file: WView5, WNestS. -/
import Derived.Test.YtcogaghibpajjaaGreatDoorG35
import Derived.Test.YtcogaghibpajjaaGreatDoorG44
import Derived.Test.YtcogaghibpajjaaGreatDoorG47
import Derived.Test.YtcogaghibpajjaaGreatDoorG07
import Derived.Test.YtcogaghibpajjaaGreatDoorG19
import Derived.Test.YtcogaghibpajjaaGreatDoorG01
namespace Go.Proofs.YtcogaghibpajjaaGreatDoor
open Go.RowKit
namespace Mem
theorem row_off {w w' : World} {B e size n : Nat} {v : Value} {xs : List Value} {r : Option Nat} (h : w.ownsRow B e size v n xs) (hg : w.grownBy w' r) (hr : ∀ g, v.ownBlock = some g → some g ≠ r) : w'.ownsRow B e size v n xs := by
 refine ⟨h.1, ?_⟩
 rcases h.2 with h0 | ⟨g, cap, cur, rfl, hb, hh, rest⟩
 ·exact .inl h0
 ·exact .inr ⟨g, cap, cur, rfl, hb, (hg.block g (Array.getElem?_eq_some_iff.1 hh).1 (hr g rfl)).trans hh, rest⟩
structure To (W : World) (S : Nat) (v : Value) (Ts : List Pl.Tr) : Prop where
 row : W.ownsRow S 27 1 v Ts.length (Ts.map Pl.Tr.val)
 each : ∀ t ∈ Ts, ownN W 0 t.val t.L ∧ ∀ g, t.val.ownBlock = some g → v.ownBlock ≠ some g
theorem To.call {W W' : World} {S : Nat} {v : Value} {Ts : List Pl.Tr} (h : To W S v Ts) (b : Below W.heap.size W W') : To W' S v Ts :=
 ⟨zg5 h.row b, fun t ht => ⟨zn3 (h.each t ht).1 b, (h.each t ht).2⟩⟩
theorem To.app {W W' : World} {S : Nat} {v v' : Value} {Ts : List Pl.Tr} {t : Pl.Tr} (h : To W S v Ts) (own' : W'.ownsRow S 27 1 v' (Ts.length + 1) (Ts.map Pl.Tr.val ++ [t.val])) (gr : W.grownBy W' v.ownBlock) (far : ∀ g, v'.ownBlock = some g → v.ownBlock = some g ∨ W.heap.size ≤ g)
  (ht : ownN W 0 t.val t.L) (hne : ∀ g, t.val.ownBlock = some g → v.ownBlock ≠ some g) : To W' S v' (Ts ++ [t]) := by
 have key : ∀ u : Pl.Tr, ownN W 0 u.val u.L → (∀ g, u.val.ownBlock = some g → v.ownBlock ≠ some g) → ownN W' 0 u.val u.L ∧ ∀ g, u.val.ownBlock = some g → v'.ownBlock ≠ some g := fun u (hu : ownN W 0 (Pl.Tr.val u) u.L) hn =>
  ⟨row_off hu gr (fun g hg e => hn g hg e.symm), fun g hg e => by
   rcases far g e with h1 | h1
   ·exact hn g hg h1
   ·have := (zc6 hu g hg).2; omega⟩
 refine ⟨by simpa using own', fun u hu => ?_⟩
 rcases List.mem_append.1 hu with h1 | h1
 ·exact key u (h.each u h1).1 (h.each u h1).2
 ·simp at h1; subst h1; exact key _ ht hne
theorem To.shape {W : World} {S : Nat} {v : Value} {Ts : List Pl.Tr} (h : To W S v Ts) : ∃ a cap, v = .slice a Ts.length cap ∧ zs2 W a Ts := by
 obtain ⟨a, cap, rfl⟩ := za0 h.row
 refine ⟨a, cap, rfl, fun i t hi => ⟨?_, (zh6 (h.each t (List.mem_of_getElem? hi)).1).2⟩⟩
 rcases h.row.2 with ⟨h1, h0⟩ | ⟨g, c2, cur, e, hb, hg, rest⟩
 ·have : Ts = [] := List.eq_nil_of_length_eq_zero h0
  subst this; cases hi
 ·cases e
  refine ⟨g, 0, rfl, (Array.getElem?_eq_some_iff.1 hg).1, ?_⟩
  have := World.ownsRow.cells h.row (g := g) rfl i t.val (by rw [List.getElem?_map, hi]; rfl)
  rw [add_lit] at this
  rw [Nat.zero_add]
  exact this
end Mem
namespace zp4
theorem infoT : (Tryz.prog.info? 27).map (fun i => (i.zero, i.size, i.bytes)) = some (some (.agg #[.slice none 0 0]), 1, 24) := by kernel_rfl
def Seen5 (w w' : World) (VV : Option (List Pl.Nd)) (nx : Nat) (e : Ending) : Prop :=
 ∃ a cap c V, e = .returned (.tuple #[.agg #[.slice a V.length cap, .int .i64 c], .int .i64 (nx : Int)]) ∧ Mem.ownN w' w.heap.size (.slice a V.length cap) V ∧ ((VV = some V ∧ c = 0) ∨ (VV = none ∧ V = [] ∧ c = 9))
def Codes (K F : Pl.Fx) (Ls : List (List Pl.Nd)) (c : Int) : Prop := (c = 0 ∧ Pl.zr7 K F Ls) ∨ (c = 9 ∧ Pl.zf8 K = none)
theorem codes_step {K m k : Pl.Fx} {L V : List Pl.Nd} {Ls : List (List Pl.Nd)} {c c1 : Int} (h : Codes K (.cons L k m) Ls c) (hv : (Pl.ze5 L k = some V ∧ c1 = 0) ∨ (Pl.ze5 L k = none ∧ V = [] ∧ c1 = 9)) : Codes K m (Ls ++ [V]) (if c = 0 then c1 else c) := by
 rcases h with ⟨rfl, h⟩ | ⟨rfl, h⟩
 ·rw [if_pos rfl]
  rcases hv with ⟨hv, rfl⟩ | ⟨hv, -, rfl⟩
  ·exact .inl ⟨rfl, Pl.yg9 h hv⟩
  ·exact .inr ⟨rfl, Pl.yf3 h hv⟩
 ·rw [if_neg (by decide)]
  exact .inr ⟨rfl, h⟩
set_option linter.unusedSimpArgs false in
set_option maxRecDepth 100000 in
set_option maxHeartbeats 2000000 in
theorem view5_any (a : Option Addr) (cap : Nat) (Is : List Pl.It) (hl : Is.length ≤ 12) (hR : ∀ x ∈ Is, Mem.okR x.t.a x.t.cap x.t.L) (n : Nat) : ∀ (L : List Pl.Nd) (K : Pl.Fx) (p : Nat) (w : World), K.sz < n → (Pl.Fx.cons L K .nil).okX → (∃ R, (Is.drop p).map Pl.It.r = (Pl.Fx.cons L K .nil).flat ++ R) → Mem.zd4 w a Is →
  Calls Tryz.prog 22 #[.slice a Is.length cap, .int .i64 (p : Int)] w fun e w' => Seen5 w w' (Pl.ze5 L K) (p + 1 + K.sz) e ∧ Below w.heap.size w w' := by
 obtain ⟨i0, hi, hz0, hz1, hz2⟩ := info_parts infoT
 induction n with
 | zero => intro L K p w h; omega
 | succ n ih =>
  intro L K p w hs hx hfl hv
  obtain ⟨R0, hfl⟩ := hfl
  obtain ⟨x, hxp, hxm, hxL, hrest⟩ := drop_cons hfl
  rw [Pl.Fx.flat, List.nil_append] at hrest
  subst hxL
  have hplt : p < Is.length := (List.getElem?_eq_some_iff.1 hxp).1
  obtain ⟨⟨b, o, rfl, hb, q0, q0'⟩, q1⟩ := hv p x hxp
  have hL40 : x.t.L.length ≤ 40 := by have h := hx.1; simp only [Pl.za2, Bool.and_eq_true, decide_eq_true_eq] at h; exact h.1
  have b0 : Below w.heap.size w ((w.alloc (.cells #[.slice none 0 0, .int .i64 0] 29)).alloc (.cells #[.int .i64 (K.len : Int), .slice x.t.a x.t.L.length x.t.cap] 33)) := ((Below.refl _ _).alloc (Nat.le_refl _) _).alloc (by simp) _
  have R1 := (Mem.Blk.new w #[.slice none 0 0, .int .i64 0] 29).alloc (.cells #[.int .i64 (K.len : Int), .slice x.t.a x.t.L.length x.t.cap] 33)
  have X1 : Mem.Blk ((w.alloc (.cells #[.slice none 0 0, .int .i64 0] 29)).alloc (.cells #[.int .i64 (K.len : Int), .slice x.t.a x.t.L.length x.t.cap] 33)) (w.heap.size + 1) #[.int .i64 (K.len : Int), .slice x.t.a x.t.L.length x.t.cap] 33 := Mem.zg9 _ _ _
  have hs0 : ((w.alloc (.cells #[.slice none 0 0, .int .i64 0] 29)).alloc (.cells #[.int .i64 (K.len : Int), .slice x.t.a x.t.L.length x.t.cap] 33)).heap.size = w.heap.size + 2 := by simp
  have bz : Below w.heap.size w (w.alloc (.cells #[.slice none 0 0, .int .i64 0] 29)) := (Below.refl _ _).alloc (Nat.le_refl _) _
  have c0 := (bz.cell (p := ⟨b, _, none⟩) hb).trans q0
  have c1 := (bz.cell (p := ⟨b, _, none⟩) hb).trans q0'
  rw [hxm] at c0
  simp only [Pl.Tr.val] at c1
  have t1 : (p : Int) < (Is.length : Int) := by omega
  have t3 : (0 : Int) ≤ (p : Int) := by omega
  have HV := hide (fun W (bb : Below w.heap.size w W) => Mem.zh8 hv bb)
  have hxk := X1.cell 0
  have hxt := X1.cell 1
  simp only [kA0, kA1, kA2] at hxk hxt
  by_cases hK0 : K.len = 0
  ·have eK := Pl.Fx.yb7 hK0
   subst eK
   have hcp := hide (WCopyV.copy_any x.t.a x.t.cap x.t.L _ (by omega) (hR x (List.mem_of_getElem? hxp)) (Mem.za4 q1 b0))
   have e0 : ((Pl.Fx.nil.len : Nat) : Int) = 0 := rfl
   rw [e0] at b0 R1 X1 hs0 c0 hxk hxt hcp
   have EV : Hid (Pl.ze5 x.t.L .nil = some x.t.L) := Pl.view_leaf rfl
   clear q0 q0' q1 hv hR HV hrest hfl hxp hxm bz ih hi hz0 hz1 hz2 hx X1
   go_enter Tryz.func22, Tryz.ntmps22
   go_wp2_with fail
   generalize (w.alloc (.cells #[.slice none 0 0, .int .i64 0] 29)).alloc (.cells #[.int .i64 0, .slice x.t.a x.t.L.length x.t.cap] 33) = w2 at b0 R1 hs0 hxk hxt hcp ⊢
   refine (za hcp).mono ?_
   rintro e w3 ⟨v3, rfl, own3, b3⟩
   obtain ⟨a3, c3, rfl⟩ := Mem.za0 own3
   have R3 := R1.call b3
   have b4 := b0.trans (b3.mono b0.size)
   have OW := hide (Mem.zb0 (Mem.za5 (Mem.za5 own3 ⟨w.heap.size, 0, none⟩ (.slice a3 x.t.L.length c3) (by show w.heap.size < _; omega)) ⟨w.heap.size, 1, none⟩ (.int .i64 0) (by show w.heap.size < _; omega)) (show w.heap.size ≤ w2.heap.size by omega))
   have HB := hide b4
   have d0 := R3.cell 0
   have d1 := R3.cell 1
   have f0 := R3.fr 0
   have f1 := R3.fr 1
   simp only [kA0, kA1, kA2] at d0 d1
   clear hcp own3 b3 b4 R1 R3 b0 hxk hxt c0 c1
   go_wp2
   refine bodyPost_ret (v := .tuple #[.agg #[.slice a3 x.t.L.length c3, .int .i64 0], .int .i64 ((p + 1 : Nat) : Int)]) (by simp [results, Tryz.results22, go_sem, d0, d1]) rfl ⟨⟨a3, c3, 0, x.t.L, rfl, za OW, Or.inl ⟨za EV, rfl⟩⟩, ?_⟩
   exact ((za HB).setCell (Nat.le_refl _) _).setCell (Nat.le_refl _) _
  have hKz : ¬ (K.len : Int) = 0 := by omega
  have hKz2 : ((K.len : Int) == 0) = false := by simpa using hKz
  have hK4 : K.len ≤ 4 := hx.2.2.1
  have HKX := hide hx.2.2.2.1
  have HI := hide ih
  have HFL : Hid (∃ R, (Is.drop (p + 1)).map Pl.It.r = K.flat ++ R) := ⟨_, hrest⟩
  have EV : Hid (Pl.ze5 x.t.L K = Pl.zr1 (Pl.zf8 K)) := Pl.zy7 hK0
  have b5 : Below w.heap.size w (((w.alloc (.cells #[.slice none 0 0, .int .i64 0] 29)).alloc (.cells #[.int .i64 (K.len : Int), .slice x.t.a x.t.L.length x.t.cap] 33)).alloc (.cells #[] 27)) := b0.alloc (by omega) _
  have R5 := hide (R1.alloc (.cells #[] 27))
  have T5 : Hid (Mem.To (((w.alloc (.cells #[.slice none 0 0, .int .i64 0] 29)).alloc (.cells #[.int .i64 (K.len : Int), .slice x.t.a x.t.L.length x.t.cap] 33)).alloc (.cells #[] 27)) (w.heap.size + 2) (.slice (some ⟨w.heap.size + 1 + 1, 0, none⟩) 0 0) []) := by
   refine ⟨⟨rfl, .inr ⟨w.heap.size + 1 + 1, 0, #[], rfl, by omega, ?_, Nat.le_refl _, Nat.zero_le _, rfl, rfl⟩⟩, fun t ht => by cases ht⟩
   have h := heap_alloc_new ((w.alloc (.cells #[.slice none 0 0, .int .i64 0] 29)).alloc (.cells #[.int .i64 (K.len : Int), .slice x.t.a x.t.L.length x.t.cap] 33)) (.cells #[] 27)
   rw [hs0] at h
   exact h
  have CD0 : Hid (Codes K K (([] : List Pl.Tr).map (·.L)) 0) := .inl ⟨rfl, Pl.yf0 K⟩
  have hxk5 := (X1.alloc (.cells #[] 27)).cell 0
  simp only [kA0, kA1, kA2] at hxk5
  have hsz0 : K.sz ≤ n := by omega
  clear q0 q0' q1 hv hR hrest hfl hxp hxm bz ih hx X1 R1 b0 hxt
  go_enter Tryz.func22, Tryz.ntmps22
  go_wp2
  go_loopw [1, 7, 8, 9] (fun at' c v kk wr => ∃ (j : Nat) (cc : Int) (Ts : List Pl.Tr) (F : Pl.Fx), at' = .int .i64 (j : Int) ∧ c = .int .i64 cc ∧ kk = .int .i64 (F.len : Int) ∧ j + F.sz = p + 1 + K.sz ∧ F.sz ≤ n ∧ Ts.length + F.len = K.len ∧ Below w.heap.size w wr ∧ Hid (w.heap.size + 2 ≤ wr.heap.size) ∧ Hid (Mem.To wr (w.heap.size + 2) v Ts) ∧ Hid (Codes K F (Ts.map (·.L)) cc) ∧ Hid F.okX ∧ Hid (∃ R, (Is.drop j).map Pl.It.r = F.flat ++ R) ∧ Hid (Mem.Blk wr w.heap.size #[.slice none 0 0, .int .i64 0] 29)) (fun _ _ _ kk _ => (intOf kk).toNat)
  case atStart => exact ⟨p + 1, 0, [], K, by go_num, rfl, rfl, rfl, hsz0, by simp, b5, hide (by simp), T5, CD0, HKX, HFL, R5⟩
  case round =>
   obtain ⟨j, cc, Ts, F, rfl, rfl, rfl, hj, hsz, hTl, hbel, HWR, TT, CD, FX, FL, RB⟩ := hrel
   clear T5 CD0 R5 b5 hxk5
   cases F with
   | nil =>
    simp only [Pl.Fx.len, Pl.Fx.sz] at hj hTl
    have hjj : j = p + 1 + K.sz := by omega
    subst hjj
    have hcs : cc = 0 ∨ cc = 9 := (za CD).imp (fun h => h.1) (fun h => h.1)
    obtain ⟨va, vc, hve, hvt⟩ := (za TT).shape
    subst hve
    rcases hcs with rfl | rfl
    ·have hvs : Pl.zf8 K = some (Ts.map (·.L)) := by
      rcases za CD with ⟨-, h⟩ | ⟨h, -⟩
      ·exact Pl.seenF_end h
      ·cases h
     obtain ⟨hLl, htr⟩ := Pl.views_ok K _ (za HKX) hvs
     have hov := hide (WWalk4.over4_any Ts va vc wr hvt (by omega) (by omega) htr)
     have E9 : Hid (40 < (Pl.allO (Ts.map (·.L))).length → Pl.ze5 x.t.L K = none) := fun h => by rw [za EV, hvs]; exact if_neg (by omega)
     have E0 : Hid (¬ 40 < (Pl.allO (Ts.map (·.L))).length → Pl.ze5 x.t.L K = some (Pl.allO (Ts.map (·.L)))) := fun h => by rw [za EV, hvs]; exact if_pos (by omega)
     generalize Pl.allO (Ts.map (·.L)) = O at hov E9 E0
     have hRl := (za RB).lt
     clear hvs htr TT CD FX FL hvt EV HI HV HFL
     by_cases h40 : 40 < O.length
     ·have E := hide (za E9 h40)
      rw [if_pos h40, if_pos h40] at hov
      clear E9 E0
      go_wp2_with fail
      refine (za hov).mono ?_
      rintro e w3 ⟨v3, rfl, own3, b3⟩
      obtain ⟨a3, c3, rfl⟩ := Mem.za0 own3
      have R3 := (za RB).call b3
      have b4 := hbel.trans (b3.mono hbel.size)
      have OW := hide (Mem.zb0 (Mem.za5 (Mem.za5 own3 ⟨w.heap.size, 0, none⟩ (.slice a3 ([] : List Pl.Nd).length c3) (by show w.heap.size < _; omega)) ⟨w.heap.size, 1, none⟩ (.int .i64 9) (by show w.heap.size < _; omega)) (show w.heap.size ≤ wr.heap.size by omega))
      have HB := hide b4
      have d0 := R3.cell 0
      have d1 := R3.cell 1
      have f0 := R3.fr 0
      have f1 := R3.fr 1
      simp only [kA0, kA1, kA2] at d0 d1
      clear hov own3 b3 b4 R3 RB hbel
      go_wp2
      refine bodyPost_ret (v := .tuple #[.agg #[.slice a3 ([] : List Pl.Nd).length c3, .int .i64 9], .int .i64 ((p + 1 + K.sz : Nat) : Int)]) (by simp [results, Tryz.results22, go_sem, d0, d1]) rfl ⟨⟨a3, c3, 9, ([] : List Pl.Nd), rfl, za OW, Or.inr ⟨za E, rfl, rfl⟩⟩, ?_⟩
      exact ((za HB).setCell (Nat.le_refl _) _).setCell (Nat.le_refl _) _
     ·have E := hide (za E0 h40)
      rw [if_neg h40, if_neg h40] at hov
      clear E9 E0
      go_wp2_with fail
      refine (za hov).mono ?_
      rintro e w3 ⟨v3, rfl, own3, b3⟩
      obtain ⟨a3, c3, rfl⟩ := Mem.za0 own3
      have R3 := (za RB).call b3
      have b4 := hbel.trans (b3.mono hbel.size)
      have OW := hide (Mem.zb0 (Mem.za5 (Mem.za5 own3 ⟨w.heap.size, 0, none⟩ (.slice a3 O.length c3) (by show w.heap.size < _; omega)) ⟨w.heap.size, 1, none⟩ (.int .i64 0) (by show w.heap.size < _; omega)) (show w.heap.size ≤ wr.heap.size by omega))
      have HB := hide b4
      have d0 := R3.cell 0
      have d1 := R3.cell 1
      have f0 := R3.fr 0
      have f1 := R3.fr 1
      simp only [kA0, kA1, kA2] at d0 d1
      clear hov own3 b3 b4 R3 RB hbel
      go_wp2
      refine bodyPost_ret (v := .tuple #[.agg #[.slice a3 O.length c3, .int .i64 0], .int .i64 ((p + 1 + K.sz : Nat) : Int)]) (by simp [results, Tryz.results22, go_sem, d0, d1]) rfl ⟨⟨a3, c3, 0, O, rfl, za OW, Or.inl ⟨za E, rfl⟩⟩, ?_⟩
      exact ((za HB).setCell (Nat.le_refl _) _).setCell (Nat.le_refl _) _
    ·have E : Hid (Pl.ze5 x.t.L K = none) := hide (by
      rcases za CD with ⟨h, -⟩ | ⟨-, h⟩
      ·cases h
      ·rw [za EV, h]; rfl)
     have R3 := (za RB)
     have hil := hide (zk0.zh2 9 wr)
     clear TT CD FX FL hvt EV HI HV HFL
     go_wp2_with fail
     refine (za hil).mono ?_
     rintro e w3 ⟨rfl, b3⟩
     have OW := hide (Mem.zb8 ((w3.setCell ⟨w.heap.size, 0, none⟩ (.slice none 0 0)).setCell ⟨w.heap.size, 1, none⟩ (.int .i64 9)) w.heap.size)
     have HB := hide (hbel.trans (b3.mono hbel.size))
     have d0 := (R3.call b3).cell 0
     have d1 := (R3.call b3).cell 1
     have f0 := (R3.call b3).fr 0
     have f1 := (R3.call b3).fr 1
     simp only [kA0, kA1, kA2] at d0 d1
     clear R3 b3 RB hbel hil
     go_wp2
     refine bodyPost_ret (v := .tuple #[.agg #[.slice none 0 0, .int .i64 9], .int .i64 ((p + 1 + K.sz : Nat) : Int)]) (by simp [results, Tryz.results22, go_sem, d0, d1]) rfl ⟨⟨none, 0, 9, [], rfl, Mem.zb8 _ _, Or.inr ⟨za E, rfl, rfl⟩⟩, ?_⟩
     first | exact ((za HB).setCell (Nat.le_refl _) _).setCell (Nat.le_refl _) _ | exact (za HB).setCell (Nat.le_refl _) _
   | cons L1 k1 m1 =>
    simp only [Pl.Fx.len, Pl.Fx.sz] at hj hsz hTl
    obtain ⟨g1, g2, g3, g5, g6⟩ := za FX
    obtain ⟨R2, hfl2⟩ := za FL
    have hfl3 : ∃ R, (Is.drop j).map Pl.It.r = (Pl.Fx.cons L1 k1 .nil).flat ++ R := ⟨m1.flat ++ R2, by rw [hfl2]; simp [Pl.Fx.flat]⟩
    have hcall := hide (za HI L1 k1 j wr (by omega) ⟨g1, g2, g3, g5, trivial⟩ hfl3 (za HV _ hbel))
    obtain ⟨x2, hx2, -, -, hr2⟩ := drop_cons hfl2
    have FL2 : Hid (∃ R, (Is.drop (j + 1 + k1.sz)).map Pl.It.r = m1.flat ++ R) := ⟨R2, drop_more hr2⟩
    obtain ⟨f, hf⟩ : ∃ f, f = (Pl.Fx.cons L1 k1 m1).len := ⟨_, rfl⟩
    rw [← hf]
    have u1 : (0 : Int) < (f : Int) := by rw [hf]; simp only [Pl.Fx.len]; omega
    have HF : Hid (f = m1.len + 1) := hf
    have HWF : Hid (wrap64 ((f : Int) - 1) = (f : Int) - 1) := hide (by unfold wrap64; have h4 := hK4; have h5 : f = m1.len + 1 := hf; omega)
    have HJ : Hid (j + (k1.sz + m1.sz + 1) = p + 1 + K.sz) := hj
    clear hf hj
    have G6 := hide g6
    clear FX FL hfl2 hfl3 g1 g2 g5 g6 hr2 hx2 HFL
    go_wp2_with fail
    refine (za hcall).mono ?_
    rintro e wX ⟨⟨a1, cap1, c1', V1, rfl, own1, hV⟩, bX⟩
    have bw2 := hbel.trans (bX.mono hbel.size)
    have CD2 := hide (codes_step (za CD) hV)
    have hcs : cc = 0 ∨ cc = 9 := (za CD).imp (fun h => h.1) (fun h => h.1)
    have bA2 : Below wX.heap.size wX ((wX.alloc (.cells #[.slice a1 V1.length cap1, .int .i64 c1'] 29)).alloc (.cells #[.slice a1 V1.length cap1] 27)) := ((Below.refl _ _).alloc (Nat.le_refl _) _).alloc (by simp) _
    have bb2 := bX.trans (bA2.mono bX.size)
    have O2 := (za TT).call bb2
    have bw3 := bw2.trans (bA2.mono bw2.size)
    have M2 : Mem.ownN ((wX.alloc (.cells #[.slice a1 V1.length cap1, .int .i64 c1'] 29)).alloc (.cells #[.slice a1 V1.length cap1] 27)) 0 (Pl.Tr.val ⟨a1, cap1, V1⟩) V1 := Mem.zb0 (Mem.zn3 own1 bA2) (Nat.zero_le _)
    have NE2 := fun g (hg : (Pl.Tr.val ⟨a1, cap1, V1⟩).ownBlock = some g) => (Mem.zc6 own1 g hg).1
    have HLT := fun g hg => (World.ownsRow.lt (za TT).row g hg).2
    have HP := hide (fun v' w4 own gr far => O2.app (t := ⟨a1, cap1, V1⟩) (v' := v') (W' := w4) own gr far M2 (fun g hg e => by have h1 := NE2 g hg; have h2 := HLT g e; omega))
    have HQ := hide (fun w4 (h2 : ((wX.alloc (.cells #[.slice a1 V1.length cap1, .int .i64 c1'] 29)).alloc (.cells #[.slice a1 V1.length cap1] 27)).grownBy w4 _) => (⟨bw3.grown h2 bw3.size (fun k hk => by have := (World.ownsRow.lt O2.row k hk).1; omega), ((za RB).call bb2).grown h2 (fun e => by have := (World.ownsRow.lt O2.row _ e.symm).1; omega)⟩ : Below w.heap.size w w4 ∧ Mem.Blk w4 w.heap.size #[.slice none 0 0, .int .i64 0] 29))
    have HRO := hide O2.row
    have HSB : Hid (w.heap.size + 2 ≤ wX.heap.size) := hide (by have h3 := bX.size; have h4 := za HWR; omega)
    have hTs : Ts.length ≤ 4 := by omega
    have XC := (Mem.Blk.new wX #[.slice a1 V1.length cap1, .int .i64 c1'] 29)
    have y0 := XC.cell 0
    have y1 := XC.cell 1
    simp only [kA0, kA1, kA2] at y0 y1
    clear bA2 bb2 O2 M2 NE2 HLT own1 hV CD TT RB bX bw2 bw3 hcall XC hbel
    rcases hcs with rfl | rfl
    ·rw [if_pos rfl] at CD2
     go_wp2_with (at_builtin; refine Mem.za7 _ rfl _ _ 87 rfl (w.heap.size + 2) 27 i0 (.agg #[.slice none 0 0]) 1 24 Tryz.underlying87 hi hz0 hz1 hz2 rfl (by decide) _ _ _ rfl (za HRO) ⟨wX.heap.size + 1, 0, none⟩ 1 1 [.slice a1 V1.length cap1] rfl rfl (by have := Mem.ze6 (wX.alloc (.cells #[.slice a1 V1.length cap1, .int .i64 c1'] 29)) (.slice a1 V1.length cap1) 27; simpa using this) (fun u hu => by simp at hu; subst hu; rfl) (by unfold maxLen; omega) (by omega) (by have := za HSB; simp; omega) ?_)
     intro v' w4 own' hgrow hfar
     have T2 := hide (za HP v' w4 own' hgrow (by simpa using hfar))
     obtain ⟨bw4, R4⟩ := za HQ w4 hgrow
     have RB4 := hide R4
     have HW4 : Hid (w.heap.size + 2 ≤ w4.heap.size) := hide (by have h1 := hgrow.size; have h2 := za HSB; simp at h1; omega)
     have hTl2 : (Ts ++ [(⟨a1, cap1, V1⟩ : Pl.Tr)]).length + m1.len = K.len := by simp; omega
     have HTL2 := hide hTl2
     have CD3 : Hid (Codes K m1 ((Ts ++ [(⟨a1, cap1, V1⟩ : Pl.Tr)]).map (·.L)) c1') := hide (by rw [List.map_append]; exact za CD2)
     clear HP HQ HRO own' hgrow hfar R4 hTl2 CD2 y0 y1
     go_wp2
     go_roundw
     case rel => exact ⟨j + 1 + k1.sz, c1', Ts ++ [⟨a1, cap1, V1⟩], m1, by go_num, rfl, by have h := za HF; have hw := za HWF; first | go_num | (rw [hw]; congr 1; omega), by have h := za HJ; omega, by omega, za HTL2, bw4, HW4, T2, CD3, G6, FL2, RB4⟩
     case measure => (have h := za HF; have hw := za HWF; simp [intOf]; omega)
    ·rw [if_neg (by decide)] at CD2
     go_wp2_with (at_builtin; refine Mem.za7 _ rfl _ _ 87 rfl (w.heap.size + 2) 27 i0 (.agg #[.slice none 0 0]) 1 24 Tryz.underlying87 hi hz0 hz1 hz2 rfl (by decide) _ _ _ rfl (za HRO) ⟨wX.heap.size + 1, 0, none⟩ 1 1 [.slice a1 V1.length cap1] rfl rfl (by have := Mem.ze6 (wX.alloc (.cells #[.slice a1 V1.length cap1, .int .i64 c1'] 29)) (.slice a1 V1.length cap1) 27; simpa using this) (fun u hu => by simp at hu; subst hu; rfl) (by unfold maxLen; omega) (by omega) (by have := za HSB; simp; omega) ?_)
     intro v' w4 own' hgrow hfar
     have T2 := hide (za HP v' w4 own' hgrow (by simpa using hfar))
     obtain ⟨bw4, R4⟩ := za HQ w4 hgrow
     have RB4 := hide R4
     have HW4 : Hid (w.heap.size + 2 ≤ w4.heap.size) := hide (by have h1 := hgrow.size; have h2 := za HSB; simp at h1; omega)
     have hTl2 : (Ts ++ [(⟨a1, cap1, V1⟩ : Pl.Tr)]).length + m1.len = K.len := by simp; omega
     have HTL2 := hide hTl2
     have CD3 : Hid (Codes K m1 ((Ts ++ [(⟨a1, cap1, V1⟩ : Pl.Tr)]).map (·.L)) 9) := hide (by rw [List.map_append]; exact za CD2)
     clear HP HQ HRO own' hgrow hfar R4 hTl2 CD2 y0 y1
     go_wp2
     go_roundw
     case rel => exact ⟨j + 1 + k1.sz, 9, Ts ++ [⟨a1, cap1, V1⟩], m1, by go_num, rfl, by have h := za HF; have hw := za HWF; first | go_num | (rw [hw]; congr 1; omega), by have h := za HJ; omega, by omega, za HTL2, bw4, HW4, T2, CD3, G6, FL2, RB4⟩
     case measure => (have h := za HF; have hw := za HWF; simp [intOf]; omega)
end zp4
end Go.Proofs.YtcogaghibpajjaaGreatDoor

namespace Go.Proofs.YtcogaghibpajjaaGreatDoor
open Go.RowKit
namespace WNestS
set_option maxRecDepth 100000 in
theorem item_any (m : Int) (a : Option Addr) (cap : Nat) (L : List Pl.Nd) (w : World) (hl : L.length ≤ 1048576) (hv : Mem.za9 w a L) (hok : ∀ n ∈ L, n.path.size ≤ 1048576 ∧ n.data.size ≤ 1048576) :
  Calls Tryz.prog 45 #[.agg #[.int .i64 m, .slice a L.length cap]] w fun e w' => e = .returned (.bool (Pl.zh5 m L)) ∧ Below w.heap.size w w' := by
 have b0 : ∀ o, Below w.heap.size w (w.alloc o) := fun o => (Below.refl _ _).alloc (Nat.le_refl _) o
 have HB := hide b0
 by_cases h0 : m = 0
 ·subst h0
  rw [Pl.yg6]
  have hz := hide (fun W (b : Below w.heap.size w W) => zm4.zu9 a cap L W hl (Mem.za4 hv b) hok)
  clear hv hok b0
  go_enter Tryz.func45, Tryz.ntmps45
  go_wp2_with fail
  refine (za hz _ (za HB _)).mono ?_
  rintro e w1 ⟨rfl, b1⟩
  have bb := (za HB _).trans (b1.mono (za HB _).size)
  clear hz b1
  go_wp2
  go_ret
  exact ⟨rfl, bb⟩
 ·rw [Pl.yb6 h0]
  have hIS := hide (WNode.is_any m 1 4)
  generalize (decide ((1 : Int) ≤ m) && decide (m ≤ 4)) = V at hIS
  clear hv hok b0
  go_enter Tryz.func45, Tryz.ntmps45
  go_wp2_with fail
  refine (za hIS _).mono ?_
  rintro e w1 ⟨rfl, rfl⟩
  cases V
  ·go_wp2
   go_ret
   exact ⟨by simp, za HB _⟩
  ·by_cases h1 : L.length = 0
   ·have t1 : (L.length : Int) = 0 := by omega
    go_wp2
    go_ret
    exact ⟨by simp [h1], za HB _⟩
   ·have t1 : ¬ (L.length : Int) = 0 := by omega
    go_wp2
    go_ret
    exact ⟨by simp [h1], za HB _⟩
set_option linter.unusedSimpArgs false in
set_option maxRecDepth 100000 in
set_option maxHeartbeats 1000000 in
theorem end_any (a : Option Addr) (cap : Nat) (Is : List Pl.It) (hl : Is.length ≤ 12) (hok : ∀ x ∈ Is, x.t.L.length ≤ 1048576 ∧ ∀ n ∈ x.t.L, n.path.size ≤ 1048576 ∧ n.data.size ≤ 1048576) (q : Nat) :
  ∀ (deep p : Nat) (w : World), deep + q = 5 → p ≤ Is.length → Mem.zd4 w a Is →
  Calls Tryz.prog 25 #[.slice a Is.length cap, .int .i64 (p : Int), .int .i64 (deep : Int)] w fun e w' => e = .returned (.int .i64 (Pl.endI Is.length (Pl.ends 1 deep ((Pl.rowO (Is.map Pl.It.r)).drop p)))) ∧ Below w.heap.size w w' := by
 have hrl : (Pl.rowO (Is.map Pl.It.r)).length = Is.length := by rw [Pl.zp9, List.length_map]
 induction q with
 | zero =>
  intro deep p w hd hp hv
  rw [Pl.ends_deep deep _ (by omega)]
  simp only [Pl.endI]
  have t1 : (4 : Int) < (deep : Int) := by omega
  by_cases hlt : (Is.length : Int) ≤ (p : Int)
  ·go_enter Tryz.func25, Tryz.ntmps25
   go_wp2
   go_ret
   exact ⟨rfl, Below.refl _ _⟩
  ·go_enter Tryz.func25, Tryz.ntmps25
   go_wp2
   go_ret
   exact ⟨rfl, Below.refl _ _⟩
 | succ q ih =>
  intro deep p w hd hp hv
  by_cases hlt : (Is.length : Int) ≤ (p : Int)
  ·have e : (Pl.rowO (Is.map Pl.It.r)).drop p = [] := List.drop_eq_nil_of_le (by omega)
   rw [e, Pl.ends_nil]
   simp only [Pl.endI]
   go_enter Tryz.func25, Tryz.ntmps25
   go_wp2
   go_ret
   exact ⟨rfl, Below.refl _ _⟩
  have t1 : ¬ (4 : Int) < (deep : Int) := by omega
  have t2 : (0 : Int) ≤ (p : Int) := by omega
  have t3 : (p : Int) < (Is.length : Int) := by omega
  obtain ⟨x, hx⟩ : ∃ x, Is[p]? = some x := ⟨_, List.getElem?_eq_getElem (by omega)⟩
  obtain ⟨⟨b, o, rfl, hb, q0, q0'⟩, q1⟩ := hv p x hx
  have hz := hide (item_any x.m x.t.a x.t.cap x.t.L w (hok x (List.mem_of_getElem? hx)).1 q1 (hok x (List.mem_of_getElem? hx)).2)
  have hrow : (Pl.rowO (Is.map Pl.It.r)).drop p = Pl.zm9 (x.m, x.t.L) :: (Pl.rowO (Is.map Pl.It.r)).drop (p + 1) := Pl.rowO_at (by rw [List.getElem?_map, hx]; rfl)
  have c0 := q0
  have c1 := q0'
  simp only [Pl.Tr.val] at c1
  have HI := hide (fun (p' : Nat) (W : World) (hp' : p' ≤ Is.length) (bb : Below w.heap.size w W) => ih (deep + 1) p' W (by omega) hp' (Mem.zh8 hv bb))
  have HQ := hide q0
  have HR := hide hrl
  rw [hrow]
  generalize hLL : Pl.rowO (Is.map Pl.It.r) = LL at hrl hrow HI HR ⊢
  clear hLL hv hok ih hx q0' q1 hrow
  cases hib : Pl.zh5 x.m x.t.L
  ·rw [hib] at hz
   rw [Pl.itemO_no hib, Pl.ends_none]
   simp only [Pl.endI]
   clear HI hib q0
   go_enter Tryz.func25, Tryz.ntmps25
   go_wp2_with fail
   refine (za hz).mono ?_
   rintro e w1 ⟨rfl, b1⟩
   clear hz
   go_wp2
   go_ret
   exact ⟨rfl, b1⟩
  ·rw [hib] at hz
   obtain ⟨hm0, hm4⟩ := Pl.zy8 hib
   rw [Pl.itemO_yes hib, Pl.ends_one]
   obtain ⟨mm, hmm⟩ : ∃ mm : Nat, x.m = (mm : Int) := ⟨x.m.toNat, by omega⟩
   rw [hmm] at c0 hz HQ ⊢
   rw [Int.toNat_natCast]
   have hm5 : mm ≤ 4 := by omega
   clear hib hmm hm0 hm4 q0
   generalize hT : Pl.ends mm (deep + 1) (LL.drop (p + 1)) = T
   have HT := hide hT
   clear hT
   go_enter Tryz.func25, Tryz.ntmps25
   go_wp2_with fail
   refine (za hz).mono ?_
   rintro e w1 ⟨rfl, b1⟩
   have c2 := (b1.cell (p := ⟨b, _, none⟩) hb).trans (za HQ)
   clear hz c0 c1 HQ
   go_wp2
   go_loopw [1, 7] (fun v k wr => ∃ kk : Nat, k = .int .i64 (kk : Int) ∧ kk ≤ 4 ∧ Below w.heap.size w wr ∧ ((∃ p' : Nat, v = .int .i64 (p' : Int) ∧ p' ≤ Is.length ∧ Hid (Pl.ends kk (deep + 1) (LL.drop p') = T)) ∨ (v = .int .i64 (-1) ∧ Hid (T = none)))) (fun _ k _ => (intOf k).toNat)
   case atStart => exact ⟨mm, rfl, hm5, b1, .inl ⟨p + 1, by go_num, by omega, HT⟩⟩
   case round =>
    obtain ⟨kk, rfl, hk4, hbel, hcase⟩ := hrel
    rcases hcase with ⟨p', rfl, hp', HE⟩ | ⟨rfl, HE⟩
    ·have u0 : (0 : Int) ≤ (p' : Int) := by omega
     cases kk with
     | zero =>
      have hfin : Pl.endI Is.length T = (p' : Int) := by
       rw [← za HE, Pl.ends_zero _ _ (by omega), Pl.endI, List.length_drop]
       omega
      go_wp2
      go_ret
      exact ⟨by first | rfl | (rw [hfin]; rfl), hbel⟩
     | succ kk =>
      have u1 : (0 : Int) < ((kk + 1 : Nat) : Int) := by omega
      have hcall := hide (za HI p' wr hp' hbel)
      go_wp2_with fail
      simp only [show (deep : Int) + 1 = ((deep + 1 : Nat) : Int) by omega, show IntKind.i64.wrap ((deep + 1 : Nat) : Int) = ((deep + 1 : Nat) : Int) by rw [IntKind.wrap_i64]; omega]
      refine (za hcall).mono ?_
      rintro e w2 ⟨rfl, b2⟩
      have hb2 := hbel.trans (b2.mono hbel.size)
      have hst := za HE
      rw [Pl.ends_step] at hst
      cases hR : Pl.ends 1 (deep + 1) (LL.drop p') with
      | none =>
       rw [hR] at hst
       have HE2 : Hid (T = none) := hide (by rw [← hst]; rfl)
       simp only [Pl.endI]
       clear hst HE hR hcall b2
       go_wp2
       go_roundw
       case rel => exact ⟨kk, by go_num, by omega, hb2, .inr ⟨rfl, HE2⟩⟩
       case measure => simp [intOf]
      | some R =>
       rw [hR] at hst
       obtain ⟨p2, e2, hp2, hd2⟩ := Pl.ends_at (za HR) hp' hR
       rw [e2]
       have HE2 : Hid (Pl.ends kk (deep + 1) (LL.drop p2) = T) := hide (by rw [hd2, ← hst]; rfl)
       clear hst HE hR hcall b2 hd2 e2
       go_wp2
       go_roundw
       case rel => exact ⟨kk, by go_num, by omega, hb2, .inl ⟨p2, rfl, hp2, HE2⟩⟩
       case measure => simp [intOf]
    ·have hfin : Pl.endI Is.length T = -1 := by rw [za HE]; rfl
     by_cases hk0 : (0 : Int) < (kk : Int)
     ·go_wp2
      go_ret
      exact ⟨by first | rfl | (rw [hfin]; rfl), hbel⟩
     ·go_wp2
      go_ret
      exact ⟨by first | rfl | (rw [hfin]; rfl), hbel⟩
set_option maxRecDepth 100000 in
theorem zl6 (a : Option Addr) (cap : Nat) (Is : List Pl.It) (w : World) (hl : Is.length ≤ 1048576) (hv : Mem.zd4 w a Is) (hok : ∀ x ∈ Is, x.t.L.length ≤ 1048576 ∧ ∀ n ∈ x.t.L, n.path.size ≤ 1048576 ∧ n.data.size ≤ 1048576) :
  Calls Tryz.prog 11 #[.slice a Is.length cap] w fun e w' => e = .returned (.bool (Pl.nest (Pl.rowO (Is.map Pl.It.r))).isSome) ∧ Below w.heap.size w w' := by
 have hrl : (Pl.rowO (Is.map Pl.It.r)).length = Is.length := by rw [Pl.zp9, List.length_map]
 by_cases h12 : Is.length ≤ 12
 ·have t0 : (Is.length : Int) ≤ 12 := by omega
  have hz := hide (end_any a cap Is h12 hok 4 1 0 w rfl (Nat.zero_le _) hv)
  have hne := Pl.nest_ends (Pl.rowO (Is.map Pl.It.r)) (by omega)
  have hen : ∀ R, Pl.ends 1 1 ((Pl.rowO (Is.map Pl.It.r)).drop 0) = some R → R.length ≤ Is.length := fun R h => by have := (Pl.ends_len h).1; simp only [List.drop_zero] at this; omega
  rw [List.drop_zero] at hz hen
  generalize Pl.ends 1 1 (Pl.rowO (Is.map Pl.It.r)) = E at hz hne hen
  generalize (Pl.nest (Pl.rowO (Is.map Pl.It.r))).isSome = V at hne ⊢
  clear hv hok hrl
  have HN := hide hne
  have HEN := hide hen
  clear hne hen
  go_enter Tryz.func11, Tryz.ntmps11
  go_wp2_with fail
  refine (za hz).mono ?_
  rintro e w1 ⟨rfl, b1⟩
  clear hz
  by_cases hE : Pl.endI Is.length E = (Is.length : Int)
  ·have hV : V = true := (za HN).2 (by
    cases E with
    | none => simp [Pl.endI] at hE
    | some R => rw [Pl.endI] at hE; rw [List.eq_nil_of_length_eq_zero (by omega : R.length = 0)])
   go_wp2
   go_ret
   exact ⟨by rw [hV]; rfl, b1⟩
  ·have hV : V = false := by
    cases hV : V
    ·rfl
    ·exact absurd (by rw [(za HN).1 hV]; simp [Pl.endI]) hE
   go_wp2
   go_ret
   exact ⟨by rw [hV]; simp [hE], b1⟩
 ·have t0 : ¬ (Is.length : Int) ≤ 12 := by omega
  rw [Pl.yd5 _ (by omega)]
  go_enter Tryz.func11, Tryz.ntmps11
  go_wp2
  go_ret
  exact ⟨rfl, Below.refl _ _⟩
end WNestS
end Go.Proofs.YtcogaghibpajjaaGreatDoor

