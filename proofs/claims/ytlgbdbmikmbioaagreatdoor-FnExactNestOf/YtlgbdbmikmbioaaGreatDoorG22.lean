/- Several texts of one claim in one file: WNestX, WSpI7. -/
import Derived.Test.YtlgbdbmikmbioaaGreatDoorG21
import Derived.Test.YtlgbdbmikmbioaaGreatDoorG08
import Derived.Test.YtlgbdbmikmbioaaGreatDoorG10
import Derived.Test.YtlgbdbmikmbioaaGreatDoorG16
import Derived.Test.YtlgbdbmikmbioaaGreatDoorPlainNr
import Derived.Deep.Cut
namespace Go.Proofs.YtlgbdbmikmbioaaGreatDoor
open Go.RowKit
namespace zl8
def Nested (w : World) (r0 r1 : TypeId) (x0 x1 : Value) (Is : List Pl.It) (NN : Option Pl.Fo) (e : Ending) (w' : World) : Prop :=
 (∃ L k q a cap, NN = some k.shape ∧ e = .returned (.tuple #[.agg #[.map (some q), .int .i64 (k.len : Int), .slice a k.len cap], .nilIface]) ∧ ((w.heap.size ≤ q ∧ Mem.apart w' q k (.slice a k.len cap)) ∧ Mem.ownM w' q L) ∧ ((Pl.Fx.cons L k .nil).okX ∧ (Pl.Fx.cons L k .nil).flat = Is.map Pl.It.r) ∧ Mem.layX w' (fun b => w.heap.size ≤ b) k (.slice a k.len cap)) ∨
 (NN = none ∧ ∃ r x, e = .returned (.tuple #[.agg #[.map none, .int .i64 0, .slice none 0 0], .iface r x]) ∧ ((400 < Is.length ∧ r = r0 ∧ x = x0) ∨ (Is.length ≤ 400 ∧ r = r1 ∧ x = x1)))
set_option linter.unusedSimpArgs false in
set_option maxRecDepth 100000 in
set_option maxHeartbeats 1000000 in
theorem nest_any (a : Option Addr) (cap : Nat) (Is : List Pl.It) (w : World) (hl : Is.length ≤ 1048576) (hcap : Is.length ≤ cap) (hv : Mem.za5 w a Is) (hok : ∀ x ∈ Is, x.t.L.length ≤ 1048576 ∧ ∀ n ∈ x.t.L, n.path.size ≤ 1048576 ∧ n.data.size ≤ 1048576)
  (r0 r1 r2 r3 : TypeId) (x0 x1 x2 x3 : Value) (hE : zj0.Errs4 w r0 r1 r2 r3 x0 x1 x2 x3) :
  Calls Tryz.prog 28 #[.slice a Is.length cap] w fun e w' => Nested w r0 r1 x0 x1 Is (Pl.nest (Pl.rowO (Is.map Pl.It.r))) e w' ∧ Below w.heap.size w w' := by
 have hrl : (Pl.rowO (Is.map Pl.It.r)).length = Is.length := by rw [Pl.zk9, List.length_map]
 have b0 : Below w.heap.size w (w.alloc (.cells #[.map none, .int .i64 0, .slice none 0 0] 79)) := (Below.refl _ _).alloc (Nat.le_refl _) _
 have A0 := Mem.Blk.new w #[.map none, .int .i64 0, .slice none 0 0] 79
 have k0 := (hE.call b0).c0
 have k1 := (hE.call b0).three.c1
 by_cases h400 : 400 < Is.length
 ·have t0 : (400 : Int) < (Is.length : Int) := by omega
  rw [Pl.zu0 _ (by omega)]
  have HB0 := hide b0
  clear hv hok hE b0 A0 hrl
  go_enter Tryz.func28, Tryz.ntmps28
  go_wp2
  go_region
  go_wp2
  refine bodyPost_ret (v := .tuple #[.agg #[.map none, .int .i64 0, .slice none 0 0], .iface r0 x0]) (by simp [results, Tryz.results28, go_sem]) rfl ⟨Or.inr ⟨rfl, _, _, rfl, .inl ⟨h400, rfl, rfl⟩⟩, ?_⟩
  exact Mem.below_drewN (za HB0) 1
 have t0 : ¬ (400 : Int) < (Is.length : Int) := by omega
 by_cases h12 : 12 < Is.length
 ·have t1 : (12 : Int) < (Is.length : Int) := by omega
  rw [Pl.zu0 _ (by omega)]
  have HB0 := hide b0
  clear hv hok hE b0 A0 hrl
  go_enter Tryz.func28, Tryz.ntmps28
  go_wp2
  go_region
  go_wp2
  refine bodyPost_ret (v := .tuple #[.agg #[.map none, .int .i64 0, .slice none 0 0], .iface r1 x1]) (by simp [results, Tryz.results28, go_sem]) rfl ⟨Or.inr ⟨rfl, _, _, rfl, .inr ⟨by omega, rfl, rfl⟩⟩, ?_⟩
  exact Mem.below_drewN (za HB0) 1
 have t1 : ¬ (12 : Int) < (Is.length : Int) := by omega
 have hz := hide (take_any r1 r2 r3 x1 x2 x3 12 Is a cap _ (by omega) (by omega) hcap (Mem.za8 hv b0) hok (hE.call b0).three)
 have n1 : 1 < w.heap.size := World.block_lt_of_cell? w ⟨_, 0, none⟩ hE.three.c1
 have n2 : ¬ w.heap.size = 1 := by omega
 have n3 : ¬ 1 = w.heap.size := by omega
 have HE := hide (fun W (b : Below w.heap.size w W) => (hE.call b).three.c1)
 have HRL := hide hrl
 generalize Pl.rowO (Is.map Pl.It.r) = LL at hz HRL ⊢
 generalize hNN : Pl.nest LL = NN
 have HNN := hide hNN
 clear hv hok hE k0 k1 hrl hNN
 go_enter Tryz.func28, Tryz.ntmps28
 go_wp2_with fail
 generalize w.alloc (.cells #[.map none, .int .i64 0, .slice none 0 0] 79) = w2 at b0 A0 hz ⊢
 refine (za hz).mono ?_
 rintro e w1 ⟨h1, b1⟩
 have bw1 := b0.trans (b1.mono b0.size)
 have A1 := A0.call b1
 have HWW : Hid (w.heap.size < w2.heap.size) := hide A0.lt
 clear hz b1 A0 b0
 rcases h1 with ⟨L, kids, q, v, k, a', cap', ht, rfl, hk, hkl, hc, -, ⟨⟨hqw, hap⟩, hqm⟩, hfl, hlay⟩ | ⟨ht, rfl⟩
 ·obtain ⟨va, vcap, rfl, hrest⟩ := hlay
  have hlen : (Is.drop k).length = Is.length - k := List.length_drop
  have hR : (Pl.rowO ((Is.drop k).map Pl.It.r)).length = Is.length - k := by rw [Pl.zk9, List.length_map, hlen]
  have hsz := Pl.take_sz ht
  simp only [Pl.Fo.sz] at hsz
  have A2 := A1.alloc (.cells #[.map (some q), .int .i64 (kids.len : Int), .slice va kids.len vcap] 79)
  have X2 := Mem.Blk.new w1 #[.map (some q), .int .i64 (kids.len : Int), .slice va kids.len vcap] 79
  have bA : Below w1.heap.size w1 (w1.alloc (.cells #[.map (some q), .int .i64 (kids.len : Int), .slice va kids.len vcap] 79)) := (Below.refl _ _).alloc (Nat.le_refl _) _
  have bw2 := bw1.trans (bA.mono bw1.size)
  have HL : Hid (Mem.layX (w1.alloc (.cells #[.map (some q), .int .i64 (kids.len : Int), .slice va kids.len vcap] 79)) (fun b => w2.heap.size ≤ b) kids (.slice va kids.len vcap)) := hide (Mem.zt7 ⟨va, vcap, rfl, hrest⟩ bA)
  have HAP := hide (Mem.zw3 ⟨va, vcap, rfl, hrest⟩ hap bA)
  have HQM := hide (hqm.call bA)
  have HFL := hide hfl
  have HLD : Hid ((Is.drop k).length = Is.length - k) := hlen
  have HQW := hide hqw
  clear hqm hfl hqw hap
  rw [hlen]
  have hkk : Is.length - k ≤ 12 := by omega
  generalize Is.length - k = rest at hR hkk HLD ⊢
  by_cases hr0 : 0 < rest
  ·have u1 : (0 : Int) < (rest : Int) := by omega
   have hno : Hid (NN = none) := hide (by rw [← za HNN]; exact Pl.nest_rest ht (by omega))
   have e1 := za HE _ bw2
   have c20 := A2.cell 0
   have c21 := A2.cell 1
   have c22 := A2.cell 2
   have f20 := A2.fr 0
   have f21 := A2.fr 1
   have f22 := A2.fr 2
   simp only [kGs] at c20 c21 c22
   have BB := hide bw2
   clear A1 A2 X2 bA HL hrest bw1 bw2 HNN HE ht hlen
   go_wp2
   go_region
   go_wp2
   refine bodyPost_ret (v := .tuple #[.agg #[.map none, .int .i64 0, .slice none 0 0], .iface r1 x1]) (by simp [results, Tryz.results28, go_sem, c20, c21, c22]) rfl ⟨Or.inr ⟨za hno, _, _, rfl, .inr ⟨by omega, rfl, rfl⟩⟩, ?_⟩
   first | exact Mem.below_drewN (za BB) 1 | exact (((Mem.below_drewN (za BB) 1).setCell (Nat.le_refl _) _).setCell (Nat.le_refl _) _).setCell (Nat.le_refl _) _
  have u1 : ¬ (0 : Int) < (rest : Int) := by omega
  have hdz := kids.shape.depth_le
  have hcall := hide (zj0.depth_any _ 1000 (Nat.le_refl _) kids.shape (some q) (kids.len : Int) _ _ (by have := za HRL; omega) (Mem.layX_lay (za HL)))
  go_wp2_with fail
  generalize w1.alloc (.cells #[.map (some q), .int .i64 (kids.len : Int), .slice va kids.len vcap] 79) = w3 at bA bw2 HL HAP HQM A2 X2 hcall ⊢
  refine (za hcall).mono ?_
  rintro e w4 ⟨rfl, b4⟩
  have bw4 := bw2.trans (b4.mono bw2.size)
  have A4 := A2.call b4
  have X4 := X2.call b4
  have HL4 : Hid (Mem.layX w4 (fun b => w2.heap.size ≤ b) kids (.slice va kids.len vcap)) := hide (Mem.zt7 (za HL) b4)
  have HQ4 := hide ((za HQM).call b4)
  have HA4 := hide (Mem.zw3 (za HL) (za HAP) b4)
  clear HQM HAP
  have c20 := A4.cell 0
  have c21 := A4.cell 1
  have c22 := A4.cell 2
  have f20 := A4.fr 0
  have f21 := A4.fr 1
  have f22 := A4.fr 2
  have c40 := X4.cell 0
  have c41 := X4.cell 1
  have c42 := X4.cell 2
  simp only [kGs] at c20 c21 c22 c40 c41 c42
  have hs1 : w2.heap.size ≤ w1.heap.size ∨ True := .inr trivial
  clear hcall HL b4 A2 X2 A4 X4 hrest hs1
  by_cases h4 : 4 < kids.shape.depth + 1
  ·have u2 : (4 : Int) < (kids.shape.depth : Int) + 1 := by omega
   have hno : Hid (NN = none) := hide (by rw [← za HNN]; exact Pl.nest_deep ht h4)
   have e1 := za HE _ bw4
   have BB := hide bw4
   clear A1 bA bw1 bw2 HNN HE ht hlen bw4 HL4
   go_wp2
   go_region
   go_wp2
   refine bodyPost_ret (v := .tuple #[.agg #[.map none, .int .i64 0, .slice none 0 0], .iface r1 x1]) (by simp [results, Tryz.results28, go_sem, c20, c21, c22]) rfl ⟨Or.inr ⟨za hno, _, _, rfl, .inr ⟨by omega, rfl, rfl⟩⟩, ?_⟩
   first | exact Mem.below_drewN (za BB) 1 | exact (((Mem.below_drewN (za BB) 1).setCell (Nat.le_refl _) _).setCell (Nat.le_refl _) _).setCell (Nat.le_refl _) _
  ·have u2 : ¬ (4 : Int) < (kids.shape.depth : Int) + 1 := by omega
   have hyes : Hid (NN = some kids.shape) := hide (by rw [← za HNN]; exact Pl.nest_ok (by have := za HRL; omega) ht (by omega) h4)
   have HW2 : Hid (w.heap.size < w2.heap.size) := HWW
   have BB := hide bw4
   clear A1 bA bw1 bw2 HNN HE ht hlen bw4
   go_wp2
   refine bodyPost_ret (v := .tuple #[.agg #[.map (some q), .int .i64 (kids.len : Int), .slice va kids.len vcap], .nilIface]) (by simp [results, Tryz.results28, go_sem, c20, c21, c22]) rfl ⟨Or.inl ⟨L, kids, q, va, vcap, za hyes, rfl, ?_, ?_, ?_⟩, ?_⟩
   ·have h1 := za HW2
    have h2 := za HQW
    exact ⟨⟨by omega, Mem.zq6 (fun b hb hlt => by rw [heap_setCell_other _ _ _ _ (by show b ≠ w.heap.size; omega), heap_setCell_other _ _ _ _ (by show b ≠ w.heap.size; omega), heap_setCell_other _ _ _ _ (by show b ≠ w.heap.size; omega)]) (za HL4) (za HA4)⟩, (((za HQ4).set _ _ (by show q ≠ w.heap.size; omega)).set _ _ (by show q ≠ w.heap.size; omega)).set _ _ (by show q ≠ w.heap.size; omega)⟩
   ·have h3 := za HFL
    have h4 : Is.drop k = [] := List.eq_nil_of_length_eq_zero (by have := za HLD; omega)
    rw [h4, List.map_nil, List.append_nil] at h3
    exact h3
   ·refine Mem.zh7 (fun b hb hlt => ⟨?_, by simpa using hlt, ?_⟩) (za HL4)
    ·have := za HW2; omega
    ·have := za HW2
     rw [heap_setCell_other _ _ _ _ (by show b ≠ w.heap.size; omega), heap_setCell_other _ _ _ _ (by show b ≠ w.heap.size; omega), heap_setCell_other _ _ _ _ (by show b ≠ w.heap.size; omega)]
   ·exact (((za BB).setCell (Nat.le_refl _) _).setCell (Nat.le_refl _) _).setCell (Nat.le_refl _) _
 ·have hno : Hid (NN = none) := hide (by rw [← za HNN]; exact Pl.nest_fail ht)
  have A2 := A1.alloc (.cells #[.map none, .int .i64 0, .slice none 0 0] 79)
  have bw2 := bw1.alloc bw1.size (.cells #[.map none, .int .i64 0, .slice none 0 0] 79)
  have c20 := A2.cell 0
  have c21 := A2.cell 1
  have c22 := A2.cell 2
  have f20 := A2.fr 0
  have f21 := A2.fr 1
  have f22 := A2.fr 2
  simp only [kGs] at c20 c21 c22
  have BB := hide bw2
  clear A1 A2 bw1 bw2 HNN HE ht
  go_wp2
  refine bodyPost_ret (v := .tuple #[.agg #[.map none, .int .i64 0, .slice none 0 0], .iface r1 x1]) (by simp [results, Tryz.results28, go_sem, c20, c21, c22]) rfl ⟨Or.inr ⟨za hno, _, _, rfl, .inr ⟨by omega, rfl, rfl⟩⟩, ?_⟩
  first | exact za BB | exact (((za BB).setCell (Nat.le_refl _) _).setCell (Nat.le_refl _) _).setCell (Nat.le_refl _) _
end zl8
end Go.Proofs.YtlgbdbmikmbioaaGreatDoor

namespace Go.Proofs.YtlgbdbmikmbioaaGreatDoor
open Go.RowKit Go.Maps
namespace WSpI
def Insted (w : World) (N : List Pl.Ns) (RB : Bool) (e : Ending) (w' : World) : Prop :=
 (RB = true ∧ ∃ q E, e = .returned (.tuple #[.map (some q), .bool true]) ∧ w.heap.size ≤ q ∧ E.map (·.1) = N.map (·.d) ∧ w'.ownsMap Tryz.prog 2 MapI.elem q 12 (MapI.mapOf (Pl.vals E)) ∧ Mem.ze1 w' (w.heap.size + 2) E N ∧ q < w.heap.size + 2) ∨
 (RB = false ∧ e = .returned (.tuple #[.map none, .bool false]))
theorem rise_apart {l : List Int} {next : Int} (h : ∀ k, k < l.length → Pl.zi1 l next k = true) : l.Pairwise (· < ·) := by
 rw [List.pairwise_iff_getElem]
 have h1 := (Pl.zs6 l next).1 h
 intro i j hi hj hij
 induction j with
 | zero => omega
 | succ j ih =>
  have h2 := (h1 (j + 1) l[j + 1] (List.getElem?_eq_getElem hj)).2 j (l[j]'(by omega)) rfl (List.getElem?_eq_getElem (by omega))
  by_cases e : i = j
  ·subst e; exact h2
  ·have := ih (by omega) (by omega)
   omega
theorem inst_apart {N : List (Int × Bool)} {next : Int} {k : Nat} (hk : k ≤ N.length) (h : ∀ j, j < k → Pl.zg1 N next j = true) : ((N.map (·.1)).take k).Pairwise (· < ·) := by
 refine rise_apart (next := next) fun j hj => ?_
 rw [List.length_take, List.length_map] at hj
 have ht : N[j]? = some N[j] := List.getElem?_eq_getElem (by omega)
 have h1 := h j (by omega)
 simp only [Pl.zg1, ht, Bool.and_eq_true] at h1
 have h2 := h1.2
 have hl : Pl.zd9 ((N.map (·.1)).take k) j = Pl.zd9 (N.map (·.1)) j := by
  cases j with
  | zero => rfl
  | succ j => simp only [Pl.zd9]; rw [List.getElem?_take, if_pos (by omega)]
 unfold Pl.zi1 at h2 ⊢
 rw [hl, List.getElem?_take, if_pos (by omega)]
 exact h2
set_option linter.unusedSimpArgs false in
set_option maxRecDepth 100000 in
set_option maxHeartbeats 4000000 in
theorem zm7 (s : Pl.Sp) (w : World) (hok : za9.OkS s 1048576) (hcap : ∀ x ∈ s.N, x.Is.length ≤ x.cap) (hv : Mem.zh4 w s.ia s.N) (hl : s.N.length ≤ 12) (hn : s.next ≤ 1000000)
  (r0 r1 r2 r3 : TypeId) (x0 x1 x2 x3 : Value) (hE : zj0.Errs4 w r0 r1 r2 r3 x0 x1 x2 x3) :
  Calls Tryz.prog 82 #[.agg s.cs] w fun e w' => Insted w s.N (Pl.zj1 (s.N.map WSp.nr) s.next) e w' ∧ Below w.heap.size w w' := by
 obtain ⟨ia, ic, N, ma, mc, M, ha, hc, H, next⟩ := s
 simp only at hcap hv hl hn ⊢
 have HN := hide (fun W (b : Below w.heap.size w W) (x : Pl.Ns) (hx : x ∈ N) (h : Mem.za5 W x.a x.Is) => zl8.nest_any x.a x.cap x.Is W (hok.each x hx).1 (hcap x hx) h (hok.each x hx).2 r0 r1 r2 r3 x0 x1 x2 x3 (hE.call b))
 have HV := hide hv
 unfold Pl.Sp.cs
 simp only
 have b0 : Below w.heap.size w ((w.alloc (.cells #[.slice ia N.length ic, .slice ma M.length mc, .slice ha H.length hc, .int .i64 next] 28)).alloc (.map #[] 0)) := ((Below.refl _ _).alloc (Nat.le_refl _) _).alloc (by simp) _
 have V0 := hide ((Mem.Blk.new w #[.slice ia N.length ic, .slice ma M.length mc, .slice ha H.length hc, .int .i64 next] 28).alloc (.map #[] 0))
 have M0 : Hid (((w.alloc (.cells #[.slice ia N.length ic, .slice ma M.length mc, .slice ha H.length hc, .int .i64 next] 28)).alloc (.map #[] 0)).ownsMap Tryz.prog 2 MapI.elem (w.heap.size + 1) 0 (MapI.mapOf (Pl.vals []))) := hide (by
  have h := World.ownsMap_made (w.alloc (.cells #[.slice ia N.length ic, .slice ma M.length mc, .slice ha H.length hc, .int .i64 next] 28)) Tryz.prog 2 MapI.elem
  rw [show (w.alloc (.cells #[.slice ia N.length ic, .slice ma M.length mc, .slice ha H.length hc, .int .i64 next] 28)).heap.size = w.heap.size + 1 by simp] at h
  exact h)
 have a0 := (za V0).cell 0
 simp only [kGs] at a0
 have HR1 : Hid (Pl.zj1 (N.map WSp.nr) next = (List.range N.length).all (Pl.zg1 (N.map WSp.nr) next)) := hide (by unfold Pl.zj1; rw [List.length_map])
 generalize Pl.zj1 (N.map WSp.nr) next = RB at HR1 ⊢
 clear hok hcap hv hE
 have hmm := @run_makeMap Tryz.prog
 go_enter Tryz.func82, Tryz.ntmps82
 go_wp2
 go_loopw [5, 14] (fun l i wr => ∃ (k : Nat) (E : List (Int × Pl.Nv)), k ≤ N.length ∧ i = .int .i64 (k : Int) ∧ l = .int .i64 (Pl.zd9 (N.map (·.d)) k) ∧ Below w.heap.size w wr ∧ Hid (Mem.Blk wr w.heap.size #[.slice ia N.length ic, .slice ma M.length mc, .slice ha H.length hc, .int .i64 next] 28) ∧ Hid (wr.ownsMap Tryz.prog 2 MapI.elem (w.heap.size + 1) k (MapI.mapOf (Pl.vals E))) ∧ Hid (E.map (·.1) = (N.map (·.d)).take k) ∧ Hid (Mem.ze1 wr (w.heap.size + 2) E N) ∧ Hid (∀ j, j < k → Pl.zg1 (N.map WSp.nr) next j = true)) (fun _ i _ => N.length - (intOf i).toNat)
 case atStart => exact ⟨0, [], Nat.zero_le _, rfl, rfl, b0, V0, M0, hide (by simp), fun i y h => (by simp at h), fun j h => absurd h (by omega)⟩
 case round =>
  obtain ⟨k, E, hk, rfl, rfl, hbel, V, MO, HEI, NS, HA⟩ := hrel
  clear V0 b0 a0 M0
  by_cases hlt : k < N.length
  ·obtain ⟨t, ht⟩ : ∃ n, N[k]? = some n := ⟨_, List.getElem?_eq_getElem hlt⟩
   obtain ⟨⟨g, o, rfl, hg, q0, q1⟩, q2⟩ := (za HV) k t ht
   have HNO : Hid (Pl.zg1 (N.map WSp.nr) next k = false → RB = false) := hide (fun h => by rw [za HR1]; exact Pl.zp9 hlt h)
   have HSTEP : Hid (Pl.zg1 (N.map WSp.nr) next k = ((Pl.nest (Pl.rowO (t.Is.map Pl.It.r))).isSome && (decide (Pl.zd9 (N.map (·.d)) k < t.d) && decide (t.d < next)))) := hide (by
    unfold Pl.zg1 Pl.zi1
    rw [List.getElem?_map, ht, List.map_map]
    have e : (Prod.fst ∘ WSp.nr) = fun x : Pl.Ns => x.d := rfl
    rw [show ((fun x : Int × Bool => x.1) ∘ WSp.nr) = fun x : Pl.Ns => x.d from rfl, List.getElem?_map, ht]
    rfl)
   have HLAST : Hid (Pl.zd9 (N.map (·.d)) (k + 1) = t.d) := hide (by
    show (match (N.map (·.d))[k]? with | none => 0 | some x => x) = _
    rw [List.getElem?_map, ht]
    rfl)
   generalize Pl.zd9 (N.map (·.d)) k = L at HSTEP ⊢
   have u1 : (k : Int) < (N.length : Int) := by omega
   have u3 : (0 : Int) ≤ (k : Int) := by omega
   have b2 : Below wr.heap.size wr (wr.alloc (.cells #[.int .i64 t.d, .slice t.a t.Is.length t.cap] 64)) := (Below.refl _ _).alloc (Nat.le_refl _) _
   have hbel2 := hbel.trans (b2.mono hbel.size)
   have c0 := (hbel.cell (p := ⟨g, _, none⟩) hg).trans q0
   have c1 := (hbel.cell (p := ⟨g, _, none⟩) hg).trans q1
   have X2 := hide (Mem.Blk.new wr #[.int .i64 t.d, .slice t.a t.Is.length t.cap] 64)
   have V2 := hide ((za V).call b2)
   have M2 := hide (MapI.zd0 (za MO) b2)
   have N2 := hide ((za NS).call b2)
   have hlo : w.heap.size + 2 ≤ wr.heap.size := by have := (za MO).lt; omega
   have HC := hide (za HN _ hbel2 t (List.mem_of_getElem? ht) (Mem.za8 q2 hbel2))
   have HT := hide ht
   clear q0 q1 q2 V MO NS ht
   go_upto_region 6 with fail
   have hlo2 : w.heap.size + 2 ≤ (wr.alloc (.cells #[.int .i64 t.d, .slice t.a t.Is.length t.cap] 64)).heap.size := Nat.le_trans hlo b2.size
   generalize wr.alloc (.cells #[.int .i64 t.d, .slice t.a t.Is.length t.cap] 64) = wZ at hbel2 V2 X2 M2 N2 HC hlo2 ⊢
   generalize wr.heap.size = X at X2 ⊢
   have y0 := (za X2).cell 0
   have y1 := (za X2).cell 1
   simp only [kGs] at y0 y1
   clear hbel c0 c1 b2 hlo
   go_wp2_with fail
   refine (za HC).mono ?_
   rintro e w3 ⟨hN, bX⟩
   have b3 := hbel2.trans (bX.mono hbel2.size)
   have V3 := hide ((za V2).call bX)
   have X3 := hide ((za X2).call bX)
   have M3 := hide (MapI.zd0 (za M2) bX)
   have N3 := hide ((za N2).call bX)
   clear HC y0 y1 V2 X2 M2 N2 hbel2
   rcases hN with ⟨L', kx, q', a', cap', hsome, rfl, hnest⟩ | ⟨hnone, r, x, rfl, -⟩
   ·have hs3 : wZ.heap.size ≤ w3.heap.size := bX.size
    have NV : Hid (Mem.zf6 w3 (w.heap.size + 2) ⟨some q', kx.len, a', cap'⟩ (t.Is.map Pl.It.r)) := hide (by
     obtain ⟨⟨⟨h1, h2⟩, h3⟩, h4, h5⟩ := hnest
     exact ⟨L', kx, q', rfl, rfl, ⟨⟨Nat.le_trans hlo2 h1, h2⟩, h3⟩, h4, Mem.layX_weak h5 (fun b hb _ => Nat.le_trans hlo2 hb)⟩)
    rw [hsome] at HSTEP
    generalize kx.len = kn at NV ⊢
    clear hnest hsome bX
    have b5 := b3.alloc (o := .cells #[.map (some q'), .int .i64 (kn : Int), .slice a' kn cap'] 79) b3.size
    have bA : Below w3.heap.size w3 (w3.alloc (.cells #[.map (some q'), .int .i64 (kn : Int), .slice a' kn cap'] 79)) := (Below.refl _ _).alloc (Nat.le_refl _) _
    have V5 := hide ((za V3).call bA)
    have X5 := hide ((za X3).call bA)
    have M5 := hide (MapI.zd0 (za M3) bA)
    have N5 := hide ((za N3).call bA)
    have NV5 := hide ((za NV).call bA)
    have Y5 := hide (Mem.Blk.new w3 #[.map (some q'), .int .i64 (kn : Int), .slice a' kn cap'] 79)
    have hY := (za M3).lt
    go_upto_region 7 with fail
    generalize w3.alloc (.cells #[.map (some q'), .int .i64 (kn : Int), .slice a' kn cap'] 79) = wY at b5 V5 X5 M5 N5 NV5 Y5 ⊢
    generalize w3.heap.size = Y at Y5 ⊢
    have y0 := (za X5).cell 0
    have y1 := (za X5).cell 1
    have v3 := (za V5).cell 3
    have z0 := (za Y5).cell 0
    have z1 := (za Y5).cell 1
    have z2 := (za Y5).cell 2
    simp only [kGs] at y0 y1 v3 z0 z1 z2
    clear V3 X3 M3 N3 NV bA b3
    by_cases h1 : t.d ≤ L
    ·have HE0 : Hid (RB = false) := hide (za HNO (by rw [za HSTEP, decide_eq_false (by omega : ¬ L < t.d)]; simp))
     go_wp2
     go_ret2
     exact ⟨Or.inr ⟨za HE0, rfl⟩, b5⟩
    by_cases h2 : next ≤ t.d
    ·have HE0 : Hid (RB = false) := hide (za HNO (by rw [za HSTEP, decide_eq_false (by omega : ¬ t.d < next)]; simp))
     go_wp2
     go_ret2
     exact ⟨Or.inr ⟨za HE0, rfl⟩, b5⟩
    rw [decide_eq_true (by omega : L < t.d), decide_eq_true (by omega : t.d < next)] at HSTEP
    have HA2 : Hid (∀ j, j < k + 1 → Pl.zg1 (N.map WSp.nr) next j = true) := fun j hj => by
     rcases Nat.lt_succ_iff_lt_or_eq.1 hj with h | h
     ·exact za HA j h
     ·rw [h, za HSTEP]; rfl
    have hlow : MapI.i64 t.d := by
     have hp := Pl.rise_pos (l := (N.map (·.d)).take (k + 1)) (next := next) (fun j hj => by
      rw [List.length_take, List.length_map] at hj
      have h3 := za HA2 j (by omega)
      have ht : N[j]? = some N[j] := List.getElem?_eq_getElem (by omega)
      unfold Pl.zg1 at h3
      rw [List.getElem?_map, ht] at h3
      simp only [Option.map_some, Bool.and_eq_true] at h3
      have h4 := h3.2
      rw [List.map_map, show ((fun x : Int × Bool => x.1) ∘ WSp.nr) = fun x : Pl.Ns => x.d from rfl] at h4
      have hl : Pl.zd9 ((N.map (·.d)).take (k + 1)) j = Pl.zd9 (N.map (·.d)) j := by
       cases j with
       | zero => rfl
       | succ j => simp only [Pl.zd9]; rw [List.getElem?_take, if_pos (by omega)]
      unfold Pl.zi1 at h4 ⊢
      rw [hl, List.getElem?_take, if_pos (by omega)]
      exact h4) k t.d (by rw [List.getElem?_take, if_pos (by omega), List.getElem?_map, za HT]; rfl)
     unfold MapI.i64
     omega
    have hkey := MapI.zj6 hlow
    have hEl : Hid (E.length = k) := hide (by
     have := congrArg List.length (za HEI)
     rw [List.length_map, List.length_take, List.length_map] at this
     omega)
    have HEI2 : Hid ((E ++ [(t.d, (⟨some q', kn, a', cap'⟩ : Pl.Nv))]).map (·.1) = (N.map (·.d)).take (k + 1)) := hide (by
     rw [List.map_append, za HEI, List.take_add_one, List.getElem?_map, za HT]
     rfl)
    have HPUT : Hid ((MapI.mapOf (Pl.vals E)).put (MapI.key t.d) (MapI.dat (.agg #[.map (some q'), .int .i64 (kn : Int), .slice a' kn cap'])) = MapI.mapOf (Pl.vals (E ++ [(t.d, (⟨some q', kn, a', cap'⟩ : Pl.Nv))]))) := hide (by
     show _ = MapI.mapOf ((E ++ [(t.d, (⟨some q', kn, a', cap'⟩ : Pl.Nv))]).map (fun x => (x.1, x.2.val)))
     rw [List.map_append]
     exact (MapI.zr2 (Pl.vals E) (t.d, .agg #[.map (some q'), .int .i64 (kn : Int), .slice a' kn cap'])).symm)
    have hXn : Hid (X ≠ w.heap.size + 1) := hide (fun e => by
     obtain ⟨es, cl, h9, _⟩ := za M5
     rw [← e] at h9
     have h8 := za X5
     unfold Mem.Blk at h8
     rw [h8] at h9
     cases h9)
    clear HSTEP HNO
    go_wp2_with (first | (at_mapUpdate; refine wpList_mapUpdate_own _ rfl _ _ _ 85 rfl 2 79 MapI.law Tryz.underlying85 _ (w.heap.size + 1) k _ rfl (za M5) (by unfold maxLen; omega) _ _ _ rfl rfl hkey _ [] (MapI.zn7 (.agg #[.map (some q'), .int .i64 (kn : Int), .slice a' kn cap'])) ?_; intro wD hownD hgrowD; have cD := hgrowD.cell y0 (fun e => za hXn (Option.some.inj e)); have M6 := hide hownD; have V6 := hide ((za V5).grown hgrowD (fun e => by have := Option.some.inj e; omega)); have N6 := hide ((za N5).grown hgrowD (by omega)); have NV6 := hide ((za NV5).grown hgrowD (by omega)); have b6 := b5.grown hgrowD b5.size (fun j hj => by have := Option.some.inj hj; omega); clear hownD hgrowD) | fail)
    rw [za HPUT] at M6
    have N7 := hide ((za N6).snoc (x := t) (by rw [za hEl]; exact za HT) (za NV6))
    go_wp2
    go_roundw
    case rel => exact ⟨k + 1, E ++ [(t.d, ⟨some q', kn, a', cap'⟩)], by omega, by go_num, by rw [za HLAST], b6, V6, M6, HEI2, N7, HA2⟩
    case measure => simp [intOf]; omega
   ·have HE0 : Hid (RB = false) := hide (za HNO (by rw [za HSTEP, hnone]; rfl))
    have b5 := b3.alloc (o := .cells #[.map none, .int .i64 0, .slice none 0 0] 79) b3.size
    clear hnone bX
    go_wp2
    go_ret2
    exact ⟨Or.inr ⟨za HE0, rfl⟩, b5⟩
  ·have u1 : ¬ (k : Int) < (N.length : Int) := by omega
   have hke : k = N.length := by omega
   have HE : Hid (RB = true) := hide (by rw [za HR1]; exact Pl.zo (fun j hj => za HA j (by omega)))
   have HF : Hid (E.map (·.1) = N.map (·.d)) := hide (by rw [za HEI, hke, List.take_of_length_le (by rw [List.length_map]; omega)])
   have MF := hide ((za MO).mono (show k ≤ 12 by omega))
   go_wp2
   go_ret2
   exact ⟨Or.inl ⟨za HE, w.heap.size + 1, E, rfl, by omega, za HF, za MF, za NS, by omega⟩, hbel⟩
end WSpI
end Go.Proofs.YtlgbdbmikmbioaaGreatDoor

