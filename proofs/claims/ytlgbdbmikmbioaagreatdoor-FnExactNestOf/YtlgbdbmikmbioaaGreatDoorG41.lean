/- Several texts of one claim in one file: WSpS5, WIll7, MemPutI, MemPutT, WCopyV, WCopy5. -/
import Derived.Test.YtlgbdbmikmbioaaGreatDoorWSpS3
import Derived.Test.YtlgbdbmikmbioaaGreatDoorWSpS4
import Derived.Test.YtlgbdbmikmbioaaGreatDoorProg
import Derived.WalkKit
import Derived.Laws.BitsAllLaws
import Derived.Below
import Derived.Laws.IdiomStrings
import Derived.Test.YtlgbdbmikmbioaaGreatDoorG29
import Derived.Test.YtlgbdbmikmbioaaGreatDoorG04
import Derived.Deep.RegionHeld3
import Derived.Test.YtlgbdbmikmbioaaGreatDoorG00
import Derived.Test.YtlgbdbmikmbioaaGreatDoorMemOkR
import Derived.Laws.AppendOwnNone
import Derived.Test.YtlgbdbmikmbioaaGreatDoorG18
namespace Go.Proofs.YtlgbdbmikmbioaaGreatDoor
open Go.RowKit
namespace WSp
set_option linter.unusedSimpArgs false in
set_option maxRecDepth 100000 in
set_option maxHeartbeats 1000000 in
theorem ze7 (s : Pl.Sp) (w : World) (hok : za9.OkS s 1048576) (hv : Mem.zd3 w s) :
  Calls Tryz.prog 38 #[.agg s.cs] w fun e w' => e = .returned (.bool (Pl.zd1 s.next (s.N.map nr) s.M s.H Pl.wayB)) ∧ Below w.heap.size w w' := by
 have h0 := hide (fun W => zq8 s.next 1 1000000 W)
 have h1 := hide (fun W (b : Below w.heap.size w W) hn0 hn1 => handles_any s W hok (hv.call b) hn0 hn1)
 have h2 := hide (fun W (b : Below w.heap.size w W) => zr7 s W hok (hv.call b))
 have h3 := hide (fun W (b : Below w.heap.size w W) hn0 hn1 => zm7 s W hok (hv.call b) hn0 hn1)
 have HEQ : Hid (Pl.zd1 s.next (s.N.map nr) s.M s.H Pl.wayB = (Pl.isB s.next 1 1000000 && Pl.zj2 (s.N.map (·.d)) s.next Pl.wayB s.H && Pl.zh0 (s.N.map (·.d)) s.M && Pl.zi8 s.M s.H s.next (s.N.map nr))) := hide (by
  unfold Pl.zd1
  rw [List.map_map]
  rfl)
 have HIS : Hid (Pl.isB s.next 1 1000000 = true → 1 ≤ s.next ∧ s.next ≤ 1000000) := hide (fun h => (Pl.zl _ _ _).1 h)
 generalize Pl.zd1 s.next (s.N.map nr) s.M s.H Pl.wayB = R at HEQ ⊢
 generalize Pl.isB s.next 1 1000000 = R0 at HEQ h0 HIS
 generalize Pl.zj2 (s.N.map (·.d)) s.next Pl.wayB s.H = R1 at HEQ h1
 generalize Pl.zh0 (s.N.map (·.d)) s.M = R2 at HEQ h2
 generalize Pl.zi8 s.M s.H s.next (s.N.map nr) = R3 at HEQ h3
 clear hok hv
 obtain ⟨ia, ic, N, ma, mc, M, ha, hc, H, next⟩ := s
 simp only at h0 h1 h2 h3 HIS ⊢
 unfold Pl.Sp.cs at h1 h2 h3 ⊢
 simp only at h1 h2 h3 ⊢
 have b0 := (Below.refl w.heap.size w).alloc (o := .cells #[.slice ia N.length ic, .slice ma M.length mc, .slice ha H.length hc, .int .i64 next] 28) (Nat.le_refl _)
 have V0 := hide (Mem.Blk.new w #[.slice ia N.length ic, .slice ma M.length mc, .slice ha H.length hc, .int .i64 next] 28)
 have a0 := (za V0).cell 0
 have a1 := (za V0).cell 1
 have a2 := (za V0).cell 2
 have a3 := (za V0).cell 3
 simp only [kGs] at a0 a1 a2 a3
 go_enter Tryz.func38, Tryz.ntmps38
 go_wp2_with fail
 generalize w.alloc (.cells #[.slice ia N.length ic, .slice ma M.length mc, .slice ha H.length hc, .int .i64 next] 28) = wA at b0 V0 a0 a1 a2 a3 ⊢
 refine (za h0 _).mono ?_
 rintro e w1 ⟨rfl, bX⟩
 have b1 := b0.trans (bX.mono b0.size)
 have V1 := hide ((za V0).call bX)
 clear a0 a1 a2 a3 V0 b0 bX h0
 cases R0
 ·have HE : Hid (R = false) := hide (za HEQ)
  clear HEQ h1 h2 h3 HIS
  go_wp2
  go_ret
  exact ⟨(by rw [za HE]; first | done | rfl), b1⟩
 obtain ⟨n0, n1⟩ := za HIS rfl
 have a0 := (za V1).cell 0
 have a1 := (za V1).cell 1
 have a2 := (za V1).cell 2
 have a3 := (za V1).cell 3
 simp only [kGs] at a0 a1 a2 a3
 have HC := hide (za h1 _ b1 n0 n1)
 clear h1 HIS
 go_wp2_with fail
 refine (za HC).mono ?_
 rintro e w2 ⟨rfl, bX⟩
 have b2 := b1.trans (bX.mono b1.size)
 have V2 := hide ((za V1).call bX)
 clear a0 a1 a2 a3 V1 b1 bX HC
 cases R1
 ·have HE : Hid (R = false) := hide (za HEQ)
  clear HEQ h2 h3
  go_wp2
  go_ret
  exact ⟨(by rw [za HE]; first | done | rfl), b2⟩
 have a0 := (za V2).cell 0
 have a1 := (za V2).cell 1
 have a2 := (za V2).cell 2
 have a3 := (za V2).cell 3
 simp only [kGs] at a0 a1 a2 a3
 have HC := hide (za h2 _ b2)
 clear h2
 go_wp2_with fail
 refine (za HC).mono ?_
 rintro e w3 ⟨rfl, bX⟩
 have b3 := b2.trans (bX.mono b2.size)
 have V3 := hide ((za V2).call bX)
 clear a0 a1 a2 a3 V2 b2 bX HC
 cases R2
 ·have HE : Hid (R = false) := hide (za HEQ)
  clear HEQ h3
  go_wp2
  go_ret
  exact ⟨(by rw [za HE]; first | done | rfl), b3⟩
 have a0 := (za V3).cell 0
 have a1 := (za V3).cell 1
 have a2 := (za V3).cell 2
 have a3 := (za V3).cell 3
 simp only [kGs] at a0 a1 a2 a3
 have HC := hide (za h3 _ b3 n0 n1)
 clear h3
 go_wp2_with fail
 refine (za HC).mono ?_
 rintro e w4 ⟨rfl, bX⟩
 have b4 := b3.trans (bX.mono b3.size)
 have HE : Hid (R = R3) := hide (za HEQ)
 clear a0 a1 a2 a3 V3 b3 bX HC HEQ n0 n1
 go_wp2
 go_ret
 exact ⟨(by rw [za HE]; first | done | rfl), b4⟩
end WSp
end Go.Proofs.YtlgbdbmikmbioaaGreatDoor

namespace Go.Proofs.YtlgbdbmikmbioaaGreatDoor
open Go.RowKit
namespace WSeven
set_option maxRecDepth 100000 in
theorem ill_any (c : Int) (w : World) :
  Calls Tryz.prog 39 #[.int .i64 c] w fun e w' => e = .returned (.agg #[.slice none 0 0, .int .i64 c]) ∧ Below w.heap.size w w' := by
 go_enter Tryz.func39, Tryz.ntmps39
 go_wp2
 refine bodyPost_ret (v := .agg #[.slice none 0 0, .int .i64 c]) (by simp [results, Tryz.results39, go_sem]) rfl ⟨rfl, ?_⟩
 exact (Below.refl _ _).alloc (Nat.le_refl _) _
end WSeven
end Go.Proofs.YtlgbdbmikmbioaaGreatDoor

namespace Go.Proofs.YtlgbdbmikmbioaaGreatDoor
open Go.RowKit
namespace Mem
theorem own_put {W : World} {S g T size n cap : Nat} {xs : List Value} (h : W.ownsRow S T size (.slice (some ⟨g, 0, none⟩) n cap) n xs) (k : Nat) (u : Value) : (W.setCell ⟨g, k, none⟩ u).ownsRow S T size (.slice (some ⟨g, 0, none⟩) n cap) n (xs.set k u) := by
 refine ⟨by rw [List.length_set]; exact h.1, ?_⟩
 rcases h.2 with ⟨e, _⟩ | ⟨g', c', cur, e, hb, hg, hc, hm, hs, ht⟩
 ·cases e
 ·cases e
  refine .inr ⟨g, cap, cur.setIfInBounds k u, rfl, hb, heap_setCell_same _ _ _ _ _ _ hg, hc, hm, by rw [Array.size_setIfInBounds]; exact hs, ?_⟩
  rw [Array.toList_setIfInBounds, List.take_set, ht]
theorem own_cell {W : World} {S g T size n cap : Nat} {xs : List Value} (h : W.ownsRow S T size (.slice (some ⟨g, 0, none⟩) n cap) n xs) {k : Nat} {u : Value} (hk : xs[k]? = some u) : W.cell? ⟨g, k, none⟩ = some u ∧ W.frozen? ⟨g, k, none⟩ = false := by
 refine ⟨?_, ?_⟩
 ·have := World.ownsRow.cells h (g := g) rfl k u hk
  rw [add_lit] at this
  exact this
 ·rcases h.2 with ⟨e, _⟩ | ⟨g', c', cur, e, hb, hg, _⟩
  ·cases e
  ·cases e
   exact za6 hg
end Mem
namespace Pl
theorem zv8 (x : It) (Is : List It) : zb0 (x :: Is) = Value.int .i64 x.m :: x.t.val :: zb0 Is := rfl
theorem cellsI_tree (x : It) (t : Tr) (Rs : List It) : ∀ Ds : List It, (zb0 (Ds ++ x :: Rs)).set (Ds.length * 2 + 1) t.val = zb0 (Ds ++ ⟨x.m, t⟩ :: Rs) := by
 intro Ds
 induction Ds with
 | nil => rfl
 | cons y Ds ih =>
  rw [List.cons_append, List.cons_append, zv8, zv8, List.length_cons, show (Ds.length + 1) * 2 + 1 = Ds.length * 2 + 1 + 1 + 1 by omega, List.set_cons_succ, List.set_cons_succ, ih]
theorem cellsI_many (x : It) (m : Int) (Rs : List It) : (zb0 (x :: Rs)).set 0 (.int .i64 m) = zb0 (⟨m, x.t⟩ :: Rs) := rfl
end Pl
namespace Mem
structure Cq (W : World) (S g cap : Nat) (Ds Rs : List Pl.It) : Prop where
 row : W.ownsRow S 71 2 (.slice (some ⟨g, 0, none⟩) (Ds.length + Rs.length) cap) (Ds.length + Rs.length) (Pl.zb0 (Ds ++ Rs))
 each : ∀ (i : Nat) x, Ds[i]? = some x → ownN W S x.t.val x.t.L ∧ ∀ q, x.t.val.ownBlock = some q → q ≠ g
 apart : ∀ (i j : Nat) x y, i ≠ j → Ds[i]? = some x → Ds[j]? = some y → ∀ q, x.t.val.ownBlock = some q → y.t.val.ownBlock ≠ some q
theorem Cq.call {W W' : World} {S g cap : Nat} {Ds Rs : List Pl.It} (h : Cq W S g cap Ds Rs) (b : Below W.heap.size W W') : Cq W' S g cap Ds Rs :=
 ⟨own_call h.row b, fun i x hx => ⟨zl7 (h.each i x hx).1 b, (h.each i x hx).2⟩, h.apart⟩
theorem Cq.step {W W1 : World} {S g cap : Nat} {Ds Rs : List Pl.It} {x : Pl.It} {t : Pl.Tr} (h : Cq W S g cap Ds (x :: Rs)) (b : Below W.heap.size W W1) (hS : S ≤ W.heap.size) (ht : ownN W1 W.heap.size t.val t.L) : Cq (W1.setCell ⟨g, Ds.length * 2 + 1, none⟩ t.val) S g cap (Ds ++ [⟨x.m, t⟩]) Rs := by
 have h1 := h.call b
 have hg : g < W.heap.size := (World.ownsRow.lt h.row g rfl).2
 have hgS : S ≤ g := (World.ownsRow.lt h.row g rfl).1
 have off : ∀ {v : Value} {L : List Pl.Nd} {B : Nat}, ownN W1 B v L → (∀ q, v.ownBlock = some q → q ≠ g) → ownN (W1.setCell ⟨g, Ds.length * 2 + 1, none⟩ t.val) B v L := fun {v L B} hv hn => by
  refine ⟨hv.1, ?_⟩
  rcases hv.2 with h0 | ⟨q, c, cur, e, hb, hq, rest⟩
  ·exact .inl h0
  ·exact .inr ⟨q, c, cur, e, hb, (heap_setCell_other _ _ _ _ (hn q (by rw [e]; rfl))).trans hq, rest⟩
 have hlo : ∀ q, t.val.ownBlock = some q → W.heap.size ≤ q := fun q hq => (zi0 ht q hq).1
 refine ⟨?_, fun i y hy => ?_, fun i j y z hij hy hz q hq => ?_⟩
 ·have h2 := own_put h1.row (Ds.length * 2 + 1) t.val
  rw [Pl.cellsI_tree] at h2
  have e : (Ds ++ [(⟨x.m, t⟩ : Pl.It)]).length + Rs.length = Ds.length + (x :: Rs).length := by simp; omega
  rw [e, List.append_assoc]
  exact h2
 ·by_cases e : i < Ds.length
  ·rw [List.getElem?_append_left e] at hy
   exact ⟨off (h1.each i y hy).1 (h1.each i y hy).2, (h1.each i y hy).2⟩
  ·rw [List.getElem?_append_right (by omega)] at hy
   have e0 : i - Ds.length = 0 := by
    have := (List.getElem?_eq_some_iff.1 hy).1
    simp at this; omega
   rw [e0] at hy
   simp at hy
   subst hy
   have hn : ∀ q, t.val.ownBlock = some q → q ≠ g := fun q hq => by have := hlo q hq; omega
   exact ⟨off (zm3 ht hS) hn, hn⟩
 ·by_cases e : i < Ds.length
  ·rw [List.getElem?_append_left e] at hy
   by_cases e2 : j < Ds.length
   ·rw [List.getElem?_append_left e2] at hz
    exact h.apart i j y z hij hy hz q hq
   ·rw [List.getElem?_append_right (by omega)] at hz
    have e0 : j - Ds.length = 0 := by
     have := (List.getElem?_eq_some_iff.1 hz).1
     simp at this; omega
    rw [e0] at hz
    simp at hz
    subst hz
    intro e3
    have h5 := hlo q e3
    have h6 := (zi0 (h.each i y hy).1 q hq).2
    omega
  ·rw [List.getElem?_append_right (by omega)] at hy
   have e0 : i - Ds.length = 0 := by
    have := (List.getElem?_eq_some_iff.1 hy).1
    simp at this; omega
   rw [e0] at hy
   simp at hy
   subst hy
   have h5 := hlo q hq
   have hj : j < Ds.length := by
    have := (List.getElem?_eq_some_iff.1 hz).1
    simp at this; omega
   rw [List.getElem?_append_left hj] at hz
   intro e3
   have h6 := (zi0 (h.each j z hz).1 q e3).2
   omega
theorem Cq.done {W : World} {S g cap : Nat} {Ds : List Pl.It} (h : Cq W S g cap Ds []) : Io W S (.slice (some ⟨g, 0, none⟩) Ds.length cap) Ds := by
 have h1 := h.row
 rw [List.length_nil, Nat.add_zero, List.append_nil] at h1
 exact ⟨h1, fun i x hx => ⟨(h.each i x hx).1, fun q hq e => (h.each i x hx).2 q hq (Option.some.inj e).symm⟩, h.apart⟩
end Mem
end Go.Proofs.YtlgbdbmikmbioaaGreatDoor

namespace Go.Proofs.YtlgbdbmikmbioaaGreatDoor
open Go.RowKit
namespace WPutT
theorem infoN : (Tryz.prog.info? 134).map (fun i => (i.zero, i.size, i.bytes)) = some (some (.agg #[.string ⟨#[]⟩, .int .i64 0, .string ⟨#[]⟩, .int .i64 0, .int .i64 0]), 5, 56) := by kernel_rfl
theorem cells_at {w : World} {g o : Nat} {M : List Pl.Nd} (h : Mem.za3 w (some ⟨g, o, none⟩) M) : ∀ j u, (Pl.zb7 M)[j]? = some u → w.cell? ((⟨g, o, none⟩ : Addr).add j) = some u := by
 intro j u hj
 have hlt : j < M.length * 5 := by
  have := (List.getElem?_eq_some_iff.1 hj).1
  rwa [Pl.zi4] at this
 have hd : j / 5 < M.length := by omega
 obtain ⟨g', o', e, h0, h1, h2, h3, h4, h5⟩ := h (j / 5) M[j / 5] (List.getElem?_eq_getElem hd)
 cases e
 have hc := Pl.zr8 M (j / 5) _ (List.getElem?_eq_getElem hd) (j % 5) (by omega)
 rw [show j / 5 * 5 + j % 5 = j by omega, hj] at hc
 rw [Mem.zn8]
 have hm : j % 5 = 0 ∨ j % 5 = 1 ∨ j % 5 = 2 ∨ j % 5 = 3 ∨ j % 5 = 4 := by omega
 have ej : o + j = o + j / 5 * 5 + j % 5 := by omega
 rw [ej, hc]
 rcases hm with h | h | h | h | h <;> rw [h]
 ·exact h1
 ·exact h2
 ·exact h3
 ·exact h4
 ·exact h5
theorem cells_one (M : List Pl.Nd) : ∀ u ∈ Pl.zb7 M, u.oneCell' = true := by
 intro u hu
 rw [Pl.zb7, List.mem_flatMap] at hu
 obtain ⟨n, _, hn⟩ := hu
 exact Mem.cs_one n u hn
theorem ownN_app {w : World} {B m : Nat} {v : Value} {A M : List Pl.Nd} (h : w.ownsRow B 134 5 v (A.length + m) (Pl.zb7 A ++ Pl.zb7 M)) (hm : m = M.length) : Mem.ownN w B v (A ++ M) := by
 subst hm
 unfold Mem.ownN
 rw [Pl.zw4, List.length_append]; exact h
end WPutT
end Go.Proofs.YtlgbdbmikmbioaaGreatDoor

namespace Go.Proofs.YtlgbdbmikmbioaaGreatDoor
open Go.RowKit
namespace WCopyV
set_option linter.unusedSimpArgs false in
set_option maxRecDepth 100000 in
set_option maxHeartbeats 1000000 in
theorem copy_any (a : Option Addr) (cap : Nat) (L : List Pl.Nd) (w : World) (hl : L.length ≤ 1000) (hA : Mem.okR a cap L) (hv : Mem.za3 w a L) :
  Calls Tryz.prog 55 #[.agg #[.slice a L.length cap]] w fun e w' => ∃ v, e = .returned (.agg #[v]) ∧ Mem.ownN w' w.heap.size v L ∧ Below w.heap.size w w' := by
 obtain ⟨i0, hi, hz0, hz1, hz2⟩ := info_parts WPutT.infoN
 have b2 : Below w.heap.size w (((w.alloc (.cells #[.slice a L.length cap] 69)).alloc (.cells #[.slice none 0 0] 69)).alloc (.cells #[] 134)) := (((Below.refl _ _).alloc (Nat.le_refl _) _).alloc (by simp) _).alloc (by simp; omega) _
 have B0 := ((Mem.Blk.new w #[.slice a L.length cap] 69).alloc (.cells #[.slice none 0 0] 69)).alloc (.cells #[] 134)
 have B1 : Mem.Blk (((w.alloc (.cells #[.slice a L.length cap] 69)).alloc (.cells #[.slice none 0 0] 69)).alloc (.cells #[] 134)) (w.heap.size + 1) #[.slice none 0 0] 69 := (show Mem.Blk ((w.alloc (.cells #[.slice a L.length cap] 69)).alloc (.cells #[.slice none 0 0] 69)) (w.heap.size + 1) #[.slice none 0 0] 69 from Mem.zj9 _ _ _).alloc _
 have OA : Hid (Mem.ownN (((w.alloc (.cells #[.slice a L.length cap] 69)).alloc (.cells #[.slice none 0 0] 69)).alloc (.cells #[] 134)) (w.heap.size + 2) (.slice (some ⟨w.heap.size + 2, 0, none⟩) 0 0) []) := by
  refine ⟨rfl, .inr ⟨w.heap.size + 2, 0, #[], rfl, Nat.le_refl _, ?_, Nat.le_refl _, Nat.zero_le _, rfl, rfl⟩⟩
  have h := heap_alloc_new ((w.alloc (.cells #[.slice a L.length cap] 69)).alloc (.cells #[.slice none 0 0] 69)) (.cells #[] 134)
  rw [show ((w.alloc (.cells #[.slice a L.length cap] 69)).alloc (.cells #[.slice none 0 0] 69)).heap.size = w.heap.size + 2 by simp] at h
  exact h
 have NV := hide (Mem.za4 hv b2)
 have x0 := B0.cell 0
 simp only [kA0, kA1] at x0
 clear hv
 rcases hA with ⟨rfl, rfl, rfl⟩ | ⟨g, o, rfl⟩
 ·simp only [List.length_nil] at OA B1 b2 x0 ⊢
  have z0 := B1.cell 0
  have zf := B1.fr 0
  simp only [kA0, kA1] at z0
  have BB := (B1.put 0 (.slice (some ⟨w.heap.size + 2, 0, none⟩) 0 0)).cell 0
  go_enter Tryz.func55, Tryz.ntmps55
  go_wp2_with (at_builtin; refine wpList_append_own_none rfl _ _ 67 rfl (w.heap.size + 2) 134 i0 5 Tryz.underlying67 hi _ _ _ rfl (za OA) rfl ?_)
  refine bodyPost_ret (v := .agg #[.slice (some ⟨w.heap.size + 1 + 1, 0, none⟩) 0 0]) (by simp [results, Tryz.results55, go_sem, z0]) rfl ⟨_, rfl, ?_, ?_⟩
  ·refine ⟨rfl, .inr ⟨w.heap.size + 1 + 1, 0, #[], rfl, by omega, ?_, Nat.le_refl _, Nat.zero_le _, rfl, rfl⟩⟩
   have h := heap_alloc_new ((w.alloc (.cells #[.slice none 0 0] 69)).alloc (.cells #[.slice (some ⟨w.heap.size + 1 + 1, 0, none⟩) 0 0] 69)) (.cells #[] 134)
   rw [show ((w.alloc (.cells #[.slice none 0 0] 69)).alloc (.cells #[.slice (some ⟨w.heap.size + 1 + 1, 0, none⟩) 0 0] 69)).heap.size = w.heap.size + 1 + 1 by simp] at h
   exact h
  ·exact (((Below.refl _ _).alloc (Nat.le_refl _) _).alloc (by simp) _).alloc (by simp; omega) _
 ·go_enter Tryz.func55, Tryz.ntmps55
  go_wp2_with (at_builtin; refine wpList_append_own _ rfl _ _ 67 rfl (w.heap.size + 2) 134 i0 _ 5 56 Tryz.underlying67 hi hz0 hz1 hz2 rfl (by decide) _ _ _ rfl (za OA) ⟨g, o, none⟩ L.length cap (Pl.zb7 L) rfl (by rw [Pl.zi4]) (WPutT.cells_at (za NV)) (WPutT.cells_one _) (by rw [List.length_nil, Nat.zero_add]; unfold maxLen; omega) (by rw [List.length_nil, Nat.zero_add]; omega) (by simp) ?_)
  intro v1 wA ownA growA _
  have OB := hide (WPutT.ownN_app (A := []) (M := L) (m := L.length) (by rw [List.length_nil, Nat.zero_add]; exact ownA) rfl)
  rw [List.nil_append] at OB
  have hg1 : ∀ q, (Value.slice (some ⟨w.heap.size + 2, 0, none⟩) 0 0).ownBlock = some q → q = w.heap.size + 2 := fun q hq => (Option.some.inj hq).symm
  have B1 := B1.grown growA (fun e => by have := hg1 _ e.symm; omega)
  have b3 := b2.grown growA b2.size (fun q hq => by have := hg1 q hq; omega)
  obtain ⟨a3, c3, hv3⟩ := Mem.zd4 (za OB)
  subst hv3
  have z0 := B1.cell 0
  have zf := B1.fr 0
  simp only [kA0, kA1] at z0
  clear ownA growA hg1 OA NV x0 B0 b2
  go_wp2
  refine bodyPost_ret (v := .agg #[.slice a3 L.length c3]) (by simp [results, Tryz.results55, go_sem, z0]) rfl ⟨_, rfl, ?_, ?_⟩
  ·exact Mem.zm3 (Mem.ownN_set (za OB) _ _ (by show w.heap.size + 1 < w.heap.size + 2; omega)) (by omega)
  ·exact b3.setCell (by show w.heap.size ≤ w.heap.size + 1; omega) _
end WCopyV
end Go.Proofs.YtlgbdbmikmbioaaGreatDoor

namespace Go.Proofs.YtlgbdbmikmbioaaGreatDoor
open Go.RowKit
namespace Mem
theorem items_cells {w : World} {b o : Nat} {Is : List Pl.It} (h : za5 w (some ⟨b, o, none⟩) Is) : ∀ j u, (Pl.zb0 Is)[j]? = some u → w.cell? ((⟨b, o, none⟩ : Addr).add j) = some u := by
 intro j u hj
 have hlt := (List.getElem?_eq_some_iff.1 hj).1
 rw [Pl.zt2] at hlt
 have ea : (⟨b, o, none⟩ : Addr).add j = ⟨b, o + j, none⟩ := by unfold Addr.add; split <;> simp_all
 rw [ea]
 obtain ⟨x, hx⟩ : ∃ x, Is[j / 2]? = some x := ⟨_, List.getElem?_eq_getElem (by omega)⟩
 obtain ⟨⟨b', o', e, hb, q0, q1⟩, -⟩ := h (j / 2) x hx
 cases e
 obtain ⟨c0, c1⟩ := Pl.zm1 Is (j / 2) x hx
 rcases Nat.mod_two_eq_zero_or_one j with hm | hm
 ·have e1 : j = j / 2 * 2 := by omega
  rw [← e1] at c0 q0
  rw [c0] at hj
  cases hj
  exact q0
 ·have e1 : j = j / 2 * 2 + 1 := by omega
  rw [← e1] at c1
  rw [show o + j / 2 * 2 + 1 = o + j by omega] at q1
  rw [c1] at hj
  cases hj
  exact q1
end Mem
namespace WCopy5
theorem infoI : (Tryz.prog.info? 71).map (fun i => (i.zero, i.size, i.bytes)) = some (some (.agg #[.int .i64 0, .slice none 0 0]), 2, 32) := by kernel_rfl
set_option linter.unusedSimpArgs false in
set_option maxRecDepth 100000 in
set_option maxHeartbeats 1000000 in
theorem copy_any (b o cap : Nat) (Is : List Pl.It) (hl : Is.length ≤ 12) (h0 : Is.length ≠ 0) (hL : ∀ x ∈ Is, x.t.L.length ≤ 1000) (hR : ∀ x ∈ Is, Mem.okR x.t.a x.t.cap x.t.L) (w : World) (hv : Mem.za5 w (some ⟨b, o, none⟩) Is) :
  Calls Tryz.prog 26 #[.slice (some ⟨b, o, none⟩) Is.length cap] w fun e w' => ∃ g cap' Ds, e = .returned (.slice (some ⟨g, 0, none⟩) Is.length cap') ∧ w.heap.size ≤ g ∧ Mem.Io w' w.heap.size (.slice (some ⟨g, 0, none⟩) Is.length cap') Ds ∧ Ds.map Pl.It.r = Is.map Pl.It.r ∧ Below w.heap.size w w' := by
 obtain ⟨i0, hi, hz0, hz1, hz2⟩ := info_parts infoI
 have b0 : Below w.heap.size w (w.alloc (.cells #[] 71)) := (Below.refl _ _).alloc (Nat.le_refl _) _
 have O0 : Hid ((w.alloc (.cells #[] 71)).ownsRow w.heap.size 71 2 (.slice (some ⟨w.heap.size, 0, none⟩) 0 0) 0 []) := ⟨rfl, .inr ⟨w.heap.size, 0, #[], rfl, Nat.le_refl _, heap_alloc_new _ _, Nat.le_refl _, Nat.zero_le _, rfl, rfl⟩⟩
 have HC := hide (Mem.items_cells (Mem.za8 hv b0))
 have HCP := hide (fun (x : Pl.It) (j : Nat) (hx : Is[j]? = some x) W (bb : Below w.heap.size w W) => WCopyV.copy_any x.t.a x.t.cap x.t.L W (hL x (List.mem_of_getElem? hx)) (hR x (List.mem_of_getElem? hx)) (Mem.za4 (hv j x hx).2 bb))
 clear hv hL hR
 go_enter Tryz.func26, Tryz.ntmps26
 go_wp2_with (at_builtin; refine Mem.zi6 _ rfl _ _ 32 rfl w.heap.size 71 i0 (.agg #[.int .i64 0, .slice none 0 0]) 2 32 Tryz.underlying32 hi hz0 hz1 hz2 rfl (by decide) _ _ _ rfl (za O0) ⟨b, o, none⟩ Is.length cap (Pl.zb0 Is) rfl (Pl.zt2 Is) (za HC) (Pl.zw0 Is) (by unfold maxLen; omega) (by omega) (by simp) ?_)
 intro v1 w1 own1 gr1 far1
 have hsh : ∃ g cap', v1 = .slice (some ⟨g, 0, none⟩) Is.length cap' := by
  rcases own1.2 with ⟨e, hz⟩ | ⟨g, c, cur, e, rest⟩
  ·exact absurd hz h0
  ·exact ⟨g, c, e⟩
 obtain ⟨g, cap', rfl⟩ := hsh
 have hg := World.ownsRow.lt own1 g rfl
 have bw1 := b0.grown gr1 (by simp) (fun q hq => by cases hq; exact Nat.le_refl _)
 have CQ : Hid (Mem.Cq w1 w.heap.size g cap' [] (Is.drop ([] : List Pl.It).length)) := hide ⟨by simpa using own1, fun i x hx => (by cases hx), fun i j x y _ hx => (by cases hx)⟩
 have DM : Hid (([] : List Pl.It).map Pl.It.r = (Is.take ([] : List Pl.It).length).map Pl.It.r) := rfl
 have HGW := hide hg.1
 clear own1 gr1 far1 O0 HC b0 hg
 go_wp2
 go_loopw [4] (fun i wr => ∃ Ds : List Pl.It, i = .int .i64 (Ds.length : Int) ∧ Ds.length ≤ Is.length ∧ Below w.heap.size w wr ∧ Hid (Mem.Cq wr w.heap.size g cap' Ds (Is.drop Ds.length)) ∧ Hid (Ds.map Pl.It.r = (Is.take Ds.length).map Pl.It.r)) (fun i _ => Is.length - (intOf i).toNat)
 case atStart => exact ⟨[], rfl, Nat.zero_le _, bw1, CQ, DM⟩
 case round =>
  obtain ⟨Ds, rfl, hD, hbel, HQ, HM⟩ := hrel
  clear CQ DM bw1
  by_cases hlt : Ds.length < Is.length
  ·obtain ⟨x, hx⟩ : ∃ x, Is[Ds.length]? = some x := ⟨_, List.getElem?_eq_getElem hlt⟩
   have hdr : Is.drop Ds.length = x :: Is.drop (Ds.length + 1) := by
    rw [List.drop_eq_getElem_cons hlt]
    congr 1
    exact Option.some.inj ((List.getElem?_eq_getElem hlt).symm.trans hx)
   rw [hdr] at HQ
   have u1 : (Ds.length : Int) < (Is.length : Int) := by omega
   have u3 : (0 : Int) ≤ (Ds.length : Int) := by omega
   obtain ⟨ce, -⟩ := Mem.own_cell (za HQ).row (k := Ds.length * 2 + 1) (u := x.t.val) (Pl.zm1 _ Ds.length x (by rw [List.getElem?_append_right (Nat.le_refl _), Nat.sub_self]; rfl)).2
   simp only [Pl.Tr.val] at ce
   have hcp := hide (za HCP x Ds.length hx wr hbel)
   have hS := hbel.size
   have HST := hide (fun W1 b t ht => (za HQ).step (W1 := W1) (t := t) b hS ht)
   have HQ2 := hide (fun W1 (b : Below wr.heap.size wr W1) => (Mem.own_cell ((za HQ).call b).row (k := Ds.length * 2 + 1) (u := x.t.val) (Pl.zm1 _ Ds.length x (by rw [List.getElem?_append_right (Nat.le_refl _), Nat.sub_self]; rfl)).2))
   have HMX : Hid ((Is.take (Ds.length + 1)).map Pl.It.r = (Is.take Ds.length).map Pl.It.r ++ [x.r]) := hide (by rw [List.take_add_one, hx, List.map_append]; rfl)
   clear hdr hx HQ
   go_wp2_with fail
   refine (za hcp).mono ?_
   rintro e w2 ⟨v2, rfl, own2, b2⟩
   obtain ⟨a2, c2, rfl⟩ := Mem.zd4 own2
   obtain ⟨ce2, cf2⟩ := za HQ2 w2 b2
   have Q3 := hide (za HST w2 b2 ⟨a2, c2, x.t.L⟩ own2)
   have bw2 := hbel.trans (b2.mono hbel.size)
   have HB := hide (bw2.setCell (p := ⟨g, Ds.length * 2 + 1, none⟩) (za HGW) (.slice a2 x.t.L.length c2))
   have HM3 : Hid ((Ds ++ [(⟨x.m, ⟨a2, c2, x.t.L⟩⟩ : Pl.It)]).map Pl.It.r = (Is.take (Ds.length + 1)).map Pl.It.r) := hide (by rw [List.map_append, za HM, za HMX]; rfl)
   simp only [Pl.Tr.val] at ce2 Q3
   clear hcp HST HQ2 HMX HM own2 b2 bw2 ce hbel
   go_wp2
   go_roundw
   case rel =>
    refine ⟨Ds ++ [⟨x.m, ⟨a2, c2, x.t.L⟩⟩], ?_, ?_, za HB, ?_, ?_⟩
    ·rw [List.length_append, List.length_singleton]; go_num
    ·rw [List.length_append, List.length_singleton]; omega
    ·rw [List.length_append, List.length_singleton]; exact Q3
    ·rw [List.length_append, List.length_singleton]; exact HM3
   case measure => simp [intOf]; omega
  ·have u1 : ¬ (Ds.length : Int) < (Is.length : Int) := by omega
   have hDe : Ds.length = Is.length := by omega
   have IO : Hid (Mem.Io wr w.heap.size (.slice (some ⟨g, 0, none⟩) Is.length cap') Ds) := hide (by
    have h1 := za HQ
    rw [hDe, List.drop_length] at h1
    have h2 := h1.done
    rw [hDe] at h2
    exact h2)
   have HM3 : Hid (Ds.map Pl.It.r = Is.map Pl.It.r) := hide (by have := za HM; rw [hDe, List.take_length] at this; exact this)
   clear HQ HM hDe
   go_wp2
   go_ret
   exact ⟨g, cap', rfl, za HGW, Ds, za IO, za HM3, hbel⟩
end WCopy5
end Go.Proofs.YtlgbdbmikmbioaaGreatDoor

