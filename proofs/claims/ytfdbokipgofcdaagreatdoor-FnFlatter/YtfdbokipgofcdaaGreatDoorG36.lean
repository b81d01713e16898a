/- Several texts of one claim in one file: WLast6, WCanS, MemPutI, WCopyV. -/
import Derived.Test.YtfdbokipgofcdaaGreatDoorG34
import Derived.Test.YtfdbokipgofcdaaGreatDoorG35
import Derived.Test.YtfdbokipgofcdaaGreatDoorG13
import Derived.Test.YtfdbokipgofcdaaGreatDoorG00
import Derived.Test.YtfdbokipgofcdaaGreatDoorG07
import Derived.Test.YtfdbokipgofcdaaGreatDoorG18
import Derived.Laws.AppendOwnNone
set_option linter.unusedSimpArgs false
namespace Go.Proofs.YtfdbokipgofcdaaGreatDoor
open Go.RowKit
namespace zn4
set_option maxRecDepth 100000 in
set_option maxHeartbeats 2000000 in
theorem last2 (a : Option Addr) (cap : Nat) (Is : List Pl.It) (hl : Is.length ≤ 12) (hok : ∀ x ∈ Is, x.t.L.length ≤ 1048576 ∧ ∀ n ∈ x.t.L, n.path.size ≤ 1048576 ∧ n.data.size ≤ 1048576) (L L1 : List Pl.Nd) (A k1 : Pl.Fx) (hA : A.len = 1) (w : World) (hx : (Pl.Fx.cons L (A.app (.cons L1 k1 .nil)) .nil).okX) (hd : (A.app (.cons L1 k1 .nil)).shape.depth ≤ 3) (hfl : (Pl.Fx.cons L (A.app (.cons L1 k1 .nil)) .nil).flat = Is.map Pl.It.r) (hv : Mem.za6 w a Is) :
  Calls Tryz.prog 59 #[.slice a Is.length cap] w fun e w' => e = .returned (.int .i64 (if k1.len = 0 ∨ 4 < A.len + k1.len then -1 else ((1 + A.sz : Nat) : Int))) ∧ Below w.heap.size w w' := by
 have hf0 : (Is.drop 0).map Pl.It.r = (Pl.Fx.cons L (A.app (.cons L1 k1 .nil)) .nil).flat ++ [] := by rw [List.drop_zero, List.append_nil, hfl]
 obtain ⟨x, hxp, hxm, -, hrest⟩ := zp0.zo5 hf0
 have hk4 : k1.len ≤ 4 := (Pl.Fx.zw8 hx.2.2.2.1).2.2.2.1
 rw [Pl.Fx.zz9, List.append_assoc] at hrest
 have hdr := zp0.yj hrest
 obtain ⟨x2, hx2, hx2m, -, -⟩ := zp0.zo5 hdr
 rw [show 0 + 1 + A.sz = 1 + A.sz by omega] at hx2
 have hlay := hide (fun W (bb : Below w.heap.size w W) => zn4.ym0 a cap Is hl hok L (A.app (.cons L1 k1 .nil)) 0 W hx hd ⟨_, hf0⟩ (Mem.zc1 hv bb))
 rw [Pl.yn2] at hlay
 rw [show Pl.starts (.cons L1 k1 .nil) (0 + 1 + A.sz) = [0 + 1 + A.sz] from rfl, show 0 + 1 + A.sz = 1 + A.sz by omega] at hlay
 obtain ⟨kk, hkk⟩ : ∃ kk, kk = 1 + A.sz := ⟨_, rfl⟩
 rw [← hkk] at hx2 hlay ⊢
 generalize hRV : (if k1.len = 0 ∨ 4 < A.len + k1.len then (-1 : Int) else (kk : Int)) = RV
 have HRV := hide hRV
 clear hRV
 have hsl := Pl.yo5 A (0 + 1)
 generalize Pl.starts A (0 + 1) = ss at hlay hsl
 have hkl := (List.getElem?_eq_some_iff.1 hx2).1
 obtain ⟨⟨b, o, hab, hb, q0, -⟩, -⟩ := hv 0 x hxp
 subst hab
 obtain ⟨⟨b2, o2, hab2, -, q2, -⟩, -⟩ := hv kk x2 hx2
 cases hab2
 have hlen0 : 0 < Is.length := (List.getElem?_eq_some_iff.1 hxp).1
 rw [hxm, Pl.Fx.zh9, hA, show (Pl.Fx.cons L1 k1 .nil).len = 1 from rfl] at q0
 simp only [Nat.zero_mul, Nat.add_zero, Nat.reduceAdd] at q0
 rw [hx2m] at q2
 have q0' : w.cell? ⟨b, o, none⟩ = some (.int .i64 2) := q0
 have t1 : (0 : Int) < (Is.length : Int) := by omega
 have t2 : (kk : Int) < (Is.length : Int) := by omega
 have t3 : (0 : Int) ≤ (kk : Int) := by omega
 have HBw := hide hb
 have HQ2 := hide q2
 have HSL := hide hsl
 have HA := hide hA
 clear hv hok hfl hf0 hrest hdr hxp hx2 hxm hx2m hx hd q0 q2 hkk hkl hsl hA
 go_enter Tryz.func59, Tryz.ntmps59
 go_wp2_with fail
 refine (za hlay _ (Below.refl _ _)).mono ?_
 rintro e w3 ⟨v3, rfl, own3, bw3⟩
 obtain ⟨a3, c3, hv3⟩ := Mem.za1 own3
 subst hv3
 have hl3 : (ss ++ [kk]).length = 2 := by rw [List.length_append, za HSL, za HA]; rfl
 have hcell : ∃ g3, a3 = some ⟨g3, 0, none⟩ ∧ w3.cell? ⟨g3, 1, none⟩ = some (.int .i64 (kk : Int)) := by
  rcases own3.2 with ⟨e, h0⟩ | ⟨g, c, cur, e, hb', hg, rest⟩
  ·rw [hl3] at h0; cases h0
  ·cases e
   refine ⟨g, rfl, ?_⟩
   have := World.ownsRow.cells own3 (g := g) rfl 1 (.int .i64 (kk : Int)) (by
    unfold WPick.intsV
    rw [List.map_append, List.getElem?_append_right (by rw [List.length_map, za HSL, za HA]; exact Nat.le_refl _), List.length_map, za HSL, za HA]
    rfl)
   rw [Mem.add_lit] at this
   exact this
 obtain ⟨g3, ha3, hc3⟩ := hcell
 subst ha3
 rw [hl3]
 have C0 := hide ((bw3.cell (p := ⟨b, o, none⟩) (za HBw)).trans q0')
 have C2 := hide ((bw3.cell (p := ⟨b, o + kk * 2, none⟩) (za HBw)).trans (za HQ2))
 have HBL : Hid (b < w3.heap.size) := hide (Nat.lt_of_lt_of_le (za HBw) bw3.size)
 have HBB := hide bw3
 clear hlay own3 hl3 q0' HQ2 HBw bw3
 by_cases hk0 : k1.len = 0
 ·rw [hk0] at C2
  have E : Hid (RV = -1) := hide (by rw [← za HRV, if_pos (.inl hk0)])
  have MK : Hid (∀ W', Below w3.heap.size w3 W' → (fun W' => Below w3.heap.size w3 W' ∧ W'.cell? ⟨b, o, none⟩ = some (.int .i64 2) ∧ W'.cell? ⟨b, o + kk * 2, none⟩ = some (.int .i64 ((0 : Nat) : Int))) W') := fun W' hb => ⟨hb, (hb.cell (p := ⟨b, o, none⟩) (za HBL)).trans (za C0), (hb.cell (p := ⟨b, o + kk * 2, none⟩) (za HBL)).trans (za C2)⟩
  rw [show (((0 : Nat) : Int)) = 0 from rfl] at MK
  clear C0 C2
  go_wp2_with fail
  refine wp_region_held_drew (S := fun W' => Below w3.heap.size w3 W' ∧ W'.cell? ⟨b, o, none⟩ = some (.int .i64 2) ∧ W'.cell? ⟨b, o + kk * 2, none⟩ = some (.int .i64 0)) (by kernel_rfl) ?_ (fun hHeld => ?_)
  ·exact za MK _ ((Below.refl _ _).trans ⟨rfl, rfl, rfl, Nat.le_refl _, fun _ _ => rfl⟩)
  refine tka (i := 0) rfl ?_
  try simp only [Act.put, kBs]
  refine tka (i := 1) rfl ?_
  try simp only [Act.put, kBs]
  refine tka (i := 2) rfl ?_
  try simp only [Act.put, kBs]
  refine tka (i := 3) rfl ?_
  try simp only [Act.put, kBs]
  refine tka (i := 4) rfl ?_
  try simp only [Act.put, kBs]
  refine tka (i := 5) rfl ?_
  try simp only [Act.put, kBs]
  refine tka (i := 6) rfl ?_
  try simp only [Act.put, kBs]
  refine tkc (i := 7) rfl ?_
  try simp only [Act.put, kBs]
  refine tkc (i := 8) rfl ?_
  try simp only [Act.put, kBs]
  refine tkc (i := 9) rfl ?_
  try simp only [Act.put, kBs]
  refine tkc (i := 10) rfl ?_
  try simp only [Act.put, kBs]
  refine tkc (i := 11) rfl ?_
  try simp only [Act.put, kBs]
  refine tkc (i := 12) rfl ?_
  try simp only [Act.put, kBs]
  refine tkc (i := 13) rfl ?_
  try simp only [Act.put, kBs]
  refine tkc (i := 14) rfl ?_
  try simp only [Act.put, kBs]
  refine tkc (i := 15) rfl ?_
  try simp only [Act.put, kBs]
  refine tkc (i := 16) rfl ?_
  try simp only [Act.put, kBs]
  refine tkc (i := 17) rfl ?_
  try simp only [Act.put, kBs]
  refine tkc (i := 18) rfl ?_
  try simp only [Act.put, kBs]
  refine tka (i := 19) rfl ?_
  try simp only [Act.put, kBs]
  refine wpAnyH_done (by kernel_rfl) ?_ _
  have bb := (za HBB).trans (hHeld.1.mono (za HBB).size)
  clear hHeld MK HBB
  go_wp2
  go_ret
  exact ⟨by rw [za E]; rfl, bb⟩
 have e1 : ((k1.len : Int) == 0) = false := by simpa using hk0
 have e2 : decide ((k1.len : Int) = 0) = false := by simpa using hk0
 have hwA : IntKind.i64.wrap (1 : Int) = 1 := by decide
 have hwB : IntKind.i64.wrap ((1 : Int) + (k1.len : Int)) = 1 + (k1.len : Int) := by rw [IntKind.wrap_i64]; omega
 have MK : Hid (∀ W', Below w3.heap.size w3 W' → (fun W' => Below w3.heap.size w3 W' ∧ W'.cell? ⟨b, o, none⟩ = some (.int .i64 2) ∧ W'.cell? ⟨b, o + kk * 2, none⟩ = some (.int .i64 (k1.len : Int))) W') := fun W' hb => ⟨hb, (hb.cell (p := ⟨b, o, none⟩) (za HBL)).trans (za C0), (hb.cell (p := ⟨b, o + kk * 2, none⟩) (za HBL)).trans (za C2)⟩
 clear C0 C2
 have hAA := za HA
 by_cases h4 : 4 < A.len + k1.len
 ·have E : Hid (RV = -1) := hide (by rw [← za HRV, if_pos (.inr h4)])
  have u1 : (4 : Int) < 1 + (k1.len : Int) := by omega
  clear HA HSL
  go_wp2_with fail
  refine wp_region_held_drew (S := fun W' => Below w3.heap.size w3 W' ∧ W'.cell? ⟨b, o, none⟩ = some (.int .i64 2) ∧ W'.cell? ⟨b, o + kk * 2, none⟩ = some (.int .i64 (k1.len : Int))) (by kernel_rfl) ?_ (fun hHeld => ?_)
  ·exact za MK _ ((Below.refl _ _).trans ⟨rfl, rfl, rfl, Nat.le_refl _, fun _ _ => rfl⟩)
  refine tka (i := 0) rfl ?_
  try simp only [Act.put, kBs]
  refine tka (i := 1) rfl ?_
  try simp only [Act.put, kBs]
  refine tka (i := 2) rfl ?_
  try simp only [Act.put, kBs]
  refine tka (i := 3) rfl ?_
  try simp only [Act.put, kBs]
  refine tka (i := 4) rfl ?_
  try simp only [Act.put, kBs]
  refine tka (i := 5) rfl ?_
  try simp only [Act.put, kBs]
  refine tka (i := 6) rfl ?_
  try simp only [Act.put, kBs]
  refine tka (i := 7) rfl ?_
  try simp only [Act.put, kBs]
  refine tka (i := 8) rfl ?_
  try simp only [Act.put, kBs]
  refine tka (i := 9) rfl ?_
  try simp only [Act.put, kBs]
  refine tka (i := 10) rfl ?_
  try simp only [Act.put, kBs]
  refine tka (i := 11) rfl ?_
  try simp only [Act.put, kBs]
  refine tka (i := 12) rfl ?_
  try simp only [Act.put, kBs]
  refine tka (i := 13) rfl ?_
  try simp only [Act.put, kBs]
  refine tka (i := 14) rfl ?_
  try simp only [Act.put, kBs]
  refine tka (i := 15) rfl ?_
  try simp only [Act.put, kBs]
  refine tka (i := 16) rfl ?_
  try simp only [Act.put, kBs]
  refine tka (i := 17) rfl ?_
  try simp only [Act.put, kBs]
  refine tka (i := 18) rfl ?_
  try simp only [Act.put, kBs]
  refine tka (i := 19) rfl ?_
  try simp only [Act.put, kBs]
  refine wpAnyH_done (by kernel_rfl) ?_ _
  have bb := (za HBB).trans (hHeld.1.mono (za HBB).size)
  clear hHeld MK HBB
  go_wp2
  go_ret
  exact ⟨by rw [za E]; rfl, bb⟩
 have E : Hid (RV = (kk : Int)) := hide (by rw [← za HRV, if_neg (by omega)])
 have u1 : ¬ (4 : Int) < 1 + (k1.len : Int) := by omega
 clear HA HSL
 go_wp2_with fail
 refine wp_region_held_drew (S := fun W' => Below w3.heap.size w3 W' ∧ W'.cell? ⟨b, o, none⟩ = some (.int .i64 2) ∧ W'.cell? ⟨b, o + kk * 2, none⟩ = some (.int .i64 (k1.len : Int))) (by kernel_rfl) ?_ (fun hHeld => ?_)
 ·exact za MK _ ((Below.refl _ _).trans ⟨rfl, rfl, rfl, Nat.le_refl _, fun _ _ => rfl⟩)
 refine tka (i := 0) rfl ?_
 try simp only [Act.put, kBs]
 refine tka (i := 1) rfl ?_
 try simp only [Act.put, kBs]
 refine tka (i := 2) rfl ?_
 try simp only [Act.put, kBs]
 refine tka (i := 3) rfl ?_
 try simp only [Act.put, kBs]
 refine tka (i := 4) rfl ?_
 try simp only [Act.put, kBs]
 refine tka (i := 5) rfl ?_
 try simp only [Act.put, kBs]
 refine tka (i := 6) rfl ?_
 try simp only [Act.put, kBs]
 refine tka (i := 7) rfl ?_
 try simp only [Act.put, kBs]
 refine tka (i := 8) rfl ?_
 try simp only [Act.put, kBs]
 refine tka (i := 9) rfl ?_
 try simp only [Act.put, kBs]
 refine tka (i := 10) rfl ?_
 try simp only [Act.put, kBs]
 refine tka (i := 11) rfl ?_
 try simp only [Act.put, kBs]
 refine tka (i := 12) rfl ?_
 try simp only [Act.put, kBs]
 refine tka (i := 13) rfl ?_
 try simp only [Act.put, kBs]
 refine tka (i := 14) rfl ?_
 try simp only [Act.put, kBs]
 refine tka (i := 15) rfl ?_
 try simp only [Act.put, kBs]
 refine tka (i := 16) rfl ?_
 try simp only [Act.put, kBs]
 refine tka (i := 17) rfl ?_
 try simp only [Act.put, kBs]
 refine tka (i := 18) rfl ?_
 try simp only [Act.put, kBs]
 refine tka (i := 19) rfl ?_
 try simp only [Act.put, kBs]
 refine wpAnyH_done (by kernel_rfl) ?_ _
 have bb := (za HBB).trans (hHeld.1.mono (za HBB).size)
 clear hHeld MK HBB
 go_wp2
 go_ret
 exact ⟨by rw [za E]; rfl, bb⟩
set_option maxRecDepth 100000 in
set_option maxHeartbeats 2000000 in
theorem last3 (a : Option Addr) (cap : Nat) (Is : List Pl.It) (hl : Is.length ≤ 12) (hok : ∀ x ∈ Is, x.t.L.length ≤ 1048576 ∧ ∀ n ∈ x.t.L, n.path.size ≤ 1048576 ∧ n.data.size ≤ 1048576) (L L1 : List Pl.Nd) (A k1 : Pl.Fx) (hA : A.len = 2) (w : World) (hx : (Pl.Fx.cons L (A.app (.cons L1 k1 .nil)) .nil).okX) (hd : (A.app (.cons L1 k1 .nil)).shape.depth ≤ 3) (hfl : (Pl.Fx.cons L (A.app (.cons L1 k1 .nil)) .nil).flat = Is.map Pl.It.r) (hv : Mem.za6 w a Is) :
  Calls Tryz.prog 59 #[.slice a Is.length cap] w fun e w' => e = .returned (.int .i64 (if k1.len = 0 ∨ 4 < A.len + k1.len then -1 else ((1 + A.sz : Nat) : Int))) ∧ Below w.heap.size w w' := by
 have hf0 : (Is.drop 0).map Pl.It.r = (Pl.Fx.cons L (A.app (.cons L1 k1 .nil)) .nil).flat ++ [] := by rw [List.drop_zero, List.append_nil, hfl]
 obtain ⟨x, hxp, hxm, -, hrest⟩ := zp0.zo5 hf0
 have hk4 : k1.len ≤ 4 := (Pl.Fx.zw8 hx.2.2.2.1).2.2.2.1
 rw [Pl.Fx.zz9, List.append_assoc] at hrest
 have hdr := zp0.yj hrest
 obtain ⟨x2, hx2, hx2m, -, -⟩ := zp0.zo5 hdr
 rw [show 0 + 1 + A.sz = 1 + A.sz by omega] at hx2
 have hlay := hide (fun W (bb : Below w.heap.size w W) => zn4.ym0 a cap Is hl hok L (A.app (.cons L1 k1 .nil)) 0 W hx hd ⟨_, hf0⟩ (Mem.zc1 hv bb))
 rw [Pl.yn2] at hlay
 rw [show Pl.starts (.cons L1 k1 .nil) (0 + 1 + A.sz) = [0 + 1 + A.sz] from rfl, show 0 + 1 + A.sz = 1 + A.sz by omega] at hlay
 obtain ⟨kk, hkk⟩ : ∃ kk, kk = 1 + A.sz := ⟨_, rfl⟩
 rw [← hkk] at hx2 hlay ⊢
 generalize hRV : (if k1.len = 0 ∨ 4 < A.len + k1.len then (-1 : Int) else (kk : Int)) = RV
 have HRV := hide hRV
 clear hRV
 have hsl := Pl.yo5 A (0 + 1)
 generalize Pl.starts A (0 + 1) = ss at hlay hsl
 have hkl := (List.getElem?_eq_some_iff.1 hx2).1
 obtain ⟨⟨b, o, hab, hb, q0, -⟩, -⟩ := hv 0 x hxp
 subst hab
 obtain ⟨⟨b2, o2, hab2, -, q2, -⟩, -⟩ := hv kk x2 hx2
 cases hab2
 have hlen0 : 0 < Is.length := (List.getElem?_eq_some_iff.1 hxp).1
 rw [hxm, Pl.Fx.zh9, hA, show (Pl.Fx.cons L1 k1 .nil).len = 1 from rfl] at q0
 simp only [Nat.zero_mul, Nat.add_zero, Nat.reduceAdd] at q0
 rw [hx2m] at q2
 have q0' : w.cell? ⟨b, o, none⟩ = some (.int .i64 3) := q0
 have t1 : (0 : Int) < (Is.length : Int) := by omega
 have t2 : (kk : Int) < (Is.length : Int) := by omega
 have t3 : (0 : Int) ≤ (kk : Int) := by omega
 have HBw := hide hb
 have HQ2 := hide q2
 have HSL := hide hsl
 have HA := hide hA
 clear hv hok hfl hf0 hrest hdr hxp hx2 hxm hx2m hx hd q0 q2 hkk hkl hsl hA
 go_enter Tryz.func59, Tryz.ntmps59
 go_wp2_with fail
 refine (za hlay _ (Below.refl _ _)).mono ?_
 rintro e w3 ⟨v3, rfl, own3, bw3⟩
 obtain ⟨a3, c3, hv3⟩ := Mem.za1 own3
 subst hv3
 have hl3 : (ss ++ [kk]).length = 3 := by rw [List.length_append, za HSL, za HA]; rfl
 have hcell : ∃ g3, a3 = some ⟨g3, 0, none⟩ ∧ w3.cell? ⟨g3, 2, none⟩ = some (.int .i64 (kk : Int)) := by
  rcases own3.2 with ⟨e, h0⟩ | ⟨g, c, cur, e, hb', hg, rest⟩
  ·rw [hl3] at h0; cases h0
  ·cases e
   refine ⟨g, rfl, ?_⟩
   have := World.ownsRow.cells own3 (g := g) rfl 2 (.int .i64 (kk : Int)) (by
    unfold WPick.intsV
    rw [List.map_append, List.getElem?_append_right (by rw [List.length_map, za HSL, za HA]; exact Nat.le_refl _), List.length_map, za HSL, za HA]
    rfl)
   rw [Mem.add_lit] at this
   exact this
 obtain ⟨g3, ha3, hc3⟩ := hcell
 subst ha3
 rw [hl3]
 have C0 := hide ((bw3.cell (p := ⟨b, o, none⟩) (za HBw)).trans q0')
 have C2 := hide ((bw3.cell (p := ⟨b, o + kk * 2, none⟩) (za HBw)).trans (za HQ2))
 have HBL : Hid (b < w3.heap.size) := hide (Nat.lt_of_lt_of_le (za HBw) bw3.size)
 have HBB := hide bw3
 clear hlay own3 hl3 q0' HQ2 HBw bw3
 by_cases hk0 : k1.len = 0
 ·rw [hk0] at C2
  have E : Hid (RV = -1) := hide (by rw [← za HRV, if_pos (.inl hk0)])
  have MK : Hid (∀ W', Below w3.heap.size w3 W' → (fun W' => Below w3.heap.size w3 W' ∧ W'.cell? ⟨b, o, none⟩ = some (.int .i64 3) ∧ W'.cell? ⟨b, o + kk * 2, none⟩ = some (.int .i64 ((0 : Nat) : Int))) W') := fun W' hb => ⟨hb, (hb.cell (p := ⟨b, o, none⟩) (za HBL)).trans (za C0), (hb.cell (p := ⟨b, o + kk * 2, none⟩) (za HBL)).trans (za C2)⟩
  rw [show (((0 : Nat) : Int)) = 0 from rfl] at MK
  clear C0 C2
  go_wp2_with fail
  refine wp_region_held_drew (S := fun W' => Below w3.heap.size w3 W' ∧ W'.cell? ⟨b, o, none⟩ = some (.int .i64 3) ∧ W'.cell? ⟨b, o + kk * 2, none⟩ = some (.int .i64 0)) (by kernel_rfl) ?_ (fun hHeld => ?_)
  ·exact za MK _ ((Below.refl _ _).trans ⟨rfl, rfl, rfl, Nat.le_refl _, fun _ _ => rfl⟩)
  refine tka (i := 0) rfl ?_
  try simp only [Act.put, kBs]
  refine tka (i := 1) rfl ?_
  try simp only [Act.put, kBs]
  refine tka (i := 2) rfl ?_
  try simp only [Act.put, kBs]
  refine tka (i := 3) rfl ?_
  try simp only [Act.put, kBs]
  refine tka (i := 4) rfl ?_
  try simp only [Act.put, kBs]
  refine tka (i := 5) rfl ?_
  try simp only [Act.put, kBs]
  refine tka (i := 6) rfl ?_
  try simp only [Act.put, kBs]
  refine tkc (i := 7) rfl ?_
  try simp only [Act.put, kBs]
  refine tkc (i := 8) rfl ?_
  try simp only [Act.put, kBs]
  refine tkc (i := 9) rfl ?_
  try simp only [Act.put, kBs]
  refine tkc (i := 10) rfl ?_
  try simp only [Act.put, kBs]
  refine tkc (i := 11) rfl ?_
  try simp only [Act.put, kBs]
  refine tkc (i := 12) rfl ?_
  try simp only [Act.put, kBs]
  refine tkc (i := 13) rfl ?_
  try simp only [Act.put, kBs]
  refine tkc (i := 14) rfl ?_
  try simp only [Act.put, kBs]
  refine tkc (i := 15) rfl ?_
  try simp only [Act.put, kBs]
  refine tkc (i := 16) rfl ?_
  try simp only [Act.put, kBs]
  refine tkc (i := 17) rfl ?_
  try simp only [Act.put, kBs]
  refine tkc (i := 18) rfl ?_
  try simp only [Act.put, kBs]
  refine tka (i := 19) rfl ?_
  try simp only [Act.put, kBs]
  refine wpAnyH_done (by kernel_rfl) ?_ _
  have bb := (za HBB).trans (hHeld.1.mono (za HBB).size)
  clear hHeld MK HBB
  go_wp2
  go_ret
  exact ⟨by rw [za E]; rfl, bb⟩
 have e1 : ((k1.len : Int) == 0) = false := by simpa using hk0
 have e2 : decide ((k1.len : Int) = 0) = false := by simpa using hk0
 have hwA : IntKind.i64.wrap (2 : Int) = 2 := by decide
 have hwB : IntKind.i64.wrap ((2 : Int) + (k1.len : Int)) = 2 + (k1.len : Int) := by rw [IntKind.wrap_i64]; omega
 have MK : Hid (∀ W', Below w3.heap.size w3 W' → (fun W' => Below w3.heap.size w3 W' ∧ W'.cell? ⟨b, o, none⟩ = some (.int .i64 3) ∧ W'.cell? ⟨b, o + kk * 2, none⟩ = some (.int .i64 (k1.len : Int))) W') := fun W' hb => ⟨hb, (hb.cell (p := ⟨b, o, none⟩) (za HBL)).trans (za C0), (hb.cell (p := ⟨b, o + kk * 2, none⟩) (za HBL)).trans (za C2)⟩
 clear C0 C2
 have hAA := za HA
 by_cases h4 : 4 < A.len + k1.len
 ·have E : Hid (RV = -1) := hide (by rw [← za HRV, if_pos (.inr h4)])
  have u1 : (4 : Int) < 2 + (k1.len : Int) := by omega
  clear HA HSL
  go_wp2_with fail
  refine wp_region_held_drew (S := fun W' => Below w3.heap.size w3 W' ∧ W'.cell? ⟨b, o, none⟩ = some (.int .i64 3) ∧ W'.cell? ⟨b, o + kk * 2, none⟩ = some (.int .i64 (k1.len : Int))) (by kernel_rfl) ?_ (fun hHeld => ?_)
  ·exact za MK _ ((Below.refl _ _).trans ⟨rfl, rfl, rfl, Nat.le_refl _, fun _ _ => rfl⟩)
  refine tka (i := 0) rfl ?_
  try simp only [Act.put, kBs]
  refine tka (i := 1) rfl ?_
  try simp only [Act.put, kBs]
  refine tka (i := 2) rfl ?_
  try simp only [Act.put, kBs]
  refine tka (i := 3) rfl ?_
  try simp only [Act.put, kBs]
  refine tka (i := 4) rfl ?_
  try simp only [Act.put, kBs]
  refine tka (i := 5) rfl ?_
  try simp only [Act.put, kBs]
  refine tka (i := 6) rfl ?_
  try simp only [Act.put, kBs]
  refine tka (i := 7) rfl ?_
  try simp only [Act.put, kBs]
  refine tka (i := 8) rfl ?_
  try simp only [Act.put, kBs]
  refine tka (i := 9) rfl ?_
  try simp only [Act.put, kBs]
  refine tka (i := 10) rfl ?_
  try simp only [Act.put, kBs]
  refine tka (i := 11) rfl ?_
  try simp only [Act.put, kBs]
  refine tka (i := 12) rfl ?_
  try simp only [Act.put, kBs]
  refine tka (i := 13) rfl ?_
  try simp only [Act.put, kBs]
  refine tka (i := 14) rfl ?_
  try simp only [Act.put, kBs]
  refine tka (i := 15) rfl ?_
  try simp only [Act.put, kBs]
  refine tka (i := 16) rfl ?_
  try simp only [Act.put, kBs]
  refine tka (i := 17) rfl ?_
  try simp only [Act.put, kBs]
  refine tka (i := 18) rfl ?_
  try simp only [Act.put, kBs]
  refine tka (i := 19) rfl ?_
  try simp only [Act.put, kBs]
  refine wpAnyH_done (by kernel_rfl) ?_ _
  have bb := (za HBB).trans (hHeld.1.mono (za HBB).size)
  clear hHeld MK HBB
  go_wp2
  go_ret
  exact ⟨by rw [za E]; rfl, bb⟩
 have E : Hid (RV = (kk : Int)) := hide (by rw [← za HRV, if_neg (by omega)])
 have u1 : ¬ (4 : Int) < 2 + (k1.len : Int) := by omega
 clear HA HSL
 go_wp2_with fail
 refine wp_region_held_drew (S := fun W' => Below w3.heap.size w3 W' ∧ W'.cell? ⟨b, o, none⟩ = some (.int .i64 3) ∧ W'.cell? ⟨b, o + kk * 2, none⟩ = some (.int .i64 (k1.len : Int))) (by kernel_rfl) ?_ (fun hHeld => ?_)
 ·exact za MK _ ((Below.refl _ _).trans ⟨rfl, rfl, rfl, Nat.le_refl _, fun _ _ => rfl⟩)
 refine tka (i := 0) rfl ?_
 try simp only [Act.put, kBs]
 refine tka (i := 1) rfl ?_
 try simp only [Act.put, kBs]
 refine tka (i := 2) rfl ?_
 try simp only [Act.put, kBs]
 refine tka (i := 3) rfl ?_
 try simp only [Act.put, kBs]
 refine tka (i := 4) rfl ?_
 try simp only [Act.put, kBs]
 refine tka (i := 5) rfl ?_
 try simp only [Act.put, kBs]
 refine tka (i := 6) rfl ?_
 try simp only [Act.put, kBs]
 refine tka (i := 7) rfl ?_
 try simp only [Act.put, kBs]
 refine tka (i := 8) rfl ?_
 try simp only [Act.put, kBs]
 refine tka (i := 9) rfl ?_
 try simp only [Act.put, kBs]
 refine tka (i := 10) rfl ?_
 try simp only [Act.put, kBs]
 refine tka (i := 11) rfl ?_
 try simp only [Act.put, kBs]
 refine tka (i := 12) rfl ?_
 try simp only [Act.put, kBs]
 refine tka (i := 13) rfl ?_
 try simp only [Act.put, kBs]
 refine tka (i := 14) rfl ?_
 try simp only [Act.put, kBs]
 refine tka (i := 15) rfl ?_
 try simp only [Act.put, kBs]
 refine tka (i := 16) rfl ?_
 try simp only [Act.put, kBs]
 refine tka (i := 17) rfl ?_
 try simp only [Act.put, kBs]
 refine tka (i := 18) rfl ?_
 try simp only [Act.put, kBs]
 refine tka (i := 19) rfl ?_
 try simp only [Act.put, kBs]
 refine wpAnyH_done (by kernel_rfl) ?_ _
 have bb := (za HBB).trans (hHeld.1.mono (za HBB).size)
 clear hHeld MK HBB
 go_wp2
 go_ret
 exact ⟨by rw [za E]; rfl, bb⟩
set_option maxRecDepth 100000 in
set_option maxHeartbeats 2000000 in
theorem last4 (a : Option Addr) (cap : Nat) (Is : List Pl.It) (hl : Is.length ≤ 12) (hok : ∀ x ∈ Is, x.t.L.length ≤ 1048576 ∧ ∀ n ∈ x.t.L, n.path.size ≤ 1048576 ∧ n.data.size ≤ 1048576) (L L1 : List Pl.Nd) (A k1 : Pl.Fx) (hA : A.len = 3) (w : World) (hx : (Pl.Fx.cons L (A.app (.cons L1 k1 .nil)) .nil).okX) (hd : (A.app (.cons L1 k1 .nil)).shape.depth ≤ 3) (hfl : (Pl.Fx.cons L (A.app (.cons L1 k1 .nil)) .nil).flat = Is.map Pl.It.r) (hv : Mem.za6 w a Is) :
  Calls Tryz.prog 59 #[.slice a Is.length cap] w fun e w' => e = .returned (.int .i64 (if k1.len = 0 ∨ 4 < A.len + k1.len then -1 else ((1 + A.sz : Nat) : Int))) ∧ Below w.heap.size w w' := by
 have hf0 : (Is.drop 0).map Pl.It.r = (Pl.Fx.cons L (A.app (.cons L1 k1 .nil)) .nil).flat ++ [] := by rw [List.drop_zero, List.append_nil, hfl]
 obtain ⟨x, hxp, hxm, -, hrest⟩ := zp0.zo5 hf0
 have hk4 : k1.len ≤ 4 := (Pl.Fx.zw8 hx.2.2.2.1).2.2.2.1
 rw [Pl.Fx.zz9, List.append_assoc] at hrest
 have hdr := zp0.yj hrest
 obtain ⟨x2, hx2, hx2m, -, -⟩ := zp0.zo5 hdr
 rw [show 0 + 1 + A.sz = 1 + A.sz by omega] at hx2
 have hlay := hide (fun W (bb : Below w.heap.size w W) => zn4.ym0 a cap Is hl hok L (A.app (.cons L1 k1 .nil)) 0 W hx hd ⟨_, hf0⟩ (Mem.zc1 hv bb))
 rw [Pl.yn2] at hlay
 rw [show Pl.starts (.cons L1 k1 .nil) (0 + 1 + A.sz) = [0 + 1 + A.sz] from rfl, show 0 + 1 + A.sz = 1 + A.sz by omega] at hlay
 obtain ⟨kk, hkk⟩ : ∃ kk, kk = 1 + A.sz := ⟨_, rfl⟩
 rw [← hkk] at hx2 hlay ⊢
 generalize hRV : (if k1.len = 0 ∨ 4 < A.len + k1.len then (-1 : Int) else (kk : Int)) = RV
 have HRV := hide hRV
 clear hRV
 have hsl := Pl.yo5 A (0 + 1)
 generalize Pl.starts A (0 + 1) = ss at hlay hsl
 have hkl := (List.getElem?_eq_some_iff.1 hx2).1
 obtain ⟨⟨b, o, hab, hb, q0, -⟩, -⟩ := hv 0 x hxp
 subst hab
 obtain ⟨⟨b2, o2, hab2, -, q2, -⟩, -⟩ := hv kk x2 hx2
 cases hab2
 have hlen0 : 0 < Is.length := (List.getElem?_eq_some_iff.1 hxp).1
 rw [hxm, Pl.Fx.zh9, hA, show (Pl.Fx.cons L1 k1 .nil).len = 1 from rfl] at q0
 simp only [Nat.zero_mul, Nat.add_zero, Nat.reduceAdd] at q0
 rw [hx2m] at q2
 have q0' : w.cell? ⟨b, o, none⟩ = some (.int .i64 4) := q0
 have t1 : (0 : Int) < (Is.length : Int) := by omega
 have t2 : (kk : Int) < (Is.length : Int) := by omega
 have t3 : (0 : Int) ≤ (kk : Int) := by omega
 have HBw := hide hb
 have HQ2 := hide q2
 have HSL := hide hsl
 have HA := hide hA
 clear hv hok hfl hf0 hrest hdr hxp hx2 hxm hx2m hx hd q0 q2 hkk hkl hsl hA
 go_enter Tryz.func59, Tryz.ntmps59
 go_wp2_with fail
 refine (za hlay _ (Below.refl _ _)).mono ?_
 rintro e w3 ⟨v3, rfl, own3, bw3⟩
 obtain ⟨a3, c3, hv3⟩ := Mem.za1 own3
 subst hv3
 have hl3 : (ss ++ [kk]).length = 4 := by rw [List.length_append, za HSL, za HA]; rfl
 have hcell : ∃ g3, a3 = some ⟨g3, 0, none⟩ ∧ w3.cell? ⟨g3, 3, none⟩ = some (.int .i64 (kk : Int)) := by
  rcases own3.2 with ⟨e, h0⟩ | ⟨g, c, cur, e, hb', hg, rest⟩
  ·rw [hl3] at h0; cases h0
  ·cases e
   refine ⟨g, rfl, ?_⟩
   have := World.ownsRow.cells own3 (g := g) rfl 3 (.int .i64 (kk : Int)) (by
    unfold WPick.intsV
    rw [List.map_append, List.getElem?_append_right (by rw [List.length_map, za HSL, za HA]; exact Nat.le_refl _), List.length_map, za HSL, za HA]
    rfl)
   rw [Mem.add_lit] at this
   exact this
 obtain ⟨g3, ha3, hc3⟩ := hcell
 subst ha3
 rw [hl3]
 have C0 := hide ((bw3.cell (p := ⟨b, o, none⟩) (za HBw)).trans q0')
 have C2 := hide ((bw3.cell (p := ⟨b, o + kk * 2, none⟩) (za HBw)).trans (za HQ2))
 have HBL : Hid (b < w3.heap.size) := hide (Nat.lt_of_lt_of_le (za HBw) bw3.size)
 have HBB := hide bw3
 clear hlay own3 hl3 q0' HQ2 HBw bw3
 by_cases hk0 : k1.len = 0
 ·rw [hk0] at C2
  have E : Hid (RV = -1) := hide (by rw [← za HRV, if_pos (.inl hk0)])
  have MK : Hid (∀ W', Below w3.heap.size w3 W' → (fun W' => Below w3.heap.size w3 W' ∧ W'.cell? ⟨b, o, none⟩ = some (.int .i64 4) ∧ W'.cell? ⟨b, o + kk * 2, none⟩ = some (.int .i64 ((0 : Nat) : Int))) W') := fun W' hb => ⟨hb, (hb.cell (p := ⟨b, o, none⟩) (za HBL)).trans (za C0), (hb.cell (p := ⟨b, o + kk * 2, none⟩) (za HBL)).trans (za C2)⟩
  rw [show (((0 : Nat) : Int)) = 0 from rfl] at MK
  clear C0 C2
  go_wp2_with fail
  refine wp_region_held_drew (S := fun W' => Below w3.heap.size w3 W' ∧ W'.cell? ⟨b, o, none⟩ = some (.int .i64 4) ∧ W'.cell? ⟨b, o + kk * 2, none⟩ = some (.int .i64 0)) (by kernel_rfl) ?_ (fun hHeld => ?_)
  ·exact za MK _ ((Below.refl _ _).trans ⟨rfl, rfl, rfl, Nat.le_refl _, fun _ _ => rfl⟩)
  refine tka (i := 0) rfl ?_
  try simp only [Act.put, kBs]
  refine tka (i := 1) rfl ?_
  try simp only [Act.put, kBs]
  refine tka (i := 2) rfl ?_
  try simp only [Act.put, kBs]
  refine tka (i := 3) rfl ?_
  try simp only [Act.put, kBs]
  refine tka (i := 4) rfl ?_
  try simp only [Act.put, kBs]
  refine tka (i := 5) rfl ?_
  try simp only [Act.put, kBs]
  refine tka (i := 6) rfl ?_
  try simp only [Act.put, kBs]
  refine tkc (i := 7) rfl ?_
  try simp only [Act.put, kBs]
  refine tkc (i := 8) rfl ?_
  try simp only [Act.put, kBs]
  refine tkc (i := 9) rfl ?_
  try simp only [Act.put, kBs]
  refine tkc (i := 10) rfl ?_
  try simp only [Act.put, kBs]
  refine tkc (i := 11) rfl ?_
  try simp only [Act.put, kBs]
  refine tkc (i := 12) rfl ?_
  try simp only [Act.put, kBs]
  refine tkc (i := 13) rfl ?_
  try simp only [Act.put, kBs]
  refine tkc (i := 14) rfl ?_
  try simp only [Act.put, kBs]
  refine tkc (i := 15) rfl ?_
  try simp only [Act.put, kBs]
  refine tkc (i := 16) rfl ?_
  try simp only [Act.put, kBs]
  refine tkc (i := 17) rfl ?_
  try simp only [Act.put, kBs]
  refine tkc (i := 18) rfl ?_
  try simp only [Act.put, kBs]
  refine tka (i := 19) rfl ?_
  try simp only [Act.put, kBs]
  refine wpAnyH_done (by kernel_rfl) ?_ _
  have bb := (za HBB).trans (hHeld.1.mono (za HBB).size)
  clear hHeld MK HBB
  go_wp2
  go_ret
  exact ⟨by rw [za E]; rfl, bb⟩
 have e1 : ((k1.len : Int) == 0) = false := by simpa using hk0
 have e2 : decide ((k1.len : Int) = 0) = false := by simpa using hk0
 have hwA : IntKind.i64.wrap (3 : Int) = 3 := by decide
 have hwB : IntKind.i64.wrap ((3 : Int) + (k1.len : Int)) = 3 + (k1.len : Int) := by rw [IntKind.wrap_i64]; omega
 have MK : Hid (∀ W', Below w3.heap.size w3 W' → (fun W' => Below w3.heap.size w3 W' ∧ W'.cell? ⟨b, o, none⟩ = some (.int .i64 4) ∧ W'.cell? ⟨b, o + kk * 2, none⟩ = some (.int .i64 (k1.len : Int))) W') := fun W' hb => ⟨hb, (hb.cell (p := ⟨b, o, none⟩) (za HBL)).trans (za C0), (hb.cell (p := ⟨b, o + kk * 2, none⟩) (za HBL)).trans (za C2)⟩
 clear C0 C2
 have hAA := za HA
 by_cases h4 : 4 < A.len + k1.len
 ·have E : Hid (RV = -1) := hide (by rw [← za HRV, if_pos (.inr h4)])
  have u1 : (4 : Int) < 3 + (k1.len : Int) := by omega
  clear HA HSL
  go_wp2_with fail
  refine wp_region_held_drew (S := fun W' => Below w3.heap.size w3 W' ∧ W'.cell? ⟨b, o, none⟩ = some (.int .i64 4) ∧ W'.cell? ⟨b, o + kk * 2, none⟩ = some (.int .i64 (k1.len : Int))) (by kernel_rfl) ?_ (fun hHeld => ?_)
  ·exact za MK _ ((Below.refl _ _).trans ⟨rfl, rfl, rfl, Nat.le_refl _, fun _ _ => rfl⟩)
  refine tka (i := 0) rfl ?_
  try simp only [Act.put, kBs]
  refine tka (i := 1) rfl ?_
  try simp only [Act.put, kBs]
  refine tka (i := 2) rfl ?_
  try simp only [Act.put, kBs]
  refine tka (i := 3) rfl ?_
  try simp only [Act.put, kBs]
  refine tka (i := 4) rfl ?_
  try simp only [Act.put, kBs]
  refine tka (i := 5) rfl ?_
  try simp only [Act.put, kBs]
  refine tka (i := 6) rfl ?_
  try simp only [Act.put, kBs]
  refine tka (i := 7) rfl ?_
  try simp only [Act.put, kBs]
  refine tka (i := 8) rfl ?_
  try simp only [Act.put, kBs]
  refine tka (i := 9) rfl ?_
  try simp only [Act.put, kBs]
  refine tka (i := 10) rfl ?_
  try simp only [Act.put, kBs]
  refine tka (i := 11) rfl ?_
  try simp only [Act.put, kBs]
  refine tka (i := 12) rfl ?_
  try simp only [Act.put, kBs]
  refine tka (i := 13) rfl ?_
  try simp only [Act.put, kBs]
  refine tka (i := 14) rfl ?_
  try simp only [Act.put, kBs]
  refine tka (i := 15) rfl ?_
  try simp only [Act.put, kBs]
  refine tka (i := 16) rfl ?_
  try simp only [Act.put, kBs]
  refine tka (i := 17) rfl ?_
  try simp only [Act.put, kBs]
  refine tka (i := 18) rfl ?_
  try simp only [Act.put, kBs]
  refine tka (i := 19) rfl ?_
  try simp only [Act.put, kBs]
  refine wpAnyH_done (by kernel_rfl) ?_ _
  have bb := (za HBB).trans (hHeld.1.mono (za HBB).size)
  clear hHeld MK HBB
  go_wp2
  go_ret
  exact ⟨by rw [za E]; rfl, bb⟩
 have E : Hid (RV = (kk : Int)) := hide (by rw [← za HRV, if_neg (by omega)])
 have u1 : ¬ (4 : Int) < 3 + (k1.len : Int) := by omega
 clear HA HSL
 go_wp2_with fail
 refine wp_region_held_drew (S := fun W' => Below w3.heap.size w3 W' ∧ W'.cell? ⟨b, o, none⟩ = some (.int .i64 4) ∧ W'.cell? ⟨b, o + kk * 2, none⟩ = some (.int .i64 (k1.len : Int))) (by kernel_rfl) ?_ (fun hHeld => ?_)
 ·exact za MK _ ((Below.refl _ _).trans ⟨rfl, rfl, rfl, Nat.le_refl _, fun _ _ => rfl⟩)
 refine tka (i := 0) rfl ?_
 try simp only [Act.put, kBs]
 refine tka (i := 1) rfl ?_
 try simp only [Act.put, kBs]
 refine tka (i := 2) rfl ?_
 try simp only [Act.put, kBs]
 refine tka (i := 3) rfl ?_
 try simp only [Act.put, kBs]
 refine tka (i := 4) rfl ?_
 try simp only [Act.put, kBs]
 refine tka (i := 5) rfl ?_
 try simp only [Act.put, kBs]
 refine tka (i := 6) rfl ?_
 try simp only [Act.put, kBs]
 refine tka (i := 7) rfl ?_
 try simp only [Act.put, kBs]
 refine tka (i := 8) rfl ?_
 try simp only [Act.put, kBs]
 refine tka (i := 9) rfl ?_
 try simp only [Act.put, kBs]
 refine tka (i := 10) rfl ?_
 try simp only [Act.put, kBs]
 refine tka (i := 11) rfl ?_
 try simp only [Act.put, kBs]
 refine tka (i := 12) rfl ?_
 try simp only [Act.put, kBs]
 refine tka (i := 13) rfl ?_
 try simp only [Act.put, kBs]
 refine tka (i := 14) rfl ?_
 try simp only [Act.put, kBs]
 refine tka (i := 15) rfl ?_
 try simp only [Act.put, kBs]
 refine tka (i := 16) rfl ?_
 try simp only [Act.put, kBs]
 refine tka (i := 17) rfl ?_
 try simp only [Act.put, kBs]
 refine tka (i := 18) rfl ?_
 try simp only [Act.put, kBs]
 refine tka (i := 19) rfl ?_
 try simp only [Act.put, kBs]
 refine wpAnyH_done (by kernel_rfl) ?_ _
 have bb := (za HBB).trans (hHeld.1.mono (za HBB).size)
 clear hHeld MK HBB
 go_wp2
 go_ret
 exact ⟨by rw [za E]; rfl, bb⟩
def lastI (K : Pl.Fx) : Int := match K.flatK with
 | none => -1
 | some _ => ((1 + K.zb7.1.sz : Nat) : Int)
set_option maxRecDepth 100000 in
theorem last_any (a : Option Addr) (cap : Nat) (Is : List Pl.It) (hl : Is.length ≤ 12) (hok : ∀ x ∈ Is, x.t.L.length ≤ 1048576 ∧ ∀ n ∈ x.t.L, n.path.size ≤ 1048576 ∧ n.data.size ≤ 1048576) (L : List Pl.Nd) (K : Pl.Fx) (w : World) (hx : (Pl.Fx.cons L K .nil).okX) (hd : K.shape.depth ≤ 3) (hfl : (Pl.Fx.cons L K .nil).flat = Is.map Pl.It.r) (hv : Mem.za6 w a Is) :
  Calls Tryz.prog 59 #[.slice a Is.length cap] w fun e w' => e = .returned (.int .i64 (lastI K)) ∧ Below w.heap.size w w' := by
 by_cases h2 : K.len < 2
 ·have E : lastI K = -1 := by unfold lastI Pl.Fx.flatK; rw [if_pos h2]
  rw [E]
  have hf0 : (Is.drop 0).map Pl.It.r = (Pl.Fx.cons L K .nil).flat ++ [] := by rw [List.drop_zero, List.append_nil, hfl]
  obtain ⟨x, hxp, hxm, -, -⟩ := zp0.zo5 hf0
  obtain ⟨⟨b, o, hab, hb, q0, -⟩, -⟩ := hv 0 x hxp
  subst hab
  have hlen0 : 0 < Is.length := (List.getElem?_eq_some_iff.1 hxp).1
  have t1 : (0 : Int) < (Is.length : Int) := by omega
  rw [hxm] at q0
  simp only [Nat.zero_mul, Nat.add_zero] at q0
  have u1 : (K.len : Int) < 2 := by omega
  clear hv hok hfl hf0 hxp hxm hx hd E
  go_enter Tryz.func59, Tryz.ntmps59
  go_wp2
  go_ret
  exact ⟨rfl, Below.refl _ _⟩
 obtain ⟨hsp, hsl⟩ := K.yb9 (by omega)
 have hK4 : K.len ≤ 4 := hx.2.2.1
 have E : lastI K = if K.zb7.2.2.len = 0 ∨ 4 < K.zb7.1.len + K.zb7.2.2.len then -1 else ((1 + K.zb7.1.sz : Nat) : Int) := by
  unfold lastI Pl.Fx.flatK
  rw [if_neg h2]
  by_cases h : K.zb7.2.2.len = 0 ∨ 4 < K.zb7.1.len + K.zb7.2.2.len
  ·rw [if_pos h, if_pos h]
  ·rw [if_neg h, if_neg h]
 rw [E]
 have hk : K.zb7.1.len = 1 ∨ K.zb7.1.len = 2 ∨ K.zb7.1.len = 3 := by omega
 rw [hsp] at hx hd hfl
 rcases hk with hk | hk | hk
 ·exact last2 a cap Is hl hok L _ _ _ hk w hx hd hfl hv
 ·exact last3 a cap Is hl hok L _ _ _ hk w hx hd hfl hv
 ·exact last4 a cap Is hl hok L _ _ _ hk w hx hd hfl hv
end zn4
end Go.Proofs.YtfdbokipgofcdaaGreatDoor


namespace Go.Proofs.YtfdbokipgofcdaaGreatDoor
open Go.RowKit
namespace zn4
theorem last_neg {K : Pl.Fx} (h : K.flatK = none) : lastI K = -1 := by unfold lastI; rw [h]
theorem last_pos {K K' : Pl.Fx} (h : K.flatK = some K') : lastI K = ((1 + K.zb7.1.sz : Nat) : Int) := by unfold lastI; rw [h]
set_option linter.unusedSimpArgs false in
set_option maxRecDepth 100000 in
set_option maxHeartbeats 1000000 in
theorem can_any (a : Option Addr) (cap : Nat) (Is : List Pl.It) (w : World) (hl : Is.length ≤ 1048576) (hv : Mem.za6 w a Is) (hok : ∀ x ∈ Is, x.t.L.length ≤ 1048576 ∧ ∀ n ∈ x.t.L, n.path.size ≤ 1048576 ∧ n.data.size ≤ 1048576) :
  Calls Tryz.prog 27 #[.slice a Is.length cap] w fun e w' => e = .returned (.bool (decide (Pl.zh1 (Is.map Pl.It.r) = 0))) ∧ Below w.heap.size w w' := by
 have hxl : (Is.map Pl.It.r).length = Is.length := List.length_map ..
 by_cases h400 : 400 < Is.length
 ·have t0 : ¬ (Is.length : Int) ≤ 400 := by omega
  have e1 := (Pl.yc9 (xs := Is.map Pl.It.r) (by omega)).1
  rw [e1, show decide ((2 : Int) = 0) = false from rfl]
  clear e1 hv hok hxl
  go_enter Tryz.func27, Tryz.ntmps27
  go_wp2
  go_ret
  exact ⟨rfl, Below.refl _ _⟩
 have t0 : (Is.length : Int) ≤ 400 := by omega
 have hnr := hide (zj2.zf4 a cap Is w hl hv hok)
 cases hF : Pl.nest (Pl.rowO (Is.map Pl.It.r)) with
 | none =>
  have e1 := (Pl.yh7 (xs := Is.map Pl.It.r) (by omega) hF).1
  rw [e1, show decide ((1 : Int) = 0) = false from rfl]
  rw [hF] at hnr
  clear e1 hv hok hxl hF
  go_enter Tryz.func27, Tryz.ntmps27
  go_wp2_with fail
  refine (za hnr).mono ?_
  rintro e w1 ⟨rfl, b1⟩
  clear hnr
  go_wp2
  go_ret
  exact ⟨rfl, b1⟩
 | some F =>
  obtain ⟨L, k, hks, hfl, hko, hnx⟩ := Pl.zy2 hF
  have hl12 := Pl.zj3 hF
  rw [hF] at hnr
  have hd : k.shape.depth ≤ 3 := by rw [hks]; exact (Pl.zl5 hF).2.2
  have hla := hide (fun W (b : Below w.heap.size w W) => last_any a cap Is (by omega) hok L k W hko hd hfl (Mem.zc1 hv b))
  cases hK : k.flatK with
  | none =>
   rw [last_neg hK] at hla
   have e1 := (Pl.yc hl12 hnx hK).1
   rw [e1, show decide ((10 : Int) = 0) = false from rfl]
   clear e1 hv hok hxl hF hks hfl hko hnx hK hd
   go_enter Tryz.func27, Tryz.ntmps27
   go_wp2_with fail
   refine (za hnr).mono ?_
   rintro e w1 ⟨rfl, b1⟩
   clear hnr
   go_wp2_with fail
   refine (za hla _ b1).mono ?_
   rintro e w2 ⟨rfl, b2⟩
   have bb := b1.trans (b2.mono b1.size)
   clear hla b1 b2
   go_wp2
   go_ret
   exact ⟨rfl, bb⟩
  | some K' =>
   rw [last_pos hK] at hla
   have e1 := (Pl.zy1 hl12 hnx hK).1
   rw [e1, show decide ((0 : Int) = 0) = true from rfl]
   generalize 1 + k.zb7.1.sz = kk at hla
   have u1 : (0 : Int) ≤ (kk : Int) := by omega
   clear e1 hv hok hxl hF hks hfl hko hnx hK hd
   go_enter Tryz.func27, Tryz.ntmps27
   go_wp2_with fail
   refine (za hnr).mono ?_
   rintro e w1 ⟨rfl, b1⟩
   clear hnr
   go_wp2_with fail
   refine (za hla _ b1).mono ?_
   rintro e w2 ⟨rfl, b2⟩
   have bb := b1.trans (b2.mono b1.size)
   clear hla b1 b2
   go_wp2
   go_ret
   exact ⟨rfl, bb⟩
end zn4
end Go.Proofs.YtfdbokipgofcdaaGreatDoor

namespace Go.Proofs.YtfdbokipgofcdaaGreatDoor
open Go.RowKit
namespace Mem
theorem own_put {W : World} {S g T size n cap : Nat} {xs : List Value} (h : W.ownsRow S T size (.slice (some ⟨g, 0, none⟩) n cap) n xs) (k : Nat) (u : Value) : (W.setCell ⟨g, k, none⟩ u).ownsRow S T size (.slice (some ⟨g, 0, none⟩) n cap) n (xs.set k u) := by
 refine ⟨by rw [List.length_set]; exact h.1, ?_⟩
 rcases h.2 with ⟨e, _⟩ | ⟨g', c', cur, e, hb, hg, hc, hm, hs, ht⟩
 ·cases e
 ·cases e
  refine .inr ⟨g, cap, cur.setIfInBounds k u, rfl, hb, heap_setCell_same _ _ _ _ _ _ hg, hc, hm, by rw [Array.size_setIfInBounds]; exact hs, ?_⟩
  rw [Array.toList_setIfInBounds, List.take_set, ht]
theorem own_cell {W : World} {S g T size n cap : Nat} {xs : List Value} (h : W.ownsRow S T size (.slice (some ⟨g, 0, none⟩) n cap) n xs) {k : Nat} {u : Value} (hk : xs[k]? = some u) : W.cell? ⟨g, k, none⟩ = some u ∧ W.frozen? ⟨g, k, none⟩ = false := by
 refine ⟨?_, ?_⟩
 ·have := World.ownsRow.cells h (g := g) rfl k u hk
  rw [add_lit] at this
  exact this
 ·rcases h.2 with ⟨e, _⟩ | ⟨g', c', cur, e, hb, hg, _⟩
  ·cases e
  ·cases e
   exact zi8 hg
end Mem
namespace Pl
theorem zv9 (x : It) (Is : List It) : zb9 (x :: Is) = Value.int .i64 x.m :: x.t.val :: zb9 Is := rfl
theorem cellsI_tree (x : It) (t : Tr) (Rs : List It) : ∀ Ds : List It, (zb9 (Ds ++ x :: Rs)).set (Ds.length * 2 + 1) t.val = zb9 (Ds ++ ⟨x.m, t⟩ :: Rs) := by
 intro Ds
 induction Ds with
 | nil => rfl
 | cons y Ds ih =>
  rw [List.cons_append, List.cons_append, zv9, zv9, List.length_cons, show (Ds.length + 1) * 2 + 1 = Ds.length * 2 + 1 + 1 + 1 by omega, List.set_cons_succ, List.set_cons_succ, ih]
theorem cellsI_many (x : It) (m : Int) (Rs : List It) : (zb9 (x :: Rs)).set 0 (.int .i64 m) = zb9 (⟨m, x.t⟩ :: Rs) := rfl
theorem cellsI_take (Is : List It) : ∀ k, k ≤ Is.length → (zb9 Is).take (k * 2) = zb9 (Is.take k) := by
 induction Is with
 | nil =>
  intro k h
  have : k = 0 := by simpa using h
  subst this; rfl
 | cons x Is ih =>
  intro k h
  cases k with
  | zero => rfl
  | succ k =>
   rw [zv9, show (k + 1) * 2 = k * 2 + 1 + 1 by omega, List.take_succ_cons, List.take_succ_cons, ih k (by simpa using h), List.take_succ_cons, zv9]
theorem cellsI_drop (Is : List It) : ∀ k, (zb9 Is).drop (k * 2) = zb9 (Is.drop k) := by
 induction Is with
 | nil => intro k; simp [zb9]
 | cons x Is ih =>
  intro k
  cases k with
  | zero => rfl
  | succ k => rw [zv9, show (k + 1) * 2 = k * 2 + 1 + 1 by omega, List.drop_succ_cons, List.drop_succ_cons, ih, List.drop_succ_cons]
end Pl
namespace Mem
structure Cq (W : World) (S g cap : Nat) (Ds Rs : List Pl.It) : Prop where
 row : W.ownsRow S 38 2 (.slice (some ⟨g, 0, none⟩) (Ds.length + Rs.length) cap) (Ds.length + Rs.length) (Pl.zb9 (Ds ++ Rs))
 each : ∀ (i : Nat) x, Ds[i]? = some x → ownN W S x.t.val x.t.L ∧ ∀ q, x.t.val.ownBlock = some q → q ≠ g
 apart : ∀ (i j : Nat) x y, i ≠ j → Ds[i]? = some x → Ds[j]? = some y → ∀ q, x.t.val.ownBlock = some q → y.t.val.ownBlock ≠ some q
theorem Cq.call {W W' : World} {S g cap : Nat} {Ds Rs : List Pl.It} (h : Cq W S g cap Ds Rs) (b : Below W.heap.size W W') : Cq W' S g cap Ds Rs :=
 ⟨zm7 h.row b, fun i x hx => ⟨zl1 (h.each i x hx).1 b, (h.each i x hx).2⟩, h.apart⟩
theorem Cq.step {W W1 : World} {S g cap : Nat} {Ds Rs : List Pl.It} {x : Pl.It} {t : Pl.Tr} (h : Cq W S g cap Ds (x :: Rs)) (b : Below W.heap.size W W1) (hS : S ≤ W.heap.size) (ht : ownN W1 W.heap.size t.val t.L) : Cq (W1.setCell ⟨g, Ds.length * 2 + 1, none⟩ t.val) S g cap (Ds ++ [⟨x.m, t⟩]) Rs := by
 have h1 := h.call b
 have hg : g < W.heap.size := (World.ownsRow.lt h.row g rfl).2
 have hgS : S ≤ g := (World.ownsRow.lt h.row g rfl).1
 have off : ∀ {v : Value} {L : List Pl.Nd} {B : Nat}, ownN W1 B v L → (∀ q, v.ownBlock = some q → q ≠ g) → ownN (W1.setCell ⟨g, Ds.length * 2 + 1, none⟩ t.val) B v L := fun {v L B} hv hn => by
  refine ⟨hv.1, ?_⟩
  rcases hv.2 with h0 | ⟨q, c, cur, e, hb, hq, rest⟩
  ·exact .inl h0
  ·exact .inr ⟨q, c, cur, e, hb, (heap_setCell_other _ _ _ _ (hn q (by rw [e]; rfl))).trans hq, rest⟩
 have hlo : ∀ q, t.val.ownBlock = some q → W.heap.size ≤ q := fun q hq => (zc3 ht q hq).1
 refine ⟨?_, fun i y hy => ?_, fun i j y z hij hy hz q hq => ?_⟩
 ·have h2 := own_put h1.row (Ds.length * 2 + 1) t.val
  rw [Pl.cellsI_tree] at h2
  have e : (Ds ++ [(⟨x.m, t⟩ : Pl.It)]).length + Rs.length = Ds.length + (x :: Rs).length := by simp; omega
  rw [e, List.append_assoc]
  exact h2
 ·by_cases e : i < Ds.length
  ·rw [List.getElem?_append_left e] at hy
   exact ⟨off (h1.each i y hy).1 (h1.each i y hy).2, (h1.each i y hy).2⟩
  ·rw [List.getElem?_append_right (by omega)] at hy
   have e0 : i - Ds.length = 0 := by
    have := (List.getElem?_eq_some_iff.1 hy).1
    simp at this; omega
   rw [e0] at hy
   simp at hy
   subst hy
   have hn : ∀ q, t.val.ownBlock = some q → q ≠ g := fun q hq => by have := hlo q hq; omega
   exact ⟨off (zb4 ht hS) hn, hn⟩
 ·by_cases e : i < Ds.length
  ·rw [List.getElem?_append_left e] at hy
   by_cases e2 : j < Ds.length
   ·rw [List.getElem?_append_left e2] at hz
    exact h.apart i j y z hij hy hz q hq
   ·rw [List.getElem?_append_right (by omega)] at hz
    have e0 : j - Ds.length = 0 := by
     have := (List.getElem?_eq_some_iff.1 hz).1
     simp at this; omega
    rw [e0] at hz
    simp at hz
    subst hz
    intro e3
    have h5 := hlo q e3
    have h6 := (zc3 (h.each i y hy).1 q hq).2
    omega
  ·rw [List.getElem?_append_right (by omega)] at hy
   have e0 : i - Ds.length = 0 := by
    have := (List.getElem?_eq_some_iff.1 hy).1
    simp at this; omega
   rw [e0] at hy
   simp at hy
   subst hy
   have h5 := hlo q hq
   have hj : j < Ds.length := by
    have := (List.getElem?_eq_some_iff.1 hz).1
    simp at this; omega
   rw [List.getElem?_append_left hj] at hz
   intro e3
   have h6 := (zc3 (h.each j z hz).1 q e3).2
   omega
theorem Cq.done {W : World} {S g cap : Nat} {Ds : List Pl.It} (h : Cq W S g cap Ds []) : Io W S (.slice (some ⟨g, 0, none⟩) Ds.length cap) Ds := by
 have h1 := h.row
 rw [List.length_nil, Nat.add_zero, List.append_nil] at h1
 exact ⟨h1, fun i x hx => ⟨(h.each i x hx).1, fun q hq e => (h.each i x hx).2 q hq (Option.some.inj e).symm⟩, h.apart⟩
end Mem
end Go.Proofs.YtfdbokipgofcdaaGreatDoor

namespace Go.Proofs.YtfdbokipgofcdaaGreatDoor
open Go.RowKit
namespace Mem
def okR (a : Option Addr) (cap : Nat) (L : List Pl.Nd) : Prop := (a = none ∧ cap = 0 ∧ L = []) ∨ ∃ g o, a = some ⟨g, o, none⟩
end Mem
namespace WCopyV
set_option linter.unusedSimpArgs false in
set_option maxRecDepth 100000 in
set_option maxHeartbeats 1000000 in
theorem copy_any (a : Option Addr) (cap : Nat) (L : List Pl.Nd) (w : World) (hl : L.length ≤ 1000) (hA : Mem.okR a cap L) (hv : Mem.zc2 w a L) :
  Calls Tryz.prog 84 #[.agg #[.slice a L.length cap]] w fun e w' => ∃ v, e = .returned (.agg #[v]) ∧ Mem.ownN w' w.heap.size v L ∧ Below w.heap.size w w' := by
 obtain ⟨i0, hi, hz0, hz1, hz2⟩ := info_parts zg3.zl3
 have b2 : Below w.heap.size w (((w.alloc (.cells #[.slice a L.length cap] 36)).alloc (.cells #[.slice none 0 0] 36)).alloc (.cells #[] 89)) := (((Below.refl _ _).alloc (Nat.le_refl _) _).alloc (by simp) _).alloc (by simp; omega) _
 have B0 := ((Mem.Blk.new w #[.slice a L.length cap] 36).alloc (.cells #[.slice none 0 0] 36)).alloc (.cells #[] 89)
 have B1 : Mem.Blk (((w.alloc (.cells #[.slice a L.length cap] 36)).alloc (.cells #[.slice none 0 0] 36)).alloc (.cells #[] 89)) (w.heap.size + 1) #[.slice none 0 0] 36 := (show Mem.Blk ((w.alloc (.cells #[.slice a L.length cap] 36)).alloc (.cells #[.slice none 0 0] 36)) (w.heap.size + 1) #[.slice none 0 0] 36 from Mem.zh2 _ _ _).alloc _
 have OA : Hid (Mem.ownN (((w.alloc (.cells #[.slice a L.length cap] 36)).alloc (.cells #[.slice none 0 0] 36)).alloc (.cells #[] 89)) (w.heap.size + 2) (.slice (some ⟨w.heap.size + 2, 0, none⟩) 0 0) []) := by
  refine ⟨rfl, .inr ⟨w.heap.size + 2, 0, #[], rfl, Nat.le_refl _, ?_, Nat.le_refl _, Nat.zero_le _, rfl, rfl⟩⟩
  have h := heap_alloc_new ((w.alloc (.cells #[.slice a L.length cap] 36)).alloc (.cells #[.slice none 0 0] 36)) (.cells #[] 89)
  rw [show ((w.alloc (.cells #[.slice a L.length cap] 36)).alloc (.cells #[.slice none 0 0] 36)).heap.size = w.heap.size + 2 by simp] at h
  exact h
 have NV := hide (Mem.za8 hv b2)
 have x0 := B0.cell 0
 simp only [kA0, kA1] at x0
 clear hv
 rcases hA with ⟨rfl, rfl, rfl⟩ | ⟨g, o, rfl⟩
 ·simp only [List.length_nil] at OA B1 b2 x0 ⊢
  have z0 := B1.cell 0
  have zf := B1.fr 0
  simp only [kA0, kA1] at z0
  have BB := (B1.put 0 (.slice (some ⟨w.heap.size + 2, 0, none⟩) 0 0)).cell 0
  go_enter Tryz.func84, Tryz.ntmps84
  go_wp2_with (at_builtin; refine wpList_append_own_none rfl _ _ 34 rfl (w.heap.size + 2) 89 i0 5 Tryz.underlying34 hi _ _ _ rfl (za OA) rfl ?_)
  refine bodyPost_ret (v := .agg #[.slice (some ⟨w.heap.size + 1 + 1, 0, none⟩) 0 0]) (by simp [results, Tryz.results84, go_sem, z0]) rfl ⟨_, rfl, ?_, ?_⟩
  ·refine ⟨rfl, .inr ⟨w.heap.size + 1 + 1, 0, #[], rfl, by omega, ?_, Nat.le_refl _, Nat.zero_le _, rfl, rfl⟩⟩
   have h := heap_alloc_new ((w.alloc (.cells #[.slice none 0 0] 36)).alloc (.cells #[.slice (some ⟨w.heap.size + 1 + 1, 0, none⟩) 0 0] 36)) (.cells #[] 89)
   rw [show ((w.alloc (.cells #[.slice none 0 0] 36)).alloc (.cells #[.slice (some ⟨w.heap.size + 1 + 1, 0, none⟩) 0 0] 36)).heap.size = w.heap.size + 1 + 1 by simp] at h
   exact h
  ·exact (((Below.refl _ _).alloc (Nat.le_refl _) _).alloc (by simp) _).alloc (by simp; omega) _
 ·go_enter Tryz.func84, Tryz.ntmps84
  go_wp2_with (at_builtin; refine wpList_append_own _ rfl _ _ 34 rfl (w.heap.size + 2) 89 i0 _ 5 56 Tryz.underlying34 hi hz0 hz1 hz2 rfl (by decide) _ _ _ rfl (za OA) ⟨g, o, none⟩ L.length cap (Pl.zc5 L) rfl (by rw [Pl.zk9]) (zg3.zz3 (za NV)) (zg3.cells_one _) (by rw [List.length_nil, Nat.zero_add]; unfold maxLen; omega) (by rw [List.length_nil, Nat.zero_add]; omega) (by simp) ?_)
  intro v1 wA ownA growA _
  have OB := hide (zg3.zn5 (A := []) (M := L) (m := L.length) (by rw [List.length_nil, Nat.zero_add]; exact ownA) rfl)
  rw [List.nil_append] at OB
  have hg1 : ∀ q, (Value.slice (some ⟨w.heap.size + 2, 0, none⟩) 0 0).ownBlock = some q → q = w.heap.size + 2 := fun q hq => (Option.some.inj hq).symm
  have B1 := B1.grown growA (fun e => by have := hg1 _ e.symm; omega)
  have b3 := b2.grown growA b2.size (fun q hq => by have := hg1 q hq; omega)
  obtain ⟨a3, c3, hv3⟩ := Mem.za1 (za OB)
  subst hv3
  have z0 := B1.cell 0
  have zf := B1.fr 0
  simp only [kA0, kA1] at z0
  clear ownA growA hg1 OA NV x0 B0 b2
  go_wp2
  refine bodyPost_ret (v := .agg #[.slice a3 L.length c3]) (by simp [results, Tryz.results84, go_sem, z0]) rfl ⟨_, rfl, ?_, ?_⟩
  ·exact Mem.zb4 (Mem.za7 (za OB) _ _ (by show w.heap.size + 1 < w.heap.size + 2; omega)) (by omega)
  ·exact b3.setCell (by show w.heap.size ≤ w.heap.size + 1; omega) _
end WCopyV
end Go.Proofs.YtfdbokipgofcdaaGreatDoor

