/- Several texts of one claim in one file: WDrawDp, WOwnI, WDropX, WLay6. -/
import Derived.Test.YtfdbokipgofcdaaGreatDoorG26
import Derived.Test.YtfdbokipgofcdaaGreatDoorG27
import Derived.Test.YtfdbokipgofcdaaGreatDoorG00
import Derived.Below
import Derived.WalkKit
import Derived.Laws.IdiomStrings
import Derived.Deep.RegionHeld3
import Derived.Laws.AppendOwn
import Derived.Test.YtfdbokipgofcdaaGreatDoorProg
import Derived.WalkSpells
import Derived.Test.YtfdbokipgofcdaaGreatDoorG11
import Derived.Test.YtfdbokipgofcdaaGreatDoorG34
import Derived.Test.YtfdbokipgofcdaaGreatDoorG15
set_option linter.unusedSimpArgs false
namespace Go.Proofs.YtfdbokipgofcdaaGreatDoor
open Go.RowKit
namespace WSrc
set_option maxRecDepth 100000 in
set_option maxHeartbeats 4000000 in
theorem deep_any (S : Nat) (a : Option Addr) (len cap : Nat) (w : World) (hs : Src w S a len cap) :
  Calls Tryz.prog 55 #[.pointer (some ⟨S, 0, none⟩)] w fun e w' => ∃ va vc Is, Is.length ≤ 200 ∧ e = .returned (.slice va Is.length vc) ∧ Ik w' w.heap.size S a len cap (.slice va Is.length vc) Is ∧ w.grownBy w' (some S) := by
 obtain ⟨i0, hi, hz0, hz1, hz2⟩ := info_parts zu5
 have hS := zz1 hs
 have hn := hide (zd9 S a len cap 2 w hs (by omega))
 have HS := hide hS
 clear hs
 go_enter Tryz.func55, Tryz.ntmps55
 go_wp2_with fail
 refine (za hn).mono ?_
 rintro e w1 ⟨r, rfl, r0, r1, s1, g1⟩
 obtain ⟨m0, hm0⟩ : ∃ m0 : Nat, r = (m0 : Int) := ⟨r.toNat, by omega⟩
 subst hm0
 have hw1 : IntKind.i64.wrap (2 + (m0 : Int)) = (m0 : Int) + 2 := by simp only [IntKind.wrap_i64]; omega
 have hw2 : IntKind.i64.wrap ((m0 : Int) + 2 - 1) = ((m0 + 1 : Nat) : Int) := by simp only [IntKind.wrap_i64]; omega
 have hg1 := g1.size
 have Q1 : Hid (Ik (w1.alloc (.cells #[.int .i64 ((m0 : Int) + 2), .slice none 0 0] 38)) w.heap.size S a len cap (.slice (some ⟨w1.heap.size, 0, none⟩) 1 1) [⟨(m0 : Int) + 2, ⟨none, 0, []⟩⟩]) := hide
  ⟨hS, Nat.le_trans hg1 (by simp), yb2 s1 ((Below.refl _ _).alloc (Nat.le_refl _) _), ⟨rfl, .inr ⟨w1.heap.size, 1, _, rfl, hg1, heap_alloc_new _ _, Nat.le_refl _, by decide, rfl, rfl⟩⟩, fun x hx => by cases List.mem_singleton.1 hx; exact zx5 _ _ _ (by omega)⟩
 have G1 := hide ((Gb.of (B := w.heap.size) g1).alloc (.cells #[.int .i64 ((m0 : Int) + 2), .slice none 0 0] 38))
 have c0 := World.ownsRow.cells (za Q1).own (g := w1.heap.size) rfl 0 _ rfl
 rw [Mem.add_lit] at c0
 have hm2 : m0 + 1 ≤ 2 := by omega
 clear hn s1 g1 r0 r1
 go_wp2
 go_loopw [3, 4] (fun st k wr => ∃ (j : Nat) (Is : List Pl.It), k = .int .i64 (j : Int) ∧ j ≤ 2 ∧ Is.length + j * 13 ≤ 27 ∧ 1 ≤ Is.length ∧ Hid (Ik wr w.heap.size S a len cap st Is) ∧ Hid (Gb w wr w.heap.size S)) (fun _ k _ => (intOf k).toNat)
 case atStart => exact ⟨m0 + 1, [⟨(m0 : Int) + 2, ⟨none, 0, []⟩⟩], rfl, hm2, by show 1 + (m0 + 1) * 13 ≤ 27; omega, Nat.le_refl 1, Q1, G1⟩
 case round =>
  obtain ⟨j, Is, rfl, hj, hIl, hI1, QK, GK⟩ := hrel
  clear Q1 G1 c0 hw1 hw2
  cases j with
  | zero =>
   obtain ⟨na, nc, rfl⟩ := Mem.za1 (za QK).own
   go_wp2_with fail
   refine (zd9 S a len cap 2 _ (za QK).src (by omega)).mono ?_
   rintro e w6 ⟨r6, rfl, q0, q1, s6, g6⟩
   obtain ⟨m6, hm6⟩ : ∃ m6 : Nat, r6 = (m6 : Int) := ⟨r6.toNat, by omega⟩
   subst hm6
   obtain ⟨k1, hk1⟩ : ∃ k1 : Nat, k1 = m6 + 1 := ⟨_, rfl⟩
   have hw6 : IntKind.i64.wrap (1 + (m6 : Int)) = (k1 : Int) := by simp only [IntKind.wrap_i64]; omega
   have hk12 : k1 ≤ 2 := by omega
   have Q6 := hide ((za QK).call s6 g6)
   have G6 := hide ((za GK).trans (Gb.of g6))
   have KF := hide ((za Q6).alloc (.cells #[.int .i64 (k1 : Int), .slice none 0 0] 38))
   have KD := hide (zx5 (W := w6.alloc (.cells #[.int .i64 (k1 : Int), .slice none 0 0] 38)) w.heap.size (.slice na Is.length nc) (k1 : Int) (by omega))
   clear QK GK s6 g6 q0 q1 hk1
   go_wp2_with (at_builtin; refine Mem.zb0 _ rfl _ _ 23 rfl w.heap.size 38 i0 (.agg #[.int .i64 0, .slice none 0 0]) 2 32 Tryz.underlying23 hi hz0 hz1 hz2 rfl (by decide) _ _ _ rfl (za KF).own ⟨w6.heap.size, 0, none⟩ 1 1 [.int .i64 (k1 : Int), .slice none 0 0] rfl rfl (zj0 _ _ _ _) (zk1 _ _ _ _) (by unfold maxLen; omega) (by omega) (za KF).hi ?_)
   intro v' w7 own' gr far
   have KE := (za KF).app (Js := [⟨(k1 : Int), ⟨none, 0, []⟩⟩]) gr (by rw [List.length_append, Pl.zg0]; exact own') (by simpa using far) (fun x hx => by cases List.mem_singleton.1 hx; exact za KD)
   have GE := hide (((za G6).alloc _).trans (Gb.own (S := S) gr (fun g hg => (World.ownsRow.lt (za KF).own g hg).1)))
   have KE := hide KE
   have hl8 : (Is ++ [(⟨(k1 : Int), ⟨none, 0, []⟩⟩ : Pl.It)]).length ≤ 28 := by rw [List.length_append]; show Is.length + 1 ≤ 28; omega
   generalize hJ : Is ++ [(⟨(k1 : Int), ⟨none, 0, []⟩⟩ : Pl.It)] = Js at KE hl8
   clear own' gr far KF KD G6 Q6 hJ hw6
   go_wp2
   go_loopw [3, 5] (fun st k wr => ∃ (j : Nat) (Is : List Pl.It), k = .int .i64 (j : Int) ∧ j ≤ 2 ∧ Is.length + j * 13 ≤ 54 ∧ Hid (Ik wr w.heap.size S a len cap st Is) ∧ Hid (Gb w wr w.heap.size S)) (fun _ k _ => (intOf k).toNat)
   case atStart => exact ⟨k1, Js, rfl, hk12, by omega, KE, GE⟩
   case round =>
    obtain ⟨j, Ks, rfl, hj, hKl, QK, GK⟩ := hrel
    clear KE GE hl8
    cases j with
    | zero =>
     obtain ⟨na, nc, rfl⟩ := Mem.za1 (za QK).own
     go_wp2
     go_ret
     exact ⟨na, nc, Ks, by omega, rfl, za QK, zr6 (za GK)⟩
    | succ j =>
     have tj : (0 : Int) < ((j + 1 : Nat) : Int) := by omega
     have hwj : IntKind.i64.wrap (((j + 1 : Nat) : Int) - 1) = (j : Int) := by simp only [IntKind.wrap_i64]; omega
     have HC := hide (zx9 w.heap.size S a len cap 2 (by omega) _ Ks _ (za QK) (by show Ks.length + 13 ≤ 1000; omega))
     go_wp2_with fail
     refine (za HC).mono ?_
     rintro e wZ ⟨v2, Ms, rfl, hK, hK1, IK, GG⟩
     have KZ := hide IK
     have GZ := hide ((za GK).trans GG)
     have hK40 : Ms.length ≤ 13 := hK
     clear IK GG hK HC QK GK
     go_wp2
     go_roundw
     case rel => exact ⟨j, Ks ++ Ms, by go_num, by omega, by rw [List.length_append]; omega, KZ, GZ⟩
     case measure => simp [intOf]
  | succ j =>
   have tj : (0 : Int) < ((j + 1 : Nat) : Int) := by omega
   have hwj : IntKind.i64.wrap (((j + 1 : Nat) : Int) - 1) = (j : Int) := by simp only [IntKind.wrap_i64]; omega
   have HC := hide (zx9 w.heap.size S a len cap 2 (by omega) _ Is wr (za QK) (by show Is.length + 13 ≤ 1000; omega))
   go_wp2_with fail
   refine (za HC).mono ?_
   rintro e wZ ⟨v2, Ks, rfl, hK, hK1, IK, GG⟩
   have KZ := hide IK
   have GZ := hide ((za GK).trans GG)
   have hK40 : Ks.length ≤ 13 := hK
   clear IK GG hK HC QK GK
   go_wp2
   go_roundw
   case rel => exact ⟨j, Is ++ Ks, by go_num, by omega, by rw [List.length_append]; omega, by rw [List.length_append]; omega, KZ, GZ⟩
   case measure => simp [intOf]
set_option maxRecDepth 100000 in
theorem yu3 (a : Option Addr) (len cap : Nat) (w : World) (hr : RowB w w.heap.size a len cap) :
  Calls Tryz.prog 23 #[.slice a len cap] w fun e w' => ∃ (va : Option Addr) (vc : Nat) (Is : List Pl.It), Is.length ≤ 200 ∧ e = .returned (.slice va Is.length vc) ∧ zr0 w' w.heap.size va Is ∧ w'.ownsRow w.heap.size 38 2 (.slice va Is.length vc) Is.length (Pl.zb9 Is) ∧ Below w.heap.size w w' := by
 have h0 := hide (yl6 a len cap w hr)
 clear hr
 go_enter Tryz.func23, Tryz.ntmps23
 go_wp2_with fail
 refine (za h0).mono ?_
 rintro e w1 ⟨rfl, hs, b1⟩
 clear h0
 go_wp2_with fail
 refine (zk3 w.heap.size a len cap 4 _ hs (by omega)).mono ?_
 rintro e w2 ⟨r2, rfl, s2, g2⟩
 have b2 : Below w.heap.size w w2 := b1.grown g2 b1.size (fun q hq => by cases hq; omega)
 have hsz : w.heap.size ≤ w2.heap.size := b2.size
 clear hs g2 b1
 cases r2
 ·go_wp2_with fail
  refine (deep_any w.heap.size a len cap _ s2).mono ?_
  rintro e w3 ⟨va, vc, Is, hl, rfl, ik, g3⟩
  have NV := hide (ik.nest.mono (B' := w.heap.size) hsz)
  have OW : Hid (w3.ownsRow w.heap.size 38 2 (.slice va Is.length vc) Is.length (Pl.zb9 Is)) :=
   ⟨ik.own.1, ik.own.2.imp id (fun ⟨g, c, cur, e, hb, r⟩ => ⟨g, c, cur, e, Nat.le_trans hsz hb, r⟩)⟩
  have b3 : Below w.heap.size w w3 := b2.grown g3 b2.size (fun q hq => by cases hq; omega)
  clear ik g3 s2 b2
  go_wp2
  go_ret
  exact ⟨va, vc, Is, hl, rfl, za NV, za OW, b3⟩
 ·go_wp2_with fail
  refine (zk8 w.heap.size a len cap _ s2).mono ?_
  rintro e w3 ⟨va, vc, Is, hl, rfl, ik, g3⟩
  have NV := hide (ik.nest.mono (B' := w.heap.size) hsz)
  have OW : Hid (w3.ownsRow w.heap.size 38 2 (.slice va Is.length vc) Is.length (Pl.zb9 Is)) :=
   ⟨ik.own.1, ik.own.2.imp id (fun ⟨g, c, cur, e, hb, r⟩ => ⟨g, c, cur, e, Nat.le_trans hsz hb, r⟩)⟩
  have b3 : Below w.heap.size w w3 := b2.grown g3 b2.size (fun q hq => by cases hq; omega)
  clear ik g3 s2 b2
  go_wp2
  go_ret
  exact ⟨va, vc, Is, hl, rfl, za NV, za OW, b3⟩
end WSrc
end Go.Proofs.YtfdbokipgofcdaaGreatDoor

namespace Go.Proofs.YtfdbokipgofcdaaGreatDoor
open Go.RowKit
namespace WPick
theorem zu5 : (Tryz.prog.info? 3).map (fun i => (i.zero, i.size, i.bytes)) = some (some (.int .i64 0), 1, 8) := by kernel_rfl
def intsV (ks : List Nat) : List Value := ks.map (fun k : Nat => Value.int .i64 (k : Int))
def ownI (w : World) (B : Nat) (v : Value) (ks : List Nat) : Prop := w.ownsRow B 3 1 v ks.length (intsV ks)
theorem ownI_call {w w' : World} {B : Nat} {v : Value} {ks : List Nat} (h : ownI w B v ks) (b : Below w.heap.size w w') : ownI w' B v ks := by
 refine ⟨h.1, ?_⟩
 rcases h.2 with h0 | ⟨g, cap, cur, hv, hb, hg, rest⟩
 ·exact .inl h0
 ·exact .inr ⟨g, cap, cur, hv, hb, (b.block g (Array.getElem?_eq_some_iff.1 hg).1).trans hg, rest⟩
theorem ownI_snoc {w : World} {B : Nat} {v : Value} {ks : List Nat} {k : Nat} (h : w.ownsRow B 3 1 v (ks.length + 1) (intsV ks ++ [.int .i64 (k : Int)])) : ownI w B v (ks ++ [k]) := by
 unfold ownI intsV
 rw [List.map_append, List.length_append]
 exact h
end WPick
end Go.Proofs.YtfdbokipgofcdaaGreatDoor

namespace Go.Proofs.YtfdbokipgofcdaaGreatDoor
namespace zp0
theorem zo5 {Is : List Pl.It} {p : Nat} {L : List Pl.Nd} {k m : Pl.Fx} {R : List (Int × List Pl.Nd)} (h : (Is.drop p).map Pl.It.r = (Pl.Fx.cons L k m).flat ++ R) : ∃ x, Is[p]? = some x ∧ x.m = (k.len : Int) ∧ x.t.L = L ∧ (Is.drop (p + 1)).map Pl.It.r = k.flat ++ (m.flat ++ R) := by
 rw [Pl.Fx.flat, List.cons_append] at h
 cases hd : Is.drop p with
 | nil => rw [hd] at h; cases h
 | cons x T =>
  rw [hd] at h
  simp only [List.map_cons, List.cons.injEq] at h
  have hx : Is[p]? = some x := by
   have := List.getElem?_drop (xs := Is) (i := p) (j := 0)
   rw [hd] at this
   simpa using this.symm
  have hT : Is.drop (p + 1) = T := by rw [← List.drop_drop, hd]; rfl
  refine ⟨x, hx, congrArg Prod.fst h.1, congrArg Prod.snd h.1, ?_⟩
  rw [hT, h.2, List.append_assoc]
theorem yj {Is : List Pl.It} {k : Pl.Fx} : ∀ {p : Nat} {R : List (Int × List Pl.Nd)}, (Is.drop p).map Pl.It.r = k.flat ++ R → (Is.drop (p + k.sz)).map Pl.It.r = R := by
 intro p R h
 rw [← List.drop_drop, List.map_drop, h, ← Pl.Fx.zk6, List.drop_left]
end zp0
end Go.Proofs.YtfdbokipgofcdaaGreatDoor

namespace Go.Proofs.YtfdbokipgofcdaaGreatDoor
open Go.RowKit
namespace zn4
open WPick
set_option linter.unusedSimpArgs false in
set_option maxRecDepth 100000 in
set_option maxHeartbeats 1000000 in
theorem ym0 (a : Option Addr) (cap : Nat) (Is : List Pl.It) (hl : Is.length ≤ 12) (hok : ∀ x ∈ Is, x.t.L.length ≤ 1048576 ∧ ∀ n ∈ x.t.L, n.path.size ≤ 1048576 ∧ n.data.size ≤ 1048576) (L : List Pl.Nd) (K : Pl.Fx) (p : Nat) (w : World) (hx : (Pl.Fx.cons L K .nil).okX) (hd : K.shape.depth ≤ 3) (hfl : ∃ R, (Is.drop p).map Pl.It.r = (Pl.Fx.cons L K .nil).flat ++ R) (hv : Mem.za6 w a Is) :
  Calls Tryz.prog 83 #[.slice a Is.length cap, .int .i64 (p : Int)] w fun e w' => ∃ v, e = .returned v ∧ ownI w' w.heap.size v (Pl.starts K (p + 1)) ∧ Below w.heap.size w w' := by
 obtain ⟨i0, hi, hz0, hz1, hz2⟩ := info_parts zu5
 obtain ⟨R0, hfl⟩ := hfl
 obtain ⟨x, hxp, hxm, hxL, hrest⟩ := zp0.zo5 hfl
 have hplt : p < Is.length := (List.getElem?_eq_some_iff.1 hxp).1
 obtain ⟨⟨b, o, rfl, hb, q0, -⟩, -⟩ := hv p x hxp
 have b0 : Below w.heap.size w (w.alloc (.cells #[] 3)) := (Below.refl _ _).alloc (Nat.le_refl _) _
 have c0 := (b0.cell (p := ⟨b, _, none⟩) hb).trans q0
 rw [hxm] at c0
 have hK4 : K.len ≤ 4 := hx.2.2.1
 have t1 : (p : Int) < (Is.length : Int) := by omega
 have t3 : (0 : Int) ≤ (p : Int) := by omega
 have HEN := hide (fun (j : Nat) W (hj : j ≤ Is.length) (bb : Below w.heap.size w W) => zj2.zy0 (some ⟨b, o, none⟩) cap Is hl hok 4 1 j W rfl hj (Mem.zc1 hv bb))
 have HKX := hide hx.2.2.2.1
 have HDP := hide hd
 have O0 : Hid (ownI (w.alloc (.cells #[] 3)) w.heap.size (.slice (some ⟨w.heap.size, 0, none⟩) 0 0) []) := ⟨rfl, .inr ⟨w.heap.size, 0, #[], rfl, Nat.le_refl _, heap_alloc_new _ _, Nat.le_refl _, Nat.zero_le _, rfl, rfl⟩⟩
 have HFL : Hid (∃ R, (Is.drop (p + 1)).map Pl.It.r = K.flat ++ R) := ⟨_, hrest⟩
 have HST : Hid ([] ++ Pl.starts K (p + 1) = Pl.starts K (p + 1)) := rfl
 clear hv hok hfl hrest hxp hxm q0 hx hd hxL
 go_enter Tryz.func83, Tryz.ntmps83
 go_wp2
 go_loopw [1, 5, 6] (fun at' v kk wr => ∃ (j : Nat) (ps : List Nat) (F : Pl.Fx), at' = .int .i64 (j : Int) ∧ kk = .int .i64 (F.len : Int) ∧ Hid (ps.length + F.len = K.len) ∧ Below w.heap.size w wr ∧ Hid (ownI wr w.heap.size v ps) ∧ Hid (ps ++ Pl.starts F j = Pl.starts K (p + 1)) ∧ Hid F.okX ∧ Hid (F.shape.depth ≤ 3) ∧ Hid (∃ R, (Is.drop j).map Pl.It.r = F.flat ++ R)) (fun _ _ kk _ => (intOf kk).toNat)
 case atStart => exact ⟨p + 1, [], K, by go_num, rfl, hide (by simp), b0, O0, HST, HKX, HDP, HFL⟩
 case round =>
  obtain ⟨j, ps, F, rfl, rfl, HPL, hbel, OW, ST, FX, FD, FL⟩ := hrel
  clear O0 HST HKX HDP HFL b0 c0
  cases F with
  | nil =>
   have E : Hid (ps = Pl.starts K (p + 1)) := hide (by have := za ST; rw [Pl.starts, List.append_nil] at this; exact this)
   have u1 : ¬ (0 : Int) < ((Pl.Fx.nil.len : Nat) : Int) := by decide
   clear ST FX FD FL HPL
   go_wp2
   go_ret
   exact ⟨_, rfl, by rw [← za E]; exact za OW, hbel⟩
  | cons L1 k1 m1 =>
   obtain ⟨R2, hfl2⟩ := za FL
   obtain ⟨x2, hx2, -, -, hr2⟩ := zp0.zo5 hfl2
   have hjl : j < Is.length := (List.getElem?_eq_some_iff.1 hx2).1
   have hdd := za FD
   rw [Pl.depth_cons] at hdd
   have hend := hide (fun W bb => za HEN j W (by omega) bb)
   have hef := Pl.end_flat (xs := Is.map Pl.It.r) (by rw [← List.map_drop]; exact hfl2) (za FX) (by omega) (by rw [List.length_map]; omega)
   rw [List.length_map] at hef
   rw [hef] at hend
   have FL2 : Hid (∃ R, (Is.drop (j + 1 + k1.sz)).map Pl.It.r = m1.flat ++ R) := ⟨R2, zp0.yj hr2⟩
   have FX2 : Hid m1.okX := (za FX).2.2.2.2
   have FD2 : Hid (m1.shape.depth ≤ 3) := hide (by omega)
   have ST2 : Hid ((ps ++ [j]) ++ Pl.starts m1 (j + 1 + k1.sz) = Pl.starts K (p + 1)) := hide (by have := za ST; rw [Pl.starts] at this; rw [← this]; simp)
   obtain ⟨f, hf⟩ : ∃ f, f = (Pl.Fx.cons L1 k1 m1).len := ⟨_, rfl⟩
   rw [← hf]
   have hpl := za HPL
   rw [← hf] at hpl
   have u1 : (0 : Int) < (f : Int) := by rw [hf]; simp only [Pl.Fx.len]; omega
   have HF : Hid (f = m1.len + 1) := hf
   have HWF : Hid (wrap64 ((f : Int) - 1) = (f : Int) - 1) := hide (by unfold wrap64; omega)
   have HPL2 : Hid ((ps ++ [j]).length + m1.len = K.len) := hide (by have := za HF; simp; omega)
   have hps : ps.length ≤ 4 := by omega
   have bA : Below wr.heap.size wr (wr.alloc (.cells #[.int .i64 (j : Int)] 3)) := (Below.refl _ _).alloc (Nat.le_refl _) _
   have HR := hide (ownI_call (za OW) bA)
   have HQ := hide (fun w2 h2 => Mem.zj6 (o := .cells #[.int .i64 (j : Int)] 3) (w1 := w2) hbel (Nat.le_refl _) (za OW) h2)
   have HSB := hide hbel.size
   unfold ownI at HR
   clear OW bA ST FX FD FL hfl2 hr2 hdd hef hf HPL hpl hx2 hbel
   go_wp2_with (at_builtin; refine wpList_append_own _ rfl _ _ 116 rfl w.heap.size 3 i0 (.int .i64 0) 1 8 Tryz.underlying116 hi hz0 hz1 hz2 rfl (by decide) _ _ _ rfl (za HR) ⟨wr.heap.size, 0, none⟩ 1 1 [.int .i64 (j : Int)] rfl rfl (Mem.zq5 _ _ _) (fun u hu => by simp at hu; subst hu; rfl) (by unfold maxLen; omega) (by omega) (by have := za HSB; simp; omega) ?_)
   intro v' w2 own' hgrow _
   have O2 := hide (ownI_snoc own')
   have bw2 := za HQ w2 hgrow
   clear HR HQ own' hgrow HSB
   go_wp2_with fail
   refine (za hend _ bw2).mono ?_
   rintro e w3 ⟨rfl, b3⟩
   have O3 := hide (ownI_call (za O2) b3)
   have bw3 := bw2.trans (b3.mono bw2.size)
   clear hend O2 b3 bw2
   go_wp2
   go_roundw
   case rel => exact ⟨j + 1 + k1.sz, ps ++ [j], m1, rfl, by have h := za HF; have hw := za HWF; first | go_num | (rw [hw]; congr 1; omega), HPL2, bw3, O3, ST2, FX2, FD2, FL2⟩
   case measure => (have h := za HF; have hw := za HWF; simp [intOf]; omega)
end zn4
end Go.Proofs.YtfdbokipgofcdaaGreatDoor

