/- Several texts of one claim in one file: MemFar, WDrawNn, WSource, WDrawSi0, WDrawNb. -/
import Derived.Test.YtioildojmckepaaGreatDoorG04
import Derived.Laws.AppendOwn
import Derived.Deep.RegionHeld3
import Derived.Test.YtioildojmckepaaGreatDoorWDrawNe
import Derived.Test.YtioildojmckepaaGreatDoorG16
import Derived.Test.YtioildojmckepaaGreatDoorMemIk
namespace Go.Proofs.YtioildojmckepaaGreatDoor
open Go.RowKit
namespace Mem
theorem nodes_far {w : World} {g o : Nat} {L : List Pl.Nd} (h : zb5 w (some ⟨g, o, none⟩) L) (p : Addr) (v : Value) (hp : p.block ≠ g) : zb5 (w.setCell p v) (some ⟨g, o, none⟩) L := fun i n hi => by
 obtain ⟨g', o', h1, h2, h3, h4, h5, h6, h7⟩ := h i n hi
 cases h1
 refine ⟨g, o, rfl, by simpa using h2, ?_, ?_, ?_, ?_, ?_⟩ <;> (rw [World.cell?_setCell_far _ _ _ _ hp]; assumption)
end Mem
end Go.Proofs.YtioildojmckepaaGreatDoor

namespace Go.Proofs.YtioildojmckepaaGreatDoor
open Go.RowKit
namespace WSrc
theorem zm4 {w W : World} {S : Nat} (h : Gb w W w.heap.size S) : w.grownBy W (some S) := ⟨h.os, h.tape, h.output, h.size, fun j hj hne => h.block j hj hj (fun e => hne (by rw [e]))⟩
theorem ik_lo {W : World} {B S len cap g nc n : Nat} {a : Option Addr} {Is : List Pl.It} (h : Ik W B S a len cap (.slice (some ⟨g, 0, none⟩) n nc) Is) : B ≤ g := (World.ownsRow.lt h.own g rfl).1
theorem ik_cell {W : World} {B S len cap g nc : Nat} {a : Option Addr} {x : Pl.It} {Xs : List Pl.It} (h : Ik W B S a len cap (.slice (some ⟨g, 0, none⟩) (x :: Xs).length nc) (x :: Xs)) : W.cell? ⟨g, 0, none⟩ = some (.int .i64 x.m) ∧ W.frozen? ⟨g, 0, none⟩ = false := by
 refine ⟨?_, ?_⟩
 ·have := World.ownsRow.cells h.own (g := g) rfl 0 (.int .i64 x.m) rfl
  rw [Mem.add_lit] at this
  exact this
 ·rcases h.own.2 with ⟨e, _⟩ | ⟨g', c', cur, e, hb, hg, _⟩
  ·cases e
  ·cases e
   exact Mem.zj0 hg
theorem Gb.put {w W : World} {B S g : Nat} (h : Gb w W B S) (hg : B ≤ g) (k : Nat) (v : Value) : Gb w (W.setCell ⟨g, k, none⟩ v) B S :=
 ⟨h.os, h.tape, h.output, by rw [World.size_setCell]; exact h.size, fun j hj hb hs => (heap_setCell_other _ _ _ _ (by show j ≠ g; omega)).trans (h.block j hj hb hs)⟩
theorem ik_many {W : World} {B S len cap g nc : Nat} {a : Option Addr} {x : Pl.It} {Xs : List Pl.It} (h : Ik W B S a len cap (.slice (some ⟨g, 0, none⟩) (x :: Xs).length nc) (x :: Xs)) (m : Int) (hm : -1000 ≤ m ∧ m ≤ 1000) : Ik (W.setCell ⟨g, 0, none⟩ (.int .i64 m)) B S a len cap (.slice (some ⟨g, 0, none⟩) (x :: Xs).length nc) (⟨m, x.t⟩ :: Xs) := by
 have hlo := ik_lo h
 have l := h.lo
 refine ⟨h.lo, by rw [World.size_setCell]; exact h.hi, zg6 h.src 0 _ (by omega), ?_, fun y hy => ?_⟩
 ·refine ⟨h.own.1, ?_⟩
  rcases h.own.2 with ⟨e, _⟩ | ⟨g', c', cur, e, hb, hg, hc, hm', hs, ht⟩
  ·cases e
  ·cases e
   refine .inr ⟨g, nc, cur.setIfInBounds 0 (.int .i64 m), rfl, hb, heap_setCell_same _ _ _ _ _ _ hg, hc, hm', by rw [Array.size_setIfInBounds]; exact hs, ?_⟩
   rw [Array.toList_setIfInBounds, List.take_set]
   show (List.take ((x :: Xs).length * 2) cur.toList).set 0 _ = _
   rw [ht]
   rfl
 ·have hd : ∀ z, Di W B (.slice (some ⟨g, 0, none⟩) (x :: Xs).length nc) z → Di (W.setCell ⟨g, 0, none⟩ (.int .i64 m)) B (.slice (some ⟨g, 0, none⟩) (x :: Xs).length nc) z := fun z hz => by
   refine ⟨⟨fun i n hi => ?_, zn4.zu9 hz.tree.2.1 (by rw [World.size_setCell]; exact Nat.le_refl _), hz.tree.2.2⟩, hz.len, hz.ok, hz.many, hz.apart⟩
   obtain ⟨q, o, e, _⟩ := hz.tree.1 i n hi
   have ha := hz.apart q o e
   have h2 := hz.tree.1
   rw [e] at h2 ⊢
   exact Mem.nodes_far h2 ⟨g, 0, none⟩ (.int .i64 m) (fun e2 => ha (congrArg some e2)) i n hi
  rcases List.mem_cons.1 hy with rfl | hy
  ·have h3 := hd x (h.each x (List.mem_cons_self ..))
   exact ⟨h3.tree, h3.len, h3.ok, hm, h3.apart⟩
  ·exact hd y (h.each y (List.mem_cons_of_mem _ hy))
set_option linter.unusedSimpArgs false in
set_option maxRecDepth 100000 in
set_option maxHeartbeats 4000000 in
theorem zk4 (S : Nat) (a : Option Addr) (len cap : Nat) (w : World) (hs : Src w S a len cap) :
  Calls Tryz.prog 23 #[.pointer (some ⟨S, 0, none⟩)] w fun e w' => ∃ va vc Is, Is.length ≤ 200 ∧ e = .returned (.slice va Is.length vc) ∧ Ik w' w.heap.size S a len cap (.slice va Is.length vc) Is ∧ w.grownBy w' (some S) := by
 obtain ⟨i0, hi, hz0, hz1, hz2⟩ := info_parts infoI
 have hS := zr7 hs
 have hn := hide (zc9 S a len cap 3 w hs (by omega))
 have HS := hide hS
 clear hs
 go_enter Tryz.func23, Tryz.ntmps23
 go_wp2_with fail
 refine (za hn).mono ?_
 rintro e w1 ⟨r, rfl, r0, r1, s1, g1⟩
 have hr2 : r ≤ 2 := by omega
 have hw1 : IntKind.i64.wrap (1 + r) = 1 + r := by simp only [IntKind.wrap_i64]; omega
 have hg1 := g1.size
 have Q1 : Hid (Ik (w1.alloc (.cells #[.int .i64 (1 + r), .slice none 0 0] 38)) w.heap.size S a len cap (.slice (some ⟨w1.heap.size, 0, none⟩) 1 1) [⟨1 + r, ⟨none, 0, []⟩⟩]) := hide
  ⟨hS, Nat.le_trans hg1 (by simp), zw6 s1 ((Below.refl _ _).alloc (Nat.le_refl _) _), ⟨rfl, .inr ⟨w1.heap.size, 1, _, rfl, hg1, heap_alloc_new _ _, Nat.le_refl _, by decide, rfl, rfl⟩⟩, fun x hx => by cases List.mem_singleton.1 hx; exact zu _ _ _ (by omega)⟩
 have G1 := hide ((Gb.of (B := w.heap.size) g1).alloc (.cells #[.int .i64 (1 + r), .slice none 0 0] 38))
 clear hn s1 g1
 go_wp2_with fail
 refine (zh5 S a len cap 6 _ (za Q1).src (by omega)).mono ?_
 rintro e w3 ⟨r3, rfl, s3, g3⟩
 have Q3 := hide ((za Q1).call s3 g3)
 have G3 := hide ((za G1).trans (Gb.of g3))
 clear Q1 G1 s3 g3
 cases r3
 ·have c0 := World.ownsRow.cells (za Q3).own (g := w1.heap.size) rfl 0 _ rfl
  rw [Mem.add_lit] at c0
  obtain ⟨k0, hk0⟩ : ∃ k0 : Nat, (1 + r) = (k0 : Int) := ⟨(1 + r).toNat, by omega⟩
  have hk3 : k0 ≤ 3 := by omega
  rw [hk0] at c0 Q3
  rw [hk0]
  clear hw1 hk0 r0 r1 hr2
  generalize hq1 : w1.heap.size = q1 at c0 Q3 ⊢
  clear hq1
  go_wp2
  go_loopw [3, 4] (fun st k wr => ∃ (j : Nat) (Is : List Pl.It), k = .int .i64 (j : Int) ∧ j ≤ 3 ∧ Is.length + j * 40 ≤ 121 ∧ 1 ≤ Is.length ∧ Hid (Ik wr w.heap.size S a len cap st Is) ∧ Hid (Gb w wr w.heap.size S)) (fun _ k _ => (intOf k).toNat)
  case atStart => exact ⟨k0, [⟨(k0 : Int), ⟨none, 0, []⟩⟩], rfl, hk3, by show 1 + k0 * 40 ≤ 121; omega, Nat.le_refl 1, Q3, G3⟩
  case round =>
   obtain ⟨j, Is, rfl, hj, hIl, hI1, QK, GK⟩ := hrel
   clear Q3 G3 c0
   cases j with
   | zero =>
    obtain ⟨na, nc, rfl⟩ := Mem.za3 (za QK).own
    have hIl' : Is.length ≤ 200 := by omega
    go_wp2_with fail
    obtain ⟨g, rfl⟩ : ∃ g, na = some ⟨g, 0, none⟩ := by
     rcases (za QK).own.2 with ⟨_, h0⟩ | ⟨g, c, cur, e, -⟩
     ·exact absurd h0 (by omega)
     ·injection e with e1; exact ⟨g, e1⟩
    refine (zh5 S a len cap 25 _ (za QK).src (by omega)).mono ?_
    rintro e w5 ⟨r5, rfl, s5, g5⟩
    have Q5 := hide ((za QK).call s5 g5)
    have G5 := hide ((za GK).trans (Gb.of g5))
    clear QK GK s5 g5
    cases r5
    ·go_wp2
     go_ret
     exact ⟨_, nc, Is, by omega, rfl, za Q5, zm4 (za G5)⟩
    ·go_wp2_with fail
     refine (zc9 S a len cap 3 _ (za Q5).src (by omega)).mono ?_
     rintro e w6 ⟨r6, rfl, q0, q1, s6, g6⟩
     have Q6 := hide ((za Q5).call s6 g6)
     have G6 := hide ((za G5).trans (Gb.of g6))
     clear Q5 G5 s6 g6
     rcases (show r6 = 0 ∨ r6 = 1 ∨ r6 = 2 by omega) with rfl | rfl | rfl
     ·go_wp2_with fail
      refine (zc9 S a len cap 6 _ (za Q6).src (by omega)).mono ?_
      rintro e w7 ⟨r7, rfl, p0, p1, s7, g7⟩
      have Q7 := hide ((za Q6).call s7 g7)
      have G7 := hide ((za G6).trans (Gb.of g7))
      obtain ⟨x, Xs, rfl⟩ : ∃ x Xs, Is = x :: Xs := by
       cases Is with
       | nil => simp at hI1
       | cons x Xs => exact ⟨x, Xs, rfl⟩
      obtain ⟨cc, ff⟩ := ik_cell (za Q7)
      have hix : (0 : Int) < ((x :: Xs).length : Int) := by omega
      clear Q6 G6 s7 g7
      go_wp2
      go_ret
      exact ⟨_, nc, ⟨r7, x.t⟩ :: Xs, by simpa using hIl', rfl, ik_many (za Q7) r7 (by omega), zm4 ((za G7).put (ik_lo (za Q7)) 0 _)⟩
     ·have KF := hide ((za Q6).alloc (.cells #[.int .i64 0, .slice none 0 0] 38))
      have KD := hide (zu (W := w6.alloc (.cells #[.int .i64 0, .slice none 0 0] 38)) w.heap.size (.slice (some ⟨g, 0, none⟩) Is.length nc) 0 (by omega))
      go_wp2_with (at_builtin; refine Mem.zb0 _ rfl _ _ 23 rfl w.heap.size 38 i0 (.agg #[.int .i64 0, .slice none 0 0]) 2 32 Tryz.underlying23 hi hz0 hz1 hz2 rfl (by decide) _ _ _ rfl (za KF).own ⟨w6.heap.size, 0, none⟩ 1 1 [.int .i64 0, .slice none 0 0] rfl rfl (zg3 _ _ _ _) (zh4 _ _ _ _) (by unfold maxLen; omega) (by omega) (za KF).hi ?_)
      ·intro v' w7 own' gr far
       have KE := (za KF).app (Js := [⟨0, ⟨none, 0, []⟩⟩]) gr (by rw [List.length_append, Pl.zf2]; exact own') (by simpa using far) (fun x hx => by cases List.mem_singleton.1 hx; exact za KD)
       have GE := hide (((za G6).alloc _).trans (Gb.own (S := S) gr (fun g hg => (World.ownsRow.lt (za KF).own g hg).1)))
       obtain ⟨nb, nd, rfl⟩ := Mem.za3 KE.own
       have KE := hide KE
       clear own' gr far KF KD G6 Q6
       go_wp2
       go_ret
       exact ⟨nb, nd, Is ++ [⟨0, ⟨none, 0, []⟩⟩], by rw [List.length_append]; show Is.length + 1 ≤ 200; omega, rfl, za KE, zm4 (za GE)⟩
     ·have K2 := (za Q6).alloc (.cells #[.int .i64 1, .slice none 0 0, .int .i64 1, .slice none 0 0] 38)
      have KF : Hid (Ik (w6.alloc (.cells #[.int .i64 1, .slice none 0 0, .int .i64 1, .slice none 0 0] 38)) w.heap.size S a len cap (.slice (some ⟨w6.heap.size, 0, none⟩) 2 2) [⟨1, ⟨none, 0, []⟩⟩, ⟨1, ⟨none, 0, []⟩⟩]) := hide
       ⟨K2.lo, K2.hi, K2.src, ⟨rfl, .inr ⟨w6.heap.size, 2, _, rfl, (za Q6).hi, heap_alloc_new _ _, Nat.le_refl _, by decide, rfl, rfl⟩⟩, fun x hx => by
        simp only [List.mem_cons, List.not_mem_nil, or_false, or_self] at hx
        subst hx
        exact zu _ _ _ (by omega)⟩
      have CI := hide (fun j u hj => World.ownsRow.cells K2.own (g := g) rfl j u hj)
      have KX : Hid (∀ x ∈ Is, Di (w6.alloc (.cells #[.int .i64 1, .slice none 0 0, .int .i64 1, .slice none 0 0] 38)) w.heap.size (.slice (some ⟨w6.heap.size, 0, none⟩) 2 2) x) := fun x hx => by
       have h := K2.each x hx
       refine ⟨h.tree, h.len, h.ok, h.many, fun q o e e2 => ?_⟩
       have h1 := ((za Q6).each x hx).tree.blk q o e
       have e3 : w6.heap.size = q := Option.some.inj e2
       omega
      clear K2
      go_wp2_with (at_builtin; refine Mem.zb0 _ rfl _ _ 23 rfl w.heap.size 38 i0 (.agg #[.int .i64 0, .slice none 0 0]) 2 32 Tryz.underlying23 hi hz0 hz1 hz2 rfl (by decide) _ _ _ rfl (za KF).own ⟨g, 0, none⟩ Is.length nc (Pl.ze3 Is) rfl (Pl.yd4 Is) (za CI) (Pl.yd8 Is) (by unfold maxLen; show 2 + Is.length ≤ _; omega) (by show (2 + Is.length) * 32 ≤ _; omega) (za KF).hi ?_)
      ·intro v' w7 own' gr far
       have KE := (za KF).app (Js := Is) gr (by rw [List.length_append, Pl.zf2]; exact own') (by simpa using far) (za KX)
       have GE := hide (((za G6).alloc _).trans (Gb.own (S := S) gr (fun g hg => (World.ownsRow.lt (za KF).own g hg).1)))
       obtain ⟨nb, nd, rfl⟩ := Mem.za3 KE.own
       have KE := hide KE
       clear own' gr far KF KX CI G6 Q6
       go_wp2
       go_ret
       exact ⟨nb, nd, [⟨1, ⟨none, 0, []⟩⟩, ⟨1, ⟨none, 0, []⟩⟩] ++ Is, by rw [List.length_append]; show 2 + Is.length ≤ 200; omega, rfl, za KE, zm4 (za GE)⟩
   | succ j =>
    have tj : (0 : Int) < ((j + 1 : Nat) : Int) := by omega
    have hwj : IntKind.i64.wrap (((j + 1 : Nat) : Int) - 1) = (j : Int) := by simp only [IntKind.wrap_i64]; omega
    have HC := hide (zu0 w.heap.size S a len cap 3 (by omega) _ Is wr (za QK) (by show Is.length + 40 ≤ 1000; omega))
    go_wp2_with fail
    refine (za HC).mono ?_
    rintro e wZ ⟨v2, Ks, rfl, hK, hK1, IK, GG⟩
    have KZ := hide IK
    have GZ := hide ((za GK).trans GG)
    have hK40 : Ks.length ≤ 40 := hK
    clear IK GG hK HC QK GK
    go_wp2
    go_roundw
    case rel => exact ⟨j, Is ++ Ks, by go_num, by omega, by rw [List.length_append]; omega, by rw [List.length_append]; omega, KZ, GZ⟩
    case measure => simp [intOf]
 ·have HC := hide (zu0 w.heap.size S a len cap 4 (by omega) (.slice none 0 0) [] w3 ⟨(za Q3).lo, (za Q3).hi, (za Q3).src, ⟨rfl, .inl ⟨rfl, rfl⟩⟩, fun x hx => by cases hx⟩ (by decide))
  clear hw1 r0 r1 hr2
  go_wp2_with fail
  refine (za HC).mono ?_
  rintro e wZ ⟨v2, Is, rfl, hK, hI1, IK, GG⟩
  obtain ⟨na, nc, rfl⟩ := Mem.za3 IK.own
  have QK : Hid (Ik wZ w.heap.size S a len cap (.slice na Is.length nc) Is) := hide IK
  have GK := hide ((za G3).trans GG)
  have hIl : Is.length ≤ 121 := hK
  have hIl' : Is.length ≤ 200 := by omega
  clear IK GG hK HC Q3 G3
  go_wp2_with fail
  obtain ⟨g, rfl⟩ : ∃ g, na = some ⟨g, 0, none⟩ := by
   rcases (za QK).own.2 with ⟨_, h0⟩ | ⟨g, c, cur, e, -⟩
   ·exact absurd h0 (by omega)
   ·injection e with e1; exact ⟨g, e1⟩
  refine (zh5 S a len cap 25 _ (za QK).src (by omega)).mono ?_
  rintro e w5 ⟨r5, rfl, s5, g5⟩
  have Q5 := hide ((za QK).call s5 g5)
  have G5 := hide ((za GK).trans (Gb.of g5))
  clear QK GK s5 g5
  cases r5
  ·go_wp2
   go_ret
   exact ⟨_, nc, Is, by omega, rfl, za Q5, zm4 (za G5)⟩
  ·go_wp2_with fail
   refine (zc9 S a len cap 3 _ (za Q5).src (by omega)).mono ?_
   rintro e w6 ⟨r6, rfl, q0, q1, s6, g6⟩
   have Q6 := hide ((za Q5).call s6 g6)
   have G6 := hide ((za G5).trans (Gb.of g6))
   clear Q5 G5 s6 g6
   rcases (show r6 = 0 ∨ r6 = 1 ∨ r6 = 2 by omega) with rfl | rfl | rfl
   ·go_wp2_with fail
    refine (zc9 S a len cap 6 _ (za Q6).src (by omega)).mono ?_
    rintro e w7 ⟨r7, rfl, p0, p1, s7, g7⟩
    have Q7 := hide ((za Q6).call s7 g7)
    have G7 := hide ((za G6).trans (Gb.of g7))
    obtain ⟨x, Xs, rfl⟩ : ∃ x Xs, Is = x :: Xs := by
     cases Is with
     | nil => simp at hI1
     | cons x Xs => exact ⟨x, Xs, rfl⟩
    obtain ⟨cc, ff⟩ := ik_cell (za Q7)
    have hix : (0 : Int) < ((x :: Xs).length : Int) := by omega
    clear Q6 G6 s7 g7
    go_wp2
    go_ret
    exact ⟨_, nc, ⟨r7, x.t⟩ :: Xs, by simpa using hIl', rfl, ik_many (za Q7) r7 (by omega), zm4 ((za G7).put (ik_lo (za Q7)) 0 _)⟩
   ·have KF := hide ((za Q6).alloc (.cells #[.int .i64 0, .slice none 0 0] 38))
    have KD := hide (zu (W := w6.alloc (.cells #[.int .i64 0, .slice none 0 0] 38)) w.heap.size (.slice (some ⟨g, 0, none⟩) Is.length nc) 0 (by omega))
    go_wp2_with (at_builtin; refine Mem.zb0 _ rfl _ _ 23 rfl w.heap.size 38 i0 (.agg #[.int .i64 0, .slice none 0 0]) 2 32 Tryz.underlying23 hi hz0 hz1 hz2 rfl (by decide) _ _ _ rfl (za KF).own ⟨w6.heap.size, 0, none⟩ 1 1 [.int .i64 0, .slice none 0 0] rfl rfl (zg3 _ _ _ _) (zh4 _ _ _ _) (by unfold maxLen; omega) (by omega) (za KF).hi ?_)
    ·intro v' w7 own' gr far
     have KE := (za KF).app (Js := [⟨0, ⟨none, 0, []⟩⟩]) gr (by rw [List.length_append, Pl.zf2]; exact own') (by simpa using far) (fun x hx => by cases List.mem_singleton.1 hx; exact za KD)
     have GE := hide (((za G6).alloc _).trans (Gb.own (S := S) gr (fun g hg => (World.ownsRow.lt (za KF).own g hg).1)))
     obtain ⟨nb, nd, rfl⟩ := Mem.za3 KE.own
     have KE := hide KE
     clear own' gr far KF KD G6 Q6
     go_wp2
     go_ret
     exact ⟨nb, nd, Is ++ [⟨0, ⟨none, 0, []⟩⟩], by rw [List.length_append]; show Is.length + 1 ≤ 200; omega, rfl, za KE, zm4 (za GE)⟩
   ·have K2 := (za Q6).alloc (.cells #[.int .i64 1, .slice none 0 0, .int .i64 1, .slice none 0 0] 38)
    have KF : Hid (Ik (w6.alloc (.cells #[.int .i64 1, .slice none 0 0, .int .i64 1, .slice none 0 0] 38)) w.heap.size S a len cap (.slice (some ⟨w6.heap.size, 0, none⟩) 2 2) [⟨1, ⟨none, 0, []⟩⟩, ⟨1, ⟨none, 0, []⟩⟩]) := hide
     ⟨K2.lo, K2.hi, K2.src, ⟨rfl, .inr ⟨w6.heap.size, 2, _, rfl, (za Q6).hi, heap_alloc_new _ _, Nat.le_refl _, by decide, rfl, rfl⟩⟩, fun x hx => by
      simp only [List.mem_cons, List.not_mem_nil, or_false, or_self] at hx
      subst hx
      exact zu _ _ _ (by omega)⟩
    have CI := hide (fun j u hj => World.ownsRow.cells K2.own (g := g) rfl j u hj)
    have KX : Hid (∀ x ∈ Is, Di (w6.alloc (.cells #[.int .i64 1, .slice none 0 0, .int .i64 1, .slice none 0 0] 38)) w.heap.size (.slice (some ⟨w6.heap.size, 0, none⟩) 2 2) x) := fun x hx => by
     have h := K2.each x hx
     refine ⟨h.tree, h.len, h.ok, h.many, fun q o e e2 => ?_⟩
     have h1 := ((za Q6).each x hx).tree.blk q o e
     have e3 : w6.heap.size = q := Option.some.inj e2
     omega
    clear K2
    go_wp2_with (at_builtin; refine Mem.zb0 _ rfl _ _ 23 rfl w.heap.size 38 i0 (.agg #[.int .i64 0, .slice none 0 0]) 2 32 Tryz.underlying23 hi hz0 hz1 hz2 rfl (by decide) _ _ _ rfl (za KF).own ⟨g, 0, none⟩ Is.length nc (Pl.ze3 Is) rfl (Pl.yd4 Is) (za CI) (Pl.yd8 Is) (by unfold maxLen; show 2 + Is.length ≤ _; omega) (by show (2 + Is.length) * 32 ≤ _; omega) (za KF).hi ?_)
    ·intro v' w7 own' gr far
     have KE := (za KF).app (Js := Is) gr (by rw [List.length_append, Pl.zf2]; exact own') (by simpa using far) (za KX)
     have GE := hide (((za G6).alloc _).trans (Gb.own (S := S) gr (fun g hg => (World.ownsRow.lt (za KF).own g hg).1)))
     obtain ⟨nb, nd, rfl⟩ := Mem.za3 KE.own
     have KE := hide KE
     clear own' gr far KF KX CI G6 Q6
     go_wp2
     go_ret
     exact ⟨nb, nd, [⟨1, ⟨none, 0, []⟩⟩, ⟨1, ⟨none, 0, []⟩⟩] ++ Is, by rw [List.length_append]; show 2 + Is.length ≤ 200; omega, rfl, za KE, zm4 (za GE)⟩
end WSrc
end Go.Proofs.YtioildojmckepaaGreatDoor

namespace Go.Proofs.YtioildojmckepaaGreatDoor
open Go.RowKit
namespace WSrc
theorem fin {w wr w1 : World} {len cap p : Nat} {a : Option Addr} {v : Value} {m sz : Int} {C : Array Value} (hr : RowB w w.heap.size a len cap) (hbel : Below w.heap.size w wr) (hp : p ≤ len) (hz0 : 0 ≤ sz) (hz1 : sz ≤ 12)
  (hsz : wr.heap.size ≤ w1.heap.size) (hk : ∀ j, j < w.heap.size → w1.heap[j]? = wr.heap[j]?) (e1 : w1.os = wr.os) (e2 : w1.tape = wr.tape) (e3 : w1.output = wr.output)
  (hb : w1.heap[w.heap.size]? = some (.cells C 80 (0, 0))) (hC : C = #[.slice a len cap, .int .i64 (p : Int), v, .int .i64 sz]) (hv : v = .int .u64 m) : Src w1 w.heap.size a len cap ∧ Below w.heap.size w w1 := by
 have hbel2 : Below w.heap.size w w1 := hbel.trans ⟨e1, e2, e3, hsz, hk⟩
 refine ⟨⟨⟨hr.1, hr.2.1, fun i hi => ?_⟩, p, m, sz, by rw [hb, hC, hv], hp, hz0, hz1⟩, hbel2⟩
 obtain ⟨b, o, n, h1, h2, h3, h4⟩ := hr.2.2 i hi
 exact ⟨b, o, n, h1, h2, h3, (hbel2.cell (p := ⟨b, o + i, none⟩) h2).trans h4⟩
set_option maxRecDepth 100000 in
theorem yd6 (a : Option Addr) (len cap : Nat) (w : World) (hr : RowB w w.heap.size a len cap) :
  Calls Tryz.prog 22 #[.slice a len cap] w fun e w' => e = .returned (.pointer (some ⟨w.heap.size, 0, none⟩)) ∧ Src w' w.heap.size a len cap ∧ Below w.heap.size w w' := by
 have hl : (len : Int) ≤ 9223372036854775807 := by have h1 := hr.2.1; have h2 := hr.1; unfold maxLen at h1; omega
 have HR := hide hr
 clear hr
 go_enter Tryz.func22, Tryz.ntmps22
 go_wp2
 go_loopw [4] (fun i wr => ∃ (k : Nat) (m : Int), k ≤ 64 ∧ k ≤ len ∧ i = .int .i64 (k : Int) ∧ Hid (wr.heap[w.heap.size]? = some (.cells #[.slice a len cap, .int .i64 0, .int .u64 m, .int .i64 0] 80 (0, 0))) ∧ Below w.heap.size w wr) (fun i _ => 64 - (intOf i).toNat)
 case atStart => exact ⟨0, _, by omega, by omega, rfl, hide (heap_alloc_new w _), (Below.refl _ _).alloc (Nat.le_refl _) _⟩
 case round =>
  obtain ⟨k, m, hk, hkl, rfl, HB, hbel⟩ := hrel
  have c0 : wr.cell? ⟨w.heap.size, 0, none⟩ = some (.slice a len cap) := by rw [cell_of_row wr _ 0 _ _ (0, 0) (za HB)]; rfl
  have c2 : wr.cell? ⟨w.heap.size, 2, none⟩ = some (.int .u64 m) := by rw [cell_of_row wr _ 2 _ _ (0, 0) (za HB)]; rfl
  have c3 : wr.cell? ⟨w.heap.size, 3, none⟩ = some (.int .i64 0) := by rw [cell_of_row wr _ 3 _ _ (0, 0) (za HB)]; rfl
  have f2 : wr.frozen? ⟨w.heap.size, 2, none⟩ = false := Mem.zj0 (za HB)
  have f3 : wr.frozen? ⟨w.heap.size, 3, none⟩ = false := Mem.zj0 (za HB)
  by_cases hlt : k < len ∧ k < 64
  ·obtain ⟨b, o, n, rfl, hbS, hn, hc⟩ := (za HR).2.2 k hlt.1
   have hc1 : wr.cell? ⟨b, o + k, none⟩ = some (.int .u8 (n : Int)) := (hbel.cell (p := ⟨b, o + k, none⟩) hbS).trans hc
   have t1 : (k : Int) < (len : Int) := by omega
   have t2 : (k : Int) < 64 := by omega
   have t3 : (0 : Int) ≤ (k : Int) := by omega
   clear hc hlt
   go_wp2
   go_region
   go_wp2
   go_roundw
   case rel =>
    refine ⟨k + 1, _, by omega, by omega, by go_num, hide (heap_setCell_same _ _ 2 _ _ _ (za HB)), ?_⟩
    exact hbel.trans ⟨rfl, rfl, rfl, by simp [World.setCell], fun j hj => Below.heap_setCell _ _ _ _ (by show j ≠ w.heap.size; omega)⟩
   case measure => simp [intOf]; omega
  ·have HF : Hid (¬ (k < len ∧ k < 64)) := hlt
   by_cases h12 : 12 < len / 20
   ·have t4 : (12 : Int) < (len : Int) / 20 := by omega
    have hlt1 : k < len := by omega
    have hlt2 : ¬ (k : Int) < 64 := by omega
    have hlt3 : (k : Int) < (len : Int) := by omega
    clear hlt
    go_wp2
    go_ret
    exact ⟨rfl, fin (za HR) hbel (Nat.zero_le _) (by omega) (by omega) (by rw [size_set, size_set]; exact Nat.le_refl _) (fun j hj => by rw [Below.heap_setCell _ _ _ _ (by show j ≠ w.heap.size; omega), Below.heap_setCell _ _ _ _ (by show j ≠ w.heap.size; omega)]) rfl rfl rfl (heap_setCell_same _ _ 3 _ _ _ (heap_setCell_same _ _ 3 _ _ _ (za HB))) rfl rfl⟩
   ·have t4 : ¬ (12 : Int) < (len : Int) / 20 := by omega
    by_cases hlt1 : k < len
    ·have hlt2 : ¬ (k : Int) < 64 := by omega
     have hlt3 : (k : Int) < (len : Int) := by omega
     clear hlt
     go_wp2
     go_ret
     exact ⟨rfl, fin (za HR) hbel (Nat.zero_le _) (by omega) (by omega) (by rw [size_set]; exact Nat.le_refl _) (fun j hj => by rw [Below.heap_setCell _ _ _ _ (by show j ≠ w.heap.size; omega)]) rfl rfl rfl (heap_setCell_same _ _ 3 _ _ _ (za HB)) rfl rfl⟩
    ·have hlt3 : ¬ (k : Int) < (len : Int) := by omega
     clear hlt
     go_wp2
     go_ret
     exact ⟨rfl, fin (za HR) hbel (Nat.zero_le _) (by omega) (by omega) (by rw [size_set]; exact Nat.le_refl _) (fun j hj => by rw [Below.heap_setCell _ _ _ _ (by show j ≠ w.heap.size; omega)]) rfl rfl rfl (heap_setCell_same _ _ 3 _ _ _ (za HB)) rfl rfl⟩
end WSrc
end Go.Proofs.YtioildojmckepaaGreatDoor

namespace Go.Proofs.YtioildojmckepaaGreatDoor
open Go.RowKit
namespace WSrc
structure zo9 (W : World) (B : Nat) (va : Option Addr) (Is : List Pl.It) : Prop where
 items : Mem.za7 W va Is
 each : ∀ x ∈ Is, zf6 W B x.t.a x.t.cap x.t.L ∧ x.t.L.length ≤ 64 ∧ Pl.zl0 x.t.L
 blk : ∀ g o, va = some ⟨g, o, none⟩ → B ≤ g ∧ g < W.heap.size
theorem Ik.nest {W : World} {B S len cap vc : Nat} {a va : Option Addr} {Is : List Pl.It} (h : Ik W B S a len cap (.slice va Is.length vc) Is) : zo9 W B va Is := by
 refine ⟨fun i x hi => ?_, fun x hx => ⟨(h.each x hx).tree, (h.each x hx).len, (h.each x hx).ok⟩, fun g o e => ?_⟩
 ·have hlt := (List.getElem?_eq_some_iff.1 hi).1
  rcases h.own.2 with ⟨_, h0⟩ | ⟨g, c', cur, e, hb, hg, -⟩
  ·omega
  ·injection e with e1 e2 e3
   subst e1
   have c0 := World.ownsRow.cells h.own (g := g) rfl (i * 2) _ (Pl.zw4 Is i x hi).1
   have c1 := World.ownsRow.cells h.own (g := g) rfl (i * 2 + 1) _ (Pl.zw4 Is i x hi).2
   rw [Mem.add_lit] at c0 c1
   refine ⟨⟨g, 0, rfl, (Array.getElem?_eq_some_iff.1 hg).1, ?_, ?_⟩, (h.each x (List.mem_of_getElem? hi)).tree.1⟩
   ·rw [Nat.zero_add]; exact c0
   ·rw [Nat.zero_add]; exact c1
 ·subst e
  rcases h.own.2 with ⟨e, _⟩ | ⟨g', c', cur, e, hb, hg, -⟩
  ·cases e
  ·injection e with e1 e2 e3
   injection e1 with e1
   injection e1 with e4 e5
   subst e4
   exact ⟨hb, (Array.getElem?_eq_some_iff.1 hg).1⟩
theorem zo9.call {W W' : World} {B : Nat} {va : Option Addr} {Is : List Pl.It} (h : zo9 W B va Is) (b : Below W.heap.size W W') : zo9 W' B va Is :=
 ⟨Mem.zg h.items b, fun x hx => ⟨(h.each x hx).1.grown (below_grown b none) (fun q hq => by cases hq), (h.each x hx).2⟩, fun g o e => ⟨(h.blk g o e).1, Nat.lt_of_lt_of_le (h.blk g o e).2 b.size⟩⟩
theorem zo9.mono {W : World} {B B' : Nat} {va : Option Addr} {Is : List Pl.It} (h : zo9 W B va Is) (hb : B' ≤ B) : zo9 W B' va Is :=
 ⟨h.items, fun x hx => ⟨(h.each x hx).1.mono hb, (h.each x hx).2⟩, fun g o e => ⟨Nat.le_trans hb (h.blk g o e).1, (h.blk g o e).2⟩⟩
theorem zo9.hok {W : World} {B : Nat} {va : Option Addr} {Is : List Pl.It} (h : zo9 W B va Is) : ∀ x ∈ Is, x.t.L.length ≤ 1048576 ∧ ∀ n ∈ x.t.L, n.path.size ≤ 1048576 ∧ n.data.size ≤ 1048576 := fun x hx => by
 obtain ⟨-, h1, h2⟩ := h.each x hx
 exact ⟨by omega, fun n hn => by have := h2 n hn; unfold Pl.zn8 at this; omega⟩
end WSrc
end Go.Proofs.YtioildojmckepaaGreatDoor

namespace Go.Proofs.YtioildojmckepaaGreatDoor
open Go.RowKit
namespace WSrc
set_option linter.unusedSimpArgs false in
set_option maxRecDepth 100000 in
theorem yb7 (a : Option Addr) (len cap : Nat) (w : World) (hr : RowB w w.heap.size a len cap) :
  Calls Tryz.prog 4 #[.slice a len cap] w fun e w' => ∃ (va : Option Addr) (vc : Nat) (Is : List Pl.It), Is.length ≤ 200 ∧ e = .returned (.slice va Is.length vc) ∧ zo9 w' w.heap.size va Is ∧ w'.ownsRow w.heap.size 38 2 (.slice va Is.length vc) Is.length (Pl.ze3 Is) ∧ Below w.heap.size w w' := by
 have h0 := hide (yd6 a len cap w hr)
 clear hr
 go_enter Tryz.func4, Tryz.ntmps4
 go_wp2_with fail
 refine (za h0).mono ?_
 rintro e w1 ⟨rfl, hs, b1⟩
 clear h0
 go_wp2_with fail
 refine (zk4 w.heap.size a len cap _ hs).mono ?_
 rintro e w2 ⟨va, vc, Is, hl, rfl, ik, g2⟩
 have NV := hide (ik.nest.mono (B' := w.heap.size) b1.size)
 have OW : Hid (w2.ownsRow w.heap.size 38 2 (.slice va Is.length vc) Is.length (Pl.ze3 Is)) :=
  ⟨ik.own.1, ik.own.2.imp id (fun ⟨g, c, cur, e, hb, r⟩ => ⟨g, c, cur, e, Nat.le_trans b1.size hb, r⟩)⟩
 have b2 : Below w.heap.size w w2 := b1.grown g2 b1.size (fun q hq => by cases hq; omega)
 clear ik g2 hs b1
 go_wp2
 go_ret
 exact ⟨va, vc, Is, hl, rfl, za NV, za OW, b2⟩
end WSrc
end Go.Proofs.YtioildojmckepaaGreatDoor

