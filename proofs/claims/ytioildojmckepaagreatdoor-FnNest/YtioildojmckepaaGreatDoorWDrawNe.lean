import Derived.Test.YtioildojmckepaaGreatDoorWDrawTr
import Derived.Test.YtioildojmckepaaGreatDoorG20
import Derived.Test.YtioildojmckepaaGreatDoorMemIk
namespace Go.Proofs.YtioildojmckepaaGreatDoor
open Go.RowKit
namespace Pl
def zl5 : Nat → Nat
 | 0 => 1
 | d + 1 => 1 + 3 * zl5 d
theorem zj1 (d : Nat) : 1 ≤ zl5 d := by cases d <;> simp [zl5]
end Pl
namespace WSrc
theorem infoI : (Tryz.prog.info? 38).map (fun i => (i.zero, i.size, i.bytes)) = some (some (.agg #[.int .i64 0, .slice none 0 0]), 2, 32) := by kernel_rfl
theorem zg3 (w : World) (m : Int) (u : Value) (e : TypeId) : ∀ j x, [Value.int .i64 m, u][j]? = some x → (w.alloc (.cells #[.int .i64 m, u] e)).cell? ((⟨w.heap.size, 0, none⟩ : Addr).add j) = some x := by
 intro j x hx
 rw [Mem.add_lit, cell_of_row _ _ _ _ _ (0, 0) (heap_alloc_new _ _)]
 simpa using hx
theorem zh4 (m : Int) (a : Option Addr) (n c : Nat) : ∀ x ∈ [Value.int .i64 m, Value.slice a n c], x.oneCell' = true := by
 intro x hx
 simp only [List.mem_cons, List.not_mem_nil, or_false] at hx
 rcases hx with rfl | rfl <;> rfl
theorem Gb.alloc {w W : World} {B S : Nat} (h : Gb w W B S) (o : Obj) : Gb w (W.alloc o) B S := h.trans (Gb.of (below_grown ((Below.refl _ _).alloc (Nat.le_refl _) o) _))
theorem Di.below {W W' : World} {B : Nat} {v : Value} {x : Pl.It} (h : Di W B v x) (b : Below W.heap.size W W') : Di W' B v x := ⟨h.tree.grown (below_grown b none) (fun q hq => by cases hq), h.len, h.ok, h.many, h.apart⟩
theorem zr2 {W W' : World} {B S len cap vc : Nat} {a va : Option Addr} {v : Value} {Is : List Pl.It} {L : List Pl.Nd} (h : Ik W B S a len cap v Is) (hT : zf6 W' W.heap.size va vc L) (hL : L.length ≤ 64) (hs : Pl.zl0 L) (o : Obj) : Di (W'.alloc o) B v ⟨0, ⟨va, vc, L⟩⟩ := by
 refine Di.below ⟨hT.mono h.hi, hL, hs, ⟨by show (-1000 : Int) ≤ 0; decide, by show (0 : Int) ≤ 1000; decide⟩, fun g o e e2 => ?_⟩ ((Below.refl _ _).alloc (Nat.le_refl _) o)
 have h1 := hT.2.2 g o e
 have h2 := (World.ownsRow.lt h.own g e2).2
 omega
theorem zu {W : World} (B : Nat) (v : Value) (m : Int) (h : -1000 ≤ m ∧ m ≤ 1000) : Di W B v ⟨m, ⟨none, 0, []⟩⟩ :=
 ⟨⟨Mem.zw0 _ _, .inl ⟨rfl, rfl, rfl⟩, fun g o e => (by cases e)⟩, (by show 0 ≤ 64; omega), fun n hn => (by cases hn), h, fun g o e => (by cases e)⟩
theorem Di.take {W : World} {B vc : Nat} {va : Option Addr} {v : Value} {m : Int} {L : List Pl.Nd} (h : Di W B v ⟨m, ⟨va, vc, L⟩⟩) (k : Nat) (hk : va ≠ none) : Di W B v ⟨m, ⟨va, vc, L.take k⟩⟩ := by
 refine ⟨⟨fun i n hi => h.tree.1 i n ?_, ?_, h.tree.2.2⟩, ?_, fun n hn => h.ok n (List.mem_of_mem_take hn), h.many, h.apart⟩
 ·rw [List.getElem?_take] at hi
  split at hi
  ·exact hi
  ·cases hi
 ·rcases h.tree.2.1 with ⟨h1, _⟩ | ⟨g, o, h1, h2, h3⟩
  ·exact absurd h1 hk
  ·refine .inr ⟨g, o, h1, h2, ?_⟩
   show (L.take k).length ≤ vc
   rw [List.length_take]
   have : L.length ≤ vc := h3
   omega
 ·show (L.take k).length ≤ 64
  rw [List.length_take]
  have : L.length ≤ 64 := h.len
  omega
theorem sizeN : ∀ w, (sizeOf 88).run Tryz.prog w = .ok 5 w := fun _ => by kernel_rfl
theorem zt2 (W : World) (ad : Addr) (n cap : Nat) (h : 9 ≤ cap) : (Instr.slice 34 (.slice (some ad) n cap) none (some (.int .i64 9)) none).run Tryz.prog W = .ok (.slice (some ad) 9 cap) W := by
 have ht : Tryz.prog.underlying 34 = some (.slice (Tryz.prog.elem 34)) := by simp [Program.elem, Tryz.underlying34]
 have he : Tryz.prog.elem 34 = 88 := by simp [Program.elem, Tryz.underlying34]
 have h1 := run_slice_h (P := Tryz.prog) W 34 (some ad) n cap ht .i64 (9 : Int) (by omega) (by omega)
 rw [h1, he, sizeN]
 have e0 : ad.add 0 = ad := by unfold Addr.add; split <;> simp_all
 have h0 : cap ≠ 0 := by omega
 simp [sliced, Result.andThen, h0, e0]
set_option linter.unusedSimpArgs false in
set_option maxRecDepth 100000 in
set_option maxHeartbeats 2000000 in
theorem zu0 (B S : Nat) (a : Option Addr) (len cap : Nat) : ∀ (d : Nat), d ≤ 4 → ∀ (v : Value) (Is : List Pl.It) (w : World), Ik w B S a len cap v Is → Is.length + Pl.zl5 d ≤ 1000 →
  Calls Tryz.prog 48 #[.pointer (some ⟨S, 0, none⟩), v, .int .i64 (d : Int)] w fun e w' => ∃ v' Js, e = .returned v' ∧ Js.length ≤ Pl.zl5 d ∧ 1 ≤ Js.length ∧ Ik w' B S a len cap v' (Is ++ Js) ∧ Gb w w' B S := by
 obtain ⟨i0, hi, hz0, hz1, hz2⟩ := info_parts infoI
 intro d
 induction d with
 | zero =>
  intro _ v Is w hI hl
  obtain ⟨na, nc, rfl⟩ := Mem.za3 hI.own
  have QK := hide hI
  have GK := hide (Gb.refl w B S)
  have hl2 : Is.length ≤ 999 := by have := Pl.zj1 0; omega
  clear hI hl
  go_enter Tryz.func48, Tryz.ntmps48
  go_wp2_with fail
  refine (zp8 S a len cap _ (za QK).src).mono ?_
  rintro e wT ⟨va, vc, L, hL, hsm, rfl, hT, sT, gT⟩
  have VT := Mem.Blk.new wT #[.slice va L.length vc] 36
  have c0 := VT.cell 0
  have f0 := VT.fr 0
  simp only [kA0, kA1] at c0
  by_cases h9 : 9 < L.length
  ·have t9 : (9 : Int) < (L.length : Int) := by omega
   obtain ⟨g, o, rfl, hvc⟩ : ∃ g o, va = some ⟨g, o, none⟩ ∧ L.length ≤ vc := by
    rcases hT.2.1 with ⟨h1, h2, h3⟩ | ⟨g, o, h1, h2, h3⟩
    ·subst h3; simp at h9
    ·exact ⟨g, o, h1, h3⟩
   have hsl : ∀ W, (Instr.slice 34 (.slice (some ⟨g, o, none⟩) L.length vc) none (some (.int .i64 9)) none).run Tryz.prog W = .ok (.slice (some ⟨g, o, none⟩) 9 vc) W := fun W => zt2 W _ _ _ (by omega)
   have GT := hide (((za GK).trans (Gb.of gT)).alloc (.cells #[.slice (some ⟨g, o, none⟩) 9 vc] 36))
   have QT := hide (((za QK).call sT gT).alloc (.cells #[.slice (some ⟨g, o, none⟩) 9 vc] 36))
   have DT := hide (zr2 (za QK) hT hL hsm (.cells #[.slice (some ⟨g, o, none⟩) 9 vc] 36))
   have D9 := hide ((za DT).take 9 (by simp))
   clear DT
   have DT := D9
   have h9l : (L.take 9).length = 9 := by rw [List.length_take]; omega
   generalize L.take 9 = L9 at DT h9l
   clear D9 hT sT gT QK GK VT
   have KF := hide ((za QT).alloc (.cells #[.int .i64 0, .slice (some ⟨g, o, none⟩) 9 vc] 38))
   have TN := hide (zg3 (wT.alloc (.cells #[.slice (some ⟨g, o, none⟩) 9 vc] 36)) 0 (.slice (some ⟨g, o, none⟩) 9 vc) 38)
   have hsV : (wT.alloc (.cells #[.slice (some ⟨g, o, none⟩) 9 vc] 36)).heap.size = wT.heap.size + 1 := by simp
   rw [hsV] at TN
   have KD := hide ((za DT).below ((Below.refl (wT.alloc (.cells #[.slice (some ⟨g, o, none⟩) 9 vc] 36)).heap.size (wT.alloc (.cells #[.slice (some ⟨g, o, none⟩) 9 vc] 36))).alloc (o := .cells #[.int .i64 0, .slice (some ⟨g, o, none⟩) 9 vc] 38) (Nat.le_refl _)))
   go_wp2_with (at_builtin; refine Mem.zb0 _ rfl _ _ 23 rfl B 38 i0 (.agg #[.int .i64 0, .slice none 0 0]) 2 32 Tryz.underlying23 hi hz0 hz1 hz2 rfl (by decide) _ _ _ rfl (za KF).own ⟨wT.heap.size + 1, 0, none⟩ 1 1 [.int .i64 0, .slice (some ⟨g, o, none⟩) 9 vc] rfl rfl (za TN) (zh4 _ _ _ _) (by unfold maxLen; omega) (by omega) (za KF).hi ?_)
   ·intro v' w2 own' gr far
    have KE := hide ((za KF).app (Js := [⟨0, ⟨(some ⟨g, o, none⟩), vc, L9⟩⟩]) gr (by rw [List.length_append, Pl.zf2]; simpa [Pl.ze3, Pl.Tr.val, h9l] using own') (by simpa using far) (fun x hx => by cases List.mem_singleton.1 hx; exact za KD))
    have GE := hide (((za GT).alloc _).trans (Gb.own (S := S) gr (fun g hg => (World.ownsRow.lt (za KF).own g hg).1)))
    clear own' gr far KF KD GT DT QT TN
    go_wp2
    go_ret
    exact ⟨v', [⟨0, ⟨(some ⟨g, o, none⟩), vc, L9⟩⟩], rfl, Pl.zj1 _, Nat.le_refl 1, za KE, za GE⟩
  ·have t9 : ¬ (9 : Int) < (L.length : Int) := by omega
   have GT := hide (((za GK).trans (Gb.of gT)).alloc (.cells #[.slice va L.length vc] 36))
   have QT := hide (((za QK).call sT gT).alloc (.cells #[.slice va L.length vc] 36))
   have DT := hide (zr2 (za QK) hT hL hsm (.cells #[.slice va L.length vc] 36))
   clear hT sT gT QK GK VT
   have KF := hide ((za QT).alloc (.cells #[.int .i64 0, .slice va L.length vc] 38))
   have TN := hide (zg3 (wT.alloc (.cells #[.slice va L.length vc] 36)) 0 (.slice va L.length vc) 38)
   have hsV : (wT.alloc (.cells #[.slice va L.length vc] 36)).heap.size = wT.heap.size + 1 := by simp
   rw [hsV] at TN
   have KD := hide ((za DT).below ((Below.refl (wT.alloc (.cells #[.slice va L.length vc] 36)).heap.size (wT.alloc (.cells #[.slice va L.length vc] 36))).alloc (o := .cells #[.int .i64 0, .slice va L.length vc] 38) (Nat.le_refl _)))
   go_wp2_with (at_builtin; refine Mem.zb0 _ rfl _ _ 23 rfl B 38 i0 (.agg #[.int .i64 0, .slice none 0 0]) 2 32 Tryz.underlying23 hi hz0 hz1 hz2 rfl (by decide) _ _ _ rfl (za KF).own ⟨wT.heap.size + 1, 0, none⟩ 1 1 [.int .i64 0, .slice va L.length vc] rfl rfl (za TN) (zh4 _ _ _ _) (by unfold maxLen; omega) (by omega) (za KF).hi ?_)
   ·intro v' w2 own' gr far
    have KE := hide ((za KF).app (Js := [⟨0, ⟨va, vc, L⟩⟩]) gr (by rw [List.length_append, Pl.zf2]; exact own') (by simpa using far) (fun x hx => by cases List.mem_singleton.1 hx; exact za KD))
    have GE := hide (((za GT).alloc _).trans (Gb.own (S := S) gr (fun g hg => (World.ownsRow.lt (za KF).own g hg).1)))
    clear own' gr far KF KD GT DT QT TN
    go_wp2
    go_ret
    exact ⟨v', [⟨0, ⟨va, vc, L⟩⟩], rfl, Pl.zj1 _, Nat.le_refl 1, za KE, za GE⟩
 | succ d ih =>
  intro h4 v Is w hI hl
  obtain ⟨na, nc, rfl⟩ := Mem.za3 hI.own
  have hl2 : Is.length ≤ 999 := by have := Pl.zj1 (d + 1); omega
  by_cases hd : d = 0
  ·subst hd
   have QK := hide hI
   have GK := hide (Gb.refl w B S)
   clear hI hl ih
   have t1 : ¬ (1 : Int) < ((0 + 1 : Nat) : Int) := by omega
   go_enter Tryz.func48, Tryz.ntmps48
   go_wp2_with fail
   refine (zp8 S a len cap _ (za QK).src).mono ?_
   rintro e wT ⟨va, vc, L, hL, hsm, rfl, hT, sT, gT⟩
   have VT := Mem.Blk.new wT #[.slice va L.length vc] 36
   have c0 := VT.cell 0
   have f0 := VT.fr 0
   simp only [kA0, kA1] at c0
   by_cases h9 : 9 < L.length
   ·have t9 : (9 : Int) < (L.length : Int) := by omega
    obtain ⟨g, o, rfl, hvc⟩ : ∃ g o, va = some ⟨g, o, none⟩ ∧ L.length ≤ vc := by
     rcases hT.2.1 with ⟨h1, h2, h3⟩ | ⟨g, o, h1, h2, h3⟩
     ·subst h3; simp at h9
     ·exact ⟨g, o, h1, h3⟩
    have hsl : ∀ W, (Instr.slice 34 (.slice (some ⟨g, o, none⟩) L.length vc) none (some (.int .i64 9)) none).run Tryz.prog W = .ok (.slice (some ⟨g, o, none⟩) 9 vc) W := fun W => zt2 W _ _ _ (by omega)
    have GT := hide (((za GK).trans (Gb.of gT)).alloc (.cells #[.slice (some ⟨g, o, none⟩) 9 vc] 36))
    have QT := hide (((za QK).call sT gT).alloc (.cells #[.slice (some ⟨g, o, none⟩) 9 vc] 36))
    have DT := hide (zr2 (za QK) hT hL hsm (.cells #[.slice (some ⟨g, o, none⟩) 9 vc] 36))
    have D9 := hide ((za DT).take 9 (by simp))
    clear DT
    have DT := D9
    have h9l : (L.take 9).length = 9 := by rw [List.length_take]; omega
    generalize L.take 9 = L9 at DT h9l
    clear D9 hT sT gT QK GK VT
    have KF := hide ((za QT).alloc (.cells #[.int .i64 0, .slice (some ⟨g, o, none⟩) 9 vc] 38))
    have TN := hide (zg3 (wT.alloc (.cells #[.slice (some ⟨g, o, none⟩) 9 vc] 36)) 0 (.slice (some ⟨g, o, none⟩) 9 vc) 38)
    have hsV : (wT.alloc (.cells #[.slice (some ⟨g, o, none⟩) 9 vc] 36)).heap.size = wT.heap.size + 1 := by simp
    rw [hsV] at TN
    have KD := hide ((za DT).below ((Below.refl (wT.alloc (.cells #[.slice (some ⟨g, o, none⟩) 9 vc] 36)).heap.size (wT.alloc (.cells #[.slice (some ⟨g, o, none⟩) 9 vc] 36))).alloc (o := .cells #[.int .i64 0, .slice (some ⟨g, o, none⟩) 9 vc] 38) (Nat.le_refl _)))
    go_wp2_with (at_builtin; refine Mem.zb0 _ rfl _ _ 23 rfl B 38 i0 (.agg #[.int .i64 0, .slice none 0 0]) 2 32 Tryz.underlying23 hi hz0 hz1 hz2 rfl (by decide) _ _ _ rfl (za KF).own ⟨wT.heap.size + 1, 0, none⟩ 1 1 [.int .i64 0, .slice (some ⟨g, o, none⟩) 9 vc] rfl rfl (za TN) (zh4 _ _ _ _) (by unfold maxLen; omega) (by omega) (za KF).hi ?_)
    ·intro v' w2 own' gr far
     have KE := hide ((za KF).app (Js := [⟨0, ⟨(some ⟨g, o, none⟩), vc, L9⟩⟩]) gr (by rw [List.length_append, Pl.zf2]; simpa [Pl.ze3, Pl.Tr.val, h9l] using own') (by simpa using far) (fun x hx => by cases List.mem_singleton.1 hx; exact za KD))
     have GE := hide (((za GT).alloc _).trans (Gb.own (S := S) gr (fun g hg => (World.ownsRow.lt (za KF).own g hg).1)))
     clear own' gr far KF KD GT DT QT TN
     go_wp2
     go_ret
     exact ⟨v', [⟨0, ⟨(some ⟨g, o, none⟩), vc, L9⟩⟩], rfl, Pl.zj1 _, Nat.le_refl 1, za KE, za GE⟩
   ·have t9 : ¬ (9 : Int) < (L.length : Int) := by omega
    have GT := hide (((za GK).trans (Gb.of gT)).alloc (.cells #[.slice va L.length vc] 36))
    have QT := hide (((za QK).call sT gT).alloc (.cells #[.slice va L.length vc] 36))
    have DT := hide (zr2 (za QK) hT hL hsm (.cells #[.slice va L.length vc] 36))
    clear hT sT gT QK GK VT
    have KF := hide ((za QT).alloc (.cells #[.int .i64 0, .slice va L.length vc] 38))
    have TN := hide (zg3 (wT.alloc (.cells #[.slice va L.length vc] 36)) 0 (.slice va L.length vc) 38)
    have hsV : (wT.alloc (.cells #[.slice va L.length vc] 36)).heap.size = wT.heap.size + 1 := by simp
    rw [hsV] at TN
    have KD := hide ((za DT).below ((Below.refl (wT.alloc (.cells #[.slice va L.length vc] 36)).heap.size (wT.alloc (.cells #[.slice va L.length vc] 36))).alloc (o := .cells #[.int .i64 0, .slice va L.length vc] 38) (Nat.le_refl _)))
    go_wp2_with (at_builtin; refine Mem.zb0 _ rfl _ _ 23 rfl B 38 i0 (.agg #[.int .i64 0, .slice none 0 0]) 2 32 Tryz.underlying23 hi hz0 hz1 hz2 rfl (by decide) _ _ _ rfl (za KF).own ⟨wT.heap.size + 1, 0, none⟩ 1 1 [.int .i64 0, .slice va L.length vc] rfl rfl (za TN) (zh4 _ _ _ _) (by unfold maxLen; omega) (by omega) (za KF).hi ?_)
    ·intro v' w2 own' gr far
     have KE := hide ((za KF).app (Js := [⟨0, ⟨va, vc, L⟩⟩]) gr (by rw [List.length_append, Pl.zf2]; exact own') (by simpa using far) (fun x hx => by cases List.mem_singleton.1 hx; exact za KD))
     have GE := hide (((za GT).alloc _).trans (Gb.own (S := S) gr (fun g hg => (World.ownsRow.lt (za KF).own g hg).1)))
     clear own' gr far KF KD GT DT QT TN
     go_wp2
     go_ret
     exact ⟨v', [⟨0, ⟨va, vc, L⟩⟩], rfl, Pl.zj1 _, Nat.le_refl 1, za KE, za GE⟩
  ·have t1 : (1 : Int) < ((d + 1 : Nat) : Int) := by omega
   have hon := hide (zh5 S a len cap 2 w hI.src (by omega))
   have HI := hide hI
   clear hI
   go_enter Tryz.func48, Tryz.ntmps48
   go_wp2_with fail
   refine (za hon).mono ?_
   rintro e w1 ⟨r, rfl, s1, g1⟩
   have QK := hide ((za HI).call s1 g1)
   have GK : Hid (Gb w w1 B S) := hide (Gb.of g1)
   clear hon HI s1 g1
   cases r
   ·go_wp2_with fail
    refine (zp8 S a len cap _ (za QK).src).mono ?_
    rintro e wT ⟨va, vc, L, hL, hsm, rfl, hT, sT, gT⟩
    have VT := Mem.Blk.new wT #[.slice va L.length vc] 36
    have c0 := VT.cell 0
    have f0 := VT.fr 0
    simp only [kA0, kA1] at c0
    by_cases h9 : 9 < L.length
    ·have t9 : (9 : Int) < (L.length : Int) := by omega
     obtain ⟨g, o, rfl, hvc⟩ : ∃ g o, va = some ⟨g, o, none⟩ ∧ L.length ≤ vc := by
      rcases hT.2.1 with ⟨h1, h2, h3⟩ | ⟨g, o, h1, h2, h3⟩
      ·subst h3; simp at h9
      ·exact ⟨g, o, h1, h3⟩
     have hsl : ∀ W, (Instr.slice 34 (.slice (some ⟨g, o, none⟩) L.length vc) none (some (.int .i64 9)) none).run Tryz.prog W = .ok (.slice (some ⟨g, o, none⟩) 9 vc) W := fun W => zt2 W _ _ _ (by omega)
     have GT := hide (((za GK).trans (Gb.of gT)).alloc (.cells #[.slice (some ⟨g, o, none⟩) 9 vc] 36))
     have QT := hide (((za QK).call sT gT).alloc (.cells #[.slice (some ⟨g, o, none⟩) 9 vc] 36))
     have DT := hide (zr2 (za QK) hT hL hsm (.cells #[.slice (some ⟨g, o, none⟩) 9 vc] 36))
     have D9 := hide ((za DT).take 9 (by simp))
     clear DT
     have DT := D9
     have h9l : (L.take 9).length = 9 := by rw [List.length_take]; omega
     generalize L.take 9 = L9 at DT h9l
     clear D9 hT sT gT QK GK VT
     have KF := hide ((za QT).alloc (.cells #[.int .i64 0, .slice (some ⟨g, o, none⟩) 9 vc] 38))
     have TN := hide (zg3 (wT.alloc (.cells #[.slice (some ⟨g, o, none⟩) 9 vc] 36)) 0 (.slice (some ⟨g, o, none⟩) 9 vc) 38)
     have hsV : (wT.alloc (.cells #[.slice (some ⟨g, o, none⟩) 9 vc] 36)).heap.size = wT.heap.size + 1 := by simp
     rw [hsV] at TN
     have KD := hide ((za DT).below ((Below.refl (wT.alloc (.cells #[.slice (some ⟨g, o, none⟩) 9 vc] 36)).heap.size (wT.alloc (.cells #[.slice (some ⟨g, o, none⟩) 9 vc] 36))).alloc (o := .cells #[.int .i64 0, .slice (some ⟨g, o, none⟩) 9 vc] 38) (Nat.le_refl _)))
     go_wp2_with (at_builtin; refine Mem.zb0 _ rfl _ _ 23 rfl B 38 i0 (.agg #[.int .i64 0, .slice none 0 0]) 2 32 Tryz.underlying23 hi hz0 hz1 hz2 rfl (by decide) _ _ _ rfl (za KF).own ⟨wT.heap.size + 1, 0, none⟩ 1 1 [.int .i64 0, .slice (some ⟨g, o, none⟩) 9 vc] rfl rfl (za TN) (zh4 _ _ _ _) (by unfold maxLen; omega) (by omega) (za KF).hi ?_)
     ·intro v' w2 own' gr far
      have KE := hide ((za KF).app (Js := [⟨0, ⟨(some ⟨g, o, none⟩), vc, L9⟩⟩]) gr (by rw [List.length_append, Pl.zf2]; simpa [Pl.ze3, Pl.Tr.val, h9l] using own') (by simpa using far) (fun x hx => by cases List.mem_singleton.1 hx; exact za KD))
      have GE := hide (((za GT).alloc _).trans (Gb.own (S := S) gr (fun g hg => (World.ownsRow.lt (za KF).own g hg).1)))
      clear own' gr far KF KD GT DT QT TN
      go_wp2
      go_ret
      exact ⟨v', [⟨0, ⟨(some ⟨g, o, none⟩), vc, L9⟩⟩], rfl, Pl.zj1 _, Nat.le_refl 1, za KE, za GE⟩
    ·have t9 : ¬ (9 : Int) < (L.length : Int) := by omega
     have GT := hide (((za GK).trans (Gb.of gT)).alloc (.cells #[.slice va L.length vc] 36))
     have QT := hide (((za QK).call sT gT).alloc (.cells #[.slice va L.length vc] 36))
     have DT := hide (zr2 (za QK) hT hL hsm (.cells #[.slice va L.length vc] 36))
     clear hT sT gT QK GK VT
     have KF := hide ((za QT).alloc (.cells #[.int .i64 0, .slice va L.length vc] 38))
     have TN := hide (zg3 (wT.alloc (.cells #[.slice va L.length vc] 36)) 0 (.slice va L.length vc) 38)
     have hsV : (wT.alloc (.cells #[.slice va L.length vc] 36)).heap.size = wT.heap.size + 1 := by simp
     rw [hsV] at TN
     have KD := hide ((za DT).below ((Below.refl (wT.alloc (.cells #[.slice va L.length vc] 36)).heap.size (wT.alloc (.cells #[.slice va L.length vc] 36))).alloc (o := .cells #[.int .i64 0, .slice va L.length vc] 38) (Nat.le_refl _)))
     go_wp2_with (at_builtin; refine Mem.zb0 _ rfl _ _ 23 rfl B 38 i0 (.agg #[.int .i64 0, .slice none 0 0]) 2 32 Tryz.underlying23 hi hz0 hz1 hz2 rfl (by decide) _ _ _ rfl (za KF).own ⟨wT.heap.size + 1, 0, none⟩ 1 1 [.int .i64 0, .slice va L.length vc] rfl rfl (za TN) (zh4 _ _ _ _) (by unfold maxLen; omega) (by omega) (za KF).hi ?_)
     ·intro v' w2 own' gr far
      have KE := hide ((za KF).app (Js := [⟨0, ⟨va, vc, L⟩⟩]) gr (by rw [List.length_append, Pl.zf2]; exact own') (by simpa using far) (fun x hx => by cases List.mem_singleton.1 hx; exact za KD))
      have GE := hide (((za GT).alloc _).trans (Gb.own (S := S) gr (fun g hg => (World.ownsRow.lt (za KF).own g hg).1)))
      clear own' gr far KF KD GT DT QT TN
      go_wp2
      go_ret
      exact ⟨v', [⟨0, ⟨va, vc, L⟩⟩], rfl, Pl.zj1 _, Nat.le_refl 1, za KE, za GE⟩
   ·by_cases h6 : Is.length < 6
    ·have t6 : (Is.length : Int) < 6 := by omega
     go_wp2_with fail
     refine (zc9 S a len cap 3 _ (za QK).src (by omega)).mono ?_
     rintro e w2 ⟨r, rfl, r0, r1, s2, g2⟩
     have hr2 : r ≤ 2 := by omega
     have hw1 : IntKind.i64.wrap (1 + r) = 1 + r := by simp only [IntKind.wrap_i64]; omega
     have QN := hide ((za QK).call s2 g2)
     have GN := hide ((za GK).trans (Gb.of g2))
     have KF := hide ((za QN).alloc (.cells #[.int .i64 (1 + r), .slice none 0 0] 38))
     have KD := hide (zu (W := w2.alloc (.cells #[.int .i64 (1 + r), .slice none 0 0] 38)) B (.slice na Is.length nc) (1 + r) (by omega))
     have TN := hide (zg3 w2 (1 + r) (.slice none 0 0) 38)
     clear QK GK s2 g2
     go_wp2_with (at_builtin; refine Mem.zb0 _ rfl _ _ 23 rfl B 38 i0 (.agg #[.int .i64 0, .slice none 0 0]) 2 32 Tryz.underlying23 hi hz0 hz1 hz2 rfl (by decide) _ _ _ rfl (za KF).own ⟨w2.heap.size, 0, none⟩ 1 1 [.int .i64 (1 + r), .slice none 0 0] rfl rfl (za TN) (zh4 _ _ _ _) (by unfold maxLen; omega) (by omega) (za KF).hi ?_)
     ·intro v' w3 own' gr far
      have KE := hide ((za KF).app (Js := [⟨1 + r, ⟨none, 0, []⟩⟩]) gr (by rw [List.length_append, Pl.zf2]; exact own') (by simpa using far) (fun x hx => by cases List.mem_singleton.1 hx; exact za KD))
      have GE := hide (((za GN).alloc _).trans (Gb.own (S := S) gr (fun g hg => (World.ownsRow.lt (za KF).own g hg).1)))
      clear own' gr far KF KD GN QN TN
      have hwd : IntKind.i64.wrap (((d + 1 : Nat) : Int) - 1) = (d : Int) := by simp only [IntKind.wrap_i64]; omega
      obtain ⟨k0, hk0⟩ : ∃ k0 : Nat, (1 + r) = (k0 : Int) := ⟨(1 + r).toNat, by omega⟩
      have hk3 : k0 ≤ 3 := by omega
      have HM : Hid (1 + k0 * Pl.zl5 d ≤ Pl.zl5 (d + 1)) := by
       show 1 + k0 * Pl.zl5 d ≤ 1 + 3 * Pl.zl5 d
       have := Nat.mul_le_mul_right (Pl.zl5 d) hk3
       omega
      have HIH := hide ih
      have HL := hide hl
      have hd4 : d ≤ 4 := by omega
      rw [hk0]
      clear ih hl hw1 hk0 r0 r1 hr2
      go_wp2
      go_loopw [1, 7] (fun st k wr => ∃ (j : Nat) (Js : List Pl.It), k = .int .i64 (j : Int) ∧ j ≤ 3 ∧ Js.length + j * Pl.zl5 d ≤ Pl.zl5 (d + 1) ∧ 1 ≤ Js.length ∧ Hid (Ik wr B S a len cap st (Is ++ Js)) ∧ Hid (Gb w wr B S)) (fun _ k _ => (intOf k).toNat)
      case atStart => exact ⟨k0, [⟨1 + r, ⟨none, 0, []⟩⟩], rfl, hk3, za HM, Nat.le_refl 1, KE, GE⟩
      case round =>
       obtain ⟨j, Js, rfl, hj, hJ, hJ1, KR, GR⟩ := hrel
       clear KE GE HM
       cases j with
       | zero =>
        have HJ : Hid (Js.length ≤ Pl.zl5 (d + 1)) := by rw [Nat.zero_mul] at hJ; exact hJ
        go_wp2
        go_ret
        exact ⟨_, Js, rfl, za HJ, hJ1, za KR, za GR⟩
       | succ j =>
        have tj : (0 : Int) < ((j + 1 : Nat) : Int) := by omega
        have hwj : IntKind.i64.wrap (((j + 1 : Nat) : Int) - 1) = (j : Int) := by simp only [IntKind.wrap_i64]; omega
        have hq : (Is ++ Js).length + Pl.zl5 d ≤ 1000 := by
         have := za HL
         rw [List.length_append]
         rw [Nat.succ_mul] at hJ
         omega
        have HC := hide (za HIH hd4 _ (Is ++ Js) wr (za KR) hq)
        have HJ := hide hJ
        clear hJ hq
        go_wp2_with fail
        refine (za HC).mono ?_
        rintro e wZ ⟨v2, Ks, rfl, hK, hK1, IK, GG⟩
        have KZ := hide IK
        have GZ := hide ((za GR).trans GG)
        have HK := hide hK
        clear IK GG hK HC KR GR
        go_wp2
        go_roundw
        case rel => exact ⟨j, Js ++ Ks, by go_num, by omega, by have h1 := za HJ; have h2 := za HK; rw [Nat.succ_mul] at h1; rw [List.length_append]; omega, by rw [List.length_append]; omega, by rw [← List.append_assoc]; exact KZ, GZ⟩
        case measure => simp [intOf]
    ·have t6 : ¬ (Is.length : Int) < 6 := by omega
     go_wp2_with fail
     refine (zp8 S a len cap _ (za QK).src).mono ?_
     rintro e wT ⟨va, vc, L, hL, hsm, rfl, hT, sT, gT⟩
     have VT := Mem.Blk.new wT #[.slice va L.length vc] 36
     have c0 := VT.cell 0
     have f0 := VT.fr 0
     simp only [kA0, kA1] at c0
     by_cases h9 : 9 < L.length
     ·have t9 : (9 : Int) < (L.length : Int) := by omega
      obtain ⟨g, o, rfl, hvc⟩ : ∃ g o, va = some ⟨g, o, none⟩ ∧ L.length ≤ vc := by
       rcases hT.2.1 with ⟨h1, h2, h3⟩ | ⟨g, o, h1, h2, h3⟩
       ·subst h3; simp at h9
       ·exact ⟨g, o, h1, h3⟩
      have hsl : ∀ W, (Instr.slice 34 (.slice (some ⟨g, o, none⟩) L.length vc) none (some (.int .i64 9)) none).run Tryz.prog W = .ok (.slice (some ⟨g, o, none⟩) 9 vc) W := fun W => zt2 W _ _ _ (by omega)
      have GT := hide (((za GK).trans (Gb.of gT)).alloc (.cells #[.slice (some ⟨g, o, none⟩) 9 vc] 36))
      have QT := hide (((za QK).call sT gT).alloc (.cells #[.slice (some ⟨g, o, none⟩) 9 vc] 36))
      have DT := hide (zr2 (za QK) hT hL hsm (.cells #[.slice (some ⟨g, o, none⟩) 9 vc] 36))
      have D9 := hide ((za DT).take 9 (by simp))
      clear DT
      have DT := D9
      have h9l : (L.take 9).length = 9 := by rw [List.length_take]; omega
      generalize L.take 9 = L9 at DT h9l
      clear D9 hT sT gT QK GK VT
      have KF := hide ((za QT).alloc (.cells #[.int .i64 0, .slice (some ⟨g, o, none⟩) 9 vc] 38))
      have TN := hide (zg3 (wT.alloc (.cells #[.slice (some ⟨g, o, none⟩) 9 vc] 36)) 0 (.slice (some ⟨g, o, none⟩) 9 vc) 38)
      have hsV : (wT.alloc (.cells #[.slice (some ⟨g, o, none⟩) 9 vc] 36)).heap.size = wT.heap.size + 1 := by simp
      rw [hsV] at TN
      have KD := hide ((za DT).below ((Below.refl (wT.alloc (.cells #[.slice (some ⟨g, o, none⟩) 9 vc] 36)).heap.size (wT.alloc (.cells #[.slice (some ⟨g, o, none⟩) 9 vc] 36))).alloc (o := .cells #[.int .i64 0, .slice (some ⟨g, o, none⟩) 9 vc] 38) (Nat.le_refl _)))
      go_wp2_with (at_builtin; refine Mem.zb0 _ rfl _ _ 23 rfl B 38 i0 (.agg #[.int .i64 0, .slice none 0 0]) 2 32 Tryz.underlying23 hi hz0 hz1 hz2 rfl (by decide) _ _ _ rfl (za KF).own ⟨wT.heap.size + 1, 0, none⟩ 1 1 [.int .i64 0, .slice (some ⟨g, o, none⟩) 9 vc] rfl rfl (za TN) (zh4 _ _ _ _) (by unfold maxLen; omega) (by omega) (za KF).hi ?_)
      ·intro v' w2 own' gr far
       have KE := hide ((za KF).app (Js := [⟨0, ⟨(some ⟨g, o, none⟩), vc, L9⟩⟩]) gr (by rw [List.length_append, Pl.zf2]; simpa [Pl.ze3, Pl.Tr.val, h9l] using own') (by simpa using far) (fun x hx => by cases List.mem_singleton.1 hx; exact za KD))
       have GE := hide (((za GT).alloc _).trans (Gb.own (S := S) gr (fun g hg => (World.ownsRow.lt (za KF).own g hg).1)))
       clear own' gr far KF KD GT DT QT TN
       go_wp2
       go_ret
       exact ⟨v', [⟨0, ⟨(some ⟨g, o, none⟩), vc, L9⟩⟩], rfl, Pl.zj1 _, Nat.le_refl 1, za KE, za GE⟩
     ·have t9 : ¬ (9 : Int) < (L.length : Int) := by omega
      have GT := hide (((za GK).trans (Gb.of gT)).alloc (.cells #[.slice va L.length vc] 36))
      have QT := hide (((za QK).call sT gT).alloc (.cells #[.slice va L.length vc] 36))
      have DT := hide (zr2 (za QK) hT hL hsm (.cells #[.slice va L.length vc] 36))
      clear hT sT gT QK GK VT
      have KF := hide ((za QT).alloc (.cells #[.int .i64 0, .slice va L.length vc] 38))
      have TN := hide (zg3 (wT.alloc (.cells #[.slice va L.length vc] 36)) 0 (.slice va L.length vc) 38)
      have hsV : (wT.alloc (.cells #[.slice va L.length vc] 36)).heap.size = wT.heap.size + 1 := by simp
      rw [hsV] at TN
      have KD := hide ((za DT).below ((Below.refl (wT.alloc (.cells #[.slice va L.length vc] 36)).heap.size (wT.alloc (.cells #[.slice va L.length vc] 36))).alloc (o := .cells #[.int .i64 0, .slice va L.length vc] 38) (Nat.le_refl _)))
      go_wp2_with (at_builtin; refine Mem.zb0 _ rfl _ _ 23 rfl B 38 i0 (.agg #[.int .i64 0, .slice none 0 0]) 2 32 Tryz.underlying23 hi hz0 hz1 hz2 rfl (by decide) _ _ _ rfl (za KF).own ⟨wT.heap.size + 1, 0, none⟩ 1 1 [.int .i64 0, .slice va L.length vc] rfl rfl (za TN) (zh4 _ _ _ _) (by unfold maxLen; omega) (by omega) (za KF).hi ?_)
      ·intro v' w2 own' gr far
       have KE := hide ((za KF).app (Js := [⟨0, ⟨va, vc, L⟩⟩]) gr (by rw [List.length_append, Pl.zf2]; exact own') (by simpa using far) (fun x hx => by cases List.mem_singleton.1 hx; exact za KD))
       have GE := hide (((za GT).alloc _).trans (Gb.own (S := S) gr (fun g hg => (World.ownsRow.lt (za KF).own g hg).1)))
       clear own' gr far KF KD GT DT QT TN
       go_wp2
       go_ret
       exact ⟨v', [⟨0, ⟨va, vc, L⟩⟩], rfl, Pl.zj1 _, Nat.le_refl 1, za KE, za GE⟩
end WSrc
end Go.Proofs.YtioildojmckepaaGreatDoor
