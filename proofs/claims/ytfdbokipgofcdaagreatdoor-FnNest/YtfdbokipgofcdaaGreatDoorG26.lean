/- Several texts of one claim in one file: WDrawNe, MemFar, WDrawNn. -/
import Derived.Test.YtfdbokipgofcdaaGreatDoorG25
import Derived.Test.YtfdbokipgofcdaaGreatDoorG13
import Derived.Test.YtfdbokipgofcdaaGreatDoorG02
import Derived.Laws.AppendOwn
import Derived.Deep.RegionHeld3
namespace Go.Proofs.YtfdbokipgofcdaaGreatDoor
open Go.RowKit
namespace Pl
def zs6 : Nat → Nat
 | 0 => 1
 | d + 1 => 1 + 3 * zs6 d
theorem zn0 (d : Nat) : 1 ≤ zs6 d := by cases d <;> simp [zs6]
end Pl
namespace WSrc
theorem zu5 : (Tryz.prog.info? 38).map (fun i => (i.zero, i.size, i.bytes)) = some (some (.agg #[.int .i64 0, .slice none 0 0]), 2, 32) := by kernel_rfl
theorem zj0 (w : World) (m : Int) (u : Value) (e : TypeId) : ∀ j x, [Value.int .i64 m, u][j]? = some x → (w.alloc (.cells #[.int .i64 m, u] e)).cell? ((⟨w.heap.size, 0, none⟩ : Addr).add j) = some x := by
 intro j x hx
 rw [Mem.add_lit, cell_of_row _ _ _ _ _ (0, 0) (heap_alloc_new _ _)]
 simpa using hx
theorem zk1 (m : Int) (a : Option Addr) (n c : Nat) : ∀ x ∈ [Value.int .i64 m, Value.slice a n c], x.oneCell' = true := by
 intro x hx
 simp only [List.mem_cons, List.not_mem_nil, or_false] at hx
 rcases hx with rfl | rfl <;> rfl
theorem Gb.alloc {w W : World} {B S : Nat} (h : Gb w W B S) (o : Obj) : Gb w (W.alloc o) B S := h.trans (Gb.of (below_grown ((Below.refl _ _).alloc (Nat.le_refl _) o) _))
theorem Di.below {W W' : World} {B : Nat} {v : Value} {x : Pl.It} (h : Di W B v x) (b : Below W.heap.size W W') : Di W' B v x := ⟨h.tree.grown (below_grown b none) (fun q hq => by cases hq), h.len, h.ok, h.many, h.apart⟩
theorem yb1 {W W' : World} {B S len cap vc : Nat} {a va : Option Addr} {v : Value} {Is : List Pl.It} {L : List Pl.Nd} (h : Ik W B S a len cap v Is) (hT : zi0 W' W.heap.size va vc L) (hL : L.length ≤ 64) (hs : Pl.zr7 L) (o : Obj) : Di (W'.alloc o) B v ⟨0, ⟨va, vc, L⟩⟩ := by
 refine Di.below ⟨hT.mono h.hi, hL, hs, ⟨by show (-1000 : Int) ≤ 0; decide, by show (0 : Int) ≤ 1000; decide⟩, fun g o e e2 => ?_⟩ ((Below.refl _ _).alloc (Nat.le_refl _) o)
 have h1 := hT.2.2 g o e
 have h2 := (World.ownsRow.lt h.own g e2).2
 omega
theorem zx5 {W : World} (B : Nat) (v : Value) (m : Int) (h : -1000 ≤ m ∧ m ≤ 1000) : Di W B v ⟨m, ⟨none, 0, []⟩⟩ :=
 ⟨⟨Mem.yi4 _ _, .inl ⟨rfl, rfl, rfl⟩, fun g o e => (by cases e)⟩, (by show 0 ≤ 64; omega), fun n hn => (by cases hn), h, fun g o e => (by cases e)⟩
theorem Di.take {W : World} {B vc : Nat} {va : Option Addr} {v : Value} {m : Int} {L : List Pl.Nd} (h : Di W B v ⟨m, ⟨va, vc, L⟩⟩) (k : Nat) (hk : va ≠ none) : Di W B v ⟨m, ⟨va, vc, L.take k⟩⟩ := by
 refine ⟨⟨fun i n hi => h.tree.1 i n ?_, ?_, h.tree.2.2⟩, ?_, fun n hn => h.ok n (List.mem_of_mem_take hn), h.many, h.apart⟩
 ·rw [List.getElem?_take] at hi
  split at hi
  ·exact hi
  ·cases hi
 ·rcases h.tree.2.1 with ⟨h1, _⟩ | ⟨g, o, h1, h2, h3⟩
  ·exact absurd h1 hk
  ·refine .inr ⟨g, o, h1, h2, ?_⟩
   show (L.take k).length ≤ vc
   rw [List.length_take]
   have : L.length ≤ vc := h3
   omega
 ·show (L.take k).length ≤ 64
  rw [List.length_take]
  have : L.length ≤ 64 := h.len
  omega
theorem sizeN : ∀ w, (sizeOf 89).run Tryz.prog w = .ok 5 w := fun _ => by kernel_rfl
theorem ye7 (W : World) (ad : Addr) (n cap : Nat) (h : 9 ≤ cap) : (Instr.slice 34 (.slice (some ad) n cap) none (some (.int .i64 9)) none).run Tryz.prog W = .ok (.slice (some ad) 9 cap) W := by
 have ht : Tryz.prog.underlying 34 = some (.slice (Tryz.prog.elem 34)) := by simp [Program.elem, Tryz.underlying34]
 have he : Tryz.prog.elem 34 = 89 := by simp [Program.elem, Tryz.underlying34]
 have h1 := run_slice_h (P := Tryz.prog) W 34 (some ad) n cap ht .i64 (9 : Int) (by omega) (by omega)
 rw [h1, he, sizeN]
 have e0 : ad.add 0 = ad := by unfold Addr.add; split <;> simp_all
 have h0 : cap ≠ 0 := by omega
 simp [sliced, Result.andThen, h0, e0]
set_option linter.unusedSimpArgs false in
set_option maxRecDepth 100000 in
set_option maxHeartbeats 2000000 in
theorem zx9 (B S : Nat) (a : Option Addr) (len cap : Nat) : ∀ (d : Nat), d ≤ 4 → ∀ (v : Value) (Is : List Pl.It) (w : World), Ik w B S a len cap v Is → Is.length + Pl.zs6 d ≤ 1000 →
  Calls Tryz.prog 63 #[.pointer (some ⟨S, 0, none⟩), v, .int .i64 (d : Int)] w fun e w' => ∃ v' Js, e = .returned v' ∧ Js.length ≤ Pl.zs6 d ∧ 1 ≤ Js.length ∧ Ik w' B S a len cap v' (Is ++ Js) ∧ Gb w w' B S := by
 obtain ⟨i0, hi, hz0, hz1, hz2⟩ := info_parts zu5
 intro d
 induction d with
 | zero =>
  intro _ v Is w hI hl
  obtain ⟨na, nc, rfl⟩ := Mem.za1 hI.own
  have QK := hide hI
  have GK := hide (Gb.refl w B S)
  have hl2 : Is.length ≤ 999 := by have := Pl.zn0 0; omega
  clear hI hl
  go_enter Tryz.func63, Tryz.ntmps63
  go_wp2_with fail
  refine (zw6 S a len cap _ (za QK).src).mono ?_
  rintro e wT ⟨va, vc, L, hL, hsm, rfl, hT, sT, gT⟩
  have VT := Mem.Blk.new wT #[.slice va L.length vc] 36
  have c0 := VT.cell 0
  have f0 := VT.fr 0
  simp only [kA0, kA1] at c0
  by_cases h9 : 9 < L.length
  ·have t9 : (9 : Int) < (L.length : Int) := by omega
   obtain ⟨g, o, rfl, hvc⟩ : ∃ g o, va = some ⟨g, o, none⟩ ∧ L.length ≤ vc := by
    rcases hT.2.1 with ⟨h1, h2, h3⟩ | ⟨g, o, h1, h2, h3⟩
    ·subst h3; simp at h9
    ·exact ⟨g, o, h1, h3⟩
   have hsl : ∀ W, (Instr.slice 34 (.slice (some ⟨g, o, none⟩) L.length vc) none (some (.int .i64 9)) none).run Tryz.prog W = .ok (.slice (some ⟨g, o, none⟩) 9 vc) W := fun W => ye7 W _ _ _ (by omega)
   have GT := hide (((za GK).trans (Gb.of gT)).alloc (.cells #[.slice (some ⟨g, o, none⟩) 9 vc] 36))
   have QT := hide (((za QK).call sT gT).alloc (.cells #[.slice (some ⟨g, o, none⟩) 9 vc] 36))
   have DT := hide (yb1 (za QK) hT hL hsm (.cells #[.slice (some ⟨g, o, none⟩) 9 vc] 36))
   have D9 := hide ((za DT).take 9 (by simp))
   clear DT
   have DT := D9
   have h9l : (L.take 9).length = 9 := by rw [List.length_take]; omega
   generalize L.take 9 = L9 at DT h9l
   clear D9 hT sT gT QK GK VT
   have KF := hide ((za QT).alloc (.cells #[.int .i64 0, .slice (some ⟨g, o, none⟩) 9 vc] 38))
   have TN := hide (zj0 (wT.alloc (.cells #[.slice (some ⟨g, o, none⟩) 9 vc] 36)) 0 (.slice (some ⟨g, o, none⟩) 9 vc) 38)
   have hsV : (wT.alloc (.cells #[.slice (some ⟨g, o, none⟩) 9 vc] 36)).heap.size = wT.heap.size + 1 := by simp
   rw [hsV] at TN
   have KD := hide ((za DT).below ((Below.refl (wT.alloc (.cells #[.slice (some ⟨g, o, none⟩) 9 vc] 36)).heap.size (wT.alloc (.cells #[.slice (some ⟨g, o, none⟩) 9 vc] 36))).alloc (o := .cells #[.int .i64 0, .slice (some ⟨g, o, none⟩) 9 vc] 38) (Nat.le_refl _)))
   go_wp2_with (at_builtin; refine Mem.zb0 _ rfl _ _ 23 rfl B 38 i0 (.agg #[.int .i64 0, .slice none 0 0]) 2 32 Tryz.underlying23 hi hz0 hz1 hz2 rfl (by decide) _ _ _ rfl (za KF).own ⟨wT.heap.size + 1, 0, none⟩ 1 1 [.int .i64 0, .slice (some ⟨g, o, none⟩) 9 vc] rfl rfl (za TN) (zk1 _ _ _ _) (by unfold maxLen; omega) (by omega) (za KF).hi ?_)
   ·intro v' w2 own' gr far
    have KE := hide ((za KF).app (Js := [⟨0, ⟨(some ⟨g, o, none⟩), vc, L9⟩⟩]) gr (by rw [List.length_append, Pl.zg0]; simpa [Pl.zb9, Pl.Tr.val, h9l] using own') (by simpa using far) (fun x hx => by cases List.mem_singleton.1 hx; exact za KD))
    have GE := hide (((za GT).alloc _).trans (Gb.own (S := S) gr (fun g hg => (World.ownsRow.lt (za KF).own g hg).1)))
    clear own' gr far KF KD GT DT QT TN
    go_wp2
    go_ret
    exact ⟨v', [⟨0, ⟨(some ⟨g, o, none⟩), vc, L9⟩⟩], rfl, Pl.zn0 _, Nat.le_refl 1, za KE, za GE⟩
  ·have t9 : ¬ (9 : Int) < (L.length : Int) := by omega
   have GT := hide (((za GK).trans (Gb.of gT)).alloc (.cells #[.slice va L.length vc] 36))
   have QT := hide (((za QK).call sT gT).alloc (.cells #[.slice va L.length vc] 36))
   have DT := hide (yb1 (za QK) hT hL hsm (.cells #[.slice va L.length vc] 36))
   clear hT sT gT QK GK VT
   have KF := hide ((za QT).alloc (.cells #[.int .i64 0, .slice va L.length vc] 38))
   have TN := hide (zj0 (wT.alloc (.cells #[.slice va L.length vc] 36)) 0 (.slice va L.length vc) 38)
   have hsV : (wT.alloc (.cells #[.slice va L.length vc] 36)).heap.size = wT.heap.size + 1 := by simp
   rw [hsV] at TN
   have KD := hide ((za DT).below ((Below.refl (wT.alloc (.cells #[.slice va L.length vc] 36)).heap.size (wT.alloc (.cells #[.slice va L.length vc] 36))).alloc (o := .cells #[.int .i64 0, .slice va L.length vc] 38) (Nat.le_refl _)))
   go_wp2_with (at_builtin; refine Mem.zb0 _ rfl _ _ 23 rfl B 38 i0 (.agg #[.int .i64 0, .slice none 0 0]) 2 32 Tryz.underlying23 hi hz0 hz1 hz2 rfl (by decide) _ _ _ rfl (za KF).own ⟨wT.heap.size + 1, 0, none⟩ 1 1 [.int .i64 0, .slice va L.length vc] rfl rfl (za TN) (zk1 _ _ _ _) (by unfold maxLen; omega) (by omega) (za KF).hi ?_)
   ·intro v' w2 own' gr far
    have KE := hide ((za KF).app (Js := [⟨0, ⟨va, vc, L⟩⟩]) gr (by rw [List.length_append, Pl.zg0]; exact own') (by simpa using far) (fun x hx => by cases List.mem_singleton.1 hx; exact za KD))
    have GE := hide (((za GT).alloc _).trans (Gb.own (S := S) gr (fun g hg => (World.ownsRow.lt (za KF).own g hg).1)))
    clear own' gr far KF KD GT DT QT TN
    go_wp2
    go_ret
    exact ⟨v', [⟨0, ⟨va, vc, L⟩⟩], rfl, Pl.zn0 _, Nat.le_refl 1, za KE, za GE⟩
 | succ d ih =>
  intro h4 v Is w hI hl
  obtain ⟨na, nc, rfl⟩ := Mem.za1 hI.own
  have hl2 : Is.length ≤ 999 := by have := Pl.zn0 (d + 1); omega
  by_cases hd : d = 0
  ·subst hd
   have QK := hide hI
   have GK := hide (Gb.refl w B S)
   clear hI hl ih
   have t1 : ¬ (1 : Int) < ((0 + 1 : Nat) : Int) := by omega
   go_enter Tryz.func63, Tryz.ntmps63
   go_wp2_with fail
   refine (zw6 S a len cap _ (za QK).src).mono ?_
   rintro e wT ⟨va, vc, L, hL, hsm, rfl, hT, sT, gT⟩
   have VT := Mem.Blk.new wT #[.slice va L.length vc] 36
   have c0 := VT.cell 0
   have f0 := VT.fr 0
   simp only [kA0, kA1] at c0
   by_cases h9 : 9 < L.length
   ·have t9 : (9 : Int) < (L.length : Int) := by omega
    obtain ⟨g, o, rfl, hvc⟩ : ∃ g o, va = some ⟨g, o, none⟩ ∧ L.length ≤ vc := by
     rcases hT.2.1 with ⟨h1, h2, h3⟩ | ⟨g, o, h1, h2, h3⟩
     ·subst h3; simp at h9
     ·exact ⟨g, o, h1, h3⟩
    have hsl : ∀ W, (Instr.slice 34 (.slice (some ⟨g, o, none⟩) L.length vc) none (some (.int .i64 9)) none).run Tryz.prog W = .ok (.slice (some ⟨g, o, none⟩) 9 vc) W := fun W => ye7 W _ _ _ (by omega)
    have GT := hide (((za GK).trans (Gb.of gT)).alloc (.cells #[.slice (some ⟨g, o, none⟩) 9 vc] 36))
    have QT := hide (((za QK).call sT gT).alloc (.cells #[.slice (some ⟨g, o, none⟩) 9 vc] 36))
    have DT := hide (yb1 (za QK) hT hL hsm (.cells #[.slice (some ⟨g, o, none⟩) 9 vc] 36))
    have D9 := hide ((za DT).take 9 (by simp))
    clear DT
    have DT := D9
    have h9l : (L.take 9).length = 9 := by rw [List.length_take]; omega
    generalize L.take 9 = L9 at DT h9l
    clear D9 hT sT gT QK GK VT
    have KF := hide ((za QT).alloc (.cells #[.int .i64 0, .slice (some ⟨g, o, none⟩) 9 vc] 38))
    have TN := hide (zj0 (wT.alloc (.cells #[.slice (some ⟨g, o, none⟩) 9 vc] 36)) 0 (.slice (some ⟨g, o, none⟩) 9 vc) 38)
    have hsV : (wT.alloc (.cells #[.slice (some ⟨g, o, none⟩) 9 vc] 36)).heap.size = wT.heap.size + 1 := by simp
    rw [hsV] at TN
    have KD := hide ((za DT).below ((Below.refl (wT.alloc (.cells #[.slice (some ⟨g, o, none⟩) 9 vc] 36)).heap.size (wT.alloc (.cells #[.slice (some ⟨g, o, none⟩) 9 vc] 36))).alloc (o := .cells #[.int .i64 0, .slice (some ⟨g, o, none⟩) 9 vc] 38) (Nat.le_refl _)))
    go_wp2_with (at_builtin; refine Mem.zb0 _ rfl _ _ 23 rfl B 38 i0 (.agg #[.int .i64 0, .slice none 0 0]) 2 32 Tryz.underlying23 hi hz0 hz1 hz2 rfl (by decide) _ _ _ rfl (za KF).own ⟨wT.heap.size + 1, 0, none⟩ 1 1 [.int .i64 0, .slice (some ⟨g, o, none⟩) 9 vc] rfl rfl (za TN) (zk1 _ _ _ _) (by unfold maxLen; omega) (by omega) (za KF).hi ?_)
    ·intro v' w2 own' gr far
     have KE := hide ((za KF).app (Js := [⟨0, ⟨(some ⟨g, o, none⟩), vc, L9⟩⟩]) gr (by rw [List.length_append, Pl.zg0]; simpa [Pl.zb9, Pl.Tr.val, h9l] using own') (by simpa using far) (fun x hx => by cases List.mem_singleton.1 hx; exact za KD))
     have GE := hide (((za GT).alloc _).trans (Gb.own (S := S) gr (fun g hg => (World.ownsRow.lt (za KF).own g hg).1)))
     clear own' gr far KF KD GT DT QT TN
     go_wp2
     go_ret
     exact ⟨v', [⟨0, ⟨(some ⟨g, o, none⟩), vc, L9⟩⟩], rfl, Pl.zn0 _, Nat.le_refl 1, za KE, za GE⟩
   ·have t9 : ¬ (9 : Int) < (L.length : Int) := by omega
    have GT := hide (((za GK).trans (Gb.of gT)).alloc (.cells #[.slice va L.length vc] 36))
    have QT := hide (((za QK).call sT gT).alloc (.cells #[.slice va L.length vc] 36))
    have DT := hide (yb1 (za QK) hT hL hsm (.cells #[.slice va L.length vc] 36))
    clear hT sT gT QK GK VT
    have KF := hide ((za QT).alloc (.cells #[.int .i64 0, .slice va L.length vc] 38))
    have TN := hide (zj0 (wT.alloc (.cells #[.slice va L.length vc] 36)) 0 (.slice va L.length vc) 38)
    have hsV : (wT.alloc (.cells #[.slice va L.length vc] 36)).heap.size = wT.heap.size + 1 := by simp
    rw [hsV] at TN
    have KD := hide ((za DT).below ((Below.refl (wT.alloc (.cells #[.slice va L.length vc] 36)).heap.size (wT.alloc (.cells #[.slice va L.length vc] 36))).alloc (o := .cells #[.int .i64 0, .slice va L.length vc] 38) (Nat.le_refl _)))
    go_wp2_with (at_builtin; refine Mem.zb0 _ rfl _ _ 23 rfl B 38 i0 (.agg #[.int .i64 0, .slice none 0 0]) 2 32 Tryz.underlying23 hi hz0 hz1 hz2 rfl (by decide) _ _ _ rfl (za KF).own ⟨wT.heap.size + 1, 0, none⟩ 1 1 [.int .i64 0, .slice va L.length vc] rfl rfl (za TN) (zk1 _ _ _ _) (by unfold maxLen; omega) (by omega) (za KF).hi ?_)
    ·intro v' w2 own' gr far
     have KE := hide ((za KF).app (Js := [⟨0, ⟨va, vc, L⟩⟩]) gr (by rw [List.length_append, Pl.zg0]; exact own') (by simpa using far) (fun x hx => by cases List.mem_singleton.1 hx; exact za KD))
     have GE := hide (((za GT).alloc _).trans (Gb.own (S := S) gr (fun g hg => (World.ownsRow.lt (za KF).own g hg).1)))
     clear own' gr far KF KD GT DT QT TN
     go_wp2
     go_ret
     exact ⟨v', [⟨0, ⟨va, vc, L⟩⟩], rfl, Pl.zn0 _, Nat.le_refl 1, za KE, za GE⟩
  ·have t1 : (1 : Int) < ((d + 1 : Nat) : Int) := by omega
   have hon := hide (zk3 S a len cap 2 w hI.src (by omega))
   have HI := hide hI
   clear hI
   go_enter Tryz.func63, Tryz.ntmps63
   go_wp2_with fail
   refine (za hon).mono ?_
   rintro e w1 ⟨r, rfl, s1, g1⟩
   have QK := hide ((za HI).call s1 g1)
   have GK : Hid (Gb w w1 B S) := hide (Gb.of g1)
   clear hon HI s1 g1
   cases r
   ·go_wp2_with fail
    refine (zw6 S a len cap _ (za QK).src).mono ?_
    rintro e wT ⟨va, vc, L, hL, hsm, rfl, hT, sT, gT⟩
    have VT := Mem.Blk.new wT #[.slice va L.length vc] 36
    have c0 := VT.cell 0
    have f0 := VT.fr 0
    simp only [kA0, kA1] at c0
    by_cases h9 : 9 < L.length
    ·have t9 : (9 : Int) < (L.length : Int) := by omega
     obtain ⟨g, o, rfl, hvc⟩ : ∃ g o, va = some ⟨g, o, none⟩ ∧ L.length ≤ vc := by
      rcases hT.2.1 with ⟨h1, h2, h3⟩ | ⟨g, o, h1, h2, h3⟩
      ·subst h3; simp at h9
      ·exact ⟨g, o, h1, h3⟩
     have hsl : ∀ W, (Instr.slice 34 (.slice (some ⟨g, o, none⟩) L.length vc) none (some (.int .i64 9)) none).run Tryz.prog W = .ok (.slice (some ⟨g, o, none⟩) 9 vc) W := fun W => ye7 W _ _ _ (by omega)
     have GT := hide (((za GK).trans (Gb.of gT)).alloc (.cells #[.slice (some ⟨g, o, none⟩) 9 vc] 36))
     have QT := hide (((za QK).call sT gT).alloc (.cells #[.slice (some ⟨g, o, none⟩) 9 vc] 36))
     have DT := hide (yb1 (za QK) hT hL hsm (.cells #[.slice (some ⟨g, o, none⟩) 9 vc] 36))
     have D9 := hide ((za DT).take 9 (by simp))
     clear DT
     have DT := D9
     have h9l : (L.take 9).length = 9 := by rw [List.length_take]; omega
     generalize L.take 9 = L9 at DT h9l
     clear D9 hT sT gT QK GK VT
     have KF := hide ((za QT).alloc (.cells #[.int .i64 0, .slice (some ⟨g, o, none⟩) 9 vc] 38))
     have TN := hide (zj0 (wT.alloc (.cells #[.slice (some ⟨g, o, none⟩) 9 vc] 36)) 0 (.slice (some ⟨g, o, none⟩) 9 vc) 38)
     have hsV : (wT.alloc (.cells #[.slice (some ⟨g, o, none⟩) 9 vc] 36)).heap.size = wT.heap.size + 1 := by simp
     rw [hsV] at TN
     have KD := hide ((za DT).below ((Below.refl (wT.alloc (.cells #[.slice (some ⟨g, o, none⟩) 9 vc] 36)).heap.size (wT.alloc (.cells #[.slice (some ⟨g, o, none⟩) 9 vc] 36))).alloc (o := .cells #[.int .i64 0, .slice (some ⟨g, o, none⟩) 9 vc] 38) (Nat.le_refl _)))
     go_wp2_with (at_builtin; refine Mem.zb0 _ rfl _ _ 23 rfl B 38 i0 (.agg #[.int .i64 0, .slice none 0 0]) 2 32 Tryz.underlying23 hi hz0 hz1 hz2 rfl (by decide) _ _ _ rfl (za KF).own ⟨wT.heap.size + 1, 0, none⟩ 1 1 [.int .i64 0, .slice (some ⟨g, o, none⟩) 9 vc] rfl rfl (za TN) (zk1 _ _ _ _) (by unfold maxLen; omega) (by omega) (za KF).hi ?_)
     ·intro v' w2 own' gr far
      have KE := hide ((za KF).app (Js := [⟨0, ⟨(some ⟨g, o, none⟩), vc, L9⟩⟩]) gr (by rw [List.length_append, Pl.zg0]; simpa [Pl.zb9, Pl.Tr.val, h9l] using own') (by simpa using far) (fun x hx => by cases List.mem_singleton.1 hx; exact za KD))
      have GE := hide (((za GT).alloc _).trans (Gb.own (S := S) gr (fun g hg => (World.ownsRow.lt (za KF).own g hg).1)))
      clear own' gr far KF KD GT DT QT TN
      go_wp2
      go_ret
      exact ⟨v', [⟨0, ⟨(some ⟨g, o, none⟩), vc, L9⟩⟩], rfl, Pl.zn0 _, Nat.le_refl 1, za KE, za GE⟩
    ·have t9 : ¬ (9 : Int) < (L.length : Int) := by omega
     have GT := hide (((za GK).trans (Gb.of gT)).alloc (.cells #[.slice va L.length vc] 36))
     have QT := hide (((za QK).call sT gT).alloc (.cells #[.slice va L.length vc] 36))
     have DT := hide (yb1 (za QK) hT hL hsm (.cells #[.slice va L.length vc] 36))
     clear hT sT gT QK GK VT
     have KF := hide ((za QT).alloc (.cells #[.int .i64 0, .slice va L.length vc] 38))
     have TN := hide (zj0 (wT.alloc (.cells #[.slice va L.length vc] 36)) 0 (.slice va L.length vc) 38)
     have hsV : (wT.alloc (.cells #[.slice va L.length vc] 36)).heap.size = wT.heap.size + 1 := by simp
     rw [hsV] at TN
     have KD := hide ((za DT).below ((Below.refl (wT.alloc (.cells #[.slice va L.length vc] 36)).heap.size (wT.alloc (.cells #[.slice va L.length vc] 36))).alloc (o := .cells #[.int .i64 0, .slice va L.length vc] 38) (Nat.le_refl _)))
     go_wp2_with (at_builtin; refine Mem.zb0 _ rfl _ _ 23 rfl B 38 i0 (.agg #[.int .i64 0, .slice none 0 0]) 2 32 Tryz.underlying23 hi hz0 hz1 hz2 rfl (by decide) _ _ _ rfl (za KF).own ⟨wT.heap.size + 1, 0, none⟩ 1 1 [.int .i64 0, .slice va L.length vc] rfl rfl (za TN) (zk1 _ _ _ _) (by unfold maxLen; omega) (by omega) (za KF).hi ?_)
     ·intro v' w2 own' gr far
      have KE := hide ((za KF).app (Js := [⟨0, ⟨va, vc, L⟩⟩]) gr (by rw [List.length_append, Pl.zg0]; exact own') (by simpa using far) (fun x hx => by cases List.mem_singleton.1 hx; exact za KD))
      have GE := hide (((za GT).alloc _).trans (Gb.own (S := S) gr (fun g hg => (World.ownsRow.lt (za KF).own g hg).1)))
      clear own' gr far KF KD GT DT QT TN
      go_wp2
      go_ret
      exact ⟨v', [⟨0, ⟨va, vc, L⟩⟩], rfl, Pl.zn0 _, Nat.le_refl 1, za KE, za GE⟩
   ·by_cases h6 : Is.length < 6
    ·have t6 : (Is.length : Int) < 6 := by omega
     go_wp2_with fail
     refine (zd9 S a len cap 3 _ (za QK).src (by omega)).mono ?_
     rintro e w2 ⟨r, rfl, r0, r1, s2, g2⟩
     have hr2 : r ≤ 2 := by omega
     have hw1 : IntKind.i64.wrap (1 + r) = 1 + r := by simp only [IntKind.wrap_i64]; omega
     have QN := hide ((za QK).call s2 g2)
     have GN := hide ((za GK).trans (Gb.of g2))
     have KF := hide ((za QN).alloc (.cells #[.int .i64 (1 + r), .slice none 0 0] 38))
     have KD := hide (zx5 (W := w2.alloc (.cells #[.int .i64 (1 + r), .slice none 0 0] 38)) B (.slice na Is.length nc) (1 + r) (by omega))
     have TN := hide (zj0 w2 (1 + r) (.slice none 0 0) 38)
     clear QK GK s2 g2
     go_wp2_with (at_builtin; refine Mem.zb0 _ rfl _ _ 23 rfl B 38 i0 (.agg #[.int .i64 0, .slice none 0 0]) 2 32 Tryz.underlying23 hi hz0 hz1 hz2 rfl (by decide) _ _ _ rfl (za KF).own ⟨w2.heap.size, 0, none⟩ 1 1 [.int .i64 (1 + r), .slice none 0 0] rfl rfl (za TN) (zk1 _ _ _ _) (by unfold maxLen; omega) (by omega) (za KF).hi ?_)
     ·intro v' w3 own' gr far
      have KE := hide ((za KF).app (Js := [⟨1 + r, ⟨none, 0, []⟩⟩]) gr (by rw [List.length_append, Pl.zg0]; exact own') (by simpa using far) (fun x hx => by cases List.mem_singleton.1 hx; exact za KD))
      have GE := hide (((za GN).alloc _).trans (Gb.own (S := S) gr (fun g hg => (World.ownsRow.lt (za KF).own g hg).1)))
      clear own' gr far KF KD GN QN TN
      have hwd : IntKind.i64.wrap (((d + 1 : Nat) : Int) - 1) = (d : Int) := by simp only [IntKind.wrap_i64]; omega
      obtain ⟨k0, hk0⟩ : ∃ k0 : Nat, (1 + r) = (k0 : Int) := ⟨(1 + r).toNat, by omega⟩
      have hk3 : k0 ≤ 3 := by omega
      have HM : Hid (1 + k0 * Pl.zs6 d ≤ Pl.zs6 (d + 1)) := by
       show 1 + k0 * Pl.zs6 d ≤ 1 + 3 * Pl.zs6 d
       have := Nat.mul_le_mul_right (Pl.zs6 d) hk3
       omega
      have HIH := hide ih
      have HL := hide hl
      have hd4 : d ≤ 4 := by omega
      rw [hk0]
      clear ih hl hw1 hk0 r0 r1 hr2
      go_wp2
      go_loopw [1, 7] (fun st k wr => ∃ (j : Nat) (Js : List Pl.It), k = .int .i64 (j : Int) ∧ j ≤ 3 ∧ Js.length + j * Pl.zs6 d ≤ Pl.zs6 (d + 1) ∧ 1 ≤ Js.length ∧ Hid (Ik wr B S a len cap st (Is ++ Js)) ∧ Hid (Gb w wr B S)) (fun _ k _ => (intOf k).toNat)
      case atStart => exact ⟨k0, [⟨1 + r, ⟨none, 0, []⟩⟩], rfl, hk3, za HM, Nat.le_refl 1, KE, GE⟩
      case round =>
       obtain ⟨j, Js, rfl, hj, hJ, hJ1, KR, GR⟩ := hrel
       clear KE GE HM
       cases j with
       | zero =>
        have HJ : Hid (Js.length ≤ Pl.zs6 (d + 1)) := by rw [Nat.zero_mul] at hJ; exact hJ
        go_wp2
        go_ret
        exact ⟨_, Js, rfl, za HJ, hJ1, za KR, za GR⟩
       | succ j =>
        have tj : (0 : Int) < ((j + 1 : Nat) : Int) := by omega
        have hwj : IntKind.i64.wrap (((j + 1 : Nat) : Int) - 1) = (j : Int) := by simp only [IntKind.wrap_i64]; omega
        have hq : (Is ++ Js).length + Pl.zs6 d ≤ 1000 := by
         have := za HL
         rw [List.length_append]
         rw [Nat.succ_mul] at hJ
         omega
        have HC := hide (za HIH hd4 _ (Is ++ Js) wr (za KR) hq)
        have HJ := hide hJ
        clear hJ hq
        go_wp2_with fail
        refine (za HC).mono ?_
        rintro e wZ ⟨v2, Ks, rfl, hK, hK1, IK, GG⟩
        have KZ := hide IK
        have GZ := hide ((za GR).trans GG)
        have HK := hide hK
        clear IK GG hK HC KR GR
        go_wp2
        go_roundw
        case rel => exact ⟨j, Js ++ Ks, by go_num, by omega, by have h1 := za HJ; have h2 := za HK; rw [Nat.succ_mul] at h1; rw [List.length_append]; omega, by rw [List.length_append]; omega, by rw [← List.append_assoc]; exact KZ, GZ⟩
        case measure => simp [intOf]
    ·have t6 : ¬ (Is.length : Int) < 6 := by omega
     go_wp2_with fail
     refine (zw6 S a len cap _ (za QK).src).mono ?_
     rintro e wT ⟨va, vc, L, hL, hsm, rfl, hT, sT, gT⟩
     have VT := Mem.Blk.new wT #[.slice va L.length vc] 36
     have c0 := VT.cell 0
     have f0 := VT.fr 0
     simp only [kA0, kA1] at c0
     by_cases h9 : 9 < L.length
     ·have t9 : (9 : Int) < (L.length : Int) := by omega
      obtain ⟨g, o, rfl, hvc⟩ : ∃ g o, va = some ⟨g, o, none⟩ ∧ L.length ≤ vc := by
       rcases hT.2.1 with ⟨h1, h2, h3⟩ | ⟨g, o, h1, h2, h3⟩
       ·subst h3; simp at h9
       ·exact ⟨g, o, h1, h3⟩
      have hsl : ∀ W, (Instr.slice 34 (.slice (some ⟨g, o, none⟩) L.length vc) none (some (.int .i64 9)) none).run Tryz.prog W = .ok (.slice (some ⟨g, o, none⟩) 9 vc) W := fun W => ye7 W _ _ _ (by omega)
      have GT := hide (((za GK).trans (Gb.of gT)).alloc (.cells #[.slice (some ⟨g, o, none⟩) 9 vc] 36))
      have QT := hide (((za QK).call sT gT).alloc (.cells #[.slice (some ⟨g, o, none⟩) 9 vc] 36))
      have DT := hide (yb1 (za QK) hT hL hsm (.cells #[.slice (some ⟨g, o, none⟩) 9 vc] 36))
      have D9 := hide ((za DT).take 9 (by simp))
      clear DT
      have DT := D9
      have h9l : (L.take 9).length = 9 := by rw [List.length_take]; omega
      generalize L.take 9 = L9 at DT h9l
      clear D9 hT sT gT QK GK VT
      have KF := hide ((za QT).alloc (.cells #[.int .i64 0, .slice (some ⟨g, o, none⟩) 9 vc] 38))
      have TN := hide (zj0 (wT.alloc (.cells #[.slice (some ⟨g, o, none⟩) 9 vc] 36)) 0 (.slice (some ⟨g, o, none⟩) 9 vc) 38)
      have hsV : (wT.alloc (.cells #[.slice (some ⟨g, o, none⟩) 9 vc] 36)).heap.size = wT.heap.size + 1 := by simp
      rw [hsV] at TN
      have KD := hide ((za DT).below ((Below.refl (wT.alloc (.cells #[.slice (some ⟨g, o, none⟩) 9 vc] 36)).heap.size (wT.alloc (.cells #[.slice (some ⟨g, o, none⟩) 9 vc] 36))).alloc (o := .cells #[.int .i64 0, .slice (some ⟨g, o, none⟩) 9 vc] 38) (Nat.le_refl _)))
      go_wp2_with (at_builtin; refine Mem.zb0 _ rfl _ _ 23 rfl B 38 i0 (.agg #[.int .i64 0, .slice none 0 0]) 2 32 Tryz.underlying23 hi hz0 hz1 hz2 rfl (by decide) _ _ _ rfl (za KF).own ⟨wT.heap.size + 1, 0, none⟩ 1 1 [.int .i64 0, .slice (some ⟨g, o, none⟩) 9 vc] rfl rfl (za TN) (zk1 _ _ _ _) (by unfold maxLen; omega) (by omega) (za KF).hi ?_)
      ·intro v' w2 own' gr far
       have KE := hide ((za KF).app (Js := [⟨0, ⟨(some ⟨g, o, none⟩), vc, L9⟩⟩]) gr (by rw [List.length_append, Pl.zg0]; simpa [Pl.zb9, Pl.Tr.val, h9l] using own') (by simpa using far) (fun x hx => by cases List.mem_singleton.1 hx; exact za KD))
       have GE := hide (((za GT).alloc _).trans (Gb.own (S := S) gr (fun g hg => (World.ownsRow.lt (za KF).own g hg).1)))
       clear own' gr far KF KD GT DT QT TN
       go_wp2
       go_ret
       exact ⟨v', [⟨0, ⟨(some ⟨g, o, none⟩), vc, L9⟩⟩], rfl, Pl.zn0 _, Nat.le_refl 1, za KE, za GE⟩
     ·have t9 : ¬ (9 : Int) < (L.length : Int) := by omega
      have GT := hide (((za GK).trans (Gb.of gT)).alloc (.cells #[.slice va L.length vc] 36))
      have QT := hide (((za QK).call sT gT).alloc (.cells #[.slice va L.length vc] 36))
      have DT := hide (yb1 (za QK) hT hL hsm (.cells #[.slice va L.length vc] 36))
      clear hT sT gT QK GK VT
      have KF := hide ((za QT).alloc (.cells #[.int .i64 0, .slice va L.length vc] 38))
      have TN := hide (zj0 (wT.alloc (.cells #[.slice va L.length vc] 36)) 0 (.slice va L.length vc) 38)
      have hsV : (wT.alloc (.cells #[.slice va L.length vc] 36)).heap.size = wT.heap.size + 1 := by simp
      rw [hsV] at TN
      have KD := hide ((za DT).below ((Below.refl (wT.alloc (.cells #[.slice va L.length vc] 36)).heap.size (wT.alloc (.cells #[.slice va L.length vc] 36))).alloc (o := .cells #[.int .i64 0, .slice va L.length vc] 38) (Nat.le_refl _)))
      go_wp2_with (at_builtin; refine Mem.zb0 _ rfl _ _ 23 rfl B 38 i0 (.agg #[.int .i64 0, .slice none 0 0]) 2 32 Tryz.underlying23 hi hz0 hz1 hz2 rfl (by decide) _ _ _ rfl (za KF).own ⟨wT.heap.size + 1, 0, none⟩ 1 1 [.int .i64 0, .slice va L.length vc] rfl rfl (za TN) (zk1 _ _ _ _) (by unfold maxLen; omega) (by omega) (za KF).hi ?_)
      ·intro v' w2 own' gr far
       have KE := hide ((za KF).app (Js := [⟨0, ⟨va, vc, L⟩⟩]) gr (by rw [List.length_append, Pl.zg0]; exact own') (by simpa using far) (fun x hx => by cases List.mem_singleton.1 hx; exact za KD))
       have GE := hide (((za GT).alloc _).trans (Gb.own (S := S) gr (fun g hg => (World.ownsRow.lt (za KF).own g hg).1)))
       clear own' gr far KF KD GT DT QT TN
       go_wp2
       go_ret
       exact ⟨v', [⟨0, ⟨va, vc, L⟩⟩], rfl, Pl.zn0 _, Nat.le_refl 1, za KE, za GE⟩
end WSrc
end Go.Proofs.YtfdbokipgofcdaaGreatDoor

namespace Go.Proofs.YtfdbokipgofcdaaGreatDoor
open Go.RowKit
namespace Mem
theorem nodes_far {w : World} {g o : Nat} {L : List Pl.Nd} (h : zc2 w (some ⟨g, o, none⟩) L) (p : Addr) (v : Value) (hp : p.block ≠ g) : zc2 (w.setCell p v) (some ⟨g, o, none⟩) L := fun i n hi => by
 obtain ⟨g', o', h1, h2, h3, h4, h5, h6, h7⟩ := h i n hi
 cases h1
 refine ⟨g, o, rfl, by simpa using h2, ?_, ?_, ?_, ?_, ?_⟩ <;> (rw [World.cell?_setCell_far _ _ _ _ hp]; assumption)
end Mem
end Go.Proofs.YtfdbokipgofcdaaGreatDoor

namespace Go.Proofs.YtfdbokipgofcdaaGreatDoor
open Go.RowKit
namespace WSrc
theorem zr6 {w W : World} {S : Nat} (h : Gb w W w.heap.size S) : w.grownBy W (some S) := ⟨h.os, h.tape, h.output, h.size, fun j hj hne => h.block j hj hj (fun e => hne (by rw [e]))⟩
theorem ik_lo {W : World} {B S len cap g nc n : Nat} {a : Option Addr} {Is : List Pl.It} (h : Ik W B S a len cap (.slice (some ⟨g, 0, none⟩) n nc) Is) : B ≤ g := (World.ownsRow.lt h.own g rfl).1
theorem ik_cell {W : World} {B S len cap g nc : Nat} {a : Option Addr} {x : Pl.It} {Xs : List Pl.It} (h : Ik W B S a len cap (.slice (some ⟨g, 0, none⟩) (x :: Xs).length nc) (x :: Xs)) : W.cell? ⟨g, 0, none⟩ = some (.int .i64 x.m) ∧ W.frozen? ⟨g, 0, none⟩ = false := by
 refine ⟨?_, ?_⟩
 ·have := World.ownsRow.cells h.own (g := g) rfl 0 (.int .i64 x.m) rfl
  rw [Mem.add_lit] at this
  exact this
 ·rcases h.own.2 with ⟨e, _⟩ | ⟨g', c', cur, e, hb, hg, _⟩
  ·cases e
  ·cases e
   exact Mem.zi8 hg
theorem Gb.put {w W : World} {B S g : Nat} (h : Gb w W B S) (hg : B ≤ g) (k : Nat) (v : Value) : Gb w (W.setCell ⟨g, k, none⟩ v) B S :=
 ⟨h.os, h.tape, h.output, by rw [World.size_setCell]; exact h.size, fun j hj hb hs => (heap_setCell_other _ _ _ _ (by show j ≠ g; omega)).trans (h.block j hj hb hs)⟩
theorem ik_many {W : World} {B S len cap g nc : Nat} {a : Option Addr} {x : Pl.It} {Xs : List Pl.It} (h : Ik W B S a len cap (.slice (some ⟨g, 0, none⟩) (x :: Xs).length nc) (x :: Xs)) (m : Int) (hm : -1000 ≤ m ∧ m ≤ 1000) : Ik (W.setCell ⟨g, 0, none⟩ (.int .i64 m)) B S a len cap (.slice (some ⟨g, 0, none⟩) (x :: Xs).length nc) (⟨m, x.t⟩ :: Xs) := by
 have hlo := ik_lo h
 have l := h.lo
 refine ⟨h.lo, by rw [World.size_setCell]; exact h.hi, zj9 h.src 0 _ (by omega), ?_, fun y hy => ?_⟩
 ·refine ⟨h.own.1, ?_⟩
  rcases h.own.2 with ⟨e, _⟩ | ⟨g', c', cur, e, hb, hg, hc, hm', hs, ht⟩
  ·cases e
  ·cases e
   refine .inr ⟨g, nc, cur.setIfInBounds 0 (.int .i64 m), rfl, hb, heap_setCell_same _ _ _ _ _ _ hg, hc, hm', by rw [Array.size_setIfInBounds]; exact hs, ?_⟩
   rw [Array.toList_setIfInBounds, List.take_set]
   show (List.take ((x :: Xs).length * 2) cur.toList).set 0 _ = _
   rw [ht]
   rfl
 ·have hd : ∀ z, Di W B (.slice (some ⟨g, 0, none⟩) (x :: Xs).length nc) z → Di (W.setCell ⟨g, 0, none⟩ (.int .i64 m)) B (.slice (some ⟨g, 0, none⟩) (x :: Xs).length nc) z := fun z hz => by
   refine ⟨⟨fun i n hi => ?_, zu4.yh1 hz.tree.2.1 (by rw [World.size_setCell]; exact Nat.le_refl _), hz.tree.2.2⟩, hz.len, hz.ok, hz.many, hz.apart⟩
   obtain ⟨q, o, e, _⟩ := hz.tree.1 i n hi
   have ha := hz.apart q o e
   have h2 := hz.tree.1
   rw [e] at h2 ⊢
   exact Mem.nodes_far h2 ⟨g, 0, none⟩ (.int .i64 m) (fun e2 => ha (congrArg some e2)) i n hi
  rcases List.mem_cons.1 hy with rfl | hy
  ·have h3 := hd x (h.each x (List.mem_cons_self ..))
   exact ⟨h3.tree, h3.len, h3.ok, hm, h3.apart⟩
  ·exact hd y (h.each y (List.mem_cons_of_mem _ hy))
set_option linter.unusedSimpArgs false in
set_option maxRecDepth 100000 in
set_option maxHeartbeats 4000000 in
theorem zk8 (S : Nat) (a : Option Addr) (len cap : Nat) (w : World) (hs : Src w S a len cap) :
  Calls Tryz.prog 31 #[.pointer (some ⟨S, 0, none⟩)] w fun e w' => ∃ va vc Is, Is.length ≤ 200 ∧ e = .returned (.slice va Is.length vc) ∧ Ik w' w.heap.size S a len cap (.slice va Is.length vc) Is ∧ w.grownBy w' (some S) := by
 obtain ⟨i0, hi, hz0, hz1, hz2⟩ := info_parts zu5
 have hS := zz1 hs
 have hn := hide (zd9 S a len cap 3 w hs (by omega))
 have HS := hide hS
 clear hs
 go_enter Tryz.func31, Tryz.ntmps31
 go_wp2_with fail
 refine (za hn).mono ?_
 rintro e w1 ⟨r, rfl, r0, r1, s1, g1⟩
 have hr2 : r ≤ 2 := by omega
 have hw1 : IntKind.i64.wrap (1 + r) = 1 + r := by simp only [IntKind.wrap_i64]; omega
 have hg1 := g1.size
 have Q1 : Hid (Ik (w1.alloc (.cells #[.int .i64 (1 + r), .slice none 0 0] 38)) w.heap.size S a len cap (.slice (some ⟨w1.heap.size, 0, none⟩) 1 1) [⟨1 + r, ⟨none, 0, []⟩⟩]) := hide
  ⟨hS, Nat.le_trans hg1 (by simp), yb2 s1 ((Below.refl _ _).alloc (Nat.le_refl _) _), ⟨rfl, .inr ⟨w1.heap.size, 1, _, rfl, hg1, heap_alloc_new _ _, Nat.le_refl _, by decide, rfl, rfl⟩⟩, fun x hx => by cases List.mem_singleton.1 hx; exact zx5 _ _ _ (by omega)⟩
 have G1 := hide ((Gb.of (B := w.heap.size) g1).alloc (.cells #[.int .i64 (1 + r), .slice none 0 0] 38))
 clear hn s1 g1
 go_wp2_with fail
 refine (zk3 S a len cap 6 _ (za Q1).src (by omega)).mono ?_
 rintro e w3 ⟨r3, rfl, s3, g3⟩
 have Q3 := hide ((za Q1).call s3 g3)
 have G3 := hide ((za G1).trans (Gb.of g3))
 clear Q1 G1 s3 g3
 cases r3
 ·have c0 := World.ownsRow.cells (za Q3).own (g := w1.heap.size) rfl 0 _ rfl
  rw [Mem.add_lit] at c0
  obtain ⟨k0, hk0⟩ : ∃ k0 : Nat, (1 + r) = (k0 : Int) := ⟨(1 + r).toNat, by omega⟩
  have hk3 : k0 ≤ 3 := by omega
  rw [hk0] at c0 Q3
  rw [hk0]
  clear hw1 hk0 r0 r1 hr2
  generalize hq1 : w1.heap.size = q1 at c0 Q3 ⊢
  clear hq1
  go_wp2
  go_loopw [3, 4] (fun st k wr => ∃ (j : Nat) (Is : List Pl.It), k = .int .i64 (j : Int) ∧ j ≤ 3 ∧ Is.length + j * 40 ≤ 121 ∧ 1 ≤ Is.length ∧ Hid (Ik wr w.heap.size S a len cap st Is) ∧ Hid (Gb w wr w.heap.size S)) (fun _ k _ => (intOf k).toNat)
  case atStart => exact ⟨k0, [⟨(k0 : Int), ⟨none, 0, []⟩⟩], rfl, hk3, by show 1 + k0 * 40 ≤ 121; omega, Nat.le_refl 1, Q3, G3⟩
  case round =>
   obtain ⟨j, Is, rfl, hj, hIl, hI1, QK, GK⟩ := hrel
   clear Q3 G3 c0
   cases j with
   | zero =>
    obtain ⟨na, nc, rfl⟩ := Mem.za1 (za QK).own
    have hIl' : Is.length ≤ 200 := by omega
    go_wp2_with fail
    obtain ⟨g, rfl⟩ : ∃ g, na = some ⟨g, 0, none⟩ := by
     rcases (za QK).own.2 with ⟨_, h0⟩ | ⟨g, c, cur, e, -⟩
     ·exact absurd h0 (by omega)
     ·injection e with e1; exact ⟨g, e1⟩
    refine (zk3 S a len cap 25 _ (za QK).src (by omega)).mono ?_
    rintro e w5 ⟨r5, rfl, s5, g5⟩
    have Q5 := hide ((za QK).call s5 g5)
    have G5 := hide ((za GK).trans (Gb.of g5))
    clear QK GK s5 g5
    cases r5
    ·go_wp2
     go_ret
     exact ⟨_, nc, Is, by omega, rfl, za Q5, zr6 (za G5)⟩
    ·go_wp2_with fail
     refine (zd9 S a len cap 3 _ (za Q5).src (by omega)).mono ?_
     rintro e w6 ⟨r6, rfl, q0, q1, s6, g6⟩
     have Q6 := hide ((za Q5).call s6 g6)
     have G6 := hide ((za G5).trans (Gb.of g6))
     clear Q5 G5 s6 g6
     rcases (show r6 = 0 ∨ r6 = 1 ∨ r6 = 2 by omega) with rfl | rfl | rfl
     ·go_wp2_with fail
      refine (zd9 S a len cap 6 _ (za Q6).src (by omega)).mono ?_
      rintro e w7 ⟨r7, rfl, p0, p1, s7, g7⟩
      have Q7 := hide ((za Q6).call s7 g7)
      have G7 := hide ((za G6).trans (Gb.of g7))
      obtain ⟨x, Xs, rfl⟩ : ∃ x Xs, Is = x :: Xs := by
       cases Is with
       | nil => simp at hI1
       | cons x Xs => exact ⟨x, Xs, rfl⟩
      obtain ⟨cc, ff⟩ := ik_cell (za Q7)
      have hix : (0 : Int) < ((x :: Xs).length : Int) := by omega
      clear Q6 G6 s7 g7
      go_wp2
      go_ret
      exact ⟨_, nc, ⟨r7, x.t⟩ :: Xs, by simpa using hIl', rfl, ik_many (za Q7) r7 (by omega), zr6 ((za G7).put (ik_lo (za Q7)) 0 _)⟩
     ·have KF := hide ((za Q6).alloc (.cells #[.int .i64 0, .slice none 0 0] 38))
      have KD := hide (zx5 (W := w6.alloc (.cells #[.int .i64 0, .slice none 0 0] 38)) w.heap.size (.slice (some ⟨g, 0, none⟩) Is.length nc) 0 (by omega))
      go_wp2_with (at_builtin; refine Mem.zb0 _ rfl _ _ 23 rfl w.heap.size 38 i0 (.agg #[.int .i64 0, .slice none 0 0]) 2 32 Tryz.underlying23 hi hz0 hz1 hz2 rfl (by decide) _ _ _ rfl (za KF).own ⟨w6.heap.size, 0, none⟩ 1 1 [.int .i64 0, .slice none 0 0] rfl rfl (zj0 _ _ _ _) (zk1 _ _ _ _) (by unfold maxLen; omega) (by omega) (za KF).hi ?_)
      ·intro v' w7 own' gr far
       have KE := (za KF).app (Js := [⟨0, ⟨none, 0, []⟩⟩]) gr (by rw [List.length_append, Pl.zg0]; exact own') (by simpa using far) (fun x hx => by cases List.mem_singleton.1 hx; exact za KD)
       have GE := hide (((za G6).alloc _).trans (Gb.own (S := S) gr (fun g hg => (World.ownsRow.lt (za KF).own g hg).1)))
       obtain ⟨nb, nd, rfl⟩ := Mem.za1 KE.own
       have KE := hide KE
       clear own' gr far KF KD G6 Q6
       go_wp2
       go_ret
       exact ⟨nb, nd, Is ++ [⟨0, ⟨none, 0, []⟩⟩], by rw [List.length_append]; show Is.length + 1 ≤ 200; omega, rfl, za KE, zr6 (za GE)⟩
     ·have K2 := (za Q6).alloc (.cells #[.int .i64 1, .slice none 0 0, .int .i64 1, .slice none 0 0] 38)
      have KF : Hid (Ik (w6.alloc (.cells #[.int .i64 1, .slice none 0 0, .int .i64 1, .slice none 0 0] 38)) w.heap.size S a len cap (.slice (some ⟨w6.heap.size, 0, none⟩) 2 2) [⟨1, ⟨none, 0, []⟩⟩, ⟨1, ⟨none, 0, []⟩⟩]) := hide
       ⟨K2.lo, K2.hi, K2.src, ⟨rfl, .inr ⟨w6.heap.size, 2, _, rfl, (za Q6).hi, heap_alloc_new _ _, Nat.le_refl _, by decide, rfl, rfl⟩⟩, fun x hx => by
        simp only [List.mem_cons, List.not_mem_nil, or_false, or_self] at hx
        subst hx
        exact zx5 _ _ _ (by omega)⟩
      have CI := hide (fun j u hj => World.ownsRow.cells K2.own (g := g) rfl j u hj)
      have KX : Hid (∀ x ∈ Is, Di (w6.alloc (.cells #[.int .i64 1, .slice none 0 0, .int .i64 1, .slice none 0 0] 38)) w.heap.size (.slice (some ⟨w6.heap.size, 0, none⟩) 2 2) x) := fun x hx => by
       have h := K2.each x hx
       refine ⟨h.tree, h.len, h.ok, h.many, fun q o e e2 => ?_⟩
       have h1 := ((za Q6).each x hx).tree.blk q o e
       have e3 : w6.heap.size = q := Option.some.inj e2
       omega
      clear K2
      go_wp2_with (at_builtin; refine Mem.zb0 _ rfl _ _ 23 rfl w.heap.size 38 i0 (.agg #[.int .i64 0, .slice none 0 0]) 2 32 Tryz.underlying23 hi hz0 hz1 hz2 rfl (by decide) _ _ _ rfl (za KF).own ⟨g, 0, none⟩ Is.length nc (Pl.zb9 Is) rfl (Pl.zp3 Is) (za CI) (Pl.zv5 Is) (by unfold maxLen; show 2 + Is.length ≤ _; omega) (by show (2 + Is.length) * 32 ≤ _; omega) (za KF).hi ?_)
      ·intro v' w7 own' gr far
       have KE := (za KF).app (Js := Is) gr (by rw [List.length_append, Pl.zg0]; exact own') (by simpa using far) (za KX)
       have GE := hide (((za G6).alloc _).trans (Gb.own (S := S) gr (fun g hg => (World.ownsRow.lt (za KF).own g hg).1)))
       obtain ⟨nb, nd, rfl⟩ := Mem.za1 KE.own
       have KE := hide KE
       clear own' gr far KF KX CI G6 Q6
       go_wp2
       go_ret
       exact ⟨nb, nd, [⟨1, ⟨none, 0, []⟩⟩, ⟨1, ⟨none, 0, []⟩⟩] ++ Is, by rw [List.length_append]; show 2 + Is.length ≤ 200; omega, rfl, za KE, zr6 (za GE)⟩
   | succ j =>
    have tj : (0 : Int) < ((j + 1 : Nat) : Int) := by omega
    have hwj : IntKind.i64.wrap (((j + 1 : Nat) : Int) - 1) = (j : Int) := by simp only [IntKind.wrap_i64]; omega
    have HC := hide (zx9 w.heap.size S a len cap 3 (by omega) _ Is wr (za QK) (by show Is.length + 40 ≤ 1000; omega))
    go_wp2_with fail
    refine (za HC).mono ?_
    rintro e wZ ⟨v2, Ks, rfl, hK, hK1, IK, GG⟩
    have KZ := hide IK
    have GZ := hide ((za GK).trans GG)
    have hK40 : Ks.length ≤ 40 := hK
    clear IK GG hK HC QK GK
    go_wp2
    go_roundw
    case rel => exact ⟨j, Is ++ Ks, by go_num, by omega, by rw [List.length_append]; omega, by rw [List.length_append]; omega, KZ, GZ⟩
    case measure => simp [intOf]
 ·have HC := hide (zx9 w.heap.size S a len cap 4 (by omega) (.slice none 0 0) [] w3 ⟨(za Q3).lo, (za Q3).hi, (za Q3).src, ⟨rfl, .inl ⟨rfl, rfl⟩⟩, fun x hx => by cases hx⟩ (by decide))
  clear hw1 r0 r1 hr2
  go_wp2_with fail
  refine (za HC).mono ?_
  rintro e wZ ⟨v2, Is, rfl, hK, hI1, IK, GG⟩
  obtain ⟨na, nc, rfl⟩ := Mem.za1 IK.own
  have QK : Hid (Ik wZ w.heap.size S a len cap (.slice na Is.length nc) Is) := hide IK
  have GK := hide ((za G3).trans GG)
  have hIl : Is.length ≤ 121 := hK
  have hIl' : Is.length ≤ 200 := by omega
  clear IK GG hK HC Q3 G3
  go_wp2_with fail
  obtain ⟨g, rfl⟩ : ∃ g, na = some ⟨g, 0, none⟩ := by
   rcases (za QK).own.2 with ⟨_, h0⟩ | ⟨g, c, cur, e, -⟩
   ·exact absurd h0 (by omega)
   ·injection e with e1; exact ⟨g, e1⟩
  refine (zk3 S a len cap 25 _ (za QK).src (by omega)).mono ?_
  rintro e w5 ⟨r5, rfl, s5, g5⟩
  have Q5 := hide ((za QK).call s5 g5)
  have G5 := hide ((za GK).trans (Gb.of g5))
  clear QK GK s5 g5
  cases r5
  ·go_wp2
   go_ret
   exact ⟨_, nc, Is, by omega, rfl, za Q5, zr6 (za G5)⟩
  ·go_wp2_with fail
   refine (zd9 S a len cap 3 _ (za Q5).src (by omega)).mono ?_
   rintro e w6 ⟨r6, rfl, q0, q1, s6, g6⟩
   have Q6 := hide ((za Q5).call s6 g6)
   have G6 := hide ((za G5).trans (Gb.of g6))
   clear Q5 G5 s6 g6
   rcases (show r6 = 0 ∨ r6 = 1 ∨ r6 = 2 by omega) with rfl | rfl | rfl
   ·go_wp2_with fail
    refine (zd9 S a len cap 6 _ (za Q6).src (by omega)).mono ?_
    rintro e w7 ⟨r7, rfl, p0, p1, s7, g7⟩
    have Q7 := hide ((za Q6).call s7 g7)
    have G7 := hide ((za G6).trans (Gb.of g7))
    obtain ⟨x, Xs, rfl⟩ : ∃ x Xs, Is = x :: Xs := by
     cases Is with
     | nil => simp at hI1
     | cons x Xs => exact ⟨x, Xs, rfl⟩
    obtain ⟨cc, ff⟩ := ik_cell (za Q7)
    have hix : (0 : Int) < ((x :: Xs).length : Int) := by omega
    clear Q6 G6 s7 g7
    go_wp2
    go_ret
    exact ⟨_, nc, ⟨r7, x.t⟩ :: Xs, by simpa using hIl', rfl, ik_many (za Q7) r7 (by omega), zr6 ((za G7).put (ik_lo (za Q7)) 0 _)⟩
   ·have KF := hide ((za Q6).alloc (.cells #[.int .i64 0, .slice none 0 0] 38))
    have KD := hide (zx5 (W := w6.alloc (.cells #[.int .i64 0, .slice none 0 0] 38)) w.heap.size (.slice (some ⟨g, 0, none⟩) Is.length nc) 0 (by omega))
    go_wp2_with (at_builtin; refine Mem.zb0 _ rfl _ _ 23 rfl w.heap.size 38 i0 (.agg #[.int .i64 0, .slice none 0 0]) 2 32 Tryz.underlying23 hi hz0 hz1 hz2 rfl (by decide) _ _ _ rfl (za KF).own ⟨w6.heap.size, 0, none⟩ 1 1 [.int .i64 0, .slice none 0 0] rfl rfl (zj0 _ _ _ _) (zk1 _ _ _ _) (by unfold maxLen; omega) (by omega) (za KF).hi ?_)
    ·intro v' w7 own' gr far
     have KE := (za KF).app (Js := [⟨0, ⟨none, 0, []⟩⟩]) gr (by rw [List.length_append, Pl.zg0]; exact own') (by simpa using far) (fun x hx => by cases List.mem_singleton.1 hx; exact za KD)
     have GE := hide (((za G6).alloc _).trans (Gb.own (S := S) gr (fun g hg => (World.ownsRow.lt (za KF).own g hg).1)))
     obtain ⟨nb, nd, rfl⟩ := Mem.za1 KE.own
     have KE := hide KE
     clear own' gr far KF KD G6 Q6
     go_wp2
     go_ret
     exact ⟨nb, nd, Is ++ [⟨0, ⟨none, 0, []⟩⟩], by rw [List.length_append]; show Is.length + 1 ≤ 200; omega, rfl, za KE, zr6 (za GE)⟩
   ·have K2 := (za Q6).alloc (.cells #[.int .i64 1, .slice none 0 0, .int .i64 1, .slice none 0 0] 38)
    have KF : Hid (Ik (w6.alloc (.cells #[.int .i64 1, .slice none 0 0, .int .i64 1, .slice none 0 0] 38)) w.heap.size S a len cap (.slice (some ⟨w6.heap.size, 0, none⟩) 2 2) [⟨1, ⟨none, 0, []⟩⟩, ⟨1, ⟨none, 0, []⟩⟩]) := hide
     ⟨K2.lo, K2.hi, K2.src, ⟨rfl, .inr ⟨w6.heap.size, 2, _, rfl, (za Q6).hi, heap_alloc_new _ _, Nat.le_refl _, by decide, rfl, rfl⟩⟩, fun x hx => by
      simp only [List.mem_cons, List.not_mem_nil, or_false, or_self] at hx
      subst hx
      exact zx5 _ _ _ (by omega)⟩
    have CI := hide (fun j u hj => World.ownsRow.cells K2.own (g := g) rfl j u hj)
    have KX : Hid (∀ x ∈ Is, Di (w6.alloc (.cells #[.int .i64 1, .slice none 0 0, .int .i64 1, .slice none 0 0] 38)) w.heap.size (.slice (some ⟨w6.heap.size, 0, none⟩) 2 2) x) := fun x hx => by
     have h := K2.each x hx
     refine ⟨h.tree, h.len, h.ok, h.many, fun q o e e2 => ?_⟩
     have h1 := ((za Q6).each x hx).tree.blk q o e
     have e3 : w6.heap.size = q := Option.some.inj e2
     omega
    clear K2
    go_wp2_with (at_builtin; refine Mem.zb0 _ rfl _ _ 23 rfl w.heap.size 38 i0 (.agg #[.int .i64 0, .slice none 0 0]) 2 32 Tryz.underlying23 hi hz0 hz1 hz2 rfl (by decide) _ _ _ rfl (za KF).own ⟨g, 0, none⟩ Is.length nc (Pl.zb9 Is) rfl (Pl.zp3 Is) (za CI) (Pl.zv5 Is) (by unfold maxLen; show 2 + Is.length ≤ _; omega) (by show (2 + Is.length) * 32 ≤ _; omega) (za KF).hi ?_)
    ·intro v' w7 own' gr far
     have KE := (za KF).app (Js := Is) gr (by rw [List.length_append, Pl.zg0]; exact own') (by simpa using far) (za KX)
     have GE := hide (((za G6).alloc _).trans (Gb.own (S := S) gr (fun g hg => (World.ownsRow.lt (za KF).own g hg).1)))
     obtain ⟨nb, nd, rfl⟩ := Mem.za1 KE.own
     have KE := hide KE
     clear own' gr far KF KX CI G6 Q6
     go_wp2
     go_ret
     exact ⟨nb, nd, [⟨1, ⟨none, 0, []⟩⟩, ⟨1, ⟨none, 0, []⟩⟩] ++ Is, by rw [List.length_append]; show 2 + Is.length ≤ 200; omega, rfl, za KE, zr6 (za GE)⟩
end WSrc
end Go.Proofs.YtfdbokipgofcdaaGreatDoor

