/- Several texts of one claim in one file: MemLess, WSpI18, WSpI19, WSpS1. -/
import Derived.Test.YtonffldjbmednaaGreatDoorG17
import Derived.Maps.Ext
import Derived.Maps.Keyed
import Derived.ChangeMaps
import Derived.Test.YtonffldjbmednaaGreatDoorG25
import Derived.Test.YtonffldjbmednaaGreatDoorG35
import Derived.Test.YtonffldjbmednaaGreatDoorWSpI8
import Derived.Test.YtonffldjbmednaaGreatDoorWTold
import Derived.Test.YtonffldjbmednaaGreatDoorG33
import Derived.Test.YtonffldjbmednaaGreatDoorG00
import Derived.Test.YtonffldjbmednaaGreatDoorG02
import Derived.Test.YtonffldjbmednaaGreatDoorG07
import Derived.Test.YtonffldjbmednaaGreatDoorProg
import Derived.Outline
import Derived.Deep.QuietTactic
import Derived.BigQuiet
namespace Go.Proofs.YtonffldjbmednaaGreatDoor
open Go.RowKit Go.Maps
namespace Mem
structure Out (lo hi X : Nat) (w w' : World) : Prop where
 os : w'.os = w.os
 tape : w'.tape = w.tape
 output : w'.output = w.output
 size : w.heap.size ≤ w'.heap.size
 block : ∀ b, b < w.heap.size → b ≠ X → b < lo ∨ hi ≤ b → w'.heap[b]? = w.heap[b]?
theorem Out.below {lo hi X : Nat} {w w' : World} (h : Out lo hi X w w') (hX : lo ≤ X) (hw : lo ≤ w.heap.size) : Below lo w w' := ⟨h.os, h.tape, h.output, h.size, fun b hb => h.block b (by omega) (by omega) (.inl hb)⟩
theorem Out.blk {lo hi X : Nat} {w w' : World} (h : Out lo hi X w w') {Y : Nat} {cs : Array Value} {T : TypeId} (b : Blk w Y cs T) (hY : Y ≠ X) (hl : Y < lo ∨ hi ≤ Y) : Blk w' Y cs T := (h.block Y b.lt hY hl).trans b
theorem own3_base {α : Type} {T : TypeId} {cs : α → List Value} {w : World} {B S : Nat} {v : Value} {L : List α} (h : own3 T cs w B v L) (hS : ∀ g, v.ownBlock = some g → S ≤ g) : own3 T cs w S v L := by
 refine ⟨h.1, ?_⟩
 rcases h.2 with h0 | ⟨g, cap, cur, rfl, hb, rest⟩
 ·exact .inl h0
 ·exact .inr ⟨g, cap, cur, rfl, hS g rfl, rest⟩
theorem ze0.filter {w : World} {B : Nat} (f : Int → Bool) : ∀ (E : List (Int × Pl.Nv)) (N : List Pl.Ns), ze0 w B E N → E.map (·.1) = N.map (·.d) → ze0 w B (E.filter (fun x => f x.1)) (N.filter (fun x => f x.d)) := by
 intro E
 induction E with
 | nil => intro N h e i y hy; simp at hy
 | cons a E ih =>
  intro N h e
  cases N with
  | nil => simp at e
  | cons b N =>
   rw [List.map_cons, List.map_cons, List.cons.injEq] at e
   have h2 : ze0 w B E N := fun i y hy => h (i + 1) y (by simpa using hy)
   have h3 := ih N h2 e.2
   rw [List.filter_cons, List.filter_cons, ← e.1]
   cases f a.1 with
   | false => exact h3
   | true =>
    intro i y hy
    cases i with
    | zero => exact h 0 y (by simpa using hy)
    | succ i => exact h3 i y (by simpa using hy)
theorem filt_pair (f : Int → Bool) : ∀ (E : List (Int × Pl.Nv)) (N : List Pl.Ns), E.map (·.1) = N.map (·.d) → (E.filter (fun x => f x.1)).map (·.1) = (N.filter (fun x => f x.d)).map (·.d) := by
 intro E
 induction E with
 | nil => intro N e; cases N with | nil => rfl | cons b N => simp at e
 | cons a E ih =>
  intro N e
  cases N with
  | nil => simp at e
  | cons b N =>
   rw [List.map_cons, List.map_cons, List.cons.injEq] at e
   have h3 := ih N e.2
   rw [List.filter_cons, List.filter_cons, ← e.1]
   cases f a.1 with
   | false => exact h3
   | true => simp only [if_true, List.map_cons, h3, e.1]
end Mem
namespace SpO
theorem SpV.less {B : Nat} {V W' : World} {s : Pl.Sp} {q : Nat} {E : List (Int × Pl.Nv)} {ma : Option Addr} {mc : Nat} {ha : Option Addr} {hc : Nat} (h : SpV B V s q E ma mc ha hc) (f : Int → Bool) {M' : List Pl.Mn} {H' : List Pl.Hn} {ma' ha' : Option Addr} {mc' hc' B1 B2 : Nat}
  (hs : V.heap.size ≤ W'.heap.size) (gb : ∀ b, b < V.heap.size → b ≠ q → (Value.slice ma s.M.length mc).ownBlock ≠ some b → (Value.slice ha s.H.length hc).ownBlock ≠ some b → W'.heap[b]? = V.heap[b]?)
  (oM : Mem.own3 50 Pl.Mn.cs W' B1 (.slice ma' M'.length mc') M') (bM : ∀ g, (Value.slice ma' M'.length mc').ownBlock = some g → (Value.slice ma s.M.length mc).ownBlock = some g)
  (oH : Mem.own3 87 Pl.Hn.cs W' B2 (.slice ha' H'.length hc') H') (bH : ∀ g, (Value.slice ha' H'.length hc').ownBlock = some g → (Value.slice ha s.H.length hc).ownBlock = some g)
  (mo : W'.ownsMap Tryz.prog 2 MapI.elem q 12 (MapI.mapOf (Pl.vals (E.filter (fun x => f x.1))))) (u : Pl.Sp) (uN : u.N = s.N.filter (fun x => f x.d)) (uM : u.M = M') (uH : u.H = H') :
  SpV B W' u q (E.filter (fun x => f x.1)) ma' mc' ha' hc' := by
 subst uM
 subst uH
 obtain ⟨h1, h2, h3, ⟨W1, h4, h5, h6, h7, h8, h9⟩, h10⟩ := h
 refine ⟨h1, by rw [uN]; exact Mem.filt_pair f E s.N h2, mo, ⟨W1, by rw [uN]; exact Mem.ze0.filter f E s.N h4 h2, Nat.le_trans h5 hs, h6, fun b hb hl => ?_, Mem.own3_base oM (fun g hg => (Mem.za5 h8 g (bM g hg)).1), Mem.own3_base oH (fun g hg => (Mem.za5 h9 g (bH g hg)).1)⟩, fun g hg hg2 => h10 g (bM g hg) (bH g hg2)⟩
 refine (gb b (by omega) (by omega) (fun e => ?_) (fun e => ?_)).trans (h7 b hb hl)
 ·have := (Mem.za5 h8 b e).1; omega
 ·have := (Mem.za5 h9 b e).1; omega
theorem SpV.where' {B : Nat} {V : World} {s : Pl.Sp} {q : Nat} {E : List (Int × Pl.Nv)} {ma : Option Addr} {mc : Nat} {ha : Option Addr} {hc : Nat} (h : SpV B V s q E ma mc ha hc) :
  (∀ g, (Value.slice ma s.M.length mc).ownBlock = some g → B ≤ g ∧ g < V.heap.size ∧ g ≠ q) ∧ (∀ g, (Value.slice ha s.H.length hc).ownBlock = some g → B ≤ g ∧ g < V.heap.size ∧ g ≠ q) ∧ Mem.own3 50 Pl.Mn.cs V B (.slice ma s.M.length mc) s.M ∧ Mem.own3 87 Pl.Hn.cs V B (.slice ha s.H.length hc) s.H := by
 obtain ⟨h1, h2, h3, ⟨W1, h4, h5, h6, h7, h8, h9⟩, h10⟩ := h
 refine ⟨fun g hg => ?_, fun g hg => ?_, Mem.zg5 h8 (by omega), Mem.zg5 h9 (by omega)⟩
 ·have := Mem.za5 h8 g hg
  exact ⟨by omega, this.2, by omega⟩
 ·have := Mem.za5 h9 g hg
  exact ⟨by omega, this.2, by omega⟩
end SpO
end Go.Proofs.YtonffldjbmednaaGreatDoor

set_option linter.unusedSimpArgs false
namespace Go.Proofs.YtonffldjbmednaaGreatDoor
open Go.RowKit Go.Maps
namespace WSpI
theorem delH_eq (H : List Pl.Hn) (d : Int) : H.filter (fun x => !(fun h : Pl.Hn => decide (h.d = d)) x) = Pl.delH H d := rfl
set_option maxRecDepth 100000 in
set_option maxHeartbeats 800000 in
theorem shut1_any (t : Pl.Hn) (d : Int) (X : Nat) (w : World) (hX : Mem.Blk w X #[.int .i64 d] 2) :
  Calls Tryz.prog 100 #[.agg #[.int .i64 t.d, .int .i64 t.i, .string t.p], .pointer (some ⟨X, 0, none⟩)] w fun e w' => e = .returned (.bool (decide (t.d = d))) ∧ Below w.heap.size w w' := by
 have b0 := (Below.refl w.heap.size w).alloc (o := .cells #[.int .i64 t.d, .int .i64 t.i, .string t.p] 87) (Nat.le_refl _)
 have a0 := (Mem.Blk.new w #[.int .i64 t.d, .int .i64 t.i, .string t.p] 87).cell 0
 have y0 := (hX.alloc (.cells #[.int .i64 t.d, .int .i64 t.i, .string t.p] 87)).cell 0
 simp only [kGs] at a0 y0
 clear hX
 by_cases h : t.d = d
 ·have h1 : (t.d == d) = true := by simpa using h
  rw [decide_eq_true h]
  clear h
  go_enter Tryz.func100, Tryz.ntmps100
  go_wp2
  go_ret
  exact ⟨rfl, b0⟩
 ·have h1 : (t.d == d) = false := by simpa using h
  rw [decide_eq_false h]
  clear h
  go_enter Tryz.func100, Tryz.ntmps100
  go_wp2
  go_ret
  exact ⟨rfl, b0⟩
def keepF (M : List Pl.Mn) (H : List Pl.Hn) (d : Int) : Bool := !decide (Pl.held M H d = 0)
set_option maxRecDepth 100000 in
set_option maxHeartbeats 4000000 in
theorem shut_any (s : Pl.Sp) (q : Nat) (E : List (Int × Pl.Nv)) (sa ta : Option Addr) (sc tc B X : Nat) (d : Int) (V w : World) (hG : SpO.SpV B V s q E sa sc ta tc) (hb : Below V.heap.size V w) (hXV : V.heap.size ≤ X)
  (hX : Mem.Blk w X #[.map (some q), .slice sa s.M.length sc, .slice ta s.H.length tc, .int .i64 s.next] 59) (hM : s.M.length ≤ 6) (hH : s.H.length ≤ 6) (hrise : (s.N.map (·.d)).Pairwise (· < ·)) (hi64 : ∀ d ∈ s.N.map (·.d), MapI.i64 d) :
  Calls Tryz.prog 54 #[.pointer (some ⟨X, 0, none⟩), .int .i64 d] w fun e w' => e = .returned (.tuple #[]) ∧ ∃ ta' tc', Mem.Blk w' X #[.map (some q), .slice sa s.M.length sc, .slice ta' (Pl.delH s.H d).length tc', .int .i64 s.next] 59 ∧
   SpO.SpV B w' ⟨s.ia, s.ic, s.N.filter (fun x => keepF s.M (Pl.delH s.H d) x.d), s.ma, s.mc, s.M, s.ha, s.hc, Pl.delH s.H d, s.next⟩ q (E.filter (fun x => keepF s.M (Pl.delH s.H d) x.1)) sa sc ta' tc' ∧ Mem.Out B V.heap.size X w w' := by
 obtain ⟨wM, wH, oM, oH⟩ := hG.where'
 have hids := hG.ids
 have hlo := hG.lo
 have hqV : q < V.heap.size := hG.mo.lt
 have hE : E.Pairwise (fun a b => a.1 ≠ b.1) := by
  rw [← List.pairwise_map (f := fun x : Int × Pl.Nv => x.1) (R := fun a b => a ≠ b), hids]
  exact hrise.imp (fun h => by omega)
 have b1 : Below w.heap.size w (w.alloc (.cells #[.int .i64 d] 2)) := (Below.refl _ _).alloc (Nat.le_refl _) _
 have hVs := hb.size
 have X1 := hide (hX.call b1)
 have Y1 := hide (Mem.Blk.new w #[.int .i64 d] 2)
 have hXw := hX.lt
 have HD := hide (fun W (b : Below (w.alloc (.cells #[.int .i64 d] 2)).heap.size (w.alloc (.cells #[.int .i64 d] 2)) W) => delH_any 100 (.pointer (some ⟨w.heap.size, 0, none⟩)) (fun h => decide (h.d = d)) ta tc s.H B W hH (Mem.zc0 (Mem.zc0 oH (hb.trans (b1.mono hVs))) b) (fun t W => by kernel_rfl) (fun t _ W' g => shut1_any t d w.heap.size W' ((((Mem.Blk.new w #[.int .i64 d] 2).call b).grown g (fun e => by have := (wH _ e.symm).2.1; omega)))))
 have hmf : ∀ (fn : Fn) (first cap : Array Value) (w : World), (Instr.makeFunc fn first cap).run Tryz.prog w = .ok (.func fn first cap) w := fun _ _ _ _ => rfl
 have x2 := (za X1).cell 2
 have fx2 := (za X1).fr 2
 simp only [kGs] at x2
 have HG := hide hG
 have HWM := hide wM
 have HWH := hide wH
 have HOM := hide oM
 have HE := hide hE
 have HI := hide hi64
 have HB0 := hide hb
 have HIDS := hide hids
 clear hX hG wM wH oM oH hE hi64 hb hids
 go_enter Tryz.func54, Tryz.ntmps54
 go_wp2_with fail
 generalize w.alloc (.cells #[.int .i64 d] 2) = w1 at b1 X1 Y1 HD x2 fx2 ⊢
 refine (za HD _ (Below.refl _ _)).mono ?_
 rintro e w3 ⟨ta', tc', rfl, oH3, bH, g3⟩
 rw [delH_eq] at oH3 bH ⊢
 have hXH : ∀ g, (Value.slice ta s.H.length tc).ownBlock = some g → B ≤ g ∧ g < V.heap.size ∧ g ≠ q := za HWH
 have X3 := hide ((za X1).grown g3 (fun e => by have := (hXH _ e.symm).2.1; omega))
 have x2 := (za X3).cell 2
 have fx2 := (za X3).fr 2
 simp only [kGs] at x2
 have X4 := hide ((za X3).put 2 (.slice ta' (Pl.delH s.H d).length tc'))
 have gW : ∀ b, b < V.heap.size → (Value.slice ta s.H.length tc).ownBlock ≠ some b → (w3.setCell ⟨X, 2, none⟩ (.slice ta' (Pl.delH s.H d).length tc')).heap[b]? = V.heap[b]? := fun b hb hne => by
  rw [heap_setCell_other _ _ _ _ (by show b ≠ X; omega), g3.block b (by have := b1.size; omega) (fun e => hne e.symm), b1.block b (by omega), (za HB0).block b hb]
 have hs3 := g3.size
 have hs1 := b1.size
 have oM4 : Mem.own3 50 Pl.Mn.cs (w3.setCell ⟨X, 2, none⟩ (.slice ta' (Pl.delH s.H d).length tc')) B (.slice sa s.M.length sc) s.M := Mem.zc9 (za HOM) (fun g hg => gW g (za HWM g hg).2.1 (fun e => (za HG).ne g hg e))
 have oH4 : Mem.own3 87 Pl.Hn.cs (w3.setCell ⟨X, 2, none⟩ (.slice ta' (Pl.delH s.H d).length tc')) B (.slice ta' (Pl.delH s.H d).length tc') (Pl.delH s.H d) := Mem.za9 oH3 _ _ (fun g hg => by have := (hXH g (bH g hg)).2.1; show X ≠ g; omega)
 have mo4 : (w3.setCell ⟨X, 2, none⟩ (.slice ta' (Pl.delH s.H d).length tc')).ownsMap Tryz.prog 2 MapI.elem q 12 (MapI.mapOf (Pl.vals E)) := by
  obtain ⟨es, cl, hq, rest⟩ := (za HG).mo
  exact ⟨es, cl, (gW q hqV (fun e => (hXH q e).2.2 rfl)).trans hq, rest⟩
 have HDR := hide (drop_any X q E 12 sa sc s.M ta' tc' (Pl.delH s.H d) s.next _ (by omega) (Nat.le_trans (List.length_filter_le _ _) (by omega)) (by
  obtain ⟨a, c, e, h, _⟩ := Mem.zf7 Pl.Mn.three oM4
  cases e
  exact Mem.zj3 h) (by
  obtain ⟨a, c, e, h, _⟩ := Mem.zf7 Pl.Hn.three oH4
  cases e
  exact Mem.zf5 h) (za X4) (za HE) (by rw [za HIDS]; exact za HI) mo4)
 have HO4 : Hid (Mem.Out B V.heap.size X w (w3.setCell ⟨X, 2, none⟩ (.slice ta' (Pl.delH s.H d).length tc'))) := hide ⟨g3.os.trans b1.os, g3.tape.trans b1.tape, g3.output.trans b1.output, by rw [World.size_setCell]; omega, fun b hb hne hor => by
  rw [heap_setCell_other _ _ _ _ (by show b ≠ X; omega), g3.block b (by omega) (fun e => by have := hXH b e.symm; omega), b1.block b hb]⟩
 have HGW := hide gW
 have HM4 := hide oM4
 have HH4 := hide oH4
 have HBH := hide bH
 have hs4 : w3.heap.size = (w3.setCell ⟨X, 2, none⟩ (.slice ta' (Pl.delH s.H d).length tc')).heap.size := by rw [World.size_setCell]
 clear gW oM4 oH4 mo4 bH oH3 X1 Y1 HD hXH g3 b1 HB0 HI HE HOM X3 HIDS
 go_wp2_with fail
 generalize w3.setCell ⟨X, 2, none⟩ (.slice ta' (Pl.delH s.H d).length tc') = w4 at HO4 HGW HM4 HH4 HDR X4 hs4 ⊢
 refine (za HDR).mono ?_
 rintro e w5 ⟨rfl, mo5, g5⟩
 have hXH := za HWH
 have hXM := za HWM
 have X5 := hide ((za X4).grown g5 (fun e => by have := Option.some.inj e; omega))
 have hs5 := g5.size
 have gW : ∀ b, b < V.heap.size → b ≠ q → (Value.slice ta s.H.length tc).ownBlock ≠ some b → w5.heap[b]? = V.heap[b]? := fun b hb hq hne => (g5.block b (by omega) (fun e => hq (Option.some.inj e))).trans (za HGW b hb hne)
 have hGn := (za HG).ne
 have S5 := hide ((za HG).less (keepF s.M (Pl.delH s.H d)) (W' := w5) (M' := s.M) (H' := Pl.delH s.H d) (ma' := sa) (mc' := sc) (ha' := ta') (hc' := tc') (B1 := B) (B2 := B) (by omega) (fun b hb hq _ hne => gW b hb hq hne)
  (Mem.zc9 (za HM4) (fun g hg => by have := hXM g hg; exact g5.block g (by omega) (fun e => by have := Option.some.inj e; omega))) (fun g hg => hg)
  (Mem.zc9 (za HH4) (fun g hg => by have := hXH g (za HBH g hg); exact g5.block g (by omega) (fun e => by have := Option.some.inj e; omega))) (za HBH) mo5 ⟨s.ia, s.ic, s.N.filter (fun x => keepF s.M (Pl.delH s.H d) x.d), s.ma, s.mc, s.M, s.ha, s.hc, Pl.delH s.H d, s.next⟩ rfl rfl rfl)
 have HO5 : Hid (Mem.Out B V.heap.size X w w5) := by
  have h := za HO4
  exact hide ⟨g5.os.trans h.os, g5.tape.trans h.tape, g5.output.trans h.output, Nat.le_trans h.size g5.size, fun b hb hne hor => (g5.block b (Nat.lt_of_lt_of_le hb h.size) (fun e => by have := Option.some.inj e; omega)).trans (h.block b hb hne hor)⟩
 clear gW hGn hXH hXM HDR HG HGW HM4 HH4 HBH HO4 X4 mo5 g5 HWH HWM
 go_wp2
 go_end0
 exact ⟨rfl, ta', tc', za X5, za S5, za HO5⟩
end WSpI
end Go.Proofs.YtonffldjbmednaaGreatDoor

namespace Go.Proofs.YtonffldjbmednaaGreatDoor
open Go.RowKit Go.Maps
namespace WSpI
theorem keep_map (N : List Pl.Ns) (M : List Pl.Mn) (H : List Pl.Hn) : (N.filter (fun x => keepF M H x.d)).map Pl.Ns.r = Pl.keepN (N.map Pl.Ns.r) M H := by
 unfold Pl.keepN
 rw [List.filter_map]
 rfl
set_option linter.unusedSimpArgs false in
set_option maxRecDepth 100000 in
set_option maxHeartbeats 4000000 in
theorem close_any (s : Pl.Sp) (d : Int) (w : World) (hok : zb.OkS s 1048576) (hn : OkN s) (ha : OkA s) (hv : Mem.zc3 w s)
  (hV : ∀ (r : Nat) t, codes[r]? = some t → w.cell? ⟨0, r, none⟩ = some (.int .i64 t))
  (r0 r1 r2 r3 : TypeId) (x0 x1 x2 x3 : Value) (hE : zl4.Errs4 w r0 r1 r2 r3 x0 x1 x2 x3) (A : Pl.Ao) (hA : Pl.zg8 s d (Pl.ze9 s.next (s.N.map WSp.nr) s.M s.H Pl.wayB) = A) :
  Calls Tryz.prog 21 #[.agg s.cs, .int .i64 d] w fun e w' => (∃ u S1 S2 S3 HH lo hi, e = .returned (.agg (WSpO.so u A.d A.p A.c)) ∧ WSpO.An w' u S1 S2 S3 HH lo hi ∧ w.heap.size ≤ S1 ∧ Pl.Fits u A) ∧ Below w.heap.size w w' := by
 have HX := hide (fun W (b : Below w.heap.size w W) => zx8 s W hok hn ha (hv.call b) r0 r1 r2 r3 x0 x1 x2 x3 (hE.call b))
 have HRF := hide (fun i c W (hc : codes[i]? = some c) (b : Below w.heap.size w W) => refused_any i c W hc (zq0 hV b))
 have HSM := hide (fun (h : Pl.ze9 s.next (s.N.map WSp.nr) s.M s.H Pl.wayB = true) => Pl.zs8 h)
 rw [Pl.space_same] at HX
 generalize HQ : Pl.ze9 s.next (s.N.map WSp.nr) s.M s.H Pl.wayB = RB at HX HSM hA
 have hHl : s.H.length ≤ 1048576 := hok.h
 have hmp := hide hok.mp
 have hhp := hide hok.hp
 have HAT : Hid (RB = true → ¬ Pl.zd3 s.H d < 0 → A = ⟨Pl.keepN (s.N.map Pl.Ns.r) s.M (Pl.delH s.H d), s.M, Pl.delH s.H d, s.next, 0, ⟨#[]⟩, 0⟩) := hide (fun h1 h2 => by rw [← hA]; unfold Pl.zg8; rw [h1, if_neg (by decide), if_neg h2])
 have HA6 : Hid (RB = true → Pl.zd3 s.H d < 0 → A = Pl.Ao.ill 6) := hide (fun h1 h2 => by rw [← hA]; unfold Pl.zg8; rw [h1, if_neg (by decide), if_pos h2])
 have HA1 : Hid (RB = false → A = Pl.Ao.ill 1) := hide (fun h1 => by rw [← hA]; unfold Pl.zg8; rw [h1, if_pos rfl])
 clear hok hn ha hv hV hE hA HQ
 have HS0 : Hid (∀ V q E sa sc ta tc B W X, SpO.SpV B V s q E sa sc ta tc → RB = true → Below V.heap.size V W → V.heap.size ≤ X → Mem.Blk W X #[.map (some q), .slice sa s.M.length sc, .slice ta s.H.length tc, .int .i64 s.next] 59 → Calls Tryz.prog 54 #[.pointer (some ⟨X, 0, none⟩), .int .i64 d] W fun e w' => e = .returned (.tuple #[]) ∧ ∃ ta' tc', Mem.Blk w' X #[.map (some q), .slice sa s.M.length sc, .slice ta' (Pl.delH s.H d).length tc', .int .i64 s.next] 59 ∧ Hid (∀ W, Below w'.heap.size w' W → Calls Tryz.prog 34 #[.agg #[.map (some q), .slice sa s.M.length sc, .slice ta' (Pl.delH s.H d).length tc', .int .i64 s.next]] W fun e w' => (∃ u S1 S2 S3 lo hi, e = .returned (.agg u.cs) ∧ SpO.Told W w' ⟨s.ia, s.ic, s.N.filter (fun x => keepF s.M (Pl.delH s.H d) x.d), s.ma, s.mc, s.M, s.ha, s.hc, Pl.delH s.H d, s.next⟩ u S1 S2 S3 lo hi) ∧ Below W.heap.size W w') ∧ Mem.Out B V.heap.size X W w') := hide (fun V q E sa sc ta tc B W X hG hR b hX hB => by
  obtain ⟨k1, k2, k3, k4, k5, k6, -⟩ := za HSM hR
  have hi : ∀ d ∈ s.N.map (·.d), MapI.i64 d := fun d hd => by have := k6 d hd; unfold MapI.i64; omega
  refine (shut_any s q E sa ta sc tc B X d V W hG b hX hB k2 k3 k5 hi).mono ?_
  rintro e w' ⟨rfl, ta', tc', h1, h2, h3⟩
  have hsub : (s.N.filter (fun x => keepF s.M (Pl.delH s.H d) x.d)).Sublist s.N := List.filter_sublist
  refine ⟨rfl, ta', tc', h1, hide (fun W bW => ?_), h3⟩
  have hS := h2.call bW
  exact told_any ⟨s.ia, s.ic, s.N.filter (fun x => keepF s.M (Pl.delH s.H d) x.d), s.ma, s.mc, s.M, s.ha, s.hc, Pl.delH s.H d, s.next⟩ q _ sa ta' sc tc' B W hS (Nat.le_trans hsub.length_le k1) k2 (Nat.le_trans (List.length_filter_le _ _) k3) (k5.sublist (hsub.map _)) (fun d hd => hi d ((hsub.map _).subset hd)) (fun x hx => (k4 x (hsub.subset hx)).1) (za hmp) (fun m hm => za hhp m (List.mem_filter.1 hm).1))
 clear HSM hmp hhp
 obtain ⟨ia, ic, N, ma, mc, M, ha, hc, H, next⟩ := s
 simp only at HX HS0 HAT HA6 hHl ⊢
 unfold Pl.Sp.cs at HX ⊢
 simp only at HX ⊢
 unfold Spaced at HX
 simp only at HX
 have b0 : Below w.heap.size w ((w.alloc (.cells #[.slice ia N.length ic, .slice ma M.length mc, .slice ha H.length hc, .int .i64 next] 32)).alloc (.cells #[Value.slice none 0 0, Value.slice none 0 0, Value.slice none 0 0, Value.int .i64 0, Value.int .i64 0, Value.string ⟨#[]⟩, Value.int .i64 0] 34)) := ((Below.refl _ _).alloc (Nat.le_refl _) _).alloc (by simp) _
 have V0 := hide ((Mem.Blk.new w #[.slice ia N.length ic, .slice ma M.length mc, .slice ha H.length hc, .int .i64 next] 32).alloc (.cells #[Value.slice none 0 0, Value.slice none 0 0, Value.slice none 0 0, Value.int .i64 0, Value.int .i64 0, Value.string ⟨#[]⟩, Value.int .i64 0] 34))
 have U0 := hide (Mem.Blk.new (w.alloc (.cells #[.slice ia N.length ic, .slice ma M.length mc, .slice ha H.length hc, .int .i64 next] 32)) #[Value.slice none 0 0, Value.slice none 0 0, Value.slice none 0 0, Value.int .i64 0, Value.int .i64 0, Value.string ⟨#[]⟩, Value.int .i64 0] 34)
 have hsz : ((w.alloc (.cells #[.slice ia N.length ic, .slice ma M.length mc, .slice ha H.length hc, .int .i64 next] 32)).alloc (.cells #[Value.slice none 0 0, Value.slice none 0 0, Value.slice none 0 0, Value.int .i64 0, Value.int .i64 0, Value.string ⟨#[]⟩, Value.int .i64 0] 34)).heap.size = w.heap.size + 2 := by simp
 rw [show (w.alloc (.cells #[.slice ia N.length ic, .slice ma M.length mc, .slice ha H.length hc, .int .i64 next] 32)).heap.size = w.heap.size + 1 by simp] at U0
 have a0 := (za V0).cell 0
 have a1 := (za V0).cell 1
 have a2 := (za V0).cell 2
 have a3 := (za V0).cell 3
 simp only [kGs] at a0 a1 a2 a3
 go_enter Tryz.func21, Tryz.ntmps21
 go_wp2_with fail
 generalize (w.alloc (.cells #[.slice ia N.length ic, .slice ma M.length mc, .slice ha H.length hc, .int .i64 next] 32)).alloc (.cells #[Value.slice none 0 0, Value.slice none 0 0, Value.slice none 0 0, Value.int .i64 0, Value.int .i64 0, Value.string ⟨#[]⟩, Value.int .i64 0] 34) = wA at b0 V0 U0 a0 a1 a2 a3 hsz ⊢
 refine (za HX _ b0).mono ?_
 rintro e w1 ⟨hS, bX⟩
 have b1 := b0.trans (bX.mono b0.size)
 have U1 := hide ((za U0).call bX)
 have hA1 := bX.size
 clear HX bX V0 a0 a1 a2 a3 b0 U0
 rcases hS with ⟨hR, q, E, sa, sc, ta, tc, rfl, HS⟩ | ⟨hR, q, sa, sl, sc, ta, tl, tc, n, rfl⟩
 ·have HAT := hide (za HAT hR)
  have HA6 := hide (za HA6 hR)
  have HS1 := hide (fun W X => za HS0 w1 q E sa sc ta tc _ W X HS hR)
  have HHD := hide (fun W (b : Below w1.heap.size w1 W) => handle_any q sa M.length sc ta tc H next d W hHl (HS.call b).hands)
  clear HA1 HS0 hR HS
  have b2 : Below w1.heap.size w1 (w1.alloc (.cells #[Value.map (some q), Value.slice sa M.length sc, Value.slice ta H.length tc, Value.int .i64 next] 59)) := (Below.refl _ _).alloc (Nat.le_refl _) _
  have U2 := hide ((za U1).call b2)
  have X2 := hide (Mem.Blk.new w1 #[Value.map (some q), Value.slice sa M.length sc, Value.slice ta H.length tc, Value.int .i64 next] 59)
  have bw2 := b1.trans (b2.mono b1.size)
  have x0 := (za X2).cell 0
  have x1 := (za X2).cell 1
  have x2 := (za X2).cell 2
  have x3 := (za X2).cell 3
  simp only [kGs] at x0 x1 x2 x3
  clear U1 b1
  go_wp2_with fail
  generalize w1.alloc (.cells #[Value.map (some q), Value.slice sa M.length sc, Value.slice ta H.length tc, Value.int .i64 next] 59) = w2 at b2 U2 X2 bw2 x0 x1 x2 x3 ⊢
  refine (za HHD _ b2).mono ?_
  rintro e w3 ⟨⟨hx, hy, hz, rfl⟩, bX⟩
  have b3 := b2.trans (bX.mono b2.size)
  have bw3 := bw2.trans (bX.mono bw2.size)
  have U3 := hide ((za U2).call bX)
  have X3 := hide ((za X2).call bX)
  clear b2 bw2 U2 X2 bX HHD x0 x1 x2 x3
  have b4 : Below w3.heap.size w3 (w3.alloc (.cells #[.int .i64 hx, .int .i64 hy, .string hz] 87)) := (Below.refl _ _).alloc (Nat.le_refl _) _
  have U4 := hide ((za U3).call b4)
  have X4 := hide ((za X3).call b4)
  have bv4 := b3.trans (b4.mono b3.size)
  have bw4 := bw3.trans (b4.mono bw3.size)
  clear b3 bw3 U3 X3 b4
  by_cases hneg : Pl.zd3 H d < 0
  ·have HA := hide (za HA6 hneg)
   have hq : (!decide (Pl.zd3 H d < 0)) = false := by simp [hneg]
   rw [hq]
   have HC := hide (fun W b => za HRF 4 6 W rfl b)
   clear HAT HA6 HS1 hneg hq HRF bv4 X4
   go_wp2_with fail
   generalize w3.alloc (.cells #[.int .i64 hx, .int .i64 hy, .string hz] 87) = w4 at U4 bw4 ⊢
   refine (za HC _ bw4).mono ?_
   rintro e wR ⟨rfl, bX⟩
   have bR := bw4.trans (bX.mono bw4.size)
   have UR := hide ((za U4).call bX)
   clear bX
   have d0 := (za UR).cell 0
   have fd0 := (za UR).fr 0
   have d1 := (za UR).cell 1
   have fd1 := (za UR).fr 1
   have d2 := (za UR).cell 2
   have fd2 := (za UR).fr 2
   have d3 := (za UR).cell 3
   have fd3 := (za UR).fr 3
   have d4 := (za UR).cell 4
   have fd4 := (za UR).fr 4
   have d5 := (za UR).cell 5
   have fd5 := (za UR).fr 5
   have d6 := (za UR).cell 6
   have fd6 := (za UR).fr 6
   simp only [kGs] at d0 d1 d2 d3 d4 d5 d6
   go_wp2
   refine bodyPost_ret (v := .agg #[Value.slice none 0 0, Value.slice none 0 0, Value.slice none 0 0, Value.int .i64 0, Value.int .i64 0, Value.string ⟨#[]⟩, Value.int .i64 6]) (by simp [results, Tryz.results21, go_sem, d0, d1, d2, d3, d4, d5, d6]) rfl ⟨⟨⟨none, 0, [], none, 0, [], none, 0, [], 0⟩, _, _, _, _, _, _, by rw [za HA]; rfl, WSpO.An.nil _ w.heap.size ?_, Nat.le_refl _, by rw [za HA]; exact Pl.Fits.nil _⟩, ?_⟩
   ·simp only [World.size_setCell]; exact bR.size
   ·exact (((((((bR.setCell (p := ⟨w.heap.size + 1, 0, none⟩) (by show w.heap.size ≤ w.heap.size + 1; omega) (Value.slice none 0 0)).setCell (p := ⟨w.heap.size + 1, 1, none⟩) (by show w.heap.size ≤ w.heap.size + 1; omega) (Value.slice none 0 0)).setCell (p := ⟨w.heap.size + 1, 2, none⟩) (by show w.heap.size ≤ w.heap.size + 1; omega) (Value.slice none 0 0)).setCell (p := ⟨w.heap.size + 1, 3, none⟩) (by show w.heap.size ≤ w.heap.size + 1; omega) (Value.int .i64 0)).setCell (p := ⟨w.heap.size + 1, 4, none⟩) (by show w.heap.size ≤ w.heap.size + 1; omega) (Value.int .i64 0)).setCell (p := ⟨w.heap.size + 1, 5, none⟩) (by show w.heap.size ≤ w.heap.size + 1; omega) (Value.string ⟨#[]⟩)).setCell (p := ⟨w.heap.size + 1, 6, none⟩) (by show w.heap.size ≤ w.heap.size + 1; omega) (Value.int .i64 6))
  ·have HA := hide (za HAT (by omega))
   have hq : (!decide (Pl.zd3 H d < 0)) = true := by simp [hneg]
   rw [hq]
   clear HAT HA6 hneg hq HRF
   go_wp2_with fail
   generalize w3.alloc (.cells #[.int .i64 hx, .int .i64 hy, .string hz] 87) = w4 at U4 X4 bv4 bw4 ⊢
   refine (za HS1 _ _ bv4 (Nat.le_refl _) (za X4)).mono ?_
   rintro e w5 ⟨rfl, ta', tc', X5, HTO, O5⟩
   have X5 := hide X5
   have hU4 := (za U4).lt
   have U5 := hide (O5.blk (za U4) (by omega) (.inl (by omega)))
   have b5 := bw4.trans ((O5.below hA1 (by have := bw4.size; have := bv4.size; omega)).mono (by omega))
   clear HS1 U4 X4 bv4 bw4 O5
   have x0 := (za X5).cell 0
   have x1 := (za X5).cell 1
   have x2 := (za X5).cell 2
   have x3 := (za X5).cell 3
   simp only [kGs] at x0 x1 x2 x3
   go_wp2_with fail
   refine (za HTO _ (Below.refl _ _)).mono ?_
   rintro e wX ⟨⟨u, T1, T2, T3, lo, hi, rfl, HTD⟩, bX⟩
   have HFT := hide (⟨HTD.n, HTD.m, HTD.h, HTD.x⟩ : _ ∧ _ ∧ _ ∧ _)
   have hS1 : w.heap.size + 1 < min T1 wX.heap.size := by have := HTD.s1; have := bX.size; have := (za U5).lt; omega
   have HAN := hide (WSpO.An.ofT HTD)
   clear HTD
   have bF := hide (b5.trans (bX.mono b5.size))
   have UF := hide ((za U5).call bX)
   clear bX
   generalize min T1 wX.heap.size = S1 at HAN hS1
   generalize min T2 wX.heap.size = S2 at HAN
   generalize min T3 wX.heap.size = S3 at HAN
   generalize hHH : wX.heap.size = HH at HAN
   clear hHH
   obtain ⟨ui, uc, uN, um, umc, uM, uh, uhc, uH, ux⟩ := u
   unfold Pl.Sp.cs
   simp only at HAN HFT ⊢
   have d0 := (za UF).cell 0
   have fd0 := (za UF).fr 0
   have d1 := (za UF).cell 1
   have fd1 := (za UF).fr 1
   have d2 := (za UF).cell 2
   have fd2 := (za UF).fr 2
   have d3 := (za UF).cell 3
   have fd3 := (za UF).fr 3
   have d4 := (za UF).cell 4
   have fd4 := (za UF).fr 4
   have d5 := (za UF).cell 5
   have fd5 := (za UF).fr 5
   have d6 := (za UF).cell 6
   have fd6 := (za UF).fr 6
   simp only [kGs] at d0 d1 d2 d3 d4 d5 d6
   go_wp2
   refine bodyPost_ret (v := .agg #[Value.slice ui uN.length uc, Value.slice um uM.length umc, Value.slice uh uH.length uhc, Value.int .i64 ux, Value.int .i64 0, Value.string ⟨#[]⟩, Value.int .i64 0]) (by simp [results, Tryz.results21, go_sem, d0, d1, d2, d3, d4, d5, d6]) rfl ⟨⟨_, S1, S2, S3, HH, lo, hi, by rw [za HA]; rfl, ((((((((za HAN).far (Y := w.heap.size + 1) 0 (Value.slice ui uN.length uc) (by omega)).far (Y := w.heap.size + 1) 1 (Value.slice um uM.length umc) (by omega)).far (Y := w.heap.size + 1) 2 (Value.slice uh uH.length uhc) (by omega)).far (Y := w.heap.size + 1) 3 (Value.int .i64 ux) (by omega)).far (Y := w.heap.size + 1) 4 (Value.int .i64 0) (by omega)).far (Y := w.heap.size + 1) 5 (Value.string ⟨#[]⟩) (by omega)).far (Y := w.heap.size + 1) 6 (Value.int .i64 0) (by omega)), by omega, by rw [za HA]; exact ⟨(za HFT).1.trans (keep_map _ _ _), (za HFT).2.1, (za HFT).2.2.1, (za HFT).2.2.2⟩⟩, ?_⟩
   exact ((((((((za bF).setCell (p := ⟨w.heap.size + 1, 0, none⟩) (by show w.heap.size ≤ w.heap.size + 1; omega) (Value.slice ui uN.length uc)).setCell (p := ⟨w.heap.size + 1, 1, none⟩) (by show w.heap.size ≤ w.heap.size + 1; omega) (Value.slice um uM.length umc)).setCell (p := ⟨w.heap.size + 1, 2, none⟩) (by show w.heap.size ≤ w.heap.size + 1; omega) (Value.slice uh uH.length uhc)).setCell (p := ⟨w.heap.size + 1, 3, none⟩) (by show w.heap.size ≤ w.heap.size + 1; omega) (Value.int .i64 ux)).setCell (p := ⟨w.heap.size + 1, 4, none⟩) (by show w.heap.size ≤ w.heap.size + 1; omega) (Value.int .i64 0)).setCell (p := ⟨w.heap.size + 1, 5, none⟩) (by show w.heap.size ≤ w.heap.size + 1; omega) (Value.string ⟨#[]⟩)).setCell (p := ⟨w.heap.size + 1, 6, none⟩) (by show w.heap.size ≤ w.heap.size + 1; omega) (Value.int .i64 0))
 ·have HA := hide (za HA1 hR)
  have HC := hide (fun W b => za HRF 2 1 W rfl b)
  have b2 : Below w1.heap.size w1 (w1.alloc (.cells #[.map q, .slice sa sl sc, .slice ta tl tc, .int .i64 n] 59)) := (Below.refl _ _).alloc (Nat.le_refl _) _
  have U2 := hide ((za U1).call b2)
  have b3 := b1.trans (b2.mono b1.size)
  clear HA1 HA6 HAT HS0 HRF hR U1 b1 b2
  go_wp2_with fail
  generalize w1.alloc (.cells #[.map q, .slice sa sl sc, .slice ta tl tc, .int .i64 n] 59) = w2 at U2 b3 ⊢
  refine (za HC _ b3).mono ?_
  rintro e wR ⟨rfl, bX⟩
  have bR := b3.trans (bX.mono b3.size)
  have UR := hide ((za U2).call bX)
  clear bX
  have d0 := (za UR).cell 0
  have fd0 := (za UR).fr 0
  have d1 := (za UR).cell 1
  have fd1 := (za UR).fr 1
  have d2 := (za UR).cell 2
  have fd2 := (za UR).fr 2
  have d3 := (za UR).cell 3
  have fd3 := (za UR).fr 3
  have d4 := (za UR).cell 4
  have fd4 := (za UR).fr 4
  have d5 := (za UR).cell 5
  have fd5 := (za UR).fr 5
  have d6 := (za UR).cell 6
  have fd6 := (za UR).fr 6
  simp only [kGs] at d0 d1 d2 d3 d4 d5 d6
  go_wp2
  refine bodyPost_ret (v := .agg #[Value.slice none 0 0, Value.slice none 0 0, Value.slice none 0 0, Value.int .i64 0, Value.int .i64 0, Value.string ⟨#[]⟩, Value.int .i64 1]) (by simp [results, Tryz.results21, go_sem, d0, d1, d2, d3, d4, d5, d6]) rfl ⟨⟨⟨none, 0, [], none, 0, [], none, 0, [], 0⟩, _, _, _, _, _, _, by rw [za HA]; rfl, WSpO.An.nil _ w.heap.size ?_, Nat.le_refl _, by rw [za HA]; exact Pl.Fits.nil _⟩, ?_⟩
  ·simp only [World.size_setCell]; exact bR.size
  ·exact (((((((bR.setCell (p := ⟨w.heap.size + 1, 0, none⟩) (by show w.heap.size ≤ w.heap.size + 1; omega) (Value.slice none 0 0)).setCell (p := ⟨w.heap.size + 1, 1, none⟩) (by show w.heap.size ≤ w.heap.size + 1; omega) (Value.slice none 0 0)).setCell (p := ⟨w.heap.size + 1, 2, none⟩) (by show w.heap.size ≤ w.heap.size + 1; omega) (Value.slice none 0 0)).setCell (p := ⟨w.heap.size + 1, 3, none⟩) (by show w.heap.size ≤ w.heap.size + 1; omega) (Value.int .i64 0)).setCell (p := ⟨w.heap.size + 1, 4, none⟩) (by show w.heap.size ≤ w.heap.size + 1; omega) (Value.int .i64 0)).setCell (p := ⟨w.heap.size + 1, 5, none⟩) (by show w.heap.size ≤ w.heap.size + 1; omega) (Value.string ⟨#[]⟩)).setCell (p := ⟨w.heap.size + 1, 6, none⟩) (by show w.heap.size ≤ w.heap.size + 1; omega) (Value.int .i64 1))
end WSpI
end Go.Proofs.YtonffldjbmednaaGreatDoor

set_option linter.unusedSimpArgs false
namespace Go.Proofs.YtonffldjbmednaaGreatDoor
open Go.RowKit
namespace WSp
set_option maxRecDepth 100000 in
set_option maxHeartbeats 800000 in
theorem inst_any (s : Pl.Sp) (d : Int) (w : World) (hl : s.N.length ≤ 1048576) (hv : Mem.ze4 w s.ia s.N) :
  Calls Tryz.prog 119 #[.agg s.cs, .int .i64 d] w fun e w' => e = .returned (.int .i64 (Pl.ze6 (s.N.map (·.d)) d)) ∧ Below w.heap.size w w' := by
 obtain ⟨ia, ic, N, ma, mc, M, ha, hc, H, next⟩ := s
 simp only at *
 unfold Pl.Sp.cs
 have b0 := (Below.refl w.heap.size w).alloc (o := .cells #[.slice ia N.length ic, .slice ma M.length mc, .slice ha H.length hc, .int .i64 next] 32) (Nat.le_refl _)
 have V0 := hide (Mem.Blk.new w #[.slice ia N.length ic, .slice ma M.length mc, .slice ha H.length hc, .int .i64 next] 32)
 have HI := hide hv
 have HAT := hide (fun k h hn => Pl.instI_at (l := N.map (·.d)) (d := d) (k := k) h hn)
 have HNO := hide (Pl.instI_no (l := N.map (·.d)) (d := d))
 generalize Pl.ze6 (N.map (·.d)) d = R at HAT HNO ⊢
 clear hv
 go_enter Tryz.func119, Tryz.ntmps119
 go_wp2
 go_loopw [5] (fun i wr => ∃ k : Nat, k ≤ N.length ∧ i = .int .i64 (k : Int) ∧ Below w.heap.size w wr ∧ Hid (Mem.Blk wr w.heap.size #[.slice ia N.length ic, .slice ma M.length mc, .slice ha H.length hc, .int .i64 next] 32) ∧ Hid (∀ j, j < k → (N.map (·.d))[j]? ≠ some d)) (fun i _ => N.length - (intOf i).toNat)
 case atStart => exact ⟨0, Nat.zero_le _, rfl, b0, V0, fun j h => absurd h (by omega)⟩
 case round =>
  obtain ⟨k, hk, rfl, hbel, V, HA⟩ := hrel
  clear V0 b0
  have a0 := (za V).cell 0
  simp only [kGs] at a0
  by_cases hlt : k < N.length
  ·obtain ⟨t, ht⟩ : ∃ n, N[k]? = some n := ⟨_, List.getElem?_eq_getElem hlt⟩
   obtain ⟨⟨g, o, rfl, hg, q0, -⟩, -⟩ := (za HI) k t ht
   have c0 := (hbel.cell (p := ⟨g, _, none⟩) hg).trans q0
   have hm : (N.map (·.d))[k]? = some t.d := by rw [List.getElem?_map, ht]; rfl
   have u1 : (k : Int) < (N.length : Int) := by omega
   have u3 : (0 : Int) ≤ (k : Int) := by omega
   clear q0 ht
   by_cases hd : t.d = d
   ·have hd1 : (t.d == d) = true := by simpa using hd
    have HR : Hid (R = (k : Int)) := hide (za HAT k (by rw [hm, hd]) (za HA))
    clear hm hd HAT HNO HA
    go_wp2
    go_ret
    exact ⟨by rw [za HR]; rfl, hbel⟩
   ·have hd1 : (t.d == d) = false := by simpa using hd
    have HA2 : Hid (∀ j, j < k + 1 → (N.map (·.d))[j]? ≠ some d) := fun j hj => by
     rcases Nat.lt_succ_iff_lt_or_eq.1 hj with h | rfl
     ·exact za HA j h
     ·rw [hm]; exact fun e => hd (Option.some.inj e)
    clear hm
    go_wp2
    go_roundw
    case rel => exact ⟨k + 1, by omega, by go_num, hbel, V, HA2⟩
    case measure => simp [intOf]; omega
  ·have u1 : ¬ (k : Int) < (N.length : Int) := by omega
   have HR : Hid (R = -1) := hide (za HNO (fun j => by
    by_cases h : j < k
    ·exact za HA j h
    ·rw [List.getElem?_eq_none (by rw [List.length_map]; omega)]; exact fun e => by cases e))
   clear HAT HNO HA
   go_wp2
   go_ret
   exact ⟨by rw [za HR]; rfl, hbel⟩
set_option maxRecDepth 100000 in
set_option maxHeartbeats 2000000 in
theorem zd9 (s : Pl.Sp) (d : Int) (w : World) (hml : s.M.length ≤ 1048576) (hhl : s.H.length ≤ 1048576) (hm : Mem.zb2 w s.ma s.M) (hh : Mem.zb9 w s.ha s.H) :
  Calls Tryz.prog 43 #[.agg s.cs, .int .i64 d] w fun e w' => e = .returned (.int .i64 (Pl.held s.M s.H d)) ∧ Below w.heap.size w w' := by
 obtain ⟨ia, ic, N, ma, mc, M, ha, hc, H, next⟩ := s
 simp only at *
 unfold Pl.Sp.cs Pl.held
 have b0 := (Below.refl w.heap.size w).alloc (o := .cells #[.slice ia N.length ic, .slice ma M.length mc, .slice ha H.length hc, .int .i64 next] 32) (Nat.le_refl _)
 have V0 := hide (Mem.Blk.new w #[.slice ia N.length ic, .slice ma M.length mc, .slice ha H.length hc, .int .i64 next] 32)
 have HM := hide hm
 have HH := hide hh
 clear hm hh
 go_enter Tryz.func43, Tryz.ntmps43
 go_wp2
 go_loopw [5, 6] (fun n i wr => ∃ k : Nat, k ≤ M.length ∧ i = .int .i64 (k : Int) ∧ n = .int .i64 (0 + (Pl.cntM (M.take k) d : Int)) ∧ Below w.heap.size w wr ∧ Hid (Mem.Blk wr w.heap.size #[.slice ia N.length ic, .slice ma M.length mc, .slice ha H.length hc, .int .i64 next] 32)) (fun _ i _ => M.length - (intOf i).toNat)
 case atStart => exact ⟨0, Nat.zero_le _, rfl, by simp [Pl.cntM], b0, V0⟩
 case round =>
  obtain ⟨k, hk, rfl, rfl, hbel, V⟩ := hrel
  clear V0 b0
  have a1 := (za V).cell 1
  simp only [kGs] at a1
  have hle := Pl.cntM_le (M.take k) d
  have hle2 : (M.take k).length ≤ M.length := by rw [List.length_take]; omega
  by_cases hlt : k < M.length
  ·obtain ⟨t, ht⟩ : ∃ n, M[k]? = some n := ⟨_, List.getElem?_eq_getElem hlt⟩
   obtain ⟨g, o, rfl, hg, q0, q1, q2⟩ := (za HM) k t ht
   have c1 := (hbel.cell (p := ⟨g, _, none⟩) hg).trans q1
   have HS := hide (Pl.cntM_step ht d)
   have u1 : (k : Int) < (M.length : Int) := by omega
   have u3 : (0 : Int) ≤ (k : Int) := by omega
   clear q0 q1 q2 ht
   generalize hC : Pl.cntM (M.take k) d = C at HS hle ⊢
   by_cases hd : t.i = d
   ·have hd1 : (t.i == d) = true := by simpa using hd
    have HS2 : Hid (Pl.cntM (M.take (k + 1)) d = C + 1) := hide (by rw [za HS, if_pos hd])
    clear hC HS hd
    go_wp2
    go_roundw
    case rel => exact ⟨k + 1, by omega, by go_num, by rw [za HS2]; go_num, hbel, V⟩
    case measure => simp [intOf]; omega
   ·have hd1 : (t.i == d) = false := by simpa using hd
    have HS2 : Hid (Pl.cntM (M.take (k + 1)) d = C) := hide (by rw [za HS, if_neg hd]; rfl)
    clear hC HS
    go_wp2
    go_roundw
    case rel => exact ⟨k + 1, by omega, by go_num, by rw [za HS2], hbel, V⟩
    case measure => simp [intOf]; omega
  ·have u1 : ¬ (k : Int) < (M.length : Int) := by omega
   have hke : k = M.length := by omega
   subst hke
   rw [List.take_length, Int.zero_add]
   clear hle hle2 hlt hk
   have hML := Pl.cntM_le M d
   go_wp2
   go_loopw [5, 7] (fun n i wr => ∃ k : Nat, k ≤ H.length ∧ i = .int .i64 (k : Int) ∧ n = .int .i64 ((Pl.cntM M d : Int) + (Pl.cntH (H.take k) d : Int)) ∧ Below w.heap.size w wr ∧ Hid (Mem.Blk wr w.heap.size #[.slice ia N.length ic, .slice ma M.length mc, .slice ha H.length hc, .int .i64 next] 32)) (fun _ i _ => H.length - (intOf i).toNat)
   case atStart => exact ⟨0, Nat.zero_le _, rfl, by simp [Pl.cntH], hbel, V⟩
   case round =>
    obtain ⟨k, hk, rfl, rfl, hbel, V⟩ := hrel
    have a1 := (za V).cell 2
    simp only [kGs] at a1
    have hle := Pl.cntH_le (H.take k) d
    have hle2 : (H.take k).length ≤ H.length := by rw [List.length_take]; omega
    by_cases hlt : k < H.length
    ·obtain ⟨t, ht⟩ : ∃ n, H[k]? = some n := ⟨_, List.getElem?_eq_getElem hlt⟩
     obtain ⟨g, o, rfl, hg, q0, q1, q2⟩ := (za HH) k t ht
     have c1 := (hbel.cell (p := ⟨g, _, none⟩) hg).trans q1
     have HS := hide (Pl.cntH_step ht d)
     have u1 : (k : Int) < (H.length : Int) := by omega
     have u3 : (0 : Int) ≤ (k : Int) := by omega
     clear q0 q1 q2 ht
     generalize hC : Pl.cntH (H.take k) d = C at HS hle ⊢
     by_cases hd : t.i = d
     ·have hd1 : (t.i == d) = true := by simpa using hd
      have HS2 : Hid (Pl.cntH (H.take (k + 1)) d = C + 1) := hide (by rw [za HS, if_pos hd])
      clear hC HS hd
      go_wp2
      go_roundw
      case rel => exact ⟨k + 1, by omega, by go_num, by rw [za HS2]; go_num, hbel, V⟩
      case measure => simp [intOf]; omega
     ·have hd1 : (t.i == d) = false := by simpa using hd
      have HS2 : Hid (Pl.cntH (H.take (k + 1)) d = C) := hide (by rw [za HS, if_neg hd]; rfl)
      clear hC HS
      go_wp2
      go_roundw
      case rel => exact ⟨k + 1, by omega, by go_num, by rw [za HS2], hbel, V⟩
      case measure => simp [intOf]; omega
    ·have u1 : ¬ (k : Int) < (H.length : Int) := by omega
     have hke : k = H.length := by omega
     subst hke
     rw [List.take_length]
     go_wp2
     go_ret
     exact ⟨rfl, hbel⟩
end WSp
end Go.Proofs.YtonffldjbmednaaGreatDoor

