/- Several texts of one claim in one file: MemNest, WTakeI, WTakeJ. -/
import Derived.Test.YtioildojmckepaaGreatDoorG02
import Derived.Below
import Derived.Laws.AppendOwn
import Derived.Test.YtioildojmckepaaGreatDoorG08
import Derived.Test.YtioildojmckepaaGreatDoorG26
import Derived.Test.YtioildojmckepaaGreatDoorG20
import Derived.Test.YtioildojmckepaaGreatDoorG30
namespace Go.Proofs.YtioildojmckepaaGreatDoor
open Go.RowKit
namespace Mem
def rowF (w : World) (N : Nat → Prop) : Pl.Fo → Nat → Nat → Prop
 | .nil, _, _ => True
 | .cons k m, b, i => (∃ x y a cap, w.cell? ⟨b, i, none⟩ = some x ∧ w.cell? ⟨b, i + 1, none⟩ = some y ∧ w.cell? ⟨b, i + 2, none⟩ = some (.slice a k.len cap) ∧ b < w.heap.size ∧ N b ∧
   (∃ q, x = .map q) ∧ (∃ q, y = .int .i64 q) ∧ (k = .nil ∨ ∃ b', a = some ⟨b', 0, none⟩ ∧ rowF w N k b' 0)) ∧ rowF w N m b (i + 3)
def lay (w : World) (N : Nat → Prop) (k : Pl.Fo) (v : Value) : Prop := ∃ a cap, v = .slice a k.len cap ∧ (k = .nil ∨ ∃ b', a = some ⟨b', 0, none⟩ ∧ rowF w N k b' 0)
theorem ya5 {w w' : World} {N N' : Nat → Prop} (h : ∀ b, N b → b < w.heap.size → N' b ∧ b < w'.heap.size ∧ w'.heap[b]? = w.heap[b]?) (F : Pl.Fo) : ∀ b i, rowF w N F b i → rowF w' N' F b i := by
 induction F with
 | nil => intro b i _; trivial
 | cons k m ihk ihm =>
  intro b i hr
  obtain ⟨⟨x, y, a, cap, h1, h2, h3, h4, h5, hx, hy, h6⟩, h7⟩ := hr
  obtain ⟨g1, g2, g3⟩ := h b h5 h4
  have c : ∀ j, w'.cell? ⟨b, j, none⟩ = w.cell? ⟨b, j, none⟩ := fun j => World.cell?_of_block g3
  refine ⟨⟨x, y, a, cap, (c _).trans h1, (c _).trans h2, (c _).trans h3, g2, g1, hx, hy, ?_⟩, ihm _ _ h7⟩
  rcases h6 with h6 | ⟨b', h6, h8⟩
  ·exact .inl h6
  ·exact .inr ⟨b', h6, ihk _ _ h8⟩
theorem zu6 {w w' : World} {N N' : Nat → Prop} (h : ∀ b, N b → b < w.heap.size → N' b ∧ b < w'.heap.size ∧ w'.heap[b]? = w.heap[b]?) {k : Pl.Fo} {v : Value} (hl : lay w N k v) : lay w' N' k v := by
 obtain ⟨a, cap, h1, h2⟩ := hl
 refine ⟨a, cap, h1, ?_⟩
 rcases h2 with h2 | ⟨b', h2, h3⟩
 ·exact .inl h2
 ·exact .inr ⟨b', h2, ya5 h _ _ _ h3⟩
theorem zm2 {w w' : World} {N : Nat → Prop} {k : Pl.Fo} {v : Value} (h : lay w N k v) (b : Below w.heap.size w w') : lay w' N k v := zu6 (fun g hg hl => ⟨hg, Nat.lt_of_lt_of_le hl b.size, b.block g hl⟩) h
theorem lay_nil (w : World) (N : Nat → Prop) : lay w N .nil (.slice none 0 0) := ⟨none, 0, rfl, .inl rfl⟩
def zq7 (w : World) (N : Nat → Prop) : Pl.Fo → List Value → Prop
 | .nil, xs => xs = []
 | .cons k m, xs => ∃ q r v ys, xs = .map q :: .int .i64 r :: v :: ys ∧ lay w N k v ∧ zq7 w N m ys
theorem cellsF_mono {w w' : World} {N N' : Nat → Prop} (h : ∀ b, N b → b < w.heap.size → N' b ∧ b < w'.heap.size ∧ w'.heap[b]? = w.heap[b]?) (F : Pl.Fo) : ∀ xs, zq7 w N F xs → zq7 w' N' F xs := by
 induction F with
 | nil => intro xs h; exact h
 | cons k m _ ih =>
  intro xs hx
  obtain ⟨q, r, v, ys, h1, h2, h3⟩ := hx
  exact ⟨q, r, v, ys, h1, zu6 h h2, ih _ h3⟩
theorem cellsF_snoc {w : World} {N : Nat → Prop} {k : Pl.Fo} {q : Option Nat} {r : Int} {v : Value} (hv : lay w N k v) (F : Pl.Fo) : ∀ xs, zq7 w N F xs → zq7 w N (F.app (.cons k .nil)) (xs ++ [.map q, .int .i64 r, v]) := by
 induction F with
 | nil => intro xs h; cases h; exact ⟨q, r, v, [], rfl, hv, rfl⟩
 | cons k' m _ ih =>
  intro xs hx
  obtain ⟨q', r', v', ys, rfl, h2, h3⟩ := hx
  exact ⟨q', r', v', _, rfl, h2, ih _ h3⟩
theorem row_of_cells {w : World} {N N' : Nat → Prop} {g : Nat} (hN : ∀ b, N b → N' b) (hg : N' g) (hlt : g < w.heap.size) (F : Pl.Fo) : ∀ (xs : List Value) (i : Nat), zq7 w N F xs → (∀ j u, xs[j]? = some u → w.cell? ⟨g, i + j, none⟩ = some u) → rowF w N' F g i := by
 induction F with
 | nil => intro xs i _ _; trivial
 | cons k m _ ih =>
  intro xs i hx hc
  obtain ⟨q, r, v, ys, rfl, h2, h3⟩ := hx
  obtain ⟨a, cap, rfl, h4⟩ := h2
  refine ⟨⟨_, _, a, cap, hc 0 _ rfl, hc 1 _ rfl, hc 2 _ rfl, hlt, hg, ⟨q, rfl⟩, ⟨r, rfl⟩, ?_⟩, ih ys (i + 3) h3 fun j u hj => ?_⟩
  ·rcases h4 with h4 | ⟨b', h4, h5⟩
   ·exact .inl h4
   ·exact .inr ⟨b', h4, ya5 (fun b hb hl => ⟨hN b hb, hl, rfl⟩) _ _ _ h5⟩
  ·have := hc (j + 3) u (by simpa using hj)
   rw [show i + 3 + j = i + (j + 3) by omega]; exact this
theorem lay_of_row {w : World} {B : Nat} {T : TypeId} {v : Value} {N : Nat → Prop} {F : Pl.Fo} {xs : List Value} (h : w.ownsRow B T 3 v F.len xs) (hc : zq7 w N F xs) (hN : ∀ b, N b → B ≤ b) : lay w (fun b => B ≤ b) F v := by
 rcases h.2 with ⟨rfl, h0⟩ | ⟨g, cap, cur, rfl, hb, hg, hc2, hm, hsz, ht⟩
 ·cases F with
  | nil => exact lay_nil _ _
  | cons k m => simp [Pl.Fo.len] at h0
 ·refine ⟨_, cap, rfl, .inr ⟨g, rfl, row_of_cells hN hb (Array.getElem?_eq_some_iff.1 hg).1 F xs 0 hc fun j u hj => ?_⟩⟩
  rw [cell_of_row w g _ cur _ (0, 0) hg, Nat.zero_add]
  rw [← ht, List.getElem?_take] at hj
  split at hj
  ·simpa using hj
  ·cases hj
end Mem
end Go.Proofs.YtioildojmckepaaGreatDoor

namespace Go.Proofs.YtioildojmckepaaGreatDoor
open Go.RowKit
namespace zc0
theorem zp2 : (Tryz.prog.info? 71).map (fun i => (i.zero, i.size, i.bytes)) = some (some (.agg #[.map none, .int .i64 0, .slice none 0 0]), 3, 40) := by kernel_rfl
structure Tk (w wr : World) (B X2 X7 : Nat) (q : Option Nat) (m : Int) (v : Value) (F : Pl.Fo) (xs : List Value) : Prop where
 bel : Below w.heap.size w wr
 big : B ≤ wr.heap.size
 x2 : Mem.Blk wr X2 #[.map none, .int .i64 0, .slice none 0 0] 71
 x7 : Mem.Blk wr X7 #[.map q, .int .i64 m, v] 71
 l2 : w.heap.size ≤ X2 ∧ X2 < B
 l7 : w.heap.size ≤ X7 ∧ X7 < B
 ne : X2 ≠ X7
 row : wr.ownsRow B 71 3 v F.len xs
 cells : Mem.zq7 wr (fun b => B ≤ b ∧ v.ownBlock ≠ some b) F xs
theorem row_call {w w' : World} {B n s : Nat} {T : TypeId} {v : Value} {xs : List Value} (h : w.ownsRow B T s v n xs) (b : Below w.heap.size w w') : w'.ownsRow B T s v n xs := by
 refine ⟨h.1, ?_⟩
 rcases h.2 with h0 | ⟨g, cap, cur, hv, hb, hg, rest⟩
 ·exact .inl h0
 ·exact .inr ⟨g, cap, cur, hv, hb, (b.block g (Array.getElem?_eq_some_iff.1 hg).1).trans hg, rest⟩
theorem row_set {w : World} {B n s : Nat} {T : TypeId} {v : Value} {xs : List Value} (h : w.ownsRow B T s v n xs) (p : Addr) (u : Value) (hp : p.block < B) : (w.setCell p u).ownsRow B T s v n xs := by
 refine ⟨h.1, ?_⟩
 rcases h.2 with h0 | ⟨g, cap, cur, hv, hb, hg, rest⟩
 ·exact .inl h0
 ·exact .inr ⟨g, cap, cur, hv, hb, (heap_setCell_other _ _ _ _ (by omega)).trans hg, rest⟩
theorem Tk.step {w wr w1 w4 : World} {B X2 X7 : Nat} {q q1 : Option Nat} {m m1 : Int} {v v1 v' : Value} {F kids : Pl.Fo} {xs : List Value} {o1 o2 : Obj} (h : Tk w wr B X2 X7 q m v F xs)
  (b1 : Below wr.heap.size wr w1) (hl : Mem.lay w1 (fun b => wr.heap.size ≤ b) kids v1)
  (own : w4.ownsRow B 71 3 v' (F.len + 1) (xs ++ [.map q1, .int .i64 m1, v1])) (gr : ((w1.alloc o1).alloc o2).grownBy w4 v.ownBlock) (far : ∀ g, v'.ownBlock = some g → v.ownBlock = some g ∨ ((w1.alloc o1).alloc o2).heap.size ≤ g) :
  Tk w (w4.setCell ⟨X7, 2, none⟩ v') B X2 X7 q m v' (F.app (.cons kids .nil)) (xs ++ [.map q1, .int .i64 m1, v1]) := by
 have hw1 : wr.heap.size ≤ w1.heap.size := b1.size
 have hs3 : ((w1.alloc o1).alloc o2).heap.size = w1.heap.size + 1 + 1 := by simp
 have b3 : Below wr.heap.size wr ((w1.alloc o1).alloc o2) := (b1.alloc hw1 o1).alloc (by simp; omega) o2
 have b13 : Below w1.heap.size w1 ((w1.alloc o1).alloc o2) := ((Below.refl _ _).alloc (Nat.le_refl _) o1).alloc (by simp) o2
 have e5 : (w4.setCell ⟨X7, 2, none⟩ v').heap.size = w4.heap.size := by simp
 have hv7 : some X7 ≠ v.ownBlock := fun e => by have := (h.row.lt X7 e.symm).1; have := h.l7.2; omega
 have hv2 : some X2 ≠ v.ownBlock := fun e => by have := (h.row.lt X2 e.symm).1; have := h.l2.2; omega
 have hbig := h.big
 have keep : ∀ b, B ≤ b → v.ownBlock ≠ some b → b < w1.heap.size → (w4.setCell ⟨X7, 2, none⟩ v').heap[b]? = w1.heap[b]? := fun b hb hne hlt => by
  rw [heap_setCell_other _ _ _ _ (by show b ≠ X7; have := h.l7.2; omega), gr.block b (by omega) (fun e => hne e.symm)]
  exact b13.block b hlt
 have hsz : ∀ b, b < w1.heap.size → b < (w4.setCell ⟨X7, 2, none⟩ v').heap.size := fun b hb => by have := gr.size; omega
 have hnew : ∀ b, v.ownBlock ≠ some b → b < w1.heap.size → v'.ownBlock ≠ some b := fun b hne hlt e => by
  rcases far b e with h' | h'
  ·exact hne h'
  ·omega
 refine ⟨?_, ?_, ?_, ?_, h.l2, h.l7, h.ne, ?_, ?_⟩
 ·refine Below.setCell ?_ (by show w.heap.size ≤ X7; exact h.l7.1) _
  have bw3 := h.bel.trans (b3.mono h.bel.size)
  refine ⟨gr.os.trans bw3.os, gr.tape.trans bw3.tape, gr.output.trans bw3.output, Nat.le_trans bw3.size gr.size, fun k hk => ?_⟩
  have hk2 := h.bel.size
  rw [gr.block k (by omega) (fun e => by have := (h.row.lt k e.symm).1; have := h.l7; omega)]
  exact bw3.block k hk
 ·have := gr.size; omega
 ·exact ((h.x2.call b3).grown gr hv2).far _ _ h.ne
 ·exact ((h.x7.call b3).grown gr hv7).put 2 v'
 ·rw [Pl.Fo.len_app]
  exact row_set own _ _ h.l7.2
 ·refine Mem.cellsF_snoc (Mem.zu6 (fun b hb hlt => ?_) hl) F xs (Mem.cellsF_mono (fun b hb hlt => ?_) F xs h.cells)
  ·have hne : v.ownBlock ≠ some b := fun e => by have := (h.row.lt b e).2; omega
   exact ⟨⟨by omega, hnew b hne hlt⟩, hsz b hlt, keep b (by omega) hne hlt⟩
  ·exact ⟨⟨hb.1, hnew b hb.2 (by omega)⟩, hsz b (by omega), (keep b hb.1 hb.2 (by omega)).trans (b1.block b hlt)⟩
theorem Tk.mid {w wr w1 w4 : World} {B X2 X7 : Nat} {q : Option Nat} {m : Int} {v : Value} {F : Pl.Fo} {xs : List Value} {o1 o2 : Obj} (h : Tk w wr B X2 X7 q m v F xs)
  (b1 : Below wr.heap.size wr w1) (gr : ((w1.alloc o1).alloc o2).grownBy w4 v.ownBlock) : Mem.Blk w4 X7 #[.map q, .int .i64 m, v] 71 :=
 (((h.x7.call b1).alloc o1).alloc o2).grown gr (fun e => by have := (h.row.lt X7 e.symm).1; have := h.l7.2; omega)
theorem Tk.conc {w wr : World} {B X2 X7 : Nat} {q : Option Nat} {m : Int} {v : Value} {F : Pl.Fo} {xs : List Value} (h : Tk w wr B X2 X7 q m v F xs) : ∃ a cap, v = .slice a F.len cap := by
 rcases h.row.2 with ⟨h1, h0⟩ | ⟨g, cap, cur, h1, _⟩
 ·exact ⟨none, 0, by rw [h1, h0]⟩
 ·exact ⟨_, cap, h1⟩
theorem conc {w : World} {B n s : Nat} {T : TypeId} {v : Value} {xs : List Value} (h : w.ownsRow B T s v n xs) : ∃ a cap, v = .slice a n cap := by
 rcases h.2 with ⟨h1, h0⟩ | ⟨g, cap, cur, h1, _⟩
 ·exact ⟨none, 0, by rw [h1, h0]⟩
 ·exact ⟨_, cap, h1⟩
theorem three_new (w : World) (cs : List Value) (T : TypeId) (o : Obj) : ∀ j u, cs[j]? = some u → ((w.alloc o).alloc (.cells cs.toArray T)).cell? ((⟨w.heap.size + 1, 0, none⟩ : Addr).add j) = some u := by
 intro j u hj
 rw [Mem.add_lit]
 have := (Mem.ze (w.alloc o) cs T).2 j u hj
 simpa using this
theorem Tk.done {w wr : World} {B X2 X7 : Nat} {q : Option Nat} {m : Int} {v : Value} {F : Pl.Fo} {xs : List Value} (h : Tk w wr B X2 X7 q m v F xs) (u0 u1 u2 : Value) :
  Mem.lay (((wr.setCell ⟨X2, 0, none⟩ u0).setCell ⟨X2, 1, none⟩ u1).setCell ⟨X2, 2, none⟩ u2) (fun b => w.heap.size ≤ b) F v := by
 refine Mem.zu6 (fun b hb hlt => ⟨?_, by simpa using hlt, ?_⟩) (Mem.lay_of_row h.row h.cells (fun b hb => hb.1))
 ·have := h.l2; omega
 ·have := h.l2.2
  rw [heap_setCell_other _ _ _ _ (by show b ≠ X2; omega), heap_setCell_other _ _ _ _ (by show b ≠ X2; omega), heap_setCell_other _ _ _ _ (by show b ≠ X2; omega)]
end zc0
end Go.Proofs.YtioildojmckepaaGreatDoor

namespace Go.Proofs.YtioildojmckepaaGreatDoor
open Go.RowKit
namespace zc0
theorem take_here {Is : List Pl.It} {x : Pl.It} (hx : Is[0]? = some x) : Pl.rowO (Is.map Pl.It.r) = Pl.zh7 (x.m, x.t.L) :: Pl.rowO ((Is.drop 1).map Pl.It.r) := by
 have h := Pl.rowO_at (xs := Is.map Pl.It.r) (i := 0) (x := x.r) (by rw [List.getElem?_map, hx]; rfl)
 rw [List.drop_zero, Pl.rowO_drop, ← List.map_drop] at h
 exact h
def Took (w : World) (r1 : TypeId) (x1 : Value) (a : Option Addr) (Is : List Pl.It) (TT : Option (Pl.Fo × Pl.Row)) (e : Ending) (w' : World) : Prop :=
 (∃ kids q m v k a' cap', TT = some (.cons kids .nil, Pl.rowO ((Is.drop k).map Pl.It.r)) ∧ e = .returned (.tuple #[.agg #[.map q, .int .i64 m, v], .slice a' (Is.drop k).length cap', .nilIface]) ∧
  0 < k ∧ k ≤ Is.length ∧ (Is.drop k).length ≤ cap' ∧ Mem.shifted a a' k Is ∧ Mem.lay w' (fun b => w.heap.size ≤ b) kids v) ∨
 (TT = none ∧ e = .returned (.tuple #[.agg #[.map none, .int .i64 0, .slice none 0 0], .slice none 0 0, .iface r1 x1]))
set_option linter.unusedSimpArgs false in
set_option maxRecDepth 100000 in
set_option maxHeartbeats 2000000 in
theorem take_any (r1 r2 r3 : TypeId) (x1 x2 x3 : Value) (n : Nat) :
  ∀ (Is : List Pl.It) (a : Option Addr) (cap : Nat) (w : World), Is.length ≤ n → Is.length ≤ 12 → Is.length ≤ cap → Mem.za7 w a Is → (∀ x ∈ Is, x.t.L.length ≤ 1048576 ∧ ∀ n ∈ x.t.L, n.path.size ≤ 1048576 ∧ n.data.size ≤ 1048576) → zh9.Errs w r1 r2 r3 x1 x2 x3 →
  Calls Tryz.prog 62 #[.slice a Is.length cap] w fun e w' => Took w r1 x1 a Is (Pl.take 1 (Pl.rowO (Is.map Pl.It.r))) e w' ∧ Below w.heap.size w w' := by
 obtain ⟨i0, hi, hz0, hz1, hz2⟩ := info_parts zp2
 induction n with
 | zero =>
  intro Is a cap w hn h12 hcap hv hok hE
  have e : Is = [] := List.eq_nil_of_length_eq_zero (by omega)
  subst e
  have b0 : Below w.heap.size w (w.alloc (.cells #[.map none, .int .i64 0, .slice none 0 0] 71)) := (Below.refl _ _).alloc (Nat.le_refl _) _
  have k1 := (hE.call b0).c1
  have HB0 := hide b0
  clear hv hok hE b0
  go_enter Tryz.func62, Tryz.ntmps62
  go_wp2
  go_region
  go_wp2
  refine bodyPost_ret (v := .tuple #[.agg #[.map none, .int .i64 0, .slice none 0 0], .slice none 0 0, .iface r1 x1]) (by simp [results, Tryz.results62, go_sem]) rfl ⟨Or.inr ⟨rfl, rfl⟩, ?_⟩
  exact Mem.below_drewN (za HB0) 1
 | succ n ih =>
  intro Is a cap w hn h12 hcap hv hok hE
  have b0 : Below w.heap.size w (w.alloc (.cells #[.map none, .int .i64 0, .slice none 0 0] 71)) := (Below.refl _ _).alloc (Nat.le_refl _) _
  have A0 := Mem.Blk.new w #[.map none, .int .i64 0, .slice none 0 0] 71
  have hs0 : (w.alloc (.cells #[.map none, .int .i64 0, .slice none 0 0] 71)).heap.size = w.heap.size + 1 := by simp
  by_cases hnil : Is.length = 0
  ·have e : Is = [] := List.eq_nil_of_length_eq_zero hnil
   subst e
   have k1 := (hE.call b0).c1
   have HB0 := hide b0
   clear hv hok hE b0 A0 ih
   go_enter Tryz.func62, Tryz.ntmps62
   go_wp2
   go_region
   go_wp2
   refine bodyPost_ret (v := .tuple #[.agg #[.map none, .int .i64 0, .slice none 0 0], .slice none 0 0, .iface r1 x1]) (by simp [results, Tryz.results62, go_sem]) rfl ⟨Or.inr ⟨rfl, rfl⟩, ?_⟩
   exact Mem.below_drewN (za HB0) 1
  have t0 : ¬ (Is.length : Int) = 0 := by omega
  have t1 : (0 : Int) < (Is.length : Int) := by omega
  have t2 : (1 : Int) ≤ (Is.length : Int) := by omega
  obtain ⟨x, hx⟩ : ∃ x, Is[0]? = some x := ⟨_, List.getElem?_eq_getElem (by omega)⟩
  obtain ⟨⟨b, o, rfl, hb, q0, q0'⟩, q1⟩ := hv 0 x hx
  have c0 := (b0.cell (p := ⟨b, _, none⟩) hb).trans q0
  have c1 := (b0.cell (p := ⟨b, _, none⟩) hb).trans q0'
  simp only [Pl.Tr.val, Nat.zero_mul, Nat.add_zero] at c0 c1
  have hz := hide (zu7 x.m x.t.a x.t.cap x.t.L _ (hok x (List.mem_of_getElem? hx)).1 (Mem.za5 q1 b0) (hok x (List.mem_of_getElem? hx)).2 r1 r2 r3 x1 x2 x3 (hE.call b0))
  have hrow := take_here hx
  have HI : Hid (∀ (k r : Nat) (a' : Option Addr) (cap' : Nat) (W : World), 0 < k → k + r = Is.length → r ≤ cap' → Mem.shifted (some ⟨b, o, none⟩) a' k Is → Below w.heap.size w W →
    Calls Tryz.prog 62 #[.slice a' r cap'] W fun e w' => ((∃ kids q m v k1 r1 a1 cap1, Pl.take 1 (Pl.rowO ((Is.drop k).map Pl.It.r)) = some (.cons kids .nil, Pl.rowO ((Is.drop (k + k1)).map Pl.It.r)) ∧ e = .returned (.tuple #[.agg #[.map q, .int .i64 m, v], .slice a1 r1 cap1, .nilIface]) ∧
     k + k1 + r1 = Is.length ∧ r1 ≤ cap1 ∧ Mem.shifted (some ⟨b, o, none⟩) a1 (k + k1) Is ∧ Mem.lay w' (fun b => W.heap.size ≤ b) kids v) ∨
    (Pl.take 1 (Pl.rowO ((Is.drop k).map Pl.It.r)) = none ∧ e = .returned (.tuple #[.agg #[.map none, .int .i64 0, .slice none 0 0], .slice none 0 0, .iface r1 x1]))) ∧ Below W.heap.size W w') := hide (fun k r a' cap' W hk hr hc hs bb => by
   have hrl : (Is.drop k).length = r := by rw [List.length_drop]; omega
   have h := ih (Is.drop k) a' cap' W (by omega) (by omega) (by omega) (Mem.zg (Mem.items_shift hv hs) bb) (fun y hy => hok y (List.mem_of_mem_drop hy)) (hE.call bb)
   rw [hrl] at h
   refine h.mono fun e w' ⟨h1, h2⟩ => ⟨?_, h2⟩
   rcases h1 with ⟨kids, q, m, v, k1, a1, cap1, g1, g2, g3, g4, g5, g6, g7⟩ | h1
   ·rw [List.drop_drop] at g1 g2 g5
    exact .inl ⟨kids, q, m, v, k1, (Is.drop (k + k1)).length, a1, cap1, g1, g2, by rw [List.length_drop]; omega, g5, Mem.shifted_trans hs g6, g7⟩
   ·exact .inr h1)
  rw [hrow]
  generalize hTT : Pl.take 1 (Pl.zh7 (x.m, x.t.L) :: Pl.rowO ((Is.drop 1).map Pl.It.r)) = TT
  have HTT := hide hTT
  clear hTT
  clear ih hv hok hE q0 q0' q1 hx hrow
  go_enter Tryz.func62, Tryz.ntmps62
  go_wp2_with fail
  generalize w.alloc (.cells #[.map none, .int .i64 0, .slice none 0 0] 71) = w2 at hz A0 b0 hs0 c0 c1 ⊢
  refine (za hz).mono ?_
  rintro e w1 ⟨h1, b1⟩
  have bw1 := b0.trans (b1.mono b0.size)
  have A1 := A0.call b1
  have hs1 := b1.size
  clear hz c0 c1 b1 A0 b0
  rcases h1 with ⟨hT, B, rfl⟩ | ⟨hT, k, rfl⟩
  ·obtain ⟨hm0, hm4⟩ := Pl.zq6 hT
   rw [Pl.itemO_yes hT, Pl.zp9] at HTT
   obtain ⟨mm, hmm⟩ : ∃ mm : Nat, x.m = (mm : Int) := ⟨x.m.toNat, by omega⟩
   rw [hmm, Int.toNat_natCast] at HTT
   rw [hmm]
   have hm5 : mm ≤ 4 := by omega
   clear hT hmm hm0 hm4
   have bA : Below w.heap.size w ((w1.alloc (.cells #[.map (some B), .int .i64 (mm : Int)] 68)).alloc (.cells #[.map (some B), .int .i64 (mm : Int), .slice none 0 0] 71)) := (bw1.alloc bw1.size _).alloc (by simp; have := bw1.size; omega) _
   have TK0 : Hid (Tk w ((w1.alloc (.cells #[.map (some B), .int .i64 (mm : Int)] 68)).alloc (.cells #[.map (some B), .int .i64 (mm : Int), .slice none 0 0] 71)) (w1.heap.size + 1 + 1) w.heap.size (w1.heap.size + 1) (some B) (mm : Int) (.slice none 0 0) .nil []) :=
    hide ⟨bA, by simp, (A1.alloc _).alloc _, by have := Mem.Blk.new (w1.alloc (.cells #[.map (some B), .int .i64 (mm : Int)] 68)) #[.map (some B), .int .i64 (mm : Int), .slice none 0 0] 71; simpa using this, ⟨Nat.le_refl _, by omega⟩, ⟨by omega, by omega⟩, by omega, World.ownsRow_nil _ _ _ _, rfl⟩
   generalize hT0 : Pl.take mm (Pl.rowO ((Is.drop 1).map Pl.It.r)) = T0 at HTT
   have HT0 : Hid (Pl.went .nil (Pl.take (mm - Pl.Fo.nil.len) (Pl.rowO ((Is.drop 1).map Pl.It.r))) = T0) := hide (by rw [Pl.went_start]; exact hT0)
   have S0 : Hid (cap = 1 → Mem.shifted (some ⟨b, o, none⟩) (some ⟨b, o, none⟩) 1 Is) := hide (fun hc => .inl (List.drop_eq_nil_of_le (by omega)))
   have S1 : Hid (Mem.shifted (some ⟨b, o, none⟩) (some ⟨b, o + 2, none⟩) 1 Is) := hide (.inr ⟨b, o, rfl, rfl⟩)
   clear hT0 A1 bw1 bA
   go_wp2
   all_goals
    go_loopw [8, 34] (fun rest i wr => ∃ (k : Nat) (a' : Option Addr) (cap' : Nat) (v : Value) (F : Pl.Fo) (xs : List Value) (r : Nat), rest = .slice a' r cap' ∧ i = .int .i64 (F.len : Int) ∧ F.len ≤ mm ∧ 0 < k ∧ k + r = Is.length ∧ r ≤ cap' ∧ Hid (Mem.shifted (some ⟨b, o, none⟩) a' k Is) ∧ Hid (Tk w wr (w1.heap.size + 1 + 1) w.heap.size (w1.heap.size + 1) (some B) (mm : Int) v F xs) ∧ Hid (Pl.went F (Pl.take (mm - F.len) (Pl.rowO ((Is.drop k).map Pl.It.r))) = T0)) (fun _ i _ => mm - (intOf i).toNat)
    case atStart =>
     refine ⟨1, _, _, _, .nil, [], _, rfl, rfl, Nat.zero_le _, by omega, by omega, by omega, ?_, TK0, HT0⟩
     first | exact S1 | exact hide (za S0 (by omega))
    case round =>
     obtain ⟨k, a', cap', v, F, xs, r, rfl, rfl, hFm, hk, hkl, hc, HS, TK, HT⟩ := hrel
     clear TK0 HT0 S0 S1
     by_cases hlt : F.len < mm
     ·have u1 : (F.len : Int) < (mm : Int) := by omega
      have hcall := hide (za HI k r a' cap' wr hk hkl hc (za HS) (za TK).bel)
      go_wp2_with fail
      refine (za hcall).mono ?_
      rintro e wX ⟨h1, bX⟩
      clear hcall
      rcases h1 with ⟨kids, q1, m1, v1, k1, s1, a1, cap1, ht, rfl, hk1', hc1, hs1', hlay⟩ | ⟨ht, rfl⟩
      ·obtain ⟨va, vcap, rfl, hrest⟩ := hlay
       have HST := hide (fun (w4 : World) (v' : Value) own gr far => (za TK).step (w1 := wX) (w4 := w4) (kids := kids) (v1 := .slice va kids.len vcap) (q1 := q1) (m1 := m1) (v' := v') (o1 := .cells #[.map q1, .int .i64 m1, .slice va kids.len vcap] 71) (o2 := .cells #[.map q1, .int .i64 m1, .slice va kids.len vcap] 71) bX ⟨va, vcap, rfl, hrest⟩ own gr far)
       have HMD := hide (fun (w4 : World) gr => (za TK).mid (w1 := wX) (w4 := w4) (o1 := .cells #[.map q1, .int .i64 m1, .slice va kids.len vcap] 71) (o2 := .cells #[.map q1, .int .i64 m1, .slice va kids.len vcap] 71) bX gr)
       have HR := hide (((row_call (za TK).row bX).alloc (.cells #[.map q1, .int .i64 m1, .slice va kids.len vcap] 71)).alloc (.cells #[.map q1, .int .i64 m1, .slice va kids.len vcap] 71))
       have X7a := ((za TK).x7.call bX).alloc (.cells #[.map q1, .int .i64 m1, .slice va kids.len vcap] 71)
       have c72 := X7a.cell 2
       simp only [kGs] at c72
       have hbig : w1.heap.size + 1 + 1 ≤ wX.heap.size := Nat.le_trans (za TK).big bX.size
       have HS2 : Hid (Mem.shifted (some ⟨b, o, none⟩) a1 (k + k1) Is) := hide hs1'
       obtain ⟨j, hj⟩ : ∃ j, mm - F.len = j + 1 := ⟨mm - F.len - 1, by omega⟩
       have HT2 : Hid (Pl.went (F.app (.cons kids .nil)) (Pl.take (mm - (F.app (.cons kids .nil)).len) (Pl.rowO ((Is.drop (k + k1)).map Pl.It.r))) = T0) := hide (by
        have h' := za HT
        rw [hj, Pl.went_step ht] at h'
        rw [Pl.Fo.len_app, ← h']
        congr 2
        simp only [Pl.Fo.len]
        omega)
       have hlen : (F.app (.cons kids .nil)).len = F.len + 1 := by rw [Pl.Fo.len_app]; rfl
       have HLEN := hide hlen
       clear TK HS HT ht bX hs1' hrest X7a hlen
       go_wp2_with (at_builtin; refine Mem.zb0 _ rfl _ _ 69 rfl (w1.heap.size + 1 + 1) 71 i0 (.agg #[.map none, .int .i64 0, .slice none 0 0]) 3 40 Tryz.underlying69 hi hz0 hz1 hz2 rfl (by decide) _ _ _ rfl (za HR) ⟨wX.heap.size + 1, 0, none⟩ 1 1 [.map q1, .int .i64 m1, .slice va kids.len vcap] rfl rfl (three_new _ _ _ _) (fun u hu => by simp at hu; rcases hu with rfl | rfl | rfl <;> rfl) (by unfold maxLen; omega) (by omega) (by simp; omega) ?_)
       intro v' w4 own' hgrow hfar
       have M7 := za HMD w4 hgrow
       have c74 := M7.cell 2
       have f74 := M7.fr 2
       simp only [kGs] at c74
       have TK2 := hide (za HST w4 v' own' hgrow (by simpa using hfar))
       obtain ⟨vb, vc, rfl⟩ := conc own'
       clear own' hgrow hfar M7 HMD HST HR c72
       go_wp2
       go_roundw
       case rel => exact ⟨k + k1, a1, cap1, _, _, _, s1, rfl, by rw [za HLEN]; go_num, by rw [za HLEN]; omega, by omega, hk1', hc1, HS2, TK2, HT2⟩
       case measure => simp [intOf]; omega
      ·obtain ⟨j, hj⟩ : ∃ j, mm - F.len = j + 1 := ⟨mm - F.len - 1, by omega⟩
       have hno : TT = none := by
        have h' := za HT
        rw [hj, Pl.went_fail ht] at h'
        rw [← za HTT, ← h']; rfl
       have X2a := ((za TK).x2.call bX).alloc (.cells #[.map none, .int .i64 0, .slice none 0 0] 71)
       have c20 := X2a.cell 0
       have c21 := X2a.cell 1
       have c22 := X2a.cell 2
       have f20 := X2a.fr 0
       have f21 := X2a.fr 1
       have f22 := X2a.fr 2
       simp only [kGs] at c20 c21 c22
       have bb : Hid (Below w.heap.size w (wX.alloc (.cells #[.map none, .int .i64 0, .slice none 0 0] 71))) := hide (by
        have b' := (za TK).bel.trans (bX.mono (za TK).bel.size)
        exact b'.alloc b'.size _)
       clear TK HS HT ht bX X2a
       go_wp2
       refine bodyPost_ret (v := .tuple #[.agg #[.map none, .int .i64 0, .slice none 0 0], .slice none 0 0, .iface r1 x1]) (by simp [results, Tryz.results62, go_sem, c20, c21, c22]) rfl ⟨Or.inr ⟨hno, rfl⟩, ?_⟩
       first | exact za bb | exact (((za bb).setCell (Nat.le_refl _) _).setCell (Nat.le_refl _) _).setCell (Nat.le_refl _) _
     ·have u1 : ¬ (F.len : Int) < (mm : Int) := by omega
      have hyes : Hid (TT = some (.cons F .nil, Pl.rowO ((Is.drop k).map Pl.It.r))) := hide <| by
       have h' := za HT
       rw [show mm - F.len = 0 by omega, Pl.went_end] at h'
       rw [← za HTT, ← h']; rfl
      obtain ⟨va, vcap, rfl⟩ := (za TK).conc
      have X2a := (za TK).x2
      have X7a := (za TK).x7
      have c20 := X2a.cell 0
      have c21 := X2a.cell 1
      have c22 := X2a.cell 2
      have f20 := X2a.fr 0
      have f21 := X2a.fr 1
      have f22 := X2a.fr 2
      have c70 := X7a.cell 0
      have c71 := X7a.cell 1
      have c72 := X7a.cell 2
      simp only [kGs] at c20 c21 c22 c70 c71 c72
      clear X2a X7a HT
      go_wp2
      have hrl : (Is.drop k).length = r := by rw [List.length_drop]; omega
      refine bodyPost_ret (v := .tuple #[.agg #[.map (some B), .int .i64 (mm : Int), .slice va F.len vcap], .slice a' r cap', .nilIface]) (by simp [results, Tryz.results62, go_sem, c20, c21, c22]) rfl ⟨Or.inl ⟨F, some B, (mm : Int), _, k, a', cap', za hyes, by rw [hrl], hk, by omega, by rw [hrl]; exact hc, za HS, (za TK).done _ _ _⟩, ?_⟩
      exact (((za TK).bel.setCell (Nat.le_refl _) _).setCell (Nat.le_refl _) _).setCell (Nat.le_refl _) _
  ·rw [Pl.itemO_no hT] at HTT
   have hno : TT = none := (za HTT).symm
   have A2 := A1.alloc (.cells #[.map none, .int .i64 k] 68)
   have c20 := A2.cell 0
   have c21 := A2.cell 1
   have c22 := A2.cell 2
   have f20 := A2.fr 0
   have f21 := A2.fr 1
   have f22 := A2.fr 2
   simp only [kGs] at c20 c21 c22
   have bb := hide (bw1.alloc bw1.size (.cells #[.map none, .int .i64 k] 68))
   clear A1 A2 hT HI bw1
   go_wp2
   refine bodyPost_ret (v := .tuple #[.agg #[.map none, .int .i64 0, .slice none 0 0], .slice none 0 0, .iface r1 x1]) (by simp [results, Tryz.results62, go_sem, c20, c21, c22]) rfl ⟨Or.inr ⟨hno, rfl⟩, ?_⟩
   first | exact za bb | exact (((za bb).setCell (Nat.le_refl _) _).setCell (Nat.le_refl _) _).setCell (Nat.le_refl _) _
end zc0
end Go.Proofs.YtioildojmckepaaGreatDoor

