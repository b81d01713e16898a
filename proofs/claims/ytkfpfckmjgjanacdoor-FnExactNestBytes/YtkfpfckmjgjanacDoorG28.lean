/- Several texts of one claim in one file: MemNest, WTakeI. -/
import Derived.Test.YtkfpfckmjgjanacDoorG27
import Derived.Test.YtkfpfckmjgjanacDoorPlainNest
/- A row of nests in memory: each a map, a number and the row of its layers. -/
namespace Go.Proofs.YtkfpfckmjgjanacDoor
open Go.RowKit
namespace Mem
/-- A row of nests from a cell on; all blocks of it are of a kind. -/
def rowF (w : World) (N : Nat → Prop) : Pl.Fo → Nat → Nat → Prop
  | .nil, _, _ => True
  | .cons k m, b, i => (∃ x y a cap, w.cell? ⟨b, i, none⟩ = some x ∧ w.cell? ⟨b, i + 1, none⟩ = some y ∧ w.cell? ⟨b, i + 2, none⟩ = some (.slice a k.len cap) ∧ b < w.heap.size ∧ N b ∧
      (∃ q, x = .map q) ∧ (∃ q, y = .int .i64 q) ∧ (k = .nil ∨ ∃ b', a = some ⟨b', 0, none⟩ ∧ rowF w N k b' 0)) ∧ rowF w N m b (i + 3)
/-- The layers of a nest: a row of nests, or none. -/
def lay (w : World) (N : Nat → Prop) (k : Pl.Fo) (v : Value) : Prop := ∃ a cap, v = .slice a k.len cap ∧ (k = .nil ∨ ∃ b', a = some ⟨b', 0, none⟩ ∧ rowF w N k b' 0)
theorem rowF_mono {w w' : World} {N N' : Nat → Prop} (h : ∀ b, N b → b < w.heap.size → N' b ∧ b < w'.heap.size ∧ w'.heap[b]? = w.heap[b]?) (F : Pl.Fo) : ∀ b i, rowF w N F b i → rowF w' N' F b i := by
  induction F with
  | nil => intro b i _; trivial
  | cons k m ihk ihm =>
    intro b i hr
    obtain ⟨⟨x, y, a, cap, h1, h2, h3, h4, h5, hx, hy, h6⟩, h7⟩ := hr
    obtain ⟨g1, g2, g3⟩ := h b h5 h4
    have c : ∀ j, w'.cell? ⟨b, j, none⟩ = w.cell? ⟨b, j, none⟩ := fun j => World.cell?_of_block g3
    refine ⟨⟨x, y, a, cap, (c _).trans h1, (c _).trans h2, (c _).trans h3, g2, g1, hx, hy, ?_⟩, ihm _ _ h7⟩
    rcases h6 with h6 | ⟨b', h6, h8⟩
    · exact .inl h6
    · exact .inr ⟨b', h6, ihk _ _ h8⟩
theorem lay_mono {w w' : World} {N N' : Nat → Prop} (h : ∀ b, N b → b < w.heap.size → N' b ∧ b < w'.heap.size ∧ w'.heap[b]? = w.heap[b]?) {k : Pl.Fo} {v : Value} (hl : lay w N k v) : lay w' N' k v := by
  obtain ⟨a, cap, h1, h2⟩ := hl
  refine ⟨a, cap, h1, ?_⟩
  rcases h2 with h2 | ⟨b', h2, h3⟩
  · exact .inl h2
  · exact .inr ⟨b', h2, rowF_mono h _ _ _ h3⟩
theorem lay_call {w w' : World} {N : Nat → Prop} {k : Pl.Fo} {v : Value} (h : lay w N k v) (b : Below w.heap.size w w') : lay w' N k v := lay_mono (fun g hg hl => ⟨hg, Nat.lt_of_lt_of_le hl b.size, b.block g hl⟩) h
theorem lay_weak {w : World} {N N' : Nat → Prop} {k : Pl.Fo} {v : Value} (h : lay w N k v) (hn : ∀ b, N b → b < w.heap.size → N' b) : lay w N' k v := lay_mono (fun g hg hl => ⟨hn g hg hl, hl, rfl⟩) h
theorem lay_nil (w : World) (N : Nat → Prop) : lay w N .nil (.slice none 0 0) := ⟨none, 0, rfl, .inl rfl⟩
/-- The cells of a row of nests, one behind the other. -/
def cellsF (w : World) (N : Nat → Prop) : Pl.Fo → List Value → Prop
  | .nil, xs => xs = []
  | .cons k m, xs => ∃ q r v ys, xs = .map q :: .int .i64 r :: v :: ys ∧ lay w N k v ∧ cellsF w N m ys
theorem cellsF_mono {w w' : World} {N N' : Nat → Prop} (h : ∀ b, N b → b < w.heap.size → N' b ∧ b < w'.heap.size ∧ w'.heap[b]? = w.heap[b]?) (F : Pl.Fo) : ∀ xs, cellsF w N F xs → cellsF w' N' F xs := by
  induction F with
  | nil => intro xs h; exact h
  | cons k m _ ih =>
    intro xs hx
    obtain ⟨q, r, v, ys, h1, h2, h3⟩ := hx
    exact ⟨q, r, v, ys, h1, lay_mono h h2, ih _ h3⟩
theorem cellsF_snoc {w : World} {N : Nat → Prop} {k : Pl.Fo} {q : Option Nat} {r : Int} {v : Value} (hv : lay w N k v) (F : Pl.Fo) : ∀ xs, cellsF w N F xs → cellsF w N (F.app (.cons k .nil)) (xs ++ [.map q, .int .i64 r, v]) := by
  induction F with
  | nil => intro xs h; cases h; exact ⟨q, r, v, [], rfl, hv, rfl⟩
  | cons k' m _ ih =>
    intro xs hx
    obtain ⟨q', r', v', ys, rfl, h2, h3⟩ := hx
    exact ⟨q', r', v', _, rfl, h2, ih _ h3⟩
theorem row_of_cells {w : World} {N N' : Nat → Prop} {g : Nat} (hN : ∀ b, N b → N' b) (hg : N' g) (hlt : g < w.heap.size) (F : Pl.Fo) : ∀ (xs : List Value) (i : Nat), cellsF w N F xs → (∀ j u, xs[j]? = some u → w.cell? ⟨g, i + j, none⟩ = some u) → rowF w N' F g i := by
  induction F with
  | nil => intro xs i _ _; trivial
  | cons k m _ ih =>
    intro xs i hx hc
    obtain ⟨q, r, v, ys, rfl, h2, h3⟩ := hx
    obtain ⟨a, cap, rfl, h4⟩ := h2
    refine ⟨⟨_, _, a, cap, hc 0 _ rfl, hc 1 _ rfl, hc 2 _ rfl, hlt, hg, ⟨q, rfl⟩, ⟨r, rfl⟩, ?_⟩, ih ys (i + 3) h3 fun j u hj => ?_⟩
    · rcases h4 with h4 | ⟨b', h4, h5⟩
      · exact .inl h4
      · exact .inr ⟨b', h4, rowF_mono (fun b hb hl => ⟨hN b hb, hl, rfl⟩) _ _ _ h5⟩
    · have := hc (j + 3) u (by simpa using hj)
      rw [show i + 3 + j = i + (j + 3) by omega]; exact this
theorem lay_of_row {w : World} {B : Nat} {T : TypeId} {v : Value} {N : Nat → Prop} {F : Pl.Fo} {xs : List Value} (h : w.ownsRow B T 3 v F.len xs) (hc : cellsF w N F xs) (hN : ∀ b, N b → B ≤ b) : lay w (fun b => B ≤ b) F v := by
  rcases h.2 with ⟨rfl, h0⟩ | ⟨g, cap, cur, rfl, hb, hg, hc2, hm, hsz, ht⟩
  · cases F with
    | nil => exact lay_nil _ _
    | cons k m => simp [Pl.Fo.len] at h0
  · refine ⟨_, cap, rfl, .inr ⟨g, rfl, row_of_cells hN hb (Array.getElem?_eq_some_iff.1 hg).1 F xs 0 hc fun j u hj => ?_⟩⟩
    rw [cell_of_row w g _ cur _ (0, 0) hg, Nat.zero_add]
    rw [← ht, List.getElem?_take] at hj
    split at hj
    · simpa using hj
    · cases hj
end Mem
end Go.Proofs.YtkfpfckmjgjanacDoor

/- The walk of takeNest. -/
namespace Go.Proofs.YtkfpfckmjgjanacDoor
open Go.RowKit
namespace WNestI
theorem infoN : (Tryd.prog.info? 57).map (fun i => (i.zero, i.size, i.bytes)) = some (some (.agg #[.map none, .int .i64 0, .slice none 0 0]), 3, 40) := by kernel_rfl
/-- How far takeNest has come: its variables, and the row of what it took so far. -/
structure Tk (w wr : World) (B X2 X7 : Nat) (q : Option Nat) (m : Int) (v : Value) (F : Pl.Fo) (xs : List Value) : Prop where
  bel : Below w.heap.size w wr
  big : B ≤ wr.heap.size
  x2 : Mem.Blk wr X2 #[.map none, .int .i64 0, .slice none 0 0] 57
  x7 : Mem.Blk wr X7 #[.map q, .int .i64 m, v] 57
  l2 : w.heap.size ≤ X2 ∧ X2 < B
  l7 : w.heap.size ≤ X7 ∧ X7 < B
  ne : X2 ≠ X7
  row : wr.ownsRow B 57 3 v F.len xs
  cells : Mem.cellsF wr (fun b => B ≤ b ∧ v.ownBlock ≠ some b) F xs
theorem row_call {w w' : World} {B n s : Nat} {T : TypeId} {v : Value} {xs : List Value} (h : w.ownsRow B T s v n xs) (b : Below w.heap.size w w') : w'.ownsRow B T s v n xs := by
  refine ⟨h.1, ?_⟩
  rcases h.2 with h0 | ⟨g, cap, cur, hv, hb, hg, rest⟩
  · exact .inl h0
  · exact .inr ⟨g, cap, cur, hv, hb, (b.block g (Array.getElem?_eq_some_iff.1 hg).1).trans hg, rest⟩
theorem row_set {w : World} {B n s : Nat} {T : TypeId} {v : Value} {xs : List Value} (h : w.ownsRow B T s v n xs) (p : Addr) (u : Value) (hp : p.block < B) : (w.setCell p u).ownsRow B T s v n xs := by
  refine ⟨h.1, ?_⟩
  rcases h.2 with h0 | ⟨g, cap, cur, hv, hb, hg, rest⟩
  · exact .inl h0
  · exact .inr ⟨g, cap, cur, hv, hb, (heap_setCell_other _ _ _ _ (by omega)).trans hg, rest⟩
theorem Tk.step {w wr w1 w4 : World} {B X2 X7 : Nat} {q q1 : Option Nat} {m m1 : Int} {v v1 v' : Value} {F kids : Pl.Fo} {xs : List Value} {o1 o2 : Obj} (h : Tk w wr B X2 X7 q m v F xs)
    (b1 : Below wr.heap.size wr w1) (hl : Mem.lay w1 (fun b => wr.heap.size ≤ b) kids v1)
    (own : w4.ownsRow B 57 3 v' (F.len + 1) (xs ++ [.map q1, .int .i64 m1, v1])) (gr : ((w1.alloc o1).alloc o2).grownBy w4 v.ownBlock) (far : ∀ g, v'.ownBlock = some g → v.ownBlock = some g ∨ ((w1.alloc o1).alloc o2).heap.size ≤ g) :
    Tk w (w4.setCell ⟨X7, 2, none⟩ v') B X2 X7 q m v' (F.app (.cons kids .nil)) (xs ++ [.map q1, .int .i64 m1, v1]) := by
  have hw1 : wr.heap.size ≤ w1.heap.size := b1.size
  have hs3 : ((w1.alloc o1).alloc o2).heap.size = w1.heap.size + 1 + 1 := by simp
  have b3 : Below wr.heap.size wr ((w1.alloc o1).alloc o2) := (b1.alloc hw1 o1).alloc (by simp; omega) o2
  have b13 : Below w1.heap.size w1 ((w1.alloc o1).alloc o2) := ((Below.refl _ _).alloc (Nat.le_refl _) o1).alloc (by simp) o2
  have e5 : (w4.setCell ⟨X7, 2, none⟩ v').heap.size = w4.heap.size := by simp
  have hv7 : some X7 ≠ v.ownBlock := fun e => by have := (h.row.lt X7 e.symm).1; have := h.l7.2; omega
  have hv2 : some X2 ≠ v.ownBlock := fun e => by have := (h.row.lt X2 e.symm).1; have := h.l2.2; omega
  have hbig := h.big
  have keep : ∀ b, B ≤ b → v.ownBlock ≠ some b → b < w1.heap.size → (w4.setCell ⟨X7, 2, none⟩ v').heap[b]? = w1.heap[b]? := fun b hb hne hlt => by
    rw [heap_setCell_other _ _ _ _ (by show b ≠ X7; have := h.l7.2; omega), gr.block b (by omega) (fun e => hne e.symm)]
    exact b13.block b hlt
  have hsz : ∀ b, b < w1.heap.size → b < (w4.setCell ⟨X7, 2, none⟩ v').heap.size := fun b hb => by have := gr.size; omega
  have hnew : ∀ b, v.ownBlock ≠ some b → b < w1.heap.size → v'.ownBlock ≠ some b := fun b hne hlt e => by
    rcases far b e with h' | h'
    · exact hne h'
    · omega
  refine ⟨?_, ?_, ?_, ?_, h.l2, h.l7, h.ne, ?_, ?_⟩
  · refine Below.setCell ?_ (by show w.heap.size ≤ X7; exact h.l7.1) _
    have bw3 := h.bel.trans (b3.mono h.bel.size)
    refine ⟨gr.os.trans bw3.os, gr.tape.trans bw3.tape, gr.output.trans bw3.output, Nat.le_trans bw3.size gr.size, fun k hk => ?_⟩
    have hk2 := h.bel.size
    rw [gr.block k (by omega) (fun e => by have := (h.row.lt k e.symm).1; have := h.l7; omega)]
    exact bw3.block k hk
  · have := gr.size; omega
  · exact ((h.x2.call b3).grown gr hv2).far _ _ h.ne
  · exact ((h.x7.call b3).grown gr hv7).put 2 v'
  · rw [Pl.Fo.len_app]
    exact row_set own _ _ h.l7.2
  · refine Mem.cellsF_snoc (Mem.lay_mono (fun b hb hlt => ?_) hl) F xs (Mem.cellsF_mono (fun b hb hlt => ?_) F xs h.cells)
    · have hne : v.ownBlock ≠ some b := fun e => by have := (h.row.lt b e).2; omega
      exact ⟨⟨by omega, hnew b hne hlt⟩, hsz b hlt, keep b (by omega) hne hlt⟩
    · exact ⟨⟨hb.1, hnew b hb.2 (by omega)⟩, hsz b (by omega), (keep b hb.1 hb.2 (by omega)).trans (b1.block b hlt)⟩
theorem Tk.mid {w wr w1 w4 : World} {B X2 X7 : Nat} {q : Option Nat} {m : Int} {v : Value} {F : Pl.Fo} {xs : List Value} {o1 o2 : Obj} (h : Tk w wr B X2 X7 q m v F xs)
    (b1 : Below wr.heap.size wr w1) (gr : ((w1.alloc o1).alloc o2).grownBy w4 v.ownBlock) : Mem.Blk w4 X7 #[.map q, .int .i64 m, v] 57 :=
  (((h.x7.call b1).alloc o1).alloc o2).grown gr (fun e => by have := (h.row.lt X7 e.symm).1; have := h.l7.2; omega)
theorem Tk.conc {w wr : World} {B X2 X7 : Nat} {q : Option Nat} {m : Int} {v : Value} {F : Pl.Fo} {xs : List Value} (h : Tk w wr B X2 X7 q m v F xs) : ∃ a cap, v = .slice a F.len cap := by
  rcases h.row.2 with ⟨h1, h0⟩ | ⟨g, cap, cur, h1, _⟩
  · exact ⟨none, 0, by rw [h1, h0]⟩
  · exact ⟨_, cap, h1⟩
theorem conc {w : World} {B n s : Nat} {T : TypeId} {v : Value} {xs : List Value} (h : w.ownsRow B T s v n xs) : ∃ a cap, v = .slice a n cap := by
  rcases h.2 with ⟨h1, h0⟩ | ⟨g, cap, cur, h1, _⟩
  · exact ⟨none, 0, by rw [h1, h0]⟩
  · exact ⟨_, cap, h1⟩
theorem three_new (w : World) (cs : List Value) (T : TypeId) (o : Obj) : ∀ j u, cs[j]? = some u → ((w.alloc o).alloc (.cells cs.toArray T)).cell? ((⟨w.heap.size + 1, 0, none⟩ : Addr).add j) = some u := by
  intro j u hj
  rw [Mem.add_lit]
  have := (Mem.var_new (w.alloc o) cs T).2 j u hj
  simpa using this
/-- What is seen behind it all: the layers, through the stores to the result. -/
theorem Tk.done {w wr : World} {B X2 X7 : Nat} {q : Option Nat} {m : Int} {v : Value} {F : Pl.Fo} {xs : List Value} (h : Tk w wr B X2 X7 q m v F xs) (u0 u1 u2 : Value) :
    Mem.lay (((wr.setCell ⟨X2, 0, none⟩ u0).setCell ⟨X2, 1, none⟩ u1).setCell ⟨X2, 2, none⟩ u2) (fun b => w.heap.size ≤ b) F v := by
  refine Mem.lay_mono (fun b hb hlt => ⟨?_, by simpa using hlt, ?_⟩) (Mem.lay_of_row h.row h.cells (fun b hb => hb.1))
  · have := h.l2; omega
  · have := h.l2.2
    rw [heap_setCell_other _ _ _ _ (by show b ≠ X2; omega), heap_setCell_other _ _ _ _ (by show b ≠ X2; omega), heap_setCell_other _ _ _ _ (by show b ≠ X2; omega)]
end WNestI
end Go.Proofs.YtkfpfckmjgjanacDoor

