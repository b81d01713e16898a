/- Several texts of one claim in one file: MemFx, WNestD, WNestF, EachSeq. -/
import Derived.Test.YtkfpfckmjgjanaaDoorG57
import Derived.Test.YtkfpfckmjgjanaaDoorPlainFx
import Derived.Test.YtkfpfckmjgjanaaDoorG03
import Derived.Maps.OwnSet
import Derived.Test.YtkfpfckmjgjanaaDoorG14
import Derived.Test.YtkfpfckmjgjanaaDoorG06
/- A row of nests in memory, with what each is itself: a map of its nodes, how many it has in it, and the row of its layers. -/
namespace Go.Proofs.YtkfpfckmjgjanaaDoor
open Go.RowKit Go.Maps
namespace Mem
/-- A map of nodes in a block. -/
def ownM (w : World) (q : Nat) (L : List Pl.Nd) : Prop := w.ownsMap Tryd.prog 9 MapN.elem q 40 (MapN.mapOf L)
theorem ownM.lt {w : World} {q : Nat} {L : List Pl.Nd} (h : ownM w q L) : q < w.heap.size := World.ownsMap.lt h
theorem ownM.same {w w' : World} {q : Nat} {L : List Pl.Nd} (h : ownM w q L) (e : w'.heap[q]? = w.heap[q]?) : ownM w' q L := by
  obtain ⟨es, clock, hb, F, hs, hD⟩ := h
  exact ⟨es, clock, e.trans hb, F, hs, hD⟩
theorem ownM.call {w w' : World} {q : Nat} {L : List Pl.Nd} (h : ownM w q L) (b : Below w.heap.size w w') : ownM w' q L := h.same (b.block q h.lt)
theorem ownM.set {w : World} {q : Nat} {L : List Pl.Nd} (h : ownM w q L) (p : Addr) (u : Value) (hp : q ≠ p.block) : ownM (w.setCell p u) q L := h.same (heap_setCell_other _ _ _ _ hp)
theorem ownM.grown {w w' : World} {q : Nat} {L : List Pl.Nd} {r : Option Nat} (h : ownM w q L) (g : w.grownBy w' r) (hr : some q ≠ r) : ownM w' q L := h.same (g.block q h.lt hr)
/-- A map of so many entries as it has. -/
theorem tight {w : World} {q n m : Nat} {D : DataW Unit} (h : w.ownsMap Tryd.prog 9 MapN.elem q n D) (hm : Maps.size D ≤ m) : w.ownsMap Tryd.prog 9 MapN.elem q m D := by
  obtain ⟨es, clock, hb, F, hs, rfl⟩ := h
  refine ⟨es, clock, hb, F, ?_, rfl⟩
  rw [Maps.size_eq, length_read] at hm
  exact hm
/-- A row of nests from a cell on; all blocks of it are of a kind. -/
def rowX (w : World) (N : Nat → Prop) : Pl.Fx → Nat → Nat → Prop
  | .nil, _, _ => True
  | .cons L k m, b, i => (∃ q a cap, w.cell? ⟨b, i, none⟩ = some (.map (some q)) ∧ w.cell? ⟨b, i + 1, none⟩ = some (.int .i64 (k.len : Int)) ∧ w.cell? ⟨b, i + 2, none⟩ = some (.slice a k.len cap) ∧ b < w.heap.size ∧ N b ∧ N q ∧ ownM w q L ∧
      (k = .nil ∨ ∃ b', a = some ⟨b', 0, none⟩ ∧ k.len ≤ cap ∧ rowX w N k b' 0)) ∧ rowX w N m b (i + 3)
/-- The layers of a nest: a row of nests, or none. -/
def layX (w : World) (N : Nat → Prop) (k : Pl.Fx) (v : Value) : Prop := ∃ a cap, v = .slice a k.len cap ∧ (k = .nil ∨ ∃ b', a = some ⟨b', 0, none⟩ ∧ k.len ≤ cap ∧ rowX w N k b' 0)
theorem rowX_mono {w w' : World} {N N' : Nat → Prop} (h : ∀ b, N b → b < w.heap.size → N' b ∧ b < w'.heap.size ∧ w'.heap[b]? = w.heap[b]?) (F : Pl.Fx) : ∀ b i, rowX w N F b i → rowX w' N' F b i := by
  induction F with
  | nil => intro b i _; trivial
  | cons L k m ihk ihm =>
    intro b i hr
    obtain ⟨⟨q, a, cap, h1, h2, h3, h4, h5, hq, hm, h6⟩, h7⟩ := hr
    obtain ⟨g1, g2, g3⟩ := h b h5 h4
    obtain ⟨q1, q2, q3⟩ := h q hq hm.lt
    have c : ∀ j, w'.cell? ⟨b, j, none⟩ = w.cell? ⟨b, j, none⟩ := fun j => World.cell?_of_block g3
    refine ⟨⟨q, a, cap, (c _).trans h1, (c _).trans h2, (c _).trans h3, g2, g1, q1, hm.same q3, ?_⟩, ihm _ _ h7⟩
    rcases h6 with h6 | ⟨b', h6, h8, h9⟩
    · exact .inl h6
    · exact .inr ⟨b', h6, h8, ihk _ _ h9⟩
theorem layX_mono {w w' : World} {N N' : Nat → Prop} (h : ∀ b, N b → b < w.heap.size → N' b ∧ b < w'.heap.size ∧ w'.heap[b]? = w.heap[b]?) {k : Pl.Fx} {v : Value} (hl : layX w N k v) : layX w' N' k v := by
  obtain ⟨a, cap, h1, h2⟩ := hl
  refine ⟨a, cap, h1, ?_⟩
  rcases h2 with h2 | ⟨b', h2, h3, h4⟩
  · exact .inl h2
  · exact .inr ⟨b', h2, h3, rowX_mono h _ _ _ h4⟩
theorem rowX_call {w w' : World} {N : Nat → Prop} {F : Pl.Fx} {b i : Nat} (h : rowX w N F b i) (bb : Below w.heap.size w w') : rowX w' N F b i := rowX_mono (fun g hg hl => ⟨hg, Nat.lt_of_lt_of_le hl bb.size, bb.block g hl⟩) _ _ _ h
theorem layX_call {w w' : World} {N : Nat → Prop} {k : Pl.Fx} {v : Value} (h : layX w N k v) (b : Below w.heap.size w w') : layX w' N k v := layX_mono (fun g hg hl => ⟨hg, Nat.lt_of_lt_of_le hl b.size, b.block g hl⟩) h
theorem layX_weak {w : World} {N N' : Nat → Prop} {k : Pl.Fx} {v : Value} (h : layX w N k v) (hn : ∀ b, N b → b < w.heap.size → N' b) : layX w N' k v := layX_mono (fun g hg hl => ⟨hn g hg hl, hl, rfl⟩) h
theorem layX_nil (w : World) (N : Nat → Prop) : layX w N .nil (.slice none 0 0) := ⟨none, 0, rfl, .inl rfl⟩
/-- The shape alone. -/
theorem rowX_row {w : World} {N : Nat → Prop} (F : Pl.Fx) : ∀ b i, rowX w N F b i → rowF w N F.shape b i := by
  induction F with
  | nil => intro b i _; trivial
  | cons L k m ihk ihm =>
    intro b i hr
    obtain ⟨⟨q, a, cap, h1, h2, h3, h4, h5, hq, hm, h6⟩, h7⟩ := hr
    refine ⟨⟨_, _, a, cap, h1, h2, by rw [Pl.Fx.shape_len]; exact h3, h4, h5, ⟨_, rfl⟩, ⟨_, rfl⟩, ?_⟩, ihm _ _ h7⟩
    rcases h6 with h6 | ⟨b', h6, -, h8⟩
    · exact .inl (by rw [h6]; rfl)
    · exact .inr ⟨b', h6, ihk _ _ h8⟩
theorem layX_lay {w : World} {N : Nat → Prop} {k : Pl.Fx} {v : Value} (h : layX w N k v) : lay w N k.shape v := by
  obtain ⟨a, cap, h1, h2⟩ := h
  refine ⟨a, cap, by rw [Pl.Fx.shape_len]; exact h1, ?_⟩
  rcases h2 with h2 | ⟨b', h2, -, h3⟩
  · exact .inl (by rw [h2]; rfl)
  · exact .inr ⟨b', h2, rowX_row _ _ _ h3⟩
/-- The cells of a row of nests, one behind the other. -/
def cellsX (w : World) (N : Nat → Prop) : Pl.Fx → List Value → Prop
  | .nil, xs => xs = []
  | .cons L k m, xs => ∃ q v ys, xs = .map (some q) :: .int .i64 (k.len : Int) :: v :: ys ∧ N q ∧ ownM w q L ∧ layX w N k v ∧ cellsX w N m ys
theorem cellsX_mono {w w' : World} {N N' : Nat → Prop} (h : ∀ b, N b → b < w.heap.size → N' b ∧ b < w'.heap.size ∧ w'.heap[b]? = w.heap[b]?) (F : Pl.Fx) : ∀ xs, cellsX w N F xs → cellsX w' N' F xs := by
  induction F with
  | nil => intro xs h; exact h
  | cons L k m _ ih =>
    intro xs hx
    obtain ⟨q, v, ys, h1, hq, hm, h2, h3⟩ := hx
    obtain ⟨q1, q2, q3⟩ := h q hq hm.lt
    exact ⟨q, v, ys, h1, q1, hm.same q3, layX_mono h h2, ih _ h3⟩
theorem cellsX_snoc {w : World} {N : Nat → Prop} {k : Pl.Fx} {L : List Pl.Nd} {q : Nat} {v : Value} (hq : N q) (hm : ownM w q L) (hv : layX w N k v) (F : Pl.Fx) : ∀ xs, cellsX w N F xs → cellsX w N (F.app (.cons L k .nil)) (xs ++ [.map (some q), .int .i64 (k.len : Int), v]) := by
  induction F with
  | nil => intro xs h; cases h; exact ⟨q, v, [], rfl, hq, hm, hv, rfl⟩
  | cons L' k' m _ ih =>
    intro xs hx
    obtain ⟨q', v', ys, rfl, hq', hm', h2, h3⟩ := hx
    exact ⟨q', v', _, rfl, hq', hm', h2, ih _ h3⟩
theorem rowX_of_cells {w : World} {N N' : Nat → Prop} {g : Nat} (hN : ∀ b, N b → N' b) (hg : N' g) (hlt : g < w.heap.size) (F : Pl.Fx) : ∀ (xs : List Value) (i : Nat), cellsX w N F xs → (∀ j u, xs[j]? = some u → w.cell? ⟨g, i + j, none⟩ = some u) → rowX w N' F g i := by
  induction F with
  | nil => intro xs i _ _; trivial
  | cons L k m _ ih =>
    intro xs i hx hc
    obtain ⟨q, v, ys, rfl, hq, hm, h2, h3⟩ := hx
    obtain ⟨a, cap, rfl, h4⟩ := h2
    refine ⟨⟨q, a, cap, hc 0 _ rfl, hc 1 _ rfl, hc 2 _ rfl, hlt, hg, hN q hq, hm, ?_⟩, ih ys (i + 3) h3 fun j u hj => ?_⟩
    · rcases h4 with h4 | ⟨b', h4, h6, h5⟩
      · exact .inl h4
      · exact .inr ⟨b', h4, h6, rowX_mono (fun b hb hl => ⟨hN b hb, hl, rfl⟩) _ _ _ h5⟩
    · have := hc (j + 3) u (by simpa using hj)
      rw [show i + 3 + j = i + (j + 3) by omega]; exact this
theorem layX_of_row {w : World} {B : Nat} {T : TypeId} {v : Value} {N : Nat → Prop} {F : Pl.Fx} {xs : List Value} (h : w.ownsRow B T 3 v F.len xs) (hc : cellsX w N F xs) (hN : ∀ b, N b → B ≤ b) : layX w (fun b => B ≤ b) F v := by
  rcases h.2 with ⟨rfl, h0⟩ | ⟨g, cap, cur, rfl, hb, hg, hc2, hm, hsz, ht⟩
  · cases F with
    | nil => exact layX_nil _ _
    | cons L k m => simp [Pl.Fx.len] at h0
  · refine ⟨_, cap, rfl, .inr ⟨g, rfl, hc2, rowX_of_cells hN hb (Array.getElem?_eq_some_iff.1 hg).1 F xs 0 hc fun j u hj => ?_⟩⟩
    rw [cell_of_row w g _ cur _ (0, 0) hg, Nat.zero_add]
    rw [← ht, List.getElem?_take] at hj
    split at hj
    · simpa using hj
    · cases hj
end Mem
end Go.Proofs.YtkfpfckmjgjanaaDoor

/- The walks of depth, isLeaf, leaves and level of a nest. -/
namespace Go.Proofs.YtkfpfckmjgjanaaDoor
open Go.RowKit
namespace WNestI
theorem row_below {w w' : World} {N : Nat → Prop} {F : Pl.Fo} {b i : Nat} (h : Mem.rowF w N F b i) (bb : Below w.heap.size w w') : Mem.rowF w' N F b i := Mem.rowF_mono (fun g hg hl => ⟨hg, Nat.lt_of_lt_of_le hl bb.size, bb.block g hl⟩) F b i h
set_option linter.unusedSimpArgs false in
set_option maxRecDepth 100000 in
set_option maxHeartbeats 1000000 in
theorem depth_any (N : Nat → Prop) (n : Nat) (hn : n ≤ 1000) : ∀ (k : Pl.Fo) (q : Option Nat) (m : Int) (v : Value) (w : World), k.sz ≤ n → Mem.lay w N k v →
    Calls Tryd.prog 77 #[.agg #[.map q, .int .i64 m, v]] w fun e w' => e = .returned (.int .i64 ((k.depth : Int) + 1)) ∧ Below w.heap.size w w' := by
  have base : ∀ (q : Option Nat) (m : Int) (a : Option Addr) (cap : Nat) (w : World), Calls Tryd.prog 77 #[.agg #[.map q, .int .i64 m, .slice a 0 cap]] w fun e w' => e = .returned (.int .i64 1) ∧ Below w.heap.size w w' := by
    intro q m a cap w
    go_enter Tryd.func77, Tryd.ntmps77
    go_wp2
    go_loopw [3, 9] (fun d i wr => d = .int .i64 0 ∧ i = .int .i64 0 ∧ Below w.heap.size w wr) (fun _ _ _ => 0)
    case atStart => exact ⟨rfl, rfl, (Below.refl _ _).alloc (Nat.le_refl _) _⟩
    case round =>
      obtain ⟨rfl, rfl, hbel⟩ := hrel
      go_wp2
      go_ret
      exact ⟨rfl, hbel⟩
  induction n with
  | zero =>
    intro k q m v w hs hl
    obtain ⟨a, cap, rfl, -⟩ := hl
    cases k with
    | nil => exact base q m a cap w
    | cons a b => simp [Pl.Fo.sz] at hs
  | succ n ih =>
    intro k q m v w hs hl
    obtain ⟨a, cap, rfl, hrow⟩ := hl
    cases k with
    | nil => exact base q m a cap w
    | cons k0 m0 =>
      rcases hrow with h | ⟨g, rfl, hrow⟩
      · cases h
      generalize hK : Pl.Fo.cons k0 m0 = K at *
      have hKl := K.len_le
      have hKd := K.depth_le
      have b0 : Below w.heap.size w (w.alloc (.cells #[.map q, .int .i64 m, .slice (some ⟨g, 0, none⟩) K.len cap] 69)) := (Below.refl _ _).alloc (Nat.le_refl _) _
      have HI := hide (ih (by omega))
      have R0 : Hid (Mem.rowF (w.alloc (.cells #[.map q, .int .i64 m, .slice (some ⟨g, 0, none⟩) K.len cap] 69)) N K g (0 * 3)) := hide (by simpa using row_below hrow b0)
      clear hK ih hrow base
      go_enter Tryd.func77, Tryd.ntmps77
      go_wp2
      go_loopw [3, 9] (fun d i wr => ∃ (j dd : Nat) (F : Pl.Fo), d = .int .i64 (dd : Int) ∧ i = .int .i64 (j : Int) ∧ j + F.len = K.len ∧ max dd F.depth = K.depth ∧ F.sz ≤ n + 1 ∧ Below w.heap.size w wr ∧ Hid (Mem.rowF wr N F g (j * 3))) (fun _ i _ => K.len - (intOf i).toNat)
      case atStart => exact ⟨0, 0, K, rfl, rfl, by omega, by omega, hs, b0, R0⟩
      case round =>
        obtain ⟨j, dd, F, rfl, rfl, hj, hmax, hsz, hbel, HR⟩ := hrel
        clear R0 b0
        cases F with
        | nil =>
          simp only [Pl.Fo.len, Pl.Fo.depth] at hj hmax
          have u1 : ¬ (j : Int) < (K.len : Int) := by omega
          have hdd : dd = K.depth := by omega
          subst hdd
          go_wp2
          go_ret
          exact ⟨by show Ending.returned (.int .i64 (1 + (K.depth : Int))) = _; rw [Int.add_comm], hbel⟩
        | cons k1 m1 =>
          simp only [Pl.Fo.len, Pl.Fo.depth, Pl.Fo.sz] at hj hmax hsz
          obtain ⟨⟨x, y, a1, cap1, c0, c1, c2, hg, hN, ⟨q1, rfl⟩, ⟨r1, rfl⟩, hsub⟩, hrest⟩ := unhide HR
          have u1 : (j : Int) < (K.len : Int) := by omega
          have u3 : (0 : Int) ≤ (j : Int) := by omega
          have bA : Below wr.heap.size wr (wr.alloc (.cells #[.map q1, .int .i64 r1, .slice a1 k1.len cap1] 69)) := (Below.refl _ _).alloc (Nat.le_refl _) _
          have HL : Mem.lay wr N k1 (.slice a1 k1.len cap1) := ⟨a1, cap1, rfl, hsub⟩
          have hcall := hide (unhide HI k1 q1 r1 _ _ (by omega) (Mem.lay_call HL bA))
          have HRR := hide (row_below hrest bA)
          have bw := hbel.trans (bA.mono hbel.size)
          clear hsub hrest HL HR
          go_wp2_with fail
          refine (unhide hcall).mono ?_
          rintro e wX ⟨rfl, bX⟩
          have bw2 := bw.trans (bX.mono bw.size)
          have HR2 := hide (row_below (unhide HRR) bX)
          rw [show j * 3 + 3 = (j + 1) * 3 by omega] at HR2
          clear hcall HRR bX bw hbel c0 c1 c2 bA
          by_cases hcmp : (dd : Int) ≤ (k1.depth : Int) + 1
          · have e1 : max (dd : Int) ((k1.depth : Int) + 1) = (k1.depth : Int) + 1 := by omega
            go_wp2
            go_roundw
            case rel => exact ⟨j + 1, k1.depth + 1, m1, by go_num, by go_num, by omega, by omega, by omega, bw2, HR2⟩
            case measure => simp [intOf]; omega
          · have e1 : max (dd : Int) ((k1.depth : Int) + 1) = (dd : Int) := by omega
            go_wp2
            go_roundw
            case rel => exact ⟨j + 1, dd, m1, by go_num, by go_num, by omega, by omega, by omega, bw2, HR2⟩
            case measure => simp [intOf]; omega
end WNestI
end Go.Proofs.YtkfpfckmjgjanaaDoor

/- The walks of isLeaf of a nest. -/
namespace Go.Proofs.YtkfpfckmjgjanaaDoor
open Go.RowKit
namespace WNestI
set_option maxRecDepth 100000 in
theorem leaf_any (k : Pl.Fo) (q : Option Nat) (m : Int) (a : Option Addr) (cap : Nat) (w : World) :
    Calls Tryd.prog 80 #[.agg #[.map q, .int .i64 m, .slice a k.len cap]] w fun e w' => e = .returned (.bool (decide (k.len = 0))) ∧ Below w.heap.size w w' := by
  by_cases h : k.len = 0
  · have t : (k.len : Int) = 0 := by omega
    go_enter Tryd.func80, Tryd.ntmps80
    go_wp2
    go_ret
    exact ⟨by simp [h], (Below.refl _ _).alloc (Nat.le_refl _) _⟩
  · have t : ¬ (k.len : Int) = 0 := by omega
    go_enter Tryd.func80, Tryd.ntmps80
    go_wp2
    go_ret
    exact ⟨by simp [h], (Below.refl _ _).alloc (Nat.le_refl _) _⟩
end WNestI
end Go.Proofs.YtkfpfckmjgjanaaDoor

/- The leaves of a nest, one after the other: each, and its iterator. -/
namespace Go.Proofs.YtkfpfckmjgjanaaDoor
open Go.RowKit Go.Shelf
attribute [local go_sem] Oper.semAt_some
namespace Pl
/-- The leaves of a row of nests, in order. -/
def leavesN : Fx → List (List Nd)
  | .nil => []
  | .cons L k m => (if k.len = 0 then [L] else leavesN k) ++ leavesN m
theorem leaves_app (a b : Fx) : leavesN (a.app b) = leavesN a ++ leavesN b := by
  induction a with
  | nil => rfl
  | cons L k m _ ih => rw [Fx.app, leavesN, leavesN, ih, List.append_assoc]
/-- The first nests of a row, and those behind them. -/
def takeX : Nat → Fx → Fx
  | 0, _ => .nil
  | _ + 1, .nil => .nil
  | n + 1, .cons L k m => .cons L k (takeX n m)
def dropX : Nat → Fx → Fx
  | 0, X => X
  | _ + 1, .nil => .nil
  | n + 1, .cons _ _ m => dropX n m
theorem drop_len : ∀ (n : Nat) (X : Fx), (dropX n X).len = X.len - n := by
  intro n
  induction n with
  | zero => intro X; rfl
  | succ n ih =>
    intro X
    cases X with
    | nil => simp [dropX, Fx.len]
    | cons L k m => rw [dropX, ih, Fx.len]; omega
theorem drop_next {n : Nat} : ∀ {X : Fx} {L : List Nd} {k m : Fx}, dropX n X = .cons L k m → dropX (n + 1) X = m := by
  induction n with
  | zero => intro X L k m h; cases X with
    | nil => cases h
    | cons L' k' m' => cases h; rfl
  | succ n ih => intro X L k m h; cases X with
    | nil => cases h
    | cons L' k' m' => exact ih h
theorem drop_sz {n : Nat} : ∀ {X : Fx} {L : List Nd} {k m : Fx}, dropX n X = .cons L k m → k.sz < X.sz := by
  induction n with
  | zero => intro X L k m h; cases X with
    | nil => cases h
    | cons L' k' m' => cases h; simp [Fx.sz]; omega
  | succ n ih => intro X L k m h; cases X with
    | nil => cases h
    | cons L' k' m' => have := ih (X := m') h; simp [Fx.sz]; omega
theorem drop_ok {n : Nat} : ∀ {X : Fx}, X.okX → (dropX n X).okX := by
  induction n with
  | zero => intro X h; exact h
  | succ n ih => intro X h; cases X with
    | nil => trivial
    | cons L k m => exact ih h.2.2.2.2
theorem drop_leaves {n : Nat} : ∀ {X : Fx} {L : List Nd} {k m : Fx}, dropX n X = .cons L k m → ∀ ls, ls ++ leavesN (dropX n X) = leavesN X → (ls ++ leavesN (.cons L k .nil)) ++ leavesN (dropX (n + 1) X) = leavesN X := by
  intro X L k m h ls hl
  rw [drop_next h, ← hl, h, leavesN, leavesN, leavesN]
  simp
end Pl
namespace Rng
theorem yield_any {F : Fence} (hd : F.depth = none) {m : Nat} (m' : Nat) {P : Program} {l : Nat} {args : Array Value} {W : World} {R : Ending → World → Prop} (h : YieldAt F m P l args W R) : YieldAt F m' P l args W R := by
  obtain ⟨fn, tmps, assign, body, hy, hR⟩ := h
  exact ⟨fn, tmps, assign, body, hy, hR.1, fun c cs _ => hR.2 c cs (fun d h => by rw [hd] at h; cases h)⟩
/-- All that was there is there as it was. -/
structure Keep (w0 W : World) : Prop where
  size : w0.heap.size ≤ W.heap.size
  same : ∀ j, j < w0.heap.size → W.heap[j]? = w0.heap[j]?
theorem Keep.of_below {w0 W : World} (b : Below w0.heap.size w0 W) : Keep w0 W := ⟨b.size, fun j hj => b.block j hj⟩
theorem Keep.trans {A B D : World} (h : Keep A B) (k : Keep B D) : Keep A D := ⟨Nat.le_trans h.size k.size, fun j hj => (k.same j (Nat.lt_of_lt_of_le hj h.size)).trans (h.same j hj)⟩
theorem Keep.grown {w0 W W' : World} {row : Option Nat} (h : Keep w0 W) (g : W.grownBy W' row) (hr : ∀ r, row = some r → w0.heap.size ≤ r) : Keep w0 W' :=
  ⟨Nat.le_trans h.size g.size, fun j hj => (g.block j (Nat.lt_of_lt_of_le hj h.size) (fun e => by have := hr j e.symm; omega)).trans (h.same j hj)⟩
theorem Keep.kq {w0 W W' : World} {C : World → Nat → Prop} {R : Nat → Prop} (h : Keep w0 W) (k : Kq C R W W') (hC : ∀ j, C W j → w0.heap.size ≤ j) (hR : ∀ j, R j → w0.heap.size ≤ j) : Keep w0 W' := by
  refine ⟨Nat.le_trans h.size k.size, fun j hj => ?_⟩
  have e := h.same j hj
  have hlt : j < W.heap.size := Nat.lt_of_lt_of_le hj h.size
  rw [← e]
  have h2 : W.heap[j]? = some W.heap[j] := Array.getElem?_eq_getElem hlt
  rw [h2]
  exact k.kept j _ h2 (fun _ hc => by have := hC j hc; omega) (fun _ hc => by have := hR j hc; omega)
theorem Keep.own {w0 W : World} {q : Nat} {L : List Pl.Nd} (h : Keep w0 W) (m : Mem.ownM w0 q L) : Mem.ownM W q L := m.same (h.same q m.lt)
theorem Keep.cell {w0 W : World} (h : Keep w0 W) {p : Addr} (hp : p.block < w0.heap.size) : W.cell? p = w0.cell? p := World.cell?_of_block (h.same _ hp)
/-- What is C's lies between two bounds, and hangs on cells alone. -/
structure Good (w0 : World) (B : Nat) (C : World → Nat → Prop) : Prop where
  step : Mine B C
  rng : ∀ W, B ≤ W.heap.size → ∀ j, C W j → w0.heap.size ≤ j ∧ j < W.heap.size
/-- What is left on the way out of a function: marks alone. -/
theorem leave {F : Fence} {n : Nat} {P : Program} {fn : Func} {tmps : Array Value} {R : Ending → World → Prop} (Φ : World → Prop) (hend : ∀ W, Φ W → LeavesIn F n P fn tmps R [] .returning W) :
    ∀ (Ds : List Nat) (W : World), Ds.Nodup → (∀ D ∈ Ds, W.heap[D]? = some (.deferred (some []))) → Φ W → (∀ D ∈ Ds, ∀ W, Φ W → W.heap[D]? = some (.deferred (some [])) → Φ (W.putObj D (.deferred none))) →
      LeavesInM F n P fn tmps R (Ds.map fun D => { target := .collected D, args := #[] }) .returning W := by
  intro Ds
  induction Ds with
  | nil => intro W _ _ h _; exact hend W h
  | cons D Ds ih =>
    intro W hn hd h hp
    rw [List.nodup_cons] at hn
    refine ⟨by simp, .inl ⟨D, _, rfl, run_takeDeferred (hd D (List.mem_cons_self ..)), ?_⟩⟩
    refine ih _ hn.2 (fun E hE => ?_) (hp D (List.mem_cons_self ..) W h (hd D (List.mem_cons_self ..))) (fun E hE => hp E (List.mem_cons_of_mem _ hE))
    exact (World.putObj_heap_other (fun e => hn.1 (by rw [← e]; exact hE))).trans (hd E (List.mem_cons_of_mem _ hE))
end Rng
end Go.Proofs.YtkfpfckmjgjanaaDoor

