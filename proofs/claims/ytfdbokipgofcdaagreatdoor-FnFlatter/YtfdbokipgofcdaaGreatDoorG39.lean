/- Several texts of one claim in one file: MemFx, MemFlat, MemMaps, WTakeX. -/
import Derived.Test.YtfdbokipgofcdaaGreatDoorG07
import Derived.Test.YtfdbokipgofcdaaGreatDoorG03
import Derived.Test.YtfdbokipgofcdaaGreatDoorG13
import Derived.Test.YtfdbokipgofcdaaGreatDoorG34
import Derived.Laws.Append
import Derived.Deep.RegionHeld3
import Derived.Test.YtfdbokipgofcdaaGreatDoorG04
namespace Go.Proofs.YtfdbokipgofcdaaGreatDoor
open Go.RowKit Go.Maps
namespace Mem
def ownM (w : World) (q : Nat) (L : List Pl.Nd) : Prop := w.ownsMap Tryz.prog 9 MapN.elem q 40 (MapN.mapOf L)
theorem ownM.lt {w : World} {q : Nat} {L : List Pl.Nd} (h : ownM w q L) : q < w.heap.size := World.ownsMap.lt h
theorem ownM.same {w w' : World} {q : Nat} {L : List Pl.Nd} (h : ownM w q L) (e : w'.heap[q]? = w.heap[q]?) : ownM w' q L := by
 obtain ⟨es, clock, hb, F, hs, hD⟩ := h
 exact ⟨es, clock, e.trans hb, F, hs, hD⟩
theorem ownM.call {w w' : World} {q : Nat} {L : List Pl.Nd} (h : ownM w q L) (b : Below w.heap.size w w') : ownM w' q L := h.same (b.block q h.lt)
theorem ownM.set {w : World} {q : Nat} {L : List Pl.Nd} (h : ownM w q L) (p : Addr) (u : Value) (hp : q ≠ p.block) : ownM (w.setCell p u) q L := h.same (heap_setCell_other _ _ _ _ hp)
theorem ownM.grown {w w' : World} {q : Nat} {L : List Pl.Nd} {r : Option Nat} (h : ownM w q L) (g : w.grownBy w' r) (hr : some q ≠ r) : ownM w' q L := h.same (g.block q h.lt hr)
theorem tight {w : World} {q n m : Nat} {D : DataW Unit} (h : w.ownsMap Tryz.prog 9 MapN.elem q n D) (hm : Maps.size D ≤ m) : w.ownsMap Tryz.prog 9 MapN.elem q m D := by
 obtain ⟨es, clock, hb, F, hs, rfl⟩ := h
 refine ⟨es, clock, hb, F, ?_, rfl⟩
 rw [Maps.size_eq, length_read] at hm
 exact hm
def rowX (w : World) (N : Nat → Prop) : Pl.Fx → Nat → Nat → Prop
 | .nil, _, _ => True
 | .cons L k m, b, i => (∃ q a cap, w.cell? ⟨b, i, none⟩ = some (.map (some q)) ∧ w.cell? ⟨b, i + 1, none⟩ = some (.int .i64 (k.len : Int)) ∧ w.cell? ⟨b, i + 2, none⟩ = some (.slice a k.len cap) ∧ b < w.heap.size ∧ N b ∧ N q ∧ ownM w q L ∧
   (k = .nil ∨ ∃ b', a = some ⟨b', 0, none⟩ ∧ k.len ≤ cap ∧ rowX w N k b' 0)) ∧ rowX w N m b (i + 3)
def layX (w : World) (N : Nat → Prop) (k : Pl.Fx) (v : Value) : Prop := ∃ a cap, v = .slice a k.len cap ∧ (k = .nil ∨ ∃ b', a = some ⟨b', 0, none⟩ ∧ k.len ≤ cap ∧ rowX w N k b' 0)
theorem zt2 {w w' : World} {N N' : Nat → Prop} (h : ∀ b, N b → b < w.heap.size → N' b ∧ b < w'.heap.size ∧ w'.heap[b]? = w.heap[b]?) (F : Pl.Fx) : ∀ b i, rowX w N F b i → rowX w' N' F b i := by
 induction F with
 | nil => intro b i _; trivial
 | cons L k m ihk ihm =>
  intro b i hr
  obtain ⟨⟨q, a, cap, h1, h2, h3, h4, h5, hq, hm, h6⟩, h7⟩ := hr
  obtain ⟨g1, g2, g3⟩ := h b h5 h4
  obtain ⟨q1, q2, q3⟩ := h q hq hm.lt
  have c : ∀ j, w'.cell? ⟨b, j, none⟩ = w.cell? ⟨b, j, none⟩ := fun j => World.cell?_of_block g3
  refine ⟨⟨q, a, cap, (c _).trans h1, (c _).trans h2, (c _).trans h3, g2, g1, q1, hm.same q3, ?_⟩, ihm _ _ h7⟩
  rcases h6 with h6 | ⟨b', h6, h8, h9⟩
  ·exact .inl h6
  ·exact .inr ⟨b', h6, h8, ihk _ _ h9⟩
theorem zq7 {w w' : World} {N N' : Nat → Prop} (h : ∀ b, N b → b < w.heap.size → N' b ∧ b < w'.heap.size ∧ w'.heap[b]? = w.heap[b]?) {k : Pl.Fx} {v : Value} (hl : layX w N k v) : layX w' N' k v := by
 obtain ⟨a, cap, h1, h2⟩ := hl
 refine ⟨a, cap, h1, ?_⟩
 rcases h2 with h2 | ⟨b', h2, h3, h4⟩
 ·exact .inl h2
 ·exact .inr ⟨b', h2, h3, zt2 h _ _ _ h4⟩
theorem zl9 {w w' : World} {N : Nat → Prop} {F : Pl.Fx} {b i : Nat} (h : rowX w N F b i) (bb : Below w.heap.size w w') : rowX w' N F b i := zt2 (fun g hg hl => ⟨hg, Nat.lt_of_lt_of_le hl bb.size, bb.block g hl⟩) _ _ _ h
theorem zt5 {w w' : World} {N : Nat → Prop} {k : Pl.Fx} {v : Value} (h : layX w N k v) (b : Below w.heap.size w w') : layX w' N k v := zq7 (fun g hg hl => ⟨hg, Nat.lt_of_lt_of_le hl b.size, b.block g hl⟩) h
theorem layX_nil (w : World) (N : Nat → Prop) : layX w N .nil (.slice none 0 0) := ⟨none, 0, rfl, .inl rfl⟩
theorem rowX_row {w : World} {N : Nat → Prop} (F : Pl.Fx) : ∀ b i, rowX w N F b i → rowF w N F.shape b i := by
 induction F with
 | nil => intro b i _; trivial
 | cons L k m ihk ihm =>
  intro b i hr
  obtain ⟨⟨q, a, cap, h1, h2, h3, h4, h5, hq, hm, h6⟩, h7⟩ := hr
  refine ⟨⟨_, _, a, cap, h1, h2, by rw [Pl.Fx.zt7]; exact h3, h4, h5, ⟨_, rfl⟩, ⟨_, rfl⟩, ?_⟩, ihm _ _ h7⟩
  rcases h6 with h6 | ⟨b', h6, -, h8⟩
  ·exact .inl (by rw [h6]; rfl)
  ·exact .inr ⟨b', h6, ihk _ _ h8⟩
theorem layX_lay {w : World} {N : Nat → Prop} {k : Pl.Fx} {v : Value} (h : layX w N k v) : lay w N k.shape v := by
 obtain ⟨a, cap, h1, h2⟩ := h
 refine ⟨a, cap, by rw [Pl.Fx.zt7]; exact h1, ?_⟩
 rcases h2 with h2 | ⟨b', h2, -, h3⟩
 ·exact .inl (by rw [h2]; rfl)
 ·exact .inr ⟨b', h2, rowX_row _ _ _ h3⟩
def zj7 (w : World) (N : Nat → Prop) : Pl.Fx → List Value → Prop
 | .nil, xs => xs = []
 | .cons L k m, xs => ∃ q v ys, xs = .map (some q) :: .int .i64 (k.len : Int) :: v :: ys ∧ N q ∧ ownM w q L ∧ layX w N k v ∧ zj7 w N m ys
theorem zn1 {w w' : World} {N N' : Nat → Prop} (h : ∀ b, N b → b < w.heap.size → N' b ∧ b < w'.heap.size ∧ w'.heap[b]? = w.heap[b]?) (F : Pl.Fx) : ∀ xs, zj7 w N F xs → zj7 w' N' F xs := by
 induction F with
 | nil => intro xs h; exact h
 | cons L k m _ ih =>
  intro xs hx
  obtain ⟨q, v, ys, h1, hq, hm, h2, h3⟩ := hx
  obtain ⟨q1, q2, q3⟩ := h q hq hm.lt
  exact ⟨q, v, ys, h1, q1, hm.same q3, zq7 h h2, ih _ h3⟩
theorem cellsX_snoc {w : World} {N : Nat → Prop} {k : Pl.Fx} {L : List Pl.Nd} {q : Nat} {v : Value} (hq : N q) (hm : ownM w q L) (hv : layX w N k v) (F : Pl.Fx) : ∀ xs, zj7 w N F xs → zj7 w N (F.app (.cons L k .nil)) (xs ++ [.map (some q), .int .i64 (k.len : Int), v]) := by
 induction F with
 | nil => intro xs h; cases h; exact ⟨q, v, [], rfl, hq, hm, hv, rfl⟩
 | cons L' k' m _ ih =>
  intro xs hx
  obtain ⟨q', v', ys, rfl, hq', hm', h2, h3⟩ := hx
  exact ⟨q', v', _, rfl, hq', hm', h2, ih _ h3⟩
theorem zw0 {w : World} {N N' : Nat → Prop} {g : Nat} (hN : ∀ b, N b → N' b) (hg : N' g) (hlt : g < w.heap.size) (F : Pl.Fx) : ∀ (xs : List Value) (i : Nat), zj7 w N F xs → (∀ j u, xs[j]? = some u → w.cell? ⟨g, i + j, none⟩ = some u) → rowX w N' F g i := by
 induction F with
 | nil => intro xs i _ _; trivial
 | cons L k m _ ih =>
  intro xs i hx hc
  obtain ⟨q, v, ys, rfl, hq, hm, h2, h3⟩ := hx
  obtain ⟨a, cap, rfl, h4⟩ := h2
  refine ⟨⟨q, a, cap, hc 0 _ rfl, hc 1 _ rfl, hc 2 _ rfl, hlt, hg, hN q hq, hm, ?_⟩, ih ys (i + 3) h3 fun j u hj => ?_⟩
  ·rcases h4 with h4 | ⟨b', h4, h6, h5⟩
   ·exact .inl h4
   ·exact .inr ⟨b', h4, h6, zt2 (fun b hb hl => ⟨hN b hb, hl, rfl⟩) _ _ _ h5⟩
  ·have := hc (j + 3) u (by simpa using hj)
   rw [show i + 3 + j = i + (j + 3) by omega]; exact this
theorem ys9 {w : World} {B : Nat} {T : TypeId} {v : Value} {N : Nat → Prop} {F : Pl.Fx} {xs : List Value} (h : w.ownsRow B T 3 v F.len xs) (hc : zj7 w N F xs) (hN : ∀ b, N b → B ≤ b) : layX w (fun b => B ≤ b) F v := by
 rcases h.2 with ⟨rfl, h0⟩ | ⟨g, cap, cur, rfl, hb, hg, hc2, hm, hsz, ht⟩
 ·cases F with
  | nil => exact layX_nil _ _
  | cons L k m => simp [Pl.Fx.len] at h0
 ·refine ⟨_, cap, rfl, .inr ⟨g, rfl, hc2, zw0 hN hb (Array.getElem?_eq_some_iff.1 hg).1 F xs 0 hc fun j u hj => ?_⟩⟩
  rw [cell_of_row w g _ cur _ (0, 0) hg, Nat.zero_add]
  rw [← ht, List.getElem?_take] at hj
  split at hj
  ·simpa using hj
  ·cases hj
end Mem
end Go.Proofs.YtfdbokipgofcdaaGreatDoor

namespace Go.Proofs.YtfdbokipgofcdaaGreatDoor
open Go.RowKit
namespace Mem
theorem rowX_app {w : World} {N : Nat → Prop} {b : Nat} (A B : Pl.Fx) : ∀ i, rowX w N (A.app B) b i → rowX w N A b i ∧ rowX w N B b (i + A.len * 3) := by
 induction A with
 | nil => intro i h; exact ⟨trivial, by simpa [Pl.Fx.len, Pl.Fx.app] using h⟩
 | cons L k m _ ih =>
  intro i h
  obtain ⟨h1, h2⟩ := h
  obtain ⟨g1, g2⟩ := ih (i + 3) h2
  refine ⟨⟨h1, g1⟩, ?_⟩
  rw [Pl.Fx.len, show i + (m.len + 1) * 3 = i + 3 + m.len * 3 by omega]
  exact g2
theorem zu7 {w : World} {N : Nat → Prop} {b : Nat} (F : Pl.Fx) : ∀ i, rowX w N F b i → ∃ xs, zj7 w N F xs ∧ xs.length = F.len * 3 ∧ (∀ j u, xs[j]? = some u → w.cell? ⟨b, i + j, none⟩ = some u) := by
 induction F with
 | nil => intro i _; exact ⟨[], rfl, rfl, fun j u h => by cases h⟩
 | cons L k m _ ih =>
  intro i h
  obtain ⟨⟨q, a, cap, h1, h2, h3, h4, h5, hq, hm, h6⟩, h7⟩ := h
  obtain ⟨ys, g1, g2, g3⟩ := ih (i + 3) h7
  refine ⟨.map (some q) :: .int .i64 (k.len : Int) :: .slice a k.len cap :: ys, ⟨q, _, ys, rfl, hq, hm, ⟨a, cap, rfl, h6⟩, g1⟩, by simp [g2, Pl.Fx.len]; omega, fun j u hj => ?_⟩
  match j, hj with
  | 0, hj => cases hj; exact h1
  | 1, hj => cases hj; exact h2
  | 2, hj => cases hj; exact h3
  | j + 3, hj =>
   have := g3 j u (by simpa using hj)
   rw [show i + (j + 3) = i + 3 + j by omega]; exact this
theorem yn5 {w : World} {N : Nat → Prop} (A B : Pl.Fx) : ∀ xs ys, zj7 w N A xs → zj7 w N B ys → zj7 w N (A.app B) (xs ++ ys) := by
 induction A with
 | nil => intro xs ys h1 h2; cases h1; exact h2
 | cons L k m _ ih =>
  intro xs ys h1 h2
  obtain ⟨q, v, zs, rfl, hq, hm, hv, hz⟩ := h1
  exact ⟨q, v, zs ++ ys, rfl, hq, hm, hv, ih zs ys hz h2⟩
theorem zw9 {P : Program} {ops : Array Oper} {o : Oper} {a : Act} {w : World} {K : Act → World → Prop} {Q : Exit → Act → World → Prop} {E : Prop}
  (hg : o.guard = none) (s x : Operand) (t : TypeId) (hop : o.op = Op.call { callee := Callee.builtin Builtin.append, args := #[s, x], argTypes := #[t, t] })
  (e : TypeId) (i : TypeInfo) (z : Value) (h1 : P.underlying t = some (.slice e)) (h2 : P.info? e = some i) (h3 : i.zero = some z)
  (b : Addr) (sLen sCap : Nat) (olds : List Value) (hs : a.eval s = .slice (some b) sLen sCap) (hlo : olds.length = sLen * i.size) (holds : ∀ j v, olds[j]? = some v → w.cell? (b.add j) = some v)
  (ad : Addr) (n c : Nat) (news : List Value) (hx : a.eval x = .slice (some ad) n c) (hl : news.length = n * i.size) (hnews : ∀ j v, news[j]? = some v → w.cell? (ad.add j) = some v)
  (hgr : sCap < sLen + n) (h63 : ((sLen + n : Nat) : Int) ≤ 9223372036854775807) (hfit : Builtin.nextslicecap (sLen + n) sCap * i.bytes ≤ 281474976710656)
  (hK : ∀ (cap' : Nat) (cs : Array Value), sLen + n ≤ cap' → (∀ (j : Nat) (u : Value), (olds ++ news)[j]? = some u → cs[j]? = some u) → K (a.put o.dst (.slice (some ⟨w.heap.size, 0, none⟩) (sLen + n) cap')) (w.drew.alloc (.cells cs e))) :
  if Region.wanted o (yielded ops a.tmps) = true then Oper.wp P o a w K Q else E := by
 have hw : Region.wanted o (yielded ops a.tmps) = true := by simp [Region.wanted, hg]
 rw [if_pos hw]
 have hrun := run_append_grow (P := P) (w := w) t o.type e i z h1 h2 h3 b sLen sCap olds hlo holds ad n c news hl hnews hgr h63 hfit
 unfold Oper.wp
 simp [execOp, hop, resolve, invoke, builtin, hs, hx, hrun, Result.andThen]
 refine hK _ _ (grownCap_ge w (sLen + n) sCap e) fun j u hj => ?_
 have hlt := (List.getElem?_eq_some_iff.1 hj).1
 rw [Array.getElem?_append_left (by simp; simpa using hlt)]
 simpa using hj
end Mem
end Go.Proofs.YtfdbokipgofcdaaGreatDoor

namespace Go.Proofs.YtfdbokipgofcdaaGreatDoor
open Go.RowKit Go.Maps
namespace Mem
def mapQ : Option Value → Nat
 | some (.map (some q)) => q
 | _ => 0
def rowB : Option Value → Option Nat
 | some (.slice (some p) _ _) => some p.block
 | _ => none
def zy7 (w : World) : Pl.Fx → Nat → Nat → List Nat
 | .nil, _, _ => []
 | .cons _ k m, b, i => mapQ (w.cell? ⟨b, i, none⟩) :: ((match rowB (w.cell? ⟨b, i + 2, none⟩) with | some b' => zy7 w k b' 0 | none => []) ++ zy7 w m b (i + 3))
def zq1 (w : World) (k : Pl.Fx) (v : Value) : List Nat := match rowB (some v) with | some b' => zy7 w k b' 0 | none => []
def zq2 (w : World) : Pl.Fx → List Value → List Nat
 | .nil, _ => []
 | .cons _ k m, xs => mapQ xs[0]? :: (zq1 w k (xs[2]?.getD undef) ++ zq2 w m (xs.drop 3))
theorem ye3 {w : World} {L : List Pl.Nd} {k m : Pl.Fx} {b i q : Nat} {v : Value} (h1 : w.cell? ⟨b, i, none⟩ = some (.map (some q))) (h2 : w.cell? ⟨b, i + 2, none⟩ = some v) : zy7 w (.cons L k m) b i = q :: (zq1 w k v ++ zy7 w m b (i + 3)) := by
 rw [zy7, h1, h2]; rfl
theorem zt3 (w : World) (v : Value) : zq1 w .nil v = [] := by
 unfold zq1
 split <;> rfl
theorem yh4 (w : World) (k : Pl.Fx) (b n cap : Nat) : zq1 w k (.slice (some ⟨b, 0, none⟩) n cap) = zy7 w k b 0 := rfl
theorem mapsR_same {w w' : World} {N : Nat → Prop} (h : ∀ b, N b → b < w.heap.size → w'.heap[b]? = w.heap[b]?) (F : Pl.Fx) : ∀ b i, rowX w N F b i → zy7 w' F b i = zy7 w F b i := by
 induction F with
 | nil => intro b i _; rfl
 | cons L k m ihk ihm =>
  intro b i hr
  obtain ⟨⟨q, a, cap, h1, h2, h3, h4, h5, hq, hm, h6⟩, h7⟩ := hr
  have c : ∀ j, w'.cell? ⟨b, j, none⟩ = w.cell? ⟨b, j, none⟩ := fun j => World.cell?_of_block (h b h5 h4)
  rw [ye3 ((c _).trans h1) ((c _).trans h3), ye3 h1 h3, ihm _ _ h7]
  rcases h6 with rfl | ⟨b', rfl, -, h9⟩
  ·rw [zt3, zt3]
  ·rw [yh4, yh4, ihk _ _ h9]
theorem ye1 {w w' : World} {N : Nat → Prop} (h : ∀ b, N b → b < w.heap.size → w'.heap[b]? = w.heap[b]?) {k : Pl.Fx} {v : Value} (hl : layX w N k v) : zq1 w' k v = zq1 w k v := by
 obtain ⟨a, cap, rfl, h2⟩ := hl
 rcases h2 with rfl | ⟨b', rfl, -, h4⟩
 ·rw [zt3, zt3]
 ·rw [yh4, yh4, mapsR_same h _ _ _ h4]
theorem zr2 (w : World) (L : List Pl.Nd) (k m : Pl.Fx) (q : Nat) (c v : Value) (ys : List Value) : zq2 w (.cons L k m) (.map (some q) :: c :: v :: ys) = q :: (zq1 w k v ++ zq2 w m ys) := rfl
theorem mapsC_same {w w' : World} {N : Nat → Prop} (h : ∀ b, N b → b < w.heap.size → w'.heap[b]? = w.heap[b]?) (F : Pl.Fx) : ∀ xs, zj7 w N F xs → zq2 w' F xs = zq2 w F xs := by
 induction F with
 | nil => intro xs _; rfl
 | cons L k m _ ih =>
  intro xs hx
  obtain ⟨q, v, ys, rfl, hq, hm, h2, h3⟩ := hx
  rw [zr2, zr2, ye1 h h2, ih _ h3]
theorem mapsR_in {w : World} {N : Nat → Prop} (F : Pl.Fx) : ∀ b i, rowX w N F b i → ∀ j ∈ zy7 w F b i, N j ∧ j < w.heap.size := by
 induction F with
 | nil => intro b i _ j hj; cases hj
 | cons L k m ihk ihm =>
  intro b i hr j hj
  obtain ⟨⟨q, a, cap, h1, h2, h3, h4, h5, hq, hm, h6⟩, h7⟩ := hr
  rw [ye3 h1 h3] at hj
  rcases List.mem_cons.1 hj with rfl | hj
  ·exact ⟨hq, hm.lt⟩
  rcases List.mem_append.1 hj with hj | hj
  ·rcases h6 with rfl | ⟨b', rfl, -, h9⟩
   ·rw [zt3] at hj; cases hj
   ·exact ihk _ _ h9 j hj
  ·exact ihm _ _ h7 j hj
theorem mapsL_in {w : World} {N : Nat → Prop} {k : Pl.Fx} {v : Value} (hl : layX w N k v) : ∀ j ∈ zq1 w k v, N j ∧ j < w.heap.size := by
 obtain ⟨a, cap, rfl, h2⟩ := hl
 rcases h2 with rfl | ⟨b', rfl, -, h4⟩
 ·rw [zt3]; intro j hj; cases hj
 ·exact mapsR_in _ _ _ h4
theorem mapsC_in {w : World} {N : Nat → Prop} (F : Pl.Fx) : ∀ xs, zj7 w N F xs → ∀ j ∈ zq2 w F xs, N j ∧ j < w.heap.size := by
 induction F with
 | nil => intro xs _ j hj; cases hj
 | cons L k m _ ih =>
  intro xs hx j hj
  obtain ⟨q, v, ys, rfl, hq, hm, h2, h3⟩ := hx
  rw [zr2] at hj
  rcases List.mem_cons.1 hj with rfl | hj
  ·exact ⟨hq, hm.lt⟩
  rcases List.mem_append.1 hj with hj | hj
  ·exact mapsL_in h2 j hj
  ·exact ih _ h3 j hj
theorem mapsC_snoc {w : World} {N : Nat → Prop} (L : List Pl.Nd) (k : Pl.Fx) (q : Nat) (c v : Value) (F : Pl.Fx) : ∀ xs, zj7 w N F xs → zq2 w (F.app (.cons L k .nil)) (xs ++ [.map (some q), c, v]) = zq2 w F xs ++ q :: zq1 w k v := by
 induction F with
 | nil => intro xs h; cases h; show zq2 w (.cons L k .nil) _ = _; rw [List.nil_append, zr2]; simp [zq2]
 | cons L' k' m _ ih =>
  intro xs hx
  obtain ⟨q', v', ys, rfl, hq', hm', h2, h3⟩ := hx
  show zq2 w (.cons L' k' (m.app _)) (.map (some q') :: _ :: v' :: (ys ++ _)) = _
  rw [zr2, zr2, ih _ h3]
  simp
theorem yx1 {w : World} {N : Nat → Prop} {g : Nat} (F : Pl.Fx) : ∀ (xs : List Value) (i : Nat), zj7 w N F xs → (∀ j u, xs[j]? = some u → w.cell? ⟨g, i + j, none⟩ = some u) → zy7 w F g i = zq2 w F xs := by
 induction F with
 | nil => intro xs i _ _; rfl
 | cons L k m _ ih =>
  intro xs i hx hc
  obtain ⟨q, v, ys, rfl, hq, hm, h2, h3⟩ := hx
  have e0 : w.cell? ⟨g, i, none⟩ = some (.map (some q)) := hc 0 _ rfl
  rw [ye3 e0 (hc 2 _ rfl), zr2, ih ys (i + 3) h3 fun j u hj => ?_]
  have := hc (j + 3) u (by simpa using hj)
  rw [show i + 3 + j = i + (j + 3) by omega]; exact this
theorem mapsL_of_row {w : World} {B : Nat} {T : TypeId} {v : Value} {N : Nat → Prop} {F : Pl.Fx} {xs : List Value} (h : w.ownsRow B T 3 v F.len xs) (hc : zj7 w N F xs) : zq1 w F v = zq2 w F xs := by
 rcases h.2 with ⟨rfl, h0⟩ | ⟨g, cap, cur, rfl, hb, hg, hc2, hm, hsz, ht⟩
 ·cases F with
  | nil => exact zt3 _ _
  | cons L k m => simp [Pl.Fx.len] at h0
 ·rw [yh4]
  refine yx1 F xs 0 hc fun j u hj => ?_
  rw [cell_of_row w g _ cur _ (0, 0) hg, Nat.zero_add]
  rw [← ht, List.getElem?_take] at hj
  split at hj
  ·simpa using hj
  ·cases hj
def apart (w : World) (q : Nat) (k : Pl.Fx) (v : Value) : Prop := (q :: zq1 w k v).Pairwise (· < ·)
theorem yw5 {w w' : World} {N : Nat → Prop} (h : ∀ b, N b → b < w.heap.size → w'.heap[b]? = w.heap[b]?) {q : Nat} {k : Pl.Fx} {v : Value} (hl : layX w N k v) (ha : apart w q k v) : apart w' q k v := by
 show (q :: _).Pairwise _
 rw [ye1 h hl]
 exact ha
theorem yv8 {w w' : World} {N : Nat → Prop} {q : Nat} {k : Pl.Fx} {v : Value} (hl : layX w N k v) (ha : apart w q k v) (b : Below w.heap.size w w') : apart w' q k v := yw5 (fun j _ hj => b.block j hj) hl ha
end Mem
end Go.Proofs.YtfdbokipgofcdaaGreatDoor

namespace Go.Proofs.YtfdbokipgofcdaaGreatDoor
open Go.RowKit
namespace zr9
theorem zl3 : (Tryz.prog.info? 74).map (fun i => (i.zero, i.size, i.bytes)) = some (some (.agg #[.map none, .int .i64 0, .slice none 0 0]), 3, 40) := by kernel_rfl
structure Tk (w wr : World) (B X2 X7 : Nat) (q : Nat) (L : List Pl.Nd) (m : Int) (v : Value) (F : Pl.Fx) (xs : List Value) : Prop where
 bel : Below w.heap.size w wr
 big : B ≤ wr.heap.size
 x2 : Mem.Blk wr X2 #[.map none, .int .i64 0, .slice none 0 0] 74
 x7 : Mem.Blk wr X7 #[.map (some q), .int .i64 m, v] 74
 l2 : w.heap.size ≤ X2 ∧ X2 < B
 l7 : w.heap.size ≤ X7 ∧ X7 < B
 ne : X2 ≠ X7
 row : wr.ownsRow B 74 3 v F.len xs
 cells : Mem.zj7 wr (fun b => B ≤ b ∧ v.ownBlock ≠ some b) F xs
 lq : w.heap.size ≤ q ∧ q < B ∧ q ≠ X2 ∧ q ≠ X7
 mq : Mem.ownM wr q L
 ord : (q :: Mem.zq2 wr F xs).Pairwise (· < ·)
theorem zz6 {w w' : World} {B n s : Nat} {T : TypeId} {v : Value} {xs : List Value} (h : w.ownsRow B T s v n xs) (b : Below w.heap.size w w') : w'.ownsRow B T s v n xs := by
 refine ⟨h.1, ?_⟩
 rcases h.2 with h0 | ⟨g, cap, cur, hv, hb, hg, rest⟩
 ·exact .inl h0
 ·exact .inr ⟨g, cap, cur, hv, hb, (b.block g (Array.getElem?_eq_some_iff.1 hg).1).trans hg, rest⟩
theorem row_set {w : World} {B n s : Nat} {T : TypeId} {v : Value} {xs : List Value} (h : w.ownsRow B T s v n xs) (p : Addr) (u : Value) (hp : p.block < B) : (w.setCell p u).ownsRow B T s v n xs := by
 refine ⟨h.1, ?_⟩
 rcases h.2 with h0 | ⟨g, cap, cur, hv, hb, hg, rest⟩
 ·exact .inl h0
 ·exact .inr ⟨g, cap, cur, hv, hb, (heap_setCell_other _ _ _ _ (by omega)).trans hg, rest⟩
theorem Tk.step {w wr w1 w4 : World} {B X2 X7 : Nat} {q q1 : Nat} {L L1 : List Pl.Nd} {m : Int} {v v1 v' : Value} {F kids : Pl.Fx} {xs : List Value} {o1 o2 : Obj} (h : Tk w wr B X2 X7 q L m v F xs)
  (b1 : Below wr.heap.size wr w1) (hl : Mem.layX w1 (fun b => wr.heap.size ≤ b) kids v1) (hq1 : wr.heap.size ≤ q1) (hap : Mem.apart w1 q1 kids v1) (hm1 : Mem.ownM w1 q1 L1)
  (own : w4.ownsRow B 74 3 v' (F.len + 1) (xs ++ [.map (some q1), .int .i64 (kids.len : Int), v1])) (gr : ((w1.alloc o1).alloc o2).grownBy w4 v.ownBlock) (far : ∀ g, v'.ownBlock = some g → v.ownBlock = some g ∨ ((w1.alloc o1).alloc o2).heap.size ≤ g) :
  Tk w (w4.setCell ⟨X7, 2, none⟩ v') B X2 X7 q L m v' (F.app (.cons L1 kids .nil)) (xs ++ [.map (some q1), .int .i64 (kids.len : Int), v1]) := by
 have hw1 : wr.heap.size ≤ w1.heap.size := b1.size
 have hs3 : ((w1.alloc o1).alloc o2).heap.size = w1.heap.size + 1 + 1 := by simp
 have b3 : Below wr.heap.size wr ((w1.alloc o1).alloc o2) := (b1.alloc hw1 o1).alloc (by simp; omega) o2
 have b13 : Below w1.heap.size w1 ((w1.alloc o1).alloc o2) := ((Below.refl _ _).alloc (Nat.le_refl _) o1).alloc (by simp) o2
 have e5 : (w4.setCell ⟨X7, 2, none⟩ v').heap.size = w4.heap.size := by simp
 have hv7 : some X7 ≠ v.ownBlock := fun e => by have := (h.row.lt X7 e.symm).1; have := h.l7.2; omega
 have hv2 : some X2 ≠ v.ownBlock := fun e => by have := (h.row.lt X2 e.symm).1; have := h.l2.2; omega
 have hbig := h.big
 have keep : ∀ b, B ≤ b → v.ownBlock ≠ some b → b < w1.heap.size → (w4.setCell ⟨X7, 2, none⟩ v').heap[b]? = w1.heap[b]? := fun b hb hne hlt => by
  rw [heap_setCell_other _ _ _ _ (by show b ≠ X7; have := h.l7.2; omega), gr.block b (by omega) (fun e => hne e.symm)]
  exact b13.block b hlt
 have hsz : ∀ b, b < w1.heap.size → b < (w4.setCell ⟨X7, 2, none⟩ v').heap.size := fun b hb => by have := gr.size; omega
 have hnew : ∀ b, v.ownBlock ≠ some b → b < w1.heap.size → v'.ownBlock ≠ some b := fun b hne hlt e => by
  rcases far b e with h' | h'
  ·exact hne h'
  ·omega
 have hnw : ∀ b, wr.heap.size ≤ b → b < w1.heap.size → v.ownBlock ≠ some b := fun b hb hlt e => by have := (h.row.lt b e).2; omega
 refine ⟨?_, ?_, ?_, ?_, h.l2, h.l7, h.ne, ?_, ?_, h.lq, ?_, ?_⟩
 ·refine Below.setCell ?_ (by show w.heap.size ≤ X7; exact h.l7.1) _
  have bw3 := h.bel.trans (b3.mono h.bel.size)
  refine ⟨gr.os.trans bw3.os, gr.tape.trans bw3.tape, gr.output.trans bw3.output, Nat.le_trans bw3.size gr.size, fun k hk => ?_⟩
  have hk2 := h.bel.size
  rw [gr.block k (by omega) (fun e => by have := (h.row.lt k e.symm).1; have := h.l7; omega)]
  exact bw3.block k hk
 ·have := gr.size; omega
 ·exact ((h.x2.call b3).grown gr hv2).far _ _ h.ne
 ·exact ((h.x7.call b3).grown gr hv7).put 2 v'
 ·rw [Pl.Fx.zh9]
  exact row_set own _ _ h.l7.2
 ·refine Mem.cellsX_snoc ⟨by omega, hnew q1 (hnw q1 hq1 hm1.lt) hm1.lt⟩ (hm1.same (keep q1 (by omega) (hnw q1 hq1 hm1.lt) hm1.lt)) (Mem.zq7 (fun b hb hlt => ?_) hl) F xs (Mem.zn1 (fun b hb hlt => ?_) F xs h.cells)
  ·exact ⟨⟨by omega, hnew b (hnw b hb hlt) hlt⟩, hsz b hlt, keep b (by omega) (hnw b hb hlt) hlt⟩
  ·exact ⟨⟨hb.1, hnew b hb.2 (by omega)⟩, hsz b (by omega), (keep b hb.1 hb.2 (by omega)).trans (b1.block b hlt)⟩
 ·have hq := h.mq.lt
  refine h.mq.same ?_
  rw [heap_setCell_other _ _ _ _ (show q ≠ X7 from h.lq.2.2.2), gr.block q (by omega) (fun e => by have := (h.row.lt q e.symm).1; have := h.lq.2.1; omega)]
  exact b3.block q hq
 ·have c1 : Mem.zj7 (w4.setCell ⟨X7, 2, none⟩ v') (fun b => B ≤ b) F xs := Mem.zn1 (fun b hb hlt => ⟨hb.1, hsz b (by omega), (keep b hb.1 hb.2 (by omega)).trans (b1.block b hlt)⟩) F xs h.cells
  have e1 : Mem.zq2 (w4.setCell ⟨X7, 2, none⟩ v') F xs = Mem.zq2 wr F xs := Mem.mapsC_same (fun b hb hlt => (keep b hb.1 hb.2 (by omega)).trans (b1.block b hlt)) F xs h.cells
  have e2 : Mem.zq1 (w4.setCell ⟨X7, 2, none⟩ v') kids v1 = Mem.zq1 w1 kids v1 := Mem.ye1 (fun b hb hlt => keep b (by omega) (hnw b hb hlt) hlt) hl
  rw [Mem.mapsC_snoc L1 kids q1 _ v1 F xs c1, e1, e2, ← List.cons_append, List.pairwise_append]
  refine ⟨h.ord, hap, fun x hx y hy => ?_⟩
  have hxl : x < wr.heap.size := by
   rcases List.mem_cons.1 hx with rfl | hx
   ·exact h.mq.lt
   ·exact (Mem.mapsC_in F xs h.cells x hx).2
  have hyl : wr.heap.size ≤ y := by
   rcases List.mem_cons.1 hy with rfl | hy
   ·exact hq1
   ·exact (Mem.mapsL_in hl y hy).1
  omega
theorem Tk.mid {w wr w1 w4 : World} {B X2 X7 : Nat} {q : Nat} {L : List Pl.Nd} {m : Int} {v : Value} {F : Pl.Fx} {xs : List Value} {o1 o2 : Obj} (h : Tk w wr B X2 X7 q L m v F xs)
  (b1 : Below wr.heap.size wr w1) (gr : ((w1.alloc o1).alloc o2).grownBy w4 v.ownBlock) : Mem.Blk w4 X7 #[.map (some q), .int .i64 m, v] 74 :=
 (((h.x7.call b1).alloc o1).alloc o2).grown gr (fun e => by have := (h.row.lt X7 e.symm).1; have := h.l7.2; omega)
theorem Tk.conc {w wr : World} {B X2 X7 : Nat} {q : Nat} {L : List Pl.Nd} {m : Int} {v : Value} {F : Pl.Fx} {xs : List Value} (h : Tk w wr B X2 X7 q L m v F xs) : ∃ a cap, v = .slice a F.len cap := by
 rcases h.row.2 with ⟨h1, h0⟩ | ⟨g, cap, cur, h1, _⟩
 ·exact ⟨none, 0, by rw [h1, h0]⟩
 ·exact ⟨_, cap, h1⟩
theorem conc {w : World} {B n s : Nat} {T : TypeId} {v : Value} {xs : List Value} (h : w.ownsRow B T s v n xs) : ∃ a cap, v = .slice a n cap := by
 rcases h.2 with ⟨h1, h0⟩ | ⟨g, cap, cur, h1, _⟩
 ·exact ⟨none, 0, by rw [h1, h0]⟩
 ·exact ⟨_, cap, h1⟩
theorem yp2 (w : World) (cs : List Value) (T : TypeId) (o : Obj) : ∀ j u, cs[j]? = some u → ((w.alloc o).alloc (.cells cs.toArray T)).cell? ((⟨w.heap.size + 1, 0, none⟩ : Addr).add j) = some u := by
 intro j u hj
 rw [Mem.add_lit]
 have := (Mem.ze0 (w.alloc o) cs T).2 j u hj
 simpa using this
theorem Tk.done {w wr : World} {B X2 X7 : Nat} {q : Nat} {L : List Pl.Nd} {m : Int} {v : Value} {F : Pl.Fx} {xs : List Value} (h : Tk w wr B X2 X7 q L m v F xs) (u0 u1 u2 : Value) :
  Mem.layX (((wr.setCell ⟨X2, 0, none⟩ u0).setCell ⟨X2, 1, none⟩ u1).setCell ⟨X2, 2, none⟩ u2) (fun b => w.heap.size ≤ b) F v := by
 refine Mem.zq7 (fun b hb hlt => ⟨?_, by simpa using hlt, ?_⟩) (Mem.ys9 h.row h.cells (fun b hb => hb.1))
 ·have := h.l2; omega
 ·have := h.l2.2
  rw [heap_setCell_other _ _ _ _ (by show b ≠ X2; omega), heap_setCell_other _ _ _ _ (by show b ≠ X2; omega), heap_setCell_other _ _ _ _ (by show b ≠ X2; omega)]
theorem Tk.own {w wr : World} {B X2 X7 : Nat} {q : Nat} {L : List Pl.Nd} {m : Int} {v : Value} {F : Pl.Fx} {xs : List Value} (h : Tk w wr B X2 X7 q L m v F xs) (u0 u1 u2 : Value) :
  Mem.ownM (((wr.setCell ⟨X2, 0, none⟩ u0).setCell ⟨X2, 1, none⟩ u1).setCell ⟨X2, 2, none⟩ u2) q L :=
 ((h.mq.set _ _ h.lq.2.2.1).set _ _ h.lq.2.2.1).set _ _ h.lq.2.2.1
theorem Tk.apart {w wr : World} {B X2 X7 : Nat} {q : Nat} {L : List Pl.Nd} {m : Int} {v : Value} {F : Pl.Fx} {xs : List Value} (h : Tk w wr B X2 X7 q L m v F xs) (u0 u1 u2 : Value) :
  Mem.apart (((wr.setCell ⟨X2, 0, none⟩ u0).setCell ⟨X2, 1, none⟩ u1).setCell ⟨X2, 2, none⟩ u2) q F v := by
 have e : Mem.zq1 (((wr.setCell ⟨X2, 0, none⟩ u0).setCell ⟨X2, 1, none⟩ u1).setCell ⟨X2, 2, none⟩ u2) F v = Mem.zq1 wr F v := Mem.ye1 (fun b hb hlt => by
  have := h.l2.2
  rw [heap_setCell_other _ _ _ _ (by show b ≠ X2; omega), heap_setCell_other _ _ _ _ (by show b ≠ X2; omega), heap_setCell_other _ _ _ _ (by show b ≠ X2; omega)]) (Mem.ys9 h.row h.cells (fun b hb => hb.1))
 show (q :: _).Pairwise _
 rw [e, Mem.mapsL_of_row h.row h.cells]
 exact h.ord
end zr9
end Go.Proofs.YtfdbokipgofcdaaGreatDoor

