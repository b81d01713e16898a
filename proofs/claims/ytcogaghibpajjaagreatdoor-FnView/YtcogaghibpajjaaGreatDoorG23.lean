/- Several texts of one claim in one file: MemFx, WJoin, WPathOf, WPathsTo. -/
import Derived.Test.YtcogaghibpajjaaGreatDoorG07
import Derived.Test.YtcogaghibpajjaaGreatDoorG02
import Derived.Test.YtcogaghibpajjaaGreatDoorG22
import Derived.Test.YtcogaghibpajjaaGreatDoorG01
import Derived.Test.YtcogaghibpajjaaGreatDoorG03
import Derived.Test.YtcogaghibpajjaaGreatDoorProg
import Derived.WalkSpells
import Derived.Test.YtcogaghibpajjaaGreatDoorG00
import Derived.Test.YtcogaghibpajjaaGreatDoorG04
import Derived.RangeFuncNested
import Derived.RangeFuncBound
import Derived.RangeFuncCalls
import Derived.RangeFuncLeaves
import Derived.Shelf.Abstract
import Derived.Shelf.RegionOpen
import Derived.OwnWalkIn
import Derived.TacticsInMore
import Derived.LoopNIn
import Derived.LoopIn
namespace Go.Proofs.YtcogaghibpajjaaGreatDoor
open Go.RowKit Go.Maps
namespace Mem
def ownM (w : World) (q : Nat) (L : List Pl.Nd) : Prop := w.ownsMap Tryz.prog 9 MapN.elem q 40 (MapN.mapOf L)
theorem ownM.lt {w : World} {q : Nat} {L : List Pl.Nd} (h : ownM w q L) : q < w.heap.size := World.ownsMap.lt h
theorem ownM.same {w w' : World} {q : Nat} {L : List Pl.Nd} (h : ownM w q L) (e : w'.heap[q]? = w.heap[q]?) : ownM w' q L := by
 obtain ⟨es, clock, hb, F, hs, hD⟩ := h
 exact ⟨es, clock, e.trans hb, F, hs, hD⟩
theorem ownM.call {w w' : World} {q : Nat} {L : List Pl.Nd} (h : ownM w q L) (b : Below w.heap.size w w') : ownM w' q L := h.same (b.block q h.lt)
theorem ownM.set {w : World} {q : Nat} {L : List Pl.Nd} (h : ownM w q L) (p : Addr) (u : Value) (hp : q ≠ p.block) : ownM (w.setCell p u) q L := h.same (heap_setCell_other _ _ _ _ hp)
theorem ownM.grown {w w' : World} {q : Nat} {L : List Pl.Nd} {r : Option Nat} (h : ownM w q L) (g : w.grownBy w' r) (hr : some q ≠ r) : ownM w' q L := h.same (g.block q h.lt hr)
theorem tight {w : World} {q n m : Nat} {D : DataW Unit} (h : w.ownsMap Tryz.prog 9 MapN.elem q n D) (hm : Maps.size D ≤ m) : w.ownsMap Tryz.prog 9 MapN.elem q m D := by
 obtain ⟨es, clock, hb, F, hs, rfl⟩ := h
 refine ⟨es, clock, hb, F, ?_, rfl⟩
 rw [Maps.size_eq, length_read] at hm
 exact hm
def rowX (w : World) (N : Nat → Prop) : Pl.Fx → Nat → Nat → Prop
 | .nil, _, _ => True
 | .cons L k m, b, i => (∃ q a cap, w.cell? ⟨b, i, none⟩ = some (.map (some q)) ∧ w.cell? ⟨b, i + 1, none⟩ = some (.int .i64 (k.len : Int)) ∧ w.cell? ⟨b, i + 2, none⟩ = some (.slice a k.len cap) ∧ b < w.heap.size ∧ N b ∧ N q ∧ ownM w q L ∧
   (k = .nil ∨ ∃ b', a = some ⟨b', 0, none⟩ ∧ k.len ≤ cap ∧ rowX w N k b' 0)) ∧ rowX w N m b (i + 3)
def layX (w : World) (N : Nat → Prop) (k : Pl.Fx) (v : Value) : Prop := ∃ a cap, v = .slice a k.len cap ∧ (k = .nil ∨ ∃ b', a = some ⟨b', 0, none⟩ ∧ k.len ≤ cap ∧ rowX w N k b' 0)
theorem zt9 {w w' : World} {N N' : Nat → Prop} (h : ∀ b, N b → b < w.heap.size → N' b ∧ b < w'.heap.size ∧ w'.heap[b]? = w.heap[b]?) (F : Pl.Fx) : ∀ b i, rowX w N F b i → rowX w' N' F b i := by
 induction F with
 | nil => intro b i _; trivial
 | cons L k m ihk ihm =>
  intro b i hr
  obtain ⟨⟨q, a, cap, h1, h2, h3, h4, h5, hq, hm, h6⟩, h7⟩ := hr
  obtain ⟨g1, g2, g3⟩ := h b h5 h4
  obtain ⟨q1, q2, q3⟩ := h q hq hm.lt
  have c : ∀ j, w'.cell? ⟨b, j, none⟩ = w.cell? ⟨b, j, none⟩ := fun j => World.cell?_of_block g3
  refine ⟨⟨q, a, cap, (c _).trans h1, (c _).trans h2, (c _).trans h3, g2, g1, q1, hm.same q3, ?_⟩, ihm _ _ h7⟩
  rcases h6 with h6 | ⟨b', h6, h8, h9⟩
  ·exact .inl h6
  ·exact .inr ⟨b', h6, h8, ihk _ _ h9⟩
theorem zu3 {w w' : World} {N N' : Nat → Prop} (h : ∀ b, N b → b < w.heap.size → N' b ∧ b < w'.heap.size ∧ w'.heap[b]? = w.heap[b]?) {k : Pl.Fx} {v : Value} (hl : layX w N k v) : layX w' N' k v := by
 obtain ⟨a, cap, h1, h2⟩ := hl
 refine ⟨a, cap, h1, ?_⟩
 rcases h2 with h2 | ⟨b', h2, h3, h4⟩
 ·exact .inl h2
 ·exact .inr ⟨b', h2, h3, zt9 h _ _ _ h4⟩
theorem zx7 {w w' : World} {N : Nat → Prop} {F : Pl.Fx} {b i : Nat} (h : rowX w N F b i) (bb : Below w.heap.size w w') : rowX w' N F b i := zt9 (fun g hg hl => ⟨hg, Nat.lt_of_lt_of_le hl bb.size, bb.block g hl⟩) _ _ _ h
theorem zy1 {w w' : World} {N : Nat → Prop} {k : Pl.Fx} {v : Value} (h : layX w N k v) (b : Below w.heap.size w w') : layX w' N k v := zu3 (fun g hg hl => ⟨hg, Nat.lt_of_lt_of_le hl b.size, b.block g hl⟩) h
theorem layX_nil (w : World) (N : Nat → Prop) : layX w N .nil (.slice none 0 0) := ⟨none, 0, rfl, .inl rfl⟩
theorem rowX_row {w : World} {N : Nat → Prop} (F : Pl.Fx) : ∀ b i, rowX w N F b i → rowF w N F.shape b i := by
 induction F with
 | nil => intro b i _; trivial
 | cons L k m ihk ihm =>
  intro b i hr
  obtain ⟨⟨q, a, cap, h1, h2, h3, h4, h5, hq, hm, h6⟩, h7⟩ := hr
  refine ⟨⟨_, _, a, cap, h1, h2, by rw [Pl.Fx.zy6]; exact h3, h4, h5, ⟨_, rfl⟩, ⟨_, rfl⟩, ?_⟩, ihm _ _ h7⟩
  rcases h6 with h6 | ⟨b', h6, -, h8⟩
  ·exact .inl (by rw [h6]; rfl)
  ·exact .inr ⟨b', h6, ihk _ _ h8⟩
theorem layX_lay {w : World} {N : Nat → Prop} {k : Pl.Fx} {v : Value} (h : layX w N k v) : lay w N k.shape v := by
 obtain ⟨a, cap, h1, h2⟩ := h
 refine ⟨a, cap, by rw [Pl.Fx.zy6]; exact h1, ?_⟩
 rcases h2 with h2 | ⟨b', h2, -, h3⟩
 ·exact .inl (by rw [h2]; rfl)
 ·exact .inr ⟨b', h2, rowX_row _ _ _ h3⟩
def zk8 (w : World) (N : Nat → Prop) : Pl.Fx → List Value → Prop
 | .nil, xs => xs = []
 | .cons L k m, xs => ∃ q v ys, xs = .map (some q) :: .int .i64 (k.len : Int) :: v :: ys ∧ N q ∧ ownM w q L ∧ layX w N k v ∧ zk8 w N m ys
theorem ye2 {w w' : World} {N N' : Nat → Prop} (h : ∀ b, N b → b < w.heap.size → N' b ∧ b < w'.heap.size ∧ w'.heap[b]? = w.heap[b]?) (F : Pl.Fx) : ∀ xs, zk8 w N F xs → zk8 w' N' F xs := by
 induction F with
 | nil => intro xs h; exact h
 | cons L k m _ ih =>
  intro xs hx
  obtain ⟨q, v, ys, h1, hq, hm, h2, h3⟩ := hx
  obtain ⟨q1, q2, q3⟩ := h q hq hm.lt
  exact ⟨q, v, ys, h1, q1, hm.same q3, zu3 h h2, ih _ h3⟩
theorem cellsX_snoc {w : World} {N : Nat → Prop} {k : Pl.Fx} {L : List Pl.Nd} {q : Nat} {v : Value} (hq : N q) (hm : ownM w q L) (hv : layX w N k v) (F : Pl.Fx) : ∀ xs, zk8 w N F xs → zk8 w N (F.app (.cons L k .nil)) (xs ++ [.map (some q), .int .i64 (k.len : Int), v]) := by
 induction F with
 | nil => intro xs h; cases h; exact ⟨q, v, [], rfl, hq, hm, hv, rfl⟩
 | cons L' k' m _ ih =>
  intro xs hx
  obtain ⟨q', v', ys, rfl, hq', hm', h2, h3⟩ := hx
  exact ⟨q', v', _, rfl, hq', hm', h2, ih _ h3⟩
theorem rowX_of_cells {w : World} {N N' : Nat → Prop} {g : Nat} (hN : ∀ b, N b → N' b) (hg : N' g) (hlt : g < w.heap.size) (F : Pl.Fx) : ∀ (xs : List Value) (i : Nat), zk8 w N F xs → (∀ j u, xs[j]? = some u → w.cell? ⟨g, i + j, none⟩ = some u) → rowX w N' F g i := by
 induction F with
 | nil => intro xs i _ _; trivial
 | cons L k m _ ih =>
  intro xs i hx hc
  obtain ⟨q, v, ys, rfl, hq, hm, h2, h3⟩ := hx
  obtain ⟨a, cap, rfl, h4⟩ := h2
  refine ⟨⟨q, a, cap, hc 0 _ rfl, hc 1 _ rfl, hc 2 _ rfl, hlt, hg, hN q hq, hm, ?_⟩, ih ys (i + 3) h3 fun j u hj => ?_⟩
  ·rcases h4 with h4 | ⟨b', h4, h6, h5⟩
   ·exact .inl h4
   ·exact .inr ⟨b', h4, h6, zt9 (fun b hb hl => ⟨hN b hb, hl, rfl⟩) _ _ _ h5⟩
  ·have := hc (j + 3) u (by simpa using hj)
   rw [show i + 3 + j = i + (j + 3) by omega]; exact this
theorem ye9 {w : World} {B : Nat} {T : TypeId} {v : Value} {N : Nat → Prop} {F : Pl.Fx} {xs : List Value} (h : w.ownsRow B T 3 v F.len xs) (hc : zk8 w N F xs) (hN : ∀ b, N b → B ≤ b) : layX w (fun b => B ≤ b) F v := by
 rcases h.2 with ⟨rfl, h0⟩ | ⟨g, cap, cur, rfl, hb, hg, hc2, hm, hsz, ht⟩
 ·cases F with
  | nil => exact layX_nil _ _
  | cons L k m => simp [Pl.Fx.len] at h0
 ·refine ⟨_, cap, rfl, .inr ⟨g, rfl, hc2, rowX_of_cells hN hb (Array.getElem?_eq_some_iff.1 hg).1 F xs 0 hc fun j u hj => ?_⟩⟩
  rw [cell_of_row w g _ cur _ (0, 0) hg, Nat.zero_add]
  rw [← ht, List.getElem?_take] at hj
  split at hj
  ·simpa using hj
  ·cases hj
end Mem
end Go.Proofs.YtcogaghibpajjaaGreatDoor

namespace Go.Proofs.YtcogaghibpajjaaGreatDoor
open Go.RowKit
namespace WJoin
theorem Tryz.one8 (w : World) : (sizeOf 5).run Tryz.prog w = .ok 1 w := by kernel_rfl
theorem Tryz.info8j : (Tryz.prog.info? 5).map (fun i => (i.zero, i.size, i.bytes)) = some (some (.int .u8 0), 1, 1) := by kernel_rfl

set_option maxRecDepth 100000 in
set_option maxHeartbeats 400000 in
theorem any (b o cap : Nat) (ts : List ByteArray) (w : World) (hn : ts.length ≤ 1000000) (ht : Pl.tot ts ≤ 1000000000)
  (hcell : ∀ j t, ts[j]? = some t → w.cell? ⟨b, o + j, none⟩ = some (.string t)) (hb : b < w.heap.size) :
  Calls Tryz.prog 51 #[.slice (some ⟨b, o, none⟩) ts.length cap] w fun e w' => e = .returned (.string ⟨(Pl.cat ts).toArray⟩) ∧ Below w.heap.size w w' := by
 have HC := hide hcell
 clear hcell
 go_enter Tryz.func51, Tryz.ntmps51
 go_wp2
 go_loop [3, 12] (fun n i => ∃ k : Nat, k ≤ ts.length ∧ i = .int .i64 k ∧ n = .int .i64 (Pl.tot (ts.take k) : Nat)) (fun _ i => ts.length - (intOf i).toNat)
 case atStart => exact ⟨0, Nat.zero_le _, rfl, rfl⟩
 case round =>
  obtain ⟨k, hk, rfl, rfl⟩ := hrel
  by_cases hlt : k < ts.length
  ·obtain ⟨t, hkt⟩ : ∃ t, ts[k]? = some t := ⟨_, List.getElem?_eq_getElem hlt⟩
   have hc := za HC k t hkt
   have H1 := hide (Pl.tot_snoc ts k t hkt)
   have h1 := Pl.tot_le ts (k + 1)
   have h2 : Pl.tot (ts.take k) + t.size ≤ 1000000000 := by have := za H1; omega
   clear hkt h1
   go_wp2
   go_round
   case rel => exact ⟨k + 1, by omega, by go_num, by rw [za H1]; go_num⟩
   case measure => simp [intOf]; omega
  ·have HE : Hid (Pl.tot (ts.take k) = Pl.tot ts) := by
    show _ = _
    rw [List.take_of_length_le (by omega)]
   have hmk := Mem.make_bytes (P := Tryz.prog) Tryz.underlying22 Tryz.info8j (Pl.tot ts) ht w
   rw [HE.out]
   go_wp2
   go_loopw [7, 25] (fun p i wr => ∃ (k : Nat) (cur : Array Value), k ≤ ts.length ∧ i = .int .i64 k ∧ p = .int .i64 (Pl.tot (ts.take k) : Nat) ∧ wr.heap[w.heap.size]? = some (.cells cur 5 (0, 0)) ∧ cur.size = Pl.tot ts ∧
     Hid (cur.toList.take (Pl.tot (ts.take k)) = (Pl.cat (ts.take k)).map Pl.ze2) ∧ Below w.heap.size w wr) (fun _ i _ => ts.length - (intOf i).toNat)
   case atStart => exact ⟨0, Mem.zeros (Pl.tot ts), Nat.zero_le _, rfl, rfl, heap_alloc_new w _, Mem.zeros_size _, rfl, (Below.refl _ _).alloc (Nat.le_refl _) _⟩
   case round =>
    obtain ⟨k, cur, hk, rfl, rfl, hrow, hcs, HP, hbel⟩ := hrel
    by_cases hlt : k < ts.length
    ·obtain ⟨t, hkt⟩ : ∃ t, ts[k]? = some t := ⟨_, List.getElem?_eq_getElem hlt⟩
     have hc : wr.cell? ⟨b, o + k, none⟩ = some (.string t) := (hbel.cell (p := ⟨b, o + k, none⟩) hb).trans (za HC k t hkt)
     have H1 := hide (Pl.tot_snoc ts k t hkt)
     have h1 := Pl.tot_le ts (k + 1)
     have h2 : Pl.tot (ts.take k) + t.size ≤ Pl.tot ts := by have := za H1; omega
     have HS := hide (Pl.part_step hkt HP.out)
     obtain ⟨D, w2, hsl, hcp, hrow2, hbel2⟩ := Mem.copy_on (P := Tryz.prog) (sT := 9) Tryz.underlying22 Tryz.one8 wr w.heap.size (Pl.tot (ts.take k)) (Pl.tot ts) cur hrow hcs t h2
     have HROW2 := hide hrow2
     have HB2 := hide (hbel.trans hbel2)
     have hsz : Hid ((cur.toList.take (Pl.tot (ts.take k)) ++ t.data.toList.map Pl.ze2 ++ cur.toList.drop (Pl.tot (ts.take k) + t.size)).toArray.size = Pl.tot ts) := by
      show _ = _
      have : t.data.size = t.size := rfl
      simp [this]
      omega
     clear hkt h1 hrow hrow2 hbel2 hbel
     go_wp2
     go_roundw
     case rel => exact ⟨k + 1, _, by omega, by go_num, by rw [za H1]; go_num, HROW2, hsz, HS, HB2⟩
     case measure => simp [intOf]; omega
    ·have HE2 : Hid (Pl.cat (ts.take k) = Pl.cat ts ∧ Pl.tot (ts.take k) = Pl.tot ts) := by
      show _ ∧ _
      rw [List.take_of_length_le (by omega)]
      exact ⟨rfl, rfl⟩
     have hp : cur.toList.take (Pl.tot ts) = (Pl.cat ts).map Pl.ze2 := by have := HP.out; rwa [HE2.out.1, HE2.out.2] at this
     have hcv := Mem.row_text (P := Tryz.prog) (cap := Pl.tot ts) Tryz.underlying22 Tryz.underlying5 Tryz.underlying9 (Pl.cat ts) (Pl.yb2 ts) hrow hp
     clear hp hrow
     go_wp2
     go_ret
     exact ⟨rfl, hbel⟩
end WJoin
end Go.Proofs.YtcogaghibpajjaaGreatDoor

namespace Go.Proofs.YtcogaghibpajjaaGreatDoor
open Go.RowKit
namespace Pl
def zc2 (ts : List ByteArray) : Nat → List ByteArray
 | 0 => []
 | k + 1 => zc2 ts k ++ (if k = 0 then [] else [⟨#[47]⟩]) ++ [ts.getD k ⟨#[]⟩]
theorem glueL_snoc (A : List (List UInt8)) (a : List UInt8) : zg0 (A ++ [a]) = zg0 A ++ (if A = [] then [] else [47]) ++ a := by
 by_cases h : A = []
 ·subst h; rfl
 ·rw [zx3 h (by simp), if_neg h]; simp [zg0]
theorem yf6 (A B : List ByteArray) : cat (A ++ B) = cat A ++ cat B := by simp [cat]
theorem parts_cat (ts : List ByteArray) : ∀ k, k ≤ ts.length → cat (zc2 ts k) = zg0 ((ts.take k).map by_) := by
 intro k
 induction k with
 | zero => intro _; rfl
 | succ k ih =>
  intro hk
  have hlt : k < ts.length := by omega
  rw [zc2, yf6, yf6, ih (by omega), List.take_add_one, List.getElem?_eq_getElem hlt, Option.toList_some, List.map_append, List.map_cons, List.map_nil, glueL_snoc, cat_one]
  have h1 : ts.getD k ⟨#[]⟩ = ts[k] := by simp [List.getD_eq_getElem?_getD, List.getElem?_eq_getElem hlt]
  rw [h1]
  have h2 : cat (if k = 0 then [] else [(⟨#[47]⟩ : ByteArray)]) = if (ts.take k).map by_ = [] then [] else [47] := by
   by_cases h0 : k = 0
   ·subst h0; rfl
   ·rw [if_neg h0, if_neg (by simp; exact ⟨h0, by intro e; subst e; simp at hlt⟩)]; rfl
  rw [h2]; rfl
theorem parts_glue (ts : List ByteArray) : (⟨(cat (zc2 ts ts.length)).toArray⟩ : ByteArray) = glue ts := by
 rw [parts_cat ts _ (Nat.le_refl _), List.take_length]; rfl
theorem parts_tot (ts : List ByteArray) : tot (zc2 ts ts.length) = (glue ts).size := by
 rw [← yb2, parts_cat ts _ (Nat.le_refl _), List.take_length, ← zo5, zd5]
theorem parts_length (ts : List ByteArray) : ∀ k, (zc2 ts k).length ≤ 2 * k := by
 intro k
 induction k with
 | zero => simp [zc2]
 | succ k ih =>
  rw [zc2]
  by_cases h : k = 0
  ·simp [h, zc2]
  ·simp [h]; omega
theorem parts_first {ts : List ByteArray} {t : ByteArray} (ht : ts[0]? = some t) : zc2 ts 1 = zc2 ts 0 ++ [t] := by
 simp [zc2, List.getD_eq_getElem?_getD, ht]
theorem parts_next {ts : List ByteArray} {k : Nat} {t : ByteArray} (hk : k ≠ 0) (ht : ts[k]? = some t) : zc2 ts (k + 1) = (zc2 ts k ++ [⟨#[47]⟩]) ++ [t] := by
 simp [zc2, List.getD_eq_getElem?_getD, ht, hk]
end Pl
namespace zz3
theorem make12 (w : World) : (Instr.makeSlice 104 (.int .i64 0) (.int .i64 12)).run Tryz.prog w = .ok (.slice (some ⟨w.heap.size, 0, none⟩) 0 12) (w.alloc (.cells (madeCells (Value.string ⟨#[]⟩).cells 12) 9)) := by
 obtain ⟨i0, h0, h1, h2, h3⟩ := info_parts WWords.infoS
 have h := run_make (P := Tryz.prog) w 104 9 i0 (.string ⟨#[]⟩) Tryz.underlying104 h0 h1 .i64 .i64 0 12 (by omega) (by omega) (by rw [h3]; omega) (by omega)
 rw [h]; simp [h2]

set_option maxRecDepth 100000 in
set_option maxHeartbeats 400000 in
theorem any (v : Value) (ts : List ByteArray) (w : World) (hn : ts.length ≤ 1000) (hg : (Pl.glue ts).size ≤ 1000000) (hv : Mem.zm6 w v ts) :
  Calls Tryz.prog 108 #[v] w fun e w' => e = .returned (.string (Pl.glue ts)) ∧ Below w.heap.size w w' := by
 obtain ⟨i0, hi, hz0, hz1, hz2⟩ := info_parts WWords.infoS
 have hmk := make12
 have H0 : Hid ((⟨(Pl.cat (Pl.zc2 ts ts.length)).toArray⟩ : ByteArray) = Pl.glue ts) := Pl.parts_glue ts
 have H1 : Hid (Pl.tot (Pl.zc2 ts ts.length) ≤ 1000000000) := by have := Pl.parts_tot ts; show _ ≤ _; omega
 by_cases hts : ts = []
 ·subst hts
  have hv2 : ∃ a cap, v = .slice a 0 cap := by
   rcases hv with ⟨rfl, _⟩ | ⟨b, o, cap, rfl, _⟩
   ·exact ⟨_, _, rfl⟩
   ·exact ⟨_, _, rfl⟩
  obtain ⟨a, cap, rfl⟩ := hv2
  go_enter Tryz.func108, Tryz.ntmps108
  go_wp2
  go_loop [3, 9] (fun p i => p = .slice (some ⟨w.heap.size, 0, none⟩) 0 12 ∧ i = .int .i64 0) (fun _ _ => 0)
  case atStart => exact ⟨rfl, rfl⟩
  case round =>
   obtain ⟨rfl, rfl⟩ := hrel
   go_wp2_with fail
   refine (WJoin.any w.heap.size 0 12 [] _ (by simp) (by simp [Pl.tot]) (fun j t h => by simp at h) (by simp)).mono ?_
   rintro e w1 ⟨rfl, hb1⟩
   go_wp2
   go_ret
   exact ⟨rfl, ((Below.refl _ _).alloc (Nat.le_refl _) _).trans (hb1.mono (by simp))⟩
 have hpos : 0 < ts.length := List.length_pos_iff.2 hts
 have HNE : Hid (Pl.zc2 ts ts.length ≠ []) := by
  intro h
  obtain ⟨n, hn⟩ : ∃ n, ts.length = n + 1 := ⟨ts.length - 1, by omega⟩
  rw [hn, Pl.zc2] at h
  simp at h
 rcases hv with ⟨rfl, rfl⟩ | ⟨b, o, cap, rfl, hb, hcell⟩
 ·exact absurd rfl hts
 ·have HC := hide hcell
  clear hcell
  go_enter Tryz.func108, Tryz.ntmps108
  go_wp2
  go_loopw [3, 9] (fun p i wr => ∃ k : Nat, k ≤ ts.length ∧ i = .int .i64 (k : Int) ∧ wr.ownsRow w.heap.size 9 1 p (Pl.zc2 ts k).length ((Pl.zc2 ts k).map Value.string) ∧ Below w.heap.size w wr) (fun _ i _ => ts.length - (intOf i).toNat)
  case atStart => exact ⟨0, Nat.zero_le _, rfl, World.ownsRow_made _ _ 12 (Nat.le_refl _) (by unfold maxLen; omega) (size_madeCells _ _), (Below.refl _ _).alloc (Nat.le_refl _) _⟩
  case round =>
   obtain ⟨k, hk, rfl, hown, hbel⟩ := hrel
   have hb1 := hbel.size
   have hpl := Pl.parts_length ts k
   by_cases hlt : k < ts.length
   ·obtain ⟨t, hkt⟩ : ∃ t, ts[k]? = some t := ⟨_, List.getElem?_eq_getElem hlt⟩
    have hc : wr.cell? ⟨b, o + k, none⟩ = some (.string t) := (hbel.cell (p := ⟨b, o + k, none⟩) hb).trans (za HC k t hkt)
    by_cases h0 : k = 0
    ·have HS : Hid (Pl.zc2 ts (k + 1) = Pl.zc2 ts k ++ [t]) := by subst h0; exact Pl.parts_first hkt
     have hp : ¬ (0 : Int) < (k : Int) := by omega
     clear hkt h0
     go_wp2_with (at_builtin; refine wpList_append_own _ rfl _ _ 104 rfl w.heap.size 9 i0 (.string ⟨#[]⟩) 1 16 Tryz.underlying104 hi hz0 hz1 hz2 rfl (by decide) _ _ _ rfl (hown.alloc _) ⟨wr.heap.size, 0, none⟩ 1 1 [.string t] rfl rfl (Mem.ze6 _ _ _) (Mem.one_str _) (by unfold maxLen; omega) (by omega) (by simp; omega) ?_)
     ·intro v' w2 hown' hgrow _
      have hbel' := Mem.zj1 hbel (Nat.le_refl _) hown hgrow
      have hown2 : Hid (w2.ownsRow w.heap.size 9 1 v' (Pl.zc2 ts (k + 1)).length ((Pl.zc2 ts (k + 1)).map Value.string)) := by
       show World.ownsRow _ _ _ _ _ _ _
       rw [za HS]; simpa using hown'
      clear hgrow hown hbel hown' hc
      go_wp2
      go_roundw
      case rel => exact ⟨k + 1, by omega, by go_num, hown2, hbel'⟩
      case measure => simp [intOf]; omega
    ·have HS := hide (Pl.parts_next h0 hkt)
     have hp : (0 : Int) < (k : Int) := by omega
     clear hkt
     go_wp2_with (at_builtin; refine wpList_append_own _ rfl _ _ 104 rfl w.heap.size 9 i0 (.string ⟨#[]⟩) 1 16 Tryz.underlying104 hi hz0 hz1 hz2 rfl (by decide) _ _ _ rfl (hown.alloc _) ⟨wr.heap.size, 0, none⟩ 1 1 [.string ⟨#[47]⟩] rfl rfl (Mem.ze6 _ _ _) (Mem.one_str _) (by unfold maxLen; omega) (by omega) (by simp; omega) ?_)
     ·intro v1 w1 hown' hgrow _
      have hbel' := Mem.zj1 hbel (Nat.le_refl _) hown hgrow
      have hown1 : w1.ownsRow w.heap.size 9 1 v1 (Pl.zc2 ts k ++ [(⟨#[47]⟩ : ByteArray)]).length ((Pl.zc2 ts k ++ [(⟨#[47]⟩ : ByteArray)]).map Value.string) := by simpa using hown'
      have hb2 := hbel'.size
      have hl2 : (Pl.zc2 ts k ++ [(⟨#[47]⟩ : ByteArray)]).length ≤ 2 * k + 1 := by simp; omega
      clear hgrow hown hbel hown' hc hpl
      go_wp2_with (at_builtin; refine wpList_append_own _ rfl _ _ 104 rfl w.heap.size 9 i0 (.string ⟨#[]⟩) 1 16 Tryz.underlying104 hi hz0 hz1 hz2 rfl (by decide) _ _ _ rfl (hown1.alloc _) ⟨w1.heap.size, 0, none⟩ 1 1 [.string t] rfl rfl (Mem.ze6 _ _ _) (Mem.one_str _) (by unfold maxLen; omega) (by omega) (by simp; omega) ?_)
      ·intro v' w2 hown' hgrow _
       have hbel2 := Mem.zj1 hbel' (Nat.le_refl _) hown1 hgrow
       have hown2 : Hid (w2.ownsRow w.heap.size 9 1 v' (Pl.zc2 ts (k + 1)).length ((Pl.zc2 ts (k + 1)).map Value.string)) := by
        show World.ownsRow _ _ _ _ _ _ _
        rw [za HS]; simpa using hown'
       clear hgrow hown1 hbel' hown'
       go_wp2
       go_roundw
       case rel => exact ⟨k + 1, by omega, by go_num, hown2, hbel2⟩
       case measure => simp [intOf]; omega
   ·obtain rfl : k = ts.length := by omega
    rcases Mem.zq5 hown with ⟨rfl, hnil⟩ | ⟨g, o', cap', rfl, hgl, hcell'⟩
    ·exact absurd hnil HNE.out
    ·have HC' := hide hcell'
     clear hcell' hown
     go_wp2_with fail
     refine (WJoin.any g o' cap' (Pl.zc2 ts ts.length) _ (by omega) H1.out HC'.out hgl).mono ?_
     rintro e w1 ⟨rfl, hb1⟩
     go_wp2
     go_ret
     exact ⟨by rw [H0.out]; rfl, hbel.trans (hb1.mono (by omega))⟩
end zz3
end Go.Proofs.YtcogaghibpajjaaGreatDoor

namespace Go.Proofs.YtcogaghibpajjaaGreatDoor
open Go.RowKit Go.Shelf
attribute [local go_sem] Oper.semAt_some
namespace Pl
def ways (L : List ByteArray) (k : Nat) : List ByteArray := (List.range k).map (fun i => glue (L.take (i + 1)))
theorem yc5 (L : List ByteArray) (k : Nat) : ways L (k + 1) = ways L k ++ [glue (L.take (k + 1))] := by simp [ways, List.range_succ]
theorem ways_len (L : List ByteArray) (k : Nat) : (ways L k).length = k := by simp [ways]
end Pl
namespace zs6
abbrev Small := { x : ByteArray // x.size ≤ 1000000 }
def KC (X : Nat) (W W' : World) : Prop := W.heap.size ≤ W'.heap.size ∧ ∀ (j : Nat) (o : Obj), j ≠ X → W.heap[j]? = some o → o.isCells = true → W'.heap[j]? = some o
theorem KC.trans {X : Nat} {A B C : World} (h1 : KC X A B) (h2 : KC X B C) : KC X A C := ⟨Nat.le_trans h1.1 h2.1, fun j o hj ho hc => h2.2 j o hj (h1.2 j o hj ho hc) hc⟩
theorem KC.put {X l : Nat} (W : World) (o o' : Obj) (hl : W.heap[l]? = some o) (ho : o.isCells = false) : KC X W (W.putObj l o') := by
 refine ⟨by simp, fun j p _ hp hc => ?_⟩
 have hne : j ≠ l := fun e => by rw [e, hl] at hp; cases hp; rw [ho] at hc; cases hc
 exact (World.putObj_heap_other hne).trans hp
theorem row_kept {X : Nat} {W W' : World} {B T n : Nat} {v : Value} {xs : List Value} (h : W.ownsRow B T 1 v n xs) (k : KC X W W') (hX : X < B) : W'.ownsRow B T 1 v n xs := by
 refine ⟨h.1, ?_⟩
 rcases h.2 with h0 | ⟨g, cap, cur, hv, hb, hg, rest⟩
 ·exact .inl h0
 ·exact .inr ⟨g, cap, cur, hv, hb, k.2 g _ (by omega) hg rfl, rest⟩
end zs6
namespace Mem
theorem texts_take {w : World} {a : Option Addr} {n cap : Nat} {L : List ByteArray} (h : zm6 w (.slice a n cap) L) (k : Nat) (hk : k ≤ L.length) (h0 : 0 < k) : zm6 w (.slice a k cap) (L.take k) := by
 rcases h with ⟨_, h2⟩ | ⟨b, o, cap', hv, hb, hc⟩
 ·subst h2; simp at hk; omega
 ·injection hv with e1 e2 e3
  subst e1
  refine .inr ⟨b, o, cap, by rw [List.length_take, Nat.min_eq_left hk], hb, fun j t hj => hc j t ?_⟩
  rw [List.getElem?_take] at hj
  split at hj
  ·exact hj
  ·cases hj
theorem own_cap {w : World} {B T n cap : Nat} {a : Option Addr} {xs : List Value} (h : w.ownsRow B T 1 (.slice a n cap) n xs) : n ≤ cap := by
 rcases h.2 with ⟨hv, h0⟩ | ⟨g, cap', cur, hv, hb, hg, hc, rest⟩
 ·omega
 ·injection hv with e1 e2 e3
  omega
end Mem
namespace zs6
set_option linter.unusedSimpArgs false in
set_option maxRecDepth 100000 in
set_option maxHeartbeats 2000000 in
theorem iter_stops (n : Nat) (X : Nat) (q : Addr) (p : ByteArray) (w : World) (hX : X < w.heap.size) (hq : w.cell? q = some (.string p)) (hql : q.block < w.heap.size) (hp : p.size ≤ 1048576) :
  SeqStopsK Fence.wide n Tryz.prog 125 #[.pointer (some q)] (fun x : Small => #[Value.string x.1]) (KC X) (fun xs => xs.map Subtype.val = Pl.ways (Pl.zb6 p) (Pl.zb6 p).length) (fun _ => True) (Pl.zb6 p).length w := fun l J Jx W hW hJ _ hY h0 => by
 have hq1 : W.cell? q = some (.string p) := (hW.cell hql).trans hq
 have hXW : X < W.heap.size := Nat.lt_of_lt_of_le hX hW.size
 have HN := hide (zz8.any p W hp)
 generalize Pl.za3 p = rr at HN
 have hl6 : (Pl.zb6 p).length ≤ 6 := (Pl.zk7 p).2
 have HGL : Hid (∀ k, (Pl.glue ((Pl.zb6 p).take k)).size ≤ 1000000) := fun k => Pl.yf7 (fun t ht => (Pl.zk7 p).1 t (List.mem_of_mem_take ht)) (by have := (Pl.zk7 p).2; simp; omega)
 generalize Pl.zb6 p = L at hY hl6 HGL HN ⊢
 refine callsIn_of_wp Tryz.func125 rfl trivial ?_ rfl
 simp only [Tryz.ntmps125, List.size_toArray, List.length_cons, List.length_nil, Nat.reduceAdd, Nat.reduceSub, Array.replicate_succ, Array.replicate_zero, List.push_toArray, List.append_toArray, List.nil_append, List.cons_append]
 gi_wp2_with fail
 refine ⟨trivial, fun h => (by cases h), ?_⟩
 refine (callsIn_wide.2 (za HN)).mono ?_
 rintro e w1 ⟨v, rfl, own, b1⟩
 obtain ⟨a, cap, rfl⟩ := Mem.za0 own
 have hJ1 : Hid (∃ pre : List Small, pre.map Subtype.val = Pl.ways L 0 ∧ J pre w1) := ⟨[], rfl, hJ [] W w1 none h0 (Mem.zi4 b1 none) (fun r e => by cases e)⟩
 have OW := hide own
 have HY := hide hY
 clear HN own b1 h0 hY
 gi_wp2_with fail
 gi_loopw [13] (fun i wr => ∃ k : Nat, k ≤ L.length ∧ i = .int .i64 k ∧ Hid (∃ pre : List Small, pre.map Subtype.val = Pl.ways L k ∧ J pre wr) ∧ Hid (wr.ownsRow W.heap.size 9 1 (.slice a L.length cap) L.length (L.map Value.string)))
  (fun i _ => L.length - (intOf i).toNat)
 case atStart => exact ⟨0, Nat.zero_le _, rfl, hJ1, OW⟩
 case round =>
  obtain ⟨k, hk, rfl, HJ, HO⟩ := hrel
  clear hJ1 OW
  by_cases hlt : k < L.length
  ·have y1 : (k : Int) < (L.length : Int) := by omega
   have hT := Mem.texts_take (Mem.zq5 (za HO)) (k + 1) (by omega) (by omega)
   have HP := hide (zz3.any (.slice a (k + 1) cap) (L.take (k + 1)) wr (by simp; omega) (za HGL (k + 1)) hT)
   have hcap := Mem.own_cap (za HO)
   have hw1 : IntKind.i64.wrap ((k : Int) + 1) = (k : Int) + 1 := by simp only [IntKind.wrap_i64]; omega
   clear hT
   gi_wp2_with fail
   refine ⟨trivial, fun h => (by cases h), ?_⟩
   refine (callsIn_wide.2 (za HP)).mono ?_
   rintro e w2 ⟨rfl, b2⟩
   obtain ⟨pre, hpre, hJp⟩ := za HJ
   have HJ2 : J pre w2 := hJ _ wr w2 none hJp (Mem.zi4 b2 none) (fun r e => by cases e)
   have HO2 := hide (Mem.zg5 (za HO) b2)
   obtain ⟨fn, tmps, assign, body, hy, hR⟩ := za HY pre ⟨Pl.glue (L.take (k + 1)), za HGL (k + 1)⟩ w2 HJ2 (by have := congrArg List.length hpre; rw [Pl.ways_len, List.length_map] at this; omega)
   have HWS : Hid ((pre ++ [(⟨Pl.glue (L.take (k + 1)), za HGL (k + 1)⟩ : Small)]).map Subtype.val = Pl.ways L (k + 1)) := by rw [List.map_append, hpre, Pl.yc5]; exact rfl
   dsimp only at hy
   clear HP HJ HO HJ2 b2 hpre hJp
   gi_wp2
   refine ⟨fun h => (by cases h), ?_⟩
   refine hR.mono ?_
   rintro e W3 (⟨rfl, hJ3, hk3⟩ | ⟨rfl, hJx3⟩)
   ·have HJ3 : Hid (∃ pre : List Small, pre.map Subtype.val = Pl.ways L (k + 1) ∧ J pre W3) := ⟨_, za HWS, hJ3⟩
    have HO3 := hide (row_kept (za HO2) hk3 hXW)
    clear hJ3 hk3 HO2 hR hy HWS
    gi_wp2
    go_roundw
    case rel => exact ⟨k + 1, by omega, by go_num, HJ3, HO3⟩
    case measure => simp [intOf]; omega
   ·gi_wp2
    refine bodyPost_ret (results_none rfl _ _ _) rfl ?_
    exact ⟨⟨_, rfl⟩, .inr ⟨_, trivial, hJx3⟩⟩
  ·obtain rfl : k = L.length := by omega
   have y1 : ¬ ((L.length : Int) < (L.length : Int)) := by omega
   gi_wp2
   go_end0
   exact ⟨⟨_, rfl⟩, .inl (za HJ)⟩
set_option maxRecDepth 100000 in
theorem paths_any (p : ByteArray) (w : World) : Calls Tryz.prog 119 #[.string p] w fun e w' => e = .returned (.func (.func 125) #[] #[.pointer (some ⟨w.heap.size, 0, none⟩)]) ∧ w' = w.alloc (.cells #[.string p] 9) := by
 have hmf : ∀ (fn : Fn) (first cap : Array Value) (w : World), (Instr.makeFunc fn first cap).run Tryz.prog w = .ok (.func fn first cap) w := fun _ _ _ _ => rfl
 go_enter Tryz.func119, Tryz.ntmps119
 go_wp2
 go_ret
 exact ⟨rfl, rfl⟩
end zs6
end Go.Proofs.YtcogaghibpajjaaGreatDoor

