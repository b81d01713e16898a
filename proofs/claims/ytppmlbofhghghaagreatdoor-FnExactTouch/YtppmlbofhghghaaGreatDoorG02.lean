/- Several texts of one claim in one file: TakeK, MemTexts, MemNodes, MemTrees, MemItems, Mem, WMk1, WMkN, MemVars, MemOwnN, MemBlk, MemFar, MemOwnI, MemIo. -/
import Derived.Below
import Derived.WalkKit
import Derived.Deep.RegionHeld3
import Derived.Test.YtppmlbofhghghaaGreatDoorG00
import Derived.Laws.IdiomStrings
import Derived.Deep.Draws
import Derived.Test.YtppmlbofhghghaaGreatDoorProg
import Derived.WalkSpells
import Derived.Deep.QuietTactic
import Derived.BigQuiet
import Derived.Laws.AppendOwn
namespace Go.Proofs.YtppmlbofhghghaaGreatDoor
open Go.RowKit
theorem tka {P : Program} {md : Region.Mode} {ops : Array Oper} {Q : Exit → Act → World → Prop} {S : World → Prop} {i : Nat} {oi : Oper} {v : Value} {fuel : Nat} {listed : Array Bool} {a : Act} {w : World} (hi : ops[i]? = some oi)
  (h : wpAnyH P md ops Q S fuel (listed.setIfInBounds i true) (a.put oi.dst v) w)
  (hs : Region.noSelect ops = true := by kernel_rfl) (hf : Region.free md ops listed i = true := by kernel_rfl) (hr : (Region.ready md ops listed).contains i = true := by kernel_rfl)
  (hw : Region.wanted oi (yielded ops a.tmps) = true := by rfl)
  (hy : ∀ w, S w → (execOp a.eval oi).run P w = .ok (.value v) w := by (intro w hSw; (try dsimp only at hSw); go_simp; (try with_reducible rfl)))
  (hQ : ∀ c a w, Q (.panic c) (a.put oi.dst v) w → Q (.panic c) a w := by first | exact fun _ _ _ h => h | exact fun _ _ _ h => nomatch h.1) (hS : S w := by assumption) : wpAnyH P md ops Q S (fuel + 1) listed a w :=
 wpAnyH_take hi hs hf hr hQ (Or.inl ⟨hw, hy⟩) hS h
theorem tkc {P : Program} {md : Region.Mode} {ops : Array Oper} {Q : Exit → Act → World → Prop} {S : World → Prop} {i : Nat} {oi : Oper} {fuel : Nat} {listed : Array Bool} {a : Act} {w : World} (hi : ops[i]? = some oi)
  (h : wpAnyH P md ops Q S fuel (listed.setIfInBounds i true) (a.put oi.dst undef) w)
  (hs : Region.noSelect ops = true := by kernel_rfl) (hf : Region.free md ops listed i = true := by kernel_rfl) (hr : (Region.ready md ops listed).contains i = true := by kernel_rfl)
  (hw : Region.wanted oi (yielded ops a.tmps) = false := by rfl)
  (hQ : ∀ c a w, Q (.panic c) (a.put oi.dst undef) w → Q (.panic c) a w := by first | exact fun _ _ _ h => h | exact fun _ _ _ h => nomatch h.1) (hS : S w := by assumption) : wpAnyH P md ops Q S (fuel + 1) listed a w :=
 wpAnyH_take hi hs hf hr hQ (Or.inr ⟨hw, rfl⟩) hS h
theorem kBs {α : Type} : (∀ (xs : List α) (i : Nat) (h : i < xs.toArray.size), xs.toArray[i] = xs[i]'(by simpa using h)) ∧ (∀ (a : α) (as' : List α) (h : 0 < (a :: as').length), (a :: as')[0] = a) ∧ (∀ (a : α) (as' : List α) (i : Nat) (h : i + 1 < (a :: as').length), (a :: as')[i + 1] = as'[i]'(by simpa using h)) ∧
  (∀ (l : List α) (i : Nat) (a : α), l.toArray.setIfInBounds i a = (l.set i a).toArray) ∧ (∀ (x a : α) (xs : List α), (x :: xs).set 0 a = a :: xs) ∧ (∀ (x a : α) (xs : List α) (n : Nat), (x :: xs).set (n + 1) a = x :: xs.set n a) :=
 ⟨fun _ _ _ => rfl, fun _ _ _ => rfl, fun _ _ _ _ => rfl, fun _ _ _ => List.setIfInBounds_toArray .., fun _ _ _ => rfl, fun _ _ _ _ => rfl⟩
end Go.Proofs.YtppmlbofhghghaaGreatDoor

namespace Go.Proofs.YtppmlbofhghghaaGreatDoor
open Go.RowKit
namespace Mem
theorem texts {w : World} {B T : Nat} {v : Value} {L : List ByteArray} (h : w.ownsRow B T 1 v L.length (L.map Value.string)) :
  (v = .slice none 0 0 ∧ L = []) ∨ ∃ g cap, v = .slice (some ⟨g, 0, none⟩) L.length cap ∧ L.length ≤ cap ∧ cap ≤ maxLen ∧ B ≤ g ∧ g < w.heap.size ∧ ∀ (k : Nat) t, L[k]? = some t → w.cell? ⟨g, k, none⟩ = some (.string t) := by
 rcases h.2 with ⟨rfl, h0⟩ | ⟨g, cap, cur, rfl, hgb, hg, hcap, hm, hsz, htk⟩
 ·exact .inl ⟨rfl, List.eq_nil_of_length_eq_zero h0⟩
 ·refine .inr ⟨g, cap, rfl, hcap, hm, hgb, (Array.getElem?_eq_some_iff.1 hg).1, fun k t ht => ?_⟩
  have hk := (List.getElem?_eq_some_iff.1 ht).1
  rw [cell_of_row w g k cur T (0, 0) hg]
  have h1 : (cur.toList.take (L.length * 1))[k]? = (L.map Value.string)[k]? := by rw [htk]
  rw [List.getElem?_take_of_lt (by omega), List.getElem?_map, ht] at h1
  simpa using h1
theorem one_str (t : ByteArray) : ∀ u ∈ [Value.string t], u.oneCell' = true := by
 intro u hu; simp at hu; subst hu; rfl
def zo (w : World) (v : Value) (ts : List ByteArray) : Prop :=
 (v = .slice none 0 0 ∧ ts = []) ∨ ∃ b o cap, v = .slice (some ⟨b, o, none⟩) ts.length cap ∧ b < w.heap.size ∧ ∀ (j : Nat) t, ts[j]? = some t → w.cell? ⟨b, o + j, none⟩ = some (.string t)
theorem zo6 {w : World} {B T : Nat} {v : Value} {L : List ByteArray} (h : w.ownsRow B T 1 v L.length (L.map Value.string)) : zo w v L := by
 rcases texts h with h | ⟨g, cap, h1, h2, h3, h4, h5, h6⟩
 ·exact .inl h
 ·exact .inr ⟨g, 0, cap, h1, h5, fun j t ht => by rw [Nat.zero_add]; exact h6 j t ht⟩
theorem take_texts {w : World} {g cap : Nat} {L : List ByteArray} (hg : g < w.heap.size) (hc : ∀ (k : Nat) t, L[k]? = some t → w.cell? ⟨g, k, none⟩ = some (.string t)) (n : Nat) (hn : n ≤ L.length) :
  zo w (.slice (some ⟨g, 0, none⟩) n cap) (L.take n) := by
 refine .inr ⟨g, 0, cap, by rw [List.length_take, Nat.min_eq_left hn], hg, fun j t ht => ?_⟩
 rw [Nat.zero_add]
 refine hc j t ?_
 have hj : j < n := by have := (List.getElem?_eq_some_iff.1 ht).1; rw [List.length_take] at this; omega
 rwa [List.getElem?_take_of_lt hj] at ht
theorem own_below {w w' : World} {B B' e size n : Nat} {v : Value} {xs : List Value} (h : w.ownsRow B e size v n xs) (hb : Below B' w w') (hB : ∀ k, v.ownBlock = some k → k < B') : w'.ownsRow B e size v n xs := by
 refine ⟨h.1, ?_⟩
 rcases h.2 with h0 | ⟨g, cap, cur, rfl, hgb, hg, rest⟩
 ·exact .inl h0
 ·exact .inr ⟨g, cap, cur, rfl, hgb, (hb.block g (hB g rfl)).trans hg, rest⟩
theorem zj9 {w w' : World} {B e size n : Nat} {v : Value} {xs : List Value} (h : w.ownsRow B e size v n xs) (hb : Below w.heap.size w w') : w'.ownsRow B e size v n xs :=
 own_below h hb (fun k hk => (h.lt k hk).2)
theorem texts_call {w w' : World} {v : Value} {ts : List ByteArray} (h : zo w v ts) (hb : Below w.heap.size w w') : zo w' v ts := by
 rcases h with h | ⟨b, o, cap, rfl, hlt, hc⟩
 ·exact .inl h
 ·exact .inr ⟨b, o, cap, rfl, Nat.lt_of_lt_of_le hlt hb.size, fun j t ht => (hb.cell (p := ⟨b, o + j, none⟩) hlt).trans (hc j t ht)⟩
theorem below_drewN {B : Nat} {a w : World} (h : Below B a w) (q : Nat) : Below B a (w.drewN q) := h.trans ⟨rfl, rfl, rfl, Nat.le_refl _, fun _ _ => rfl⟩
theorem zz0 {w : World} {v : Value} {ts : List ByteArray} (h : zo w v ts) : ∃ a cap, v = .slice a ts.length cap := by
 rcases h with ⟨rfl, rfl⟩ | ⟨b, o, cap, rfl, _⟩ <;> exact ⟨_, _, rfl⟩
end Mem
end Go.Proofs.YtppmlbofhghghaaGreatDoor

namespace Go.Proofs.YtppmlbofhghghaaGreatDoor
open Go.RowKit
namespace Mem
def za1 (w : World) (a : Option Addr) (L : List Pl.Nd) : Prop :=
 ∀ (i : Nat) n, L[i]? = some n → ∃ b o, a = some ⟨b, o, none⟩ ∧ b < w.heap.size ∧
  w.cell? ⟨b, o + i * 5, none⟩ = some (.string n.path) ∧ w.cell? ⟨b, o + i * 5 + 1, none⟩ = some (.int .i64 n.kind) ∧ w.cell? ⟨b, o + i * 5 + 2, none⟩ = some (.string n.data) ∧
  w.cell? ⟨b, o + i * 5 + 3, none⟩ = some (.int .i64 n.time) ∧ w.cell? ⟨b, o + i * 5 + 4, none⟩ = some (.int .i64 n.mark)
theorem za0 {w w' : World} {a : Option Addr} {L : List Pl.Nd} (h : za1 w a L) (b : Below w.heap.size w w') : za1 w' a L := fun i n hi => by
 obtain ⟨g, o, h1, h2, h3, h4, h5, h6, h7⟩ := h i n hi
 exact ⟨g, o, h1, Nat.lt_of_lt_of_le h2 b.size, (b.cell (p := ⟨g, _, none⟩) h2).trans h3, (b.cell (p := ⟨g, _, none⟩) h2).trans h4, (b.cell (p := ⟨g, _, none⟩) h2).trans h5, (b.cell (p := ⟨g, _, none⟩) h2).trans h6, (b.cell (p := ⟨g, _, none⟩) h2).trans h7⟩
theorem zq (b o j : Nat) : (⟨b, o, none⟩ : Addr).add j = ⟨b, o + j, none⟩ := by unfold Addr.add; split <;> simp_all
theorem ye1 (w : World) (a : Option Addr) : za1 w a [] := fun i n hi => by simp at hi
end Mem
end Go.Proofs.YtppmlbofhghghaaGreatDoor

namespace Go.Proofs.YtppmlbofhghghaaGreatDoor
open Go.RowKit
namespace Pl
structure Tr where
 a : Option Addr
 cap : Nat
 L : List Nd
def Tr.val (t : Tr) : Value := .slice t.a t.L.length t.cap
end Pl
namespace Mem
def zx8 (w : World) (a : Option Addr) (Ts : List Pl.Tr) : Prop :=
 ∀ (i : Nat) t, Ts[i]? = some t → (∃ b o, a = some ⟨b, o, none⟩ ∧ b < w.heap.size ∧ w.cell? ⟨b, o + i, none⟩ = some t.val) ∧ za1 w t.a t.L
theorem zw8 {w w' : World} {a : Option Addr} {Ts : List Pl.Tr} (h : zx8 w a Ts) (b : Below w.heap.size w w') : zx8 w' a Ts := fun i t hi => by
 obtain ⟨⟨g, o, h1, h2, h3⟩, h4⟩ := h i t hi
 exact ⟨⟨g, o, h1, Nat.lt_of_lt_of_le h2 b.size, (b.cell (p := ⟨g, _, none⟩) h2).trans h3⟩, za0 h4 b⟩
end Mem
end Go.Proofs.YtppmlbofhghghaaGreatDoor

namespace Go.Proofs.YtppmlbofhghghaaGreatDoor
open Go.RowKit
namespace Pl
structure It where
 m : Int
 t : Tr
def It.r (x : It) : Int × List Nd := (x.m, x.t.L)
end Pl
namespace Mem
def zb3 (w : World) (a : Option Addr) (Is : List Pl.It) : Prop :=
 ∀ (i : Nat) x, Is[i]? = some x → (∃ b o, a = some ⟨b, o, none⟩ ∧ b < w.heap.size ∧ w.cell? ⟨b, o + i * 2, none⟩ = some (.int .i64 x.m) ∧ w.cell? ⟨b, o + i * 2 + 1, none⟩ = some x.t.val) ∧ za1 w x.t.a x.t.L
theorem za6 {w w' : World} {a : Option Addr} {Is : List Pl.It} (h : zb3 w a Is) (b : Below w.heap.size w w') : zb3 w' a Is := fun i t hi => by
 obtain ⟨⟨g, o, h1, h2, h3, h5⟩, h4⟩ := h i t hi
 exact ⟨⟨g, o, h1, Nat.lt_of_lt_of_le h2 b.size, (b.cell (p := ⟨g, _, none⟩) h2).trans h3, (b.cell (p := ⟨g, _, none⟩) h2).trans h5⟩, za0 h4 b⟩
theorem yf0 (w : World) (a : Option Addr) : zb3 w a [] := fun i n hi => by simp at hi
theorem items_drop {w : World} {b o : Nat} {Is : List Pl.It} (k : Nat) (h : zb3 w (some ⟨b, o, none⟩) Is) : zb3 w (some ⟨b, o + k * 2, none⟩) (Is.drop k) := fun i t hi => by
 rw [List.getElem?_drop] at hi
 obtain ⟨⟨g, o', h1, h2, h3, h5⟩, h4⟩ := h _ t hi
 cases h1
 refine ⟨⟨b, _, rfl, h2, ?_, ?_⟩, h4⟩
 ·rw [show o + k * 2 + i * 2 = o + (k + i) * 2 by omega]; exact h3
 ·rw [show o + k * 2 + i * 2 + 1 = o + (k + i) * 2 + 1 by omega]; exact h5
def shifted (a a' : Option Addr) (k : Nat) (Is : List Pl.It) : Prop := Is.drop k = [] ∨ ∃ b o, a = some ⟨b, o, none⟩ ∧ a' = some ⟨b, o + k * 2, none⟩
theorem items_shift {w : World} {a a' : Option Addr} {k : Nat} {Is : List Pl.It} (h : zb3 w a Is) (hs : shifted a a' k Is) : zb3 w a' (Is.drop k) := by
 rcases hs with hs | ⟨b, o, rfl, rfl⟩
 ·rw [hs]; exact yf0 _ _
 ·exact items_drop k h
theorem shifted_trans {a a' a'' : Option Addr} {k j : Nat} {Is : List Pl.It} (h : shifted a a' k Is) (h' : shifted a' a'' j (Is.drop k)) : shifted a a'' (k + j) Is := by
 rcases h' with h' | ⟨b, o, e1, e2⟩
 ·rw [List.drop_drop] at h'; exact .inl h'
 ·rcases h with h | ⟨b1, o1, e3, e4⟩
  ·left; rw [← List.drop_drop, h, List.drop_nil]
  ·rw [e4] at e1
   cases e1
   exact .inr ⟨_, o1, e3, by rw [e2]; congr 2; omega⟩
end Mem
end Go.Proofs.YtppmlbofhghghaaGreatDoor

namespace Go.Proofs.YtppmlbofhghghaaGreatDoor
open Go.RowKit
namespace Mem
theorem add_lit (b j : Nat) : (⟨b, 0, none⟩ : Addr).add j = ⟨b, j, none⟩ := by unfold Addr.add; split <;> simp_all

theorem row_text {P : Program} {src dst e : TypeId} (hs : P.underlying src = some (.slice e)) (he : P.underlying e = some (.int .u8)) (hd : P.underlying dst = some .string)
  {w : World} {g n cap : Nat} {cur : Array Value} {t : TypeId} (l : List UInt8) (hn : l.length = n) (hg : w.heap[g]? = some (.cells cur t (0, 0))) (ht : cur.toList.take n = l.map Pl.zh8) :
  (convert src dst (.slice (some ⟨g, 0, none⟩) n cap)).run P w = .ok (.string ⟨l.toArray⟩) w := by
 subst hn
 refine run_convert_bytes_back w src dst e ⟨g, 0, none⟩ cap l hs he hd (fun j hj => ?_)
 rw [add_lit, cell_of_row w g j cur t (0, 0) hg]
 have h1 : (cur.toList.take l.length)[j]? = (l.map Pl.zh8)[j]? := by rw [ht]
 rw [List.getElem?_take_of_lt (by omega)] at h1
 simpa [Pl.zh8, hj] using h1

theorem zl8 {B : Nat} {a w w1 : World} {o : Obj} {e : TypeId} {size n : Nat} {v : Value} {xs : List Value} (h : Below B a w) (hB : B ≤ a.heap.size) (hown : w.ownsRow B e size v n xs) (hg : (w.alloc o).grownBy w1 v.ownBlock) : Below B a w1 :=
 have hs := h.size
 (h.alloc (by omega) o).grown hg (by simp; omega) (fun k hk => (hown.lt k hk).1)

theorem zh7 (w : World) (v : Value) (e : TypeId) : ∀ j u, [v][j]? = some u → (w.alloc (.cells #[v] e)).cell? ((⟨w.heap.size, 0, none⟩ : Addr).add j) = some u := by
 intro j u hj
 match j, hj with
 | 0, hj => simp at hj; subst hj; rw [add_lit]; simp
 | j + 1, hj => simp at hj
theorem zg6 {w : World} {g j : Nat} {cur : Array Value} {t : TypeId} (hg : w.heap[g]? = some (.cells cur t (0, 0))) : w.frozen? ⟨g, j, none⟩ = false := by
 simp [World.frozen?, hg]
def zeros (n : Nat) : Array Value := madeCells (Value.int .u8 0).cells n
theorem zeros_size (n : Nat) : (zeros n).size = n := size_madeCells _ _
theorem make_bytes {P : Program} {T E : TypeId} (ht : P.underlying T = some (.slice E)) (hi : (P.info? E).map (fun i => (i.zero, i.size, i.bytes)) = some (some (.int .u8 0), 1, 1)) (n : Nat) (hn : n ≤ 1000000000) (w : World) :
  (Instr.makeSlice T (.int .i64 (n : Int)) (.int .i64 (n : Int))).run P w = .ok (.slice (some ⟨w.heap.size, 0, none⟩) n n) (w.alloc (.cells (zeros n) E)) := by
 obtain ⟨i0, h0, h1, h2, h3⟩ := info_parts hi
 have h := run_make (P := P) w T E i0 (.int .u8 0) ht h0 h1 .i64 .i64 (n : Int) (n : Int) (by omega) (Int.le_refl _) (by rw [h3]; omega) (by omega)
 rw [h, h2]
 simp [zeros]

theorem bytes_one (l : List UInt8) : ∀ v ∈ l.map Pl.zh8, v.oneCell' = true := by
 intro v hv
 obtain ⟨b, _, rfl⟩ := List.mem_map.1 hv
 rfl
theorem copy_on {P : Program} {dT sT E : TypeId} (hu : P.underlying dT = some (.slice E)) (hz : ∀ w, (sizeOf E).run P w = .ok 1 w) (w : World) (B p N : Nat) (cur : Array Value)
  (hB : w.heap[B]? = some (.cells cur E (0, 0))) (hc : cur.size = N) (t : ByteArray) (hfit : p + t.size ≤ N) :
  ∃ D w', (∀ wx, (Instr.slice dT (.slice (some ⟨B, 0, none⟩) N N) (some (.int .i64 (p : Int))) none none).run P wx = .ok D wx) ∧
   (∀ ty, (Builtin.copy_ #[dT, sT] ty #[D, .string t]).run P w = .ok (.int .i64 (t.size : Int)) w') ∧
   w'.heap[B]? = some (.cells (cur.toList.take p ++ t.data.toList.map Pl.zh8 ++ cur.toList.drop (p + t.size)).toArray E (0, 0)) ∧ Below B w w' := by
 have ht : P.underlying dT = some (.slice (P.elem dT)) := by simp [Program.elem, hu]
 have he : P.elem dT = E := by simp [Program.elem, hu]
 have hsl : ∀ wx, (Instr.slice dT (.slice (some ⟨B, 0, none⟩) N N) (some (.int .i64 (p : Int))) none none).run P wx = .ok (sliced (some ⟨B, 0, none⟩) p N N 1) wx := by
  intro wx
  have h := run_slice_l (P := P) wx dT (some ⟨B, 0, none⟩) N N ht .i64 (p : Int) (by omega) (by omega)
  rw [h, he, hz]
  rfl
 by_cases hp : p = N
 ·subst hp
  have h0 : t.size = 0 := by omega
  have hd : t.data = #[] := Array.eq_empty_of_size_eq_zero h0
  refine ⟨.slice (some ⟨B, 0, none⟩) 0 0, w, ?_, ?_, ?_, Below.refl _ _⟩
  ·intro wx; rw [hsl]; simp [sliced]
  ·intro ty
   simp [Builtin.copy_, run_underlying hu, Builtin.lenOf, Builtin.firstCells, hz, h0, goInt, storeCells]
  ·rw [hB, h0, hd]; simp
 ·have hlt : p < N := by omega
  have hlen : (t.data.toList.map Pl.zh8).length = t.size := by rw [List.length_map]; rfl
  have hst := run_storeCells_at P B p E (t.data.toList.map Pl.zh8) 0 cur w hB (by rw [hlen]; omega) (bytes_one _)
  rw [hlen] at hst
  simp only [Nat.add_zero] at hst
  refine ⟨.slice (some ⟨B, p, none⟩) (N - p) (N - p), _, ?_, ?_, setRow_heap w B cur _ E _ hB, ?_⟩
  ·intro wx
   rw [hsl]
   have h1 : ¬ N = p := fun h => hp h.symm
   simp [sliced, h1, add_lit]
  ·intro ty
   have hmin : Nat.min t.size (N - p) = t.size := Nat.min_eq_left (by omega)
   have htk : List.take t.size (List.map (fun b : UInt8 => Value.int IntKind.u8 (b.toNat : Int)) t.data.toList) = t.data.toList.map Pl.zh8 := by
    rw [List.take_of_length_le (by rw [List.length_map]; exact Nat.le_refl _)]; rfl
   simp [Builtin.copy_, run_underlying hu, Builtin.lenOf, Builtin.firstCells, hz, hmin]
   rw [htk, hst, List.append_assoc]
   rfl
  ·exact ⟨rfl, rfl, rfl, by simp, fun k hk => setRow_other w B k _ (by omega)⟩
theorem zr6 {w : World} {B B' e size n : Nat} {v : Value} {xs : List Value} (h : w.ownsRow B e size v n xs) (hb : B' ≤ B) : w.ownsRow B' e size v n xs := by
 refine ⟨h.1, ?_⟩
 rcases h.2 with h0 | ⟨g, cap, cur, hv, hg, rest⟩
 ·exact .inl h0
 ·exact .inr ⟨g, cap, cur, hv, Nat.le_trans hb hg, rest⟩
theorem za2 {w : World} {B e size n : Nat} {v : Value} {xs : List Value} (h : w.ownsRow B e size v n xs) : ∃ a cap, v = .slice a n cap := by
 rcases h.2 with ⟨rfl, rfl⟩ | ⟨g, cap, cur, rfl, _⟩
 ·exact ⟨_, _, rfl⟩
 ·exact ⟨_, _, rfl⟩
end Mem
end Go.Proofs.YtppmlbofhghghaaGreatDoor

namespace Go.Proofs.YtppmlbofhghghaaGreatDoor
open Go.RowKit
namespace Pl
def decF : Nat → Nat → List UInt8 → List UInt8
 | 0, _, out => out
 | f + 1, k, out => if k = 0 then out else decF f (k / 10) (UInt8.ofNat (48 + k % 10) :: out)
theorem decF_zero (f : Nat) (out : List UInt8) : decF f 0 out = out := by cases f <;> simp [decF]
theorem decF_step {f k : Nat} (h : 0 < k) (out : List UInt8) : decF (f + 1) k out = decF f (k / 10) (UInt8.ofNat (48 + k % 10) :: out) := by
 rw [decF, if_neg (by omega)]
def mark (k : Nat) : ByteArray := ⟨(109 :: decF k k []).toArray⟩
def marks (k : Nat) : Nat → List ByteArray
 | 0 => []
 | n + 1 => marks k n ++ [mark (k + n)]
end Pl
namespace WMarks
set_option maxRecDepth 100000 in
set_option maxHeartbeats 400000 in
theorem zi (K : Nat) (w : World) (h0 : 0 < K) (hK : K ≤ 1000000000000000000) :
  Calls Tryz.prog 86 #[.int .i64 (K : Int)] w fun e w' => e = .returned (.string (Pl.mark K)) ∧ Below w.heap.size w w' := by
 have p1 : ¬ (K : Int) ≤ 0 := by omega
 go_enter Tryz.func86, Tryz.ntmps86
 go_wp2
 go_loopw [0, 3] (fun a o wr => ∃ (f k : Nat) (out : List UInt8), k ≤ f ∧ out.length + k ≤ K ∧ a = .int .i64 (k : Int) ∧ o = .string ⟨out.toArray⟩ ∧ Below w.heap.size w wr ∧ Hid (Pl.decF f k out = Pl.decF K K [])) (fun a _ _ => (intOf a).toNat)
 case atStart => exact ⟨K, K, [], Nat.le_refl _, by simp, rfl, rfl, Below.refl _ _, rfl⟩
 case round =>
  obtain ⟨f, k, out, hf, hk, rfl, rfl, hbel, HD⟩ := hrel
  have hsz := hbel.size
  have ho : ¬ 9223372036854775807 < 1 + out.length := by omega
  by_cases hk0 : 0 < k
  ·obtain ⟨f, rfl⟩ : ∃ g, f = g + 1 := ⟨f - 1, by omega⟩
   have HD2 : Hid (Pl.decF f (k / 10) (UInt8.ofNat (48 + k % 10) :: out) = Pl.decF K K []) := (Pl.decF_step hk0 out).symm.trans HD.out
   have p2 : (0 : Int) < (k : Int) := by omega
   clear HD
   have hb : ((UInt8.ofNat (48 + k % 10)).toNat : Int) = 48 + (k : Int) % 10 := by
    rw [UInt8.toNat_ofNat_of_lt' (by show 48 + k % 10 < 256; omega)]; omega
   have hcv := Mem.row_text (P := Tryz.prog) (w := wr.alloc (.cells #[.int .u8 (48 + (k : Int) % 10)] 5)) (n := 1) (cap := 1) Tryz.underlying149 Tryz.underlying5 Tryz.underlying9 [UInt8.ofNat (48 + k % 10)] rfl (heap_alloc_new wr _) (by simp only [List.map_cons, List.map_nil, Pl.zh8, hb]; rfl)
   have HX : Hid ((⟨[UInt8.ofNat (48 + k % 10)].toArray⟩ : ByteArray) ++ (⟨out.toArray⟩ : ByteArray) = ⟨(UInt8.ofNat (48 + k % 10) :: out).toArray⟩) := by
    show _ = _
    rw [Pl.yo2]; rfl
   have hbel2 := hbel.alloc hsz (.cells #[.int .u8 (48 + (k : Int) % 10)] 5)
   generalize UInt8.ofNat (48 + k % 10) = b at hcv HX HD2
   clear hb
   go_wp2
   go_roundw
   case rel => exact ⟨f, k / 10, b :: out, by omega, by simp; omega, by go_num, congrArg Value.string HX.out, hbel2, HD2⟩
   case measure => simp [intOf]; omega
  ·have HD2 : Hid (out = Pl.decF K K []) := by
    obtain rfl : k = 0 := by omega
    exact (Pl.decF_zero f out).symm.trans HD.out
   have p2 : ¬ (0 : Int) < (k : Int) := by omega
   have HX : Hid ((⟨#[109]⟩ : ByteArray) ++ (⟨out.toArray⟩ : ByteArray) = Pl.mark K) := by
    show _ = _
    rw [Pl.mark, ← HD2.out]
    exact Pl.yo2 [109] ⟨out.toArray⟩
   clear HD
   go_wp2
   go_ret
   exact ⟨congrArg (fun x => Ending.returned (.string x)) HX.out, hbel⟩
end WMarks
end Go.Proofs.YtppmlbofhghghaaGreatDoor

namespace Go.Proofs.YtppmlbofhghghaaGreatDoor
open Go.RowKit
namespace Pl
def yg8 (K i : Nat) : Nd := ⟨mark (K + 5 * i), ((K + 5 * i + 1 : Nat) : Int), mark (K + 5 * i + 2), ((K + 5 * i + 3 : Nat) : Int), ((K + 5 * i + 4 : Nat) : Int)⟩
def zu1 (K n : Nat) : List Nd := (List.range n).map (yg8 K)
theorem markN_get {K n i : Nat} {m : Nd} (h : (zu1 K n)[i]? = some m) : i < n ∧ m = yg8 K i := by
 unfold zu1 at h
 rw [List.getElem?_map, Option.map_eq_some_iff] at h
 obtain ⟨j, hj, rfl⟩ := h
 obtain ⟨h1, h2⟩ := List.getElem?_eq_some_iff.1 hj
 simp at h1 h2
 subst h2
 exact ⟨h1, rfl⟩
theorem yl2 (K n : Nat) : (zu1 K n).length = n := by simp [zu1]
def rowAt (cv : Array Value) (j : Nat) (m : Nd) : Prop := cv[j * 5]? = some (.string m.path) ∧ cv[j * 5 + 1]? = some (.int .i64 m.kind) ∧ cv[j * 5 + 2]? = some (.string m.data) ∧ cv[j * 5 + 3]? = some (.int .i64 m.time) ∧ cv[j * 5 + 4]? = some (.int .i64 m.mark)
end Pl
namespace yh2
theorem ya6 {w v v' : World} {g : Nat} (h : w.grownBy v (some g)) (b : Below v.heap.size v v') : w.grownBy v' (some g) :=
 ⟨b.os.trans h.os, b.tape.trans h.tape, b.output.trans h.output, Nat.le_trans h.size b.size, fun j hj hne => (b.block j (Nat.lt_of_lt_of_le hj h.size)).trans (h.block j hj hne)⟩
theorem zd7 {w v : World} {g o : Nat} {x : Value} (h : w.grownBy v (some g)) : w.grownBy (v.setCell ⟨g, o, none⟩ x) (some g) :=
 ⟨h.os, h.tape, h.output, Nat.le_trans h.size (by simp [World.setCell]), fun j hj hne => (Below.heap_setCell _ _ _ _ (by intro e; exact hne (by rw [e]))).trans (h.block j hj hne)⟩
set_option maxRecDepth 100000 in
set_option maxHeartbeats 400000 in
theorem lay_any (g n cap K : Nat) (cur : Array Value) (w : World) (hn : n ≤ 1048576) (hK : 0 < K) (hK2 : K ≤ 100000000000000000) (hrow : w.heap[g]? = some (.cells cur 47 (0, 0))) (hsz : n * 5 ≤ cur.size) :
  Calls Tryz.prog 39 #[.slice (some ⟨g, 0, none⟩) n cap, .int .i64 (K : Int)] w fun e w' => e = .returned (.int .i64 ((K + 5 * n : Nat) : Int)) ∧
   (∃ cur', w'.heap[g]? = some (.cells cur' 47 (0, 0)) ∧ cur'.size = cur.size) ∧ Mem.za1 w' (some ⟨g, 0, none⟩) (Pl.zu1 K n) ∧ w.grownBy w' (some g) := by
 have HR0 := hide hrow
 have HS0 := hide hsz
 clear hrow hsz
 go_enter Tryz.func39, Tryz.ntmps39
 go_wp2
 go_loopw [1, 5] (fun a i wr => ∃ (k q : Nat) (cv : Array Value), k ≤ n ∧ q = K + 5 * k ∧ i = .int .i64 (k : Int) ∧ a = .int .i64 (q : Int) ∧ Hid (wr.heap[g]? = some (.cells cv 47 (0, 0))) ∧ Hid (cv.size = cur.size) ∧ Hid (w.grownBy wr (some g)) ∧
   Hid (∀ j, j < k → Pl.rowAt cv j (Pl.yg8 K j))) (fun _ i _ => n - (intOf i).toNat)
 case atStart => exact ⟨0, K, cur, Nat.zero_le _, rfl, rfl, rfl, HR0, rfl, ⟨rfl, rfl, rfl, Nat.le_refl _, fun _ _ _ => rfl⟩, fun j h => absurd h (by omega)⟩
 case round =>
  obtain ⟨k, q, cv, hk, hq, rfl, rfl, HR, HS, HG, HA⟩ := hrel
  by_cases hlt : k < n
  ·have y1 : (k : Int) < (n : Int) := by omega
   have y3 : (0 : Int) ≤ (k : Int) := by omega
   have HM := hide (fun W => WMarks.zi q W (by omega) (by omega))
   have HM2 := hide (fun W => WMarks.zi (q + 2) W (by omega) (by omega))
   rw [show ((q + 2 : Nat) : Int) = (q : Int) + 1 + 1 by omega] at HM2
   have HQ := hide hq
   have q1 : (q : Int) ≤ 1000000000000000000 := by omega
   clear hq
   go_wp2_with fail
   refine (za HM _).mono ?_
   rintro e w2 ⟨rfl, b2⟩
   have hg : g < wr.heap.size := (Array.getElem?_eq_some_iff.1 (za HR)).1
   have HR2 := hide ((b2.block _ hg).trans (za HR))
   have hcz : n * 5 ≤ cv.size := by rw [za HS]; exact za HS0
   have s0 : ∃ x, w2.cell? ⟨g, k * 5, none⟩ = some x := ⟨_, (cell_of_row w2 _ (k * 5) _ _ (0, 0) (za HR2)).trans (Array.getElem?_eq_getElem (by omega))⟩
   have s1 : ∃ x, w2.cell? ⟨g, k * 5 + 1, none⟩ = some x := ⟨_, (cell_of_row w2 _ (k * 5 + 1) _ _ (0, 0) (za HR2)).trans (Array.getElem?_eq_getElem (by omega))⟩
   obtain ⟨x0, s0⟩ := s0
   obtain ⟨x1, s1⟩ := s1
   have f0 : ∀ j, w2.frozen? ⟨g, j, none⟩ = false := fun j => Mem.zg6 (za HR2)
   have HG2 := hide (ya6 (za HG) b2)
   have HCZ := hide hcz
   clear b2 HR HG hcz hg HM
   go_wp2_with fail
   have HR3 := hide (heap_setCell_same _ _ (k * 5 + 1) _ _ (.int .i64 ((q : Int) + 1)) (heap_setCell_same _ _ (k * 5) _ _ (.string (Pl.mark q)) (za HR2)))
   have HG3 := hide (zd7 (o := k * 5 + 1) (x := .int .i64 ((q : Int) + 1)) (zd7 (o := k * 5) (x := .string (Pl.mark q)) (za HG2)))
   refine (za HM2 _).mono ?_
   rintro e w4 ⟨rfl, b4⟩
   have HR4 := hide ((b4.block _ (Array.getElem?_eq_some_iff.1 (za HR3)).1).trans (za HR3))
   have HG4 := hide (ya6 (za HG3) b4)
   have hcz := za HCZ
   have s2 : ∃ x, w4.cell? ⟨g, k * 5 + 2, none⟩ = some x := ⟨_, (cell_of_row w4 _ (k * 5 + 2) _ _ (0, 0) (za HR4)).trans (Array.getElem?_eq_getElem (by simp; omega))⟩
   have s3 : ∃ x, w4.cell? ⟨g, k * 5 + 3, none⟩ = some x := ⟨_, (cell_of_row w4 _ (k * 5 + 3) _ _ (0, 0) (za HR4)).trans (Array.getElem?_eq_getElem (by simp; omega))⟩
   have s4 : ∃ x, w4.cell? ⟨g, k * 5 + 4, none⟩ = some x := ⟨_, (cell_of_row w4 _ (k * 5 + 4) _ _ (0, 0) (za HR4)).trans (Array.getElem?_eq_getElem (by simp; omega))⟩
   obtain ⟨x2, s2⟩ := s2
   obtain ⟨x3, s3⟩ := s3
   obtain ⟨x4, s4⟩ := s4
   have f4 : ∀ j, w4.frozen? ⟨g, j, none⟩ = false := fun j => Mem.zg6 (za HR4)
   clear b4 HR2 HG2 HR3 HG3 hcz HM2 s0 s1 f0
   go_wp2
   go_roundw
   case rel =>
    refine ⟨k + 1, q + 5, _, by omega, by have := za HQ; omega, by go_num, by go_num, hide (heap_setCell_same _ _ (k * 5 + 4) _ _ _ (heap_setCell_same _ _ (k * 5 + 3) _ _ _ (heap_setCell_same _ _ (k * 5 + 2) _ _ _ (za HR4)))), ?_, hide (zd7 (zd7 (zd7 (za HG4)))), ?_⟩
    ·exact hide (by simpa using za HS)
    ·intro j hj
     have hcz := za HCZ
     rcases Nat.lt_succ_iff_lt_or_eq.1 hj with h'' | rfl
     ·obtain ⟨i0, i1, i2, i3, i4⟩ := HA.out j h''
      simp only [Pl.rowAt, Array.getElem?_setIfInBounds]
      refine ⟨?_, ?_, ?_, ?_, ?_⟩ <;> (repeat (rw [if_neg (by omega)])) <;> assumption
     ·have hq := za HQ
      simp only [Pl.rowAt, Pl.yg8, Array.getElem?_setIfInBounds, Array.size_setIfInBounds, ← hq]
      refine ⟨?_, ?_, ?_, ?_, ?_⟩ <;> simp <;> omega
   case measure => simp [intOf]; omega
  ·obtain rfl : k = n := by omega
   have y1 : ¬ (k : Int) < (k : Int) := by omega
   have hq2 : (q : Int) = ((K + 5 * k : Nat) : Int) := by omega
   have HQ := hide hq2
   clear hq2 hq
   go_wp2
   go_ret
   refine ⟨by rw [za HQ]; rfl, ⟨cv, za HR, za HS⟩, fun j m hj => ?_, za HG⟩
   obtain ⟨hjl, rfl⟩ := Pl.markN_get hj
   obtain ⟨i0, i1, i2, i3, i4⟩ := HA.out j hjl
   refine ⟨g, 0, rfl, (Array.getElem?_eq_some_iff.1 (za HR)).1, ?_, ?_, ?_, ?_, ?_⟩
   ·rw [cell_of_row wr _ _ _ _ (0, 0) (za HR), Nat.zero_add]; exact i0
   ·rw [cell_of_row wr _ _ _ _ (0, 0) (za HR), Nat.zero_add]; exact i1
   ·rw [cell_of_row wr _ _ _ _ (0, 0) (za HR), Nat.zero_add]; exact i2
   ·rw [cell_of_row wr _ _ _ _ (0, 0) (za HR), Nat.zero_add]; exact i3
   ·rw [cell_of_row wr _ _ _ _ (0, 0) (za HR), Nat.zero_add]; exact i4
end yh2
end Go.Proofs.YtppmlbofhghghaaGreatDoor

namespace Go.Proofs.YtppmlbofhghghaaGreatDoor
open Go.RowKit
namespace Mem
def Var (w : World) (B : Nat) (cs : List Value) : Prop := B < w.heap.size ∧ ∀ (j : Nat) v, cs[j]? = some v → w.cell? ⟨B, j, none⟩ = some v
theorem zm4 {w w' : World} {B : Nat} {cs : List Value} (h : Var w B cs) (b : Below w.heap.size w w') : Var w' B cs :=
 ⟨Nat.lt_of_lt_of_le h.1 b.size, fun j v hv => (b.cell (p := ⟨B, j, none⟩) h.1).trans (h.2 j v hv)⟩
theorem zi5 (w : World) (cs : List Value) (T : TypeId) : Var (w.alloc (.cells cs.toArray T)) w.heap.size cs :=
 ⟨by simp, fun j v hv => by rw [cell_of_row _ _ j _ T (0, 0) (heap_alloc_new w _)]; simpa using hv⟩
theorem yk3 {w : World} {B : Nat} {cs : List Value} (h : Var w B cs) (o : Obj) : Var (w.alloc o) B cs :=
 zm4 h ((Below.refl _ _).alloc (Nat.le_refl _) o)
theorem zg0 (w : World) (o1 o2 : Obj) : ((w.alloc o1).alloc o2).heap[w.heap.size + 1]? = some o2 := by
 have h := heap_alloc_new (w.alloc o1) o2
 rwa [show (w.alloc o1).heap.size = w.heap.size + 1 by simp] at h
theorem new_mid (w : World) (o1 o2 o3 : Obj) : (((w.alloc o1).alloc o2).alloc o3).heap[w.heap.size + 1]? = some o2 :=
 ((World.grownBy_alloc ((w.alloc o1).alloc o2) o3 none).block (w.heap.size + 1) (by simp) (by simp)).trans (zg0 w o1 o2)
theorem zq0 (w : World) (o1 o2 o3 : Obj) : (((w.alloc o1).alloc o2).alloc o3).heap[w.heap.size + 1 + 1]? = some o3 := by
 have h := heap_alloc_new ((w.alloc o1).alloc o2) o3
 rwa [show ((w.alloc o1).alloc o2).heap.size = w.heap.size + 1 + 1 by simp] at h
end Mem
end Go.Proofs.YtppmlbofhghghaaGreatDoor

namespace Go.Proofs.YtppmlbofhghghaaGreatDoor
open Go.RowKit
namespace Pl
def Nd.cs (n : Nd) : List Value := [.string n.path, .int .i64 n.kind, .string n.data, .int .i64 n.time, .int .i64 n.mark]
def zc4 (L : List Nd) : List Value := L.flatMap Nd.cs
theorem zj8 (L : List Nd) : (zc4 L).length = L.length * 5 := by
 induction L with
 | nil => rfl
 | cons n L ih => rw [zc4, List.flatMap_cons, List.length_append, ← zc4, ih, List.length_cons]; simp [Nd.cs]; omega
theorem zu (n : Nd) (L : List Nd) : zc4 (n :: L) = n.cs ++ zc4 L := by simp [zc4]
theorem yp4 (L M : List Nd) : zc4 (L ++ M) = zc4 L ++ zc4 M := by simp [zc4]
theorem yb2 (L : List Nd) (i : Nat) (n : Nd) (h : L[i]? = some n) (j : Nat) (hj : j < 5) : (zc4 L)[i * 5 + j]? = n.cs[j]? := by
 induction L generalizing i with
 | nil => simp at h
 | cons m L ih =>
  rw [zu]
  have hl : m.cs.length = 5 := rfl
  match i, h with
  | 0, h =>
   simp at h; subst h
   rw [List.getElem?_append_left (by rw [hl]; omega)]
   simp
  | i + 1, h =>
   rw [List.getElem?_append_right (by rw [hl]; omega), hl, show (i + 1) * 5 + j - 5 = i * 5 + j by omega]
   exact ih i (by simpa using h)
end Pl
namespace Mem
def ownN (w : World) (B : Nat) (v : Value) (L : List Pl.Nd) : Prop := w.ownsRow B 47 5 v L.length (Pl.zc4 L)
theorem zb6 (w : World) (B : Nat) : ownN w B (.slice none 0 0) [] := ⟨rfl, .inl ⟨rfl, rfl⟩⟩
theorem ownN_is {w : World} {B : Nat} {v : Value} {L : List Pl.Nd} (h : ownN w B v L) : ∃ a cap, v = .slice a L.length cap ∧ za1 w a L := by
 rcases h.2 with ⟨rfl, h0⟩ | ⟨g, cap, cur, rfl, hb, hg, hc, hm, hsz, ht⟩
 ·exact ⟨none, 0, by rw [h0], fun i n hi => by rw [List.length_eq_zero_iff.1 h0] at hi; simp at hi⟩
 ·refine ⟨some ⟨g, 0, none⟩, cap, rfl, fun i n hi => ?_⟩
  have hlt : i < L.length := (List.getElem?_eq_some_iff.1 hi).1
  have c : ∀ j, j < 5 → w.cell? ⟨g, 0 + i * 5 + j, none⟩ = n.cs[j]? := fun j hj => by
   rw [cell_of_row w g _ cur _ (0, 0) hg, Nat.zero_add, ← Pl.yb2 L i n hi j hj, ← ht, List.getElem?_take_of_lt (by omega), Array.getElem?_toList]
  exact ⟨g, 0, rfl, (Array.getElem?_eq_some_iff.1 hg).1, c 0 (by omega), c 1 (by omega), c 2 (by omega), c 3 (by omega), c 4 (by omega)⟩
theorem zn5 (n : Pl.Nd) : ∀ u ∈ n.cs, u.oneCell' = true := by
 intro u hu
 simp only [Pl.Nd.cs, List.mem_cons, List.not_mem_nil, or_false] at hu
 rcases hu with rfl | rfl | rfl | rfl | rfl <;> rfl
theorem zp8 (w : World) (n : Pl.Nd) (T : TypeId) : ∀ j u, n.cs[j]? = some u → (w.alloc (.cells n.cs.toArray T)).cell? ((⟨w.heap.size, 0, none⟩ : Addr).add j) = some u := by
 intro j u hj
 rw [Mem.add_lit]
 exact (Mem.zi5 w n.cs T).2 j u hj
theorem zl0 {w : World} {B : Nat} {v : Value} {L : List Pl.Nd} {n : Pl.Nd} (h : w.ownsRow B 47 5 v (L.length + 1) (Pl.zc4 L ++ n.cs)) : ownN w B v (L ++ [n]) := by
 unfold ownN
 rw [Pl.yp4, List.length_append]
 have e : Pl.zc4 [n] = n.cs := by simp [Pl.zc4]
 rw [e]; exact h
theorem ze3 {w w' : World} {B : Nat} {v : Value} {L : List Pl.Nd} (h : ownN w B v L) (b : Below w.heap.size w w') : ownN w' B v L := by
 refine ⟨h.1, ?_⟩
 rcases h.2 with h0 | ⟨g, cap, cur, hv, hb, hg, rest⟩
 ·exact .inl h0
 ·exact .inr ⟨g, cap, cur, hv, hb, (b.block _ (Array.getElem?_eq_some_iff.1 hg).1).trans hg, rest⟩
theorem zb4 {w : World} {B B' : Nat} {v : Value} {L : List Pl.Nd} (h : ownN w B v L) (hb : B' ≤ B) : ownN w B' v L := zr6 h hb
end Mem
end Go.Proofs.YtppmlbofhghghaaGreatDoor

namespace Go.Proofs.YtppmlbofhghghaaGreatDoor
open Go.RowKit
namespace Mem
def Blk (w : World) (X : Nat) (cs : Array Value) (T : TypeId) : Prop := w.heap[X]? = some (.cells cs T (0, 0))
theorem Blk.lt {w : World} {X : Nat} {cs : Array Value} {T : TypeId} (h : Blk w X cs T) : X < w.heap.size := (Array.getElem?_eq_some_iff.1 h).1
theorem Blk.cell {w : World} {X : Nat} {cs : Array Value} {T : TypeId} (h : Blk w X cs T) (k : Nat) : w.cell? ⟨X, k, none⟩ = cs[k]? := cell_of_row w X k cs T (0, 0) h
theorem Blk.fr {w : World} {X : Nat} {cs : Array Value} {T : TypeId} (h : Blk w X cs T) (k : Nat) : w.frozen? ⟨X, k, none⟩ = false := zg6 h
theorem Blk.call {w w' : World} {X : Nat} {cs : Array Value} {T : TypeId} (h : Blk w X cs T) (b : Below w.heap.size w w') : Blk w' X cs T := (b.block _ h.lt).trans h
theorem Blk.below {w w' : World} {X B : Nat} {cs : Array Value} {T : TypeId} (h : Blk w X cs T) (b : Below B w w') (hX : X < B) : Blk w' X cs T := (b.block _ hX).trans h
theorem Blk.alloc {w : World} {X : Nat} {cs : Array Value} {T : TypeId} (h : Blk w X cs T) (o : Obj) : Blk (w.alloc o) X cs T := h.call ((Below.refl _ _).alloc (Nat.le_refl _) o)
theorem Blk.new (w : World) (cs : Array Value) (T : TypeId) : Blk (w.alloc (.cells cs T)) w.heap.size cs T := heap_alloc_new w _
theorem Blk.grown {w w' : World} {X : Nat} {cs : Array Value} {T : TypeId} {r : Option Nat} (h : Blk w X cs T) (g : w.grownBy w' r) (hr : some X ≠ r) : Blk w' X cs T := (g.block _ h.lt hr).trans h
theorem Blk.put {w : World} {X : Nat} {cs : Array Value} {T : TypeId} (h : Blk w X cs T) (k : Nat) (v : Value) : Blk (w.setCell ⟨X, k, none⟩ v) X (cs.setIfInBounds k v) T := heap_setCell_same w X k cs T v h
theorem Blk.far {w : World} {X : Nat} {cs : Array Value} {T : TypeId} (h : Blk w X cs T) (a : Addr) (v : Value) (ha : X ≠ a.block) : Blk (w.setCell a v) X cs T := (heap_setCell_other w a X v ha).trans h
theorem za8 {w : World} {B : Nat} {v : Value} {L : List Pl.Nd} (h : ownN w B v L) (a : Addr) (u : Value) (ha : a.block < B) : ownN (w.setCell a u) B v L := by
 refine ⟨h.1, ?_⟩
 rcases h.2 with h0 | ⟨g, cap, cur, hv, hb, hg, rest⟩
 ·exact .inl h0
 ·exact .inr ⟨g, cap, cur, hv, hb, (heap_setCell_other w a g u (by omega)).trans hg, rest⟩
theorem ownN_far {w : World} {B : Nat} {v : Value} {L : List Pl.Nd} (h : ownN w B v L) (a : Addr) (u : Value) (ha : ∀ g, v.ownBlock = some g → a.block ≠ g) : ownN (w.setCell a u) B v L := by
 refine ⟨h.1, ?_⟩
 rcases h.2 with h0 | ⟨g, cap, cur, rfl, hb, hg, rest⟩
 ·exact .inl h0
 ·exact .inr ⟨g, cap, cur, rfl, hb, (heap_setCell_other w a g u (fun e => ha g rfl e.symm)).trans hg, rest⟩
theorem zf8 {w : World} {B : Nat} {v : Value} {L : List Pl.Nd} (h : ownN w B v L) (o : Obj) : ownN (w.alloc o) B v L := ze3 h ((Below.refl _ _).alloc (Nat.le_refl _) o)
theorem ze2 {w : World} {B : Nat} {v : Value} {L : List Pl.Nd} (h : ownN w B v L) : ∀ g, v.ownBlock = some g → B ≤ g ∧ g < w.heap.size := fun g hg => World.ownsRow.lt h g hg
theorem zc7 {w : World} {B n cap : Nat} {a : Option Addr} {L : List Pl.Nd} (h : ownN w B (.slice a n cap) L) : n = L.length ∧ za1 w a L := by
 obtain ⟨a', cap', e, hn⟩ := ownN_is h
 injection e with e1 e2 e3
 subst e1 e2 e3
 exact ⟨rfl, hn⟩
theorem yf9 {w w' : World} {g o : Nat} {r : Option Nat} {L : List Pl.Nd} (h : za1 w (some ⟨g, o, none⟩) L) (hg : w.grownBy w' r) (hr : some g ≠ r) : za1 w' (some ⟨g, o, none⟩) L := fun i n hi => by
 obtain ⟨g', o', h1, h2, h3, h4, h5, h6, h7⟩ := h i n hi
 cases h1
 exact ⟨g, o, rfl, Nat.lt_of_lt_of_le h2 hg.size, hg.cell h3 hr, hg.cell h4 hr, hg.cell h5 hr, hg.cell h6 hr, hg.cell h7 hr⟩
theorem yo9 {w w' : World} {B : Nat} {v : Value} {r : Option Nat} {L : List Pl.Nd} (h : ownN w B v L) (hg : w.grownBy w' r) (hr : ∀ g, v.ownBlock = some g → some g ≠ r) : ownN w' B v L := by
 refine ⟨h.1, ?_⟩
 rcases h.2 with h0 | ⟨g, cap, cur, rfl, hb, hh, rest⟩
 ·exact .inl h0
 ·exact .inr ⟨g, cap, cur, rfl, hb, (hg.block g (Array.getElem?_eq_some_iff.1 hh).1 (hr g rfl)).trans hh, rest⟩
theorem zc9 {w w' : World} (b : Below w.heap.size w w') (r : Option Nat) : w.grownBy w' r := ⟨b.os, b.tape, b.output, b.size, fun j hj _ => b.block j hj⟩
theorem zj7 {w v v' : World} {r : Option Nat} (h : w.grownBy v r) (h' : v.grownBy v' r) : w.grownBy v' r :=
 ⟨h'.os.trans h.os, h'.tape.trans h.tape, h'.output.trans h.output, Nat.le_trans h.size h'.size, fun j hj hne => (h'.block j (Nat.lt_of_lt_of_le hj h.size) hne).trans (h.block j hj hne)⟩
end Mem
end Go.Proofs.YtppmlbofhghghaaGreatDoor

namespace Go.Proofs.YtppmlbofhghghaaGreatDoor
open Go.RowKit
namespace Mem
theorem zg5 {w : World} {g o : Nat} {L : List Pl.Nd} (h : za1 w (some ⟨g, o, none⟩) L) (p : Addr) (v : Value) (hp : p.block ≠ g) : za1 (w.setCell p v) (some ⟨g, o, none⟩) L := fun i n hi => by
 obtain ⟨g', o', h1, h2, h3, h4, h5, h6, h7⟩ := h i n hi
 cases h1
 refine ⟨g, o, rfl, by simpa using h2, ?_, ?_, ?_, ?_, ?_⟩ <;> (rw [World.cell?_setCell_far _ _ _ _ hp]; assumption)
end Mem
end Go.Proofs.YtppmlbofhghghaaGreatDoor

namespace Go.Proofs.YtppmlbofhghghaaGreatDoor
open Go.RowKit
namespace Pl
def kAt (K : Nat) (Is : List It) : Nat → Nat
 | 0 => K
 | i + 1 => kAt K Is i + match Is[i]? with
  | some x => 1 + 5 * x.t.L.length
  | none => 0
theorem kAt_succ {K : Nat} {Is : List It} {i : Nat} {x : It} (h : Is[i]? = some x) : kAt K Is (i + 1) = kAt K Is i + 1 + 5 * x.t.L.length := by
 rw [kAt, h]
 show kAt K Is i + (1 + 5 * x.t.L.length) = _
 omega
theorem kAt_ge (K : Nat) (Is : List It) (i : Nat) : K ≤ kAt K Is i := by
 induction i with
 | zero => exact Nat.le_refl _
 | succ i ih => simp only [kAt]; omega
def mkIt (K : Nat) (Is : List It) (i : Nat) (x : It) : It := ⟨(kAt K Is i : Int), ⟨x.t.a, x.t.cap, zu1 (kAt K Is i + 1) x.t.L.length⟩⟩
def mkTo (K : Nat) (Is : List It) (i : Nat) : List It := Is.mapIdx (fun j x => if j < i then mkIt K Is j x else x)
theorem mkTo_len (K : Nat) (Is : List It) (i : Nat) : (mkTo K Is i).length = Is.length := by simp [mkTo]
theorem mkTo_zero (K : Nat) (Is : List It) : mkTo K Is 0 = Is := by
 apply List.ext_getElem?
 intro j
 simp [mkTo, List.getElem?_mapIdx]
theorem yj3 (K : Nat) (Is : List It) (i j : Nat) : (mkTo K Is i)[j]? = Is[j]?.map (fun x => if j < i then mkIt K Is j x else x) := by
 simp [mkTo, List.getElem?_mapIdx]
theorem mkTo_succ (K : Nat) {Is : List It} {i : Nat} {x : It} (h : Is[i]? = some x) : (mkTo K Is i).set i (mkIt K Is i x) = mkTo K Is (i + 1) := by
 apply List.ext_getElem?
 intro j
 have hlt := (List.getElem?_eq_some_iff.1 h).1
 rw [List.getElem?_set, yj3, yj3]
 by_cases e : i = j
 ·subst e
  rw [if_pos rfl, if_pos (by rw [mkTo_len]; exact hlt), h]
  simp
 ·rw [if_neg e]
  cases Is[j]? with
  | none => rfl
  | some y =>
   simp only [Option.map_some]
   congr 1
   by_cases h1 : j < i
   ·rw [if_pos h1, if_pos (by omega)]
   ·rw [if_neg h1, if_neg (by omega)]
end Pl
namespace Mem
structure OwnI (w : World) (B g : Nat) (Is : List Pl.It) : Prop where
 row : ∃ cur, w.heap[g]? = some (.cells cur 61 (0, 0)) ∧ Is.length * 2 ≤ cur.size
 lo : B ≤ g
 items : zb3 w (some ⟨g, 0, none⟩) Is
 own : ∀ (i : Nat) x, Is[i]? = some x → (x.t.a = none ∧ x.t.L = [] ∧ x.t.cap = 0) ∨ ∃ h cur, x.t.a = some ⟨h, 0, none⟩ ∧ B ≤ h ∧ h ≠ g ∧ w.heap[h]? = some (.cells cur 47 (0, 0)) ∧ x.t.L.length * 5 ≤ cur.size
 apart : ∀ (i j : Nat) x y, i ≠ j → Is[i]? = some x → Is[j]? = some y → ∀ h, x.t.a = some ⟨h, 0, none⟩ → y.t.a ≠ some ⟨h, 0, none⟩
theorem OwnI.call {w w' : World} {B g : Nat} {Is : List Pl.It} (o : OwnI w B g Is) (b : Below w.heap.size w w') : OwnI w' B g Is := by
 obtain ⟨cur, h1, h2⟩ := o.row
 refine ⟨⟨cur, (b.block _ (Array.getElem?_eq_some_iff.1 h1).1).trans h1, h2⟩, o.lo, za6 o.items b, fun i x hx => ?_, o.apart⟩
 rcases o.own i x hx with h | ⟨h, c, k1, k2, k3, k4, k5⟩
 ·exact .inl h
 ·exact .inr ⟨h, c, k1, k2, k3, (b.block _ (Array.getElem?_eq_some_iff.1 k4).1).trans k4, k5⟩
theorem zm0 {Is : List Pl.It} {i : Nat} {x x' : Pl.It} (hx : Is[i]? = some x) {j : Nat} {y : Pl.It} (hy : (Is.set i x')[j]? = some y) : (j = i ∧ y = x') ∨ (j ≠ i ∧ Is[j]? = some y) := by
 rw [List.getElem?_set] at hy
 by_cases e : i = j
 ·subst e
  rw [if_pos rfl, if_pos (List.getElem?_eq_some_iff.1 hx).1] at hy
  cases hy; exact .inl ⟨rfl, rfl⟩
 ·rw [if_neg e] at hy; exact .inr ⟨fun h => e h.symm, hy⟩
theorem OwnI.many {w : World} {B g i : Nat} {Is : List Pl.It} {x : Pl.It} (o : OwnI w B g Is) (hx : Is[i]? = some x) (k : Int) : OwnI (w.setCell ⟨g, i * 2, none⟩ (.int .i64 k)) B g (Is.set i ⟨k, x.t⟩) := by
 obtain ⟨cur, h1, h2⟩ := o.row
 have hlt := (List.getElem?_eq_some_iff.1 hx).1
 have hr := heap_setCell_same w g (i * 2) cur 61 (.int .i64 k) h1
 have hg := (Array.getElem?_eq_some_iff.1 h1).1
 have far : ∀ h, h ≠ g → (w.setCell ⟨g, i * 2, none⟩ (.int .i64 k)).heap[h]? = w.heap[h]? := fun h hh => heap_setCell_other _ _ _ _ hh
 have nod : ∀ (j : Nat) y, Is[j]? = some y → za1 (w.setCell ⟨g, i * 2, none⟩ (.int .i64 k)) y.t.a y.t.L := fun j y hy => by
  rcases o.own j y hy with ⟨e1, e2, -⟩ | ⟨h, c, k1, k2, k3, -⟩
  ·rw [e2]; exact ye1 _ _
  ·have := (o.items j y hy).2
   rw [k1] at this ⊢
   exact zg5 this _ _ (fun e => k3 e.symm)
 refine ⟨⟨_, hr, by simpa using h2⟩, o.lo, fun j y hy => ?_, fun j y hy => ?_, fun a b y z hab hy hz h => ?_⟩
 ·rcases zm0 hx hy with ⟨rfl, rfl⟩ | ⟨hne, hy'⟩
  ·refine ⟨⟨g, 0, rfl, by simpa using hg, ?_, ?_⟩, nod j x hx⟩
   ·rw [cell_of_row _ _ _ _ _ (0, 0) hr, Nat.zero_add, Array.getElem?_setIfInBounds, if_pos rfl, if_pos (by omega)]
   ·obtain ⟨⟨g', o', e, -, -, c2⟩, -⟩ := o.items j x hx
    cases e
    rw [cell_of_row _ _ _ _ _ (0, 0) h1] at c2
    rw [cell_of_row _ _ _ _ _ (0, 0) hr, Array.getElem?_setIfInBounds, if_neg (by omega)]
    exact c2
  ·obtain ⟨⟨g', o', e, -, c1, c2⟩, -⟩ := o.items j y hy'
   cases e
   rw [cell_of_row _ _ _ _ _ (0, 0) h1] at c1 c2
   refine ⟨⟨g, 0, rfl, by simpa using hg, ?_, ?_⟩, nod j y hy'⟩
   ·rw [cell_of_row _ _ _ _ _ (0, 0) hr, Array.getElem?_setIfInBounds, if_neg (by omega)]; exact c1
   ·rw [cell_of_row _ _ _ _ _ (0, 0) hr, Array.getElem?_setIfInBounds, if_neg (by omega)]; exact c2
 ·have key : ∃ (j' : Nat) (y' : Pl.It), Is[j']? = some y' ∧ y'.t = y.t := by
   rcases zm0 hx hy with ⟨rfl, rfl⟩ | ⟨-, hy'⟩
   ·exact ⟨_, x, hx, rfl⟩
   ·exact ⟨_, y, hy', rfl⟩
  obtain ⟨j', y', hy', e⟩ := key
  rw [← e]
  rcases o.own j' y' hy' with h | ⟨h, c, k1, k2, k3, k4, k5⟩
  ·exact .inl h
  ·exact .inr ⟨h, c, k1, k2, k3, (far h k3).trans k4, k5⟩
 ·rcases zm0 hx hy with ⟨rfl, rfl⟩ | ⟨-, hy'⟩
  ·rcases zm0 hx hz with ⟨rfl, -⟩ | ⟨-, hz'⟩
   ·exact absurd rfl hab
   ·exact o.apart _ _ x z hab hx hz' h
  ·rcases zm0 hx hz with ⟨rfl, rfl⟩ | ⟨-, hz'⟩
   ·exact o.apart _ _ y x hab hy' hx h
   ·exact o.apart _ _ y z hab hy' hz' h
theorem OwnI.nodes {w w' : World} {B g i h : Nat} {Is : List Pl.It} {x : Pl.It} {M : List Pl.Nd} (o : OwnI w B g Is) (hx : Is[i]? = some x) (ha : x.t.a = some ⟨h, 0, none⟩) (gr : w.grownBy w' (some h))
  (hrow : ∃ cur, w'.heap[h]? = some (.cells cur 47 (0, 0)) ∧ x.t.L.length * 5 ≤ cur.size) (hn : za1 w' (some ⟨h, 0, none⟩) M) (hM : M.length = x.t.L.length) : OwnI w' B g (Is.set i ⟨x.m, ⟨x.t.a, x.t.cap, M⟩⟩) := by
 obtain ⟨cur, h1, h2⟩ := o.row
 have hg := (Array.getElem?_eq_some_iff.1 h1).1
 have hgh : g ≠ h := by
  rcases o.own i x hx with ⟨e, -, -⟩ | ⟨h', c, k1, -, k3, -⟩
  ·rw [e] at ha; cases ha
  ·rw [k1] at ha; cases ha; exact fun e => k3 e.symm
 have hB : B ≤ h := by
  rcases o.own i x hx with ⟨e, -, -⟩ | ⟨h', c, k1, k2, -⟩
  ·rw [e] at ha; cases ha
  ·rw [k1] at ha; cases ha; exact k2
 have h1' : w'.heap[g]? = some (.cells cur 61 (0, 0)) := (gr.block g hg (fun e => hgh (Option.some.inj e))).trans h1
 have oth : ∀ (j : Nat) y, j ≠ i → Is[j]? = some y → za1 w' y.t.a y.t.L := fun j y hj hy => by
  rcases o.own j y hy with ⟨e1, e2, -⟩ | ⟨h', c, k1, k2, k3, -⟩
  ·rw [e2]; exact ye1 _ _
  ·have hh : h' ≠ h := fun e => by subst e; exact o.apart i j x y (fun e => hj e.symm) hx hy _ ha k1
   have := (o.items j y hy).2
   rw [k1] at this ⊢
   exact yf9 this gr (fun e => hh (Option.some.inj e))
 have cel : ∀ (j : Nat) y, Is[j]? = some y → ∃ b o', some ⟨g, 0, none⟩ = some (⟨b, o', none⟩ : Addr) ∧ b < w'.heap.size ∧ w'.cell? ⟨b, o' + j * 2, none⟩ = some (.int .i64 y.m) ∧ w'.cell? ⟨b, o' + j * 2 + 1, none⟩ = some y.t.val := fun j y hy => by
  obtain ⟨⟨g', o', e, -, c1, c2⟩, -⟩ := o.items j y hy
  cases e
  rw [cell_of_row _ _ _ _ _ (0, 0) h1] at c1 c2
  exact ⟨g, 0, rfl, Nat.lt_of_lt_of_le hg gr.size, by rw [cell_of_row _ _ _ _ _ (0, 0) h1']; exact c1, by rw [cell_of_row _ _ _ _ _ (0, 0) h1']; exact c2⟩
 refine ⟨⟨cur, h1', by simpa using h2⟩, o.lo, fun j y hy => ?_, fun j y hy => ?_, fun a b y z hab hy hz k => ?_⟩
 ·rcases zm0 hx hy with ⟨rfl, rfl⟩ | ⟨hne, hy'⟩
  ·obtain ⟨b, o', e, q1, q2, q3⟩ := cel j x hx
   refine ⟨⟨b, o', e, q1, q2, ?_⟩, by simp only [ha]; exact hn⟩
   rw [q3]; simp only [Pl.Tr.val, hM]
  ·exact ⟨cel j y hy', oth j y hne hy'⟩
 ·rcases zm0 hx hy with ⟨rfl, rfl⟩ | ⟨hne, hy'⟩
  ·obtain ⟨c, r1, r2⟩ := hrow
   exact .inr ⟨h, c, ha, hB, fun e => hgh e.symm, r1, by simp only [hM]; exact r2⟩
  ·rcases o.own j y hy' with hh | ⟨h', c, k1, k2, k3, k4, k5⟩
   ·exact .inl hh
   ·have hne' : h' ≠ h := fun e => by subst e; exact o.apart i j x y (fun e => hne e.symm) hx hy' _ ha k1
    exact .inr ⟨h', c, k1, k2, k3, (gr.block h' (Array.getElem?_eq_some_iff.1 k4).1 (fun e => hne' (Option.some.inj e))).trans k4, k5⟩
 ·rcases zm0 hx hy with ⟨rfl, rfl⟩ | ⟨-, hy'⟩
  ·rcases zm0 hx hz with ⟨rfl, -⟩ | ⟨-, hz'⟩
   ·exact absurd rfl hab
   ·exact o.apart _ _ x z hab hx hz' k
  ·rcases zm0 hx hz with ⟨rfl, rfl⟩ | ⟨-, hz'⟩
   ·exact o.apart _ _ y x hab hy' hx k
   ·exact o.apart _ _ y z hab hy' hz' k
end Mem
end Go.Proofs.YtppmlbofhghghaaGreatDoor

namespace Go.Proofs.YtppmlbofhghghaaGreatDoor
open Go.RowKit
namespace Pl
def ze1 (Is : List It) : List Value := Is.flatMap (fun x => [Value.int .i64 x.m, x.t.val])
theorem yj0 (Is : List It) : (ze1 Is).length = Is.length * 2 := by
 induction Is with
 | nil => rfl
 | cons x Is ih => rw [ze1, List.flatMap_cons, List.length_append, ← ze1, ih, List.length_cons]; simp; omega
theorem cellsI_app (A B : List It) : ze1 (A ++ B) = ze1 A ++ ze1 B := by simp [ze1]
theorem zv1 : ∀ (Is : List It) (i : Nat) (x : It), Is[i]? = some x → (ze1 Is)[i * 2]? = some (.int .i64 x.m) ∧ (ze1 Is)[i * 2 + 1]? = some x.t.val := by
 intro Is
 induction Is with
 | nil => intro i x h; cases h
 | cons y Is ih =>
  intro i x h
  have e : ze1 (y :: Is) = Value.int .i64 y.m :: y.t.val :: ze1 Is := rfl
  cases i with
  | zero =>
   have e2 : y = x := by simpa using h
   subst e2
   rw [e]
   exact ⟨rfl, rfl⟩
  | succ i =>
   have h2 : Is[i]? = some x := by simpa using h
   obtain ⟨h3, h4⟩ := ih i x h2
   rw [e, show (i + 1) * 2 = i * 2 + 1 + 1 by omega]
   exact ⟨by simpa using h3, by simpa using h4⟩
theorem yo3 (Is : List It) : ∀ u ∈ ze1 Is, u.oneCell' = true := by
 intro u hu
 obtain ⟨x, -, hx⟩ := List.mem_flatMap.1 hu
 simp only [List.mem_cons, List.not_mem_nil, or_false] at hx
 rcases hx with rfl | rfl <;> rfl
end Pl
namespace Mem
theorem row_off2 {w w' : World} {B e size n : Nat} {v : Value} {xs : List Value} {r : Option Nat} (h : w.ownsRow B e size v n xs) (hg : w.grownBy w' r) (hr : ∀ g, v.ownBlock = some g → some g ≠ r) : w'.ownsRow B e size v n xs := by
 refine ⟨h.1, ?_⟩
 rcases h.2 with h0 | ⟨g, cap, cur, rfl, hb, hh, rest⟩
 ·exact .inl h0
 ·exact .inr ⟨g, cap, cur, rfl, hb, (hg.block g (Array.getElem?_eq_some_iff.1 hh).1 (hr g rfl)).trans hh, rest⟩
structure Io (W : World) (S : Nat) (v : Value) (Is : List Pl.It) : Prop where
 row : W.ownsRow S 61 2 v Is.length (Pl.ze1 Is)
 each : ∀ (i : Nat) x, Is[i]? = some x → ownN W S x.t.val x.t.L ∧ ∀ g, x.t.val.ownBlock = some g → v.ownBlock ≠ some g
 apart : ∀ (i j : Nat) x y, i ≠ j → Is[i]? = some x → Is[j]? = some y → ∀ g, x.t.val.ownBlock = some g → y.t.val.ownBlock ≠ some g
theorem Io.call {W W' : World} {S : Nat} {v : Value} {Is : List Pl.It} (h : Io W S v Is) (b : Below W.heap.size W W') : Io W' S v Is :=
 ⟨zj9 h.row b, fun i x hx => ⟨ze3 (h.each i x hx).1 b, (h.each i x hx).2⟩, h.apart⟩
theorem Io.mono {W : World} {S S' : Nat} {v : Value} {Is : List Pl.It} (h : Io W S v Is) (hs : S' ≤ S) : Io W S' v Is :=
 ⟨zr6 h.row hs, fun i x hx => ⟨zb4 (h.each i x hx).1 hs, (h.each i x hx).2⟩, h.apart⟩
theorem Io.set {W : World} {S : Nat} {v : Value} {Is : List Pl.It} (h : Io W S v Is) (p : Addr) (u : Value) (hp : p.block < S) : Io (W.setCell p u) S v Is := by
 refine ⟨⟨h.row.1, ?_⟩, fun i x hx => ⟨za8 (h.each i x hx).1 p u hp, (h.each i x hx).2⟩, h.apart⟩
 rcases h.row.2 with h0 | ⟨g, cap, cur, hv, hb, hg, rest⟩
 ·exact .inl h0
 ·exact .inr ⟨g, cap, cur, hv, hb, (heap_setCell_other _ _ _ _ (by omega)).trans hg, rest⟩
theorem Io.app {W W' : World} {S S1 : Nat} {v v1 v' : Value} {Is Is1 : List Pl.It} (h : Io W S v Is) (h1 : Io W S1 v1 Is1) (hS : S ≤ S1) (hv : ∀ g, v.ownBlock = some g → g < S1) (hb : ∀ (i : Nat) x, Is[i]? = some x → ∀ g, x.t.val.ownBlock = some g → g < S1)
  (own' : W'.ownsRow S 61 2 v' (Is.length + Is1.length) (Pl.ze1 Is ++ Pl.ze1 Is1)) (gr : W.grownBy W' v.ownBlock) (far : ∀ g, v'.ownBlock = some g → v.ownBlock = some g ∨ W.heap.size ≤ g) : Io W' S v' (Is ++ Is1) := by
 have key : ∀ x : Pl.It, ownN W S x.t.val x.t.L → (∀ g, x.t.val.ownBlock = some g → v.ownBlock ≠ some g) → ownN W' S x.t.val x.t.L ∧ ∀ g, x.t.val.ownBlock = some g → v'.ownBlock ≠ some g := fun x hx hn =>
  ⟨row_off2 hx gr (fun g hg e => hn g hg e.symm), fun g hg e => by
   rcases far g e with h2 | h2
   ·exact hn g hg h2
   ·have := (ze2 hx g hg).2; omega⟩
 have lo1 : ∀ (i : Nat) x, Is1[i]? = some x → ∀ g, x.t.val.ownBlock = some g → S1 ≤ g := fun i x hx g hg => (ze2 (h1.each i x hx).1 g hg).1
 refine ⟨by rw [List.length_append, Pl.cellsI_app]; exact own', fun i x hx => ?_, fun i j x y hij hx hy g hg => ?_⟩
 ·by_cases e : i < Is.length
  ·rw [List.getElem?_append_left e] at hx
   exact key x (h.each i x hx).1 (h.each i x hx).2
  ·rw [List.getElem?_append_right (by omega)] at hx
   exact key x (zb4 (h1.each _ x hx).1 hS) (fun g hg e2 => by have := lo1 _ x hx g hg; have := hv g e2; omega)
 ·by_cases e : i < Is.length
  ·rw [List.getElem?_append_left e] at hx
   by_cases e2 : j < Is.length
   ·rw [List.getElem?_append_left e2] at hy
    exact h.apart i j x y hij hx hy g hg
   ·rw [List.getElem?_append_right (by omega)] at hy
    intro e3
    have := lo1 _ y hy g e3
    have := hb i x hx g hg
    omega
  ·rw [List.getElem?_append_right (by omega)] at hx
   by_cases e2 : j < Is.length
   ·rw [List.getElem?_append_left e2] at hy
    intro e3
    have := lo1 _ x hx g hg
    have := hb j y hy g e3
    omega
   ·rw [List.getElem?_append_right (by omega)] at hy
    exact h1.apart _ _ x y (by omega) hx hy g hg
theorem Io.items {W : World} {S cap n : Nat} {a : Option Addr} {Is : List Pl.It} (h : Io W S (.slice a n cap) Is) : n = Is.length ∧ zb3 W a Is := by
 rcases h.row.2 with ⟨e, h0⟩ | ⟨g, c, cur, e, hb, hg, rest⟩
 ·cases e
  have : Is = [] := List.eq_nil_of_length_eq_zero h0
  subst this
  exact ⟨rfl, yf0 _ _⟩
 ·cases e
  refine ⟨rfl, fun i x hx => ⟨⟨g, 0, rfl, (Array.getElem?_eq_some_iff.1 hg).1, ?_, ?_⟩, (zc7 (h.each i x hx).1).2⟩⟩
  ·have := World.ownsRow.cells h.row (g := g) rfl (i * 2) _ (Pl.zv1 Is i x hx).1
   rw [add_lit] at this
   rw [Nat.zero_add]; exact this
  ·have := World.ownsRow.cells h.row (g := g) rfl (i * 2 + 1) _ (Pl.zv1 Is i x hx).2
   rw [add_lit] at this
   rw [Nat.zero_add]; exact this
theorem Io.lt {W : World} {S : Nat} {v : Value} {Is : List Pl.It} (h : Io W S v Is) : (∀ g, v.ownBlock = some g → S ≤ g ∧ g < W.heap.size) ∧ ∀ (i : Nat) x, Is[i]? = some x → ∀ g, x.t.val.ownBlock = some g → S ≤ g ∧ g < W.heap.size :=
 ⟨fun g hg => World.ownsRow.lt h.row g hg, fun i x hx g hg => ze2 (h.each i x hx).1 g hg⟩
theorem Io.there {W : World} {S : Nat} {v : Value} {Is : List Pl.It} (h : Io W S v Is) (hn : Is.length ≠ 0) : ∃ g cap, v = .slice (some ⟨g, 0, none⟩) Is.length cap ∧ ∀ j u, (Pl.ze1 Is)[j]? = some u → W.cell? ((⟨g, 0, none⟩ : Addr).add j) = some u := by
 rcases h.row.2 with ⟨e, h0⟩ | ⟨g, c, cur, e, hb, hg, rest⟩
 ·exact absurd h0 hn
 ·subst e
  exact ⟨g, c, rfl, fun j u hj => World.ownsRow.cells h.row (g := g) rfl j u hj⟩
theorem Io.nil (W : World) (S : Nat) : Io W S (.slice none 0 0) [] := ⟨⟨rfl, .inl ⟨rfl, rfl⟩⟩, fun i x h => (by cases h), fun i j x y _ h => (by cases h)⟩
theorem Io.one {W : World} {S g : Nat} {m : Int} {t : Pl.Tr} (hb : S ≤ g) (hg : W.heap[g]? = some (.cells #[.int .i64 m, t.val] 61 (0, 0))) (ht : ownN W S t.val t.L) (hn : ∀ q, t.val.ownBlock = some q → q ≠ g) : Io W S (.slice (some ⟨g, 0, none⟩) 1 1) [⟨m, t⟩] := by
 refine ⟨⟨rfl, .inr ⟨g, 1, _, rfl, hb, hg, Nat.le_refl _, by decide, rfl, rfl⟩⟩, fun i x hx => ?_, fun i j x y hij hx hy => ?_⟩
 ·cases i with
  | zero =>
   have e : (⟨m, t⟩ : Pl.It) = x := by simpa using hx
   subst e
   exact ⟨ht, fun q hq e => hn q hq (Option.some.inj e).symm⟩
  | succ i => simp at hx
 ·cases i with
  | zero =>
   cases j with
   | zero => exact absurd rfl hij
   | succ j => simp at hy
  | succ i => simp at hx
end Mem
end Go.Proofs.YtppmlbofhghghaaGreatDoor

