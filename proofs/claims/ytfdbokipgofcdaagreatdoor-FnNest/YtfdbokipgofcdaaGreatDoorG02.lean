/- Several texts of one claim in one file: Mem, MemVars, MemAppend, MemNodes, MemTexts, WName, WWords, WNames, WRightI, WSplit, WPathS. -/
import Derived.Test.YtfdbokipgofcdaaGreatDoorG00
import Derived.Below
import Derived.WalkKit
import Derived.Laws.IdiomStrings
import Derived.Deep.RegionHeld3
import Derived.Laws.AppendOwn
import Derived.Deep.Draws
import Derived.Test.YtfdbokipgofcdaaGreatDoorProg
import Derived.WalkSpells
import Derived.Lib.OthersKept
import Derived.Laws.RangeAny
namespace Go.Proofs.YtfdbokipgofcdaaGreatDoor
open Go.RowKit
namespace Mem
theorem add_lit (b j : Nat) : (⟨b, 0, none⟩ : Addr).add j = ⟨b, j, none⟩ := by unfold Addr.add; split <;> simp_all

theorem own_text {P : Program} {src dst e : TypeId} (hs : P.underlying src = some (.slice e)) (he : P.underlying e = some (.int .u8)) (hd : P.underlying dst = some .string)
  {w : World} {base : Nat} {v : Value} {n : Nat} (l : List UInt8) (hn : l.length = n) (h0 : 0 < n) (h : w.ownsRow base e 1 v n (l.map Pl.ze6)) :
  (convert src dst v).run P w = .ok (.string ⟨l.toArray⟩) w := by
 subst hn
 rcases h.2 with ⟨_, h'⟩ | ⟨g, cap, cur, rfl, hb, hg, hcap, hm, hsz, ht⟩
 ·omega
 refine run_convert_bytes_back w src dst e ⟨g, 0, none⟩ cap l hs he hd (fun j hj => ?_)
 rw [add_lit, cell_of_row w g j cur e (0, 0) hg]
 have h1 : (cur.toList.take (l.length * 1))[j]? = (l.map Pl.ze6)[j]? := by rw [ht]
 rw [List.getElem?_take_of_lt (by omega)] at h1
 simpa [Pl.ze6, hj] using h1

theorem yn7 {P : Program} {src dst e : TypeId} (hs : P.underlying src = some (.slice e)) (he : P.underlying e = some (.int .u8)) (hd : P.underlying dst = some .string)
  {w : World} {g n cap : Nat} {cur : Array Value} {t : TypeId} (l : List UInt8) (hn : l.length = n) (hg : w.heap[g]? = some (.cells cur t (0, 0))) (ht : cur.toList.take n = l.map Pl.ze6) :
  (convert src dst (.slice (some ⟨g, 0, none⟩) n cap)).run P w = .ok (.string ⟨l.toArray⟩) w := by
 subst hn
 refine run_convert_bytes_back w src dst e ⟨g, 0, none⟩ cap l hs he hd (fun j hj => ?_)
 rw [add_lit, cell_of_row w g j cur t (0, 0) hg]
 have h1 : (cur.toList.take l.length)[j]? = (l.map Pl.ze6)[j]? := by rw [ht]
 rw [List.getElem?_take_of_lt (by omega)] at h1
 simpa [Pl.ze6, hj] using h1

theorem zj6 {B : Nat} {a w w1 : World} {o : Obj} {e : TypeId} {size n : Nat} {v : Value} {xs : List Value} (h : Below B a w) (hB : B ≤ a.heap.size) (hown : w.ownsRow B e size v n xs) (hg : (w.alloc o).grownBy w1 v.ownBlock) : Below B a w1 :=
 have hs := h.size
 (h.alloc (by omega) o).grown hg (by simp; omega) (fun k hk => (hown.lt k hk).1)

theorem zq5 (w : World) (v : Value) (e : TypeId) : ∀ j u, [v][j]? = some u → (w.alloc (.cells #[v] e)).cell? ((⟨w.heap.size, 0, none⟩ : Addr).add j) = some u := by
 intro j u hj
 match j, hj with
 | 0, hj => simp at hj; subst hj; rw [add_lit]; simp
 | j + 1, hj => simp at hj
theorem one_cell (k : IntKind) (x : Int) : ∀ u ∈ [Value.int k x], u.oneCell' = true := by
 intro u hu; simp at hu; subst hu; rfl

theorem two_texts (w : World) (a b : ByteArray) (e : TypeId) : ∀ j t, [a, b][j]? = some t → (w.alloc (.cells #[.string a, .string b] e)).cell? ⟨w.heap.size, 0 + j, none⟩ = some (.string t) := by
 intro j t hj
 match j, hj with
 | 0, hj => simp at hj; subst hj; simp
 | 1, hj => simp at hj; subst hj; simp
 | j + 2, hj => simp at hj
theorem one_text (w : World) (a : ByteArray) (e : TypeId) : ∀ j t, [a][j]? = some t → (w.alloc (.cells #[.string a] e)).cell? ⟨w.heap.size, 0 + j, none⟩ = some (.string t) := by
 intro j t hj
 match j, hj with
 | 0, hj => simp at hj; subst hj; simp
 | j + 1, hj => simp at hj

theorem zi8 {w : World} {g j : Nat} {cur : Array Value} {t : TypeId} (hg : w.heap[g]? = some (.cells cur t (0, 0))) : w.frozen? ⟨g, j, none⟩ = false := by
 simp [World.frozen?, hg]
theorem kept3 {w W w' : World} {T : TypeId} {B : Nat} {x y z : Value} (b : Below W.heap.size W w') (hh : W.heap[B]? = some (.cells #[x, y, z] T (0, 0))) (hW : Below B w W) :
  (w'.cell? ⟨B, 0, none⟩ = some x ∧ w'.cell? ⟨B, 1, none⟩ = some y ∧ w'.cell? ⟨B, 2, none⟩ = some z) ∧
  (w'.frozen? ⟨B, 0, none⟩ = false ∧ w'.frozen? ⟨B, 1, none⟩ = false ∧ w'.frozen? ⟨B, 2, none⟩ = false) ∧ Below B w w' := by
 have hlt : B < W.heap.size := (Array.getElem?_eq_some_iff.1 hh).1
 have h' : w'.heap[B]? = some (.cells #[x, y, z] T (0, 0)) := (b.block B hlt).trans hh
 refine ⟨⟨?_, ?_, ?_⟩, ⟨zi8 h', zi8 h', zi8 h'⟩, hW.trans (b.mono (Nat.le_of_lt hlt))⟩
 ·rw [cell_of_row w' B 0 _ T (0, 0) h']; rfl
 ·rw [cell_of_row w' B 1 _ T (0, 0) h']; rfl
 ·rw [cell_of_row w' B 2 _ T (0, 0) h']; rfl
def zeros (n : Nat) : Array Value := madeCells (Value.int .u8 0).cells n
theorem zeros_size (n : Nat) : (zeros n).size = n := size_madeCells _ _
theorem make_bytes {P : Program} {T E : TypeId} (ht : P.underlying T = some (.slice E)) (hi : (P.info? E).map (fun i => (i.zero, i.size, i.bytes)) = some (some (.int .u8 0), 1, 1)) (n : Nat) (hn : n ≤ 1000000000) (w : World) :
  (Instr.makeSlice T (.int .i64 (n : Int)) (.int .i64 (n : Int))).run P w = .ok (.slice (some ⟨w.heap.size, 0, none⟩) n n) (w.alloc (.cells (zeros n) E)) := by
 obtain ⟨i0, h0, h1, h2, h3⟩ := info_parts hi
 have h := run_make (P := P) w T E i0 (.int .u8 0) ht h0 h1 .i64 .i64 (n : Int) (n : Int) (by omega) (Int.le_refl _) (by rw [h3]; omega) (by omega)
 rw [h, h2]
 simp [zeros]

theorem bytes_one (l : List UInt8) : ∀ v ∈ l.map Pl.ze6, v.oneCell' = true := by
 intro v hv
 obtain ⟨b, _, rfl⟩ := List.mem_map.1 hv
 rfl
theorem copy_on {P : Program} {dT sT E : TypeId} (hu : P.underlying dT = some (.slice E)) (hz : ∀ w, (sizeOf E).run P w = .ok 1 w) (w : World) (B p N : Nat) (cur : Array Value)
  (hB : w.heap[B]? = some (.cells cur E (0, 0))) (hc : cur.size = N) (t : ByteArray) (hfit : p + t.size ≤ N) :
  ∃ D w', (∀ wx, (Instr.slice dT (.slice (some ⟨B, 0, none⟩) N N) (some (.int .i64 (p : Int))) none none).run P wx = .ok D wx) ∧
   (∀ ty, (Builtin.copy_ #[dT, sT] ty #[D, .string t]).run P w = .ok (.int .i64 (t.size : Int)) w') ∧
   w'.heap[B]? = some (.cells (cur.toList.take p ++ t.data.toList.map Pl.ze6 ++ cur.toList.drop (p + t.size)).toArray E (0, 0)) ∧ Below B w w' := by
 have ht : P.underlying dT = some (.slice (P.elem dT)) := by simp [Program.elem, hu]
 have he : P.elem dT = E := by simp [Program.elem, hu]
 have hsl : ∀ wx, (Instr.slice dT (.slice (some ⟨B, 0, none⟩) N N) (some (.int .i64 (p : Int))) none none).run P wx = .ok (sliced (some ⟨B, 0, none⟩) p N N 1) wx := by
  intro wx
  have h := run_slice_l (P := P) wx dT (some ⟨B, 0, none⟩) N N ht .i64 (p : Int) (by omega) (by omega)
  rw [h, he, hz]
  rfl
 by_cases hp : p = N
 ·subst hp
  have h0 : t.size = 0 := by omega
  have hd : t.data = #[] := Array.eq_empty_of_size_eq_zero h0
  refine ⟨.slice (some ⟨B, 0, none⟩) 0 0, w, ?_, ?_, ?_, Below.refl _ _⟩
  ·intro wx; rw [hsl]; simp [sliced]
  ·intro ty
   simp [Builtin.copy_, run_underlying hu, Builtin.lenOf, Builtin.firstCells, hz, h0, goInt, storeCells]
  ·rw [hB, h0, hd]; simp
 ·have hlt : p < N := by omega
  have hlen : (t.data.toList.map Pl.ze6).length = t.size := by rw [List.length_map]; rfl
  have hst := run_storeCells_at P B p E (t.data.toList.map Pl.ze6) 0 cur w hB (by rw [hlen]; omega) (bytes_one _)
  rw [hlen] at hst
  simp only [Nat.add_zero] at hst
  refine ⟨.slice (some ⟨B, p, none⟩) (N - p) (N - p), _, ?_, ?_, setRow_heap w B cur _ E _ hB, ?_⟩
  ·intro wx
   rw [hsl]
   have h1 : ¬ N = p := fun h => hp h.symm
   simp [sliced, h1, add_lit]
  ·intro ty
   have hmin : Nat.min t.size (N - p) = t.size := Nat.min_eq_left (by omega)
   have htk : List.take t.size (List.map (fun b : UInt8 => Value.int IntKind.u8 (b.toNat : Int)) t.data.toList) = t.data.toList.map Pl.ze6 := by
    rw [List.take_of_length_le (by rw [List.length_map]; exact Nat.le_refl _)]; rfl
   simp [Builtin.copy_, run_underlying hu, Builtin.lenOf, Builtin.firstCells, hz, hmin]
   rw [htk, hst, List.append_assoc]
   rfl
  ·exact ⟨rfl, rfl, rfl, by simp, fun k hk => setRow_other w B k _ (by omega)⟩
theorem own_mono {w : World} {B B' e size n : Nat} {v : Value} {xs : List Value} (h : w.ownsRow B e size v n xs) (hb : B' ≤ B) : w.ownsRow B' e size v n xs := by
 refine ⟨h.1, ?_⟩
 rcases h.2 with h0 | ⟨g, cap, cur, hv, hg, rest⟩
 ·exact .inl h0
 ·exact .inr ⟨g, cap, cur, hv, Nat.le_trans hb hg, rest⟩
theorem za1 {w : World} {B e size n : Nat} {v : Value} {xs : List Value} (h : w.ownsRow B e size v n xs) : ∃ a cap, v = .slice a n cap := by
 rcases h.2 with ⟨rfl, rfl⟩ | ⟨g, cap, cur, rfl, _⟩
 ·exact ⟨_, _, rfl⟩
 ·exact ⟨_, _, rfl⟩
end Mem
end Go.Proofs.YtfdbokipgofcdaaGreatDoor

namespace Go.Proofs.YtfdbokipgofcdaaGreatDoor
open Go.RowKit
namespace Mem
def Var (w : World) (B : Nat) (cs : List Value) : Prop := B < w.heap.size ∧ ∀ (j : Nat) v, cs[j]? = some v → w.cell? ⟨B, j, none⟩ = some v
theorem zg9 {w w' : World} {B : Nat} {cs : List Value} (h : Var w B cs) (b : Below w.heap.size w w') : Var w' B cs :=
 ⟨Nat.lt_of_lt_of_le h.1 b.size, fun j v hv => (b.cell (p := ⟨B, j, none⟩) h.1).trans (h.2 j v hv)⟩
theorem ze0 (w : World) (cs : List Value) (T : TypeId) : Var (w.alloc (.cells cs.toArray T)) w.heap.size cs :=
 ⟨by simp, fun j v hv => by rw [cell_of_row _ _ j _ T (0, 0) (heap_alloc_new w _)]; simpa using hv⟩
theorem yd4 {w : World} {B : Nat} {cs : List Value} (h : Var w B cs) (o : Obj) : Var (w.alloc o) B cs :=
 zg9 h ((Below.refl _ _).alloc (Nat.le_refl _) o)
theorem zh2 (w : World) (o1 o2 : Obj) : ((w.alloc o1).alloc o2).heap[w.heap.size + 1]? = some o2 := by
 have h := heap_alloc_new (w.alloc o1) o2
 rwa [show (w.alloc o1).heap.size = w.heap.size + 1 by simp] at h
theorem yf6 (w : World) (o1 o2 o3 : Obj) : (((w.alloc o1).alloc o2).alloc o3).heap[w.heap.size + 1]? = some o2 :=
 ((World.grownBy_alloc ((w.alloc o1).alloc o2) o3 none).block (w.heap.size + 1) (by simp) (by simp)).trans (zh2 w o1 o2)
theorem zq6 (w : World) (o1 o2 o3 : Obj) : (((w.alloc o1).alloc o2).alloc o3).heap[w.heap.size + 1 + 1]? = some o3 := by
 have h := heap_alloc_new ((w.alloc o1).alloc o2) o3
 rwa [show ((w.alloc o1).alloc o2).heap.size = w.heap.size + 1 + 1 by simp] at h
end Mem
end Go.Proofs.YtfdbokipgofcdaaGreatDoor

namespace Go.Proofs.YtfdbokipgofcdaaGreatDoor
open Go.RowKit
namespace Mem
theorem ze1 {P : Program} {ops : Array Oper} {o : Oper} {a : Act} {w : World} {K : Act → World → Prop} {Q : Exit → Act → World → Prop} {E : Prop}
  (hg : o.guard = none) (s x : Operand) (t : TypeId) (hop : o.op = Op.call { callee := Callee.builtin Builtin.append, args := #[s, x], argTypes := #[t, t] })
  (base : Nat) (e : TypeId) (i : TypeInfo) (z : Value) (size bytes : Nat) (h1 : P.underlying t = some (.slice e)) (h2 : P.info? e = some i) (h3 : i.zero = some z) (h4 : i.size = size) (h5 : i.bytes = bytes) (h6 : z.cells.size = size) (h7 : 0 < size)
  (v : Value) (n : Nat) (xs : List Value) (hs : a.eval s = v) (hown : w.ownsRow base e size v n xs)
  (ad : Addr) (m c : Nat) (news : List Value) (hx : a.eval x = .slice (some ad) m c) (hn : news.length = m * size) (hc : ∀ j u, news[j]? = some u → w.cell? (ad.add j) = some u) (h1c : ∀ u ∈ news, u.oneCell' = true)
  (b1 : n + m ≤ maxLen) (b2 : (n + m) * bytes ≤ 140737488355328) (hbase : base ≤ w.heap.size)
  (hK : ∀ v' w', w'.ownsRow base e size v' (n + m) (xs ++ news) → w.grownBy w' v.ownBlock → K (a.put o.dst v') w') :
  if Region.wanted o (yielded ops a.tmps) = true then Oper.wp P o a w K Q else E := by
 have hw : Region.wanted o (yielded ops a.tmps) = true := by simp [Region.wanted, hg]
 rw [if_pos hw]
 obtain ⟨v', w', hrun, r1, r2, _⟩ := run_append_own (P := P) w base t o.type e i z size bytes h1 h2 h3 h4 h5 h6 h7 v n xs hown ad m c news hn hc h1c b1 b2 hbase
 unfold Oper.wp
 simp [execOp, hop, resolve, invoke, builtin, hs, hx, hrun, Result.andThen]
 exact hK v' w' r1 r2
theorem five_new (w : World) (a b c d e : ByteArray) (T : TypeId) (g : Nat) (hg : g = w.heap.size) : ∀ j u, [Value.string a, .string b, .string c, .string d, .string e][j]? = some u → (w.alloc (.cells #[.string a, .string b, .string c, .string d, .string e] T)).cell? ((⟨g, 0, none⟩ : Addr).add j) = some u := by
 subst hg
 intro j u hj
 rw [Mem.add_lit]
 exact (Mem.ze0 w [.string a, .string b, .string c, .string d, .string e] T).2 j u hj
theorem five_one (a b c d e : ByteArray) : ∀ u ∈ [Value.string a, .string b, .string c, .string d, .string e], u.oneCell' = true := by
 intro u hu
 simp only [List.mem_cons, List.not_mem_nil, or_false] at hu
 rcases hu with rfl | rfl | rfl | rfl | rfl <;> rfl
end Mem
end Go.Proofs.YtfdbokipgofcdaaGreatDoor

namespace Go.Proofs.YtfdbokipgofcdaaGreatDoor
open Go.RowKit
namespace Mem
def zc2 (w : World) (a : Option Addr) (L : List Pl.Nd) : Prop :=
 ∀ (i : Nat) n, L[i]? = some n → ∃ b o, a = some ⟨b, o, none⟩ ∧ b < w.heap.size ∧
  w.cell? ⟨b, o + i * 5, none⟩ = some (.string n.path) ∧ w.cell? ⟨b, o + i * 5 + 1, none⟩ = some (.int .i64 n.kind) ∧ w.cell? ⟨b, o + i * 5 + 2, none⟩ = some (.string n.data) ∧
  w.cell? ⟨b, o + i * 5 + 3, none⟩ = some (.int .i64 n.time) ∧ w.cell? ⟨b, o + i * 5 + 4, none⟩ = some (.int .i64 n.mark)
theorem za8 {w w' : World} {a : Option Addr} {L : List Pl.Nd} (h : zc2 w a L) (b : Below w.heap.size w w') : zc2 w' a L := fun i n hi => by
 obtain ⟨g, o, h1, h2, h3, h4, h5, h6, h7⟩ := h i n hi
 exact ⟨g, o, h1, Nat.lt_of_lt_of_le h2 b.size, (b.cell (p := ⟨g, _, none⟩) h2).trans h3, (b.cell (p := ⟨g, _, none⟩) h2).trans h4, (b.cell (p := ⟨g, _, none⟩) h2).trans h5, (b.cell (p := ⟨g, _, none⟩) h2).trans h6, (b.cell (p := ⟨g, _, none⟩) h2).trans h7⟩
theorem zx9 (b o j : Nat) : (⟨b, o, none⟩ : Addr).add j = ⟨b, o + j, none⟩ := by unfold Addr.add; split <;> simp_all
theorem yi4 (w : World) (a : Option Addr) : zc2 w a [] := fun i n hi => by simp at hi
end Mem
end Go.Proofs.YtfdbokipgofcdaaGreatDoor

namespace Go.Proofs.YtfdbokipgofcdaaGreatDoor
open Go.RowKit
namespace Mem
theorem texts {w : World} {B T : Nat} {v : Value} {L : List ByteArray} (h : w.ownsRow B T 1 v L.length (L.map Value.string)) :
  (v = .slice none 0 0 ∧ L = []) ∨ ∃ g cap, v = .slice (some ⟨g, 0, none⟩) L.length cap ∧ L.length ≤ cap ∧ cap ≤ maxLen ∧ B ≤ g ∧ g < w.heap.size ∧ ∀ (k : Nat) t, L[k]? = some t → w.cell? ⟨g, k, none⟩ = some (.string t) := by
 rcases h.2 with ⟨rfl, h0⟩ | ⟨g, cap, cur, rfl, hgb, hg, hcap, hm, hsz, htk⟩
 ·exact .inl ⟨rfl, List.eq_nil_of_length_eq_zero h0⟩
 ·refine .inr ⟨g, cap, rfl, hcap, hm, hgb, (Array.getElem?_eq_some_iff.1 hg).1, fun k t ht => ?_⟩
  have hk := (List.getElem?_eq_some_iff.1 ht).1
  rw [cell_of_row w g k cur T (0, 0) hg]
  have h1 : (cur.toList.take (L.length * 1))[k]? = (L.map Value.string)[k]? := by rw [htk]
  rw [List.getElem?_take_of_lt (by omega), List.getElem?_map, ht] at h1
  simpa using h1
theorem one_str (t : ByteArray) : ∀ u ∈ [Value.string t], u.oneCell' = true := by
 intro u hu; simp at hu; subst hu; rfl
def zs3 (w : World) (v : Value) (ts : List ByteArray) : Prop :=
 (v = .slice none 0 0 ∧ ts = []) ∨ ∃ b o cap, v = .slice (some ⟨b, o, none⟩) ts.length cap ∧ b < w.heap.size ∧ ∀ (j : Nat) t, ts[j]? = some t → w.cell? ⟨b, o + j, none⟩ = some (.string t)
theorem zx8 {w : World} {B T : Nat} {v : Value} {L : List ByteArray} (h : w.ownsRow B T 1 v L.length (L.map Value.string)) : zs3 w v L := by
 rcases texts h with h | ⟨g, cap, h1, h2, h3, h4, h5, h6⟩
 ·exact .inl h
 ·exact .inr ⟨g, 0, cap, h1, h5, fun j t ht => by rw [Nat.zero_add]; exact h6 j t ht⟩
theorem take_texts {w : World} {g cap : Nat} {L : List ByteArray} (hg : g < w.heap.size) (hc : ∀ (k : Nat) t, L[k]? = some t → w.cell? ⟨g, k, none⟩ = some (.string t)) (n : Nat) (hn : n ≤ L.length) :
  zs3 w (.slice (some ⟨g, 0, none⟩) n cap) (L.take n) := by
 refine .inr ⟨g, 0, cap, by rw [List.length_take, Nat.min_eq_left hn], hg, fun j t ht => ?_⟩
 rw [Nat.zero_add]
 refine hc j t ?_
 have hj : j < n := by have := (List.getElem?_eq_some_iff.1 ht).1; rw [List.length_take] at this; omega
 rwa [List.getElem?_take_of_lt hj] at ht
theorem own_below {w w' : World} {B B' e size n : Nat} {v : Value} {xs : List Value} (h : w.ownsRow B e size v n xs) (hb : Below B' w w') (hB : ∀ k, v.ownBlock = some k → k < B') : w'.ownsRow B e size v n xs := by
 refine ⟨h.1, ?_⟩
 rcases h.2 with h0 | ⟨g, cap, cur, rfl, hgb, hg, rest⟩
 ·exact .inl h0
 ·exact .inr ⟨g, cap, cur, rfl, hgb, (hb.block g (hB g rfl)).trans hg, rest⟩
theorem zm7 {w w' : World} {B e size n : Nat} {v : Value} {xs : List Value} (h : w.ownsRow B e size v n xs) (hb : Below w.heap.size w w') : w'.ownsRow B e size v n xs :=
 own_below h hb (fun k hk => (h.lt k hk).2)
theorem texts_call {w w' : World} {v : Value} {ts : List ByteArray} (h : zs3 w v ts) (hb : Below w.heap.size w w') : zs3 w' v ts := by
 rcases h with h | ⟨b, o, cap, rfl, hlt, hc⟩
 ·exact .inl h
 ·exact .inr ⟨b, o, cap, rfl, Nat.lt_of_lt_of_le hlt hb.size, fun j t ht => (hb.cell (p := ⟨b, o + j, none⟩) hlt).trans (hc j t ht)⟩
theorem below_drewN {B : Nat} {a w : World} (h : Below B a w) (q : Nat) : Below B a (w.drewN q) := h.trans ⟨rfl, rfl, rfl, Nat.le_refl _, fun _ _ => rfl⟩
theorem ya6 {w : World} {v : Value} {ts : List ByteArray} (h : zs3 w v ts) : ∃ a cap, v = .slice a ts.length cap := by
 rcases h with ⟨rfl, rfl⟩ | ⟨b, o, cap, rfl, _⟩ <;> exact ⟨_, _, rfl⟩
end Mem
end Go.Proofs.YtfdbokipgofcdaaGreatDoor

namespace Go.Proofs.YtfdbokipgofcdaaGreatDoor
open Go.RowKit
namespace WName

set_option maxHeartbeats 400000 in
theorem zd0 (s : ByteArray) (w : World) (hs : s.size ≤ maxLen) :
  Calls Tryz.prog 150 #[.string s] w fun e w' => e = .returned (.bool (Pl.zf5 s)) ∧ w' = w := by
 unfold maxLen at hs
 by_cases h1 : s.size < 1
 ·have e0 := hide (Pl.yt4 h1)
  go_enter Tryz.func150, Tryz.ntmps150
  go_wp2
  go_ret
  exact ⟨za4 (za e0).symm, rfl⟩
 by_cases h2 : 20 < s.size
 ·have e0 := hide (Pl.yw3 h2)
  go_enter Tryz.func150, Tryz.ntmps150
  go_wp2
  go_ret
  exact ⟨za4 (za e0).symm, rfl⟩
 go_enter Tryz.func150, Tryz.ntmps150
 go_wp2
 go_loop [3] (fun i => ∃ k : Nat, k ≤ s.size ∧ i = .int .i64 k ∧ Hid (∀ j, j < k → Pl.okAt j ((s.data.toList.getD j 0).toNat))) (fun i => s.size - (intOf i).toNat)
 case atStart => exact ⟨0, Nat.zero_le _, rfl, fun j hj => absurd hj (by omega)⟩
 case round =>
  obtain ⟨k, hk, rfl, hok⟩ := hrel
  by_cases hlt : k < s.size
  ·by_cases hk0 : k = 0
   ·subst hk0
    have okc : ∀ n : Nat, Pl.okAt 0 n ↔ (97 ≤ n ∧ n ≤ 122) := fun n => by unfold Pl.okAt; omega
    have OK := hide okc
    clear okc
    rcases Pl.kinds (s[0].toNat : Int) with ⟨a1, a2⟩ | ⟨a1, a2, a3, a4⟩ | ⟨a1, a2, a3, a4⟩ | ⟨a1, a2, a3, a4⟩ | ⟨a1, a2, a3⟩ | ⟨a1, a2, a3, a4, a5⟩
    ·go_wp2
     go_round
     case rel => exact ⟨1, by omega, rfl, Pl.yk1 hok.out hlt ((za OK _).2 (by omega))⟩
     case measure => simp [intOf]; omega
    all_goals
     go_wp2
     go_ret
     exact ⟨za4 (Pl.yb7 0 hlt (by rw [za OK]; omega)).symm, rfl⟩
   ·have hkb : ((k : Int) == 0) = false := by simp; omega
    have okc : ∀ n : Nat, Pl.okAt k n ↔ (97 ≤ n ∧ n ≤ 122) ∨ (48 ≤ n ∧ n ≤ 57) ∨ n = 95 := fun n => by unfold Pl.okAt; omega
    have OK := hide okc
    clear okc
    rcases Pl.kinds (s[k].toNat : Int) with ⟨a1, a2⟩ | ⟨a1, a2, a3, a4⟩ | ⟨a1, a2, a3, a4⟩ | ⟨a1, a2, a3, a4⟩ | ⟨a1, a2, a3⟩ | ⟨a1, a2, a3, a4, a5⟩
    ·go_wp2
     go_round
     case rel => exact ⟨k + 1, by omega, by go_num, Pl.yk1 hok.out hlt ((za OK _).2 (by omega))⟩
     case measure => simp [intOf]; omega
    ·go_wp2
     go_round
     case rel => exact ⟨k + 1, by omega, by go_num, Pl.yk1 hok.out hlt ((za OK _).2 (by omega))⟩
     case measure => simp [intOf]; omega
    ·go_wp2
     go_ret
     exact ⟨za4 (Pl.yb7 k hlt (by rw [za OK]; simp at a4; omega)).symm, rfl⟩
    ·go_wp2
     go_round
     case rel => exact ⟨k + 1, by omega, by go_num, Pl.yk1 hok.out hlt ((za OK _).2 (by simp at a4; omega))⟩
     case measure => simp [intOf]; omega
    all_goals
     go_wp2
     go_ret
     exact ⟨za4 (Pl.yb7 k hlt (by rw [za OK]; omega)).symm, rfl⟩
  ·have e0 : Pl.zf5 s = true := Pl.yw8 h1 h2 (fun j hj => hok.out j (by omega))
   have E0 := hide e0
   clear e0
   go_wp2
   go_ret
   exact ⟨za4 (za E0).symm, rfl⟩

set_option maxHeartbeats 400000 in
theorem zg5 (s : ByteArray) (w : World) (hs : s.size ≤ maxLen) :
  Calls Tryz.prog 159 #[.string s] w fun e w' => e = .returned (.bool (Pl.zf5 s)) ∧ w' = w := by
 unfold maxLen at hs
 by_cases h1 : s.size < 1
 ·have e0 := hide (Pl.yt4 h1)
  go_enter Tryz.func159, Tryz.ntmps159
  go_wp2
  go_ret
  exact ⟨za4 (za e0).symm, rfl⟩
 by_cases h2 : 20 < s.size
 ·have e0 := hide (Pl.yw3 h2)
  go_enter Tryz.func159, Tryz.ntmps159
  go_wp2
  go_ret
  exact ⟨za4 (za e0).symm, rfl⟩
 have hp : 0 < s.size := by omega
 by_cases hl : 97 ≤ (s[0].toNat : Int) ∧ (s[0].toNat : Int) ≤ 122
 ·obtain ⟨l1, l2⟩ := hl
  have H0 : Hid (Pl.okAt 0 s[0].toNat) := Or.inl (by omega)
  go_enter Tryz.func159, Tryz.ntmps159
  go_wp2
  go_loop [21] (fun i => ∃ k : Nat, k ≤ s.size ∧ i = .int .i64 k ∧ Hid (∀ j, j < k → Pl.okAt j ((s.data.toList.getD j 0).toNat))) (fun i => s.size - (intOf i).toNat)
  case atStart => exact ⟨0, Nat.zero_le _, rfl, fun j hj => absurd hj (by omega)⟩
  case round =>
   obtain ⟨k, hk, rfl, hok⟩ := hrel
   by_cases hlt : k < s.size
   ·have hstep : Hid ((97 ≤ s[k].toNat ∧ s[k].toNat ≤ 122) ∨ (48 ≤ s[k].toNat ∧ s[k].toNat ≤ 57) ∨ s[k].toNat = 95 → ∀ j, j < k + 1 → Pl.okAt j ((s.data.toList.getD j 0).toNat)) := by
     intro ho
     refine Pl.yk1 hok.out hlt ?_
     by_cases hk0 : k = 0
     ·subst hk0; exact H0
     ·unfold Pl.okAt; omega
    have hbad : Hid (¬ ((97 ≤ s[k].toNat ∧ s[k].toNat ≤ 122) ∨ (48 ≤ s[k].toNat ∧ s[k].toNat ≤ 57) ∨ s[k].toNat = 95) → Pl.zf5 s = false) := by
     intro hn
     exact Pl.yb7 k hlt (by unfold Pl.okAt; omega)
    clear l1 l2 H0 hok
    rcases Pl.kinds (s[k].toNat : Int) with ⟨a1, a2⟩ | ⟨a1, a2, a3, a4⟩ | ⟨a1, a2, a3, a4⟩ | ⟨a1, a2, a3, a4⟩ | ⟨a1, a2, a3⟩ | ⟨a1, a2, a3, a4, a5⟩
    ·go_wp2
     go_round
     case rel => exact ⟨k + 1, by omega, by go_num, hstep.out (by omega)⟩
     case measure => simp [intOf]; omega
    ·go_wp2
     go_round
     case rel => exact ⟨k + 1, by omega, by go_num, hstep.out (by omega)⟩
     case measure => simp [intOf]; omega
    ·go_wp2
     go_ret
     exact ⟨za4 (hbad.out (by simp at a4; omega)).symm, rfl⟩
    ·go_wp2
     go_round
     case rel => exact ⟨k + 1, by omega, by go_num, hstep.out (by simp at a4; omega)⟩
     case measure => simp [intOf]; omega
    all_goals
     go_wp2
     go_ret
     exact ⟨za4 (hbad.out (by omega)).symm, rfl⟩
   ·have e0 : Pl.zf5 s = true := Pl.yw8 h1 h2 (fun j hj => hok.out j (by omega))
    have E0 := hide e0
    clear e0
    go_wp2
    go_ret
    exact ⟨za4 (za E0).symm, rfl⟩
 ·have e0 : Pl.zf5 s = false := Pl.yb7 0 hp (by unfold Pl.okAt; omega)
  have E0 := hide e0
  clear e0
  by_cases g1 : 97 ≤ (s[0].toNat : Int)
  ·have g2 : ¬ (s[0].toNat : Int) ≤ 122 := by omega
   clear hl
   go_enter Tryz.func159, Tryz.ntmps159
   go_wp2
   go_ret
   exact ⟨za4 (za E0).symm, rfl⟩
  ·clear hl
   go_enter Tryz.func159, Tryz.ntmps159
   go_wp2
   go_ret
   exact ⟨za4 (za E0).symm, rfl⟩
end WName
end Go.Proofs.YtfdbokipgofcdaaGreatDoor

namespace Go.Proofs.YtfdbokipgofcdaaGreatDoor
open Go.RowKit
namespace Pl
theorem get_ge (s : ByteArray) (k : Nat) (h : k < s.size) : s.get! k = s[k] := by
  simp [ByteArray.get!, getElem!_pos, h]; rfl
theorem rune_other (s : ByteArray) (pos : Nat) (h : pos < s.size) (hb : s[pos].toNat ≠ 47) :
    ((Utf8.decode s pos).1 ≠ 47) ∧ 1 ≤ (Utf8.decode s pos).2 ∧ pos + (Utf8.decode s pos).2 ≤ s.size ∧ ∀ j (hj : j < s.size), pos ≤ j → j < pos + (Utf8.decode s pos).2 → s[j].toNat ≠ 47 := by
  by_cases ha : s[pos].toNat < 128
  · rw [decode_ascii s pos h ha]
    refine ⟨hb, Nat.le_refl _, h, fun j hj h1 h2 => ?_⟩
    obtain rfl : j = pos := by simp at h2; omega
    exact hb
  · have hh := decode_high s pos h (by omega)
    refine ⟨by omega, hh.2, ?_⟩
    have hg := get_ge s
    have key : pos + (Utf8.decode s pos).2 ≤ s.size ∧ ∀ k, 1 ≤ k → k < (Utf8.decode s pos).2 → (s.get! (pos + k)).toNat / 64 = 2 := by
      have h0 : s.get! (pos + 0) = s[pos] := hg pos h
      simp only [Utf8.decode, h0, ha, if_false]
      repeat' split
      all_goals simp_all
      all_goals first
        | omega
        | (refine ⟨by omega, fun k h1 h2 => ?_⟩
           rcases (show k = 1 ∨ k = 2 ∨ k = 3 by omega) with rfl | rfl | rfl <;> first | omega | (simp_all; done))
    refine ⟨key.1, fun j hj h1 h2 => ?_⟩
    by_cases he : j = pos
    · subst he; exact hb
    · have := key.2 (j - pos) (by omega) (by omega)
      rw [Nat.add_sub_cancel' h1, hg j hj] at this
      omega
theorem cutF_over {s : ByteArray} {fr : Nat} : ∀ n k, k + n ≤ s.size → (∀ j (hj : j < s.size), k ≤ j → j < k + n → s[j].toNat ≠ 47) → cutF s 47 (s.size - k) fr k = cutF s 47 (s.size - (k + n)) fr (k + n) := by
  intro n
  induction n with
  | zero => intro k _ _; rfl
  | succ n ih =>
    intro k hk h
    have hlt : k < s.size := by omega
    have hf : s.size - k = s.size - (k + 1) + 1 := by omega
    rw [hf, yq9 hlt (h k hlt (Nat.le_refl _) (by omega)), ih (k + 1) (by omega) (fun j hj h1 h2 => h j hj (by omega) (by omega))]
    have e : k + 1 + n = k + (n + 1) := by omega
    rw [e]
end Pl
namespace Mem
theorem own_iterAt {w : World} {B e size n : Nat} {v : Value} {xs : List Value} {k : Nat} {s : ByteArray} {pos : Nat} (h : w.ownsRow B e size v n xs) (hk : w.heap[k]? = some (.stringIter s pos)) (pos' : Nat) : (w.iterAt k s pos').ownsRow B e size v n xs := by
  refine ⟨h.1, ?_⟩
  rcases h.2 with h0 | ⟨g, cap, cur, hv, hb, hg, rest⟩
  · exact .inl h0
  · refine .inr ⟨g, cap, cur, hv, hb, ?_, rest⟩
    rw [Lib.iterAt_other _ _ _ _ _ (fun e => by subst e; rw [hk] at hg; cases hg)]
    exact hg
theorem own_no_iter {w : World} {B e size n : Nat} {v : Value} {xs : List Value} {k : Nat} {s : ByteArray} {pos : Nat} (h : w.ownsRow B e size v n xs) (hk : w.heap[k]? = some (.stringIter s pos)) : some k ≠ v.ownBlock := by
  rcases h.2 with ⟨rfl, _⟩ | ⟨g, cap, cur, rfl, hb, hg, rest⟩
  · simp [Value.ownBlock]
  · intro e
    simp only [Value.ownBlock, Option.some.injEq] at e
    subst e
    rw [hk] at hg
    cases hg
end Mem
namespace yk3
theorem infoS : (Tryz.prog.info? 9).map (fun i => (i.zero, i.size, i.bytes)) = some (some (.string ⟨#[]⟩), 1, 16) := by kernel_rfl

set_option maxRecDepth 100000 in
set_option maxHeartbeats 400000 in
theorem any (s : ByteArray) (w : World) (hs : s.size ≤ 1048576) :
    Calls Tryz.prog 158 #[.string s] w fun e w' => ∃ v, e = .returned v ∧
      w'.ownsRow w.heap.size 9 1 v (Pl.cut s 47).length ((Pl.cut s 47).map Value.string) ∧ Below w.heap.size w w' := by
  obtain ⟨i0, hi, hz0, hz1, hz2⟩ := info_parts infoS
  go_enter Tryz.func158, Tryz.ntmps158
  go_wp2
  go_loopw [3, 4] (fun v x wr => ∃ (pos fr : Nat) (L : List ByteArray), pos ≤ s.size ∧ fr ≤ pos ∧ L.length ≤ pos ∧ x = .int .i64 (fr : Int) ∧
      wr.ownsRow w.heap.size 9 1 v L.length (L.map Value.string) ∧ wr.heap[w.heap.size + 1]? = some (.stringIter s pos) ∧ Below w.heap.size w wr ∧ Hid (Pl.cut s 47 = L ++ Pl.cutF s 47 (s.size - pos) fr pos)) (fun _ _ wr => s.size - wr.iterPos (w.heap.size + 1))
  case atStart =>
    refine ⟨0, 0, [], by omega, by omega, by simp, rfl, (World.ownsRow_made _ _ 0 (Nat.le_refl _) (Nat.zero_le _) rfl).alloc _, ?_, ((Below.refl _ _).alloc (Nat.le_refl _) _).alloc (by simp) _, rfl⟩
    have := World.iter_heap (w.alloc (.cells #[] 9)) s 0
    simpa using this
  case round =>
    obtain ⟨pos, fr, L, hk, hfr, hL, rfl, hown, hit, hbel, H⟩ := hrel
    have hb1 := hbel.size
    have hsz : w.heap.size + 1 < wr.heap.size := (Array.getElem?_eq_some_iff.1 hit).1
    have hip : wr.iterPos (w.heap.size + 1) = pos := by simp only [World.iterPos, hit]
    by_cases hlt : pos < s.size
    · by_cases hq : s[pos].toNat = 47
      · have ha : s[pos].toNat < 128 := by omega
        have hnx : ∀ ty, (Instr.next (.pointer (some ⟨w.heap.size + 1, 0, none⟩)) true ty).run Tryz.prog wr = .ok (.tuple #[.bool true, .int .i64 pos, .int .i32 47]) (wr.iterAt (w.heap.size + 1) s (pos + 1)) := fun ty => by
          rw [Lib.run_next_ascii_at wr (w.heap.size + 1) s pos ty hit hlt ha, hq]; rfl
        have hf : s.size - pos = s.size - (pos + 1) + 1 := by omega
        have H2 : Hid (Pl.cut s 47 = (L ++ [s.extract fr pos]) ++ Pl.cutF s 47 (s.size - (pos + 1)) (pos + 1) (pos + 1)) := by
          show _ = _
          rw [H.out, hf, Pl.cutF_hit hlt hq]; simp
        have hown2 := Mem.own_iterAt hown hit (pos + 1)
        have hit2 := Lib.iterAt_heap wr (w.heap.size + 1) s pos (pos + 1) hit
        have hbel2 := Lib.below_iterAt hbel (k := w.heap.size + 1) (by omega) s (pos + 1)
        have hsz2 : Hid ((wr.iterAt (w.heap.size + 1) s (pos + 1)).heap.size = wr.heap.size) := Lib.iterAt_size _ _ _ _
        have hne := Mem.own_no_iter hown2 hit2
        generalize wr.iterAt (w.heap.size + 1) s (pos + 1) = w1 at hnx hown2 hit2 hbel2 hsz2
        have t1 : (0 : Int) ≤ (fr : Int) := by omega
        have t2 : (fr : Int) ≤ (pos : Int) := by omega
        have t3 : (pos : Int) ≤ (s.size : Int) := by omega
        clear H hf hq hown hit hbel ha
        go_wp2_with (at_builtin; refine wpList_append_own _ rfl _ _ 50 rfl w.heap.size 9 i0 (.string ⟨#[]⟩) 1 16 Tryz.underlying50 hi hz0 hz1 hz2 rfl (by decide) _ _ _ rfl (hown2.alloc _) ⟨w1.heap.size, 0, none⟩ 1 1 [.string (s.extract fr pos)] rfl rfl ?c1 ?c2 ?c3 ?c4 ?c5 ?_)
        case c1 => exact Mem.zq5 _ _ _
        case c2 => intro u hu; simp at hu; subst hu; rfl
        case c3 => unfold maxLen; omega
        case c4 => omega
        case c5 => have := hsz2.out; simp; omega
        · intro v' w2 hown' hgrow _
          have hsz2 := hsz2.out
          have hbel' := Mem.zj6 hbel2 (Nat.le_refl _) hown2 hgrow
          have hown3 : w2.ownsRow w.heap.size 9 1 v' (L ++ [s.extract fr pos]).length ((L ++ [s.extract fr pos]).map Value.string) := by simpa using hown'
          have hit3 : w2.heap[w.heap.size + 1]? = some (.stringIter s (pos + 1)) :=
            (hgrow.block (w.heap.size + 1) (by simp; omega) hne).trans ((Below.heap_alloc _ _ _ (by omega)).trans hit2)
          have hip3 : w2.iterPos (w.heap.size + 1) = pos + 1 := by simp only [World.iterPos, hit3]
          clear hgrow hown2 hbel2 hown' hnx hit2
          go_wp2
          go_roundw
          case rel => exact ⟨pos + 1, pos + 1, L ++ [s.extract fr pos], by omega, by omega, by simp; omega, by go_num, hown3, hit3, hbel', H2⟩
          case measure => rw [hip3, hip]; omega
      · obtain ⟨r1, r2, r3, r4⟩ := Pl.rune_other s pos hlt hq
        have hnx : ∀ ty, (Instr.next (.pointer (some ⟨w.heap.size + 1, 0, none⟩)) true ty).run Tryz.prog wr = .ok (.tuple #[.bool true, .int .i64 pos, .int .i32 (Utf8.decode s pos).1]) (wr.iterAt (w.heap.size + 1) s (pos + (Utf8.decode s pos).2)) := fun ty =>
          Lib.run_next_any_at wr (w.heap.size + 1) s pos ty hit hlt
        have H2 : Hid (Pl.cut s 47 = L ++ Pl.cutF s 47 (s.size - (pos + (Utf8.decode s pos).2)) fr (pos + (Utf8.decode s pos).2)) := by
          show _ = _
          rw [H.out, Pl.cutF_over _ pos r3 r4]
        have hown2 := Mem.own_iterAt hown hit (pos + (Utf8.decode s pos).2)
        have hit2 := Lib.iterAt_heap wr (w.heap.size + 1) s pos (pos + (Utf8.decode s pos).2) hit
        have hbel2 := Lib.below_iterAt hbel (k := w.heap.size + 1) (by omega) s (pos + (Utf8.decode s pos).2)
        have hip2 : (wr.iterAt (w.heap.size + 1) s (pos + (Utf8.decode s pos).2)).iterPos (w.heap.size + 1) = pos + (Utf8.decode s pos).2 := by simp only [World.iterPos, hit2]
        have t4 : (((Utf8.decode s pos).1 : Int) == 47) = false := by rw [beq_eq_false_iff_ne]; omega
        generalize hD : (Utf8.decode s pos).2 = n at *
        generalize (Utf8.decode s pos).1 = r at *
        generalize wr.iterAt (w.heap.size + 1) s (pos + n) = w1 at *
        clear H hq hown hit hbel r4 hD r1
        go_wp2
        go_roundw
        case rel => exact ⟨pos + n, fr, L, r3, by omega, by omega, rfl, hown2, hit2, hbel2, H2⟩
        case measure => rw [hip2, hip]; omega
    · obtain rfl : pos = s.size := by omega
      have hnx : ∀ ty, (Instr.next (.pointer (some ⟨w.heap.size + 1, 0, none⟩)) true ty).run Tryz.prog wr = .ok (.tuple #[.bool false]) wr := fun ty => Lib.run_next_end_at wr (w.heap.size + 1) s s.size ty hit hlt
      have H2 : Hid (Pl.cut s 47 = L ++ [s.extract fr s.size]) := by
        show _ = _
        rw [H.out, Nat.sub_self]; rfl
      have t1 : (0 : Int) ≤ (fr : Int) := by omega
      have t2 : (fr : Int) ≤ (s.size : Int) := by omega
      clear H
      go_wp2_with (at_builtin; refine wpList_append_own _ rfl _ _ 50 rfl w.heap.size 9 i0 (.string ⟨#[]⟩) 1 16 Tryz.underlying50 hi hz0 hz1 hz2 rfl (by decide) _ _ _ rfl (hown.alloc _) ⟨wr.heap.size, 0, none⟩ 1 1 [.string (s.extract fr s.size)] rfl rfl ?c1 ?c2 ?c3 ?c4 ?c5 ?_)
      case c1 => exact Mem.zq5 _ _ _
      case c2 => intro u hu; simp at hu; subst hu; rfl
      case c3 => unfold maxLen; omega
      case c4 => omega
      case c5 => simp; omega
      · intro v' w2 hown' hgrow _
        have hbel' := Mem.zj6 hbel (Nat.le_refl _) hown hgrow
        have hown2 : w2.ownsRow w.heap.size 9 1 v' (Pl.cut s 47).length ((Pl.cut s 47).map Value.string) := by rw [H2.out]; simpa using hown'
        clear hgrow hown hbel hown'
        go_wp2
        go_ret
        exact ⟨_, rfl, hown2, hbel'⟩
end yk3
end Go.Proofs.YtfdbokipgofcdaaGreatDoor

namespace Go.Proofs.YtfdbokipgofcdaaGreatDoor
open Go.RowKit
namespace yl0
set_option maxRecDepth 100000 in
set_option maxHeartbeats 400000 in
theorem any (s : ByteArray) (w : World) (hs : s.size ≤ 1048576) :
  Calls Tryz.prog 147 #[.string s] w fun e w' => ∃ v, e = .returned (.tuple #[v, .bool (Pl.za5 s)]) ∧
   w'.ownsRow w.heap.size 9 1 v (Pl.zc8 s).length ((Pl.zc8 s).map Value.string) ∧ Below w.heap.size w w' := by
 by_cases h0 : s.size = 0
 ·have E := hide (Pl.zi9 h0).1
  have E2 := hide ((Pl.zg2 (Pl.zi9 h0).1).trans (Pl.zi9 h0).2)
  obtain rfl : s = ⟨#[]⟩ := by apply ByteArray.ext; exact Array.eq_empty_of_size_eq_zero h0
  go_enter Tryz.func147, Tryz.ntmps147
  go_wp2
  go_ret2
  refine ⟨.slice none 0 0, by rw [za E]; rfl, ?_, Below.refl _ _⟩
  rw [za E2]
  exact World.ownsRow_nil _ _ _ _
 have t0 : s.toList.isEmpty = false := by
  rw [List.isEmpty_eq_false_iff, ByteArray.toList_eq]
  intro h
  have h1 : s.data.toList.length = 0 := by rw [h]; rfl
  rw [Array.length_toList] at h1
  exact h0 h1
 have E1 : Hid (Pl.names s = Pl.cut s 47) := if_neg h0
 by_cases h8 : 8000 < s.size
 ·have E := hide (Pl.yn0 (s := s) (by omega))
  have E2 := hide (Pl.yj1 (za E))
  go_enter Tryz.func147, Tryz.ntmps147
  go_wp2
  go_ret2
  refine ⟨.slice none 0 0, by rw [za E]; rfl, ?_, Below.refl _ _⟩
  rw [za E2]
  exact World.ownsRow_nil _ _ _ _
 have hpos := Pl.cut_pos s
 have hlen := Pl.cut_length s
 have HSZ : Hid (∀ (k : Nat) t, (Pl.cut s 47)[k]? = some t → t.size ≤ maxLen) := fun k t ht => by
  have := Pl.cut_size ht
  unfold maxLen; omega
 have HLONG : Hid (6 < (Pl.cut s 47).length → Pl.za5 s = false) := fun h => by
  rw [Pl.yj5, E1.out]; simp; intro _; omega
 have HBAD : Hid (∀ (k : Nat) t, (Pl.cut s 47)[k]? = some t → Pl.zf5 t = false → Pl.za5 s = false) := fun k t ht hb => Pl.pathB_bad (by rw [E1.out]; exact ht) hb
 have HGOOD : Hid ((Pl.cut s 47).length ≤ 6 → (∀ (j : Nat) t, (Pl.cut s 47)[j]? = some t → Pl.zf5 t = true) → Pl.za5 s = true ∧ Pl.zc8 s = Pl.cut s 47) := fun h6 h => by
  have h1 : Pl.za5 s = true := by
   rw [Pl.yj5, E1.out]
   simp [h6]
   intro t ht
   obtain ⟨j, hj⟩ := List.mem_iff_getElem?.1 ht
   exact h j t hj
  exact ⟨h1, by rw [Pl.zg2 h1, E1.out]⟩
 have hn := hide (yk3.any s w hs)
 generalize Pl.cut s 47 = L at hn hlen HSZ HBAD HGOOD HLONG hpos
 go_enter Tryz.func147, Tryz.ntmps147
 go_wp2_with fail
 refine (za hn).mono ?_
 rintro e w1 ⟨v, rfl, hown, hbel⟩
 have HO := hide hown
 rcases Mem.texts hown with ⟨rfl, rfl⟩ | ⟨g, cap, rfl, hcap, hm, hgb, hgl, hcell⟩
 ·simp at hpos
 have HC := hide hcell
 clear hcell hown hn
 have hm2 := hm
 unfold maxLen at hm2
 by_cases h6 : 6 < L.length
 ·have E := hide (HLONG.out h6)
  have E2 := hide (Pl.yj1 (za E))
  go_wp2
  go_ret2
  refine ⟨.slice none 0 0, by rw [za E]; rfl, ?_, hbel⟩
  rw [za E2]
  exact World.ownsRow_nil _ _ _ _
 go_wp2
 go_loop [19] (fun i => ∃ k : Nat, k ≤ L.length ∧ i = .int .i64 (k : Int) ∧ Hid (∀ (j : Nat) t, j < k → L[j]? = some t → Pl.zf5 t = true)) (fun i => L.length - (intOf i).toNat)
 case atStart => exact ⟨0, Nat.zero_le _, rfl, fun j t h => absurd h (by omega)⟩
 case round =>
  obtain ⟨k, hk, rfl, HA⟩ := hrel
  by_cases hlt : k < L.length
  ·obtain ⟨t, ht⟩ : ∃ t, L[k]? = some t := ⟨_, List.getElem?_eq_getElem hlt⟩
   have hc := HC.out k t ht
   have hts := HSZ.out k t ht
   cases hb : Pl.zf5 t
   ·have E := hide (HBAD.out k t ht hb)
    have E2 := hide (Pl.yj1 (za E))
    have HB := hide hb
    clear ht hb
    go_wp2_with (go_at_call 159; refine (WName.zg5 t _ hts).mono ?_; rw [za HB]; rintro e w' ⟨rfl, hw⟩; obtain rfl := hw.symm)
    go_ret2
    refine ⟨.slice none 0 0, by rw [za E]; rfl, ?_, hbel⟩
    rw [za E2]
    exact World.ownsRow_nil _ _ _ _
   ·have HB := hide hb
    have HA2 : Hid (∀ (j : Nat) t, j < k + 1 → L[j]? = some t → Pl.zf5 t = true) := fun j t' hj h' => by
     rcases Nat.lt_succ_iff_lt_or_eq.1 hj with h'' | rfl
     ·exact HA.out j t' h'' h'
     ·rw [ht] at h'; cases h'; exact hb
    clear ht hb HA
    go_wp2_with (go_at_call 159; refine (WName.zg5 t _ hts).mono ?_; rw [za HB]; rintro e w' ⟨rfl, hw⟩; obtain rfl := hw.symm)
    go_round
    case rel => exact ⟨k + 1, by omega, by go_num, HA2⟩
    case measure => simp [intOf]; omega
  ·have E := hide (HGOOD.out (by omega) (fun j t h => HA.out j t (by have := (List.getElem?_eq_some_iff.1 h).1; omega) h))
   clear HA
   go_wp2
   go_ret2
   exact ⟨.slice (some ⟨g, 0, none⟩) L.length cap, by rw [(za E).1]; rfl, by rw [(za E).2]; exact za HO, hbel⟩
end yl0
end Go.Proofs.YtfdbokipgofcdaaGreatDoor

namespace Go.Proofs.YtfdbokipgofcdaaGreatDoor
open Go.RowKit
namespace WPathI
theorem zf4 (s : ByteArray) (w : World) (hs : s.size ≤ 1048576) :
  Calls Tryz.prog 124 #[.string s] w fun e w' => e = .returned (.bool (Pl.za5 s)) ∧ Below w.heap.size w w' := by
 go_enter Tryz.func124, Tryz.ntmps124
 go_wp2_with fail
 refine (yl0.any s _ hs).mono ?_
 rintro e w1 ⟨v, rfl, hown, hb⟩
 clear hown
 go_wp2
 go_ret
 exact ⟨rfl, hb⟩
end WPathI
end Go.Proofs.YtfdbokipgofcdaaGreatDoor

namespace Go.Proofs.YtfdbokipgofcdaaGreatDoor
open Go.RowKit
namespace WSplit
theorem infoS : (Tryz.prog.info? 9).map (fun i => (i.zero, i.size, i.bytes)) = some (some (.string ⟨#[]⟩), 1, 16) := by kernel_rfl

set_option maxRecDepth 100000 in
set_option maxHeartbeats 400000 in
theorem split_any (s : ByteArray) (b : Nat) (w : World) (hs : s.size ≤ 1048576) :
  Calls Tryz.prog 151 #[.string s, .int .u8 (b : Int)] w fun e w' => ∃ v, e = .returned v ∧
   w'.ownsRow w.heap.size 9 1 v (Pl.cut s b).length ((Pl.cut s b).map Value.string) ∧ Below w.heap.size w w' := by
 obtain ⟨i0, hi, hz0, hz1, hz2⟩ := info_parts infoS
 go_enter Tryz.func151, Tryz.ntmps151
 go_wp2
 go_loopw [5, 6, 7] (fun v x i wr => ∃ (k fr : Nat) (L : List ByteArray), k ≤ s.size ∧ fr ≤ k ∧ L.length ≤ k ∧ i = .int .i64 (k : Int) ∧ x = .int .i64 (fr : Int) ∧
   wr.ownsRow w.heap.size 9 1 v L.length (L.map Value.string) ∧ Below w.heap.size w wr ∧ Hid (Pl.cut s b = L ++ Pl.cutF s b (s.size - k) fr k)) (fun _ _ i _ => s.size - (intOf i).toNat)
 case atStart => exact ⟨0, 0, [], by omega, by omega, by simp, rfl, rfl, World.ownsRow_made _ _ 0 (Nat.le_refl _) (Nat.zero_le _) rfl, (Below.refl _ _).alloc (Nat.le_refl _) _, rfl⟩
 case round =>
  obtain ⟨k, fr, L, hk, hfr, hL, rfl, rfl, hown, hbel, H⟩ := hrel
  have hb1 := hbel.size
  by_cases hlt : k < s.size
  ·have hf : s.size - k = s.size - (k + 1) + 1 := by omega
   have t1 : (0 : Int) ≤ (fr : Int) := by omega
   have t2 : (fr : Int) ≤ (k : Int) := by omega
   have t3 : (k : Int) ≤ (s.size : Int) := by omega
   by_cases hq : s[k].toNat = b
   ·have H2 : Hid (Pl.cut s b = (L ++ [s.extract fr k]) ++ Pl.cutF s b (s.size - (k + 1)) (k + 1) (k + 1)) := by
     show _ = _
     rw [H.out, hf, Pl.cutF_hit hlt hq]; simp
    have t4 : ((s[k].toNat : Int) == (b : Int)) = true := by rw [beq_iff_eq]; omega
    clear H hf hq
    go_wp2_with (at_builtin; refine wpList_append_own _ rfl _ _ 50 rfl w.heap.size 9 i0 (.string ⟨#[]⟩) 1 16 Tryz.underlying50 hi hz0 hz1 hz2 rfl (by decide) _ _ _ rfl (hown.alloc _) ⟨wr.heap.size, 0, none⟩ 1 1 [.string (s.extract fr k)] rfl rfl ?c1 ?c2 ?c3 ?c4 ?c5 ?_)
    case c1 => exact Mem.zq5 _ _ _
    case c2 => intro u hu; simp at hu; subst hu; rfl
    case c3 => unfold maxLen; omega
    case c4 => omega
    case c5 => simp; omega
    ·intro v' w2 hown' hgrow _
     have hbel' := Mem.zj6 hbel (Nat.le_refl _) hown hgrow
     have hown2 : w2.ownsRow w.heap.size 9 1 v' (L ++ [s.extract fr k]).length ((L ++ [s.extract fr k]).map Value.string) := by simpa using hown'
     clear hgrow hown hbel hown' t4
     go_wp2
     go_roundw
     case rel => exact ⟨k + 1, k + 1, L ++ [s.extract fr k], by omega, by omega, by simp; omega, by go_num, by go_num, hown2, hbel', H2⟩
     case measure => simp [intOf]; omega
   ·have H2 : Hid (Pl.cut s b = L ++ Pl.cutF s b (s.size - (k + 1)) fr (k + 1)) := by
     show _ = _
     rw [H.out, hf, Pl.yq9 hlt hq]
    have t4 : ((s[k].toNat : Int) == (b : Int)) = false := by rw [beq_eq_false_iff_ne]; omega
    clear H hf hq
    go_wp2
    go_roundw
    case rel => exact ⟨k + 1, fr, L, by omega, by omega, by omega, by go_num, rfl, hown, hbel, H2⟩
    case measure => simp [intOf]; omega
  ·obtain rfl : k = s.size := by omega
   have H2 : Hid (Pl.cut s b = L ++ [s.extract fr s.size]) := by
    show _ = _
    rw [H.out, Nat.sub_self]; rfl
   have t1 : (0 : Int) ≤ (fr : Int) := by omega
   have t2 : (fr : Int) ≤ (s.size : Int) := by omega
   clear H
   go_wp2_with (at_builtin; refine wpList_append_own _ rfl _ _ 50 rfl w.heap.size 9 i0 (.string ⟨#[]⟩) 1 16 Tryz.underlying50 hi hz0 hz1 hz2 rfl (by decide) _ _ _ rfl (hown.alloc _) ⟨wr.heap.size, 0, none⟩ 1 1 [.string (s.extract fr s.size)] rfl rfl ?c1 ?c2 ?c3 ?c4 ?c5 ?_)
   case c1 => exact Mem.zq5 _ _ _
   case c2 => intro u hu; simp at hu; subst hu; rfl
   case c3 => unfold maxLen; omega
   case c4 => omega
   case c5 => simp; omega
   ·intro v' w2 hown' hgrow _
    have hbel' := Mem.zj6 hbel (Nat.le_refl _) hown hgrow
    have hown2 : w2.ownsRow w.heap.size 9 1 v' (Pl.cut s b).length ((Pl.cut s b).map Value.string) := by rw [H2.out]; simpa using hown'
    clear hgrow hown hbel hown'
    go_wp2
    go_ret
    exact ⟨_, rfl, hown2, hbel'⟩
end WSplit
end Go.Proofs.YtfdbokipgofcdaaGreatDoor

namespace Go.Proofs.YtfdbokipgofcdaaGreatDoor
open Go.RowKit
namespace zh5

theorem yp3 (s : ByteArray) (w : World) (hs : s.size ≤ 1048576) :
  Calls Tryz.prog 131 #[.string s] w fun e w' => ∃ v, e = .returned v ∧
   w'.ownsRow w.heap.size 9 1 v (Pl.names s).length ((Pl.names s).map Value.string) ∧ Below w.heap.size w w' := by
 by_cases h0 : s.size = 0
 ·have E : Hid (Pl.names s = []) := if_pos h0
  obtain rfl : s = ⟨#[]⟩ := by apply ByteArray.ext; exact Array.eq_empty_of_size_eq_zero h0
  go_enter Tryz.func131, Tryz.ntmps131
  go_wp2
  go_ret
  refine ⟨_, rfl, ?_, (Below.refl _ _).alloc (Nat.le_refl _) _⟩
  rw [E.out]
  exact World.ownsRow_made _ _ 0 (Nat.le_refl _) (Nat.zero_le _) rfl
 ·have E : Hid (Pl.names s = Pl.cut s 47) := if_neg h0
  have t0 : s.toList.isEmpty = false := by
   rw [List.isEmpty_eq_false_iff, ByteArray.toList_eq]
   intro h
   have h1 : s.data.toList.length = 0 := by rw [h]; rfl
   rw [Array.length_toList] at h1
   exact h0 h1
  go_enter Tryz.func131, Tryz.ntmps131
  go_wp2_with fail
  refine (WSplit.split_any s 47 _ hs).mono ?_
  rintro e w1 ⟨v, rfl, hown, hb⟩
  have HO := hide hown
  clear hown
  go_wp2
  go_ret
  exact ⟨_, rfl, by rw [E.out]; exact za HO, hb⟩

set_option maxRecDepth 100000 in
set_option maxHeartbeats 400000 in
theorem zf4 (s : ByteArray) (w : World) (hs : s.size ≤ maxLen) :
  Calls Tryz.prog 129 #[.string s] w fun e w' => e = .returned (.bool (Pl.za5 s)) ∧ Below w.heap.size w w' := by
 unfold maxLen at hs
 by_cases h2 : 200 < s.size
 ·have E := hide (Pl.yn0 h2)
  go_enter Tryz.func129, Tryz.ntmps129
  go_wp2
  go_ret
  exact ⟨za4 (za E).symm, Below.refl _ _⟩
 have hlen := Pl.yg s
 have HSZ : Hid (∀ (k : Nat) t, (Pl.names s)[k]? = some t → t.size ≤ maxLen) := fun k t ht => by
  have := Pl.names_size ht
  unfold maxLen; omega
 have HBAD : Hid (∀ (k : Nat) t, (Pl.names s)[k]? = some t → Pl.zf5 t = false → Pl.za5 s = false) := fun k t ht hb => Pl.pathB_bad ht hb
 have HGOOD : Hid ((∀ (j : Nat) t, (Pl.names s)[j]? = some t → Pl.zf5 t = true) → Pl.za5 s = decide ((Pl.names s).length ≤ 6)) := fun h => Pl.pathB_good (by omega) h
 have hn := hide (yp3 s w (by omega))
 generalize Pl.names s = L at hn hlen HSZ HBAD HGOOD
 go_enter Tryz.func129, Tryz.ntmps129
 go_wp2_with fail
 refine (za hn).mono ?_
 rintro e w1 ⟨v, rfl, hown, hbel⟩
 rcases hown.2 with ⟨rfl, h0⟩ | ⟨g, cap, cur, rfl, hgb, hg, hcap, hm, hsz, htk⟩
 ·obtain rfl : L = [] := List.eq_nil_of_length_eq_zero h0
  have E := hide (HGOOD.out (fun j t h => by simp at h))
  clear hown hn HGOOD HBAD HSZ
  go_wp2
  go_loop [4] (fun i => i = .int .i64 0) (fun _ => 0)
  case atStart => rfl
  case round =>
   subst hrel
   go_wp2
   go_ret
   exact ⟨za4 (by rw [za E]; rfl), hbel⟩
 ·have hcell : ∀ (k : Nat) t, L[k]? = some t → w1.cell? ⟨g, k, none⟩ = some (.string t) := by
   intro k t ht
   have hk := (List.getElem?_eq_some_iff.1 ht).1
   rw [cell_of_row w1 g k cur 9 (0, 0) hg]
   have h1 : (cur.toList.take (L.length * 1))[k]? = (L.map Value.string)[k]? := by rw [htk]
   rw [List.getElem?_take_of_lt (by omega), List.getElem?_map, ht] at h1
   simpa using h1
  have HC := hide hcell
  clear hcell hown hn hg htk hsz
  have hm2 := hm
  unfold maxLen at hm2
  go_wp2
  go_loop [4] (fun i => ∃ k : Nat, k ≤ L.length ∧ i = .int .i64 (k : Int) ∧ Hid (∀ (j : Nat) t, j < k → L[j]? = some t → Pl.zf5 t = true)) (fun i => L.length - (intOf i).toNat)
  case atStart => exact ⟨0, Nat.zero_le _, rfl, fun j t h => absurd h (by omega)⟩
  case round =>
   obtain ⟨k, hk, rfl, HA⟩ := hrel
   by_cases hlt : k < L.length
   ·obtain ⟨t, ht⟩ : ∃ t, L[k]? = some t := ⟨_, List.getElem?_eq_getElem hlt⟩
    have hc := HC.out k t ht
    have hts := HSZ.out k t ht
    cases hb : Pl.zf5 t
    ·have E := hide (HBAD.out k t ht hb)
     have HB := hide hb
     clear ht hb
     go_wp2_with (go_at_call 150; refine (WName.zd0 t _ hts).mono ?_; rw [za HB]; rintro e w' ⟨rfl, hw⟩; obtain rfl := hw.symm)
     go_ret
     exact ⟨za4 (za E).symm, hbel⟩
    ·have HB := hide hb
     have HA2 : Hid (∀ (j : Nat) t, j < k + 1 → L[j]? = some t → Pl.zf5 t = true) := fun j t' hj h' => by
      rcases Nat.lt_succ_iff_lt_or_eq.1 hj with h'' | rfl
      ·exact HA.out j t' h'' h'
      ·rw [ht] at h'; cases h'; exact hb
     clear ht hb HA
     go_wp2_with (go_at_call 150; refine (WName.zd0 t _ hts).mono ?_; rw [za HB]; rintro e w' ⟨rfl, hw⟩; obtain rfl := hw.symm)
     go_round
     case rel => exact ⟨k + 1, by omega, by go_num, HA2⟩
     case measure => simp [intOf]; omega
   ·have E := hide (HGOOD.out (fun j t h => HA.out j t (by have := (List.getElem?_eq_some_iff.1 h).1; omega) h))
    clear HA
    by_cases h6 : L.length ≤ 6
    ·have t6 : (L.length : Int) ≤ 6 := by omega
     go_wp2
     go_ret
     exact ⟨za4 (by rw [za E]; simp [h6]), hbel⟩
    ·have t6 : ¬ (L.length : Int) ≤ 6 := by omega
     go_wp2
     go_ret
     exact ⟨za4 (by rw [za E]; simp [h6]), hbel⟩
end zh5
end Go.Proofs.YtfdbokipgofcdaaGreatDoor

