/- Several texts of one claim in one file: TakeK, MemVars, Mem, MemNodes, WLawN, WLawT. -/
import Derived.Below
import Derived.WalkKit
import Derived.Deep.RegionHeld3
import Derived.Test.YtlgbdbmikmbioaaGreatDoorG00
import Derived.Laws.IdiomStrings
import Derived.Test.YtlgbdbmikmbioaaGreatDoorProg
import Derived.Outline
namespace Go.Proofs.YtlgbdbmikmbioaaGreatDoor
open Go.RowKit
theorem tka {P : Program} {md : Region.Mode} {ops : Array Oper} {Q : Exit → Act → World → Prop} {S : World → Prop} {i : Nat} {oi : Oper} {v : Value} {fuel : Nat} {listed : Array Bool} {a : Act} {w : World} (hi : ops[i]? = some oi)
  (h : wpAnyH P md ops Q S fuel (listed.setIfInBounds i true) (a.put oi.dst v) w)
  (hs : Region.noSelect ops = true := by kernel_rfl) (hf : Region.free md ops listed i = true := by kernel_rfl) (hr : (Region.ready md ops listed).contains i = true := by kernel_rfl)
  (hw : Region.wanted oi (yielded ops a.tmps) = true := by first | kernel_rfl | rfl)
  (hy : ∀ w, S w → (execOp a.eval oi).run P w = .ok (.value v) w := by (intro w hSw; (try dsimp only at hSw); go_simp; (try with_reducible rfl)))
  (hQ : ∀ c a w, Q (.panic c) (a.put oi.dst v) w → Q (.panic c) a w := by first | exact fun _ _ _ h => h | exact fun _ _ _ h => nomatch h.1) (hS : S w := by assumption) : wpAnyH P md ops Q S (fuel + 1) listed a w :=
 wpAnyH_take hi hs hf hr hQ (Or.inl ⟨hw, hy⟩) hS h
theorem tkc {P : Program} {md : Region.Mode} {ops : Array Oper} {Q : Exit → Act → World → Prop} {S : World → Prop} {i : Nat} {oi : Oper} {fuel : Nat} {listed : Array Bool} {a : Act} {w : World} (hi : ops[i]? = some oi)
  (h : wpAnyH P md ops Q S fuel (listed.setIfInBounds i true) (a.put oi.dst undef) w)
  (hs : Region.noSelect ops = true := by kernel_rfl) (hf : Region.free md ops listed i = true := by kernel_rfl) (hr : (Region.ready md ops listed).contains i = true := by kernel_rfl)
  (hw : Region.wanted oi (yielded ops a.tmps) = false := by first | kernel_rfl | rfl)
  (hQ : ∀ c a w, Q (.panic c) (a.put oi.dst undef) w → Q (.panic c) a w := by first | exact fun _ _ _ h => h | exact fun _ _ _ h => nomatch h.1) (hS : S w := by assumption) : wpAnyH P md ops Q S (fuel + 1) listed a w :=
 wpAnyH_take hi hs hf hr hQ (Or.inr ⟨hw, rfl⟩) hS h
theorem kBs {α : Type} : (∀ (xs : List α) (i : Nat) (h : i < xs.toArray.size), xs.toArray[i] = xs[i]'(by simpa using h)) ∧ (∀ (a : α) (as' : List α) (h : 0 < (a :: as').length), (a :: as')[0] = a) ∧ (∀ (a : α) (as' : List α) (i : Nat) (h : i + 1 < (a :: as').length), (a :: as')[i + 1] = as'[i]'(by simpa using h)) ∧
  (∀ (l : List α) (i : Nat) (a : α), l.toArray.setIfInBounds i a = (l.set i a).toArray) ∧ (∀ (x a : α) (xs : List α), (x :: xs).set 0 a = a :: xs) ∧ (∀ (x a : α) (xs : List α) (n : Nat), (x :: xs).set (n + 1) a = x :: xs.set n a) :=
 ⟨fun _ _ _ => rfl, fun _ _ _ => rfl, fun _ _ _ _ => rfl, fun _ _ _ => List.setIfInBounds_toArray .., fun _ _ _ => rfl, fun _ _ _ _ => rfl⟩
theorem kGs {α : Type} : (∀ (l : List α) (i : Nat), l.toArray[i]? = l[i]?) ∧ (∀ (a : α) (l : List α), (a :: l)[0]? = some a) ∧ (∀ (a : α) (l : List α) (i : Nat), (a :: l)[i + 1]? = l[i]?) :=
 ⟨fun _ _ => List.getElem?_toArray .., fun _ _ => List.getElem?_cons_zero .., fun _ _ _ => List.getElem?_cons_succ ..⟩
end Go.Proofs.YtlgbdbmikmbioaaGreatDoor

namespace Go.Proofs.YtlgbdbmikmbioaaGreatDoor
open Go.RowKit
namespace Mem
def Var (w : World) (B : Nat) (cs : List Value) : Prop := B < w.heap.size ∧ ∀ (j : Nat) v, cs[j]? = some v → w.cell? ⟨B, j, none⟩ = some v
theorem zf0 {w w' : World} {B : Nat} {cs : List Value} (h : Var w B cs) (b : Below w.heap.size w w') : Var w' B cs :=
 ⟨Nat.lt_of_lt_of_le h.1 b.size, fun j v hv => (b.cell (p := ⟨B, j, none⟩) h.1).trans (h.2 j v hv)⟩
theorem zc3 (w : World) (cs : List Value) (T : TypeId) : Var (w.alloc (.cells cs.toArray T)) w.heap.size cs :=
 ⟨by simp, fun j v hv => by rw [cell_of_row _ _ j _ T (0, 0) (heap_alloc_new w _)]; simpa using hv⟩
theorem zu6 {w : World} {B : Nat} {cs : List Value} (h : Var w B cs) (o : Obj) : Var (w.alloc o) B cs :=
 zf0 h ((Below.refl _ _).alloc (Nat.le_refl _) o)
theorem zj9 (w : World) (o1 o2 : Obj) : ((w.alloc o1).alloc o2).heap[w.heap.size + 1]? = some o2 := by
 have h := heap_alloc_new (w.alloc o1) o2
 rwa [show (w.alloc o1).heap.size = w.heap.size + 1 by simp] at h
theorem zp7 (w : World) (o1 o2 o3 : Obj) : (((w.alloc o1).alloc o2).alloc o3).heap[w.heap.size + 1]? = some o2 :=
 ((World.grownBy_alloc ((w.alloc o1).alloc o2) o3 none).block (w.heap.size + 1) (by simp) (by simp)).trans (zj9 w o1 o2)
theorem zm0 (w : World) (o1 o2 o3 : Obj) : (((w.alloc o1).alloc o2).alloc o3).heap[w.heap.size + 1 + 1]? = some o3 := by
 have h := heap_alloc_new ((w.alloc o1).alloc o2) o3
 rwa [show ((w.alloc o1).alloc o2).heap.size = w.heap.size + 1 + 1 by simp] at h
end Mem
end Go.Proofs.YtlgbdbmikmbioaaGreatDoor

namespace Go.Proofs.YtlgbdbmikmbioaaGreatDoor
open Go.RowKit
namespace Mem
theorem add_lit (b j : Nat) : (⟨b, 0, none⟩ : Addr).add j = ⟨b, j, none⟩ := by unfold Addr.add; split <;> simp_all

theorem row_text {P : Program} {src dst e : TypeId} (hs : P.underlying src = some (.slice e)) (he : P.underlying e = some (.int .u8)) (hd : P.underlying dst = some .string)
  {w : World} {g n cap : Nat} {cur : Array Value} {t : TypeId} (l : List UInt8) (hn : l.length = n) (hg : w.heap[g]? = some (.cells cur t (0, 0))) (ht : cur.toList.take n = l.map Pl.zc0) :
  (convert src dst (.slice (some ⟨g, 0, none⟩) n cap)).run P w = .ok (.string ⟨l.toArray⟩) w := by
 subst hn
 refine run_convert_bytes_back w src dst e ⟨g, 0, none⟩ cap l hs he hd (fun j hj => ?_)
 rw [add_lit, cell_of_row w g j cur t (0, 0) hg]
 have h1 : (cur.toList.take l.length)[j]? = (l.map Pl.zc0)[j]? := by rw [ht]
 rw [List.getElem?_take_of_lt (by omega)] at h1
 simpa [Pl.zc0, hj] using h1

theorem ze8 {B : Nat} {a w w1 : World} {o : Obj} {e : TypeId} {size n : Nat} {v : Value} {xs : List Value} (h : Below B a w) (hB : B ≤ a.heap.size) (hown : w.ownsRow B e size v n xs) (hg : (w.alloc o).grownBy w1 v.ownBlock) : Below B a w1 :=
 have hs := h.size
 (h.alloc (by omega) o).grown hg (by simp; omega) (fun k hk => (hown.lt k hk).1)

theorem zl2 (w : World) (v : Value) (e : TypeId) : ∀ j u, [v][j]? = some u → (w.alloc (.cells #[v] e)).cell? ((⟨w.heap.size, 0, none⟩ : Addr).add j) = some u := by
 intro j u hj
 match j, hj with
 | 0, hj => simp at hj; subst hj; rw [add_lit]; simp
 | j + 1, hj => simp at hj
theorem za6 {w : World} {g j : Nat} {cur : Array Value} {t : TypeId} (hg : w.heap[g]? = some (.cells cur t (0, 0))) : w.frozen? ⟨g, j, none⟩ = false := by
 simp [World.frozen?, hg]
def zeros (n : Nat) : Array Value := madeCells (Value.int .u8 0).cells n
theorem zeros_size (n : Nat) : (zeros n).size = n := size_madeCells _ _
theorem make_bytes {P : Program} {T E : TypeId} (ht : P.underlying T = some (.slice E)) (hi : (P.info? E).map (fun i => (i.zero, i.size, i.bytes)) = some (some (.int .u8 0), 1, 1)) (n : Nat) (hn : n ≤ 1000000000) (w : World) :
  (Instr.makeSlice T (.int .i64 (n : Int)) (.int .i64 (n : Int))).run P w = .ok (.slice (some ⟨w.heap.size, 0, none⟩) n n) (w.alloc (.cells (zeros n) E)) := by
 obtain ⟨i0, h0, h1, h2, h3⟩ := info_parts hi
 have h := run_make (P := P) w T E i0 (.int .u8 0) ht h0 h1 .i64 .i64 (n : Int) (n : Int) (by omega) (Int.le_refl _) (by rw [h3]; omega) (by omega)
 rw [h, h2]
 simp [zeros]

theorem bytes_one (l : List UInt8) : ∀ v ∈ l.map Pl.zc0, v.oneCell' = true := by
 intro v hv
 obtain ⟨b, _, rfl⟩ := List.mem_map.1 hv
 rfl
theorem copy_on {P : Program} {dT sT E : TypeId} (hu : P.underlying dT = some (.slice E)) (hz : ∀ w, (sizeOf E).run P w = .ok 1 w) (w : World) (B p N : Nat) (cur : Array Value)
  (hB : w.heap[B]? = some (.cells cur E (0, 0))) (hc : cur.size = N) (t : ByteArray) (hfit : p + t.size ≤ N) :
  ∃ D w', (∀ wx, (Instr.slice dT (.slice (some ⟨B, 0, none⟩) N N) (some (.int .i64 (p : Int))) none none).run P wx = .ok D wx) ∧
   (∀ ty, (Builtin.copy_ #[dT, sT] ty #[D, .string t]).run P w = .ok (.int .i64 (t.size : Int)) w') ∧
   w'.heap[B]? = some (.cells (cur.toList.take p ++ t.data.toList.map Pl.zc0 ++ cur.toList.drop (p + t.size)).toArray E (0, 0)) ∧ Below B w w' := by
 have ht : P.underlying dT = some (.slice (P.elem dT)) := by simp [Program.elem, hu]
 have he : P.elem dT = E := by simp [Program.elem, hu]
 have hsl : ∀ wx, (Instr.slice dT (.slice (some ⟨B, 0, none⟩) N N) (some (.int .i64 (p : Int))) none none).run P wx = .ok (sliced (some ⟨B, 0, none⟩) p N N 1) wx := by
  intro wx
  have h := run_slice_l (P := P) wx dT (some ⟨B, 0, none⟩) N N ht .i64 (p : Int) (by omega) (by omega)
  rw [h, he, hz]
  rfl
 by_cases hp : p = N
 ·subst hp
  have h0 : t.size = 0 := by omega
  have hd : t.data = #[] := Array.eq_empty_of_size_eq_zero h0
  refine ⟨.slice (some ⟨B, 0, none⟩) 0 0, w, ?_, ?_, ?_, Below.refl _ _⟩
  ·intro wx; rw [hsl]; simp [sliced]
  ·intro ty
   simp [Builtin.copy_, run_underlying hu, Builtin.lenOf, Builtin.firstCells, hz, h0, goInt, storeCells]
  ·rw [hB, h0, hd]; simp
 ·have hlt : p < N := by omega
  have hlen : (t.data.toList.map Pl.zc0).length = t.size := by rw [List.length_map]; rfl
  have hst := run_storeCells_at P B p E (t.data.toList.map Pl.zc0) 0 cur w hB (by rw [hlen]; omega) (bytes_one _)
  rw [hlen] at hst
  simp only [Nat.add_zero] at hst
  refine ⟨.slice (some ⟨B, p, none⟩) (N - p) (N - p), _, ?_, ?_, setRow_heap w B cur _ E _ hB, ?_⟩
  ·intro wx
   rw [hsl]
   have h1 : ¬ N = p := fun h => hp h.symm
   simp [sliced, h1, add_lit]
  ·intro ty
   have hmin : Nat.min t.size (N - p) = t.size := Nat.min_eq_left (by omega)
   have htk : List.take t.size (List.map (fun b : UInt8 => Value.int IntKind.u8 (b.toNat : Int)) t.data.toList) = t.data.toList.map Pl.zc0 := by
    rw [List.take_of_length_le (by rw [List.length_map]; exact Nat.le_refl _)]; rfl
   simp [Builtin.copy_, run_underlying hu, Builtin.lenOf, Builtin.firstCells, hz, hmin]
   rw [htk, hst, List.append_assoc]
   rfl
  ·exact ⟨rfl, rfl, rfl, by simp, fun k hk => setRow_other w B k _ (by omega)⟩
theorem own_mono {w : World} {B B' e size n : Nat} {v : Value} {xs : List Value} (h : w.ownsRow B e size v n xs) (hb : B' ≤ B) : w.ownsRow B' e size v n xs := by
 refine ⟨h.1, ?_⟩
 rcases h.2 with h0 | ⟨g, cap, cur, hv, hg, rest⟩
 ·exact .inl h0
 ·exact .inr ⟨g, cap, cur, hv, Nat.le_trans hb hg, rest⟩
theorem zd4 {w : World} {B e size n : Nat} {v : Value} {xs : List Value} (h : w.ownsRow B e size v n xs) : ∃ a cap, v = .slice a n cap := by
 rcases h.2 with ⟨rfl, rfl⟩ | ⟨g, cap, cur, rfl, _⟩
 ·exact ⟨_, _, rfl⟩
 ·exact ⟨_, _, rfl⟩
end Mem
end Go.Proofs.YtlgbdbmikmbioaaGreatDoor

namespace Go.Proofs.YtlgbdbmikmbioaaGreatDoor
open Go.RowKit
namespace Mem
def za3 (w : World) (a : Option Addr) (L : List Pl.Nd) : Prop :=
 ∀ (i : Nat) n, L[i]? = some n → ∃ b o, a = some ⟨b, o, none⟩ ∧ b < w.heap.size ∧
  w.cell? ⟨b, o + i * 5, none⟩ = some (.string n.path) ∧ w.cell? ⟨b, o + i * 5 + 1, none⟩ = some (.int .i64 n.kind) ∧ w.cell? ⟨b, o + i * 5 + 2, none⟩ = some (.string n.data) ∧
  w.cell? ⟨b, o + i * 5 + 3, none⟩ = some (.int .i64 n.time) ∧ w.cell? ⟨b, o + i * 5 + 4, none⟩ = some (.int .i64 n.mark)
theorem za4 {w w' : World} {a : Option Addr} {L : List Pl.Nd} (h : za3 w a L) (b : Below w.heap.size w w') : za3 w' a L := fun i n hi => by
 obtain ⟨g, o, h1, h2, h3, h4, h5, h6, h7⟩ := h i n hi
 exact ⟨g, o, h1, Nat.lt_of_lt_of_le h2 b.size, (b.cell (p := ⟨g, _, none⟩) h2).trans h3, (b.cell (p := ⟨g, _, none⟩) h2).trans h4, (b.cell (p := ⟨g, _, none⟩) h2).trans h5, (b.cell (p := ⟨g, _, none⟩) h2).trans h6, (b.cell (p := ⟨g, _, none⟩) h2).trans h7⟩
theorem zn8 (b o j : Nat) : (⟨b, o, none⟩ : Addr).add j = ⟨b, o + j, none⟩ := by unfold Addr.add; split <;> simp_all
theorem zt4 (w : World) (a : Option Addr) : za3 w a [] := fun i n hi => by simp at hi
end Mem
end Go.Proofs.YtlgbdbmikmbioaaGreatDoor

namespace Go.Proofs.YtlgbdbmikmbioaaGreatDoor
open Go.RowKit
namespace WLaw
set_option maxRecDepth 100000 in
theorem szNode_any (n : Pl.Nd) (left : Int) (w : World) (hp : n.path.size ≤ maxLen) (hd : n.data.size ≤ maxLen) (h0 : 0 ≤ left) (h1 : left ≤ 1048576) :
  Calls Tryz.prog 116 #[n.val, .int .i64 left] w fun e w' => (∃ r : Int, e = .returned (.int .i64 r) ∧ (r = -1 ∨ 0 ≤ r ∧ r + n.path.size + n.data.size = left)) ∧ Below w.heap.size w w' := by
 obtain ⟨p, k, d, t, m⟩ := n
 simp only at hp hd
 unfold maxLen at hp hd
 simp only [Pl.Nd.val]
 have hb : ∀ o, Below w.heap.size w (w.alloc o) := fun o => (Below.refl _ _).alloc (Nat.le_refl _) o
 have HB := hide hb
 clear hb
 by_cases h2 : left < (p.size : Int)
 ·have t2 : left - (p.size : Int) < 0 := by omega
  go_enter Tryz.func116, Tryz.ntmps116
  go_wp2
  go_ret
  exact ⟨⟨-1, rfl, .inl rfl⟩, za HB _⟩
 have t2 : ¬ left - (p.size : Int) < 0 := by omega
 by_cases h3 : left < (p.size : Int) + (d.size : Int)
 ·have t3 : left - (p.size : Int) - (d.size : Int) < 0 := by omega
  go_enter Tryz.func116, Tryz.ntmps116
  go_wp2
  go_ret
  exact ⟨⟨-1, rfl, .inl rfl⟩, za HB _⟩
 ·have t3 : ¬ left - (p.size : Int) - (d.size : Int) < 0 := by omega
  go_enter Tryz.func116, Tryz.ntmps116
  go_wp2
  go_ret
  exact ⟨⟨_, rfl, .inr ⟨by omega, by omega⟩⟩, za HB _⟩
set_option maxRecDepth 100000 in
theorem toNode_any (n : Pl.Nd) (w : World) :
  Calls Tryz.prog 118 #[n.val] w fun e w' => e = .returned n.val ∧ Below w.heap.size w w' := by
 obtain ⟨p, k, d, t, m⟩ := n
 simp only [Pl.Nd.val]
 go_enter Tryz.func118, Tryz.ntmps118
 go_wp2
 refine bodyPost_ret (v := .agg #[.string p, .int .i64 k, .string d, .int .i64 t, .int .i64 m]) (by simp [results, Tryz.results118, go_sem]) rfl ⟨rfl, ?_⟩
 exact (((Below.refl _ _).alloc (Nat.le_refl _) _).alloc (by simp) _).alloc (by simp; omega) _
end WLaw
end Go.Proofs.YtlgbdbmikmbioaaGreatDoor

namespace Go.Proofs.YtlgbdbmikmbioaaGreatDoor
open Go.RowKit
namespace WLaw
def zeroCells (n : Nat) : Array Value := madeCells (Value.agg #[.string ⟨#[]⟩, .int .i64 0, .string ⟨#[]⟩, .int .i64 0, .int .i64 0]).cells (n * 5)
theorem zero_size (n : Nat) : (zeroCells n).size = n * 5 := size_madeCells _ _
theorem infoN : (Tryz.prog.info? 134).map (fun i => (i.zero, i.size, i.bytes)) = some (some (.agg #[.string ⟨#[]⟩, .int .i64 0, .string ⟨#[]⟩, .int .i64 0, .int .i64 0]), 5, 56) := by kernel_rfl
theorem makeN (n : Nat) (hn : n ≤ 1048576) (w : World) : (Instr.makeSlice 67 (.int .i64 (n : Int)) (.int .i64 (n : Int))).run Tryz.prog w = .ok (.slice (some ⟨w.heap.size, 0, none⟩) n n) (w.alloc (.cells (zeroCells n) 134)) := by
 obtain ⟨i0, h0, h1, h2, h3⟩ := info_parts infoN
 have h := run_make (P := Tryz.prog) w 67 134 i0 (.agg #[.string ⟨#[]⟩, .int .i64 0, .string ⟨#[]⟩, .int .i64 0, .int .i64 0]) Tryz.underlying67 h0 h1 .i64 .i64 (n : Int) (n : Int) (by omega) (Int.le_refl _) (by rw [h3]; omega) (by omega)
 rw [h, h2]
 simp [zeroCells]
set_option maxRecDepth 100000 in
set_option maxHeartbeats 400000 in
theorem toNodeS_row (a : Option Addr) (cap : Nat) (L : List Pl.Nd) (w : World) (hl : L.length ≤ 1048576) (hv : Mem.za3 w a L) :
  Calls Tryz.prog 95 #[.slice a L.length cap] w fun e w' => e = .returned (.slice (some ⟨w.heap.size, 0, none⟩) L.length L.length) ∧ (∃ cur, w'.heap[w.heap.size]? = some (.cells cur 134 (0, 0)) ∧ cur.size = L.length * 5) ∧ Mem.za3 w' (some ⟨w.heap.size, 0, none⟩) L ∧ Below w.heap.size w w' := by
 have HV := hide hv
 have hmk := makeN L.length hl w
 clear hv
 go_enter Tryz.func95, Tryz.ntmps95
 go_wp2
 go_loopw [4] (fun i wr => ∃ (k : Nat) (cur : Array Value), k ≤ L.length ∧ i = .int .i64 (k : Int) ∧ Below w.heap.size w wr ∧ Hid (wr.heap[w.heap.size]? = some (.cells cur 134 (0, 0))) ∧ Hid (cur.size = L.length * 5) ∧ Hid (∀ (j : Nat) n, j < k → L[j]? = some n → cur[j * 5]? = some (.string n.path) ∧ cur[j * 5 + 1]? = some (.int .i64 n.kind) ∧ cur[j * 5 + 2]? = some (.string n.data) ∧ cur[j * 5 + 3]? = some (.int .i64 n.time) ∧ cur[j * 5 + 4]? = some (.int .i64 n.mark))) (fun i _ => L.length - (intOf i).toNat)
 case atStart => exact ⟨0, zeroCells L.length, Nat.zero_le _, rfl, (Below.refl _ _).alloc (Nat.le_refl _) _, hide (heap_alloc_new w _), hide (zero_size _), fun j n h => absurd h (by omega)⟩
 case round =>
  obtain ⟨k, cur, hk, rfl, hbel, HB, HZ, HA⟩ := hrel
  by_cases hlt : k < L.length
  ·obtain ⟨n, hn⟩ : ∃ n, L[k]? = some n := ⟨_, List.getElem?_eq_getElem hlt⟩
   obtain ⟨b, o, rfl, hb, q0, q1, q2, q3, q4⟩ := (za HV) k n hn
   have c0 := (hbel.cell (p := ⟨b, _, none⟩) hb).trans q0
   have c1 := (hbel.cell (p := ⟨b, _, none⟩) hb).trans q1
   have c2 := (hbel.cell (p := ⟨b, _, none⟩) hb).trans q2
   have c3 := (hbel.cell (p := ⟨b, _, none⟩) hb).trans q3
   have c4 := (hbel.cell (p := ⟨b, _, none⟩) hb).trans q4
   have hz := hide (fun W => toNode_any n W)
   have HN := hide hn
   have u1 : (k : Int) < (L.length : Int) := by omega
   have u3 : (0 : Int) ≤ (k : Int) := by omega
   clear q0 q1 q2 q3 q4 hn
   simp only [Pl.Nd.val] at hz
   go_wp2_with fail
   refine (za hz _).mono ?_
   rintro e w1 ⟨rfl, b1⟩
   have hN : w.heap.size < wr.heap.size := (Array.getElem?_eq_some_iff.1 (za HB)).1
   have HB1 := hide ((b1.block _ hN).trans (za HB))
   have hb2 := hide (hbel.trans (b1.mono hbel.size))
   have hcz := za HZ
   have s0 : ∃ x, w1.cell? ⟨w.heap.size, k * 5, none⟩ = some x := ⟨_, (cell_of_row w1 _ (k * 5) _ _ (0, 0) (za HB1)).trans (Array.getElem?_eq_getElem (by omega))⟩
   have s1 : ∃ x, w1.cell? ⟨w.heap.size, k * 5 + 1, none⟩ = some x := ⟨_, (cell_of_row w1 _ (k * 5 + 1) _ _ (0, 0) (za HB1)).trans (Array.getElem?_eq_getElem (by omega))⟩
   have s2 : ∃ x, w1.cell? ⟨w.heap.size, k * 5 + 2, none⟩ = some x := ⟨_, (cell_of_row w1 _ (k * 5 + 2) _ _ (0, 0) (za HB1)).trans (Array.getElem?_eq_getElem (by omega))⟩
   have s3 : ∃ x, w1.cell? ⟨w.heap.size, k * 5 + 3, none⟩ = some x := ⟨_, (cell_of_row w1 _ (k * 5 + 3) _ _ (0, 0) (za HB1)).trans (Array.getElem?_eq_getElem (by omega))⟩
   have s4 : ∃ x, w1.cell? ⟨w.heap.size, k * 5 + 4, none⟩ = some x := ⟨_, (cell_of_row w1 _ (k * 5 + 4) _ _ (0, 0) (za HB1)).trans (Array.getElem?_eq_getElem (by omega))⟩
   obtain ⟨x0, s0⟩ := s0
   obtain ⟨x1, s1⟩ := s1
   obtain ⟨x2, s2⟩ := s2
   obtain ⟨x3, s3⟩ := s3
   obtain ⟨x4, s4⟩ := s4
   have f0 : ∀ j, w1.frozen? ⟨w.heap.size, j, none⟩ = false := fun j => Mem.za6 (za HB1)
   have HC := hide hcz
   clear b1 hbel hz hcz HB
   go_wp2
   go_roundw
   case rel =>
    refine ⟨k + 1, _, by omega, by go_num, ?_, hide (heap_setCell_same _ _ (k * 5 + 4) _ _ _ (heap_setCell_same _ _ (k * 5 + 3) _ _ _ (heap_setCell_same _ _ (k * 5 + 2) _ _ _ (heap_setCell_same _ _ (k * 5 + 1) _ _ _ (heap_setCell_same _ _ (k * 5) _ _ _ (za HB1)))))), ?_, ?_⟩
    ·exact (((((za hb2).setCell (Nat.le_refl _) _).setCell (Nat.le_refl _) _).setCell (Nat.le_refl _) _).setCell (Nat.le_refl _) _).setCell (Nat.le_refl _) _
    ·exact hide (by simpa using za HC)
    ·intro j m hj hm
     have hjl := (List.getElem?_eq_some_iff.1 hm).1
     rcases Nat.lt_succ_iff_lt_or_eq.1 hj with h'' | rfl
     ·obtain ⟨i0, i1, i2, i3, i4⟩ := HA.out j m h'' hm
      simp only [Array.getElem?_setIfInBounds]
      refine ⟨?_, ?_, ?_, ?_, ?_⟩ <;> (repeat (rw [if_neg (by omega)])) <;> assumption
     ·rw [za HN] at hm
      cases hm
      have hcz := za HC
      simp only [Array.getElem?_setIfInBounds, Array.size_setIfInBounds]
      refine ⟨?_, ?_, ?_, ?_, ?_⟩ <;> simp <;> omega
   case measure => simp [intOf]; omega
  ·have u1 : ¬ (k : Int) < (L.length : Int) := by omega
   go_wp2
   go_ret
   refine ⟨rfl, ⟨cur, za HB, za HZ⟩, fun j n hj => ?_, hbel⟩
   obtain ⟨i0, i1, i2, i3, i4⟩ := HA.out j n (by have := (List.getElem?_eq_some_iff.1 hj).1; omega) hj
   refine ⟨_, 0, rfl, (Array.getElem?_eq_some_iff.1 (za HB)).1, ?_, ?_, ?_, ?_, ?_⟩
   ·rw [cell_of_row wr _ _ _ _ (0, 0) (za HB), Nat.zero_add]; exact i0
   ·rw [cell_of_row wr _ _ _ _ (0, 0) (za HB), Nat.zero_add]; exact i1
   ·rw [cell_of_row wr _ _ _ _ (0, 0) (za HB), Nat.zero_add]; exact i2
   ·rw [cell_of_row wr _ _ _ _ (0, 0) (za HB), Nat.zero_add]; exact i3
   ·rw [cell_of_row wr _ _ _ _ (0, 0) (za HB), Nat.zero_add]; exact i4
end WLaw
end Go.Proofs.YtlgbdbmikmbioaaGreatDoor

