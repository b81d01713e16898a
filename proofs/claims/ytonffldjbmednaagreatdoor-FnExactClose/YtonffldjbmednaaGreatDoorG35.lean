/- Several texts of one claim in one file: WSpI14, MemDel, WIdx, WSpI15, MapDel, WSpI17. -/
import Derived.Test.YtonffldjbmednaaGreatDoorG08
import Derived.Test.YtonffldjbmednaaGreatDoorG12
import Derived.Test.YtonffldjbmednaaGreatDoorG34
import Derived.Test.YtonffldjbmednaaGreatDoorG11
import Derived.Test.YtonffldjbmednaaGreatDoorG32
import Derived.Laws.CopyRow
import Derived.Test.YtonffldjbmednaaGreatDoorG17
import Derived.Test.YtonffldjbmednaaGreatDoorG01
import Derived.Test.YtonffldjbmednaaGreatDoorG03
import Derived.Maps.Ext
import Derived.Maps.Keyed
import Derived.ChangeMaps
set_option linter.unusedSimpArgs false
namespace Go.Proofs.YtonffldjbmednaaGreatDoor
open Go.RowKit
namespace WSpI
set_option maxRecDepth 100000 in
set_option maxHeartbeats 800000 in
theorem zz9 (K : FuncId) (c : Value) (f : Pl.Hn → Bool) (a : Option Addr) (cap : Nat) (M : List Pl.Hn) (w : World) (hl : M.length ≤ 1048576) (hv : Mem.zb9 w a M)
  (hE : ∀ (t : Pl.Hn) W, (callFunc K #[.agg #[.int .i64 t.d, .int .i64 t.i, .string t.p], c]).run Tryz.prog W = .ok (.enter K #[.agg #[.int .i64 t.d, .int .i64 t.i, .string t.p], c]) W)
  (hK : ∀ t ∈ M, ∀ W, Below w.heap.size w W → Calls Tryz.prog K #[.agg #[.int .i64 t.d, .int .i64 t.i, .string t.p], c] W fun e w' => e = .returned (.bool (f t)) ∧ Below W.heap.size W w') :
  Calls Tryz.prog 97 #[.slice a M.length cap, .func (.func K) #[] #[c]] w fun e w' => e = .returned (.int .i64 (Pl.idxF f M)) ∧ Below w.heap.size w w' := by
 have HX := hide hv
 have HK := hide hK
 have HAT := hide (fun (k : Nat) (x : Pl.Hn) => Pl.idx_at (f := f) (l := M) (k := k) (x := x))
 have HNO := hide (Pl.idx_no (f := f) (l := M))
 generalize Pl.idxF f M = R at HAT HNO ⊢
 clear hv hK
 go_enter Tryz.func97, Tryz.ntmps97
 go_wp2
 go_loopw [8] (fun i wr => ∃ k : Nat, k ≤ M.length ∧ i = .int .i64 (k : Int) ∧ Below w.heap.size w wr ∧ Hid (∀ (j : Nat) y, j < k → M[j]? = some y → f y = false)) (fun i _ => M.length - (intOf i).toNat)
 case atStart => exact ⟨0, Nat.zero_le _, rfl, Below.refl _ _, fun j y h => absurd h (by omega)⟩
 case round =>
  obtain ⟨k, hk, rfl, hbel, HA⟩ := hrel
  by_cases hlt : k < M.length
  ·obtain ⟨t, ht⟩ : ∃ n, M[k]? = some n := ⟨_, List.getElem?_eq_getElem hlt⟩
   obtain ⟨g, o, rfl, hg, q0, q1, q2⟩ := (za HX) k t ht
   have c0 := (hbel.cell (p := ⟨g, _, none⟩) hg).trans q0
   have c1 := (hbel.cell (p := ⟨g, _, none⟩) hg).trans q1
   have c2 := (hbel.cell (p := ⟨g, _, none⟩) hg).trans q2
   have u1 : (k : Int) < (M.length : Int) := by omega
   have u3 : (0 : Int) ≤ (k : Int) := by omega
   have hc := hide (za HK t (List.mem_of_getElem? ht) wr hbel)
   have HT := hide ht
   have hE1 := hE t
   clear q0 q1 q2 ht
   go_wp2_with fail
   refine (za hc).mono ?_
   rintro e w1 ⟨rfl, bX⟩
   have b1 := hbel.trans (bX.mono hbel.size)
   cases hf : f t
   ·have HA2 : Hid (∀ (j : Nat) y, j < k + 1 → M[j]? = some y → f y = false) := fun j y hj hy => by
     rcases Nat.lt_succ_iff_lt_or_eq.1 hj with h | h
     ·exact za HA j y h hy
     ·subst h; rw [za HT] at hy; cases hy; exact hf
    go_wp2
    go_roundw
    case rel => exact ⟨k + 1, by omega, by go_num, b1, HA2⟩
    case measure => simp [intOf]; omega
   ·have e0 := hide (za HAT k t (za HT) hf (za HA))
    go_wp2
    go_ret
    exact ⟨by rw [za e0]; rfl, b1⟩
  ·have u1 : ¬ (k : Int) < (M.length : Int) := by omega
   have e0 := hide (za HNO (fun j y hy => za HA j y (by have := (List.getElem?_eq_some_iff.1 hy).1; omega) hy))
   go_wp2
   go_ret
   exact ⟨by rw [za e0]; rfl, hbel⟩
theorem handI_idx (H : List Pl.Hn) (d : Int) : Pl.idxF (fun h => decide (h.d = d)) H = Pl.zd3 H d := by
 induction H with
 | nil => rfl
 | cons h r ih =>
  rw [Pl.idxF, Pl.zd3, ih]
  by_cases e : h.d = d
  ·rw [if_pos (by simp [e]), if_pos e]
  ·rw [if_neg (by simp [e]), if_neg e]
set_option maxRecDepth 100000 in
set_option maxHeartbeats 800000 in
theorem handle1_any (t : Pl.Hn) (d : Int) (X : Nat) (w : World) (hX : Mem.Blk w X #[.int .i64 d] 2) :
  Calls Tryz.prog 98 #[.agg #[.int .i64 t.d, .int .i64 t.i, .string t.p], .pointer (some ⟨X, 0, none⟩)] w fun e w' => e = .returned (.bool (decide (t.d = d))) ∧ Below w.heap.size w w' := by
 have b0 := (Below.refl w.heap.size w).alloc (o := .cells #[.int .i64 t.d, .int .i64 t.i, .string t.p] 87) (Nat.le_refl _)
 have a0 := (Mem.Blk.new w #[.int .i64 t.d, .int .i64 t.i, .string t.p] 87).cell 0
 have y0 := (hX.alloc (.cells #[.int .i64 t.d, .int .i64 t.i, .string t.p] 87)).cell 0
 simp only [kGs] at a0 y0
 clear hX
 by_cases h : t.d = d
 ·have h1 : (t.d == d) = true := by simpa using h
  rw [decide_eq_true h]
  clear h
  go_enter Tryz.func98, Tryz.ntmps98
  go_wp2
  go_ret
  exact ⟨rfl, b0⟩
 ·have h1 : (t.d == d) = false := by simpa using h
  rw [decide_eq_false h]
  clear h
  go_enter Tryz.func98, Tryz.ntmps98
  go_wp2
  go_ret
  exact ⟨rfl, b0⟩
set_option maxRecDepth 100000 in
set_option maxHeartbeats 1000000 in
theorem handle_any (q : Nat) (ma : Option Addr) (ml mc : Nat) (ha : Option Addr) (hc : Nat) (H : List Pl.Hn) (next d : Int) (w : World) (hl : H.length ≤ 1048576) (hm : Mem.zb9 w ha H) :
  Calls Tryz.prog 53 #[.agg #[.map (some q), .slice ma ml mc, .slice ha H.length hc, .int .i64 next], .int .i64 d] w fun e w' => (∃ x y z, e = .returned (.tuple #[.agg #[.int .i64 x, .int .i64 y, .string z], .bool (!decide (Pl.zd3 H d < 0))])) ∧ Below w.heap.size w w' := by
 have hmf : ∀ (fn : Fn) (first cap : Array Value) (w : World), (Instr.makeFunc fn first cap).run Tryz.prog w = .ok (.func fn first cap) w := fun _ _ _ _ => rfl
 have b0 : Below w.heap.size w (((w.alloc (.cells #[.map (some q), .slice ma ml mc, .slice ha H.length hc, .int .i64 next] 59)).alloc (.cells #[.int .i64 d] 2)).alloc (.cells #[.int .i64 0, .int .i64 0, .string ⟨#[]⟩] 87)) := (((Below.refl _ _).alloc (Nat.le_refl _) _).alloc (by simp) _).alloc (by simp; omega) _
 have V := ((Mem.Blk.new w #[.map (some q), .slice ma ml mc, .slice ha H.length hc, .int .i64 next] 59).alloc (.cells #[.int .i64 d] 2)).alloc (.cells #[.int .i64 0, .int .i64 0, .string ⟨#[]⟩] 87)
 have X := (Mem.Blk.new (w.alloc (.cells #[.map (some q), .slice ma ml mc, .slice ha H.length hc, .int .i64 next] 59)) #[.int .i64 d] 2).alloc (.cells #[.int .i64 0, .int .i64 0, .string ⟨#[]⟩] 87)
 have Y := Mem.Blk.new ((w.alloc (.cells #[.map (some q), .slice ma ml mc, .slice ha H.length hc, .int .i64 next] 59)).alloc (.cells #[.int .i64 d] 2)) #[.int .i64 0, .int .i64 0, .string ⟨#[]⟩] 87
 rw [show (w.alloc (.cells #[.map (some q), .slice ma ml mc, .slice ha H.length hc, .int .i64 next] 59)).heap.size = w.heap.size + 1 by simp] at X
 rw [show ((w.alloc (.cells #[.map (some q), .slice ma ml mc, .slice ha H.length hc, .int .i64 next] 59)).alloc (.cells #[.int .i64 d] 2)).heap.size = w.heap.size + 2 by simp] at Y
 have hcon := hide (zz9 98 (.pointer (some ⟨w.heap.size + 1, 0, none⟩)) (fun h => decide (h.d = d)) ha hc H _ hl (Mem.zc6 hm b0) (fun t W => by kernel_rfl) (fun t _ W b => handle1_any t d (w.heap.size + 1) W (X.call b)))
 rw [handI_idx] at hcon
 have a2 := V.cell 2
 simp only [kGs] at a2
 have HM := hide (Mem.zc6 hm b0)
 have HV := hide V
 have HY := hide Y
 have HIX := hide (fun k (h : Pl.zd3 H d = ((k : Nat) : Int)) => Pl.handI_at h)
 have HGE := hide (Pl.handI_ge H d)
 generalize Pl.zd3 H d = R at hcon HIX HGE ⊢
 clear V X Y hm
 go_enter Tryz.func53, Tryz.ntmps53
 go_wp2_with fail
 generalize ((w.alloc (.cells #[.map (some q), .slice ma ml mc, .slice ha H.length hc, .int .i64 next] 59)).alloc (.cells #[.int .i64 d] 2)).alloc (.cells #[.int .i64 0, .int .i64 0, .string ⟨#[]⟩] 87) = wA at b0 hcon a2 HM HV HY ⊢
 refine (za hcon).mono ?_
 rintro e w1 ⟨rfl, bX⟩
 have bb := b0.trans (bX.mono b0.size)
 have HV1 := hide ((za HV).call bX)
 have HY1 := hide ((za HY).call bX)
 have HM1 := hide (Mem.zc6 (za HM) bX)
 clear b0 bX hcon a2 HM HV HY hmf
 have a2 := (za HV1).cell 2
 have y0 := (za HY1).cell 0
 have y1 := (za HY1).cell 1
 have y2 := (za HY1).cell 2
 have f0 := (za HY1).fr 0
 have f1 := (za HY1).fr 1
 have f2 := (za HY1).fr 2
 simp only [kGs] at a2 y0 y1 y2
 by_cases hR : R < 0
 ·have hq := hide (show (!decide (R < 0)) = false by simp [hR])
  clear HIX HGE
  go_wp2
  refine bodyPost_ret (v := .tuple #[.agg #[.int .i64 0, .int .i64 0, .string ⟨#[]⟩], .bool false]) (by simp [results, Tryz.results53, go_sem, y0, y1, y2]) rfl ⟨⟨_, _, _, by rw [za hq]⟩, ?_⟩
  exact ((bb.setCell (p := ⟨w.heap.size + 2, 0, none⟩) (by show w.heap.size ≤ w.heap.size + 2; omega) (.int .i64 0)).setCell (p := ⟨w.heap.size + 2, 1, none⟩) (by show w.heap.size ≤ w.heap.size + 2; omega) (.int .i64 0)).setCell (p := ⟨w.heap.size + 2, 2, none⟩) (by show w.heap.size ≤ w.heap.size + 2; omega) (.string ⟨#[]⟩)
 ·have hq := hide (show (!decide (R < 0)) = true by simp [hR])
  obtain ⟨k, rfl⟩ : ∃ k : Nat, R = (k : Int) := ⟨R.toNat, by omega⟩
  obtain ⟨t, ht⟩ := za HIX k rfl
  have hkl := (List.getElem?_eq_some_iff.1 ht).1
  obtain ⟨g, o, rfl, hg, c0, c1, c2⟩ := (za HM1) k t ht
  have u1 : (k : Int) < (H.length : Int) := by omega
  have u3 : (0 : Int) ≤ (k : Int) := by omega
  have b3 := ((bb.setCell (p := ⟨w.heap.size + 2, 0, none⟩) (by show w.heap.size ≤ w.heap.size + 2; omega) (.int .i64 t.d)).setCell (p := ⟨w.heap.size + 2, 1, none⟩) (by show w.heap.size ≤ w.heap.size + 2; omega) (.int .i64 t.i)).setCell (p := ⟨w.heap.size + 2, 2, none⟩) (by show w.heap.size ≤ w.heap.size + 2; omega) (.string t.p)
  clear HIX HGE ht HM1
  go_wp2
  refine bodyPost_ret (v := .tuple #[.agg #[.int .i64 t.d, .int .i64 t.i, .string t.p], .bool true]) (by simp [results, Tryz.results53, go_sem, y0, y1, y2]) rfl ⟨⟨_, _, _, by rw [za hq]⟩, ?_⟩
  exact b3
end WSpI
end Go.Proofs.YtonffldjbmednaaGreatDoor

namespace Go.Proofs.YtonffldjbmednaaGreatDoor
open Go.RowKit
namespace Pl
theorem cells3_set {α : Type} {cs : α → List Value} {x : α} {a b c : Value} (hx : cs x = [a, b, c]) (h3 : ∀ y, (cs y).length = 3) : ∀ (L : List α) (i : Nat), i < L.length → (((cells3 cs L).set (i * 3) a).set (i * 3 + 1) b).set (i * 3 + 2) c = cells3 cs (L.set i x) := by
 intro L
 induction L with
 | nil => intro i h; simp at h
 | cons y L ih =>
  intro i h
  have hy := h3 y
  obtain ⟨a', b', c', e⟩ : ∃ a' b' c', cs y = [a', b', c'] := by
   match hc : cs y, hy with
   | [a', b', c'], _ => exact ⟨a', b', c', rfl⟩
  cases i with
  | zero => rw [List.set_cons_zero, zf4, zf4, e, hx]; rfl
  | succ i =>
   rw [List.set_cons_succ, zf4, zf4, e, show (i + 1) * 3 = i * 3 + 1 + 1 + 1 by omega]
   have := ih i (by simpa using h)
   rw [← this]
   rfl
theorem zz7 {α : Type} {cs : α → List Value} (h3 : ∀ y, (cs y).length = 3) : ∀ (L : List α) (i : Nat), (cells3 cs L).take (i * 3) = cells3 cs (L.take i) := by
 intro L
 induction L with
 | nil => intro i; simp [cells3]
 | cons y L ih =>
  intro i
  cases i with
  | zero => simp [cells3]
  | succ i => rw [zf4, List.take_succ_cons, zf4, ← ih i, show (i + 1) * 3 = (cs y).length + i * 3 by rw [h3]; omega, List.take_length_add_append]
end Pl
namespace Mem
theorem own3_put {α : Type} {T : TypeId} {cs : α → List Value} {w : World} {B g cap n : Nat} {L : List α} (h3 : ∀ y, (cs y).length = 3) (h : own3 T cs w B (.slice (some ⟨g, 0, none⟩) n cap) L) {i : Nat} {x : α} {a b c : Value} (hx : cs x = [a, b, c]) (hi : i < L.length) :
  own3 T cs (((w.setCell ⟨g, i * 3, none⟩ a).setCell ⟨g, i * 3 + 1, none⟩ b).setCell ⟨g, i * 3 + 2, none⟩ c) B (.slice (some ⟨g, 0, none⟩) n cap) (L.set i x) := by
 have hn : L.length = n := by
  rcases h.2 with ⟨e, _⟩ | ⟨_, _, _, e, _⟩
  ·cases e
  ·cases e; rfl
 unfold own3 at h ⊢
 rw [List.length_set, ← Pl.cells3_set hx h3 L i hi]
 subst hn
 exact zq5 (zq5 (zq5 h _ a) _ b) _ c
theorem zx3 {w v : World} {X k : Nat} {u : Value} (h : w.grownBy v (some X)) : w.grownBy (v.setCell ⟨X, k, none⟩ u) (some X) :=
 ⟨h.os, h.tape, h.output, Nat.le_trans h.size (by simp [World.setCell]), fun j hj hne => (heap_setCell_other _ _ _ _ (fun e => hne (by rw [e]))).trans (h.block j hj hne)⟩
theorem clear3 {P : Program} {dT E : TypeId} {z : Value} (hu : P.underlying dT = some (.slice E)) (hz : ∀ w, (zeroValue E).run P w = .ok z w) (hzc : z.cells.size = 3) (hz1 : ∀ v ∈ z.cells.toList, v.oneCell' = true) {α : Type} {cs : α → List Value} {w : World} {B g cap n : Nat} {L : List α} (h3 : ∀ y, (cs y).length = 3) (h : own3 E cs w B (.slice (some ⟨g, 0, none⟩) n cap) L) {i : Nat} (hi : i < n) :
  ∃ w', (∀ ty c', (Builtin.clear_ #[dT] ty #[.slice (some ⟨g, i * 3, none⟩) (n - i) c']).run P w = .ok (.tuple #[]) w') ∧ own3 E cs w' B (.slice (some ⟨g, 0, none⟩) i cap) (L.take i) ∧ w.grownBy w' (some g) := by
 rcases h.2 with ⟨e, _⟩ | ⟨g', cap', cur, e, hb, hg, hc, hm, hs, ht⟩
 ·cases e
 ·cases e
  have hlen : (Builtin.zeroCells z.cells (L.length - i)).toList.length = (L.length - i) * 3 := by
   rw [Array.length_toList, size_zeroCells, hzc]
  have hst := run_storeCells_at P g (i * 3) E (Builtin.zeroCells z.cells (L.length - i)).toList 0 cur w hg (by rw [hlen]; have := hs; omega) (fun v hv => by
   rw [Array.mem_toList_iff] at hv
   unfold Builtin.zeroCells at hv
   obtain ⟨j, -, e⟩ := Array.mem_map.1 hv
   have hj : j % z.cells.size < z.cells.size := Nat.mod_lt _ (by omega)
   rw [getElem!_pos z.cells _ hj] at e
   exact hz1 v (by rw [Array.mem_toList_iff, ← e]; exact Array.getElem_mem hj))
  have hgl := (Array.getElem?_eq_some_iff.1 hg).1
  refine ⟨w.setRow g (cur.toList.take (i * 3 + 0) ++ (Builtin.zeroCells z.cells (L.length - i)).toList ++ cur.toList.drop (i * 3 + 0 + (Builtin.zeroCells z.cells (L.length - i)).toList.length)).toArray, fun ty c' => ?_, ?_, ⟨rfl, rfl, rfl, by simp [World.setRow], fun k hk hne => setRow_other w g k _ (fun e => hne (by rw [e]))⟩⟩
  ·have hne : L.length - i ≠ 0 := by omega
   obtain ⟨m, hm⟩ : ∃ m, L.length - i = m + 1 := ⟨L.length - i - 1, by omega⟩
   rw [hm] at hst ⊢
   simp [Builtin.clear_, run_underlying hu, hz, hst]
  ·refine ⟨?_, .inr ⟨g, cap, _, ?_, hb, setRow_heap w g cur _ E _ hg, ?_, ?_, ?_, ?_⟩⟩
   ·rw [Pl.za6 h3]
   ·rw [List.length_take, Nat.min_eq_left (by omega)]
   ·rw [List.length_take]; omega
   ·exact hm
   ·rw [List.size_toArray, List.length_append, List.length_append, hlen, List.length_take, List.length_drop, Array.length_toList, hs]
    omega
   ·rw [Nat.add_zero, List.length_take, Nat.min_eq_left (by omega), ← Pl.zz7 h3, ← ht, List.append_assoc, List.take_append_of_le_length (by rw [List.length_take, Array.length_toList]; omega), List.take_take, List.take_take, Nat.min_self, Nat.min_eq_left (by omega)]
end Mem
end Go.Proofs.YtonffldjbmednaaGreatDoor

namespace Go.Proofs.YtonffldjbmednaaGreatDoor
namespace Pl
theorem idx_or {α : Type} (f : α → Bool) (l : List α) : idxF f l = -1 ∨ ∃ k : Nat, idxF f l = (k : Int) := by
 cases h : l.findIdx? f with
 | none =>
  left
  rw [List.findIdx?_eq_none_iff] at h
  exact idx_no fun j y hy => by simpa using h y (List.mem_of_getElem? hy)
 | some k =>
  right
  rw [List.findIdx?_eq_some_iff_getElem] at h
  obtain ⟨hk, h1, h2⟩ := h
  exact ⟨k, idx_at (List.getElem?_eq_getElem hk) h1 (fun j y hj hy => by
   have := h2 j hj
   rw [List.getElem?_eq_getElem (by omega)] at hy
   cases hy
   simpa using this)⟩
theorem idx_hit {α : Type} {f : α → Bool} {l : List α} {k : Nat} (h : idxF f l = (k : Int)) : ∃ x, l[k]? = some x ∧ f x = true ∧ ∀ (j : Nat) y, j < k → l[j]? = some y → f y = false := by
 cases hf : l.findIdx? f with
 | none =>
  rw [List.findIdx?_eq_none_iff] at hf
  have := idx_no (f := f) (l := l) fun j y hy => by simpa using hf y (List.mem_of_getElem? hy)
  omega
 | some m =>
  rw [List.findIdx?_eq_some_iff_getElem] at hf
  obtain ⟨hk, h1, h2⟩ := hf
  have h3 : ∀ (j : Nat) y, j < m → l[j]? = some y → f y = false := fun j y hj hy => by
   have := h2 j hj
   rw [List.getElem?_eq_getElem (by omega)] at hy
   cases hy
   simpa using this
  have := idx_at (List.getElem?_eq_getElem hk) h1 h3
  obtain rfl : k = m := by omega
  exact ⟨_, List.getElem?_eq_getElem hk, h1, h3⟩
theorem idx_none {α : Type} {f : α → Bool} {l : List α} (h : idxF f l = -1) : ∀ (j : Nat) y, l[j]? = some y → f y = false := fun j y hy => by
 cases hf : f y with
 | false => rfl
 | true =>
  rcases hq : l.findIdx? f with _ | m
  ·rw [List.findIdx?_eq_none_iff] at hq
   have := hq y (List.mem_of_getElem? hy)
   rw [hf] at this
   cases this
  ·rw [List.findIdx?_eq_some_iff_getElem] at hq
   obtain ⟨hk, h1, h2⟩ := hq
   have := idx_at (List.getElem?_eq_getElem hk) h1 (fun j y hj hy => by
    have := h2 j hj
    rw [List.getElem?_eq_getElem (by omega)] at hy
    cases hy
    simpa using this)
   omega
end Pl
end Go.Proofs.YtonffldjbmednaaGreatDoor

namespace Go.Proofs.YtonffldjbmednaaGreatDoor
open Go.RowKit
namespace WSpI
set_option linter.unusedSimpArgs false in
set_option maxRecDepth 100000 in
set_option maxHeartbeats 4000000 in
theorem delH_any (K : FuncId) (c : Value) (f : Pl.Hn → Bool) (a : Option Addr) (cap : Nat) (M : List Pl.Hn) (B : Nat) (w : World) (hl : M.length ≤ 6) (hv : Mem.own3 87 Pl.Hn.cs w B (.slice a M.length cap) M)
  (hE : ∀ (t : Pl.Hn) W, (callFunc K #[.agg #[.int .i64 t.d, .int .i64 t.i, .string t.p], c]).run Tryz.prog W = .ok (.enter K #[.agg #[.int .i64 t.d, .int .i64 t.i, .string t.p], c]) W)
  (hK : ∀ t ∈ M, ∀ W, w.grownBy W (Value.slice a M.length cap).ownBlock → Calls Tryz.prog K #[.agg #[.int .i64 t.d, .int .i64 t.i, .string t.p], c] W fun e w' => e = .returned (.bool (f t)) ∧ Below W.heap.size W w') :
  Calls Tryz.prog 99 #[.slice a M.length cap, .func (.func K) #[] #[c]] w fun e w' => ∃ a' cap', e = .returned (.slice a' (M.filter (fun x => !f x)).length cap') ∧ Mem.own3 87 Pl.Hn.cs w' B (.slice a' (M.filter (fun x => !f x)).length cap') (M.filter (fun x => !f x)) ∧ (∀ g, (Value.slice a' (M.filter (fun x => !f x)).length cap').ownBlock = some g → (Value.slice a M.length cap).ownBlock = some g) ∧ w.grownBy w' (Value.slice a M.length cap).ownBlock := by
 obtain ⟨a0, c0, e0, hrow, hcap, hsh⟩ := Mem.zf7 Pl.Hn.three hv
 cases e0
 have hcon := hide (zz9 K c f a cap M w (by omega) (Mem.zf5 hrow) hE (fun t ht W b => hK t ht W ((Mem.zb8 b none).but _)))
 have HK := hide hK
 have HV := hide hv
 have HAT := hide (fun (k : Nat) (h : Pl.idxF f M = (k : Int)) => Pl.idx_hit (f := f) (l := M) h)
 have HNO := hide (fun (h : Pl.idxF f M = -1) => Pl.idx_none (f := f) (l := M) h)
 have HOR := hide (Pl.idx_or f M)
 generalize Pl.idxF f M = R at hcon HAT HNO HOR
 clear hK hv hrow
 rcases za HOR with hR | ⟨k, hR⟩
 ·subst hR
  have e3 : M.filter (fun x => !f x) = M := Pl.filter_none (za HNO rfl)
  rw [e3]
  clear HAT HNO HOR HK e3 hsh hE
  go_enter Tryz.func99, Tryz.ntmps99
  go_wp2_with fail
  refine (za hcon).mono ?_
  rintro e w1 ⟨rfl, bX⟩
  have HV1 := hide (Mem.zc0 (za HV) bX)
  have g1 := hide ((Mem.zb8 bX none).but (Value.slice a M.length cap).ownBlock)
  clear HV hcon bX
  go_wp2
  go_ret
  exact ⟨_, _, rfl, za HV1, fun _ h => h, za g1⟩
 subst hR
 obtain ⟨x0, hx0, hf0, hb0⟩ := za HAT k rfl
 have hk0 := (List.getElem?_eq_some_iff.1 hx0).1
 rcases hsh with ⟨rfl, rfl, rfl⟩ | ⟨g, rfl, hBg, hgw⟩
 ·simp at hk0
 have D0 := hide (Pl.DelK.start hx0 hf0 hb0)
 have k1 : ((k : Int) == -1) = false := beq_eq_false_iff_ne.2 (by omega)
 clear HAT HNO HOR hx0 hf0 hb0
 go_enter Tryz.func99, Tryz.ntmps99
 go_wp2_with fail
 refine (za hcon).mono ?_
 rintro e w1 ⟨rfl, bX⟩
 have HV1 := hide (Mem.zc0 (za HV) bX)
 have g1 := hide ((Mem.zb8 bX none).but (some g))
 have hs1 := bX.size
 clear HV hcon bX
 go_wp2
 go_loopw [5, 6] (fun s5 s6 wr => ∃ (i j : Nat) (L : List Pl.Hn), j ≤ M.length ∧ s5 = .int .i64 (i : Int) ∧ s6 = .int .i64 (j : Int) ∧ Hid (Pl.DelK f M L i j) ∧ Hid (Mem.own3 87 Pl.Hn.cs wr B (.slice (some ⟨g, 0, none⟩) M.length cap) L) ∧ Hid (w.grownBy wr (some g))) (fun _ s6 _ => M.length - (intOf s6).toNat)
 case atStart => exact ⟨k, k + 1, M, by omega, rfl, by go_num, D0, HV1, g1⟩
 case round =>
  obtain ⟨i, j, L, hj, rfl, rfl, HD, HL, HG⟩ := hrel
  clear D0 HV1 g1 hs1
  have hLn : L.length = M.length := (za HD).len
  have hij := (za HD).lt
  by_cases hlt : j < M.length
  ·obtain ⟨t, ht⟩ : ∃ n, M[j]? = some n := ⟨_, List.getElem?_eq_getElem hlt⟩
   have htL := (za HD).at ht
   have hrw := Mem.zf5 (show Mem.zr3 Pl.Hn.cs wr (some ⟨g, 0, none⟩) L by
    obtain ⟨_, _, e, h, _⟩ := Mem.zf7 Pl.Hn.three (za HL)
    obtain ⟨rfl, -, rfl⟩ := Value.slice.inj e
    exact h)
   obtain ⟨g', o', e', hg, q0, q1, q2⟩ := hrw j t htL
   cases e'
   obtain ⟨y, hy⟩ : ∃ y, L[i]? = some y := ⟨_, List.getElem?_eq_getElem (by omega)⟩
   have u1 : (j : Int) < (M.length : Int) := by omega
   have u3 : (0 : Int) ≤ (j : Int) := by omega
   have u4 : (i : Int) < (M.length : Int) := by omega
   have u5 : (0 : Int) ≤ (i : Int) := by omega
   have bA : Below wr.heap.size wr (wr.alloc (.cells #[.int .i64 t.d, .int .i64 t.i, .string t.p] 87)) := (Below.refl _ _).alloc (Nat.le_refl _) _
   have X0 := hide (Mem.Blk.new wr #[.int .i64 t.d, .int .i64 t.i, .string t.p] 87)
   have hc := hide (fun W (b : Below wr.heap.size wr W) => za HK t (List.mem_of_getElem? ht) W ((za HG).andThen (Mem.zb8 b none) (fun j hj => by cases hj)))
   have HT := hide ht
   have HPI := hide (⟨(Pl.zm7 Pl.Hn.three L i y hy 0 (by omega)).trans rfl, (Pl.zm7 Pl.Hn.three L i y hy 1 (by omega)).trans rfl, (Pl.zm7 Pl.Hn.three L i y hy 2 (by omega)).trans rfl⟩ : (Pl.cells3 Pl.Hn.cs L)[i * 3]? = some (.int .i64 y.d) ∧ (Pl.cells3 Pl.Hn.cs L)[i * 3 + 1]? = some (.int .i64 y.i) ∧ (Pl.cells3 Pl.Hn.cs L)[i * 3 + 2]? = some (.string y.p))
   clear ht htL hrw hy
   simp only [Nat.zero_add] at q0 q1 q2 HPI
   have x0 := (za X0).cell 0
   have x1 := (za X0).cell 1
   have x2 := (za X0).cell 2
   simp only [kGs] at x0 x1 x2
   go_wp2_with fail
   generalize wr.alloc (.cells #[.int .i64 t.d, .int .i64 t.i, .string t.p] 87) = wA at bA X0 x0 x1 x2 ⊢
   refine (za hc _ bA).mono ?_
   rintro e w3 ⟨rfl, bX⟩
   have b3 := hide (bA.trans (bX.mono bA.size))
   have HX3 := hide ((za X0).call bX)
   have c0 := (za HX3).cell 0
   have c1 := (za HX3).cell 1
   have c2 := (za HX3).cell 2
   simp only [kGs] at c0 c1 c2
   have HL3 := hide (Mem.zc0 (za HL) (za b3))
   have hO3 : w3.ownsRow B 87 3 (.slice (some ⟨g, 0, none⟩) M.length cap) M.length (Pl.cells3 Pl.Hn.cs L) := by
    have h := za HL3
    unfold Mem.own3 at h
    rwa [hLn] at h
   have HG3 := hide ((za HG).andThen (Mem.zb8 (za b3) none) (fun j hj => by cases hj))
   have f0 := (Mem.zg hO3 (za HPI).1).2
   have f1 := (Mem.zg hO3 (za HPI).2.1).2
   have f2 := (Mem.zg hO3 (za HPI).2.2).2
   have p0 := (Mem.zg hO3 (za HPI).1).1
   have p1 := (Mem.zg hO3 (za HPI).2.1).1
   have p2 := (Mem.zg hO3 (za HPI).2.2).1
   clear hO3 x0 x1 x2 bA X0 bX hc q0 q1 q2 HL HG
   cases hf : f t
   ·have HL4 := hide (Mem.own3_put Pl.Hn.three (za HL3) (i := i) (x := t) rfl (by omega))
    have HD4 := hide ((za HD).keep (za HT) hf)
    have HG4 := hide (Mem.zx3 (X := g) (Mem.zx3 (X := g) (Mem.zx3 (X := g) (za HG3) (k := i * 3) (u := .int .i64 t.d)) (k := i * 3 + 1) (u := .int .i64 t.i)) (k := i * 3 + 2) (u := .string t.p))
    go_wp2
    go_roundw
    case rel => exact ⟨i + 1, j + 1, L.set i t, by omega, by go_num, by go_num, HD4, HL4, HG4⟩
    case measure => simp [intOf]; omega
   ·have HD4 := hide ((za HD).skip (za HT) hf)
    go_wp2
    go_roundw
    case rel => exact ⟨i, j + 1, L, by omega, rfl, by go_num, HD4, HL3, HG3⟩
    case measure => simp [intOf]; omega
  ·have hjn : j = M.length := by omega
   obtain ⟨e1, e2, e3⟩ := (za HD).done hjn
   have u1 : ¬ (j : Int) < (M.length : Int) := by omega
   have hz : ∀ w, (zeroValue 87).run Tryz.prog w = .ok (.agg #[.int .i64 0, .int .i64 0, .string ⟨#[]⟩]) w := fun w => by kernel_rfl
   obtain ⟨w5, hcl, hO5, hg5⟩ := Mem.clear3 (dT := 30) Tryz.underlying30 hz rfl (by decide) Pl.Hn.three (za HL) e3
   have hs1 := Mem.slice_lo (P := Tryz.prog) (dT := 30) (E := 87) (s := 3) Tryz.underlying30 (fun w => by kernel_rfl) wr g M.length cap i e3 hcap
   have hs2 := Mem.slice_hi (P := Tryz.prog) (dT := 30) (E := 87) (s := 3) Tryz.underlying30 (fun w => by kernel_rfl) w5 ⟨g, 0, none⟩ M.length cap i (by omega) (by omega)
   have HO5 := hide hO5
   have HG5 := hide ((za HG).andThen hg5 (fun j hj => .inr hj))
   have HE2 := hide e2
   have HE1 := hide e1
   clear hO5 hg5 e1 e2 HD HL HG
   go_wp2
   go_ret
   rw [za HE1] at HO5
   have e2 := za HE2
   exact ⟨some ⟨g, 0, none⟩, cap, by rw [← e2]; rfl, by rw [← e2]; exact za HO5, fun q hq => hq, za HG5⟩
end WSpI
end Go.Proofs.YtonffldjbmednaaGreatDoor

namespace Go.Proofs.YtonffldjbmednaaGreatDoor
open Go.RowKit Go.Maps
namespace MapI
def Ik (k : Lit) : Prop := ∃ d, k = key d
theorem ik_one : OneKind Ik := ⟨fun h => by obtain ⟨d, rfl⟩ := h; exact zp1 d, fun ha hb hne => by
 obtain ⟨x, rfl⟩ := ha
 obtain ⟨y, rfl⟩ := hb
 have : x ≠ y := fun e => hne (by rw [e])
 simp only [key, Lit.before, decide_eq_true_eq]
 omega⟩
def CanI (D : DataW Value) : Prop := ∃ es, D = .map es ∧ es.Pairwise (fun p q => p.1.before q.1 = true) ∧ ∀ p ∈ es, Ik p.1
theorem can_put {D : DataW Value} (h : CanI D) (d : Int) (v : Value) : CanI (D.put (key d) (dat v)) := by
 obtain ⟨es, rfl, h1, h2⟩ := h
 refine ⟨_, rfl, ?_, fun x hx => ?_⟩
 ·refine insert_sorted ik_one (x := (key d, dat v)) ⟨d, rfl⟩ _ (h1.filter _) (fun x hx => h2 x (List.mem_filter.1 hx).1) (fun x hx => ?_)
  have := (List.mem_filter.1 hx).2
  intro e
  rw [e, WideAt.sameKey_self (zp1 d)] at this
  cases this
 ·rcases ChangeMaps.mem_insert_iff.1 hx with rfl | hx
  ·exact ⟨_, rfl⟩
  ·exact h2 x (List.mem_filter.1 hx).1
theorem can_fold : ∀ (C : List (Int × Value)) (D : DataW Value), CanI D → CanI (C.foldl (fun D n => D.put (key n.1) (dat n.2)) D) := by
 intro C
 induction C with
 | nil => intro D h; exact h
 | cons n C ih => intro D h; exact ih _ (can_put h n.1 n.2)
theorem zr9 (C : List (Int × Value)) : CanI (mapOf C) := can_fold C (.map []) ⟨[], rfl, List.Pairwise.nil, fun _ h => by cases h⟩
theorem CanI.canon {D : DataW Value} (h : CanI D) : Canon D := by
 obtain ⟨es, e, h1, h2⟩ := h
 exact ⟨es, e, h1, fun p hp => ik_one.key (h2 p hp)⟩
theorem CanI.ik {D : DataW Value} (h : CanI D) {k : Lit} (hk : Maps.has D k = true) : Ik k := by
 obtain ⟨es, rfl, h1, h2⟩ := h
 obtain ⟨x, hx, hs⟩ := List.any_eq_true.1 hk
 rw [← WideAt.sameKey_eq hs]
 exact h2 x hx
def kp (f : Int → Bool) : Lit → Bool
 | .int _ d => f d
 | _ => false
structure zl0 (f : Int → Bool) (D0 D : DataW Value) (left : Lit → Bool) : Prop where
 h : ∀ k, Maps.has D k = (Maps.has D0 k && (kp f k || left k))
 a : ∀ k z, Maps.has D k = true → D.atKey k z = D0.atKey k z
section
variable {f : Int → Bool} {D0 D : DataW Value} {left : Lit → Bool} {x : Int}
theorem zl0.start (f : Int → Bool) (D0 : DataW Value) : zl0 f D0 D0 (Maps.has D0) := ⟨fun k => by cases Maps.has D0 k <;> simp, fun _ _ _ => rfl⟩
theorem zl0.del (h : zl0 f D0 D left) (hx : f x = false) : zl0 f D0 (D.del (key x)) (fun z => left z && !z.sameKey (key x)) := by
 refine ⟨fun k => ?_, fun k z hk => ?_⟩
 ·by_cases e : k = key x
  ·subst e
   rw [has_del_same, WideAt.sameKey_self (zp1 x)]
   simp [kp, key, hx]
  ·rw [has_del_other e, h.h k, sameKey_ne e]
   simp
 ·by_cases e : k = key x
  ·subst e
   rw [has_del_same] at hk
   cases hk
  ·rw [has_del_other e] at hk
   rw [atKey_del_other e, h.a k z hk]
theorem zl0.stay (h : zl0 f D0 D left) (hx : f x = true) : zl0 f D0 D (fun z => left z && !z.sameKey (key x)) := by
 refine ⟨fun k => ?_, h.a⟩
 rw [h.h k]
 by_cases e : k = key x
 ·subst e
  simp [kp, key, hx]
 ·simp only [sameKey_ne e, Bool.not_false, Bool.and_true]
theorem filt_ids (E : List (Int × Pl.Nv)) (f : Int → Bool) : (E.filter (fun x => f x.1)).map (·.1) = (E.map (·.1)).filter f := by
 induction E with
 | nil => rfl
 | cons x E ih =>
  rw [List.map_cons, List.filter_cons, List.filter_cons]
  cases f x.1 <;> simp [ih]
theorem zl0.fin {E : List (Int × Pl.Nv)} (h : zl0 f (mapOf (Pl.vals E)) D left) (hl : ∀ k, left k = false) (hc : Canon D) (hE : E.Pairwise (fun a b => a.1 ≠ b.1)) : D = mapOf (Pl.vals (E.filter (fun x => f x.1))) := by
 have hE2 : (E.filter (fun x => f x.1)).Pairwise (fun a b => a.1 ≠ b.1) := hE.filter _
 have hV := Pl.zv6 hE
 have hV2 := Pl.zv6 hE2
 have hids : ∀ d, d ∈ (Pl.vals (E.filter (fun x => f x.1))).map (·.1) ↔ d ∈ (Pl.vals E).map (·.1) ∧ f d = true := fun d => by
  rw [Pl.zn6, Pl.zn6, filt_ids, List.mem_filter]
 refine ext hc (zr9 _).canon (fun k => ?_) (fun k z hk => ?_)
 ·rw [h.h k, hl k, Bool.or_false]
  by_cases hk : Maps.has (mapOf (Pl.vals E)) k = true
  ·obtain ⟨d, rfl⟩ := (zr9 _).ik hk
   rw [(look hV d (.int .i64 0)).1, (look hV2 d (.int .i64 0)).1]
   simp only [kp, key]
   rw [Bool.eq_iff_iff, Bool.and_eq_true, decide_eq_true_eq, decide_eq_true_eq, hids]
  ·rw [Bool.not_eq_true] at hk
   rw [hk, Bool.false_and]
   by_cases hk2 : Maps.has (mapOf (Pl.vals (E.filter (fun x => f x.1)))) k = true
   ·obtain ⟨d, rfl⟩ := (zr9 _).ik hk2
    rw [(look hV2 d (.int .i64 0)).1, decide_eq_true_eq, hids] at hk2
    rw [(look hV d (.int .i64 0)).1, decide_eq_false_iff_not] at hk
    exact absurd hk2.1 hk
   ·rw [Bool.not_eq_true] at hk2
    exact hk2.symm
 ·rw [h.a k z hk]
  have hk2 := hk
  rw [h.h k, hl k, Bool.or_false, Bool.and_eq_true] at hk2
  obtain ⟨d, rfl⟩ := (zr9 _).ik hk2.1
  have h3 := hk2.1
  rw [(look hV d (.int .i64 0)).1, decide_eq_true_eq] at h3
  obtain ⟨n, hn, rfl⟩ := List.mem_map.1 h3
  obtain ⟨y, hy, rfl⟩ := List.mem_map.1 hn
  have hm : (y.1, y.2.val) ∈ Pl.vals (E.filter (fun x => f x.1)) := List.mem_map.2 ⟨y, List.mem_filter.2 ⟨hy, hk2.2⟩, rfl⟩
  rw [(zr6 hV hn).2, (zr6 hV2 hm).2]
end
end MapI
namespace Mem
theorem zn3 {w w' : World} {q b k : Nat} {v : Value} {es : Array MapEntry} {cl : Nat} (hq : w.heap[q]? = some (.map es cl)) (g : w.grownBy w' (some q)) (h : w.cell? ⟨b, k, none⟩ = some v) (hb : b < w.heap.size) : w'.cell? ⟨b, k, none⟩ = some v := by
 have hne : b ≠ q := fun e => by
  subst e
  simp [World.cell?, hq] at h
 rw [World.cell?_of_block (g.block b hb (fun e => hne (Option.some.inj e)))]
 exact h
theorem mounts_off {w w' : World} {q : Nat} {a : Option Addr} {L : List Pl.Mn} {es : Array MapEntry} {cl : Nat} (h : zb2 w a L) (hq : w.heap[q]? = some (.map es cl)) (g : w.grownBy w' (some q)) : zb2 w' a L := fun i x hi => by
 obtain ⟨b, o, h1, h2, h3, h4, h5⟩ := h i x hi
 exact ⟨b, o, h1, Nat.lt_of_lt_of_le h2 g.size, zn3 hq g h3 h2, zn3 hq g h4 h2, zn3 hq g h5 h2⟩
theorem hands_off {w w' : World} {q : Nat} {a : Option Addr} {L : List Pl.Hn} {es : Array MapEntry} {cl : Nat} (h : zb9 w a L) (hq : w.heap[q]? = some (.map es cl)) (g : w.grownBy w' (some q)) : zb9 w' a L := fun i x hi => by
 obtain ⟨b, o, h1, h2, h3, h4, h5⟩ := h i x hi
 exact ⟨b, o, h1, Nat.lt_of_lt_of_le h2 g.size, zn3 hq g h3 h2, zn3 hq g h4 h2, zn3 hq g h5 h2⟩
end Mem
end Go.Proofs.YtonffldjbmednaaGreatDoor

namespace Go.Proofs.YtonffldjbmednaaGreatDoor
open Go.RowKit Go.Maps
namespace WSpI
theorem strike_off (left : Lit → Bool) (x : Int) : (fun z : Lit => (left z && !z.sameKey (MapI.key x)) && !z.sameKey (MapI.key x)) = fun z => left z && !z.sameKey (MapI.key x) := Maps.strike_twice left _
set_option linter.unusedSimpArgs false in
set_option maxRecDepth 100000 in
set_option maxHeartbeats 4000000 in
theorem drop_any (X q : Nat) (E : List (Int × Pl.Nv)) (n : Nat) (ma : Option Addr) (mc : Nat) (M : List Pl.Mn) (ha : Option Addr) (hc : Nat) (H : List Pl.Hn) (next : Int) (w : World) (hml : M.length ≤ 1048576) (hhl : H.length ≤ 1048576) (hm : Mem.zb2 w ma M) (hh : Mem.zb9 w ha H)
  (hX : Mem.Blk w X #[.map (some q), .slice ma M.length mc, .slice ha H.length hc, .int .i64 next] 59)
  (hE : E.Pairwise (fun a b => a.1 ≠ b.1)) (hi : ∀ d ∈ E.map (·.1), MapI.i64 d) (hown : w.ownsMap Tryz.prog 2 MapI.elem q n (MapI.mapOf (Pl.vals E))) :
  Calls Tryz.prog 86 #[.pointer (some ⟨X, 0, none⟩)] w fun e w' => e = .returned (.tuple #[]) ∧ w'.ownsMap Tryz.prog 2 MapI.elem q n (MapI.mapOf (Pl.vals (E.filter (fun x => !decide (Pl.held M H x.1 = 0))))) ∧ w.grownBy w' (some q) := by
 obtain ⟨es, cl, hq, -⟩ := id hown
 have hXq : X ≠ q := fun e => by
  have h1 := hX.cell 0
  subst e
  simp [World.cell?, hq] at h1
 have HH := hide (fun W (g : w.grownBy W (some q)) d => zd9 q ma mc M ha hc H next d W hml hhl (Mem.mounts_off hm hq g) (Mem.hands_off hh hq g))
 have HX := hide (fun W (g : w.grownBy W (some q)) => hX.grown g (fun e => hXq (Option.some.inj e)))
 have hqw : q < w.heap.size := hown.lt
 have HO := hide hown
 have HED := hide hE
 have HENT := hide (fun (p : Int) (c : DataW Value) (h : ∀ z, (MapI.mapOf (Pl.vals E)).atKey (MapI.key p) z = c) => MapI.ent_in h)
 have HK := hide (fun d (hd : d ∈ E.map (·.1)) => MapI.zk1 (hi d hd))
 have HF0 := hide (MapI.zl0.start (fun d => !decide (Pl.held M H d = 0)) (MapI.mapOf (Pl.vals E)))
 have HFIN := hide (fun D left (h : MapI.zl0 (fun d => !decide (Pl.held M H d = 0)) (MapI.mapOf (Pl.vals E)) D left) (hl : ∀ k, left k = false) (hc : Canon D) => h.fin hl hc (za HED))
 generalize (E.filter (fun x => !decide (Pl.held M H x.1 = 0))) = EF at HFIN ⊢
 have HIDS := hide (Pl.zn6 E)
 rw [za HIDS] at HENT
 clear hown hm hh hE hq hi HED HIDS
 have a0 := hX.cell 0
 simp only [kGs] at a0
 generalize MapI.mapOf (Pl.vals E) = D0 at HO HENT HF0 HFIN
 generalize E.map (·.1) = ids at HENT HK
 clear hX
 go_enter Tryz.func86, Tryz.ntmps86
 go_wp2_with (first
  | (at_range; refine wpList_range_own _ rfl _ 57 rfl 2 121 MapI.law Tryz.underlying57 _ q n _ rfl (za HO) ?_; intro w0 hrg0 hg0 hs0)
  | go_in)
 go_frame
 have G0 := hide (hg0.but (some q))
 clear hg0 hs0 HO a0
 go_loopw [2] (fun v wr => ∃ (D : DataW Value) (left : Lit → Bool) (cnt : Nat), wr.ranges Tryz.prog 2 MapI.elem q w.heap.size n D left cnt ∧ Hid (MapI.zl0 (fun d => !decide (Pl.held M H d = 0)) D0 D left) ∧ Hid (w.grownBy wr (some q)))
  (fun _ wr => wr.rangeLeft q w.heap.size)
 case atStart => exact ⟨_, _, _, hrg0, HF0, G0⟩
 case round =>
  obtain ⟨D, left, cnt, hrg, HD, HG⟩ := hrel
  clear hrg0 HF0 G0
  go_wp2_with (first
   | (at_next; refine wpList_next_ranges _ rfl _ rfl 2 MapI.law MapI.elem (Value.int .i64) (fun v : Value => v) (fun key kl hk => by obtain ⟨x, hx, _⟩ := Maps.keyOf_int_inv Tryz.underlying2 hk; exact ⟨x, hx⟩) (fun v y hv => ⟨v, rfl⟩) q w.heap.size n _ _ _ rfl hrg ?_ ?_)
   | go_in)
  ·intro hc0 hl0
   have HE := hide (za HFIN D left (za HD) hl0 (hrg.owns.canon MapI.law))
   have HO := hide hrg.owns
   clear HD hrg hc0 hl0 HENT
   go_wp2
   go_end0
   exact ⟨rfl, by rw [← za HE]; exact za HO, za HG⟩
  ·intro x c kl yd yp w1 cnt1 hkey hlk hR hat hrg1 hlt hg1 hs1 hen
   have ek : kl = MapI.key x := by obtain ⟨x', hx, hk, _⟩ := Maps.keyOf_int_inv Tryz.underlying2 hkey; cases hx; exact hk
   subst ek
   have G1 := (za HG).andThen hg1 (fun j hj => by cases hj; exact .inl (Nat.le_refl _))
   have HC := hide (fun W (b : Below w1.heap.size w1 W) => za HH _ (G1.andThen (Mem.zb8 b none) (fun j hj => by cases hj)) x)
   have V1 := za HX _ G1
   have a0 := V1.cell 0
   have a1 := V1.cell 1
   have a2 := V1.cell 2
   have a3 := V1.cell 3
   simp only [kGs] at a0 a1 a2 a3
   have HRG1 := hide hrg1
   have HLE := hide (hrg.left_eq)
   have HG1 := hide G1
   have HKY := hide hkey
   clear hat hR hkey hlk hg1 hs1 hrg1 hrg V1 HG G1
   go_wp2_with fail
   refine (za HC _ (Below.refl _ _)).mono ?_
   rintro e w6 ⟨rfl, bX⟩
   have HG6 := hide ((za HG1).andThen (Mem.zb8 bX none) (fun j hj => by cases hj))
   have HR6 := hide ((za HRG1).kept (Mem.zb8 bX none) (by simp) (by simp))
   clear HC HG1 bX a0 a1 a2 a3 HRG1 hen
   by_cases h0 : Pl.held M H x = 0
   ·have h1 : (Pl.held M H x == 0) = true := by simpa using h0
    have HD2 := hide ((za HD).del (x := x) (by simp [h0]))
    generalize Pl.held M H x = hx at h1 ⊢
    have a0 := (za HX _ (za HG6)).cell 0
    simp only [kGs] at a0
    clear h0 HD
    go_wp2_with (first
     | (at_delete; refine wpList_delete_ranges _ rfl _ _ 57 2 rfl 121 MapI.law Tryz.underlying57 _ q w.heap.size n _ _ _ rfl (za HR6) _ _ rfl (za HKY) ?_; intro w2 cnt2 hrg2 hle hturn; go_frame)
     | go_in)
    rw [strike_off] at hrg2
    go_roundw
    case rel => exact ⟨_, _, cnt2, hrg2, HD2, hide ((za HG6).andThen hturn.grown (fun j hj => .inr hj))⟩
    case measure => rw [hrg2.left_eq, za HLE]; omega
   ·have h1 : (Pl.held M H x == 0) = false := by simpa using h0
    have HD2 := hide ((za HD).stay (x := x) (by simp [h0]))
    generalize Pl.held M H x = hx at h1 ⊢
    clear h0 HD
    go_wp2
    go_roundw
    case rel => exact ⟨_, _, cnt1, za HR6, HD2, HG6⟩
    case measure => rw [(za HR6).left_eq, za HLE]; exact hlt
end WSpI
end Go.Proofs.YtonffldjbmednaaGreatDoor

