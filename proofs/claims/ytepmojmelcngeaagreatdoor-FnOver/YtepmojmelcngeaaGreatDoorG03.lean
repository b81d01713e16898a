/- Several texts of one claim in one file: Mem, MemTexts, WSplit, WName, WPathS, MemVars, MemNodes, MemOwnN, MemBlk. -/
import Derived.Test.YtepmojmelcngeaaGreatDoorG00
import Derived.WalkKit
import Derived.Laws.IdiomStrings
import Derived.Deep.Draws
import Derived.Test.YtepmojmelcngeaaGreatDoorProg
import Derived.WalkSpells
import Derived.Test.YtepmojmelcngeaaGreatDoorG01
import Derived.Laws.AppendOwn
/- Memory of the call's own: bytes that were appended, read as a text; what stays below. No program in sight. -/
namespace Go.Proofs.YtepmojmelcngeaaGreatDoor
open Go.RowKit
namespace Mem
theorem add_lit (b j : Nat) : (⟨b, 0, none⟩ : Addr).add j = ⟨b, j, none⟩ := by unfold Addr.add; split <;> simp_all

/-- 'string(b)' of bytes that the call itself has gathered. -/
theorem own_text {P : Program} {src dst e : TypeId} (hs : P.underlying src = some (.slice e)) (he : P.underlying e = some (.int .u8)) (hd : P.underlying dst = some .string)
    {w : World} {base : Nat} {v : Value} {n : Nat} (l : List UInt8) (hn : l.length = n) (h0 : 0 < n) (h : w.ownsRow base e 1 v n (l.map Pl.byteVal)) :
    (convert src dst v).run P w = .ok (.string ⟨l.toArray⟩) w := by
  subst hn
  rcases h.2 with ⟨_, h'⟩ | ⟨g, cap, cur, rfl, hb, hg, hcap, hm, hsz, ht⟩
  · omega
  refine run_convert_bytes_back w src dst e ⟨g, 0, none⟩ cap l hs he hd (fun j hj => ?_)
  rw [add_lit, cell_of_row w g j cur e (0, 0) hg]
  have h1 : (cur.toList.take (l.length * 1))[j]? = (l.map Pl.byteVal)[j]? := by rw [ht]
  rw [List.getElem?_take_of_lt (by omega)] at h1
  simpa [Pl.byteVal, hj] using h1

/-- 'string(b)' of a row of the call's own. -/
theorem row_text {P : Program} {src dst e : TypeId} (hs : P.underlying src = some (.slice e)) (he : P.underlying e = some (.int .u8)) (hd : P.underlying dst = some .string)
    {w : World} {g n cap : Nat} {cur : Array Value} {t : TypeId} (l : List UInt8) (hn : l.length = n) (hg : w.heap[g]? = some (.cells cur t (0, 0))) (ht : cur.toList.take n = l.map Pl.byteVal) :
    (convert src dst (.slice (some ⟨g, 0, none⟩) n cap)).run P w = .ok (.string ⟨l.toArray⟩) w := by
  subst hn
  refine run_convert_bytes_back w src dst e ⟨g, 0, none⟩ cap l hs he hd (fun j hj => ?_)
  rw [add_lit, cell_of_row w g j cur t (0, 0) hg]
  have h1 : (cur.toList.take l.length)[j]? = (l.map Pl.byteVal)[j]? := by rw [ht]
  rw [List.getElem?_take_of_lt (by omega)] at h1
  simpa [Pl.byteVal, hj] using h1

/-- Behind an append: old memory is as it was. -/
theorem below_append {B : Nat} {a w w1 : World} {o : Obj} {e : TypeId} {size n : Nat} {v : Value} {xs : List Value} (h : Below B a w) (hB : B ≤ a.heap.size) (hown : w.ownsRow B e size v n xs) (hg : (w.alloc o).grownBy w1 v.ownBlock) : Below B a w1 :=
  have hs := h.size
  (h.alloc (by omega) o).grown hg (by simp; omega) (fun k hk => (hown.lt k hk).1)

theorem one_new (w : World) (v : Value) (e : TypeId) : ∀ j u, [v][j]? = some u → (w.alloc (.cells #[v] e)).cell? ((⟨w.heap.size, 0, none⟩ : Addr).add j) = some u := by
  intro j u hj
  match j, hj with
  | 0, hj => simp at hj; subst hj; rw [add_lit]; simp
  | j + 1, hj => simp at hj
theorem one_cell (k : IntKind) (x : Int) : ∀ u ∈ [Value.int k x], u.oneCell' = true := by
  intro u hu; simp at hu; subst hu; rfl

theorem two_texts (w : World) (a b : ByteArray) (e : TypeId) : ∀ j t, [a, b][j]? = some t → (w.alloc (.cells #[.string a, .string b] e)).cell? ⟨w.heap.size, 0 + j, none⟩ = some (.string t) := by
  intro j t hj
  match j, hj with
  | 0, hj => simp at hj; subst hj; simp
  | 1, hj => simp at hj; subst hj; simp
  | j + 2, hj => simp at hj
theorem one_text (w : World) (a : ByteArray) (e : TypeId) : ∀ j t, [a][j]? = some t → (w.alloc (.cells #[.string a] e)).cell? ⟨w.heap.size, 0 + j, none⟩ = some (.string t) := by
  intro j t hj
  match j, hj with
  | 0, hj => simp at hj; subst hj; simp
  | j + 1, hj => simp at hj

theorem row_frozen {w : World} {g j : Nat} {cur : Array Value} {t : TypeId} (hg : w.heap[g]? = some (.cells cur t (0, 0))) : w.frozen? ⟨g, j, none⟩ = false := by
  simp [World.frozen?, hg]
/-- A variable of three cells behind a call that makes memory. -/
theorem kept3 {w W w' : World} {T : TypeId} {B : Nat} {x y z : Value} (b : Below W.heap.size W w') (hh : W.heap[B]? = some (.cells #[x, y, z] T (0, 0))) (hW : Below B w W) :
    (w'.cell? ⟨B, 0, none⟩ = some x ∧ w'.cell? ⟨B, 1, none⟩ = some y ∧ w'.cell? ⟨B, 2, none⟩ = some z) ∧
    (w'.frozen? ⟨B, 0, none⟩ = false ∧ w'.frozen? ⟨B, 1, none⟩ = false ∧ w'.frozen? ⟨B, 2, none⟩ = false) ∧ Below B w w' := by
  have hlt : B < W.heap.size := (Array.getElem?_eq_some_iff.1 hh).1
  have h' : w'.heap[B]? = some (.cells #[x, y, z] T (0, 0)) := (b.block B hlt).trans hh
  refine ⟨⟨?_, ?_, ?_⟩, ⟨row_frozen h', row_frozen h', row_frozen h'⟩, hW.trans (b.mono (Nat.le_of_lt hlt))⟩
  · rw [cell_of_row w' B 0 _ T (0, 0) h']; rfl
  · rw [cell_of_row w' B 1 _ T (0, 0) h']; rfl
  · rw [cell_of_row w' B 2 _ T (0, 0) h']; rfl
/-- .. and behind a new block and one more such call. -/
theorem again3 {w W w' : World} {o : Obj} {B : Nat} {x y z : Value} (b : Below (W.alloc o).heap.size (W.alloc o) w') (hlt : B < W.heap.size) (hW : Below B w W)
    (c0 : W.cell? ⟨B, 0, none⟩ = some x) (c1 : W.cell? ⟨B, 1, none⟩ = some y) (c2 : W.cell? ⟨B, 2, none⟩ = some z) (f0 : W.frozen? ⟨B, 0, none⟩ = false) (f1 : W.frozen? ⟨B, 1, none⟩ = false) (f2 : W.frozen? ⟨B, 2, none⟩ = false) :
    (w'.cell? ⟨B, 0, none⟩ = some x ∧ w'.cell? ⟨B, 1, none⟩ = some y ∧ w'.cell? ⟨B, 2, none⟩ = some z) ∧
    (w'.frozen? ⟨B, 0, none⟩ = false ∧ w'.frozen? ⟨B, 1, none⟩ = false ∧ w'.frozen? ⟨B, 2, none⟩ = false) ∧ Below B w w' := by
  have hs : W.heap.size ≤ (W.alloc o).heap.size := by simp
  have hb : Below W.heap.size W w' := ((Below.refl _ _).alloc (Nat.le_refl _) o).trans (b.mono hs)
  refine ⟨⟨?_, ?_, ?_⟩, ⟨?_, ?_, ?_⟩, hW.trans (hb.mono (Nat.le_of_lt hlt))⟩
  · rw [hb.cell hlt]; exact c0
  · rw [hb.cell hlt]; exact c1
  · rw [hb.cell hlt]; exact c2
  · rw [hb.frozen hlt]; exact f0
  · rw [hb.frozen hlt]; exact f1
  · rw [hb.frozen hlt]; exact f2

/-- The cells of 'make([]byte, n)'. -/
def zeros (n : Nat) : Array Value := madeCells (Value.int .u8 0).cells n
theorem zeros_size (n : Nat) : (zeros n).size = n := size_madeCells _ _
theorem make_bytes {P : Program} {T E : TypeId} (ht : P.underlying T = some (.slice E)) (hi : (P.info? E).map (fun i => (i.zero, i.size, i.bytes)) = some (some (.int .u8 0), 1, 1)) (n : Nat) (hn : n ≤ 1000000000) (w : World) :
    (Instr.makeSlice T (.int .i64 (n : Int)) (.int .i64 (n : Int))).run P w = .ok (.slice (some ⟨w.heap.size, 0, none⟩) n n) (w.alloc (.cells (zeros n) E)) := by
  obtain ⟨i0, h0, h1, h2, h3⟩ := info_parts hi
  have h := run_make (P := P) w T E i0 (.int .u8 0) ht h0 h1 .i64 .i64 (n : Int) (n : Int) (by omega) (Int.le_refl _) (by rw [h3]; omega) (by omega)
  rw [h, h2]
  simp [zeros]

theorem bytes_one (l : List UInt8) : ∀ v ∈ l.map Pl.byteVal, v.oneCell' = true := by
  intro v hv
  obtain ⟨b, _, rfl⟩ := List.mem_map.1 hv
  rfl
/-- 'copy(all[p:], t)' into a row of the call's own, the whole of t. -/
theorem copy_on {P : Program} {dT sT E : TypeId} (hu : P.underlying dT = some (.slice E)) (hz : ∀ w, (sizeOf E).run P w = .ok 1 w) (w : World) (B p N : Nat) (cur : Array Value)
    (hB : w.heap[B]? = some (.cells cur E (0, 0))) (hc : cur.size = N) (t : ByteArray) (hfit : p + t.size ≤ N) :
    ∃ D w', (∀ wx, (Instr.slice dT (.slice (some ⟨B, 0, none⟩) N N) (some (.int .i64 (p : Int))) none none).run P wx = .ok D wx) ∧
      (∀ ty, (Builtin.copy_ #[dT, sT] ty #[D, .string t]).run P w = .ok (.int .i64 (t.size : Int)) w') ∧
      w'.heap[B]? = some (.cells (cur.toList.take p ++ t.data.toList.map Pl.byteVal ++ cur.toList.drop (p + t.size)).toArray E (0, 0)) ∧ Below B w w' := by
  have ht : P.underlying dT = some (.slice (P.elem dT)) := by simp [Program.elem, hu]
  have he : P.elem dT = E := by simp [Program.elem, hu]
  have hsl : ∀ wx, (Instr.slice dT (.slice (some ⟨B, 0, none⟩) N N) (some (.int .i64 (p : Int))) none none).run P wx = .ok (sliced (some ⟨B, 0, none⟩) p N N 1) wx := by
    intro wx
    have h := run_slice_l (P := P) wx dT (some ⟨B, 0, none⟩) N N ht .i64 (p : Int) (by omega) (by omega)
    rw [h, he, hz]
    rfl
  by_cases hp : p = N
  · subst hp
    have h0 : t.size = 0 := by omega
    have hd : t.data = #[] := Array.eq_empty_of_size_eq_zero h0
    refine ⟨.slice (some ⟨B, 0, none⟩) 0 0, w, ?_, ?_, ?_, Below.refl _ _⟩
    · intro wx; rw [hsl]; simp [sliced]
    · intro ty
      simp [Builtin.copy_, run_underlying hu, Builtin.lenOf, Builtin.firstCells, hz, h0, goInt, storeCells]
    · rw [hB, h0, hd]; simp
  · have hlt : p < N := by omega
    have hlen : (t.data.toList.map Pl.byteVal).length = t.size := by rw [List.length_map]; rfl
    have hst := run_storeCells_at P B p E (t.data.toList.map Pl.byteVal) 0 cur w hB (by rw [hlen]; omega) (bytes_one _)
    rw [hlen] at hst
    simp only [Nat.add_zero] at hst
    refine ⟨.slice (some ⟨B, p, none⟩) (N - p) (N - p), _, ?_, ?_, setRow_heap w B cur _ E _ hB, ?_⟩
    · intro wx
      rw [hsl]
      have h1 : ¬ N = p := fun h => hp h.symm
      simp [sliced, h1, add_lit]
    · intro ty
      have hmin : Nat.min t.size (N - p) = t.size := Nat.min_eq_left (by omega)
      have htk : List.take t.size (List.map (fun b : UInt8 => Value.int IntKind.u8 (b.toNat : Int)) t.data.toList) = t.data.toList.map Pl.byteVal := by
        rw [List.take_of_length_le (by rw [List.length_map]; exact Nat.le_refl _)]; rfl
      simp [Builtin.copy_, run_underlying hu, Builtin.lenOf, Builtin.firstCells, hz, hmin]
      rw [htk, hst, List.append_assoc]
      rfl
    · exact ⟨rfl, rfl, rfl, by simp, fun k hk => setRow_other w B k _ (by omega)⟩
theorem own_mono {w : World} {B B' e size n : Nat} {v : Value} {xs : List Value} (h : w.ownsRow B e size v n xs) (hb : B' ≤ B) : w.ownsRow B' e size v n xs := by
  refine ⟨h.1, ?_⟩
  rcases h.2 with h0 | ⟨g, cap, cur, hv, hg, rest⟩
  · exact .inl h0
  · exact .inr ⟨g, cap, cur, hv, Nat.le_trans hb hg, rest⟩
theorem own_shape {w : World} {B e size n : Nat} {v : Value} {xs : List Value} (h : w.ownsRow B e size v n xs) : ∃ a cap, v = .slice a n cap := by
  rcases h.2 with ⟨rfl, rfl⟩ | ⟨g, cap, cur, rfl, _⟩
  · exact ⟨_, _, rfl⟩
  · exact ⟨_, _, rfl⟩
end Mem
end Go.Proofs.YtepmojmelcngeaaGreatDoor

/- Rows of texts: of the call's own, handed on, cut, and kept behind calls. No program in sight. -/
namespace Go.Proofs.YtepmojmelcngeaaGreatDoor
open Go.RowKit
namespace Mem
/-- A row of texts of the call's own: nil, or its cells. -/
theorem texts {w : World} {B T : Nat} {v : Value} {L : List ByteArray} (h : w.ownsRow B T 1 v L.length (L.map Value.string)) :
    (v = .slice none 0 0 ∧ L = []) ∨ ∃ g cap, v = .slice (some ⟨g, 0, none⟩) L.length cap ∧ L.length ≤ cap ∧ cap ≤ maxLen ∧ B ≤ g ∧ g < w.heap.size ∧ ∀ (k : Nat) t, L[k]? = some t → w.cell? ⟨g, k, none⟩ = some (.string t) := by
  rcases h.2 with ⟨rfl, h0⟩ | ⟨g, cap, cur, rfl, hgb, hg, hcap, hm, hsz, htk⟩
  · exact .inl ⟨rfl, List.eq_nil_of_length_eq_zero h0⟩
  · refine .inr ⟨g, cap, rfl, hcap, hm, hgb, (Array.getElem?_eq_some_iff.1 hg).1, fun k t ht => ?_⟩
    have hk := (List.getElem?_eq_some_iff.1 ht).1
    rw [cell_of_row w g k cur T (0, 0) hg]
    have h1 : (cur.toList.take (L.length * 1))[k]? = (L.map Value.string)[k]? := by rw [htk]
    rw [List.getElem?_take_of_lt (by omega), List.getElem?_map, ht] at h1
    simpa using h1
theorem one_str (t : ByteArray) : ∀ u ∈ [Value.string t], u.oneCell' = true := by
  intro u hu; simp at hu; subst hu; rfl
/-- A slice of texts: nil, or its cells (below the heap's end). -/
def isTexts (w : World) (v : Value) (ts : List ByteArray) : Prop :=
  (v = .slice none 0 0 ∧ ts = []) ∨ ∃ b o cap, v = .slice (some ⟨b, o, none⟩) ts.length cap ∧ b < w.heap.size ∧ ∀ (j : Nat) t, ts[j]? = some t → w.cell? ⟨b, o + j, none⟩ = some (.string t)
theorem own_texts {w : World} {B T : Nat} {v : Value} {L : List ByteArray} (h : w.ownsRow B T 1 v L.length (L.map Value.string)) : isTexts w v L := by
  rcases texts h with h | ⟨g, cap, h1, h2, h3, h4, h5, h6⟩
  · exact .inl h
  · exact .inr ⟨g, 0, cap, h1, h5, fun j t ht => by rw [Nat.zero_add]; exact h6 j t ht⟩
theorem take_texts {w : World} {g cap : Nat} {L : List ByteArray} (hg : g < w.heap.size) (hc : ∀ (k : Nat) t, L[k]? = some t → w.cell? ⟨g, k, none⟩ = some (.string t)) (n : Nat) (hn : n ≤ L.length) :
    isTexts w (.slice (some ⟨g, 0, none⟩) n cap) (L.take n) := by
  refine .inr ⟨g, 0, cap, by rw [List.length_take, Nat.min_eq_left hn], hg, fun j t ht => ?_⟩
  rw [Nat.zero_add]
  refine hc j t ?_
  have hj : j < n := by have := (List.getElem?_eq_some_iff.1 ht).1; rw [List.length_take] at this; omega
  rwa [List.getElem?_take_of_lt hj] at ht
theorem drop_texts {w : World} {g cap : Nat} {L : List ByteArray} (hg : g < w.heap.size) (hc : ∀ (k : Nat) t, L[k]? = some t → w.cell? ⟨g, k, none⟩ = some (.string t)) (n : Nat) :
    isTexts w (.slice (some ⟨g, n, none⟩) (L.length - n) cap) (L.drop n) := by
  refine .inr ⟨g, n, cap, by rw [List.length_drop], hg, fun j t ht => ?_⟩
  refine hc (n + j) t ?_
  rwa [List.getElem?_drop] at ht
theorem own_below {w w' : World} {B B' e size n : Nat} {v : Value} {xs : List Value} (h : w.ownsRow B e size v n xs) (hb : Below B' w w') (hB : ∀ k, v.ownBlock = some k → k < B') : w'.ownsRow B e size v n xs := by
  refine ⟨h.1, ?_⟩
  rcases h.2 with h0 | ⟨g, cap, cur, rfl, hgb, hg, rest⟩
  · exact .inl h0
  · exact .inr ⟨g, cap, cur, rfl, hgb, (hb.block g (hB g rfl)).trans hg, rest⟩
theorem own_call {w w' : World} {B e size n : Nat} {v : Value} {xs : List Value} (h : w.ownsRow B e size v n xs) (hb : Below w.heap.size w w') : w'.ownsRow B e size v n xs :=
  own_below h hb (fun k hk => (h.lt k hk).2)
theorem texts_call {w w' : World} {v : Value} {ts : List ByteArray} (h : isTexts w v ts) (hb : Below w.heap.size w w') : isTexts w' v ts := by
  rcases h with h | ⟨b, o, cap, rfl, hlt, hc⟩
  · exact .inl h
  · exact .inr ⟨b, o, cap, rfl, Nat.lt_of_lt_of_le hlt hb.size, fun j t ht => (hb.cell (p := ⟨b, o + j, none⟩) hlt).trans (hc j t ht)⟩
theorem below_drewN {B : Nat} {a w : World} (h : Below B a w) (q : Nat) : Below B a (w.drewN q) := h.trans ⟨rfl, rfl, rfl, Nat.le_refl _, fun _ _ => rfl⟩
/-- A slice of texts: its shape, and its cells in whatever world comes behind. -/
theorem texts_shape {w : World} {v : Value} {ts : List ByteArray} (h : isTexts w v ts) : ∃ a cap, v = .slice a ts.length cap := by
  rcases h with ⟨rfl, rfl⟩ | ⟨b, o, cap, rfl, _⟩ <;> exact ⟨_, _, rfl⟩
theorem own_textsN {w : World} {B T n : Nat} {v : Value} {L : List ByteArray} (h : w.ownsRow B T 1 v n (L.map Value.string)) (hn : L.length = n) : isTexts w v L := by
  subst hn; exact own_texts h
end Mem
end Go.Proofs.YtepmojmelcngeaaGreatDoor

/- The walk of the specification's l01Split: the pieces lie in a row of the call's own. -/
namespace Go.Proofs.YtepmojmelcngeaaGreatDoor
open Go.RowKit
namespace WSplit
theorem infoS : (Tryz.prog.info? 9).map (fun i => (i.zero, i.size, i.bytes)) = some (some (.string ⟨#[]⟩), 1, 16) := by kernel_rfl

set_option maxRecDepth 100000 in
set_option maxHeartbeats 400000 in
theorem split_any (s : ByteArray) (b : Nat) (w : World) (hs : s.size ≤ 1048576) :
    Calls Tryz.prog 98 #[.string s, .int .u8 (b : Int)] w fun e w' => ∃ v, e = .returned v ∧
      w'.ownsRow w.heap.size 9 1 v (Pl.cut s b).length ((Pl.cut s b).map Value.string) ∧ Below w.heap.size w w' := by
  obtain ⟨i0, hi, hz0, hz1, hz2⟩ := info_parts infoS
  go_enter Tryz.func98, Tryz.ntmps98
  go_wp2
  go_loopw [5, 6, 7] (fun v x i wr => ∃ (k fr : Nat) (L : List ByteArray), k ≤ s.size ∧ fr ≤ k ∧ L.length ≤ k ∧ i = .int .i64 (k : Int) ∧ x = .int .i64 (fr : Int) ∧
      wr.ownsRow w.heap.size 9 1 v L.length (L.map Value.string) ∧ Below w.heap.size w wr ∧ Hid (Pl.cut s b = L ++ Pl.cutF s b (s.size - k) fr k)) (fun _ _ i _ => s.size - (intOf i).toNat)
  case atStart => exact ⟨0, 0, [], by omega, by omega, by simp, rfl, rfl, World.ownsRow_made _ _ 0 (Nat.le_refl _) (Nat.zero_le _) rfl, (Below.refl _ _).alloc (Nat.le_refl _) _, rfl⟩
  case round =>
    obtain ⟨k, fr, L, hk, hfr, hL, rfl, rfl, hown, hbel, H⟩ := hrel
    have hb1 := hbel.size
    by_cases hlt : k < s.size
    · have hf : s.size - k = s.size - (k + 1) + 1 := by omega
      have t1 : (0 : Int) ≤ (fr : Int) := by omega
      have t2 : (fr : Int) ≤ (k : Int) := by omega
      have t3 : (k : Int) ≤ (s.size : Int) := by omega
      by_cases hq : s[k].toNat = b
      · have H2 : Hid (Pl.cut s b = (L ++ [s.extract fr k]) ++ Pl.cutF s b (s.size - (k + 1)) (k + 1) (k + 1)) := by
          show _ = _
          rw [H.out, hf, Pl.cutF_hit hlt hq]; simp
        have t4 : ((s[k].toNat : Int) == (b : Int)) = true := by rw [beq_iff_eq]; omega
        clear H hf hq
        go_wp2_with (at_builtin; refine wpList_append_own _ rfl _ _ 46 rfl w.heap.size 9 i0 (.string ⟨#[]⟩) 1 16 Tryz.underlying46 hi hz0 hz1 hz2 rfl (by decide) _ _ _ rfl (hown.alloc _) ⟨wr.heap.size, 0, none⟩ 1 1 [.string (s.extract fr k)] rfl rfl ?c1 ?c2 ?c3 ?c4 ?c5 ?_)
        case c1 => exact Mem.one_new _ _ _
        case c2 => intro u hu; simp at hu; subst hu; rfl
        case c3 => unfold maxLen; omega
        case c4 => omega
        case c5 => simp; omega
        · intro v' w2 hown' hgrow _
          have hbel' := Mem.below_append hbel (Nat.le_refl _) hown hgrow
          have hown2 : w2.ownsRow w.heap.size 9 1 v' (L ++ [s.extract fr k]).length ((L ++ [s.extract fr k]).map Value.string) := by simpa using hown'
          clear hgrow hown hbel hown' t4
          go_wp2
          go_roundw
          case rel => exact ⟨k + 1, k + 1, L ++ [s.extract fr k], by omega, by omega, by simp; omega, by go_num, by go_num, hown2, hbel', H2⟩
          case measure => simp [intOf]; omega
      · have H2 : Hid (Pl.cut s b = L ++ Pl.cutF s b (s.size - (k + 1)) fr (k + 1)) := by
          show _ = _
          rw [H.out, hf, Pl.cutF_miss hlt hq]
        have t4 : ((s[k].toNat : Int) == (b : Int)) = false := by rw [beq_eq_false_iff_ne]; omega
        clear H hf hq
        go_wp2
        go_roundw
        case rel => exact ⟨k + 1, fr, L, by omega, by omega, by omega, by go_num, rfl, hown, hbel, H2⟩
        case measure => simp [intOf]; omega
    · obtain rfl : k = s.size := by omega
      have H2 : Hid (Pl.cut s b = L ++ [s.extract fr s.size]) := by
        show _ = _
        rw [H.out, Nat.sub_self]; rfl
      have t1 : (0 : Int) ≤ (fr : Int) := by omega
      have t2 : (fr : Int) ≤ (s.size : Int) := by omega
      clear H
      go_wp2_with (at_builtin; refine wpList_append_own _ rfl _ _ 46 rfl w.heap.size 9 i0 (.string ⟨#[]⟩) 1 16 Tryz.underlying46 hi hz0 hz1 hz2 rfl (by decide) _ _ _ rfl (hown.alloc _) ⟨wr.heap.size, 0, none⟩ 1 1 [.string (s.extract fr s.size)] rfl rfl ?c1 ?c2 ?c3 ?c4 ?c5 ?_)
      case c1 => exact Mem.one_new _ _ _
      case c2 => intro u hu; simp at hu; subst hu; rfl
      case c3 => unfold maxLen; omega
      case c4 => omega
      case c5 => simp; omega
      · intro v' w2 hown' hgrow _
        have hbel' := Mem.below_append hbel (Nat.le_refl _) hown hgrow
        have hown2 : w2.ownsRow w.heap.size 9 1 v' (Pl.cut s b).length ((Pl.cut s b).map Value.string) := by rw [H2.out]; simpa using hown'
        clear hgrow hown hbel hown'
        go_wp2
        go_ret
        exact ⟨_, rfl, hown2, hbel'⟩
end WSplit
end Go.Proofs.YtepmojmelcngeaaGreatDoor

/- The walks of NameRight, the program's and the specification's: both answer whether the text is a name. -/
namespace Go.Proofs.YtepmojmelcngeaaGreatDoor
open Go.RowKit
namespace WName

set_option maxHeartbeats 400000 in
theorem spec_any (s : ByteArray) (w : World) (hs : s.size ≤ maxLen) :
    Calls Tryz.prog 61 #[.string s] w fun e w' => e = .returned (.bool (Pl.nameB s)) ∧ w' = w := by
  unfold maxLen at hs
  by_cases h1 : s.size < 1
  · have e0 := hide (Pl.nameB_short h1)
    go_enter Tryz.func61, Tryz.ntmps61
    go_wp2
    go_ret
    exact ⟨ret_bool (unhide e0).symm, rfl⟩
  by_cases h2 : 20 < s.size
  · have e0 := hide (Pl.nameB_long h2)
    go_enter Tryz.func61, Tryz.ntmps61
    go_wp2
    go_ret
    exact ⟨ret_bool (unhide e0).symm, rfl⟩
  go_enter Tryz.func61, Tryz.ntmps61
  go_wp2
  go_loop [3] (fun i => ∃ k : Nat, k ≤ s.size ∧ i = .int .i64 k ∧ Hid (∀ j, j < k → Pl.okAt j ((s.data.toList.getD j 0).toNat))) (fun i => s.size - (intOf i).toNat)
  case atStart => exact ⟨0, Nat.zero_le _, rfl, fun j hj => absurd hj (by omega)⟩
  case round =>
    obtain ⟨k, hk, rfl, hok⟩ := hrel
    by_cases hlt : k < s.size
    · by_cases hk0 : k = 0
      · subst hk0
        have okc : ∀ n : Nat, Pl.okAt 0 n ↔ (97 ≤ n ∧ n ≤ 122) := fun n => by unfold Pl.okAt; omega
        have OK := hide okc
        clear okc
        rcases Pl.kinds (s[0].toNat : Int) with ⟨a1, a2⟩ | ⟨a1, a2, a3, a4⟩ | ⟨a1, a2, a3, a4⟩ | ⟨a1, a2, a3, a4⟩ | ⟨a1, a2, a3⟩ | ⟨a1, a2, a3, a4, a5⟩
        · go_wp2
          go_round
          case rel => exact ⟨1, by omega, rfl, Pl.ok_step hok.out hlt ((unhide OK _).2 (by omega))⟩
          case measure => simp [intOf]; omega
        all_goals
          go_wp2
          go_ret
          exact ⟨ret_bool (Pl.nameB_bad 0 hlt (by rw [unhide OK]; omega)).symm, rfl⟩
      · have hkb : ((k : Int) == 0) = false := by simp; omega
        have okc : ∀ n : Nat, Pl.okAt k n ↔ (97 ≤ n ∧ n ≤ 122) ∨ (48 ≤ n ∧ n ≤ 57) ∨ n = 95 := fun n => by unfold Pl.okAt; omega
        have OK := hide okc
        clear okc
        rcases Pl.kinds (s[k].toNat : Int) with ⟨a1, a2⟩ | ⟨a1, a2, a3, a4⟩ | ⟨a1, a2, a3, a4⟩ | ⟨a1, a2, a3, a4⟩ | ⟨a1, a2, a3⟩ | ⟨a1, a2, a3, a4, a5⟩
        · go_wp2
          go_round
          case rel => exact ⟨k + 1, by omega, by go_num, Pl.ok_step hok.out hlt ((unhide OK _).2 (by omega))⟩
          case measure => simp [intOf]; omega
        · go_wp2
          go_round
          case rel => exact ⟨k + 1, by omega, by go_num, Pl.ok_step hok.out hlt ((unhide OK _).2 (by omega))⟩
          case measure => simp [intOf]; omega
        · go_wp2
          go_ret
          exact ⟨ret_bool (Pl.nameB_bad k hlt (by rw [unhide OK]; simp at a4; omega)).symm, rfl⟩
        · go_wp2
          go_round
          case rel => exact ⟨k + 1, by omega, by go_num, Pl.ok_step hok.out hlt ((unhide OK _).2 (by simp at a4; omega))⟩
          case measure => simp [intOf]; omega
        all_goals
          go_wp2
          go_ret
          exact ⟨ret_bool (Pl.nameB_bad k hlt (by rw [unhide OK]; omega)).symm, rfl⟩
    · have e0 : Pl.nameB s = true := Pl.nameB_good h1 h2 (fun j hj => hok.out j (by omega))
      have E0 := hide e0
      clear e0
      go_wp2
      go_ret
      exact ⟨ret_bool (unhide E0).symm, rfl⟩

set_option maxHeartbeats 400000 in
theorem impl_any (s : ByteArray) (w : World) (hs : s.size ≤ maxLen) :
    Calls Tryz.prog 120 #[.string s] w fun e w' => e = .returned (.bool (Pl.nameB s)) ∧ w' = w := by
  unfold maxLen at hs
  by_cases h1 : s.size < 1
  · have e0 := hide (Pl.nameB_short h1)
    go_enter Tryz.func120, Tryz.ntmps120
    go_wp2
    go_ret
    exact ⟨ret_bool (unhide e0).symm, rfl⟩
  by_cases h2 : 20 < s.size
  · have e0 := hide (Pl.nameB_long h2)
    go_enter Tryz.func120, Tryz.ntmps120
    go_wp2
    go_ret
    exact ⟨ret_bool (unhide e0).symm, rfl⟩
  have hp : 0 < s.size := by omega
  by_cases hl : 97 ≤ (s[0].toNat : Int) ∧ (s[0].toNat : Int) ≤ 122
  · obtain ⟨l1, l2⟩ := hl
    have H0 : Hid (Pl.okAt 0 s[0].toNat) := Or.inl (by omega)
    go_enter Tryz.func120, Tryz.ntmps120
    go_wp2
    go_loop [21] (fun i => ∃ k : Nat, k ≤ s.size ∧ i = .int .i64 k ∧ Hid (∀ j, j < k → Pl.okAt j ((s.data.toList.getD j 0).toNat))) (fun i => s.size - (intOf i).toNat)
    case atStart => exact ⟨0, Nat.zero_le _, rfl, fun j hj => absurd hj (by omega)⟩
    case round =>
      obtain ⟨k, hk, rfl, hok⟩ := hrel
      by_cases hlt : k < s.size
      · have hstep : Hid ((97 ≤ s[k].toNat ∧ s[k].toNat ≤ 122) ∨ (48 ≤ s[k].toNat ∧ s[k].toNat ≤ 57) ∨ s[k].toNat = 95 → ∀ j, j < k + 1 → Pl.okAt j ((s.data.toList.getD j 0).toNat)) := by
          intro ho
          refine Pl.ok_step hok.out hlt ?_
          by_cases hk0 : k = 0
          · subst hk0; exact H0
          · unfold Pl.okAt; omega
        have hbad : Hid (¬ ((97 ≤ s[k].toNat ∧ s[k].toNat ≤ 122) ∨ (48 ≤ s[k].toNat ∧ s[k].toNat ≤ 57) ∨ s[k].toNat = 95) → Pl.nameB s = false) := by
          intro hn
          exact Pl.nameB_bad k hlt (by unfold Pl.okAt; omega)
        clear l1 l2 H0 hok
        rcases Pl.kinds (s[k].toNat : Int) with ⟨a1, a2⟩ | ⟨a1, a2, a3, a4⟩ | ⟨a1, a2, a3, a4⟩ | ⟨a1, a2, a3, a4⟩ | ⟨a1, a2, a3⟩ | ⟨a1, a2, a3, a4, a5⟩
        · go_wp2
          go_round
          case rel => exact ⟨k + 1, by omega, by go_num, hstep.out (by omega)⟩
          case measure => simp [intOf]; omega
        · go_wp2
          go_round
          case rel => exact ⟨k + 1, by omega, by go_num, hstep.out (by omega)⟩
          case measure => simp [intOf]; omega
        · go_wp2
          go_ret
          exact ⟨ret_bool (hbad.out (by simp at a4; omega)).symm, rfl⟩
        · go_wp2
          go_round
          case rel => exact ⟨k + 1, by omega, by go_num, hstep.out (by simp at a4; omega)⟩
          case measure => simp [intOf]; omega
        all_goals
          go_wp2
          go_ret
          exact ⟨ret_bool (hbad.out (by omega)).symm, rfl⟩
      · have e0 : Pl.nameB s = true := Pl.nameB_good h1 h2 (fun j hj => hok.out j (by omega))
        have E0 := hide e0
        clear e0
        go_wp2
        go_ret
        exact ⟨ret_bool (unhide E0).symm, rfl⟩
  · have e0 : Pl.nameB s = false := Pl.nameB_bad 0 hp (by unfold Pl.okAt; omega)
    have E0 := hide e0
    clear e0
    by_cases g1 : 97 ≤ (s[0].toNat : Int)
    · have g2 : ¬ (s[0].toNat : Int) ≤ 122 := by omega
      clear hl
      go_enter Tryz.func120, Tryz.ntmps120
      go_wp2
      go_ret
      exact ⟨ret_bool (unhide E0).symm, rfl⟩
    · clear hl
      go_enter Tryz.func120, Tryz.ntmps120
      go_wp2
      go_ret
      exact ⟨ret_bool (unhide E0).symm, rfl⟩
end WName
end Go.Proofs.YtepmojmelcngeaaGreatDoor

/- The walks of the specification's l02Names and PathRight. -/
namespace Go.Proofs.YtepmojmelcngeaaGreatDoor
open Go.RowKit
namespace WPathS

theorem names_any (s : ByteArray) (w : World) (hs : s.size ≤ 1048576) :
    Calls Tryz.prog 62 #[.string s] w fun e w' => ∃ v, e = .returned v ∧
      w'.ownsRow w.heap.size 9 1 v (Pl.names s).length ((Pl.names s).map Value.string) ∧ Below w.heap.size w w' := by
  by_cases h0 : s.size = 0
  · have E : Hid (Pl.names s = []) := if_pos h0
    obtain rfl : s = ⟨#[]⟩ := by apply ByteArray.ext; exact Array.eq_empty_of_size_eq_zero h0
    go_enter Tryz.func62, Tryz.ntmps62
    go_wp2
    go_ret
    refine ⟨_, rfl, ?_, (Below.refl _ _).alloc (Nat.le_refl _) _⟩
    rw [E.out]
    exact World.ownsRow_made _ _ 0 (Nat.le_refl _) (Nat.zero_le _) rfl
  · have E : Hid (Pl.names s = Pl.cut s 47) := if_neg h0
    have t0 : s.toList.isEmpty = false := by
      rw [List.isEmpty_eq_false_iff, ByteArray.toList_eq]
      intro h
      have h1 : s.data.toList.length = 0 := by rw [h]; rfl
      rw [Array.length_toList] at h1
      exact h0 h1
    go_enter Tryz.func62, Tryz.ntmps62
    go_wp2_with fail
    refine (WSplit.split_any s 47 _ hs).mono ?_
    rintro e w1 ⟨v, rfl, hown, hb⟩
    have HO := hide hown
    clear hown
    go_wp2
    go_ret
    exact ⟨_, rfl, by rw [E.out]; exact unhide HO, hb⟩

set_option maxRecDepth 100000 in
set_option maxHeartbeats 400000 in
theorem right_any (s : ByteArray) (w : World) (hs : s.size ≤ maxLen) :
    Calls Tryz.prog 57 #[.string s] w fun e w' => e = .returned (.bool (Pl.pathB s)) ∧ Below w.heap.size w w' := by
  unfold maxLen at hs
  by_cases h2 : 200 < s.size
  · have E := hide (Pl.pathB_long h2)
    go_enter Tryz.func57, Tryz.ntmps57
    go_wp2
    go_ret
    exact ⟨ret_bool (unhide E).symm, Below.refl _ _⟩
  have hlen := Pl.names_length s
  have HSZ : Hid (∀ (k : Nat) t, (Pl.names s)[k]? = some t → t.size ≤ maxLen) := fun k t ht => by
    have := Pl.names_size ht
    unfold maxLen; omega
  have HBAD : Hid (∀ (k : Nat) t, (Pl.names s)[k]? = some t → Pl.nameB t = false → Pl.pathB s = false) := fun k t ht hb => Pl.pathB_bad ht hb
  have HGOOD : Hid ((∀ (j : Nat) t, (Pl.names s)[j]? = some t → Pl.nameB t = true) → Pl.pathB s = decide ((Pl.names s).length ≤ 6)) := fun h => Pl.pathB_good (by omega) h
  have hn := hide (names_any s w (by omega))
  generalize Pl.names s = L at hn hlen HSZ HBAD HGOOD
  go_enter Tryz.func57, Tryz.ntmps57
  go_wp2_with fail
  refine (unhide hn).mono ?_
  rintro e w1 ⟨v, rfl, hown, hbel⟩
  rcases hown.2 with ⟨rfl, h0⟩ | ⟨g, cap, cur, rfl, hgb, hg, hcap, hm, hsz, htk⟩
  · obtain rfl : L = [] := List.eq_nil_of_length_eq_zero h0
    have E := hide (HGOOD.out (fun j t h => by simp at h))
    clear hown hn HGOOD HBAD HSZ
    go_wp2
    go_loop [4] (fun i => i = .int .i64 0) (fun _ => 0)
    case atStart => rfl
    case round =>
      subst hrel
      go_wp2
      go_ret
      exact ⟨ret_bool (by rw [unhide E]; rfl), hbel⟩
  · have hcell : ∀ (k : Nat) t, L[k]? = some t → w1.cell? ⟨g, k, none⟩ = some (.string t) := by
      intro k t ht
      have hk := (List.getElem?_eq_some_iff.1 ht).1
      rw [cell_of_row w1 g k cur 9 (0, 0) hg]
      have h1 : (cur.toList.take (L.length * 1))[k]? = (L.map Value.string)[k]? := by rw [htk]
      rw [List.getElem?_take_of_lt (by omega), List.getElem?_map, ht] at h1
      simpa using h1
    have HC := hide hcell
    clear hcell hown hn hg htk hsz
    have hm2 := hm
    unfold maxLen at hm2
    go_wp2
    go_loop [4] (fun i => ∃ k : Nat, k ≤ L.length ∧ i = .int .i64 (k : Int) ∧ Hid (∀ (j : Nat) t, j < k → L[j]? = some t → Pl.nameB t = true)) (fun i => L.length - (intOf i).toNat)
    case atStart => exact ⟨0, Nat.zero_le _, rfl, fun j t h => absurd h (by omega)⟩
    case round =>
      obtain ⟨k, hk, rfl, HA⟩ := hrel
      by_cases hlt : k < L.length
      · obtain ⟨t, ht⟩ : ∃ t, L[k]? = some t := ⟨_, List.getElem?_eq_getElem hlt⟩
        have hc := HC.out k t ht
        have hts := HSZ.out k t ht
        cases hb : Pl.nameB t
        · have E := hide (HBAD.out k t ht hb)
          have HB := hide hb
          clear ht hb
          go_wp2_with (go_at_call 61; refine (WName.spec_any t _ hts).mono ?_; rw [unhide HB]; rintro e w' ⟨rfl, hw⟩; obtain rfl := hw.symm)
          go_ret
          exact ⟨ret_bool (unhide E).symm, hbel⟩
        · have HB := hide hb
          have HA2 : Hid (∀ (j : Nat) t, j < k + 1 → L[j]? = some t → Pl.nameB t = true) := fun j t' hj h' => by
            rcases Nat.lt_succ_iff_lt_or_eq.1 hj with h'' | rfl
            · exact HA.out j t' h'' h'
            · rw [ht] at h'; cases h'; exact hb
          clear ht hb HA
          go_wp2_with (go_at_call 61; refine (WName.spec_any t _ hts).mono ?_; rw [unhide HB]; rintro e w' ⟨rfl, hw⟩; obtain rfl := hw.symm)
          go_round
          case rel => exact ⟨k + 1, by omega, by go_num, HA2⟩
          case measure => simp [intOf]; omega
      · have E := hide (HGOOD.out (fun j t h => HA.out j t (by have := (List.getElem?_eq_some_iff.1 h).1; omega) h))
        clear HA
        by_cases h6 : L.length ≤ 6
        · have t6 : (L.length : Int) ≤ 6 := by omega
          go_wp2
          go_ret
          exact ⟨ret_bool (by rw [unhide E]; simp [h6]), hbel⟩
        · have t6 : ¬ (L.length : Int) ≤ 6 := by omega
          go_wp2
          go_ret
          exact ⟨ret_bool (by rw [unhide E]; simp [h6]), hbel⟩
end WPathS
end Go.Proofs.YtepmojmelcngeaaGreatDoor

/- A variable of some cells, through calls. No program in sight. -/
namespace Go.Proofs.YtepmojmelcngeaaGreatDoor
open Go.RowKit
namespace Mem
def Var (w : World) (B : Nat) (cs : List Value) : Prop := B < w.heap.size ∧ ∀ (j : Nat) v, cs[j]? = some v → w.cell? ⟨B, j, none⟩ = some v
theorem var_call {w w' : World} {B : Nat} {cs : List Value} (h : Var w B cs) (b : Below w.heap.size w w') : Var w' B cs :=
  ⟨Nat.lt_of_lt_of_le h.1 b.size, fun j v hv => (b.cell (p := ⟨B, j, none⟩) h.1).trans (h.2 j v hv)⟩
theorem var_new (w : World) (cs : List Value) (T : TypeId) : Var (w.alloc (.cells cs.toArray T)) w.heap.size cs :=
  ⟨by simp, fun j v hv => by rw [cell_of_row _ _ j _ T (0, 0) (heap_alloc_new w _)]; simpa using hv⟩
theorem var_alloc {w : World} {B : Nat} {cs : List Value} (h : Var w B cs) (o : Obj) : Var (w.alloc o) B cs :=
  var_call h ((Below.refl _ _).alloc (Nat.le_refl _) o)
theorem var_drew {w : World} {B : Nat} {cs : List Value} (h : Var w B cs) : Var w.drew B cs := h
theorem new_two (w : World) (o1 o2 : Obj) : ((w.alloc o1).alloc o2).heap[w.heap.size + 1]? = some o2 := by
  have h := heap_alloc_new (w.alloc o1) o2
  rwa [show (w.alloc o1).heap.size = w.heap.size + 1 by simp] at h
theorem new_mid (w : World) (o1 o2 o3 : Obj) : (((w.alloc o1).alloc o2).alloc o3).heap[w.heap.size + 1]? = some o2 :=
  ((World.grownBy_alloc ((w.alloc o1).alloc o2) o3 none).block (w.heap.size + 1) (by simp) (by simp)).trans (new_two w o1 o2)
theorem new_three (w : World) (o1 o2 o3 : Obj) : (((w.alloc o1).alloc o2).alloc o3).heap[w.heap.size + 1 + 1]? = some o3 := by
  have h := heap_alloc_new ((w.alloc o1).alloc o2) o3
  rwa [show ((w.alloc o1).alloc o2).heap.size = w.heap.size + 1 + 1 by simp] at h
end Mem
end Go.Proofs.YtepmojmelcngeaaGreatDoor

/- Rows of nodes. No program in sight. -/
namespace Go.Proofs.YtepmojmelcngeaaGreatDoor
open Go.RowKit
namespace Mem
/-- A slice of nodes: its length, and its cells (below the heap's end). -/
def isNodes (w : World) (a : Option Addr) (L : List Pl.Nd) : Prop :=
  ∀ (i : Nat) n, L[i]? = some n → ∃ b o, a = some ⟨b, o, none⟩ ∧ b < w.heap.size ∧
    w.cell? ⟨b, o + i * 5, none⟩ = some (.string n.path) ∧ w.cell? ⟨b, o + i * 5 + 1, none⟩ = some (.int .i64 n.kind) ∧ w.cell? ⟨b, o + i * 5 + 2, none⟩ = some (.string n.data) ∧
    w.cell? ⟨b, o + i * 5 + 3, none⟩ = some (.int .i64 n.time) ∧ w.cell? ⟨b, o + i * 5 + 4, none⟩ = some (.int .i64 n.mark)
theorem nodes_call {w w' : World} {a : Option Addr} {L : List Pl.Nd} (h : isNodes w a L) (b : Below w.heap.size w w') : isNodes w' a L := fun i n hi => by
  obtain ⟨g, o, h1, h2, h3, h4, h5, h6, h7⟩ := h i n hi
  exact ⟨g, o, h1, Nat.lt_of_lt_of_le h2 b.size, (b.cell (p := ⟨g, _, none⟩) h2).trans h3, (b.cell (p := ⟨g, _, none⟩) h2).trans h4, (b.cell (p := ⟨g, _, none⟩) h2).trans h5, (b.cell (p := ⟨g, _, none⟩) h2).trans h6, (b.cell (p := ⟨g, _, none⟩) h2).trans h7⟩
theorem add_any (b o j : Nat) : (⟨b, o, none⟩ : Addr).add j = ⟨b, o + j, none⟩ := by unfold Addr.add; split <;> simp_all
theorem nodes_nil (w : World) (a : Option Addr) : isNodes w a [] := fun i n hi => by simp at hi
end Mem
end Go.Proofs.YtepmojmelcngeaaGreatDoor

/- Rows of nodes that are the call's own: what is in them, one more behind them, and what the marks of a law do to them. -/
namespace Go.Proofs.YtepmojmelcngeaaGreatDoor
open Go.RowKit
namespace Pl
/-- A node's five cells. -/
def Nd.cs (n : Nd) : List Value := [.string n.path, .int .i64 n.kind, .string n.data, .int .i64 n.time, .int .i64 n.mark]
def cellsN (L : List Nd) : List Value := L.flatMap Nd.cs
theorem cellsN_len (L : List Nd) : (cellsN L).length = L.length * 5 := by
  induction L with
  | nil => rfl
  | cons n L ih => rw [cellsN, List.flatMap_cons, List.length_append, ← cellsN, ih, List.length_cons]; simp [Nd.cs]; omega
theorem cellsN_cons (n : Nd) (L : List Nd) : cellsN (n :: L) = n.cs ++ cellsN L := by simp [cellsN]
theorem cellsN_app (L M : List Nd) : cellsN (L ++ M) = cellsN L ++ cellsN M := by simp [cellsN]
theorem cellsN_get (L : List Nd) (i : Nat) (n : Nd) (h : L[i]? = some n) (j : Nat) (hj : j < 5) : (cellsN L)[i * 5 + j]? = n.cs[j]? := by
  induction L generalizing i with
  | nil => simp at h
  | cons m L ih =>
    rw [cellsN_cons]
    have hl : m.cs.length = 5 := rfl
    match i, h with
    | 0, h =>
      simp at h; subst h
      rw [List.getElem?_append_left (by rw [hl]; omega)]
      simp
    | i + 1, h =>
      rw [List.getElem?_append_right (by rw [hl]; omega), hl, show (i + 1) * 5 + j - 5 = i * 5 + j by omega]
      exact ih i (by simpa using h)
end Pl
namespace Mem
/-- A row of nodes of the call's own (or none). -/
def ownN (w : World) (B : Nat) (v : Value) (L : List Pl.Nd) : Prop := w.ownsRow B 36 5 v L.length (Pl.cellsN L)
theorem ownN_nil (w : World) (B : Nat) : ownN w B (.slice none 0 0) [] := ⟨rfl, .inl ⟨rfl, rfl⟩⟩
theorem ownN_is {w : World} {B : Nat} {v : Value} {L : List Pl.Nd} (h : ownN w B v L) : ∃ a cap, v = .slice a L.length cap ∧ isNodes w a L := by
  rcases h.2 with ⟨rfl, h0⟩ | ⟨g, cap, cur, rfl, hb, hg, hc, hm, hsz, ht⟩
  · exact ⟨none, 0, by rw [h0], fun i n hi => by rw [List.length_eq_zero_iff.1 h0] at hi; simp at hi⟩
  · refine ⟨some ⟨g, 0, none⟩, cap, rfl, fun i n hi => ?_⟩
    have hlt : i < L.length := (List.getElem?_eq_some_iff.1 hi).1
    have c : ∀ j, j < 5 → w.cell? ⟨g, 0 + i * 5 + j, none⟩ = n.cs[j]? := fun j hj => by
      rw [cell_of_row w g _ cur _ (0, 0) hg, Nat.zero_add, ← Pl.cellsN_get L i n hi j hj, ← ht, List.getElem?_take_of_lt (by omega), Array.getElem?_toList]
    exact ⟨g, 0, rfl, (Array.getElem?_eq_some_iff.1 hg).1, c 0 (by omega), c 1 (by omega), c 2 (by omega), c 3 (by omega), c 4 (by omega)⟩
theorem cs_one (n : Pl.Nd) : ∀ u ∈ n.cs, u.oneCell' = true := by
  intro u hu
  simp only [Pl.Nd.cs, List.mem_cons, List.not_mem_nil, or_false] at hu
  rcases hu with rfl | rfl | rfl | rfl | rfl <;> rfl
/-- A node that is alone in a block that was just made. -/
theorem cs_new (w : World) (n : Pl.Nd) (T : TypeId) : ∀ j u, n.cs[j]? = some u → (w.alloc (.cells n.cs.toArray T)).cell? ((⟨w.heap.size, 0, none⟩ : Addr).add j) = some u := by
  intro j u hj
  rw [Mem.add_lit]
  exact (Mem.var_new w n.cs T).2 j u hj
theorem cs_var {w : World} {X : Nat} (n : Pl.Nd) (h : Mem.Var w X n.cs) : ∀ j u, n.cs[j]? = some u → w.cell? ((⟨X, 0, none⟩ : Addr).add j) = some u := by
  intro j u hj
  rw [Mem.add_lit]
  exact h.2 j u hj
theorem ownN_snoc {w : World} {B : Nat} {v : Value} {L : List Pl.Nd} {n : Pl.Nd} (h : w.ownsRow B 36 5 v (L.length + 1) (Pl.cellsN L ++ n.cs)) : ownN w B v (L ++ [n]) := by
  unfold ownN
  rw [Pl.cellsN_app, List.length_append]
  have e : Pl.cellsN [n] = n.cs := by simp [Pl.cellsN]
  rw [e]; exact h
theorem ownN_call {w w' : World} {B : Nat} {v : Value} {L : List Pl.Nd} (h : ownN w B v L) (b : Below w.heap.size w w') : ownN w' B v L := by
  refine ⟨h.1, ?_⟩
  rcases h.2 with h0 | ⟨g, cap, cur, hv, hb, hg, rest⟩
  · exact .inl h0
  · exact .inr ⟨g, cap, cur, hv, hb, (b.block _ (Array.getElem?_eq_some_iff.1 hg).1).trans hg, rest⟩
theorem ownN_mono {w : World} {B B' : Nat} {v : Value} {L : List Pl.Nd} (h : ownN w B v L) (hb : B' ≤ B) : ownN w B' v L := own_mono h hb
end Mem
end Go.Proofs.YtepmojmelcngeaaGreatDoor

/- A block of cells that stands in the heap: through calls, new blocks, appends and stores. No program in sight. -/
namespace Go.Proofs.YtepmojmelcngeaaGreatDoor
open Go.RowKit
namespace Mem
def Blk (w : World) (X : Nat) (cs : Array Value) (T : TypeId) : Prop := w.heap[X]? = some (.cells cs T (0, 0))
theorem Blk.lt {w : World} {X : Nat} {cs : Array Value} {T : TypeId} (h : Blk w X cs T) : X < w.heap.size := (Array.getElem?_eq_some_iff.1 h).1
theorem Blk.cell {w : World} {X : Nat} {cs : Array Value} {T : TypeId} (h : Blk w X cs T) (k : Nat) : w.cell? ⟨X, k, none⟩ = cs[k]? := cell_of_row w X k cs T (0, 0) h
theorem Blk.fr {w : World} {X : Nat} {cs : Array Value} {T : TypeId} (h : Blk w X cs T) (k : Nat) : w.frozen? ⟨X, k, none⟩ = false := row_frozen h
theorem Blk.call {w w' : World} {X : Nat} {cs : Array Value} {T : TypeId} (h : Blk w X cs T) (b : Below w.heap.size w w') : Blk w' X cs T := (b.block _ h.lt).trans h
theorem Blk.below {w w' : World} {X B : Nat} {cs : Array Value} {T : TypeId} (h : Blk w X cs T) (b : Below B w w') (hX : X < B) : Blk w' X cs T := (b.block _ hX).trans h
theorem Blk.alloc {w : World} {X : Nat} {cs : Array Value} {T : TypeId} (h : Blk w X cs T) (o : Obj) : Blk (w.alloc o) X cs T := h.call ((Below.refl _ _).alloc (Nat.le_refl _) o)
theorem Blk.new (w : World) (cs : Array Value) (T : TypeId) : Blk (w.alloc (.cells cs T)) w.heap.size cs T := heap_alloc_new w _
theorem Blk.grown {w w' : World} {X : Nat} {cs : Array Value} {T : TypeId} {r : Option Nat} (h : Blk w X cs T) (g : w.grownBy w' r) (hr : some X ≠ r) : Blk w' X cs T := (g.block _ h.lt hr).trans h
theorem Blk.put {w : World} {X : Nat} {cs : Array Value} {T : TypeId} (h : Blk w X cs T) (k : Nat) (v : Value) : Blk (w.setCell ⟨X, k, none⟩ v) X (cs.setIfInBounds k v) T := heap_setCell_same w X k cs T v h
theorem Blk.far {w : World} {X : Nat} {cs : Array Value} {T : TypeId} (h : Blk w X cs T) (a : Addr) (v : Value) (ha : X ≠ a.block) : Blk (w.setCell a v) X cs T := (heap_setCell_other w a X v ha).trans h
theorem ownN_set {w : World} {B : Nat} {v : Value} {L : List Pl.Nd} (h : ownN w B v L) (a : Addr) (u : Value) (ha : a.block < B) : ownN (w.setCell a u) B v L := by
  refine ⟨h.1, ?_⟩
  rcases h.2 with h0 | ⟨g, cap, cur, hv, hb, hg, rest⟩
  · exact .inl h0
  · exact .inr ⟨g, cap, cur, hv, hb, (heap_setCell_other w a g u (by omega)).trans hg, rest⟩
theorem ownN_far {w : World} {B : Nat} {v : Value} {L : List Pl.Nd} (h : ownN w B v L) (a : Addr) (u : Value) (ha : ∀ g, v.ownBlock = some g → a.block ≠ g) : ownN (w.setCell a u) B v L := by
  refine ⟨h.1, ?_⟩
  rcases h.2 with h0 | ⟨g, cap, cur, rfl, hb, hg, rest⟩
  · exact .inl h0
  · exact .inr ⟨g, cap, cur, rfl, hb, (heap_setCell_other w a g u (fun e => ha g rfl e.symm)).trans hg, rest⟩
theorem ownN_alloc {w : World} {B : Nat} {v : Value} {L : List Pl.Nd} (h : ownN w B v L) (o : Obj) : ownN (w.alloc o) B v L := ownN_call h ((Below.refl _ _).alloc (Nat.le_refl _) o)
theorem ownN_lt {w : World} {B : Nat} {v : Value} {L : List Pl.Nd} (h : ownN w B v L) : ∀ g, v.ownBlock = some g → B ≤ g ∧ g < w.heap.size := fun g hg => World.ownsRow.lt h g hg
theorem ownN_nodes {w : World} {B n cap : Nat} {a : Option Addr} {L : List Pl.Nd} (h : ownN w B (.slice a n cap) L) : n = L.length ∧ isNodes w a L := by
  obtain ⟨a', cap', e, hn⟩ := ownN_is h
  injection e with e1 e2 e3
  subst e1 e2 e3
  exact ⟨rfl, hn⟩
theorem nodes_grown {w w' : World} {g o : Nat} {r : Option Nat} {L : List Pl.Nd} (h : isNodes w (some ⟨g, o, none⟩) L) (hg : w.grownBy w' r) (hr : some g ≠ r) : isNodes w' (some ⟨g, o, none⟩) L := fun i n hi => by
  obtain ⟨g', o', h1, h2, h3, h4, h5, h6, h7⟩ := h i n hi
  cases h1
  exact ⟨g, o, rfl, Nat.lt_of_lt_of_le h2 hg.size, hg.cell h3 hr, hg.cell h4 hr, hg.cell h5 hr, hg.cell h6 hr, hg.cell h7 hr⟩
theorem ownN_grown {w w' : World} {B : Nat} {v : Value} {r : Option Nat} {L : List Pl.Nd} (h : ownN w B v L) (hg : w.grownBy w' r) (hr : ∀ g, v.ownBlock = some g → some g ≠ r) : ownN w' B v L := by
  refine ⟨h.1, ?_⟩
  rcases h.2 with h0 | ⟨g, cap, cur, rfl, hb, hh, rest⟩
  · exact .inl h0
  · exact .inr ⟨g, cap, cur, rfl, hb, (hg.block g (Array.getElem?_eq_some_iff.1 hh).1 (hr g rfl)).trans hh, rest⟩
theorem grown_of_below {w w' : World} (b : Below w.heap.size w w') (r : Option Nat) : w.grownBy w' r := ⟨b.os, b.tape, b.output, b.size, fun j hj _ => b.block j hj⟩
theorem grown_trans {w v v' : World} {r : Option Nat} (h : w.grownBy v r) (h' : v.grownBy v' r) : w.grownBy v' r :=
  ⟨h'.os.trans h.os, h'.tape.trans h.tape, h'.output.trans h.output, Nat.le_trans h.size h'.size, fun j hj hne => (h'.block j (Nat.lt_of_lt_of_le hj h.size) hne).trans (h.block j hj hne)⟩
end Mem
end Go.Proofs.YtepmojmelcngeaaGreatDoor

