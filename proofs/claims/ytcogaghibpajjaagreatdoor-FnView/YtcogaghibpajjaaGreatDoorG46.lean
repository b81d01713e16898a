/- Several texts of one claim in one file: WChildA, WChildS, WAt4A. -/
import Derived.Test.YtcogaghibpajjaaGreatDoorG02
import Derived.Test.YtcogaghibpajjaaGreatDoorG44
import Derived.Deep.Cut
import Derived.Lib.OthersKept
import Derived.Laws.RangeAny
import Derived.Deep.Draws
import Derived.Deep.QuietTactic
import Derived.BigQuiet
import Derived.Test.YtcogaghibpajjaaGreatDoorWTreeS
import Derived.Test.YtcogaghibpajjaaGreatDoorG19
import Derived.Test.YtcogaghibpajjaaGreatDoorWPickS
import Derived.Test.YtcogaghibpajjaaGreatDoorWSeenI
namespace Go.Proofs.YtcogaghibpajjaaGreatDoor
open Go.RowKit
namespace zm0
theorem zi5 (w : World) (o : Obj) : (w.alloc o).heap.size = w.heap.size + 1 := by simp
def boolsV (H : List Bool) : List Value := H.map Value.bool
theorem infoB : (Tryz.prog.info? 4).map (fun i => (i.zero, i.size, i.bytes)) = some (some (.bool false), 1, 1) := by kernel_rfl
theorem zk6 : (Tryz.prog.info? 62).map (fun i => (i.zero, i.size, i.bytes)) = some (some (.agg #[.string ⟨#[]⟩, .int .i64 0, .string ⟨#[]⟩, .int .i64 0, .int .i64 0]), 5, 56) := by kernel_rfl
theorem zi6 {w w' : World} {B e size n : Nat} {v : Value} {xs : List Value} (h : w.ownsRow B e size v n xs) (b : Below w.heap.size w w') : w'.ownsRow B e size v n xs := by
 refine ⟨h.1, ?_⟩
 rcases h.2 with h0 | ⟨g, cap, cur, hv, hb, hg, rest⟩
 ·exact .inl h0
 ·exact .inr ⟨g, cap, cur, hv, hb, (b.block g (Array.getElem?_eq_some_iff.1 hg).1).trans hg, rest⟩
theorem zu6 {w w' : World} {B e size n : Nat} {v : Value} {xs : List Value} {r : Option Nat} (h : w.ownsRow B e size v n xs) (hg : w.grownBy w' r) (hr : ∀ g, v.ownBlock = some g → some g ≠ r) : w'.ownsRow B e size v n xs := by
 refine ⟨h.1, ?_⟩
 rcases h.2 with h0 | ⟨g, cap, cur, rfl, hb, hh, rest⟩
 ·exact .inl h0
 ·exact .inr ⟨g, cap, cur, rfl, hb, (hg.block g (Array.getElem?_eq_some_iff.1 hh).1 (hr g rfl)).trans hh, rest⟩
structure ChP (w W : World) (vN vH : Value) (N : List Pl.Nd) (H : List Bool) : Prop where
 bel : Below w.heap.size w W
 res : Mem.Blk W w.heap.size (zb2 ⟨false, Pl.za8, []⟩ (.slice none 0 0)).toArray 149
 nodes : Mem.ownN W (w.heap.size + 1) vN N
 has : W.ownsRow (w.heap.size + 1) 4 1 vH H.length (boolsV H)
 apart : ∀ g, vN.ownBlock = some g → vH.ownBlock ≠ some g
theorem ChP.call {w W W' : World} {vN vH : Value} {N : List Pl.Nd} {H : List Bool} (h : ChP w W vN vH N H) (b : Below W.heap.size W W') : ChP w W' vN vH N H :=
 ⟨h.bel.trans (b.mono h.bel.size), h.res.call b, zi6 h.nodes b, zi6 h.has b, h.apart⟩
theorem ChP.moreN {w W W' : World} {vN vH v' : Value} {N : List Pl.Nd} {H : List Bool} {n : Pl.Nd} (h : ChP w W vN vH N H) (own : W'.ownsRow (w.heap.size + 1) 62 5 v' (N.length + 1) (Pl.zb5 N ++ n.cs)) (g : W.grownBy W' vN.ownBlock)
  (far : ∀ g, v'.ownBlock = some g → vN.ownBlock = some g ∨ W.heap.size ≤ g) : ChP w W' v' vH (N ++ [n]) H := by
 have hlt : ∀ q, vN.ownBlock = some q → w.heap.size + 1 ≤ q := fun q hq => (World.ownsRow.lt h.nodes q hq).1
 refine ⟨h.bel.grown g h.bel.size (fun q hq => by have := hlt q hq; omega), h.res.grown g (fun e => by have := hlt _ e.symm; omega), Mem.zd7 own, zu6 h.has g (fun q hq e => h.apart q e.symm hq), fun q hq e => ?_⟩
 rcases far q hq with h1 | h1
 ·exact h.apart q h1 e
 ·have := (World.ownsRow.lt h.has q e).2; omega
theorem ChP.moreH {w W W' : World} {vN vH v' : Value} {N : List Pl.Nd} {H : List Bool} {x : Bool} (h : ChP w W vN vH N H) (own : W'.ownsRow (w.heap.size + 1) 4 1 v' (H.length + 1) (boolsV H ++ [.bool x])) (g : W.grownBy W' vH.ownBlock)
  (far : ∀ g, v'.ownBlock = some g → vH.ownBlock = some g ∨ W.heap.size ≤ g) : ChP w W' vN v' N (H ++ [x]) := by
 have hlt : ∀ q, vH.ownBlock = some q → w.heap.size + 1 ≤ q := fun q hq => (World.ownsRow.lt h.has q hq).1
 refine ⟨h.bel.grown g h.bel.size (fun q hq => by have := hlt q hq; omega), h.res.grown g (fun e => by have := hlt _ e.symm; omega), zu6 h.nodes g (fun q hq e => h.apart q hq e.symm), ?_, fun q hq e => ?_⟩
 ·unfold boolsV
  rw [List.map_append, List.length_append]
  exact own
 ·rcases far q e with h1 | h1
  ·exact h.apart q hq h1
  ·have := (World.ownsRow.lt h.nodes q hq).2; omega
def zg8 (xs : List (Nat × Option Pl.Nd)) : List Pl.Nd := xs.map (fun x => x.2.getD Pl.za8)
def zl9 (xs : List (Nat × Option Pl.Nd)) : List Bool := xs.map (fun x => x.2.isSome)
theorem zx4 {α β : Type} (f : α → β) {xs : List α} {j : Nat} {x : α} (h : xs[j]? = some x) : (xs.take (j + 1)).map f = (xs.take j).map f ++ [f x] := by
 have h1 := List.getElem?_eq_some_iff.1 h
 rw [List.take_succ_eq_append_getElem h1.1, List.map_append, h1.2]
 rfl
theorem ask_get {Ls : List (List Pl.Nd)} {ks : List Nat} {q : ByteArray} {j k : Nat} {L : List Pl.Nd} (h : ks[j]? = some k) (hL : Ls[k]? = some L) : (Pl.askO Ls ks q)[j]? = some (k, Pl.lk L q) := by
 unfold Pl.askO
 rw [List.getElem?_map, h, Option.map_some]
 simp [hL]
theorem ChP.asked {w W : World} {vN vH : Value} {xs : List (Nat × Option Pl.Nd)} (h : ChP w W vN vH (zg8 xs) (zl9 xs)) (hx : xs ≠ []) :
  ∃ gn cn gh ch, vN = .slice (some ⟨gn, 0, none⟩) xs.length cn ∧ vH = .slice (some ⟨gh, 0, none⟩) xs.length ch ∧ gn < W.heap.size ∧ gh < W.heap.size ∧
   (∀ (i : Nat) x, xs[i]? = some x → W.cell? ⟨gh, i, none⟩ = some (.bool x.2.isSome)) ∧
   (∀ (i k : Nat) n, xs[i]? = some (k, some n) → W.cell? ⟨gn, i * 5, none⟩ = some (.string n.path) ∧ W.cell? ⟨gn, i * 5 + 1, none⟩ = some (.int .i64 n.kind) ∧ W.cell? ⟨gn, i * 5 + 2, none⟩ = some (.string n.data) ∧ W.cell? ⟨gn, i * 5 + 3, none⟩ = some (.int .i64 n.time) ∧ W.cell? ⟨gn, i * 5 + 4, none⟩ = some (.int .i64 n.mark)) := by
 have hp := List.length_pos_iff.2 hx
 have e1 : (zg8 xs).length = xs.length := by simp [zg8]
 have e2 : (zl9 xs).length = xs.length := by simp [zl9]
 have hn := h.nodes
 have hh := h.has
 unfold Mem.ownN at hn
 rw [e1] at hn
 rw [e2] at hh
 rcases hn.2 with ⟨_, h0⟩ | ⟨gn, cn, curN, hvN, -, hgN, -⟩
 ·omega
 rcases hh.2 with ⟨_, h0⟩ | ⟨gh, ch, curH, hvH, -, hgH, -⟩
 ·omega
 subst hvN hvH
 refine ⟨gn, cn, gh, ch, rfl, rfl, (Array.getElem?_eq_some_iff.1 hgN).1, (Array.getElem?_eq_some_iff.1 hgH).1, fun i x hi => ?_, fun i k n hi => ?_⟩
 ·have := hh.cells (g := gh) rfl i (.bool x.2.isSome) (by simp [boolsV, zl9, hi])
  rw [Mem.add_lit] at this
  exact this
 ·have hg : (zg8 xs)[i]? = some n := by simp [zg8, hi]
  have c : ∀ j, j < 5 → W.cell? ⟨gn, i * 5 + j, none⟩ = n.cs[j]? := fun j hj => by
   have h1 := Pl.zv2 _ i n hg j hj
   have h2 : ∃ u, n.cs[j]? = some u := ⟨_, List.getElem?_eq_getElem (by show j < 5; exact hj)⟩
   obtain ⟨u, hu⟩ := h2
   have := hn.cells (g := gn) rfl (i * 5 + j) u (by rw [h1, hu])
   rw [Mem.add_lit] at this
   rw [this, hu]
  exact ⟨c 0 (by omega), c 1 (by omega), c 2 (by omega), c 3 (by omega), c 4 (by omega)⟩
theorem ret7 {w W : World} {v : Value} {ks : List Nat} {cs : List Value} (hb : Below w.heap.size w W) (hr : Mem.Blk W w.heap.size cs.toArray 149) (hc : cs.length = 7) (ho : ownI W (w.heap.size + 1) v ks) (x : Bool) (p : ByteArray) (k : Int) (d : ByteArray) (t m : Int) (u : Value) :
  Mem.Blk (((((((W.setCell ⟨w.heap.size, 0, none⟩ (.bool x)).setCell ⟨w.heap.size, 1, none⟩ (.string p)).setCell ⟨w.heap.size, 2, none⟩ (.int .i64 k)).setCell ⟨w.heap.size, 3, none⟩ (.string d)).setCell ⟨w.heap.size, 4, none⟩ (.int .i64 t)).setCell ⟨w.heap.size, 5, none⟩ (.int .i64 m)).setCell ⟨w.heap.size, 6, none⟩ u) w.heap.size #[.bool x, .string p, .int .i64 k, .string d, .int .i64 t, .int .i64 m, u] 149 ∧
  Below w.heap.size w (((((((W.setCell ⟨w.heap.size, 0, none⟩ (.bool x)).setCell ⟨w.heap.size, 1, none⟩ (.string p)).setCell ⟨w.heap.size, 2, none⟩ (.int .i64 k)).setCell ⟨w.heap.size, 3, none⟩ (.string d)).setCell ⟨w.heap.size, 4, none⟩ (.int .i64 t)).setCell ⟨w.heap.size, 5, none⟩ (.int .i64 m)).setCell ⟨w.heap.size, 6, none⟩ u) ∧
  ownI (((((((W.setCell ⟨w.heap.size, 0, none⟩ (.bool x)).setCell ⟨w.heap.size, 1, none⟩ (.string p)).setCell ⟨w.heap.size, 2, none⟩ (.int .i64 k)).setCell ⟨w.heap.size, 3, none⟩ (.string d)).setCell ⟨w.heap.size, 4, none⟩ (.int .i64 t)).setCell ⟨w.heap.size, 5, none⟩ (.int .i64 m)).setCell ⟨w.heap.size, 6, none⟩ u) w.heap.size v ks := by
 have hr' : w.heap.size < w.heap.size + 1 := by omega
 refine ⟨?_, ((((((hb.setCell (p := ⟨w.heap.size, 0, none⟩) (Nat.le_refl _) _).setCell (p := ⟨w.heap.size, 1, none⟩) (Nat.le_refl _) _).setCell (p := ⟨w.heap.size, 2, none⟩) (Nat.le_refl _) _).setCell (p := ⟨w.heap.size, 3, none⟩) (Nat.le_refl _) _).setCell (p := ⟨w.heap.size, 4, none⟩) (Nat.le_refl _) _).setCell (p := ⟨w.heap.size, 5, none⟩) (Nat.le_refl _) _).setCell (p := ⟨w.heap.size, 6, none⟩) (Nat.le_refl _) _, ?_⟩
 ·match cs, hc, hr with
  | [c0, c1, c2, c3, c4, c5, c6], _, hr =>
   have h2 := ((((((hr.put 0 (.bool x)).put 1 (.string p)).put 2 (.int .i64 k)).put 3 (.string d)).put 4 (.int .i64 t)).put 5 (.int .i64 m)).put 6 u
   simp only [kB3] at h2
   exact h2
 ·exact yd6 (zg7 (zg7 (zg7 (zg7 (zg7 (zg7 (zg7 ho _ _ hr') _ _ hr') _ _ hr') _ _ hr') _ _ hr') _ _ hr') _ _ hr') (by omega)
end zm0
end Go.Proofs.YtcogaghibpajjaaGreatDoor

namespace Go.Proofs.YtcogaghibpajjaaGreatDoor
open Go.RowKit
namespace zm0
set_option linter.unusedSimpArgs false in
set_option maxRecDepth 100000 in
set_option maxHeartbeats 3000000 in
theorem child_any (q : ByteArray) (Ts : List Pl.Tr) (ks : List Nat) (ad : Option Addr) (capt gp cp : Nat) (w : World) (hT : Mem.zs2 w ad Ts) (hn : Ts.length ≤ 4) (hks : ks ≠ []) (hk4 : ks.length ≤ 4) (hkl : ∀ k ∈ ks, k < Ts.length) (hgp : gp < w.heap.size)
  (hP : ∀ (i k : Nat), ks[i]? = some k → w.cell? ⟨gp, i, none⟩ = some (.int .i64 (k : Int))) (hL : ∀ t ∈ Ts, t.L.length ≤ 1048576 ∧ ∀ n ∈ t.L, 0 ≤ n.mark ∧ n.mark ≤ 8) :
  Calls Tryz.prog 87 #[.slice ad Ts.length capt, .slice (some ⟨gp, 0, none⟩) ks.length cp, .string q] w fun e w' => ∃ v, e = .returned (.agg (zb2 (Pl.zg6 (Ts.map (·.L)) ks q) v).toArray) ∧ ownI w' w.heap.size v (Pl.zg6 (Ts.map (·.L)) ks q).parts ∧ Below w.heap.size w w' := by
 obtain ⟨iN, hiN, hN0, hN1, hN2⟩ := info_parts zk6
 obtain ⟨iB, hiB, hB0, hB1, hB2⟩ := info_parts infoB
 obtain ⟨k0, hk0⟩ := List.exists_mem_of_ne_nil ks hks
 have hl0 := hkl k0 hk0
 obtain ⟨bt, ot, rfl, hbt, -⟩ := (hT 0 _ (List.getElem?_eq_getElem (show 0 < Ts.length by omega))).1
 have hxI : ∀ (i : Nat) x, (Pl.askO (Ts.map (·.L)) ks q)[i]? = some x → ∃ (k : Nat) (t : Pl.Tr), ks[i]? = some k ∧ Ts[k]? = some t ∧ x = (k, Pl.lk t.L q) := by
  intro i x hi
  unfold Pl.askO at hi
  rw [List.getElem?_map] at hi
  cases hk : ks[i]? with
  | none => rw [hk] at hi; simp at hi
  | some k =>
   have hlt := hkl k (List.mem_of_getElem? hk)
   refine ⟨k, Ts[k], rfl, List.getElem?_eq_getElem hlt, ?_⟩
   rw [hk] at hi
   simp [List.getElem?_eq_getElem hlt] at hi
   exact hi.symm
 have HXL : Hid ((Pl.askO (Ts.map (·.L)) ks q).length = ks.length) := by show List.length _ = _; unfold Pl.askO; rw [List.length_map]
 have HXA : Hid (∀ (j k : Nat) (t : Pl.Tr), ks[j]? = some k → Ts[k]? = some t → (Pl.askO (Ts.map (·.L)) ks q)[j]? = some (k, Pl.lk t.L q)) := fun j k t h1 h2 => ask_get h1 (by rw [List.getElem?_map, h2]; rfl)
 have HXI := hide hxI
 have HXM : Hid (∀ (k : Nat) n, (k, some n) ∈ Pl.askO (Ts.map (·.L)) ks q → 0 ≤ n.mark ∧ n.mark ≤ 8) := by
  intro k n hm
  obtain ⟨i, hi⟩ := List.mem_iff_getElem?.1 hm
  obtain ⟨k', t, h1, h2, h3⟩ := hxI i _ hi
  injection h3 with h4 h5
  exact (hL t (List.mem_of_getElem? h2)).2 n (List.mem_of_find?_eq_some h5.symm)
 have HRR : Hid (Pl.zd2 q ⟨false, Pl.za8, []⟩ 0 (Pl.askO (Ts.map (·.L)) ks q) = Pl.zg6 (Ts.map (·.L)) ks q) := rfl
 generalize Pl.zg6 (Ts.map (·.L)) ks q = RR at HRR ⊢
 generalize Pl.askO (Ts.map (·.L)) ks q = xs at HXL HXA HXI HXM HRR
 clear hxI
 have A0 : Hid (ChP w (((w.alloc (.cells (zb2 ⟨false, Pl.za8, []⟩ (.slice none 0 0)).toArray 149)).alloc (.cells #[] 62)).alloc (.cells #[] 4)) (.slice (some ⟨w.heap.size + 1, 0, none⟩) 0 0) (.slice (some ⟨w.heap.size + 1 + 1, 0, none⟩) 0 0) (zg8 (xs.take 0)) (zl9 (xs.take 0))) := by
  refine ⟨(((Below.refl _ _).alloc (Nat.le_refl _) _).alloc (by simp) _).alloc (by simp; omega) _, ((Mem.Blk.new _ _ _).alloc _).alloc _, ⟨rfl, .inr ⟨w.heap.size + 1, 0, #[], rfl, Nat.le_refl _, ?_, Nat.le_refl _, Nat.zero_le _, rfl, rfl⟩⟩, ⟨rfl, .inr ⟨w.heap.size + 1 + 1, 0, #[], rfl, Nat.le_succ _, ?_, Nat.le_refl _, Nat.zero_le _, rfl, rfl⟩⟩, fun g h1 h2 => by have e1 : w.heap.size + 1 = g := Option.some.inj h1; have e2 : w.heap.size + 1 + 1 = g := Option.some.inj h2; omega⟩
  ·exact Mem.Blk.alloc (cs := #[]) (T := 62) (Mem.zg9 w _ _) _
  ·have h := Mem.Blk.new ((w.alloc (.cells (zb2 ⟨false, Pl.za8, []⟩ (.slice none 0 0)).toArray 149)).alloc (.cells #[] 62)) #[] 4
   simp only [zi5] at h
   exact h
 have HT := hide hT
 have HP := hide hP
 have HKS := hide hks
 have HBT := hide hbt
 have HL := hide hL
 clear hT hP hks hL hk0 hl0 hbt k0
 go_enter Tryz.func87, Tryz.ntmps87
 go_wp2
 go_loopw [7, 8, 9] (fun vN vH i wr => ∃ j : Nat, j ≤ ks.length ∧ i = .int .i64 (j : Int) ∧ Hid (ChP w wr vN vH (zg8 (xs.take j)) (zl9 (xs.take j)))) (fun _ _ i _ => ks.length - (intOf i).toNat)
 case atStart => exact ⟨0, Nat.zero_le _, rfl, A0⟩
 case round =>
  obtain ⟨j, hj, rfl, HA⟩ := hrel
  clear A0
  by_cases hlt : j < ks.length
  ·obtain ⟨k, hk⟩ : ∃ k, ks[j]? = some k := ⟨_, List.getElem?_eq_getElem hlt⟩
   have hkT := hkl k (List.mem_of_getElem? hk)
   obtain ⟨⟨ta, tc, tL⟩, ht⟩ : ∃ t, Ts[k]? = some t := ⟨_, List.getElem?_eq_getElem hkT⟩
   have HXG := hide (za HXA j k _ hk ht)
   have htL := za HL _ (List.mem_of_getElem? ht)
   have hb := (za HA).bel
   obtain ⟨⟨b', o', he, hb', cT⟩, hnd⟩ := Mem.zr4 (za HT) (hb.mono (Nat.le_refl _)) k _ ht
   cases he
   simp only [Pl.Tr.val] at cT hnd htL
   simp only at HXG
   have cP := (hb.cell (p := ⟨gp, j, none⟩) hgp).trans (za HP j k hk)
   have y1 : (j : Int) < (ks.length : Int) := by omega
   have y2 : (0 : Int) ≤ (j : Int) := by omega
   have y3 : (k : Int) < (Ts.length : Int) := by omega
   have y4 : (0 : Int) ≤ (k : Int) := by omega
   have hat := hide (zm4.at_any ta tc tL q wr htL.1 hnd)
   have HND := hide hnd
   have HNL : Hid ((zg8 (xs.take j)).length ≤ 4) := by show List.length _ ≤ _; unfold zg8; rw [List.length_map, List.length_take]; omega
   have HHL : Hid ((zl9 (xs.take j)).length ≤ 4) := by show List.length _ ≤ _; unfold zl9; rw [List.length_map, List.length_take]; omega
   obtain ⟨N, hNE⟩ : ∃ N, N = zg8 (xs.take j) := ⟨_, rfl⟩
   obtain ⟨H, hHE⟩ : ∃ H, H = zl9 (xs.take j) := ⟨_, rfl⟩
   rw [← hNE] at HA HNL
   rw [← hHE] at HA HHL
   have HNE := hide hNE
   have HHE := hide hHE
   clear hNE hHE
   have KA := hide (za HA)
   clear hnd htL HA hb
   go_wp2_with fail
   refine (za hat).mono ?_
   rintro e w1 ⟨⟨r, rfl, hr⟩, b1⟩
   have KC := hide ((za KA).call b1)
   have HT1 := hide (Mem.za4 (za HND) b1)
   have cP1 := (b1.cell (p := ⟨gp, j, none⟩) (by have := (za KA).bel.size; show gp < _; omega)).trans cP
   have cT1 := (b1.cell (p := ⟨bt, ot + k, none⟩) hb').trans cT
   clear KA cP cT hat HND b1 hk ht
   rcases hr.out with ⟨i, n, rfl, hi, hf⟩ | ⟨rfl, hf⟩
   ·obtain ⟨np, nk, nd, nt, nm⟩ := n
    have HNX : Hid (∀ vN' vH' W' (n' : Pl.Nd), n' = ⟨np, nk, nd, nt, nm⟩ → ChP w W' vN' vH' (N ++ [n']) (H ++ [true]) → Hid (ChP w W' vN' vH' (zg8 (xs.take (j + 1))) (zl9 (xs.take (j + 1))))) := by
     intro vN' vH' W' n' e h
     subst e
     have hg := za HXG
     rw [show Pl.lk tL q = some ⟨np, nk, nd, nt, nm⟩ from hf] at hg
     unfold zg8 zl9
     rw [zx4 _ hg, zx4 _ hg]
     rw [za HNE, za HHE] at h
     exact h
    have yi : (i : Int) < (tL.length : Int) := by have := (List.getElem?_eq_some_iff.1 hi).1; omega
    have yi0 : (0 : Int) ≤ (i : Int) := by omega
    obtain ⟨gN, oN, rfl, hNlt, d0, d1, d2, d3, d4⟩ := (za HT1) i _ hi
    simp only at d0 d1 d2 d3 d4
    go_upto_region 8 with fail
    have bA : Below w1.heap.size w1 (w1.alloc (.cells #[.string ⟨#[]⟩, .int .i64 0, .string ⟨#[]⟩, .int .i64 0, .int .i64 0] 62)) := (Below.refl _ _).alloc (Nat.le_refl _) _
    have NB0 := hide (Mem.Blk.new w1 #[.string ⟨#[]⟩, .int .i64 0, .string ⟨#[]⟩, .int .i64 0, .int .i64 0] 62)
    have e0 := (bA.cell (p := ⟨gN, oN + i * 5, none⟩) hNlt).trans d0
    have e1 := (bA.cell (p := ⟨gN, oN + i * 5 + 1, none⟩) hNlt).trans d1
    have e2 := (bA.cell (p := ⟨gN, oN + i * 5 + 2, none⟩) hNlt).trans d2
    have e3 := (bA.cell (p := ⟨gN, oN + i * 5 + 3, none⟩) hNlt).trans d3
    have e4 := (bA.cell (p := ⟨gN, oN + i * 5 + 4, none⟩) hNlt).trans d4
    have eP := (bA.cell (p := ⟨gp, j, none⟩) (by have := (za KC).bel.size; show gp < _; omega)).trans cP1
    have eT := (bA.cell (p := ⟨bt, ot + k, none⟩) (by have := (za KC).bel.size; have := za HBT; show bt < _; omega)).trans cT1
    have KC1 := hide (fun W' (h : Below w1.heap.size w1 W') => (za KC).call h)
    have BA := hide bA
    clear d0 d1 d2 d3 d4 cP1 cT1 KC bA hi hf
    generalize hW1 : w1.alloc (.cells #[.string ⟨#[]⟩, .int .i64 0, .string ⟨#[]⟩, .int .i64 0, .int .i64 0] 62) = W1 at NB0 e0 e1 e2 e3 e4 eP eT BA ⊢
    clear hW1
    generalize hX : w1.heap.size = X at NB0 KC1 BA ⊢
    have z0 := (za NB0).cell 0
    have zf0 := (za NB0).fr 0
    have z1 := (za NB0).cell 1
    have zf1 := (za NB0).fr 1
    have z2 := (za NB0).cell 2
    have zf2 := (za NB0).fr 2
    have z3 := (za NB0).cell 3
    have zf3 := (za NB0).fr 3
    have z4 := (za NB0).cell 4
    have zf4 := (za NB0).fr 4
    simp only [kA0, kA1, kA2] at z0 z1 z2 z3 z4
    go_upto_region 10 with fail
    have NB : Hid (Mem.Blk (((((W1.setCell ⟨X, 0, none⟩ (.string np)).setCell ⟨X, 1, none⟩ (.int .i64 nk)).setCell ⟨X, 2, none⟩ (.string nd)).setCell ⟨X, 3, none⟩ (.int .i64 nt)).setCell ⟨X, 4, none⟩ (.int .i64 nm)) X #[.string np, .int .i64 nk, .string nd, .int .i64 nt, .int .i64 nm] 62) := by
     have h := (((((za NB0).put 0 (.string np)).put 1 (.int .i64 nk)).put 2 (.string nd)).put 3 (.int .i64 nt)).put 4 (.int .i64 nm)
     simp only [kB3] at h
     exact h
    have KC := hide (za KC1 (((((W1.setCell ⟨X, 0, none⟩ (.string np)).setCell ⟨X, 1, none⟩ (.int .i64 nk)).setCell ⟨X, 2, none⟩ (.string nd)).setCell ⟨X, 3, none⟩ (.int .i64 nt)).setCell ⟨X, 4, none⟩ (.int .i64 nm)) ((((((za BA).setCell (p := ⟨X, 0, none⟩) (Nat.le_refl _) _).setCell (p := ⟨X, 1, none⟩) (Nat.le_refl _) _).setCell (p := ⟨X, 2, none⟩) (Nat.le_refl _) _).setCell (p := ⟨X, 3, none⟩) (Nat.le_refl _) _).setCell (p := ⟨X, 4, none⟩) (Nat.le_refl _) _))
    clear z0 z1 z2 z3 z4 zf0 zf1 zf2 zf3 zf4 e0 e1 e2 e3 e4 eP eT NB0 KC1 BA
    generalize (((((W1.setCell ⟨X, 0, none⟩ (.string np)).setCell ⟨X, 1, none⟩ (.int .i64 nk)).setCell ⟨X, 2, none⟩ (.string nd)).setCell ⟨X, 3, none⟩ (.int .i64 nt)).setCell ⟨X, 4, none⟩ (.int .i64 nm)) = W2 at NB KC ⊢
    replace HNX : Hid (∀ vN' vH' W', ChP w W' vN' vH' (N ++ [⟨np, nk, nd, nt, nm⟩]) (H ++ [true]) → Hid (ChP w W' vN' vH' (zg8 (xs.take (j + 1))) (zl9 (xs.take (j + 1))))) := fun a b c h => za HNX a b c _ rfl h
    have n0 := (za NB).cell 0
    have n1 := (za NB).cell 1
    have n2 := (za NB).cell 2
    have n3 := (za NB).cell 3
    have n4 := (za NB).cell 4
    simp only [kA0, kA1, kA2] at n0 n1 n2 n3 n4
    have KD := hide ((za KC).call ((Below.refl _ _).alloc (Nat.le_refl _) (.cells #[.string np, .int .i64 nk, .string nd, .int .i64 nt, .int .i64 nm] 62)))
    have HSB := hide (za KC).bel.size
    clear KC
    go_wp2_with (at_builtin; refine Mem.za7 _ rfl _ _ 25 rfl (w.heap.size + 1) 62 iN _ 5 56 Tryz.underlying25 hiN hN0 hN1 hN2 rfl (by decide) _ _ _ rfl (za KD).nodes ⟨W2.heap.size, 0, none⟩ 1 1 [.string np, .int .i64 nk, .string nd, .int .i64 nt, .int .i64 nm] rfl rfl (Mem.zi W2 ⟨np, nk, nd, nt, nm⟩ 62) (Mem.zh ⟨np, nk, nd, nt, nm⟩) (by have h := za HNL; unfold maxLen; omega) (by have h := za HNL; omega) (by have h1 := za HSB; have h2 := (za KD).res.lt; simp at h2 ⊢; omega) ?_)
    intro vN' w3 ownN' growN farN
    have KE := hide ((za KD).moreN (n := ⟨np, nk, nd, nt, nm⟩) ownN' growN (fun g hg => (farN g hg).imp_right (fun h => by rw [zi5]; exact h)))
    have KF := hide ((za KE).call ((Below.refl _ _).alloc (Nat.le_refl _) (.cells #[.bool true] 4)))
    have HSF := hide (za KE).res.lt
    clear ownN' growN farN KD KE n0 n1 n2 n3 n4 NB
    go_wp2_with (at_builtin; refine Mem.za7 _ rfl _ _ 170 rfl (w.heap.size + 1) 4 iB _ 1 1 Tryz.underlying170 hiB hB0 hB1 hB2 rfl (by decide) _ _ _ rfl (za KF).has ⟨w3.heap.size, 0, none⟩ 1 1 [.bool true] rfl rfl (Mem.ze6 _ _ _) (fun u hu => by simp at hu; subst hu; rfl) (by have h := za HHL; unfold maxLen; omega) (by have h := za HHL; omega) (by have h2 := za HSF; simp at h2 ⊢; omega) ?_)
    intro vH' w4 ownH' growH farH
    have KG := hide ((za KF).moreH (x := true) ownH' growH (fun g hg => (farH g hg).imp_right (fun h => by rw [zi5]; exact h)))
    clear ownH' growH farH KF
    have KZ := za HNX _ _ _ (za KG)
    clear KG
    go_wp2
    go_roundw
    case rel => exact ⟨j + 1, by omega, by go_num, KZ⟩
    case measure => simp [intOf]; omega
   ·have HNX : Hid (∀ vN' vH' W', ChP w W' vN' vH' (N ++ [Pl.za8]) (H ++ [false]) → Hid (ChP w W' vN' vH' (zg8 (xs.take (j + 1))) (zl9 (xs.take (j + 1))))) := by
     intro vN' vH' W' h
     have hg := za HXG
     rw [show Pl.lk tL q = none from hf] at hg
     unfold zg8 zl9
     rw [zx4 _ hg, zx4 _ hg]
     rw [za HNE, za HHE] at h
     exact h
    go_upto_region 8 with fail
    have NB := hide (Mem.Blk.new w1 #[.string ⟨#[]⟩, .int .i64 0, .string ⟨#[]⟩, .int .i64 0, .int .i64 0] 62)
    have KC2 := hide ((za KC).call ((Below.refl _ _).alloc (Nat.le_refl _) (.cells #[.string ⟨#[]⟩, .int .i64 0, .string ⟨#[]⟩, .int .i64 0, .int .i64 0] 62)))
    clear KC cP1 cT1 hf HT1
    have KC := KC2
    clear KC2
    generalize w1.alloc (.cells #[.string ⟨#[]⟩, .int .i64 0, .string ⟨#[]⟩, .int .i64 0, .int .i64 0] 62) = W2 at NB KC ⊢
    generalize w1.heap.size = X at NB ⊢
    go_upto_region 10 with fail
    have n0 := (za NB).cell 0
    have n1 := (za NB).cell 1
    have n2 := (za NB).cell 2
    have n3 := (za NB).cell 3
    have n4 := (za NB).cell 4
    simp only [kA0, kA1, kA2] at n0 n1 n2 n3 n4
    have KD := hide ((za KC).call ((Below.refl _ _).alloc (Nat.le_refl _) (.cells #[.string ⟨#[]⟩, .int .i64 0, .string ⟨#[]⟩, .int .i64 0, .int .i64 0] 62)))
    have HSB := hide (za KC).bel.size
    clear KC
    go_wp2_with (at_builtin; refine Mem.za7 _ rfl _ _ 25 rfl (w.heap.size + 1) 62 iN _ 5 56 Tryz.underlying25 hiN hN0 hN1 hN2 rfl (by decide) _ _ _ rfl (za KD).nodes ⟨W2.heap.size, 0, none⟩ 1 1 [.string ⟨#[]⟩, .int .i64 0, .string ⟨#[]⟩, .int .i64 0, .int .i64 0] rfl rfl (Mem.zi W2 Pl.za8 62) (Mem.zh Pl.za8) (by have h := za HNL; unfold maxLen; omega) (by have h := za HNL; omega) (by have h1 := za HSB; have h2 := (za KD).res.lt; simp at h2 ⊢; omega) ?_)
    intro vN' w3 ownN' growN farN
    have KE := hide ((za KD).moreN (n := Pl.za8) ownN' growN (fun g hg => (farN g hg).imp_right (fun h => by rw [zi5]; exact h)))
    have KF := hide ((za KE).call ((Below.refl _ _).alloc (Nat.le_refl _) (.cells #[.bool false] 4)))
    have HSF := hide (za KE).res.lt
    clear ownN' growN farN KD KE n0 n1 n2 n3 n4 NB
    go_wp2_with (at_builtin; refine Mem.za7 _ rfl _ _ 170 rfl (w.heap.size + 1) 4 iB _ 1 1 Tryz.underlying170 hiB hB0 hB1 hB2 rfl (by decide) _ _ _ rfl (za KF).has ⟨w3.heap.size, 0, none⟩ 1 1 [.bool false] rfl rfl (Mem.ze6 _ _ _) (fun u hu => by simp at hu; subst hu; rfl) (by have h := za HHL; unfold maxLen; omega) (by have h := za HHL; omega) (by have h2 := za HSF; simp at h2 ⊢; omega) ?_)
    intro vH' w4 ownH' growH farH
    have KG := hide ((za KF).moreH (x := false) ownH' growH (fun g hg => (farH g hg).imp_right (fun h => by rw [zi5]; exact h)))
    clear ownH' growH farH KF
    have KZ := za HNX _ _ _ (za KG)
    clear KG
    go_wp2
    go_roundw
    case rel => exact ⟨j + 1, by omega, by go_num, KZ⟩
    case measure => simp [intOf]; omega
  ·obtain rfl : j = ks.length := by omega
   have KX : ChP w wr u7 u8 (zg8 xs) (zl9 xs) := by
    have h := za HA
    rw [List.take_of_length_le (by have := za HXL; omega)] at h
    exact h
   obtain ⟨gn, cn, gh, ch, rfl, rfl, hgn, hgh, hH, hN⟩ := KX.asked (by intro e; have h := za HXL; rw [e] at h; simp at h; exact za HKS (List.length_eq_zero_iff.1 h.symm))
   have hpick := zm3 q xs gp cp gn cn gh ch wr (by have := za HXL; omega) (by have := KX.bel.size; omega) hgn hgh (fun i x hi => ⟨by
     obtain ⟨k', t', h1, h2, h3⟩ := za HXI i x hi
     rw [h3]
     exact (KX.bel.cell (p := ⟨gp, i, none⟩) hgp).trans (za HP i k' h1), hH i x hi⟩) hN (fun k n hm => za HXM k n hm)
   rw [za HXL] at hpick
   have y2 : ¬ (ks.length : Int) < (ks.length : Int) := by omega
   rw [za HXL]
   have HPK := hide hpick
   have KC := hide KX
   clear hpick KX HA hH hN hgn hgh
   go_wp2_with fail
   refine (za HPK).mono ?_
   rintro e w6 ⟨v, rfl, hown, b6⟩
   have hsz := (za KC).bel.size
   have hlt := (za KC).res.lt
   have b7 := hide ((za KC).bel.trans (b6.mono hsz))
   have hres := hide ((za KC).res.call b6)
   have hown7 := hide (yd6 hown (show w.heap.size + 1 ≤ wr.heap.size by omega))
   clear KC HPK b6 hown hlt hsz
   have HR := hide (za HRR)
   generalize Pl.zd2 q ⟨false, Pl.za8, []⟩ 0 xs = R at HR hown7 ⊢
   clear HRR
   obtain ⟨rok, ⟨rp, rk, rd, rt, rm⟩, rks⟩ := R
   obtain ⟨va, vc, rfl⟩ := ya3 (za hown7)
   simp only [zb2]
   have RT := hide (ret7 (za b7) (za hres) rfl (za hown7) rok rp rk rd rt rm (.slice va rks.length vc))
   have c0 := (za hres).cell 0
   have cf0 := (za hres).fr 0
   have c1 := (za hres).cell 1
   have cf1 := (za hres).fr 1
   have c2 := (za hres).cell 2
   have cf2 := (za hres).fr 2
   have c3 := (za hres).cell 3
   have cf3 := (za hres).fr 3
   have c4 := (za hres).cell 4
   have cf4 := (za hres).fr 4
   have c5 := (za hres).cell 5
   have cf5 := (za hres).fr 5
   have c6 := (za hres).cell 6
   have cf6 := (za hres).fr 6
   simp only [zb2, Pl.za8, kA0, kA1, kA2] at c0 c1 c2 c3 c4 c5 c6
   clear hown7 hres b7
   go_wp2
   generalize (((((((w6.setCell ⟨w.heap.size, 0, none⟩ (.bool rok)).setCell ⟨w.heap.size, 1, none⟩ (.string rp)).setCell ⟨w.heap.size, 2, none⟩ (.int .i64 rk)).setCell ⟨w.heap.size, 3, none⟩ (.string rd)).setCell ⟨w.heap.size, 4, none⟩ (.int .i64 rt)).setCell ⟨w.heap.size, 5, none⟩ (.int .i64 rm)).setCell ⟨w.heap.size, 6, none⟩ (.slice va rks.length vc)) = WR at RT ⊢
   have q0 := (za RT).1.cell 0
   have q1 := (za RT).1.cell 1
   have q2 := (za RT).1.cell 2
   have q3 := (za RT).1.cell 3
   have q4 := (za RT).1.cell 4
   have q5 := (za RT).1.cell 5
   have q6 := (za RT).1.cell 6
   simp only [kA0, kA1, kA2] at q0 q1 q2 q3 q4 q5 q6
   exact bodyPost_ret (v := .agg #[.bool rok, .string rp, .int .i64 rk, .string rd, .int .i64 rt, .int .i64 rm, .slice va rks.length vc]) (by simp [results, Tryz.results87, go_sem, q0, q1, q2, q3, q4, q5, q6]) rfl ⟨.slice va rks.length vc, by rw [← za HR]; rfl, by rw [← za HR]; exact (za RT).2.2, (za RT).2.1⟩

end zm0
end Go.Proofs.YtcogaghibpajjaaGreatDoor

namespace Go.Proofs.YtcogaghibpajjaaGreatDoor
open Go.RowKit
namespace zm0
structure AtQ (w W : World) (X : Nat) (vk : Value) (ks : List Nat) (o : Pl.Ot) (v vl : Value) (L : List ByteArray) : Prop where
 lt : w.heap.size + 1 ≤ X
 bel : Below w.heap.size w W
 res : Mem.Blk W w.heap.size (zb2 ⟨false, Pl.za8, []⟩ (.slice none 0 0)).toArray 149
 out : Mem.Blk W X (zb2 o v).toArray 149
 ownK : ownI W (w.heap.size + 1) vk ks
 own : ownI W (w.heap.size + 1) v o.parts
 txt : W.ownsRow (w.heap.size + 1) 9 1 vl L.length (L.map Value.string)
 farK : vk.ownBlock ≠ some X
 far : v.ownBlock ≠ some X
 farT : vl.ownBlock ≠ some X
theorem AtQ.call {w W W' : World} {X : Nat} {vk : Value} {ks : List Nat} {o : Pl.Ot} {v vl : Value} {L : List ByteArray} (h : AtQ w W X vk ks o v vl L) (b : Below W.heap.size W W') : AtQ w W' X vk ks o v vl L :=
 ⟨h.lt, h.bel.trans (b.mono h.bel.size), h.res.call b, h.out.call b, zi6 h.ownK b, zi6 h.own b, zi6 h.txt b, h.farK, h.far, h.farT⟩
theorem ze0 {w : World} {B e size n : Nat} {v : Value} {xs : List Value} (h : w.ownsRow B e size v n xs) (a : Addr) (u : Value) (ha : v.ownBlock ≠ some a.block) : (w.setCell a u).ownsRow B e size v n xs := by
 refine ⟨h.1, ?_⟩
 rcases h.2 with h0 | ⟨g, cap, cur, rfl, hb, hg, rest⟩
 ·exact .inl h0
 ·exact .inr ⟨g, cap, cur, rfl, hb, (heap_setCell_other w a g u (fun e => ha (by rw [← e]; rfl))).trans hg, rest⟩
theorem AtQ.put {w W : World} {X : Nat} {vk : Value} {ks : List Nat} {o : Pl.Ot} {v vl : Value} {L : List ByteArray} (h : AtQ w W X vk ks o v vl L) {o' : Pl.Ot} {v' : Value} (own' : ownI W (w.heap.size + 1) v' o'.parts) (far' : v'.ownBlock ≠ some X) :
  AtQ w (((((((W.setCell ⟨X, 0, none⟩ (.bool o'.ok)).setCell ⟨X, 1, none⟩ (.string o'.node.path)).setCell ⟨X, 2, none⟩ (.int .i64 o'.node.kind)).setCell ⟨X, 3, none⟩ (.string o'.node.data)).setCell ⟨X, 4, none⟩ (.int .i64 o'.node.time)).setCell ⟨X, 5, none⟩ (.int .i64 o'.node.mark)).setCell ⟨X, 6, none⟩ v') X vk ks o' v' vl L := by
 have hx : w.heap.size ≤ X := by have := h.lt; omega
 have hne : w.heap.size ≠ X := by have := h.lt; omega
 refine ⟨h.lt, ((((((h.bel.setCell (p := ⟨X, 0, none⟩) hx _).setCell (p := ⟨X, 1, none⟩) hx _).setCell (p := ⟨X, 2, none⟩) hx _).setCell (p := ⟨X, 3, none⟩) hx _).setCell (p := ⟨X, 4, none⟩) hx _).setCell (p := ⟨X, 5, none⟩) hx _).setCell (p := ⟨X, 6, none⟩) hx _, ((((((h.res.far ⟨X, 0, none⟩ _ hne).far ⟨X, 1, none⟩ _ hne).far ⟨X, 2, none⟩ _ hne).far ⟨X, 3, none⟩ _ hne).far ⟨X, 4, none⟩ _ hne).far ⟨X, 5, none⟩ _ hne).far ⟨X, 6, none⟩ _ hne, ?_, ?_, ?_, ?_, h.farK, far', h.farT⟩
 ·have h2 := ((((((h.out.put 0 (.bool o'.ok)).put 1 (.string o'.node.path)).put 2 (.int .i64 o'.node.kind)).put 3 (.string o'.node.data)).put 4 (.int .i64 o'.node.time)).put 5 (.int .i64 o'.node.mark)).put 6 v'
  simp only [kB3] at h2
  exact h2
 ·exact ze0 (ze0 (ze0 (ze0 (ze0 (ze0 (ze0 h.ownK _ _ h.farK) _ _ h.farK) _ _ h.farK) _ _ h.farK) _ _ h.farK) _ _ h.farK) _ _ h.farK
 ·exact ze0 (ze0 (ze0 (ze0 (ze0 (ze0 (ze0 own' _ _ far') _ _ far') _ _ far') _ _ far') _ _ far') _ _ far') _ _ far'
 ·exact ze0 (ze0 (ze0 (ze0 (ze0 (ze0 (ze0 h.txt _ _ h.farT) _ _ h.farT) _ _ h.farT) _ _ h.farT) _ _ h.farT) _ _ h.farT) _ _ h.farT
theorem AtQ.next {w W : World} {X : Nat} {vk : Value} {ks : List Nat} {o : Pl.Ot} {v vl : Value} {L : List ByteArray} (h : AtQ w W X vk ks o v vl L) : AtQ w W X v o.parts o v vl L :=
 ⟨h.lt, h.bel, h.res, h.out, h.own, h.own, h.txt, h.far, h.far, h.farT⟩
theorem yh2 {W : World} {B : Nat} {v : Value} {ks : List Nat} (h : ownI W B v ks) (hk : ks ≠ []) : ∃ g cap, v = .slice (some ⟨g, 0, none⟩) ks.length cap ∧ B ≤ g ∧ g < W.heap.size ∧ ∀ (i k : Nat), ks[i]? = some k → W.cell? ⟨g, i, none⟩ = some (.int .i64 (k : Int)) := by
 have hp := List.length_pos_iff.2 hk
 rcases h.2 with ⟨_, h0⟩ | ⟨g, cap, cur, hv, hb, hg, -⟩
 ·omega
 subst hv
 refine ⟨g, cap, rfl, hb, (Array.getElem?_eq_some_iff.1 hg).1, fun i k hi => ?_⟩
 have := World.ownsRow.cells h (g := g) rfl i (.int .i64 (k : Int)) (by simp [intsV, hi])
 rw [Mem.add_lit] at this
 exact this
end zm0
namespace Pl
end Pl
end Go.Proofs.YtcogaghibpajjaaGreatDoor

