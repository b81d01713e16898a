/- Several texts of one claim in one file: MemOwnN, MemBlk, WReadI. -/
import Derived.Test.YtnbmpbfligdcjaaDoorG06
import Derived.Laws.AppendOwn
import Derived.Test.YtnbmpbfligdcjaaDoorG18
import Derived.Test.YtnbmpbfligdcjaaDoorG19
import Derived.Deep.RegionHeld3
/- Rows of nodes that are the call's own: what is in them, one more behind them, and what the marks of a law do to them. -/
namespace Go.Proofs.YtnbmpbfligdcjaaDoor
open Go.RowKit
namespace Pl
/-- A node's five cells. -/
def Nd.cs (n : Nd) : List Value := [.string n.path, .int .i64 n.kind, .string n.data, .int .i64 n.time, .int .i64 n.mark]
def cellsN (L : List Nd) : List Value := L.flatMap Nd.cs
theorem cellsN_len (L : List Nd) : (cellsN L).length = L.length * 5 := by
  induction L with
  | nil => rfl
  | cons n L ih => rw [cellsN, List.flatMap_cons, List.length_append, ← cellsN, ih, List.length_cons]; simp [Nd.cs]; omega
theorem cellsN_cons (n : Nd) (L : List Nd) : cellsN (n :: L) = n.cs ++ cellsN L := by simp [cellsN]
theorem cellsN_app (L M : List Nd) : cellsN (L ++ M) = cellsN L ++ cellsN M := by simp [cellsN]
theorem cellsN_get (L : List Nd) (i : Nat) (n : Nd) (h : L[i]? = some n) (j : Nat) (hj : j < 5) : (cellsN L)[i * 5 + j]? = n.cs[j]? := by
  induction L generalizing i with
  | nil => simp at h
  | cons m L ih =>
    rw [cellsN_cons]
    have hl : m.cs.length = 5 := rfl
    match i, h with
    | 0, h =>
      simp at h; subst h
      rw [List.getElem?_append_left (by rw [hl]; omega)]
      simp
    | i + 1, h =>
      rw [List.getElem?_append_right (by rw [hl]; omega), hl, show (i + 1) * 5 + j - 5 = i * 5 + j by omega]
      exact ih i (by simpa using h)
end Pl
namespace Mem
/-- A row of nodes of the call's own (or none). -/
def ownN (w : World) (B : Nat) (v : Value) (L : List Pl.Nd) : Prop := w.ownsRow B 57 5 v L.length (Pl.cellsN L)
theorem ownN_nil (w : World) (B : Nat) : ownN w B (.slice none 0 0) [] := ⟨rfl, .inl ⟨rfl, rfl⟩⟩
theorem ownN_is {w : World} {B : Nat} {v : Value} {L : List Pl.Nd} (h : ownN w B v L) : ∃ a cap, v = .slice a L.length cap ∧ isNodes w a L := by
  rcases h.2 with ⟨rfl, h0⟩ | ⟨g, cap, cur, rfl, hb, hg, hc, hm, hsz, ht⟩
  · exact ⟨none, 0, by rw [h0], fun i n hi => by rw [List.length_eq_zero_iff.1 h0] at hi; simp at hi⟩
  · refine ⟨some ⟨g, 0, none⟩, cap, rfl, fun i n hi => ?_⟩
    have hlt : i < L.length := (List.getElem?_eq_some_iff.1 hi).1
    have c : ∀ j, j < 5 → w.cell? ⟨g, 0 + i * 5 + j, none⟩ = n.cs[j]? := fun j hj => by
      rw [cell_of_row w g _ cur _ (0, 0) hg, Nat.zero_add, ← Pl.cellsN_get L i n hi j hj, ← ht, List.getElem?_take_of_lt (by omega), Array.getElem?_toList]
    exact ⟨g, 0, rfl, (Array.getElem?_eq_some_iff.1 hg).1, c 0 (by omega), c 1 (by omega), c 2 (by omega), c 3 (by omega), c 4 (by omega)⟩
theorem cs_one (n : Pl.Nd) : ∀ u ∈ n.cs, u.oneCell' = true := by
  intro u hu
  simp only [Pl.Nd.cs, List.mem_cons, List.not_mem_nil, or_false] at hu
  rcases hu with rfl | rfl | rfl | rfl | rfl <;> rfl
/-- A node that is alone in a block that was just made. -/
theorem cs_new (w : World) (n : Pl.Nd) (T : TypeId) : ∀ j u, n.cs[j]? = some u → (w.alloc (.cells n.cs.toArray T)).cell? ((⟨w.heap.size, 0, none⟩ : Addr).add j) = some u := by
  intro j u hj
  rw [Mem.add_lit]
  exact (Mem.var_new w n.cs T).2 j u hj
theorem cs_var {w : World} {X : Nat} (n : Pl.Nd) (h : Mem.Var w X n.cs) : ∀ j u, n.cs[j]? = some u → w.cell? ((⟨X, 0, none⟩ : Addr).add j) = some u := by
  intro j u hj
  rw [Mem.add_lit]
  exact h.2 j u hj
theorem ownN_snoc {w : World} {B : Nat} {v : Value} {L : List Pl.Nd} {n : Pl.Nd} (h : w.ownsRow B 57 5 v (L.length + 1) (Pl.cellsN L ++ n.cs)) : ownN w B v (L ++ [n]) := by
  unfold ownN
  rw [Pl.cellsN_app, List.length_append]
  have e : Pl.cellsN [n] = n.cs := by simp [Pl.cellsN]
  rw [e]; exact h
theorem ownN_call {w w' : World} {B : Nat} {v : Value} {L : List Pl.Nd} (h : ownN w B v L) (b : Below w.heap.size w w') : ownN w' B v L := by
  refine ⟨h.1, ?_⟩
  rcases h.2 with h0 | ⟨g, cap, cur, hv, hb, hg, rest⟩
  · exact .inl h0
  · exact .inr ⟨g, cap, cur, hv, hb, (b.block _ (Array.getElem?_eq_some_iff.1 hg).1).trans hg, rest⟩
theorem ownN_mono {w : World} {B B' : Nat} {v : Value} {L : List Pl.Nd} (h : ownN w B v L) (hb : B' ≤ B) : ownN w B' v L := own_mono h hb
end Mem
end Go.Proofs.YtnbmpbfligdcjaaDoor

/- A block of cells that stands in the heap: through calls, new blocks, appends and stores. No program in sight. -/
namespace Go.Proofs.YtnbmpbfligdcjaaDoor
open Go.RowKit
namespace Mem
def Blk (w : World) (X : Nat) (cs : Array Value) (T : TypeId) : Prop := w.heap[X]? = some (.cells cs T (0, 0))
theorem Blk.lt {w : World} {X : Nat} {cs : Array Value} {T : TypeId} (h : Blk w X cs T) : X < w.heap.size := (Array.getElem?_eq_some_iff.1 h).1
theorem Blk.cell {w : World} {X : Nat} {cs : Array Value} {T : TypeId} (h : Blk w X cs T) (k : Nat) : w.cell? ⟨X, k, none⟩ = cs[k]? := cell_of_row w X k cs T (0, 0) h
theorem Blk.fr {w : World} {X : Nat} {cs : Array Value} {T : TypeId} (h : Blk w X cs T) (k : Nat) : w.frozen? ⟨X, k, none⟩ = false := row_frozen h
theorem Blk.call {w w' : World} {X : Nat} {cs : Array Value} {T : TypeId} (h : Blk w X cs T) (b : Below w.heap.size w w') : Blk w' X cs T := (b.block _ h.lt).trans h
theorem Blk.below {w w' : World} {X B : Nat} {cs : Array Value} {T : TypeId} (h : Blk w X cs T) (b : Below B w w') (hX : X < B) : Blk w' X cs T := (b.block _ hX).trans h
theorem Blk.alloc {w : World} {X : Nat} {cs : Array Value} {T : TypeId} (h : Blk w X cs T) (o : Obj) : Blk (w.alloc o) X cs T := h.call ((Below.refl _ _).alloc (Nat.le_refl _) o)
theorem Blk.new (w : World) (cs : Array Value) (T : TypeId) : Blk (w.alloc (.cells cs T)) w.heap.size cs T := heap_alloc_new w _
theorem Blk.grown {w w' : World} {X : Nat} {cs : Array Value} {T : TypeId} {r : Option Nat} (h : Blk w X cs T) (g : w.grownBy w' r) (hr : some X ≠ r) : Blk w' X cs T := (g.block _ h.lt hr).trans h
theorem Blk.put {w : World} {X : Nat} {cs : Array Value} {T : TypeId} (h : Blk w X cs T) (k : Nat) (v : Value) : Blk (w.setCell ⟨X, k, none⟩ v) X (cs.setIfInBounds k v) T := heap_setCell_same w X k cs T v h
theorem Blk.far {w : World} {X : Nat} {cs : Array Value} {T : TypeId} (h : Blk w X cs T) (a : Addr) (v : Value) (ha : X ≠ a.block) : Blk (w.setCell a v) X cs T := (heap_setCell_other w a X v ha).trans h
theorem ownN_set {w : World} {B : Nat} {v : Value} {L : List Pl.Nd} (h : ownN w B v L) (a : Addr) (u : Value) (ha : a.block < B) : ownN (w.setCell a u) B v L := by
  refine ⟨h.1, ?_⟩
  rcases h.2 with h0 | ⟨g, cap, cur, hv, hb, hg, rest⟩
  · exact .inl h0
  · exact .inr ⟨g, cap, cur, hv, hb, (heap_setCell_other w a g u (by omega)).trans hg, rest⟩
theorem ownN_far {w : World} {B : Nat} {v : Value} {L : List Pl.Nd} (h : ownN w B v L) (a : Addr) (u : Value) (ha : ∀ g, v.ownBlock = some g → a.block ≠ g) : ownN (w.setCell a u) B v L := by
  refine ⟨h.1, ?_⟩
  rcases h.2 with h0 | ⟨g, cap, cur, rfl, hb, hg, rest⟩
  · exact .inl h0
  · exact .inr ⟨g, cap, cur, rfl, hb, (heap_setCell_other w a g u (fun e => ha g rfl e.symm)).trans hg, rest⟩
theorem ownN_alloc {w : World} {B : Nat} {v : Value} {L : List Pl.Nd} (h : ownN w B v L) (o : Obj) : ownN (w.alloc o) B v L := ownN_call h ((Below.refl _ _).alloc (Nat.le_refl _) o)
theorem ownN_lt {w : World} {B : Nat} {v : Value} {L : List Pl.Nd} (h : ownN w B v L) : ∀ g, v.ownBlock = some g → B ≤ g ∧ g < w.heap.size := fun g hg => World.ownsRow.lt h g hg
theorem ownN_nodes {w : World} {B n cap : Nat} {a : Option Addr} {L : List Pl.Nd} (h : ownN w B (.slice a n cap) L) : n = L.length ∧ isNodes w a L := by
  obtain ⟨a', cap', e, hn⟩ := ownN_is h
  injection e with e1 e2 e3
  subst e1 e2 e3
  exact ⟨rfl, hn⟩
theorem nodes_grown {w w' : World} {g o : Nat} {r : Option Nat} {L : List Pl.Nd} (h : isNodes w (some ⟨g, o, none⟩) L) (hg : w.grownBy w' r) (hr : some g ≠ r) : isNodes w' (some ⟨g, o, none⟩) L := fun i n hi => by
  obtain ⟨g', o', h1, h2, h3, h4, h5, h6, h7⟩ := h i n hi
  cases h1
  exact ⟨g, o, rfl, Nat.lt_of_lt_of_le h2 hg.size, hg.cell h3 hr, hg.cell h4 hr, hg.cell h5 hr, hg.cell h6 hr, hg.cell h7 hr⟩
theorem ownN_grown {w w' : World} {B : Nat} {v : Value} {r : Option Nat} {L : List Pl.Nd} (h : ownN w B v L) (hg : w.grownBy w' r) (hr : ∀ g, v.ownBlock = some g → some g ≠ r) : ownN w' B v L := by
  refine ⟨h.1, ?_⟩
  rcases h.2 with h0 | ⟨g, cap, cur, rfl, hb, hh, rest⟩
  · exact .inl h0
  · exact .inr ⟨g, cap, cur, rfl, hb, (hg.block g (Array.getElem?_eq_some_iff.1 hh).1 (hr g rfl)).trans hh, rest⟩
theorem grown_of_below {w w' : World} (b : Below w.heap.size w w') (r : Option Nat) : w.grownBy w' r := ⟨b.os, b.tape, b.output, b.size, fun j hj _ => b.block j hj⟩
theorem grown_trans {w v v' : World} {r : Option Nat} (h : w.grownBy v r) (h' : v.grownBy v' r) : w.grownBy v' r :=
  ⟨h'.os.trans h.os, h'.tape.trans h.tape, h'.output.trans h.output, Nat.le_trans h.size h'.size, fun j hj hne => (h'.block j (Nat.lt_of_lt_of_le hj h.size) hne).trans (h.block j hj hne)⟩
end Mem
end Go.Proofs.YtnbmpbfligdcjaaDoor

/- The walks of the program's reader of bytes: num, str, atEnd. -/
namespace Go.Proofs.YtnbmpbfligdcjaaDoor
open Go.RowKit
namespace Pl
/-- A reader's state: where it is, and its fault, if it has one. -/
def numR (s : ByteArray) (a : Int) : Option Int → Int × Int × Option Int
  | none => if (getNum s a).2.2 = 0 then ((getNum s a).1, (getNum s a).2.1, none) else (0, 0, some (getNum s a).2.2)
  | some c => (0, a, some c)
def strR (s : ByteArray) (a : Int) : Option Int → ByteArray × Int × Option Int
  | none => if (getText s a).2.2 = 0 then ((getText s a).1, (getText s a).2.1, none) else (⟨#[]⟩, 0, some (getText s a).2.2)
  | some c => (⟨#[]⟩, a, some c)
end Pl
namespace WReadI
def fv : Option Int → Value
  | none => .nilIface
  | some c => .iface 121 (.agg #[.int .i64 c])
def Rd (W : World) (X : Nat) (s : ByteArray) (a : Int) (f : Option Int) : Prop := Mem.Blk W X #[.string s, .int .i64 a, fv f] 71
theorem num_told (s : ByteArray) (a : Int) : ∃ n p f, WGet.told (Pl.getNum s a) = .tuple #[.int .i64 n, .int .i64 p, fv f] ∧ Pl.numR s a none = (n, p, f) := by
  unfold WGet.told Pl.numR
  by_cases h : (Pl.getNum s a).2.2 = 0
  · exact ⟨_, _, none, by rw [if_pos h]; rfl, by rw [if_pos h]⟩
  · exact ⟨_, _, some _, by rw [if_neg h]; rfl, by rw [if_neg h]⟩
theorem put_two {W : World} {X : Nat} {s : ByteArray} {a p : Int} {f g : Option Int} (h : Rd W X s a f) : Rd ((W.setCell ⟨X, 1, none⟩ (.int .i64 p)).setCell ⟨X, 2, none⟩ (fv g)) X s p g := (Mem.Blk.put h 1 _).put 2 _
theorem grown_set {w : World} (X k : Nat) (v : Value) : w.grownBy (w.setCell ⟨X, k, none⟩ v) (some X) :=
  have b : Below X w (w.setCell ⟨X, k, none⟩ v) := (Below.refl X w).setCell (Nat.le_refl _) v
  ⟨b.os, b.tape, b.output, b.size, fun j _ hne => heap_setCell_other w _ j v (fun e => hne (by rw [e]))⟩
set_option linter.unusedSimpArgs false in
set_option maxRecDepth 100000 in
set_option maxHeartbeats 1000000 in
theorem num_any (X : Nat) (s : ByteArray) (a : Int) (f : Option Int) (w : World) (h8 : s.size ≤ 8000) (ha : a ≤ 9223372036854775807) (hv : Rd w X s a f) :
    Calls Tryd.prog 41 #[.pointer (some ⟨X, 0, none⟩)] w fun e w' => e = .returned (.int .i64 (Pl.numR s a f).1) ∧ Rd w' X s (Pl.numR s a f).2.1 (Pl.numR s a f).2.2 ∧ w.grownBy w' (some X) := by
  have c0 := hv.cell 0
  have c1 := hv.cell 1
  have c2 := hv.cell 2
  have f1 := hv.fr 1
  have f2 := hv.fr 2
  simp only [kA0, kA1, kA2] at c0 c1 c2
  cases f with
  | some c =>
    have HV := hide hv
    clear hv
    simp only [fv] at c2
    go_enter Tryd.func41, Tryd.ntmps41
    go_wp2
    go_ret
    exact ⟨rfl, unhide HV, World.grownBy.refl _ _⟩
  | none =>
    obtain ⟨n, p, g, ht, hr⟩ := num_told s a
    have hz := hide (fun W => WGet.read_whole s a W h8 ha)
    rw [ht] at hz
    rw [hr]
    have HV := hide hv
    have HG := hide (show Rd ((w.setCell ⟨X, 1, none⟩ (.int .i64 p)).setCell ⟨X, 2, none⟩ (fv g)).drew X s p g from put_two (p := p) (g := g) hv)
    have HW := hide (World.grownBy.trans (World.grownBy.trans (grown_set (w := w) X 1 (.int .i64 p)) (grown_set X 2 (fv g))) (show ((w.setCell ⟨X, 1, none⟩ (.int .i64 p)).setCell ⟨X, 2, none⟩ (fv g)).grownBy ((w.setCell ⟨X, 1, none⟩ (.int .i64 p)).setCell ⟨X, 2, none⟩ (fv g)).drew (some X) from ⟨rfl, rfl, rfl, Nat.le_refl _, fun _ _ _ => rfl⟩))
    clear hv ht hr
    cases g with
    | none =>
      simp only [fv] at c2 hz HG HW
      go_enter Tryd.func41, Tryd.ntmps41
      go_wp2_with fail
      go_region_held3 (fun W' => W'.cell? ⟨X, 0, none⟩ = some (.string s) ∧ W'.cell? ⟨X, 1, none⟩ = some (.int .i64 a)) (exact ⟨c0, c1⟩) (first | (go_at_call 69; refine (unhide hz _).mono ?_; rintro e wX ⟨rfl, hw⟩; obtain rfl := hw))
      go_wp2
      go_ret
      exact ⟨rfl, unhide HG, unhide HW⟩
    | some c =>
      simp only [fv] at c2 hz HG HW
      go_enter Tryd.func41, Tryd.ntmps41
      go_wp2_with fail
      go_region_held3 (fun W' => W'.cell? ⟨X, 0, none⟩ = some (.string s) ∧ W'.cell? ⟨X, 1, none⟩ = some (.int .i64 a)) (exact ⟨c0, c1⟩) (first | (go_at_call 69; refine (unhide hz _).mono ?_; rintro e wX ⟨rfl, hw⟩; obtain rfl := hw))
      go_wp2
      go_ret
      exact ⟨rfl, unhide HG, unhide HW⟩
theorem str_told (s : ByteArray) (a : Int) : ∃ n p f, WTextI.told (Pl.getText s a) = .tuple #[.string n, .int .i64 p, fv f] ∧ Pl.strR s a none = (n, p, f) := by
  unfold WTextI.told Pl.strR
  by_cases h : (Pl.getText s a).2.2 = 0
  · exact ⟨_, _, none, by rw [if_pos h]; rfl, by rw [if_pos h]⟩
  · exact ⟨_, _, some _, by rw [if_neg h]; rfl, by rw [if_neg h]⟩
set_option linter.unusedSimpArgs false in
set_option maxRecDepth 100000 in
set_option maxHeartbeats 1000000 in
theorem str_any (X : Nat) (s : ByteArray) (a : Int) (f : Option Int) (w : World) (h8 : s.size ≤ 8000) (ha : a ≤ 9223372036854775807) (hv : Rd w X s a f) :
    Calls Tryd.prog 70 #[.pointer (some ⟨X, 0, none⟩)] w fun e w' => e = .returned (.string (Pl.strR s a f).1) ∧ Rd w' X s (Pl.strR s a f).2.1 (Pl.strR s a f).2.2 ∧ w.grownBy w' (some X) := by
  have c0 := hv.cell 0
  have c1 := hv.cell 1
  have c2 := hv.cell 2
  have f1 := hv.fr 1
  have f2 := hv.fr 2
  have hX : X < w.heap.size := hv.lt
  simp only [kA0, kA1, kA2] at c0 c1 c2
  cases f with
  | some c =>
    have HV := hide hv
    clear hv
    simp only [fv] at c2
    go_enter Tryd.func70, Tryd.ntmps70
    go_wp2
    go_ret
    exact ⟨rfl, unhide HV, World.grownBy.refl _ _⟩
  | none =>
    obtain ⟨n, p, g, ht, hr⟩ := str_told s a
    have hz := hide (fun W => WTextI.read_any s a W h8 ha)
    rw [ht] at hz
    rw [hr]
    have HV := hide hv
    have HG := hide (fun W (h : Rd W X s a none) (hg : w.drew.grownBy W (some X)) => (show Rd ((W.setCell ⟨X, 1, none⟩ (.int .i64 p)).setCell ⟨X, 2, none⟩ (fv g)) X s p g ∧ w.grownBy ((W.setCell ⟨X, 1, none⟩ (.int .i64 p)).setCell ⟨X, 2, none⟩ (fv g)) (some X) from
      ⟨put_two h, World.grownBy.trans (World.grownBy.trans (show w.grownBy W (some X) from ⟨hg.os, hg.tape, hg.output, hg.size, hg.block⟩) (grown_set X 1 _)) (grown_set X 2 _)⟩))
    clear hv ht hr
    cases g with
    | none =>
      simp only [fv] at c2 hz HG
      go_enter Tryd.func70, Tryd.ntmps70
      go_wp2_with fail
      go_region_held3 (fun W' => W'.cell? ⟨X, 0, none⟩ = some (.string s) ∧ W'.cell? ⟨X, 1, none⟩ = some (.int .i64 a)) (first | exact ⟨c0, c1⟩ | exact ⟨(bX.cell (p := ⟨X, 0, none⟩) hX).trans c0, (bX.cell (p := ⟨X, 1, none⟩) hX).trans c1⟩) (first | (go_at_call 85; refine (unhide hz _).mono ?_; rintro e wX ⟨rfl, bX⟩))
      have V := Mem.Blk.call (w := w.drew) (unhide HV) bX
      have d1 := V.cell 1
      have d2 := V.cell 2
      have e1 := V.fr 1
      have e2 := V.fr 2
      simp only [kA0, kA1, kA2, fv] at d1 d2
      have G := hide (unhide HG wX V (Mem.grown_of_below (w := w.drew) bX (some X)))
      clear V bX c0 c1 c2 f1 f2
      go_wp2
      go_ret
      exact ⟨rfl, (unhide G).1, (unhide G).2⟩
    | some c =>
      simp only [fv] at c2 hz HG
      go_enter Tryd.func70, Tryd.ntmps70
      go_wp2_with fail
      go_region_held3 (fun W' => W'.cell? ⟨X, 0, none⟩ = some (.string s) ∧ W'.cell? ⟨X, 1, none⟩ = some (.int .i64 a)) (first | exact ⟨c0, c1⟩ | exact ⟨(bX.cell (p := ⟨X, 0, none⟩) hX).trans c0, (bX.cell (p := ⟨X, 1, none⟩) hX).trans c1⟩) (first | (go_at_call 85; refine (unhide hz _).mono ?_; rintro e wX ⟨rfl, bX⟩))
      have V := Mem.Blk.call (w := w.drew) (unhide HV) bX
      have d1 := V.cell 1
      have d2 := V.cell 2
      have e1 := V.fr 1
      have e2 := V.fr 2
      simp only [kA0, kA1, kA2, fv] at d1 d2
      have G := hide (unhide HG wX V (Mem.grown_of_below (w := w.drew) bX (some X)))
      clear V bX c0 c1 c2 f1 f2
      go_wp2
      go_ret
      exact ⟨rfl, (unhide G).1, (unhide G).2⟩
end WReadI
end Go.Proofs.YtnbmpbfligdcjaaDoor

