/- Several texts of one claim in one file: WMkT, WMkO, Merge, WMarkP, OkNode. -/
import Derived.Test.YtepmojmelcngeaaGreatDoorG40
import Derived.Test.YtepmojmelcngeaaGreatDoorG39
import Derived.Test.YtepmojmelcngeaaGreatDoorG12
import Derived.Deep.RegionHeld3
import Derived.Test.YtepmojmelcngeaaGreatDoorG03
import Derived.Test.YtepmojmelcngeaaGreatDoorG01
/- The laws' own marks on trees and on what gives a tree; eqTreeOut. -/
namespace Go.Proofs.YtepmojmelcngeaaGreatDoor
open Go.RowKit
namespace WMarkN
theorem grown_below {w v v' : World} {g : Nat} (b : Below w.heap.size w v) (h : v.grownBy v' (some g)) : w.grownBy v' (some g) :=
  ⟨h.os.trans b.os, h.tape.trans b.tape, h.output.trans b.output, Nat.le_trans b.size h.size, fun j hj hne => (h.block j (Nat.lt_of_lt_of_le hj b.size) hne).trans (b.block j hj)⟩
/-- What the marks leave: the row's block is there still, the nodes are the marks, and nothing else is changed. -/
structure Laid (w w' : World) (g n K : Nat) (cur : Array Value) : Prop where
  row : ∃ cur', w'.heap[g]? = some (.cells cur' 36 (0, 0)) ∧ cur'.size = cur.size
  nodes : Mem.isNodes w' (some ⟨g, 0, none⟩) (Pl.markN K n)
  grown : w.grownBy w' (some g)
theorem Laid.below {w v w' : World} {g n K : Nat} {cur : Array Value} (b : Below w.heap.size w v) (h : Laid v w' g n K cur) : Laid w w' g n K cur := ⟨h.row, h.nodes, grown_below b h.grown⟩
theorem row_call {w v : World} {g : Nat} {cur : Array Value} (h : w.heap[g]? = some (.cells cur 36 (0, 0))) (b : Below w.heap.size w v) : v.heap[g]? = some (.cells cur 36 (0, 0)) :=
  (b.block _ (Array.getElem?_eq_some_iff.1 h).1).trans h
set_option maxRecDepth 100000 in
theorem layT_any (g n cap K : Nat) (cur : Array Value) (w : World) (hn : n ≤ 1048576) (hK : 0 < K) (hK2 : K ≤ 1000000) (hrow : w.heap[g]? = some (.cells cur 36 (0, 0))) (hsz : n * 5 ≤ cur.size) :
    Calls Tryz.prog 15 #[.agg #[.slice (some ⟨g, 0, none⟩) n cap], .int .i64 (K : Int)] w fun e w' => e = .returned (.int .i64 ((K + 5 * n : Nat) : Int)) ∧ Laid w w' g n K cur := by
  have b0 : ∀ o, Below w.heap.size w (w.alloc o) := fun o => (Below.refl _ _).alloc (Nat.le_refl _) o
  have HB := hide b0
  have hl := hide (fun W (b : Below w.heap.size w W) => lay_any g n cap K cur W hn hK (Nat.le_trans hK2 (by decide)) (row_call hrow b) hsz)
  clear hrow hsz b0
  go_enter Tryz.func15, Tryz.ntmps15
  go_wp2_with fail
  refine (unhide hl _ (unhide HB _)).mono ?_
  rintro e w1 ⟨rfl, h1, h2, h3⟩
  have H := hide ((Laid.mk h1 h2 h3).below (unhide HB _))
  clear h1 h2 h3 hl HB
  go_wp2
  go_ret
  exact ⟨rfl, unhide H⟩
set_option maxRecDepth 100000 in
theorem layO_any (g n cap K : Nat) (c : Int) (cur : Array Value) (w : World) (hn : n ≤ 1048576) (hK : 0 < K) (hK2 : K ≤ 1000000) (hrow : w.heap[g]? = some (.cells cur 36 (0, 0))) (hsz : n * 5 ≤ cur.size) :
    Calls Tryz.prog 16 #[.agg #[.slice (some ⟨g, 0, none⟩) n cap, .int .i64 c], .int .i64 (K : Int)] w fun e w' => e = .returned (.int .i64 ((K + 5 * n : Nat) : Int)) ∧ Laid w w' g n K cur := by
  have b0 : ∀ o, Below w.heap.size w (w.alloc o) := fun o => (Below.refl _ _).alloc (Nat.le_refl _) o
  have HB := hide b0
  have hl := hide (fun W (b : Below w.heap.size w W) => layT_any g n cap K cur W hn hK hK2 (row_call hrow b) hsz)
  clear hrow hsz b0
  go_enter Tryz.func16, Tryz.ntmps16
  go_wp2_with fail
  refine (unhide hl _ (unhide HB _)).mono ?_
  rintro e w1 ⟨rfl, h1⟩
  have H := hide (h1.below (unhide HB _))
  clear h1 hl HB
  go_wp2
  go_ret
  exact ⟨rfl, unhide H⟩
set_option maxRecDepth 100000 in
theorem heldT_any (a : Option Addr) (n cap K : Nat) (w : World) (hn : n ≤ 1048576) (hK : 0 < K) (hK2 : K ≤ 1000000) (hv : Mem.isNodes w a (Pl.markN K n)) :
    Calls Tryz.prog 48 #[.agg #[.slice a n cap], .int .i64 (K : Int)] w fun e w' => e = .returned (.int .i64 ((K + 5 * n : Nat) : Int)) ∧ Below w.heap.size w w' := by
  have b0 : ∀ o, Below w.heap.size w (w.alloc o) := fun o => (Below.refl _ _).alloc (Nat.le_refl _) o
  have HB := hide b0
  have hl := hide (fun W (b : Below w.heap.size w W) => held_any a n cap K W hn hK hK2 (Mem.nodes_call hv b))
  clear hv b0
  generalize hq : K + 5 * n = q at hl ⊢
  have t0 : ¬ (q : Int) < 0 := by omega
  clear hq
  go_enter Tryz.func48, Tryz.ntmps48
  go_wp2_with fail
  refine (unhide hl _ (unhide HB _)).mono ?_
  rintro e w1 ⟨rfl, b1⟩
  have b2 := (unhide HB _).trans (b1.mono (unhide HB _).size)
  clear b1 hl
  go_wp2
  go_ret
  exact ⟨rfl, b2⟩
set_option maxRecDepth 100000 in
theorem heldO_any (a : Option Addr) (n cap K : Nat) (c : Int) (w : World) (hn : n ≤ 1048576) (hK : 0 < K) (hK2 : K ≤ 1000000) (hv : Mem.isNodes w a (Pl.markN K n)) :
    Calls Tryz.prog 17 #[.agg #[.slice a n cap, .int .i64 c], .int .i64 (K : Int)] w fun e w' => e = .returned (.int .i64 ((K + 5 * n : Nat) : Int)) ∧ Below w.heap.size w w' := by
  have b0 : ∀ o, Below w.heap.size w (w.alloc o) := fun o => (Below.refl _ _).alloc (Nat.le_refl _) o
  have HB := hide b0
  have hl := hide (fun W (b : Below w.heap.size w W) => heldT_any a n cap K W hn hK hK2 (Mem.nodes_call hv b))
  clear hv b0
  generalize hq : K + 5 * n = q at hl ⊢
  have t0 : ¬ (q : Int) < 0 := by omega
  clear hq
  go_enter Tryz.func17, Tryz.ntmps17
  go_wp2_with fail
  refine (unhide hl _ (unhide HB _)).mono ?_
  rintro e w1 ⟨rfl, b1⟩
  have b2 := (unhide HB _).trans (b1.mono (unhide HB _).size)
  clear b1 hl
  go_wp2
  go_ret
  exact ⟨rfl, b2⟩
set_option maxRecDepth 100000 in
theorem eqO_any (a b : Option Addr) (c1 c2 : Nat) (c : Int) (L : List Pl.Nd) (w : World) (hl : L.length ≤ 1048576) (hv : Mem.isNodes w a L) (hu : Mem.isNodes w b L) :
    Calls Tryz.prog 13 #[.agg #[.slice a L.length c1, .int .i64 c], .agg #[.slice b L.length c2, .int .i64 c]] w fun e w' => e = .returned (.bool true) ∧ Below w.heap.size w w' := by
  have b0 : Below w.heap.size w ((w.alloc (.cells #[.slice a L.length c1, .int .i64 c] 33)).alloc (.cells #[.slice b L.length c2, .int .i64 c] 33)) := ((Below.refl _ _).alloc (Nat.le_refl _) _).alloc (by simp) _
  have va := Mem.var_alloc (Mem.var_new w [.slice a L.length c1, .int .i64 c] 33) (.cells #[.slice b L.length c2, .int .i64 c] 33)
  have vb := Mem.var_new (w.alloc (.cells #[.slice a L.length c1, .int .i64 c] 33)) [.slice b L.length c2, .int .i64 c] 33
  rw [show (w.alloc (.cells #[.slice a L.length c1, .int .i64 c] 33)).heap.size = w.heap.size + 1 by simp] at vb
  have he := hide (fun W (bw : Below w.heap.size w W) => WLaw.eqTree_any a b c1 c2 L W hl (Mem.nodes_call hv bw) (Mem.nodes_call hu bw))
  clear hv hu
  go_enter Tryz.func13, Tryz.ntmps13
  go_wp2_with fail
  refine (unhide he _ b0).mono ?_
  rintro e w1 ⟨rfl, b1⟩
  have bw1 := b0.trans (b1.mono b0.size)
  have k5 := (Mem.var_call va b1).2 1 _ rfl
  have d5 := (Mem.var_call vb b1).2 1 _ rfl
  clear he va vb b0 b1
  go_wp2
  go_ret
  exact ⟨rfl, bw1⟩
end WMarkN
end Go.Proofs.YtepmojmelcngeaaGreatDoor

/- The marks of a law on what gives a tree, over rows of the call's own; and what a law keeps from call to call. -/
namespace Go.Proofs.YtepmojmelcngeaaGreatDoor
open Go.RowKit
namespace WMarkN
set_option maxRecDepth 100000 in
theorem layNil (K : Nat) (w : World) : Calls Tryz.prog 47 #[.slice none 0 0, .int .i64 (K : Int)] w fun e w' => e = .returned (.int .i64 (K : Int)) ∧ Below w.heap.size w w' := by
  go_enter Tryz.func47, Tryz.ntmps47
  go_wp2
  refine wp_loop_rounds 1 ?_
  rw [rounds_succ]
  go_wp2
  go_ret
  exact ⟨rfl, Below.refl _ _⟩
set_option maxRecDepth 100000 in
theorem layTNil (K : Nat) (w : World) : Calls Tryz.prog 15 #[.agg #[.slice none 0 0], .int .i64 (K : Int)] w fun e w' => e = .returned (.int .i64 (K : Int)) ∧ Below w.heap.size w w' := by
  have b0 : ∀ o, Below w.heap.size w (w.alloc o) := fun o => (Below.refl _ _).alloc (Nat.le_refl _) o
  have HB := hide b0
  clear b0
  go_enter Tryz.func15, Tryz.ntmps15
  go_wp2_with fail
  refine (layNil K _).mono ?_
  rintro e w1 ⟨rfl, b1⟩
  have H := hide ((unhide HB _).trans (b1.mono (unhide HB _).size))
  clear b1 HB
  go_wp2
  go_ret
  exact ⟨rfl, unhide H⟩
set_option maxRecDepth 100000 in
theorem layONil (K : Nat) (c : Int) (w : World) : Calls Tryz.prog 16 #[.agg #[.slice none 0 0, .int .i64 c], .int .i64 (K : Int)] w fun e w' => e = .returned (.int .i64 (K : Int)) ∧ Below w.heap.size w w' := by
  have b0 : ∀ o, Below w.heap.size w (w.alloc o) := fun o => (Below.refl _ _).alloc (Nat.le_refl _) o
  have HB := hide b0
  clear b0
  go_enter Tryz.func16, Tryz.ntmps16
  go_wp2_with fail
  refine (layTNil K _).mono ?_
  rintro e w1 ⟨rfl, b1⟩
  have H := hide ((unhide HB _).trans (b1.mono (unhide HB _).size))
  clear b1 HB
  go_wp2
  go_ret
  exact ⟨rfl, unhide H⟩
/-- The marks on an answer that is the call's own. -/
theorem layO_own (a : Option Addr) (n cap K B : Nat) (c : Int) (O : List Pl.Nd) (w : World) (hn : n ≤ 1048576) (hK : 0 < K) (hK2 : K ≤ 1000000) (h : Mem.ownN w B (.slice a n cap) O) :
    Calls Tryz.prog 16 #[.agg #[.slice a n cap, .int .i64 c], .int .i64 (K : Int)] w fun e w' => e = .returned (.int .i64 ((K + 5 * n : Nat) : Int)) ∧ Mem.isNodes w' a (Pl.markN K n) ∧ w.grownBy w' (Value.slice a n cap).ownBlock := by
  have hlen := (Mem.ownN_nodes h).1
  rcases h.2 with ⟨e, h0⟩ | ⟨g, cap', cur, e, hb, hg, hc, hm, hsz, ht⟩
  · injection e with e1 e2 e3
    subst e1 e2 e3
    exact (layONil K c w).mono fun _ _ ⟨he, b⟩ => ⟨he, fun i n hi => by simp [Pl.markN] at hi, Mem.grown_of_below b _⟩
  · injection e with e1 e2 e3
    subst e1 e3
    exact (layO_any g n cap K c cur w hn hK hK2 hg (by rw [hsz]; rw [e2]; exact Nat.mul_le_mul_right _ hc)).mono fun _ _ ⟨he, hl⟩ => ⟨he, hl.nodes, hl.grown⟩
/-- What a law keeps: its argument's variable, and what the specification answered. -/
structure W0 (w W : World) (a : Option Addr) (n cap Y B1 : Nat) (aw : Option Addr) (cw : Nat) (O : List Pl.Nd) (c : Int) : Prop where
  bel : Below w.heap.size w W
  arg : Mem.Blk W w.heap.size #[.slice a n cap] 24
  var : Mem.Blk W Y #[.slice aw O.length cw, .int .i64 c] 33
  own : Mem.ownN W B1 (.slice aw O.length cw) O
  lo : w.heap.size < B1
  hi : ∀ g, (Value.slice aw O.length cw).ownBlock = some g → g < Y
  y : w.heap.size < Y
theorem W0.call {w W W' : World} {a aw : Option Addr} {n cap Y B1 cw : Nat} {O : List Pl.Nd} {c : Int} (h : W0 w W a n cap Y B1 aw cw O c) (b : Below W.heap.size W W') : W0 w W' a n cap Y B1 aw cw O c :=
  ⟨h.bel.trans (b.mono h.bel.size), h.arg.call b, h.var.call b, Mem.ownN_call h.own b, h.lo, h.hi, h.y⟩
theorem W0.grown {w W W' : World} {a aw : Option Addr} {n cap Y B1 cw : Nat} {O : List Pl.Nd} {c : Int} {r : Option Nat} (h : W0 w W a n cap Y B1 aw cw O c) (b : W.grownBy W' r) (hr : ∀ g, r = some g → Y < g) : W0 w W' a n cap Y B1 aw cw O c :=
  ⟨h.bel.grown b h.bel.size (fun q hq => by have := hr q hq; have := h.y; omega), h.arg.grown b (fun e => by have := hr _ e.symm; have := h.y; omega), h.var.grown b (fun e => by have := hr _ e.symm; omega),
    Mem.ownN_grown h.own b (fun g hg e => by have := hr _ e.symm; have := h.hi g hg; omega), h.lo, h.hi, h.y⟩
/-- .. the tree that the program was given. -/
structure X0 (W : World) (X g2 : Nat) (L : List Pl.Nd) (cur : Array Value) : Prop where
  var : Mem.Blk W X #[.slice (some ⟨g2, 0, none⟩) L.length L.length] 31
  row : Mem.Blk W g2 cur 36
  size : cur.size = L.length * 5
  nodes : Mem.isNodes W (some ⟨g2, 0, none⟩) L
  lt : g2 < X
theorem X0.call {W W' : World} {X g2 : Nat} {L : List Pl.Nd} {cur : Array Value} (h : X0 W X g2 L cur) (b : Below W.heap.size W W') : X0 W' X g2 L cur :=
  ⟨h.var.call b, h.row.call b, h.size, Mem.nodes_call h.nodes b, h.lt⟩
/-- .. what the program answered. -/
structure G0 (W : World) (G B3 : Nat) (ag : Option Addr) (cg : Nat) (O : List Pl.Nd) (c : Int) : Prop where
  var : Mem.Blk W G #[.slice ag O.length cg, .int .i64 c] 33
  own : Mem.ownN W B3 (.slice ag O.length cg) O
  hi : ∀ g, (Value.slice ag O.length cg).ownBlock = some g → g < G
  b : B3 ≤ G
theorem G0.call {W W' : World} {G B3 cg : Nat} {ag : Option Addr} {O : List Pl.Nd} {c : Int} (h : G0 W G B3 ag cg O c) (b : Below W.heap.size W W') : G0 W' G B3 ag cg O c :=
  ⟨h.var.call b, Mem.ownN_call h.own b, h.hi, h.b⟩
theorem G0.grown {W W' : World} {G B3 cg : Nat} {ag : Option Addr} {O : List Pl.Nd} {c : Int} {r : Option Nat} (h : G0 W G B3 ag cg O c) (b : W.grownBy W' r) (hr : ∀ g, r = some g → g < B3) : G0 W' G B3 ag cg O c :=
  ⟨h.var.grown b (fun e => by have := hr _ e.symm; have := h.b; omega), Mem.ownN_grown h.own b (fun g hg e => by have := hr _ e.symm; have := (Mem.ownN_lt h.own g hg).1; omega), h.hi, h.b⟩
/-- .. and the marks on it. -/
structure M0 (W : World) (G : Nat) (ag : Option Addr) (n cg K : Nat) (c : Int) : Prop where
  var : Mem.Blk W G #[.slice ag n cg, .int .i64 c] 33
  nodes : Mem.isNodes W ag (Pl.markN K n)
theorem M0.call {W W' : World} {G n cg K : Nat} {ag : Option Addr} {c : Int} (h : M0 W G ag n cg K c) (b : Below W.heap.size W W') : M0 W' G ag n cg K c :=
  ⟨h.var.call b, Mem.nodes_call h.nodes b⟩
end WMarkN
end Go.Proofs.YtepmojmelcngeaaGreatDoor

/- The orders of a region brought together again behind it. -/
namespace Go.Proofs.YtepmojmelcngeaaGreatDoor

theorem wp_merge {P : Program} {code : Code} {Q : Exit → Act → World → Prop} {T : Array Value} {D : List _} {w : World} (R : Array Value → Array Value → World → Prop)
    (h : code.wp P (fun e a W => e = .normal ∧ a.defers = D ∧ R T a.tmps W) ⟨T, D⟩ w) (h2 : ∀ T' W, R T T' W → Q .normal ⟨T', D⟩ W) : code.wp P Q ⟨T, D⟩ w :=
  Code.wp_mono (fun e a W ⟨h1, h3, h4⟩ => by
    obtain ⟨t, d⟩ := a
    simp only at h3
    subst h1 h3
    exact h2 _ _ h4) h
end Go.Proofs.YtepmojmelcngeaaGreatDoor

/- What a law keeps from call to call where a tree and a node are handed on: the orders of a region brought together again behind it. -/
namespace Go.Proofs.YtepmojmelcngeaaGreatDoor
open Go.RowKit
namespace WMarkP
structure Got (w W : World) (Y : Nat) (aw : Option Addr) (cw : Nat) (O : List Pl.Nd) (c : Int) : Prop where
  bel : Below w.heap.size w W
  lo : w.heap.size ≤ Y
  var : Mem.Blk W Y #[.slice aw O.length cw, .int .i64 c] 33
  own : Mem.ownN W w.heap.size (.slice aw O.length cw) O
  ne : ∀ g, (Value.slice aw O.length cw).ownBlock = some g → g ≠ Y
theorem Got.of {w W : World} {Y cw : Nat} {aw : Option Addr} {O : List Pl.Nd} {c : Int} (b : Below w.heap.size w W) (lo : w.heap.size ≤ Y) (V : Mem.Blk W Y #[.slice none 0 0, .int .i64 0] 33) (own : Mem.ownN W w.heap.size (.slice aw O.length cw) O) (ne : ∀ g, (Value.slice aw O.length cw).ownBlock = some g → g ≠ Y) :
    Got w ((W.setCell ⟨Y, 0, none⟩ (.slice aw O.length cw)).setCell ⟨Y, 1, none⟩ (.int .i64 c)) Y aw cw O c :=
  ⟨(b.setCell lo _).setCell lo _, lo, (V.put 0 _).put 1 _, Mem.ownN_far (Mem.ownN_far own _ _ (fun g hg e => ne g hg e.symm)) _ _ (fun g hg e => ne g hg e.symm), ne⟩
/-- What a law keeps: its arguments' variables, and what the specification answered. -/
structure W1 (w W : World) (a : Option Addr) (n cap : Nat) (NC : Array Value) (Y Z B1 : Nat) (aw : Option Addr) (cw : Nat) (O : List Pl.Nd) (c : Int) : Prop where
  bel : Below w.heap.size w W
  arg : Mem.Blk W w.heap.size #[.slice a n cap] 24
  nod : Mem.Blk W (w.heap.size + 1) NC 26
  var : Mem.Blk W Y #[.slice aw O.length cw, .int .i64 c] 33
  own : Mem.ownN W B1 (.slice aw O.length cw) O
  hi : ∀ g, (Value.slice aw O.length cw).ownBlock = some g → g < Z
  y : Y < Z
  z : w.heap.size + 1 < Z
theorem W1.of {w w0 W : World} {a aw : Option Addr} {n cap Y cw : Nat} {NC : Array Value} {O : List Pl.Nd} {c : Int} (b : Below w.heap.size w w0) (A : Mem.Blk w0 w.heap.size #[.slice a n cap] 24) (N : Mem.Blk w0 (w.heap.size + 1) NC 26) (g : Got w0 W Y aw cw O c) :
    W1 w W a n cap NC Y W.heap.size w0.heap.size aw cw O c :=
  ⟨b.trans (g.bel.mono b.size), A.call g.bel, N.call g.bel, g.var, g.own, fun q hq => (Mem.ownN_lt g.own q hq).2, g.var.lt, (N.call g.bel).lt⟩
theorem W1.call {w W W' : World} {a aw : Option Addr} {n cap Y Z B1 cw : Nat} {NC : Array Value} {O : List Pl.Nd} {c : Int} (h : W1 w W a n cap NC Y Z B1 aw cw O c) (b : Below W.heap.size W W') : W1 w W' a n cap NC Y Z B1 aw cw O c :=
  ⟨h.bel.trans (b.mono h.bel.size), h.arg.call b, h.nod.call b, h.var.call b, Mem.ownN_call h.own b, h.hi, h.y, h.z⟩
theorem W1.grown {w W W' : World} {a aw : Option Addr} {n cap Y Z B1 cw : Nat} {NC : Array Value} {O : List Pl.Nd} {c : Int} {r : Option Nat} (h : W1 w W a n cap NC Y Z B1 aw cw O c) (b : W.grownBy W' r) (hr : ∀ g, r = some g → Z ≤ g) : W1 w W' a n cap NC Y Z B1 aw cw O c :=
  ⟨h.bel.grown b h.bel.size (fun q hq => by have := hr q hq; have := h.z; omega), h.arg.grown b (fun e => by have := hr _ e.symm; have := h.z; omega), h.nod.grown b (fun e => by have := hr _ e.symm; have := h.z; omega), h.var.grown b (fun e => by have := hr _ e.symm; have := h.y; omega),
    Mem.ownN_grown h.own b (fun g hg e => by have := hr _ e.symm; have := h.hi g hg; omega), h.hi, h.y, h.z⟩
/-- .. what the program answered. -/
structure G1 (W : World) (G B3 : Nat) (ag : Option Addr) (cg : Nat) (O : List Pl.Nd) (c : Int) : Prop where
  var : Mem.Blk W G #[.slice ag O.length cg, .int .i64 c] 33
  own : Mem.ownN W B3 (.slice ag O.length cg) O
  ne : ∀ g, (Value.slice ag O.length cg).ownBlock = some g → g ≠ G
  b : B3 ≤ G
theorem G1.of {w W : World} {G cg : Nat} {ag : Option Addr} {O : List Pl.Nd} {c : Int} (g : Got w W G ag cg O c) : G1 W G w.heap.size ag cg O c := ⟨g.var, g.own, g.ne, g.lo⟩
theorem G1.call {W W' : World} {G B3 cg : Nat} {ag : Option Addr} {O : List Pl.Nd} {c : Int} (h : G1 W G B3 ag cg O c) (b : Below W.heap.size W W') : G1 W' G B3 ag cg O c :=
  ⟨h.var.call b, Mem.ownN_call h.own b, h.ne, h.b⟩
theorem G1.grown {W W' : World} {G B3 cg : Nat} {ag : Option Addr} {O : List Pl.Nd} {c : Int} {r : Option Nat} (h : G1 W G B3 ag cg O c) (b : W.grownBy W' r) (hr : ∀ g, r = some g → g < B3) : G1 W' G B3 ag cg O c :=
  ⟨h.var.grown b (fun e => by have := hr _ e.symm; have := h.b; omega), Mem.ownN_grown h.own b (fun g hg e => by have := hr _ e.symm; have := (Mem.ownN_lt h.own g hg).1; omega), h.ne, h.b⟩
end WMarkP
end Go.Proofs.YtepmojmelcngeaaGreatDoor

/- A node that came in: its bounds. -/
namespace Go.Proofs.YtepmojmelcngeaaGreatDoor
open Go.RowKit
namespace OpenN
def Ok (n : Pl.Nd) : Prop := n.path.size ≤ maxLen ∧ n.data.size ≤ maxLen ∧ (-9223372036854775808 ≤ n.kind ∧ n.kind ≤ 9223372036854775807) ∧ (-9223372036854775808 ≤ n.time ∧ n.time ≤ 9223372036854775807) ∧ (-9223372036854775808 ≤ n.mark ∧ n.mark ≤ 9223372036854775807)
end OpenN
end Go.Proofs.YtepmojmelcngeaaGreatDoor

