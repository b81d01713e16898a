/- The laws' own marks on trees and on what gives a tree; eqTreeOut. -/
import Derived.Test.YtnmdmhokdcmhcabGreatDoorPartD
import Derived.Test.YtnmdmhokdcmhcabGreatDoorWLawE
namespace Go.Proofs.YtnmdmhokdcmhcabGreatDoor
open Go.RowKit
namespace WMarkN
theorem grown_below {w v v' : World} {g : Nat} (b : Below w.heap.size w v) (h : v.grownBy v' (some g)) : w.grownBy v' (some g) :=
  ⟨h.os.trans b.os, h.tape.trans b.tape, h.output.trans b.output, Nat.le_trans b.size h.size, fun j hj hne => (h.block j (Nat.lt_of_lt_of_le hj b.size) hne).trans (b.block j hj)⟩
/-- What the marks leave: the row's block is there still, the nodes are the marks, and nothing else is changed. -/
structure Laid (w w' : World) (g n K : Nat) (cur : Array Value) : Prop where
  row : ∃ cur', w'.heap[g]? = some (.cells cur' 43 (0, 0)) ∧ cur'.size = cur.size
  nodes : Mem.isNodes w' (some ⟨g, 0, none⟩) (Pl.markN K n)
  grown : w.grownBy w' (some g)
theorem Laid.below {w v w' : World} {g n K : Nat} {cur : Array Value} (b : Below w.heap.size w v) (h : Laid v w' g n K cur) : Laid w w' g n K cur := ⟨h.row, h.nodes, grown_below b h.grown⟩
theorem row_call {w v : World} {g : Nat} {cur : Array Value} (h : w.heap[g]? = some (.cells cur 43 (0, 0))) (b : Below w.heap.size w v) : v.heap[g]? = some (.cells cur 43 (0, 0)) :=
  (b.block _ (Array.getElem?_eq_some_iff.1 h).1).trans h
set_option maxRecDepth 100000 in
theorem layT_any (g n cap K : Nat) (cur : Array Value) (w : World) (hn : n ≤ 1048576) (hK : 0 < K) (hK2 : K ≤ 1000000) (hrow : w.heap[g]? = some (.cells cur 43 (0, 0))) (hsz : n * 5 ≤ cur.size) :
    Calls Tryz.prog 11 #[.agg #[.slice (some ⟨g, 0, none⟩) n cap], .int .i64 (K : Int)] w fun e w' => e = .returned (.int .i64 ((K + 5 * n : Nat) : Int)) ∧ Laid w w' g n K cur := by
  have b0 : ∀ o, Below w.heap.size w (w.alloc o) := fun o => (Below.refl _ _).alloc (Nat.le_refl _) o
  have HB := hide b0
  have hl := hide (fun W (b : Below w.heap.size w W) => lay_any g n cap K cur W hn hK (Nat.le_trans hK2 (by decide)) (row_call hrow b) hsz)
  clear hrow hsz b0
  go_enter Tryz.func11, Tryz.ntmps11
  go_wp2_with fail
  refine (unhide hl _ (unhide HB _)).mono ?_
  rintro e w1 ⟨rfl, h1, h2, h3⟩
  have H := hide ((Laid.mk h1 h2 h3).below (unhide HB _))
  clear h1 h2 h3 hl HB
  go_wp2
  go_ret
  exact ⟨rfl, unhide H⟩
set_option maxRecDepth 100000 in
theorem layO_any (g n cap K : Nat) (c : Int) (cur : Array Value) (w : World) (hn : n ≤ 1048576) (hK : 0 < K) (hK2 : K ≤ 1000000) (hrow : w.heap[g]? = some (.cells cur 43 (0, 0))) (hsz : n * 5 ≤ cur.size) :
    Calls Tryz.prog 12 #[.agg #[.slice (some ⟨g, 0, none⟩) n cap, .int .i64 c], .int .i64 (K : Int)] w fun e w' => e = .returned (.int .i64 ((K + 5 * n : Nat) : Int)) ∧ Laid w w' g n K cur := by
  have b0 : ∀ o, Below w.heap.size w (w.alloc o) := fun o => (Below.refl _ _).alloc (Nat.le_refl _) o
  have HB := hide b0
  have hl := hide (fun W (b : Below w.heap.size w W) => layT_any g n cap K cur W hn hK hK2 (row_call hrow b) hsz)
  clear hrow hsz b0
  go_enter Tryz.func12, Tryz.ntmps12
  go_wp2_with fail
  refine (unhide hl _ (unhide HB _)).mono ?_
  rintro e w1 ⟨rfl, h1⟩
  have H := hide (h1.below (unhide HB _))
  clear h1 hl HB
  go_wp2
  go_ret
  exact ⟨rfl, unhide H⟩
set_option maxRecDepth 100000 in
theorem heldT_any (a : Option Addr) (n cap K : Nat) (w : World) (hn : n ≤ 1048576) (hK : 0 < K) (hK2 : K ≤ 1000000) (hv : Mem.isNodes w a (Pl.markN K n)) :
    Calls Tryz.prog 29 #[.agg #[.slice a n cap], .int .i64 (K : Int)] w fun e w' => e = .returned (.int .i64 ((K + 5 * n : Nat) : Int)) ∧ Below w.heap.size w w' := by
  have b0 : ∀ o, Below w.heap.size w (w.alloc o) := fun o => (Below.refl _ _).alloc (Nat.le_refl _) o
  have HB := hide b0
  have hl := hide (fun W (b : Below w.heap.size w W) => held_any a n cap K W hn hK hK2 (Mem.nodes_call hv b))
  clear hv b0
  generalize hq : K + 5 * n = q at hl ⊢
  have t0 : ¬ (q : Int) < 0 := by omega
  clear hq
  go_enter Tryz.func29, Tryz.ntmps29
  go_wp2_with fail
  refine (unhide hl _ (unhide HB _)).mono ?_
  rintro e w1 ⟨rfl, b1⟩
  have b2 := (unhide HB _).trans (b1.mono (unhide HB _).size)
  clear b1 hl
  go_wp2
  go_ret
  exact ⟨rfl, b2⟩
set_option maxRecDepth 100000 in
theorem heldO_any (a : Option Addr) (n cap K : Nat) (c : Int) (w : World) (hn : n ≤ 1048576) (hK : 0 < K) (hK2 : K ≤ 1000000) (hv : Mem.isNodes w a (Pl.markN K n)) :
    Calls Tryz.prog 13 #[.agg #[.slice a n cap, .int .i64 c], .int .i64 (K : Int)] w fun e w' => e = .returned (.int .i64 ((K + 5 * n : Nat) : Int)) ∧ Below w.heap.size w w' := by
  have b0 : ∀ o, Below w.heap.size w (w.alloc o) := fun o => (Below.refl _ _).alloc (Nat.le_refl _) o
  have HB := hide b0
  have hl := hide (fun W (b : Below w.heap.size w W) => heldT_any a n cap K W hn hK hK2 (Mem.nodes_call hv b))
  clear hv b0
  generalize hq : K + 5 * n = q at hl ⊢
  have t0 : ¬ (q : Int) < 0 := by omega
  clear hq
  go_enter Tryz.func13, Tryz.ntmps13
  go_wp2_with fail
  refine (unhide hl _ (unhide HB _)).mono ?_
  rintro e w1 ⟨rfl, b1⟩
  have b2 := (unhide HB _).trans (b1.mono (unhide HB _).size)
  clear b1 hl
  go_wp2
  go_ret
  exact ⟨rfl, b2⟩
set_option maxRecDepth 100000 in
theorem eqO_any (a b : Option Addr) (c1 c2 : Nat) (c : Int) (L : List Pl.Nd) (w : World) (hl : L.length ≤ 1048576) (hv : Mem.isNodes w a L) (hu : Mem.isNodes w b L) :
    Calls Tryz.prog 9 #[.agg #[.slice a L.length c1, .int .i64 c], .agg #[.slice b L.length c2, .int .i64 c]] w fun e w' => e = .returned (.bool true) ∧ Below w.heap.size w w' := by
  have b0 : Below w.heap.size w ((w.alloc (.cells #[.slice a L.length c1, .int .i64 c] 30)).alloc (.cells #[.slice b L.length c2, .int .i64 c] 30)) := ((Below.refl _ _).alloc (Nat.le_refl _) _).alloc (by simp) _
  have va := Mem.var_alloc (Mem.var_new w [.slice a L.length c1, .int .i64 c] 30) (.cells #[.slice b L.length c2, .int .i64 c] 30)
  have vb := Mem.var_new (w.alloc (.cells #[.slice a L.length c1, .int .i64 c] 30)) [.slice b L.length c2, .int .i64 c] 30
  rw [show (w.alloc (.cells #[.slice a L.length c1, .int .i64 c] 30)).heap.size = w.heap.size + 1 by simp] at vb
  have he := hide (fun W (bw : Below w.heap.size w W) => WLaw.eqTree_any a b c1 c2 L W hl (Mem.nodes_call hv bw) (Mem.nodes_call hu bw))
  clear hv hu
  go_enter Tryz.func9, Tryz.ntmps9
  go_wp2_with fail
  refine (unhide he _ b0).mono ?_
  rintro e w1 ⟨rfl, b1⟩
  have bw1 := b0.trans (b1.mono b0.size)
  have k5 := (Mem.var_call va b1).2 1 _ rfl
  have d5 := (Mem.var_call vb b1).2 1 _ rfl
  clear he va vb b0 b1
  go_wp2
  go_ret
  exact ⟨rfl, bw1⟩
end WMarkN
end Go.Proofs.YtnmdmhokdcmhcabGreatDoor
