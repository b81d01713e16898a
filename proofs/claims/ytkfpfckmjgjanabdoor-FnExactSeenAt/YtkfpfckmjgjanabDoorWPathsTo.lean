/- The paths on the way to one: pathsTo, and its iterator. -/
import Derived.RangeFuncNested
import Derived.RangeFuncBound
import Derived.RangeFuncCalls
import Derived.RangeFuncLeaves
import Derived.Shelf.Abstract
import Derived.Shelf.RegionOpen
import Derived.WalkKit
import Derived.OwnWalkIn
import Derived.TacticsInMore
import Derived.LoopNIn
import Derived.LoopIn
import Derived.Test.YtkfpfckmjgjanabDoorG08
import Derived.Test.YtkfpfckmjgjanabDoorG09
import Derived.Test.YtkfpfckmjgjanabDoorG17
namespace Go.Proofs.YtkfpfckmjgjanabDoor
open Go.RowKit Go.Shelf
attribute [local go_sem] Oper.semAt_some
namespace Pl
/-- The first k paths on the way along names. -/
def ways (L : List ByteArray) (k : Nat) : List ByteArray := (List.range k).map (fun i => glue (L.take (i + 1)))
theorem ways_succ (L : List ByteArray) (k : Nat) : ways L (k + 1) = ways L k ++ [glue (L.take (k + 1))] := by simp [ways, List.range_succ]
theorem ways_len (L : List ByteArray) (k : Nat) : (ways L k).length = k := by simp [ways]
end Pl
namespace WWays
/-- A text that is not too long. -/
abbrev Small := { x : ByteArray // x.size ≤ 1000000 }
/-- All blocks of cells but one are as they were. -/
def KC (X : Nat) (W W' : World) : Prop := W.heap.size ≤ W'.heap.size ∧ ∀ (j : Nat) (o : Obj), j ≠ X → W.heap[j]? = some o → o.isCells = true → W'.heap[j]? = some o
theorem KC.trans {X : Nat} {A B C : World} (h1 : KC X A B) (h2 : KC X B C) : KC X A C := ⟨Nat.le_trans h1.1 h2.1, fun j o hj ho hc => h2.2 j o hj (h1.2 j o hj ho hc) hc⟩
theorem KC.put {X l : Nat} (W : World) (o o' : Obj) (hl : W.heap[l]? = some o) (ho : o.isCells = false) : KC X W (W.putObj l o') := by
  refine ⟨by simp, fun j p _ hp hc => ?_⟩
  have hne : j ≠ l := fun e => by rw [e, hl] at hp; cases hp; rw [ho] at hc; cases hc
  exact (World.putObj_heap_other hne).trans hp
theorem row_kept {X : Nat} {W W' : World} {B T n : Nat} {v : Value} {xs : List Value} (h : W.ownsRow B T 1 v n xs) (k : KC X W W') (hX : X < B) : W'.ownsRow B T 1 v n xs := by
  refine ⟨h.1, ?_⟩
  rcases h.2 with h0 | ⟨g, cap, cur, hv, hb, hg, rest⟩
  · exact .inl h0
  · exact .inr ⟨g, cap, cur, hv, hb, k.2 g _ (by omega) hg rfl, rest⟩
end WWays
namespace Mem
theorem texts_take {w : World} {a : Option Addr} {n cap : Nat} {L : List ByteArray} (h : isTexts w (.slice a n cap) L) (k : Nat) (hk : k ≤ L.length) (h0 : 0 < k) : isTexts w (.slice a k cap) (L.take k) := by
  rcases h with ⟨_, h2⟩ | ⟨b, o, cap', hv, hb, hc⟩
  · subst h2; simp at hk; omega
  · injection hv with e1 e2 e3
    subst e1
    refine .inr ⟨b, o, cap, by rw [List.length_take, Nat.min_eq_left hk], hb, fun j t hj => hc j t ?_⟩
    rw [List.getElem?_take] at hj
    split at hj
    · exact hj
    · cases hj
theorem own_cap {w : World} {B T n cap : Nat} {a : Option Addr} {xs : List Value} (h : w.ownsRow B T 1 (.slice a n cap) n xs) : n ≤ cap := by
  rcases h.2 with ⟨hv, h0⟩ | ⟨g, cap', cur, hv, hb, hg, hc, rest⟩
  · omega
  · injection hv with e1 e2 e3
    omega
end Mem
namespace WWays
set_option linter.unusedSimpArgs false in
set_option maxRecDepth 100000 in
set_option maxHeartbeats 2000000 in
theorem iter_stops (n : Nat) (X : Nat) (q : Addr) (p : ByteArray) (w : World) (hX : X < w.heap.size) (hq : w.cell? q = some (.string p)) (hql : q.block < w.heap.size) (hp : p.size ≤ 1048576) :
    SeqStopsK Fence.wide n Tryd.prog 111 #[.pointer (some q)] (fun x : Small => #[Value.string x.1]) (KC X) (fun xs => xs.map Subtype.val = Pl.ways (Pl.namesR p) (Pl.namesR p).length) (fun _ => True) (Pl.namesR p).length w := fun l J Jx W hW hJ _ hY h0 => by
  have hq1 : W.cell? q = some (.string p) := (hW.cell hql).trans hq
  have hXW : X < W.heap.size := Nat.lt_of_lt_of_le hX hW.size
  have HN := hide (WNames.any p W hp)
  generalize Pl.pathB p = rr at HN
  have hl6 : (Pl.namesR p).length ≤ 6 := (Pl.namesR_all p).2
  have HGL : Hid (∀ k, (Pl.glue ((Pl.namesR p).take k)).size ≤ 1000000) := fun k => Pl.glue_small (fun t ht => (Pl.namesR_all p).1 t (List.mem_of_mem_take ht)) (by have := (Pl.namesR_all p).2; simp; omega)
  generalize Pl.namesR p = L at hY hl6 HGL HN ⊢
  refine callsIn_of_wp Tryd.func111 rfl trivial ?_ rfl
  simp only [Tryd.ntmps111, List.size_toArray, List.length_cons, List.length_nil, Nat.reduceAdd, Nat.reduceSub, Array.replicate_succ, Array.replicate_zero, List.push_toArray, List.append_toArray, List.nil_append, List.cons_append]
  gi_wp2_with fail
  refine ⟨trivial, fun h => (by cases h), ?_⟩
  refine (callsIn_wide.2 (unhide HN)).mono ?_
  rintro e w1 ⟨v, rfl, own, b1⟩
  obtain ⟨a, cap, rfl⟩ := Mem.own_shape own
  have hJ1 : Hid (∃ pre : List Small, pre.map Subtype.val = Pl.ways L 0 ∧ J pre w1) := ⟨[], rfl, hJ [] W w1 none h0 (Mem.grown_of_below b1 none) (fun r e => by cases e)⟩
  have OW := hide own
  have HY := hide hY
  clear HN own b1 h0 hY
  gi_wp2_with fail
  gi_loopw [13] (fun i wr => ∃ k : Nat, k ≤ L.length ∧ i = .int .i64 k ∧ Hid (∃ pre : List Small, pre.map Subtype.val = Pl.ways L k ∧ J pre wr) ∧ Hid (wr.ownsRow W.heap.size 9 1 (.slice a L.length cap) L.length (L.map Value.string)))
    (fun i _ => L.length - (intOf i).toNat)
  case atStart => exact ⟨0, Nat.zero_le _, rfl, hJ1, OW⟩
  case round =>
    obtain ⟨k, hk, rfl, HJ, HO⟩ := hrel
    clear hJ1 OW
    by_cases hlt : k < L.length
    · have y1 : (k : Int) < (L.length : Int) := by omega
      have hT := Mem.texts_take (Mem.own_texts (unhide HO)) (k + 1) (by omega) (by omega)
      have HP := hide (WPathOf.any (.slice a (k + 1) cap) (L.take (k + 1)) wr (by simp; omega) (unhide HGL (k + 1)) hT)
      have hcap := Mem.own_cap (unhide HO)
      have hw1 : IntKind.i64.wrap ((k : Int) + 1) = (k : Int) + 1 := by simp only [IntKind.wrap_i64]; omega
      clear hT
      gi_wp2_with fail
      refine ⟨trivial, fun h => (by cases h), ?_⟩
      refine (callsIn_wide.2 (unhide HP)).mono ?_
      rintro e w2 ⟨rfl, b2⟩
      obtain ⟨pre, hpre, hJp⟩ := unhide HJ
      have HJ2 : J pre w2 := hJ _ wr w2 none hJp (Mem.grown_of_below b2 none) (fun r e => by cases e)
      have HO2 := hide (Mem.own_call (unhide HO) b2)
      obtain ⟨fn, tmps, assign, body, hy, hR⟩ := unhide HY pre ⟨Pl.glue (L.take (k + 1)), unhide HGL (k + 1)⟩ w2 HJ2 (by have := congrArg List.length hpre; rw [Pl.ways_len, List.length_map] at this; omega)
      have HWS : Hid ((pre ++ [(⟨Pl.glue (L.take (k + 1)), unhide HGL (k + 1)⟩ : Small)]).map Subtype.val = Pl.ways L (k + 1)) := by rw [List.map_append, hpre, Pl.ways_succ]; exact rfl
      dsimp only at hy
      clear HP HJ HO HJ2 b2 hpre hJp
      gi_wp2
      refine ⟨fun h => (by cases h), ?_⟩
      refine hR.mono ?_
      rintro e W3 (⟨rfl, hJ3, hk3⟩ | ⟨rfl, hJx3⟩)
      · have HJ3 : Hid (∃ pre : List Small, pre.map Subtype.val = Pl.ways L (k + 1) ∧ J pre W3) := ⟨_, unhide HWS, hJ3⟩
        have HO3 := hide (row_kept (unhide HO2) hk3 hXW)
        clear hJ3 hk3 HO2 hR hy HWS
        gi_wp2
        go_roundw
        case rel => exact ⟨k + 1, by omega, by go_num, HJ3, HO3⟩
        case measure => simp [intOf]; omega
      · gi_wp2
        refine bodyPost_ret (results_none rfl _ _ _) rfl ?_
        exact ⟨⟨_, rfl⟩, .inr ⟨_, trivial, hJx3⟩⟩
    · obtain rfl : k = L.length := by omega
      have y1 : ¬ ((L.length : Int) < (L.length : Int)) := by omega
      gi_wp2
      go_end0
      exact ⟨⟨_, rfl⟩, .inl (unhide HJ)⟩
set_option maxRecDepth 100000 in
theorem paths_any (p : ByteArray) (w : World) : Calls Tryd.prog 89 #[.string p] w fun e w' => e = .returned (.func (.func 111) #[] #[.pointer (some ⟨w.heap.size, 0, none⟩)]) ∧ w' = w.alloc (.cells #[.string p] 9) := by
  have hmf : ∀ (fn : Fn) (first cap : Array Value) (w : World), (Instr.makeFunc fn first cap).run Tryd.prog w = .ok (.func fn first cap) w := fun _ _ _ _ => rfl
  go_enter Tryd.func89, Tryd.ntmps89
  go_wp2
  go_ret
  exact ⟨rfl, rfl⟩
end WWays
end Go.Proofs.YtkfpfckmjgjanabDoor
