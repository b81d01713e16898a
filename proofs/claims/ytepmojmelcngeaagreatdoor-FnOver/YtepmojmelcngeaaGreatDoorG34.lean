/- Several texts of one claim in one file: WDrawOv, WPathsTo, WTakeS, WRootS, WNodeAt, WLevelUp, WLayS, WOverI. -/
import Derived.Test.YtepmojmelcngeaaGreatDoorG33
import Derived.Test.YtepmojmelcngeaaGreatDoorG26
import Derived.RangeFuncNested
import Derived.RangeFuncBound
import Derived.RangeFuncCalls
import Derived.RangeFuncLeaves
import Derived.Shelf.Abstract
import Derived.Shelf.RegionOpen
import Derived.WalkKit
import Derived.OwnWalkIn
import Derived.TacticsInMore
import Derived.LoopNIn
import Derived.LoopIn
import Derived.Test.YtepmojmelcngeaaGreatDoorG04
import Derived.Test.YtepmojmelcngeaaGreatDoorG03
import Derived.Test.YtepmojmelcngeaaGreatDoorG32
import Derived.Test.YtepmojmelcngeaaGreatDoorG00
import Derived.Test.YtepmojmelcngeaaGreatDoorProg
import Derived.WalkSpells
import Derived.Test.YtepmojmelcngeaaGreatDoorG17
import Derived.Test.YtepmojmelcngeaaGreatDoorWTreeR
import Derived.Test.YtepmojmelcngeaaGreatDoorG11
/- The walk of the draw DrawOver. -/
namespace Go.Proofs.YtepmojmelcngeaaGreatDoor
open Go.RowKit
namespace WSrc
set_option linter.unusedSimpArgs false in
set_option maxRecDepth 100000 in
theorem drawOver_any (a : Option Addr) (len cap : Nat) (w : World) (hr : RowB w w.heap.size a len cap) :
    Calls Tryz.prog 26 #[.slice a len cap] w fun e w' => ∃ (va : Option Addr) (vc : Nat) (Ts : List Pl.Tr), Ts.length ≤ 5 ∧ e = .returned (.agg #[.slice va Ts.length vc]) ∧ LayV w' w.heap.size va Ts ∧ Below w.heap.size w w' := by
  have b0 : Below w.heap.size w (w.alloc (.cells #[.slice none 0 0] 60)) := (Below.refl _ _).alloc (Nat.le_refl _) _
  have hz0 : (w.alloc (.cells #[.slice none 0 0] 60)).heap.size = w.heap.size + 1 := by simp
  have h0 := hide (source_any a len cap (w.alloc (.cells #[.slice none 0 0] 60)) (row_up hr b0 (by omega)))
  have BA := Mem.Blk.new w #[.slice none 0 0] 60
  rw [hz0] at h0
  clear hr
  go_enter Tryz.func26, Tryz.ntmps26
  go_wp2_with fail
  generalize w.alloc (.cells #[.slice none 0 0] 60) = w0 at h0 b0 BA hz0 ⊢
  refine (unhide h0).mono ?_
  rintro e w1 ⟨rfl, hs, b1⟩
  have BA := BA.below b1 (by omega)
  have b1 := b0.trans (b1.mono (by omega))
  clear h0 b0
  go_wp2_with fail
  refine (layers_any (w.heap.size + 1) a len cap _ hs).mono ?_
  rintro e w2 ⟨va, vc, Ts, hl, rfl, tv, s2, g2⟩
  have hlt := src_lt hs
  have BB := BA.grown g2 (by simp)
  have b2 : Below w.heap.size w w2 := b1.grown g2 b1.size (fun q hq => by cases hq; omega)
  have TV := hide ((tv.set w.heap.size 0 (.slice va Ts.length vc) (by omega)).mono (B' := w.heap.size) (by omega))
  have k0 := BB.cell 0
  have kf := BB.fr 0
  have q := (BB.put 0 (.slice va Ts.length vc)).cell
  simp only [kA0, kA1, kA2] at k0
  clear tv s2 g2 hs hlt b1
  go_wp2
  refine bodyPost_ret (v := .agg #[.slice va Ts.length vc]) (by simp [results, Tryz.results26, go_sem, q]) rfl ?_
  exact ⟨va, vc, Ts, hl, rfl, unhide TV, b2.setCell (Nat.le_refl _) _⟩
end WSrc
end Go.Proofs.YtepmojmelcngeaaGreatDoor

/- The paths on the way to one: pathsTo, and its iterator. -/
namespace Go.Proofs.YtepmojmelcngeaaGreatDoor
open Go.RowKit Go.Shelf
attribute [local go_sem] Oper.semAt_some
namespace Pl
/-- The first k paths on the way along names. -/
def ways (L : List ByteArray) (k : Nat) : List ByteArray := (List.range k).map (fun i => glue (L.take (i + 1)))
theorem ways_succ (L : List ByteArray) (k : Nat) : ways L (k + 1) = ways L k ++ [glue (L.take (k + 1))] := by simp [ways, List.range_succ]
theorem ways_len (L : List ByteArray) (k : Nat) : (ways L k).length = k := by simp [ways]
end Pl
namespace WWays
/-- A text that is not too long. -/
abbrev Small := { x : ByteArray // x.size ≤ 1000000 }
/-- All blocks of cells but one are as they were. -/
def KC (X : Nat) (W W' : World) : Prop := W.heap.size ≤ W'.heap.size ∧ ∀ (j : Nat) (o : Obj), j ≠ X → W.heap[j]? = some o → o.isCells = true → W'.heap[j]? = some o
theorem KC.trans {X : Nat} {A B C : World} (h1 : KC X A B) (h2 : KC X B C) : KC X A C := ⟨Nat.le_trans h1.1 h2.1, fun j o hj ho hc => h2.2 j o hj (h1.2 j o hj ho hc) hc⟩
theorem KC.put {X l : Nat} (W : World) (o o' : Obj) (hl : W.heap[l]? = some o) (ho : o.isCells = false) : KC X W (W.putObj l o') := by
  refine ⟨by simp, fun j p _ hp hc => ?_⟩
  have hne : j ≠ l := fun e => by rw [e, hl] at hp; cases hp; rw [ho] at hc; cases hc
  exact (World.putObj_heap_other hne).trans hp
theorem row_kept {X : Nat} {W W' : World} {B T n : Nat} {v : Value} {xs : List Value} (h : W.ownsRow B T 1 v n xs) (k : KC X W W') (hX : X < B) : W'.ownsRow B T 1 v n xs := by
  refine ⟨h.1, ?_⟩
  rcases h.2 with h0 | ⟨g, cap, cur, hv, hb, hg, rest⟩
  · exact .inl h0
  · exact .inr ⟨g, cap, cur, hv, hb, k.2 g _ (by omega) hg rfl, rest⟩
end WWays
namespace Mem
theorem texts_take {w : World} {a : Option Addr} {n cap : Nat} {L : List ByteArray} (h : isTexts w (.slice a n cap) L) (k : Nat) (hk : k ≤ L.length) (h0 : 0 < k) : isTexts w (.slice a k cap) (L.take k) := by
  rcases h with ⟨_, h2⟩ | ⟨b, o, cap', hv, hb, hc⟩
  · subst h2; simp at hk; omega
  · injection hv with e1 e2 e3
    subst e1
    refine .inr ⟨b, o, cap, by rw [List.length_take, Nat.min_eq_left hk], hb, fun j t hj => hc j t ?_⟩
    rw [List.getElem?_take] at hj
    split at hj
    · exact hj
    · cases hj
theorem own_cap {w : World} {B T n cap : Nat} {a : Option Addr} {xs : List Value} (h : w.ownsRow B T 1 (.slice a n cap) n xs) : n ≤ cap := by
  rcases h.2 with ⟨hv, h0⟩ | ⟨g, cap', cur, hv, hb, hg, hc, rest⟩
  · omega
  · injection hv with e1 e2 e3
    omega
end Mem
namespace WWays
set_option linter.unusedSimpArgs false in
set_option maxRecDepth 100000 in
set_option maxHeartbeats 2000000 in
theorem iter_stops (n : Nat) (X : Nat) (q : Addr) (p : ByteArray) (w : World) (hX : X < w.heap.size) (hq : w.cell? q = some (.string p)) (hql : q.block < w.heap.size) (hp : p.size ≤ 1048576) :
    SeqStopsK Fence.wide n Tryz.prog 145 #[.pointer (some q)] (fun x : Small => #[Value.string x.1]) (KC X) (fun xs => xs.map Subtype.val = Pl.ways (Pl.namesR p) (Pl.namesR p).length) (fun _ => True) (Pl.namesR p).length w := fun l J Jx W hW hJ _ hY h0 => by
  have hq1 : W.cell? q = some (.string p) := (hW.cell hql).trans hq
  have hXW : X < W.heap.size := Nat.lt_of_lt_of_le hX hW.size
  have HN := hide (WNames.any p W hp)
  generalize Pl.pathB p = rr at HN
  have hl6 : (Pl.namesR p).length ≤ 6 := (Pl.namesR_all p).2
  have HGL : Hid (∀ k, (Pl.glue ((Pl.namesR p).take k)).size ≤ 1000000) := fun k => Pl.glue_small (fun t ht => (Pl.namesR_all p).1 t (List.mem_of_mem_take ht)) (by have := (Pl.namesR_all p).2; simp; omega)
  generalize Pl.namesR p = L at hY hl6 HGL HN ⊢
  refine callsIn_of_wp Tryz.func145 rfl trivial ?_ rfl
  simp only [Tryz.ntmps145, List.size_toArray, List.length_cons, List.length_nil, Nat.reduceAdd, Nat.reduceSub, Array.replicate_succ, Array.replicate_zero, List.push_toArray, List.append_toArray, List.nil_append, List.cons_append]
  gi_wp2_with fail
  refine ⟨trivial, fun h => (by cases h), ?_⟩
  refine (callsIn_wide.2 (unhide HN)).mono ?_
  rintro e w1 ⟨v, rfl, own, b1⟩
  obtain ⟨a, cap, rfl⟩ := Mem.own_shape own
  have hJ1 : Hid (∃ pre : List Small, pre.map Subtype.val = Pl.ways L 0 ∧ J pre w1) := ⟨[], rfl, hJ [] W w1 none h0 (Mem.grown_of_below b1 none) (fun r e => by cases e)⟩
  have OW := hide own
  have HY := hide hY
  clear HN own b1 h0 hY
  gi_wp2_with fail
  gi_loopw [13] (fun i wr => ∃ k : Nat, k ≤ L.length ∧ i = .int .i64 k ∧ Hid (∃ pre : List Small, pre.map Subtype.val = Pl.ways L k ∧ J pre wr) ∧ Hid (wr.ownsRow W.heap.size 9 1 (.slice a L.length cap) L.length (L.map Value.string)))
    (fun i _ => L.length - (intOf i).toNat)
  case atStart => exact ⟨0, Nat.zero_le _, rfl, hJ1, OW⟩
  case round =>
    obtain ⟨k, hk, rfl, HJ, HO⟩ := hrel
    clear hJ1 OW
    by_cases hlt : k < L.length
    · have y1 : (k : Int) < (L.length : Int) := by omega
      have hT := Mem.texts_take (Mem.own_texts (unhide HO)) (k + 1) (by omega) (by omega)
      have HP := hide (WPathOf.any (.slice a (k + 1) cap) (L.take (k + 1)) wr (by simp; omega) (unhide HGL (k + 1)) hT)
      have hcap := Mem.own_cap (unhide HO)
      have hw1 : IntKind.i64.wrap ((k : Int) + 1) = (k : Int) + 1 := by simp only [IntKind.wrap_i64]; omega
      clear hT
      gi_wp2_with fail
      refine ⟨trivial, fun h => (by cases h), ?_⟩
      refine (callsIn_wide.2 (unhide HP)).mono ?_
      rintro e w2 ⟨rfl, b2⟩
      obtain ⟨pre, hpre, hJp⟩ := unhide HJ
      have HJ2 : J pre w2 := hJ _ wr w2 none hJp (Mem.grown_of_below b2 none) (fun r e => by cases e)
      have HO2 := hide (Mem.own_call (unhide HO) b2)
      obtain ⟨fn, tmps, assign, body, hy, hR⟩ := unhide HY pre ⟨Pl.glue (L.take (k + 1)), unhide HGL (k + 1)⟩ w2 HJ2 (by have := congrArg List.length hpre; rw [Pl.ways_len, List.length_map] at this; omega)
      have HWS : Hid ((pre ++ [(⟨Pl.glue (L.take (k + 1)), unhide HGL (k + 1)⟩ : Small)]).map Subtype.val = Pl.ways L (k + 1)) := by rw [List.map_append, hpre, Pl.ways_succ]; exact rfl
      dsimp only at hy
      clear HP HJ HO HJ2 b2 hpre hJp
      gi_wp2
      refine ⟨fun h => (by cases h), ?_⟩
      refine hR.mono ?_
      rintro e W3 (⟨rfl, hJ3, hk3⟩ | ⟨rfl, hJx3⟩)
      · have HJ3 : Hid (∃ pre : List Small, pre.map Subtype.val = Pl.ways L (k + 1) ∧ J pre W3) := ⟨_, unhide HWS, hJ3⟩
        have HO3 := hide (row_kept (unhide HO2) hk3 hXW)
        clear hJ3 hk3 HO2 hR hy HWS
        gi_wp2
        go_roundw
        case rel => exact ⟨k + 1, by omega, by go_num, HJ3, HO3⟩
        case measure => simp [intOf]; omega
      · gi_wp2
        refine bodyPost_ret (results_none rfl _ _ _) rfl ?_
        exact ⟨⟨_, rfl⟩, .inr ⟨_, trivial, hJx3⟩⟩
    · obtain rfl : k = L.length := by omega
      have y1 : ¬ ((L.length : Int) < (L.length : Int)) := by omega
      gi_wp2
      go_end0
      exact ⟨⟨_, rfl⟩, .inl (unhide HJ)⟩
set_option maxRecDepth 100000 in
theorem paths_any (p : ByteArray) (w : World) : Calls Tryz.prog 124 #[.string p] w fun e w' => e = .returned (.func (.func 145) #[] #[.pointer (some ⟨w.heap.size, 0, none⟩)]) ∧ w' = w.alloc (.cells #[.string p] 9) := by
  have hmf : ∀ (fn : Fn) (first cap : Array Value) (w : World), (Instr.makeFunc fn first cap).run Tryz.prog w = .ok (.func fn first cap) w := fun _ _ _ _ => rfl
  go_enter Tryz.func124, Tryz.ntmps124
  go_wp2
  go_ret
  exact ⟨rfl, rfl⟩
end WWays
end Go.Proofs.YtepmojmelcngeaaGreatDoor

/- The walks of take and levelUp. -/
namespace Go.Proofs.YtepmojmelcngeaaGreatDoor
open Go.RowKit
namespace WSight
theorem set_have (t : Bool) (n : Pl.Nd) (hv : List Bool) (k : Nat) (x : Bool) : (Pl.Sg.cs ⟨t, n, hv⟩).toArray.setIfInBounds (6 + k) (.bool x) = (Pl.Sg.cs ⟨t, n, hv.set k x⟩).toArray := by
  rw [List.setIfInBounds_toArray]
  unfold Pl.Sg.cs
  rw [List.set_append_right _ _ (by simp)]
  simp [List.map_set]
theorem set_mark (t : Bool) (n : Pl.Nd) (hv : List Bool) (m : Int) : (Pl.Sg.cs ⟨t, n, hv⟩).toArray.setIfInBounds 5 (.int .i64 m) = (Pl.Sg.cs ⟨t, ⟨n.path, n.kind, n.data, n.time, m⟩, hv⟩).toArray := by
  rw [List.setIfInBounds_toArray]
  rfl
theorem set_node (n : Pl.Nd) (hv : List Bool) (u : Bool) (m : Pl.Nd) : ((((((Pl.Sg.cs ⟨u, m, hv⟩).toArray.setIfInBounds 0 (.bool true)).setIfInBounds 1 (.string n.path)).setIfInBounds 2 (.int .i64 n.kind)).setIfInBounds 3 (.string n.data)).setIfInBounds 4 (.int .i64 n.time)).setIfInBounds 5 (.int .i64 n.mark) = (Pl.Sg.cs ⟨true, n, hv⟩).toArray := by
  simp only [kB3]
  rfl
theorem grown_same (w : World) (b : Nat) : w.grownBy w (some b) := ⟨rfl, rfl, rfl, Nat.le_refl _, fun _ _ _ => rfl⟩
theorem grown_set {w v : World} {g : Nat} (h : w.grownBy v (some g)) (o : Nat) (x : Value) : w.grownBy (v.setCell ⟨g, o, none⟩ x) (some g) :=
  ⟨h.os, h.tape, h.output, Nat.le_trans h.size (by simp [World.setCell]), fun j hj hne => (Below.heap_setCell _ _ _ _ (by intro e; exact hne (by rw [e]))).trans (h.block j hj hne)⟩
theorem grown_alloc {w w' : World} {b : Nat} (h : w.grownBy w' (some b)) (o : Obj) : w.grownBy (w'.alloc o) (some b) :=
  Mem.grown_trans h (Mem.grown_of_below ((Below.refl _ _).alloc (Nat.le_refl _) o) (some b))
set_option linter.unusedSimpArgs false in
set_option maxRecDepth 100000 in
set_option maxHeartbeats 2000000 in
theorem take_any (b k : Nat) (s : Pl.Sg) (n : Pl.Nd) (w : World) (hk : k < 4) (hh : s.have'.length = 4) (hb : Mem.Blk w b s.cs.toArray 139) :
    Calls Tryz.prog 143 #[.pointer (some ⟨b, 0, none⟩), .int .i64 k, n.val] w fun e w' => e = .returned (.bool (Pl.stopB n)) ∧ Mem.Blk w' b (Pl.takeS s k n).cs.toArray 139 ∧ w.grownBy w' (some b) := by
  obtain ⟨told, ⟨sp, sk, sd, st, sm⟩, hv⟩ := s
  obtain ⟨np, nk, nd, nt, nm⟩ := n
  obtain ⟨h0, h1, h2, h3, rfl⟩ : ∃ h0 h1 h2 h3, hv = [h0, h1, h2, h3] := by
    match hv, hh with
    | [a, b, c, d], _ => exact ⟨a, b, c, d, rfl⟩
  have hix : 0 ≤ (k : Int) ∧ (k : Int) < 4 := by omega
  simp only [Pl.Nd.val]
  have hbl := hb.lt
  have V := hb.alloc (.cells #[.string np, .int .i64 nk, .string nd, .int .i64 nt, .int .i64 nm] 36)
  have N := Mem.Blk.new w #[.string np, .int .i64 nk, .string nd, .int .i64 nt, .int .i64 nm] 36
  have c0 := hb.cell 0
  have c1 := hb.cell 1
  have c2 := hb.cell 2
  have c3 := hb.cell 3
  have c4 := hb.cell 4
  have c5 := hb.cell 5
  have f0 := hb.fr 0
  have f1 := hb.fr 1
  have f2 := hb.fr 2
  have f3 := hb.fr 3
  have f4 := hb.fr 4
  have f5 := hb.fr 5
  have fk := hb.fr (6 + k)
  obtain ⟨x, ck⟩ : ∃ x, w.cell? ⟨b, 6 + k, none⟩ = some (.bool x) := by
    rw [hb.cell (6 + k)]
    obtain rfl | rfl | rfl | rfl : k = 0 ∨ k = 1 ∨ k = 2 ∨ k = 3 := by omega
    all_goals exact ⟨_, rfl⟩
  simp only [Pl.Sg.cs, List.map_cons, List.map_nil, List.cons_append, List.nil_append, kA0, kA1, kA2] at c0 c1 c2 c3 c4 c5
  have hN : ∀ (t : Bool) (x : Bool) (M : Int), Mem.Blk (((w.setCell ⟨b, 5, none⟩ (.int .i64 M)).setCell ⟨b, 6 + k, none⟩ (.bool x)).alloc (.cells #[.string np, .int .i64 nk, .string nd, .int .i64 nt, .int .i64 nm] 36)).drew.drew b (Pl.Sg.cs ⟨told, ⟨sp, sk, sd, st, M⟩, [h0, h1, h2, h3].set k x⟩).toArray 139 ∧ w.grownBy (((w.setCell ⟨b, 5, none⟩ (.int .i64 M)).setCell ⟨b, 6 + k, none⟩ (.bool x)).alloc (.cells #[.string np, .int .i64 nk, .string nd, .int .i64 nt, .int .i64 nm] 36)).drew.drew (some b) := by
    intro t x M
    have h1 := ((hb.put 5 (.int .i64 M)).put (6 + k) (.bool x)).alloc (.cells #[.string np, .int .i64 nk, .string nd, .int .i64 nt, .int .i64 nm] 36)
    rw [set_mark, set_have] at h1
    have h2 := grown_alloc (grown_set (grown_set (grown_same w b) 5 (.int .i64 M)) (6 + k) (.bool x)) (.cells #[.string np, .int .i64 nk, .string nd, .int .i64 nt, .int .i64 nm] 36)
    exact ⟨h1, ⟨h2.os, h2.tape, h2.output, h2.size, h2.block⟩⟩
  cases told
  · clear hN
    have V2 : Mem.Blk (((((((((w.setCell ⟨b, 0, none⟩ (.bool true)).setCell ⟨b, 1, none⟩ (.string np)).setCell ⟨b, 2, none⟩ (.int .i64 nk)).setCell ⟨b, 3, none⟩ (.string nd)).setCell ⟨b, 4, none⟩ (.int .i64 nt)).setCell ⟨b, 5, none⟩ (.int .i64 nm)).alloc (.cells #[.string np, .int .i64 nk, .string nd, .int .i64 nt, .int .i64 nm] 36))).drew) b (Pl.Sg.cs ⟨true, ⟨np, nk, nd, nt, nm⟩, [h0, h1, h2, h3]⟩).toArray 139 := by
      have h := ((((((hb.put 0 (.bool true)).put 1 (.string np)).put 2 (.int .i64 nk)).put 3 (.string nd)).put 4 (.int .i64 nt)).put 5 (.int .i64 nm)).alloc (.cells #[.string np, .int .i64 nk, .string nd, .int .i64 nt, .int .i64 nm] 36)
      rw [set_node ⟨np, nk, nd, nt, nm⟩] at h
      exact h
    have hsz : (((((((((w.setCell ⟨b, 0, none⟩ (.bool true)).setCell ⟨b, 1, none⟩ (.string np)).setCell ⟨b, 2, none⟩ (.int .i64 nk)).setCell ⟨b, 3, none⟩ (.string nd)).setCell ⟨b, 4, none⟩ (.int .i64 nt)).setCell ⟨b, 5, none⟩ (.int .i64 nm)).alloc (.cells #[.string np, .int .i64 nk, .string nd, .int .i64 nt, .int .i64 nm] 36))).drew).heap.size = w.heap.size + 1 := by simp
    have N2 : Mem.Blk (((((((((w.setCell ⟨b, 0, none⟩ (.bool true)).setCell ⟨b, 1, none⟩ (.string np)).setCell ⟨b, 2, none⟩ (.int .i64 nk)).setCell ⟨b, 3, none⟩ (.string nd)).setCell ⟨b, 4, none⟩ (.int .i64 nt)).setCell ⟨b, 5, none⟩ (.int .i64 nm)).alloc (.cells #[.string np, .int .i64 nk, .string nd, .int .i64 nt, .int .i64 nm] 36))).drew) w.heap.size #[.string np, .int .i64 nk, .string nd, .int .i64 nt, .int .i64 nm] 36 := by
      have h := Mem.Blk.new ((((((w.setCell ⟨b, 0, none⟩ (.bool true)).setCell ⟨b, 1, none⟩ (.string np)).setCell ⟨b, 2, none⟩ (.int .i64 nk)).setCell ⟨b, 3, none⟩ (.string nd)).setCell ⟨b, 4, none⟩ (.int .i64 nt)).setCell ⟨b, 5, none⟩ (.int .i64 nm)) #[.string np, .int .i64 nk, .string nd, .int .i64 nt, .int .i64 nm] 36
      simp only [World.size_setCell] at h
      exact h
    have G2 : w.grownBy (((((((((w.setCell ⟨b, 0, none⟩ (.bool true)).setCell ⟨b, 1, none⟩ (.string np)).setCell ⟨b, 2, none⟩ (.int .i64 nk)).setCell ⟨b, 3, none⟩ (.string nd)).setCell ⟨b, 4, none⟩ (.int .i64 nt)).setCell ⟨b, 5, none⟩ (.int .i64 nm)).alloc (.cells #[.string np, .int .i64 nk, .string nd, .int .i64 nt, .int .i64 nm] 36))).drew) (some b) := by
      have h := grown_alloc (grown_set (grown_set (grown_set (grown_set (grown_set (grown_set (grown_same w b) 0 (.bool true)) 1 (.string np)) 2 (.int .i64 nk)) 3 (.string nd)) 4 (.int .i64 nt)) 5 (.int .i64 nm)) (.cells #[.string np, .int .i64 nk, .string nd, .int .i64 nt, .int .i64 nm] 36)
      exact ⟨h.os, h.tape, h.output, h.size, h.block⟩
    have hM : max nm nm = nm := by omega
    have hmx : ¬ nm < nm := by omega
    go_enter Tryz.func143, Tryz.ntmps143
    go_wp2
    go_region
    go_wp2
    generalize (((((((((w.setCell ⟨b, 0, none⟩ (.bool true)).setCell ⟨b, 1, none⟩ (.string np)).setCell ⟨b, 2, none⟩ (.int .i64 nk)).setCell ⟨b, 3, none⟩ (.string nd)).setCell ⟨b, 4, none⟩ (.int .i64 nt)).setCell ⟨b, 5, none⟩ (.int .i64 nm)).alloc (.cells #[.string np, .int .i64 nk, .string nd, .int .i64 nt, .int .i64 nm] 36))).drew) = w2 at V2 N2 G2 hsz ⊢
    have HN : Hid (∀ x : Bool, Mem.Blk ((w2.setCell ⟨b, 5, none⟩ (.int .i64 nm)).setCell ⟨b, 6 + k, none⟩ (.bool x)).drew.drew b (Pl.Sg.cs ⟨true, ⟨np, nk, nd, nt, nm⟩, [h0, h1, h2, h3].set k x⟩).toArray 139 ∧ w.grownBy ((w2.setCell ⟨b, 5, none⟩ (.int .i64 nm)).setCell ⟨b, 6 + k, none⟩ (.bool x)).drew.drew (some b)) := by
      intro x
      have h1 := (V2.put 5 (.int .i64 nm)).put (6 + k) (.bool x)
      rw [set_mark, set_have] at h1
      have h2 := grown_set (grown_set G2 5 (.int .i64 nm)) (6 + k) (.bool x)
      exact ⟨h1, ⟨h2.os, h2.tape, h2.output, h2.size, h2.block⟩⟩
    have c5 := V2.cell 5
    have f5 := V2.fr 5
    have fk := V2.fr (6 + k)
    have n1 := N2.cell 1
    have n4 := N2.cell 4
    obtain ⟨x, ck⟩ : ∃ x, w2.cell? ⟨b, 6 + k, none⟩ = some (.bool x) := by
      rw [V2.cell (6 + k)]
      obtain rfl | rfl | rfl | rfl : k = 0 ∨ k = 1 ∨ k = 2 ∨ k = 3 := by omega
      all_goals exact ⟨_, rfl⟩
    simp only [Pl.Sg.cs, List.map_cons, List.map_nil, List.cons_append, List.nil_append, kA0, kA1, kA2] at c5 n1 n4
    clear V2 N2 G2 hb V N c0 c1 c2 c3 c4
    have hne : ¬ w.heap.size = b := by omega
    by_cases hn : nk = 1
    · subst hn
      go_region
      go_wp2
      go_region
      go_wp2
      go_ret
      exact ⟨by simp [Pl.stopB], by simp only [Pl.takeS, Pl.markMax, Bool.false_eq_true, if_false, hM, decide_true]; exact (unhide HN true).1, (unhide HN true).2⟩
    · have t1 : (nk == 1) = false := by simpa using hn
      have t2 : (nk != 1) = true := by simpa using hn
      have t3 : decide (nk = 1) = false := by simpa using hn
      go_region
      go_wp2
      go_region
      go_wp2
      go_ret
      exact ⟨by simp [Pl.stopB, hn], by simp only [Pl.takeS, Pl.markMax, Bool.false_eq_true, if_false, hM, t3]; exact (unhide HN false).1, (unhide HN false).2⟩
  · have HN := hide hN
    clear hN V N hb
    by_cases hmx : sm < nm
    · have hM : max sm nm = nm := by omega
      by_cases hn : nk = 1
      · subst hn
        go_enter Tryz.func143, Tryz.ntmps143
        go_wp2
        go_region
        go_wp2
        go_region
        go_wp2
        go_ret
        exact ⟨by simp [Pl.stopB], by simp only [Pl.takeS, Pl.markMax, if_true, hM, decide_true]; exact (unhide HN true true nm).1, (unhide HN true true nm).2⟩
      · have t1 : (nk == 1) = false := by simpa using hn
        have t2 : (nk != 1) = true := by simpa using hn
        have t3 : decide (nk = 1) = false := by simpa using hn
        go_enter Tryz.func143, Tryz.ntmps143
        go_wp2
        go_region
        go_wp2
        go_region
        go_wp2
        go_ret
        exact ⟨by simp [Pl.stopB, hn], by simp only [Pl.takeS, Pl.markMax, if_true, hM, t3]; exact (unhide HN true false nm).1, (unhide HN true false nm).2⟩
    · have hM : max sm nm = sm := by omega
      by_cases hn : nk = 1
      · subst hn
        go_enter Tryz.func143, Tryz.ntmps143
        go_wp2
        go_region
        go_wp2
        go_region
        go_wp2
        go_ret
        exact ⟨by simp [Pl.stopB], by simp only [Pl.takeS, Pl.markMax, if_true, hM, decide_true]; exact (unhide HN true true sm).1, (unhide HN true true sm).2⟩
      · have t1 : (nk == 1) = false := by simpa using hn
        have t2 : (nk != 1) = true := by simpa using hn
        have t3 : decide (nk = 1) = false := by simpa using hn
        go_enter Tryz.func143, Tryz.ntmps143
        go_wp2
        go_region
        go_wp2
        go_region
        go_wp2
        go_ret
        exact ⟨by simp [Pl.stopB, hn], by simp only [Pl.takeS, Pl.markMax, if_true, hM, t3]; exact (unhide HN true false sm).1, (unhide HN true false sm).2⟩
end WSight
end Go.Proofs.YtepmojmelcngeaaGreatDoor

/- The walks of rootSight and decider. -/
namespace Go.Proofs.YtepmojmelcngeaaGreatDoor
open Go.RowKit
namespace Pl
/-- Who has a part in the root: all, of so many. -/
def partsR (n : Nat) : List Bool := [decide (0 < n), decide (1 < n), decide (2 < n), decide (3 < n)]
def rootS (n : Nat) : Sg := ⟨false, zeroN, partsR n⟩
theorem parts_set {k : Nat} (h : k < 4) : (partsR k).set k true = partsR (k + 1) := by
  obtain rfl | rfl | rfl | rfl : k = 0 ∨ k = 1 ∨ k = 2 ∨ k = 3 := by omega
  all_goals rfl
end Pl
namespace WSight
set_option maxRecDepth 100000 in
theorem dec_make (a : Option Addr) (n cap : Nat) (w : World) : Calls Tryz.prog 122 #[.slice a n cap] w fun e w' => e = .returned (.func (.func 142) #[] #[.pointer (some ⟨w.heap.size, 0, none⟩)]) ∧ w' = w.alloc (.cells #[.slice a n cap] 97) := by
  have hmf : ∀ (fn : Fn) (first cap : Array Value) (w : World), (Instr.makeFunc fn first cap).run Tryz.prog w = .ok (.func fn first cap) w := fun _ _ _ _ => rfl
  go_enter Tryz.func122, Tryz.ntmps122
  go_wp2
  go_ret
  exact ⟨rfl, rfl⟩
set_option linter.unusedSimpArgs false in
set_option maxRecDepth 100000 in
set_option maxHeartbeats 2000000 in
theorem root_any (a : Option Addr) (n cap : Nat) (w : World) (hn : n ≤ 4) :
    Calls Tryz.prog 123 #[.slice a n cap] w fun e w' => e = .returned (.agg (Pl.rootS n).cs.toArray) ∧ Below w.heap.size w w' := by
  have b0 : Below w.heap.size w ((w.alloc (.cells Pl.Sg.zero.cs.toArray 139)).alloc (.cells Pl.Sg.zero.cs.toArray 139)) := ((Below.refl _ _).alloc (Nat.le_refl _) _).alloc (by simp) _
  have A0 : Hid (Below w.heap.size w ((w.alloc (.cells Pl.Sg.zero.cs.toArray 139)).alloc (.cells Pl.Sg.zero.cs.toArray 139)) ∧ Mem.Blk ((w.alloc (.cells Pl.Sg.zero.cs.toArray 139)).alloc (.cells Pl.Sg.zero.cs.toArray 139)) w.heap.size Pl.Sg.zero.cs.toArray 139 ∧ Mem.Blk ((w.alloc (.cells Pl.Sg.zero.cs.toArray 139)).alloc (.cells Pl.Sg.zero.cs.toArray 139)) (w.heap.size + 1) (Pl.rootS 0).cs.toArray 139) := ⟨b0, (Mem.Blk.new _ _ _).alloc _, Mem.new_two _ _ _⟩
  simp only [Pl.Sg.zero, Pl.zeroN, Pl.Sg.cs, List.map_cons, List.map_nil, List.cons_append, List.nil_append] at A0
  have hR : w.heap.size ≤ w.heap.size := Nat.le_refl _
  clear b0
  go_enter Tryz.func123, Tryz.ntmps123
  go_wp2
  go_loopw [7] (fun i wr => ∃ k : Nat, k ≤ n ∧ i = .int .i64 (k : Int) ∧ Hid (Below w.heap.size w wr ∧ Mem.Blk wr w.heap.size Pl.Sg.zero.cs.toArray 139 ∧ Mem.Blk wr (w.heap.size + 1) (Pl.rootS k).cs.toArray 139)) (fun i _ => n - (intOf i).toNat)
  case atStart => exact ⟨0, Nat.zero_le _, rfl, A0⟩
  case round =>
    obtain ⟨k, hk, rfl, HA⟩ := hrel
    clear A0
    by_cases hlt : k < n
    · have y1 : (k : Int) < (n : Int) := by omega
      have hix : 0 ≤ (k : Int) ∧ (k : Int) < 4 := by omega
      have fk := (unhide HA).2.2.fr (6 + k)
      obtain ⟨x, ck⟩ : ∃ x, wr.cell? ⟨w.heap.size + 1, 6 + k, none⟩ = some (.bool x) := by
        rw [(unhide HA).2.2.cell (6 + k)]
        obtain rfl | rfl | rfl | rfl : k = 0 ∨ k = 1 ∨ k = 2 ∨ k = 3 := by omega
        all_goals exact ⟨_, rfl⟩
      have A2 : Hid (Below w.heap.size w (wr.setCell ⟨w.heap.size + 1, 6 + k, none⟩ (.bool true)) ∧ Mem.Blk (wr.setCell ⟨w.heap.size + 1, 6 + k, none⟩ (.bool true)) w.heap.size Pl.Sg.zero.cs.toArray 139 ∧ Mem.Blk (wr.setCell ⟨w.heap.size + 1, 6 + k, none⟩ (.bool true)) (w.heap.size + 1) (Pl.rootS (k + 1)).cs.toArray 139) := by
        refine ⟨(unhide HA).1.setCell (by show w.heap.size ≤ w.heap.size + 1; omega) _, (unhide HA).2.1.far _ _ (by show w.heap.size ≠ w.heap.size + 1; omega), ?_⟩
        have h := (unhide HA).2.2.put (6 + k) (.bool true)
        unfold Pl.rootS at h
        rw [set_have, Pl.parts_set (by omega)] at h
        exact h
      clear HA
      go_wp2
      go_roundw
      case rel => exact ⟨k + 1, by omega, by go_num, A2⟩
      case measure => simp [intOf]; omega
    · obtain rfl : k = n := by omega
      have y1 : ¬ ((k : Int) < (k : Int)) := by omega
      have R1 := (unhide HA).2.1
      have S1 := (unhide HA).2.2
      have BU := (unhide HA).1
      have ER : Hid (Pl.rootS k = ⟨false, Pl.zeroN, [decide (0 < k), decide (1 < k), decide (2 < k), decide (3 < k)]⟩) := rfl
      generalize decide (0 < k) = g0 at ER
      generalize decide (1 < k) = g1 at ER
      generalize decide (2 < k) = g2 at ER
      generalize decide (3 < k) = g3 at ER
      rw [unhide ER] at S1
      have c0 := R1.cell 0
      have f0 := R1.fr 0
      have d0 := S1.cell 0
      have c1 := R1.cell 1
      have f1 := R1.fr 1
      have d1 := S1.cell 1
      have c2 := R1.cell 2
      have f2 := R1.fr 2
      have d2 := S1.cell 2
      have c3 := R1.cell 3
      have f3 := R1.fr 3
      have d3 := S1.cell 3
      have c4 := R1.cell 4
      have f4 := R1.fr 4
      have d4 := S1.cell 4
      have c5 := R1.cell 5
      have f5 := R1.fr 5
      have d5 := S1.cell 5
      have c6 := R1.cell 6
      have f6 := R1.fr 6
      have d6 := S1.cell 6
      have c7 := R1.cell 7
      have f7 := R1.fr 7
      have d7 := S1.cell 7
      have c8 := R1.cell 8
      have f8 := R1.fr 8
      have d8 := S1.cell 8
      have c9 := R1.cell 9
      have f9 := R1.fr 9
      have d9 := S1.cell 9
      simp only [Pl.Sg.zero, Pl.zeroN, Pl.Sg.cs, List.map_cons, List.map_nil, List.cons_append, List.nil_append, kA0, kA1, kA2] at c0 c1 c2 c3 c4 c5 c6 c7 c8 c9 d0 d1 d2 d3 d4 d5 d6 d7 d8 d9
      clear R1 S1 HA
      go_wp2
      refine bodyPost_ret (v := .agg #[.bool false, .string ⟨#[]⟩, .int .i64 0, .string ⟨#[]⟩, .int .i64 0, .int .i64 0, .bool g0, .bool g1, .bool g2, .bool g3]) (by simp [results, Tryz.results123, go_sem, c0, c1, c2, c3, c4, c5, c6, c7, c8, c9]) rfl ⟨by rw [unhide ER]; rfl, ?_⟩
      exact ((((((((((BU.setCell (p := ⟨w.heap.size, 0, none⟩) hR _).setCell (p := ⟨w.heap.size, 1, none⟩) hR _).setCell (p := ⟨w.heap.size, 2, none⟩) hR _).setCell (p := ⟨w.heap.size, 3, none⟩) hR _).setCell (p := ⟨w.heap.size, 4, none⟩) hR _).setCell (p := ⟨w.heap.size, 5, none⟩) hR _).setCell (p := ⟨w.heap.size, 6, none⟩) hR _).setCell (p := ⟨w.heap.size, 7, none⟩) hR _).setCell (p := ⟨w.heap.size, 8, none⟩) hR _).setCell (p := ⟨w.heap.size, 9, none⟩) hR _)
end WSight
end Go.Proofs.YtepmojmelcngeaaGreatDoor

/- (nodeMap).at: the node that a map has at a path. -/
namespace Go.Proofs.YtepmojmelcngeaaGreatDoor
open Go.RowKit Go.Maps
namespace WSight
set_option linter.unusedSimpArgs false in
set_option maxRecDepth 100000 in
set_option maxHeartbeats 2000000 in
theorem at_some (B N : Nat) (D : DataW Unit) (p : ByteArray) (m : Pl.Nd) (w : World) (hp : p.size ≤ 1048576) (hown : w.ownsMap Tryz.prog 9 MapN.elem B N D) (h1 : D.atKey (MapN.key p) (MapN.dat ⟨⟨#[]⟩, 0, ⟨#[]⟩, 0, 0⟩) = MapN.dat m) (t : Bool) (h2 : Maps.has D (MapN.key p) = t) :
    Calls Tryz.prog 169 #[.map (some B), .string p] w fun e w' => e = .returned (.tuple #[m.val, .bool t]) ∧ Below w.heap.size w w' := by
  have hkey := MapN.keyOf_mk (p := p) (by unfold maxLen; omega)
  have HM := hide (WNodesI.map_call hown ((Below.refl _ _).alloc (Nat.le_refl _) (.cells #[.string ⟨#[]⟩, .int .i64 0, .string ⟨#[]⟩, .int .i64 0, .int .i64 0] 36)))
  have ha := hide h1
  have ha2 := hide h2
  clear h1 h2 hown
  obtain ⟨mp, mk, md, mt, mm⟩ := m
  go_enter Tryz.func169, Tryz.ntmps169
  go_wp2_with (at_lookup; refine MapN.look_ok _ rfl _ _ 74 rfl 9 36 MapN.law Tryz.underlying74 (MapN.zeroN _) B N D rfl (unhide HM) _ _ rfl hkey ⟨mp, mk, md, mt, mm⟩ (unhide ha) t (unhide ha2) ?_)
  refine bodyPost_ret (v := .tuple #[.agg #[.string mp, .int .i64 mk, .string md, .int .i64 mt, .int .i64 mm], .bool t]) (by simp [results, Tryz.results169, go_sem]) rfl ⟨rfl, ?_⟩
  repeat first | exact Below.refl _ _ | refine Below.setCell ?_ (by simp) _ | refine Below.alloc ?_ (by simp) _
end WSight
end Go.Proofs.YtepmojmelcngeaaGreatDoor

/- The walks of levelUp and (nodeMap).at. -/
namespace Go.Proofs.YtepmojmelcngeaaGreatDoor
open Go.RowKit Go.Maps
namespace WSight
set_option linter.unusedSimpArgs false in
set_option maxRecDepth 100000 in
set_option maxHeartbeats 2000000 in
theorem up_any (s : Pl.Sg) (w : World) (hh : s.have'.length = 4) (hm : 0 ≤ s.node.mark ∧ s.node.mark ≤ 1000) :
    Calls Tryz.prog 144 #[.agg s.cs.toArray] w fun e w' => e = .returned (.agg (Pl.upS s).cs.toArray) ∧ Below w.heap.size w w' := by
  obtain ⟨told, ⟨sp, sk, sd, st, sm⟩, hv⟩ := s
  obtain ⟨h0, h1, h2, h3, rfl⟩ : ∃ h0 h1 h2 h3, hv = [h0, h1, h2, h3] := by
    match hv, hh with
    | [a, b, c, d], _ => exact ⟨a, b, c, d, rfl⟩
  simp only at hm
  have hw : IntKind.i64.wrap (sm - 1) = sm - 1 := by simp only [IntKind.wrap_i64]; omega
  generalize hU : Pl.upS ⟨told, ⟨sp, sk, sd, st, sm⟩, [h0, h1, h2, h3]⟩ = U
  simp only [Pl.upS] at hU
  rw [show (Pl.Sg.cs ⟨told, ⟨sp, sk, sd, st, sm⟩, [h0, h1, h2, h3]⟩).toArray = #[.bool told, .string sp, .int .i64 sk, .string sd, .int .i64 st, .int .i64 sm, .bool h0, .bool h1, .bool h2, .bool h3] from rfl]
  by_cases h5 : sm - 1 < 0
  · have hM : max (sm - 1) 0 = 0 := by omega
    rw [hM] at hU
    by_cases hk : sk = 0
    · subst hk
      rw [if_pos ⟨rfl, rfl⟩] at hU
      have EU := hide hU.symm
      clear hU
      go_enter Tryz.func144, Tryz.ntmps144
      go_wp2
      refine bodyPost_ret (v := .agg #[.bool false, .string ⟨#[]⟩, .int .i64 0, .string ⟨#[]⟩, .int .i64 0, .int .i64 0, .bool false, .bool false, .bool false, .bool false]) (by simp [results, Tryz.results144, go_sem]) rfl ⟨by rw [unhide EU]; rfl, ?_⟩
      repeat first | exact Below.refl _ _ | refine Below.setCell ?_ (by simp) _ | refine Below.alloc ?_ (by simp) _
    · have t1 : (sk == 0) = false := by simpa using hk
      rw [if_neg (fun h => hk h.1)] at hU
      have EU := hide hU.symm
      clear hU
      go_enter Tryz.func144, Tryz.ntmps144
      go_wp2
      refine bodyPost_ret (v := .agg #[.bool told, .string sp, .int .i64 sk, .string sd, .int .i64 st, .int .i64 (0), .bool h0, .bool h1, .bool h2, .bool h3]) (by simp [results, Tryz.results144, go_sem]) rfl ⟨by rw [unhide EU]; rfl, ?_⟩
      repeat first | exact Below.refl _ _ | refine Below.setCell ?_ (by simp) _ | refine Below.alloc ?_ (by simp) _
  · have hM : max (sm - 1) 0 = sm - 1 := by omega
    rw [hM] at hU
    by_cases hk : sk = 0
    · subst hk
      by_cases h6 : sm = 1
      · subst h6
        rw [if_pos ⟨rfl, by omega⟩] at hU
        have EU := hide hU.symm
        clear hU
        go_enter Tryz.func144, Tryz.ntmps144
        go_wp2
        refine bodyPost_ret (v := .agg #[.bool false, .string ⟨#[]⟩, .int .i64 0, .string ⟨#[]⟩, .int .i64 0, .int .i64 0, .bool false, .bool false, .bool false, .bool false]) (by simp [results, Tryz.results144, go_sem]) rfl ⟨by rw [unhide EU]; rfl, ?_⟩
        repeat first | exact Below.refl _ _ | refine Below.setCell ?_ (by simp) _ | refine Below.alloc ?_ (by simp) _
      · have t2 : (sm - 1 == 0) = false := by simp; omega
        rw [if_neg (fun h => by omega)] at hU
        have EU := hide hU.symm
        clear hU
        go_enter Tryz.func144, Tryz.ntmps144
        go_wp2
        refine bodyPost_ret (v := .agg #[.bool told, .string sp, .int .i64 0, .string sd, .int .i64 st, .int .i64 (sm - 1), .bool h0, .bool h1, .bool h2, .bool h3]) (by simp [results, Tryz.results144, go_sem]) rfl ⟨by rw [unhide EU]; rfl, ?_⟩
        repeat first | exact Below.refl _ _ | refine Below.setCell ?_ (by simp) _ | refine Below.alloc ?_ (by simp) _
    · have t1 : (sk == 0) = false := by simpa using hk
      rw [if_neg (fun h => hk h.1)] at hU
      have EU := hide hU.symm
      clear hU
      go_enter Tryz.func144, Tryz.ntmps144
      go_wp2
      refine bodyPost_ret (v := .agg #[.bool told, .string sp, .int .i64 sk, .string sd, .int .i64 st, .int .i64 (sm - 1), .bool h0, .bool h1, .bool h2, .bool h3]) (by simp [results, Tryz.results144, go_sem]) rfl ⟨by rw [unhide EU]; rfl, ?_⟩
      repeat first | exact Below.refl _ _ | refine Below.setCell ?_ (by simp) _ | refine Below.alloc ?_ (by simp) _
end WSight
end Go.Proofs.YtepmojmelcngeaaGreatDoor

/- The walk of the specification's LayersRight. -/
namespace Go.Proofs.YtepmojmelcngeaaGreatDoor
open Go.RowKit
namespace WLayS
set_option linter.unusedSimpArgs false in
set_option maxRecDepth 100000 in
set_option maxHeartbeats 1000000 in
theorem any (a : Option Addr) (cap : Nat) (Ts : List Pl.Tr) (w : World) (hl : Ts.length ≤ 1048576) (hv : Mem.isTrees w a Ts) (hok : ∀ t ∈ Ts, t.L.length ≤ 1048576 ∧ ∀ n ∈ t.L, n.path.size ≤ 1048576 ∧ n.data.size ≤ 1048576) :
    Calls Tryz.prog 34 #[.agg #[.slice a Ts.length cap]] w fun e w' => e = .returned (.bool (Pl.layB (Ts.map (·.L)))) ∧ Below w.heap.size w w' := by
  have b0 : Below w.heap.size w (w.alloc (.cells #[.slice a Ts.length cap] 60)) := (Below.refl _ _).alloc (Nat.le_refl _) _
  have A0 := Mem.Blk.new w #[.slice a Ts.length cap] 60
  have HT := hide (fun (t : Pl.Tr) (k : Nat) (hk : Ts[k]? = some t) W (b : Below w.heap.size w W) => WTreeS.right_tree t.a t.cap t.L W (hok t (List.mem_of_getElem? hk)).1 (Mem.nodes_call (hv k t hk).2 b) (hok t (List.mem_of_getElem? hk)).2)
  have HV := hide hv
  have HF : Hid (∀ (t : Pl.Tr) (k : Nat), Ts[k]? = some t → Pl.treeB t.L = false → Pl.layB (Ts.map (·.L)) = false) := fun t k hk hq => by
    have : (Ts.map (·.L)).all Pl.treeB = false := by
      rw [List.all_eq_false]
      exact ⟨t.L, List.mem_map.2 ⟨t, List.mem_of_getElem? hk, rfl⟩, by rw [hq]; simp⟩
    rw [Pl.layB, this, Bool.and_false]
  have HQ : Hid (∀ k, k ≤ Ts.length → (∀ (j : Nat) t, j < k → Ts[j]? = some t → Pl.treeB t.L = true) → ¬ (k < Ts.length ∧ k ≤ 4) → k ≤ 5 → Pl.layB (Ts.map (·.L)) = (decide ((1 : Int) ≤ (Ts.length : Int)) && decide ((Ts.length : Int) ≤ 4))) := fun k hk hA hn hk5 => by
    rw [Pl.layB, List.length_map]
    by_cases h4 : Ts.length ≤ 4
    · have hkl : k = Ts.length := by omega
      have : (Ts.map (·.L)).all Pl.treeB = true := by
        rw [List.all_eq_true]
        intro x hx
        obtain ⟨t, ht, rfl⟩ := List.mem_map.1 hx
        obtain ⟨j, hj⟩ := List.mem_iff_getElem?.1 ht
        exact hA j t (by have := (List.getElem?_eq_some_iff.1 hj).1; omega) hj
      rw [this, Bool.and_true]
      congr 1
      · exact decide_eq_decide.2 (by omega)
      · exact decide_eq_decide.2 (by omega)
    · rw [show decide (Ts.length ≤ 4) = false from decide_eq_false h4, show decide ((Ts.length : Int) ≤ 4) = false from decide_eq_false (by omega)]
      simp
  clear hv hok
  generalize Pl.layB (Ts.map (·.L)) = V at HF HQ ⊢
  go_enter Tryz.func34, Tryz.ntmps34
  go_wp2
  go_loopw [3] (fun i wr => ∃ (k : Nat), k ≤ Ts.length ∧ k ≤ 5 ∧ i = .int .i64 (k : Int) ∧ Below w.heap.size w wr ∧ Hid (Mem.Blk wr w.heap.size #[.slice a Ts.length cap] 60) ∧ Hid (∀ (j : Nat) t, j < k → Ts[j]? = some t → Pl.treeB t.L = true)) (fun i _ => Ts.length - (intOf i).toNat)
  case atStart => exact ⟨0, Nat.zero_le _, by omega, rfl, b0, A0, fun j t h => absurd h (by omega)⟩
  case round =>
    obtain ⟨k, hk, hk5, rfl, hbel, HB, HA⟩ := hrel
    have c0 := HB.out.cell 0
    simp only [kA0, kA1] at c0
    by_cases hlt : k < Ts.length ∧ k ≤ 4
    · obtain ⟨t, ht⟩ : ∃ t, Ts[k]? = some t := ⟨_, List.getElem?_eq_getElem hlt.1⟩
      obtain ⟨⟨b, o, rfl, hb, q0⟩, -⟩ := (unhide HV) k t ht
      have c1 := (hbel.cell (p := ⟨b, _, none⟩) hb).trans q0
      have hz := hide (fun W b => unhide HT t k ht W b)
      have HN := hide ht
      have u1 : (k : Int) < (Ts.length : Int) := by omega
      have u2 : (k : Int) ≤ 4 := by omega
      have u3 : (0 : Int) ≤ (k : Int) := by omega
      simp only [Pl.Tr.val] at c1
      clear q0 ht
      go_wp2_with fail
      refine (unhide hz _ hbel).mono ?_
      rintro e w1 ⟨rfl, b1⟩
      have hb2 := hbel.trans (b1.mono hbel.size)
      have HB2 := hide (HB.out.call b1)
      clear b1 hbel hz c0 c1 HB
      cases hq : Pl.treeB t.L
      · go_wp2
        go_ret
        exact ⟨by rw [(unhide HF) t k (unhide HN) hq]; rfl, hb2⟩
      · have HA2 : Hid (∀ (j : Nat) m, j < k + 1 → Ts[j]? = some m → Pl.treeB m.L = true) := fun j m hj h' => by
          rcases Nat.lt_succ_iff_lt_or_eq.1 hj with h'' | rfl
          · exact HA.out j m h'' h'
          · rw [unhide HN] at h'; cases h'; exact hq
        go_wp2
        go_roundw
        case rel => exact ⟨k + 1, by omega, by omega, by go_num, hb2, HB2, HA2⟩
        case measure => simp [intOf]; omega
    · have hfin := unhide HQ k hk (unhide HA) hlt hk5
      have hIS := hide (WNode.is_any (Ts.length : Int) 1 4)
      generalize (decide ((1 : Int) ≤ (Ts.length : Int)) && decide ((Ts.length : Int) ≤ 4)) = V2 at hfin hIS
      by_cases h1 : k < Ts.length
      · have u1 : (k : Int) < (Ts.length : Int) := by omega
        have u2 : ¬ (k : Int) ≤ 4 := by omega
        go_wp2_with fail
        refine (unhide hIS _).mono ?_
        rintro e w1 ⟨rfl, rfl⟩
        go_wp2
        go_ret
        exact ⟨by rw [hfin]; rfl, hbel⟩
      · have u1 : ¬ (k : Int) < (Ts.length : Int) := by omega
        go_wp2_with fail
        refine (unhide hIS _).mono ?_
        rintro e w1 ⟨rfl, rfl⟩
        go_wp2
        go_ret
        exact ⟨by rw [hfin]; rfl, hbel⟩
end WLayS
end Go.Proofs.YtepmojmelcngeaaGreatDoor

/- The walk of overlayOf. -/
namespace Go.Proofs.YtepmojmelcngeaaGreatDoor
open Go.RowKit Go.Maps
namespace Pl
theorem lay_no {Ts : List (List Nd)} {L : List Nd} (hL : L ∈ Ts) (h : treeB L = false) : layB Ts = false := by
  have : Ts.all treeB = false := by
    rw [List.all_eq_false]
    exact ⟨L, hL, by rw [h]; simp⟩
  rw [layB, this, Bool.and_false]
theorem lay_few {Ts : List (List Nd)} (h : Ts.length < 1 ∨ 4 < Ts.length) : layB Ts = false := by
  unfold layB
  rcases h with h | h
  · rw [show decide (1 ≤ Ts.length) = false from decide_eq_false (by omega)]; simp
  · rw [show decide (Ts.length ≤ 4) = false from decide_eq_false (by omega)]; simp
theorem lay_yes {Ts : List (List Nd)} (h1 : 1 ≤ Ts.length) (h2 : Ts.length ≤ 4) (h : ∀ L ∈ Ts, treeB L = true) : layB Ts = true := by
  rw [layB, decide_eq_true h1, decide_eq_true h2, Bool.true_and, Bool.true_and, List.all_eq_true]
  exact h
end Pl
namespace WOverI
def layV (b : Nat) : Value := .iface 74 (.map (some b))
theorem row_call {w w' : World} {B n : Nat} {T : TypeId} {v : Value} {xs : List Value} (h : w.ownsRow B T 1 v n xs) (b : Below w.heap.size w w') : w'.ownsRow B T 1 v n xs := by
  refine ⟨h.1, ?_⟩
  rcases h.2 with h0 | ⟨g, cap, cur, hv, hb, hg, rest⟩
  · exact .inl h0
  · exact .inr ⟨g, cap, cur, hv, hb, (b.block g (Array.getElem?_eq_some_iff.1 hg).1).trans hg, rest⟩
/-- Layers as they lie: a row of the call's own, each a map of nodes. -/
structure Ov (w : World) (B : Nat) (v : Value) (Bs : List Nat) (Ls : List (List Pl.Nd)) : Prop where
  row : w.ownsRow B 158 1 v Bs.length (Bs.map layV)
  len : Bs.length = Ls.length
  maps : ∀ (j : Nat) b L, Bs[j]? = some b → Ls[j]? = some L → B ≤ b ∧ w.ownsMap Tryz.prog 9 MapN.elem b 40 (MapN.mapOf L)
theorem Ov.call {w w' : World} {B : Nat} {v : Value} {Bs : List Nat} {Ls : List (List Pl.Nd)} (h : Ov w B v Bs Ls) (b : Below w.heap.size w w') : Ov w' B v Bs Ls :=
  ⟨row_call h.row b, h.len, fun j c L h1 h2 => ⟨(h.maps j c L h1 h2).1, WNodesI.map_call (h.maps j c L h1 h2).2 b⟩⟩
theorem map_not {w : World} {B b n m : Nat} {T : TypeId} {v : Value} {xs : List Value} {D : DataW Unit} (h : w.ownsRow B T 1 v n xs) (hm : w.ownsMap Tryz.prog 9 MapN.elem b m D) : some b ≠ v.ownBlock := fun e => by
  obtain ⟨es, clock, h1, _⟩ := hm
  rcases h.2 with ⟨rfl, _⟩ | ⟨g, cap, cur, rfl, _, hg, _⟩
  · cases e
  · cases e
    rw [hg] at h1
    cases h1
theorem Ov.put {w w' : World} {B b : Nat} {v v' : Value} {Bs : List Nat} {Ls : List (List Pl.Nd)} {L : List Pl.Nd} (h : Ov w B v Bs Ls) (hm : w.ownsMap Tryz.prog 9 MapN.elem b 40 (MapN.mapOf L)) (hb : B ≤ b)
    (hr : w'.ownsRow B 158 1 v' (Bs.length + 1) (Bs.map layV ++ [layV b])) (hg : w.grownBy w' v.ownBlock) : Ov w' B v' (Bs ++ [b]) (Ls ++ [L]) := by
  refine ⟨by simpa using hr, by simp [h.len], fun j c M h1 h2 => ?_⟩
  by_cases e : j < Bs.length
  · rw [List.getElem?_append_left e] at h1
    rw [List.getElem?_append_left (by rw [← h.len]; exact e)] at h2
    obtain ⟨h3, h4⟩ := h.maps j c M h1 h2
    exact ⟨h3, h4.kept hg (map_not h.row h4)⟩
  · rw [List.getElem?_append_right (by omega)] at h1
    rw [List.getElem?_append_right (by rw [← h.len]; omega)] at h2
    have e0 : j - Bs.length = 0 := by
      have := (List.getElem?_eq_some_iff.1 h1).1
      simp at this; omega
    rw [e0] at h1
    rw [← h.len, e0] at h2
    simp at h1 h2
    subst h1 h2
    exact ⟨hb, hm.kept hg (map_not h.row hm)⟩
theorem infoL : (Tryz.prog.info? 158).map (fun i => (i.zero, i.size, i.bytes)) = some (some .nilIface, 1, 16) := by kernel_rfl
set_option linter.unusedSimpArgs false in
set_option maxRecDepth 100000 in
set_option maxHeartbeats 1000000 in
theorem over_any (a : Option Addr) (cap : Nat) (Ts : List Pl.Tr) (w : World) (hl : Ts.length ≤ 1048576) (hv : Mem.isTrees w a Ts) (hok : ∀ t ∈ Ts, t.L.length ≤ 1048576 ∧ ∀ n ∈ t.L, n.path.size ≤ 1048576 ∧ n.data.size ≤ 1048576)
    (r1 r2 r3 : TypeId) (x1 x2 x3 : Value) (hE : WNodesI.Errs w r1 r2 r3 x1 x2 x3) :
    Calls Tryz.prog 66 #[.agg #[.slice a Ts.length cap]] w fun e w' => ((Pl.layB (Ts.map (·.L)) = true ∧ ∃ v Bs, e = .returned (.tuple #[v, .nilIface]) ∧ Ov w' w.heap.size v Bs (Ts.map (·.L))) ∨
      (Pl.layB (Ts.map (·.L)) = false ∧ e = .returned (.tuple #[.slice none 0 0, .iface r1 x1]))) ∧ Below w.heap.size w w' := by
  obtain ⟨i0, hi, hz0, hz1, hz2⟩ := info_parts infoL
  have b0 : Below w.heap.size w (w.alloc (.cells #[.slice a Ts.length cap] 60)) := (Below.refl _ _).alloc (Nat.le_refl _) _
  have HT := hide (fun (t : Pl.Tr) (k : Nat) (hk : Ts[k]? = some t) W (b : Below w.heap.size w W) => WNodesI.nodes_any t.a t.cap t.L W (hok t (List.mem_of_getElem? hk)).1 (Mem.nodes_call (hv k t hk).2 b) (hok t (List.mem_of_getElem? hk)).2 _ _ _ _ _ _ (hE.call b))
  have HV := hide hv
  have HF : Hid (∀ (t : Pl.Tr) (k : Nat), Ts[k]? = some t → Pl.treeB t.L = false → Pl.layB (Ts.map (·.L)) = false) := fun t k hk hq => Pl.lay_no (List.mem_map.2 ⟨t, List.mem_of_getElem? hk, rfl⟩) hq
  have HW : Hid (Ts.length < 1 ∨ 4 < Ts.length → Pl.layB (Ts.map (·.L)) = false) := fun h => Pl.lay_few (by simpa using h)
  have HY : Hid (1 ≤ Ts.length → Ts.length ≤ 4 → (∀ (j : Nat) t, j < Ts.length → Ts[j]? = some t → Pl.treeB t.L = true) → Pl.layB (Ts.map (·.L)) = true) := fun h1 h2 h3 => Pl.lay_yes (by simpa using h1) (by simpa using h2) (fun L hL => by
    obtain ⟨t, ht, rfl⟩ := List.mem_map.1 hL
    obtain ⟨j, hj⟩ := List.mem_iff_getElem?.1 ht
    exact h3 j t (List.getElem?_eq_some_iff.1 hj).1 hj)
  have HS : Hid (∀ k t, Ts[k]? = some t → (Ts.take (k + 1)).map (·.L) = (Ts.take k).map (·.L) ++ [t.L]) := fun k t hk => by
    rw [List.take_add_one, hk, List.map_append]; rfl
  have k1 := (hE.call b0).c1
  clear hv hok hE
  by_cases h1 : Ts.length < 1
  · have t0 : (Ts.length : Int) < 1 := by omega
    have hf := unhide HW (.inl h1)
    go_enter Tryz.func66, Tryz.ntmps66
    go_wp2
    go_region
    go_wp2
    go_ret2
    exact ⟨.inr ⟨hf, rfl⟩, Mem.below_drewN b0 1⟩
  have t0 : ¬ (Ts.length : Int) < 1 := by omega
  by_cases h2 : 4 < Ts.length
  · have t1 : (4 : Int) < (Ts.length : Int) := by omega
    have hf := unhide HW (.inr h2)
    go_enter Tryz.func66, Tryz.ntmps66
    go_wp2
    go_region
    go_wp2
    go_ret2
    exact ⟨.inr ⟨hf, rfl⟩, Mem.below_drewN b0 1⟩
  have t1 : ¬ (4 : Int) < (Ts.length : Int) := by omega
  have OV0 : Hid (Ov (w.alloc (.cells #[.slice a Ts.length cap] 60)) w.heap.size (.slice none 0 0) [] ((Ts.take 0).map (·.L))) := ⟨⟨by rfl, .inl ⟨rfl, rfl⟩⟩, rfl, fun j b L h => by simp at h⟩
  clear k1
  go_enter Tryz.func66, Tryz.ntmps66
  go_wp2
  go_loopw [4, 23] (fun v i wr => ∃ (k : Nat) (Bs : List Nat), k ≤ Ts.length ∧ i = .int .i64 (k : Int) ∧ Below w.heap.size w wr ∧ Hid (Ov wr w.heap.size v Bs ((Ts.take k).map (·.L))) ∧ Hid (∀ (j : Nat) t, j < k → Ts[j]? = some t → Pl.treeB t.L = true)) (fun _ i _ => Ts.length - (intOf i).toNat)
  case atStart => exact ⟨0, [], Nat.zero_le _, rfl, b0, OV0, fun j t h => absurd h (by omega)⟩
  case round =>
    obtain ⟨k, Bs, hk, rfl, hbel, HO, HA⟩ := hrel
    by_cases hlt : k < Ts.length
    · obtain ⟨t, ht⟩ : ∃ t, Ts[k]? = some t := ⟨_, List.getElem?_eq_getElem hlt⟩
      obtain ⟨⟨b, o, rfl, hb, q0⟩, -⟩ := (unhide HV) k t ht
      have c0 := (hbel.cell (p := ⟨b, _, none⟩) hb).trans q0
      have hz := hide (fun W b => unhide HT t k ht W b)
      have HN := hide ht
      have u1 : (k : Int) < (Ts.length : Int) := by omega
      have u3 : (0 : Int) ≤ (k : Int) := by omega
      simp only [Pl.Tr.val] at c0
      clear q0 ht OV0
      have bA := hbel.alloc hbel.size (.cells #[.slice t.a t.L.length t.cap] 31)
      have OA := (unhide HO).call ((Below.refl _ _).alloc (Nat.le_refl _) (.cells #[.slice t.a t.L.length t.cap] 31))
      go_wp2_with fail
      refine (unhide hz _ bA).mono ?_
      rintro e w1 ⟨h1, b1⟩
      have bw1 := bA.trans (b1.mono bA.size)
      have O1 := OA.call b1
      have hwr := hbel.size
      clear hz hbel HO OA c0
      rcases h1 with ⟨hT, B, rfl, hB, hown⟩ | ⟨hT, rfl⟩
      · have HTT := hide hT
        have hBw : w.heap.size ≤ B := Nat.le_trans bA.size hB
        have bA1 : Below w1.heap.size w1 (w1.alloc (.cells #[layV B] 158)) := (Below.refl _ _).alloc (Nat.le_refl _) _
        have O2 := O1.call bA1
        have hown2 := WNodesI.map_call hown bA1
        have HLN : Bs.length ≤ 4 := by have := O1.len; rw [List.length_map, List.length_take] at this; omega
        have HP := hide (fun v' w2 h1 h2 => O2.put (v' := v') (w' := w2) hown2 hBw h1 h2)
        have HR := hide O2.row
        have HQ := hide (fun w2 h2 => Mem.below_append (o := .cells #[layV B] 158) (w1 := w2) bw1 (Nat.le_refl _) O1.row h2)
        have HSB := hide bw1.size
        clear bA b1 hB hT O1 O2 hown2 hown bA1 bw1
        unfold layV at HP HR HQ
        go_wp2_with (at_builtin; refine wpList_append_own _ rfl _ _ 97 rfl w.heap.size 158 i0 .nilIface 1 16 Tryz.underlying97 hi hz0 hz1 hz2 rfl (by decide) _ _ _ rfl (unhide HR) ⟨w1.heap.size, 0, none⟩ 1 1 [.iface 74 (.map (some B))] rfl rfl (Mem.one_new _ _ _) (fun u hu => by simp at hu; subst hu; rfl) (by unfold maxLen; omega) (by omega) (by have := unhide HSB; simp; omega) ?_)
        intro v' w2 own' hgrow _
        have OV2 := hide (unhide HP v' w2 own' hgrow)
        have bw2 := unhide HQ w2 hgrow
        rw [← unhide HS k t (unhide HN)] at OV2
        have HA2 : Hid (∀ (j : Nat) m, j < k + 1 → Ts[j]? = some m → Pl.treeB m.L = true) := fun j m hj h' => by
          rcases Nat.lt_succ_iff_lt_or_eq.1 hj with h'' | rfl
          · exact HA.out j m h'' h'
          · rw [unhide HN] at h'; cases h'; exact unhide HTT
        clear HP HR HQ own' hgrow HSB HLN
        go_wp2
        go_roundw
        case rel => exact ⟨k + 1, _, by omega, by go_num, bw2, OV2, HA2⟩
        case measure => simp [intOf]; omega
      · have hf := unhide HF t k (unhide HN) hT
        clear O1 bA b1
        go_wp2
        go_ret2
        exact ⟨.inr ⟨hf, rfl⟩, bw1⟩
    · have u1 : ¬ (k : Int) < (Ts.length : Int) := by omega
      have hkl : k = Ts.length := by omega
      have HF2 := hide (unhide HY (by omega) (by omega) (fun j t hj ht => HA.out j t (by omega) ht))
      have OF := hide (show Ov wr w.heap.size _ Bs (Ts.map (·.L)) by have := unhide HO; rw [hkl, List.take_length] at this; exact this)
      clear HO HA
      go_wp2
      go_ret2
      exact ⟨.inl ⟨unhide HF2, _, rfl, Bs, unhide OF⟩, hbel⟩
end WOverI
end Go.Proofs.YtepmojmelcngeaaGreatDoor

