/- Several texts of one claim in one file: WRootS, MapLook, WNodeAt, WLevelUp. -/
import Derived.Test.YtkfpfckmjgjanabDoorWTakeS
import Derived.Test.YtkfpfckmjgjanabDoorG05
import Derived.Test.YtkfpfckmjgjanabDoorWNodesI
import Derived.Test.YtkfpfckmjgjanabDoorG32
import Derived.Test.YtkfpfckmjgjanabDoorG17
import Derived.Test.YtkfpfckmjgjanabDoorG04
import Derived.Test.YtkfpfckmjgjanabDoorProg
import Derived.WalkKit
import Derived.WalkSpells
/- The walks of rootSight and decider. -/
namespace Go.Proofs.YtkfpfckmjgjanabDoor
open Go.RowKit
namespace Pl
/-- Who has a part in the root: all, of so many. -/
def partsR (n : Nat) : List Bool := [decide (0 < n), decide (1 < n), decide (2 < n), decide (3 < n)]
def rootS (n : Nat) : Sg := ⟨false, zeroN, partsR n⟩
theorem parts_set {k : Nat} (h : k < 4) : (partsR k).set k true = partsR (k + 1) := by
  obtain rfl | rfl | rfl | rfl : k = 0 ∨ k = 1 ∨ k = 2 ∨ k = 3 := by omega
  all_goals rfl
end Pl
namespace WSight
set_option maxRecDepth 100000 in
theorem dec_make (a : Option Addr) (n cap : Nat) (w : World) : Calls Tryd.prog 87 #[.slice a n cap] w fun e w' => e = .returned (.func (.func 108) #[] #[.pointer (some ⟨w.heap.size, 0, none⟩)]) ∧ w' = w.alloc (.cells #[.slice a n cap] 70) := by
  have hmf : ∀ (fn : Fn) (first cap : Array Value) (w : World), (Instr.makeFunc fn first cap).run Tryd.prog w = .ok (.func fn first cap) w := fun _ _ _ _ => rfl
  go_enter Tryd.func87, Tryd.ntmps87
  go_wp2
  go_ret
  exact ⟨rfl, rfl⟩
set_option linter.unusedSimpArgs false in
set_option maxRecDepth 100000 in
set_option maxHeartbeats 2000000 in
theorem root_any (a : Option Addr) (n cap : Nat) (w : World) (hn : n ≤ 4) :
    Calls Tryd.prog 88 #[.slice a n cap] w fun e w' => e = .returned (.agg (Pl.rootS n).cs.toArray) ∧ Below w.heap.size w w' := by
  have b0 : Below w.heap.size w ((w.alloc (.cells Pl.Sg.zero.cs.toArray 95)).alloc (.cells Pl.Sg.zero.cs.toArray 95)) := ((Below.refl _ _).alloc (Nat.le_refl _) _).alloc (by simp) _
  have A0 : Hid (Below w.heap.size w ((w.alloc (.cells Pl.Sg.zero.cs.toArray 95)).alloc (.cells Pl.Sg.zero.cs.toArray 95)) ∧ Mem.Blk ((w.alloc (.cells Pl.Sg.zero.cs.toArray 95)).alloc (.cells Pl.Sg.zero.cs.toArray 95)) w.heap.size Pl.Sg.zero.cs.toArray 95 ∧ Mem.Blk ((w.alloc (.cells Pl.Sg.zero.cs.toArray 95)).alloc (.cells Pl.Sg.zero.cs.toArray 95)) (w.heap.size + 1) (Pl.rootS 0).cs.toArray 95) := ⟨b0, (Mem.Blk.new _ _ _).alloc _, Mem.new_two _ _ _⟩
  simp only [Pl.Sg.zero, Pl.zeroN, Pl.Sg.cs, List.map_cons, List.map_nil, List.cons_append, List.nil_append] at A0
  have hR : w.heap.size ≤ w.heap.size := Nat.le_refl _
  clear b0
  go_enter Tryd.func88, Tryd.ntmps88
  go_wp2
  go_loopw [7] (fun i wr => ∃ k : Nat, k ≤ n ∧ i = .int .i64 (k : Int) ∧ Hid (Below w.heap.size w wr ∧ Mem.Blk wr w.heap.size Pl.Sg.zero.cs.toArray 95 ∧ Mem.Blk wr (w.heap.size + 1) (Pl.rootS k).cs.toArray 95)) (fun i _ => n - (intOf i).toNat)
  case atStart => exact ⟨0, Nat.zero_le _, rfl, A0⟩
  case round =>
    obtain ⟨k, hk, rfl, HA⟩ := hrel
    clear A0
    by_cases hlt : k < n
    · have y1 : (k : Int) < (n : Int) := by omega
      have hix : 0 ≤ (k : Int) ∧ (k : Int) < 4 := by omega
      have fk := (unhide HA).2.2.fr (6 + k)
      obtain ⟨x, ck⟩ : ∃ x, wr.cell? ⟨w.heap.size + 1, 6 + k, none⟩ = some (.bool x) := by
        rw [(unhide HA).2.2.cell (6 + k)]
        obtain rfl | rfl | rfl | rfl : k = 0 ∨ k = 1 ∨ k = 2 ∨ k = 3 := by omega
        all_goals exact ⟨_, rfl⟩
      have A2 : Hid (Below w.heap.size w (wr.setCell ⟨w.heap.size + 1, 6 + k, none⟩ (.bool true)) ∧ Mem.Blk (wr.setCell ⟨w.heap.size + 1, 6 + k, none⟩ (.bool true)) w.heap.size Pl.Sg.zero.cs.toArray 95 ∧ Mem.Blk (wr.setCell ⟨w.heap.size + 1, 6 + k, none⟩ (.bool true)) (w.heap.size + 1) (Pl.rootS (k + 1)).cs.toArray 95) := by
        refine ⟨(unhide HA).1.setCell (by show w.heap.size ≤ w.heap.size + 1; omega) _, (unhide HA).2.1.far _ _ (by show w.heap.size ≠ w.heap.size + 1; omega), ?_⟩
        have h := (unhide HA).2.2.put (6 + k) (.bool true)
        unfold Pl.rootS at h
        rw [set_have, Pl.parts_set (by omega)] at h
        exact h
      clear HA
      go_wp2
      go_roundw
      case rel => exact ⟨k + 1, by omega, by go_num, A2⟩
      case measure => simp [intOf]; omega
    · obtain rfl : k = n := by omega
      have y1 : ¬ ((k : Int) < (k : Int)) := by omega
      have R1 := (unhide HA).2.1
      have S1 := (unhide HA).2.2
      have BU := (unhide HA).1
      have ER : Hid (Pl.rootS k = ⟨false, Pl.zeroN, [decide (0 < k), decide (1 < k), decide (2 < k), decide (3 < k)]⟩) := rfl
      generalize decide (0 < k) = g0 at ER
      generalize decide (1 < k) = g1 at ER
      generalize decide (2 < k) = g2 at ER
      generalize decide (3 < k) = g3 at ER
      rw [unhide ER] at S1
      have c0 := R1.cell 0
      have f0 := R1.fr 0
      have d0 := S1.cell 0
      have c1 := R1.cell 1
      have f1 := R1.fr 1
      have d1 := S1.cell 1
      have c2 := R1.cell 2
      have f2 := R1.fr 2
      have d2 := S1.cell 2
      have c3 := R1.cell 3
      have f3 := R1.fr 3
      have d3 := S1.cell 3
      have c4 := R1.cell 4
      have f4 := R1.fr 4
      have d4 := S1.cell 4
      have c5 := R1.cell 5
      have f5 := R1.fr 5
      have d5 := S1.cell 5
      have c6 := R1.cell 6
      have f6 := R1.fr 6
      have d6 := S1.cell 6
      have c7 := R1.cell 7
      have f7 := R1.fr 7
      have d7 := S1.cell 7
      have c8 := R1.cell 8
      have f8 := R1.fr 8
      have d8 := S1.cell 8
      have c9 := R1.cell 9
      have f9 := R1.fr 9
      have d9 := S1.cell 9
      simp only [Pl.Sg.zero, Pl.zeroN, Pl.Sg.cs, List.map_cons, List.map_nil, List.cons_append, List.nil_append, kA0, kA1, kA2] at c0 c1 c2 c3 c4 c5 c6 c7 c8 c9 d0 d1 d2 d3 d4 d5 d6 d7 d8 d9
      clear R1 S1 HA
      go_wp2
      refine bodyPost_ret (v := .agg #[.bool false, .string ⟨#[]⟩, .int .i64 0, .string ⟨#[]⟩, .int .i64 0, .int .i64 0, .bool g0, .bool g1, .bool g2, .bool g3]) (by simp [results, Tryd.results88, go_sem, c0, c1, c2, c3, c4, c5, c6, c7, c8, c9]) rfl ⟨by rw [unhide ER]; rfl, ?_⟩
      exact ((((((((((BU.setCell (p := ⟨w.heap.size, 0, none⟩) hR _).setCell (p := ⟨w.heap.size, 1, none⟩) hR _).setCell (p := ⟨w.heap.size, 2, none⟩) hR _).setCell (p := ⟨w.heap.size, 3, none⟩) hR _).setCell (p := ⟨w.heap.size, 4, none⟩) hR _).setCell (p := ⟨w.heap.size, 5, none⟩) hR _).setCell (p := ⟨w.heap.size, 6, none⟩) hR _).setCell (p := ⟨w.heap.size, 7, none⟩) hR _).setCell (p := ⟨w.heap.size, 8, none⟩) hR _).setCell (p := ⟨w.heap.size, 9, none⟩) hR _)
end WSight
end Go.Proofs.YtkfpfckmjgjanabDoor

/- 'm[k]' at nodes, as a statement of its own. -/
namespace Go.Proofs.YtkfpfckmjgjanabDoor
open Go.RowKit Go.Maps
namespace MapN
/-- 'all[path]', as a statement of its own. -/
theorem look_no {P : Program} (w : World) {ops : Array Oper} {rest : List Oper} {o : Oper} {a : Act} {Q : Exit → Act → World → Prop} (hg : o.guard = none) (m x : Operand) (t : TypeId) (hop : o.op = Op.lookup t m x false)
    (k e : TypeId) (K : Keyed P k) (ht : P.underlying t = some (.map k e)) (hz : (zeroValue e).run P w = .ok (Pl.Nd.val ⟨⟨#[]⟩, 0, ⟨#[]⟩, 0, 0⟩) w) (b n : Nat) (D : DataW Unit)
    (hm : a.eval m = .map (some b)) (hown : w.ownsMap P k elem b n D) (kv : Value) (kl : Lit) (hx : a.eval x = kv) (hkey : keyOf P k kv = some kl) (nd : Pl.Nd) (hat : D.atKey kl (dat ⟨⟨#[]⟩, 0, ⟨#[]⟩, 0, 0⟩) = dat nd)
    (hK : wpList P ops Q rest (a.put o.dst (.agg #[.string nd.path, .int .i64 nd.kind, .string nd.data, .int .i64 nd.time, .int .i64 nd.mark])) w) :
    wpList P ops Q (o :: rest) a w := by
  refine wpList_plain hg fun K' hK' => ?_
  obtain ⟨v, ps, hrun, hv⟩ := hown.lookup K ht hz (elem_mk _) hkey
  obtain ⟨n1, rfl, hd⟩ := elem_inv hv
  obtain rfl := dat_inj (hat.symm.trans hd)
  unfold Oper.wp
  simp [execOp, hop, hm, hx, hrun, Result.andThen]
  exact hK' _ _ hK
end MapN
end Go.Proofs.YtkfpfckmjgjanabDoor

/- (nodeMap).at: the node that a map has at a path. -/
namespace Go.Proofs.YtkfpfckmjgjanabDoor
open Go.RowKit Go.Maps
namespace WSight
set_option linter.unusedSimpArgs false in
set_option maxRecDepth 100000 in
set_option maxHeartbeats 2000000 in
theorem at_some (B N : Nat) (D : DataW Unit) (p : ByteArray) (m : Pl.Nd) (w : World) (hp : p.size ≤ 1048576) (hown : w.ownsMap Tryd.prog 9 MapN.elem B N D) (h1 : D.atKey (MapN.key p) (MapN.dat ⟨⟨#[]⟩, 0, ⟨#[]⟩, 0, 0⟩) = MapN.dat m) (t : Bool) (h2 : Maps.has D (MapN.key p) = t) :
    Calls Tryd.prog 164 #[.map (some B), .string p] w fun e w' => e = .returned (.tuple #[m.val, .bool t]) ∧ Below w.heap.size w w' := by
  have hkey := MapN.keyOf_mk (p := p) (by unfold maxLen; omega)
  have HM := hide (WNodesI.map_call hown ((Below.refl _ _).alloc (Nat.le_refl _) (.cells #[.string ⟨#[]⟩, .int .i64 0, .string ⟨#[]⟩, .int .i64 0, .int .i64 0] 50)))
  have ha := hide h1
  have ha2 := hide h2
  clear h1 h2 hown
  obtain ⟨mp, mk, md, mt, mm⟩ := m
  go_enter Tryd.func164, Tryd.ntmps164
  go_wp2_with (at_lookup; refine MapN.look_ok _ rfl _ _ 114 rfl 9 50 MapN.law Tryd.underlying114 (MapN.zeroN _) B N D rfl (unhide HM) _ _ rfl hkey ⟨mp, mk, md, mt, mm⟩ (unhide ha) t (unhide ha2) ?_)
  refine bodyPost_ret (v := .tuple #[.agg #[.string mp, .int .i64 mk, .string md, .int .i64 mt, .int .i64 mm], .bool t]) (by simp [results, Tryd.results164, go_sem]) rfl ⟨rfl, ?_⟩
  repeat first | exact Below.refl _ _ | refine Below.setCell ?_ (by simp) _ | refine Below.alloc ?_ (by simp) _
end WSight
end Go.Proofs.YtkfpfckmjgjanabDoor

/- The walks of levelUp and (nodeMap).at. -/
namespace Go.Proofs.YtkfpfckmjgjanabDoor
open Go.RowKit Go.Maps
namespace WSight
set_option linter.unusedSimpArgs false in
set_option maxRecDepth 100000 in
set_option maxHeartbeats 2000000 in
theorem up_any (s : Pl.Sg) (w : World) (hh : s.have'.length = 4) (hm : 0 ≤ s.node.mark ∧ s.node.mark ≤ 1000) :
    Calls Tryd.prog 110 #[.agg s.cs.toArray] w fun e w' => e = .returned (.agg (Pl.upS s).cs.toArray) ∧ Below w.heap.size w w' := by
  obtain ⟨told, ⟨sp, sk, sd, st, sm⟩, hv⟩ := s
  obtain ⟨h0, h1, h2, h3, rfl⟩ : ∃ h0 h1 h2 h3, hv = [h0, h1, h2, h3] := by
    match hv, hh with
    | [a, b, c, d], _ => exact ⟨a, b, c, d, rfl⟩
  simp only at hm
  have hw : IntKind.i64.wrap (sm - 1) = sm - 1 := by simp only [IntKind.wrap_i64]; omega
  generalize hU : Pl.upS ⟨told, ⟨sp, sk, sd, st, sm⟩, [h0, h1, h2, h3]⟩ = U
  simp only [Pl.upS] at hU
  rw [show (Pl.Sg.cs ⟨told, ⟨sp, sk, sd, st, sm⟩, [h0, h1, h2, h3]⟩).toArray = #[.bool told, .string sp, .int .i64 sk, .string sd, .int .i64 st, .int .i64 sm, .bool h0, .bool h1, .bool h2, .bool h3] from rfl]
  by_cases h5 : sm - 1 < 0
  · have hM : max (sm - 1) 0 = 0 := by omega
    rw [hM] at hU
    by_cases hk : sk = 0
    · subst hk
      rw [if_pos ⟨rfl, rfl⟩] at hU
      have EU := hide hU.symm
      clear hU
      go_enter Tryd.func110, Tryd.ntmps110
      go_wp2
      refine bodyPost_ret (v := .agg #[.bool false, .string ⟨#[]⟩, .int .i64 0, .string ⟨#[]⟩, .int .i64 0, .int .i64 0, .bool false, .bool false, .bool false, .bool false]) (by simp [results, Tryd.results110, go_sem]) rfl ⟨by rw [unhide EU]; rfl, ?_⟩
      repeat first | exact Below.refl _ _ | refine Below.setCell ?_ (by simp) _ | refine Below.alloc ?_ (by simp) _
    · have t1 : (sk == 0) = false := by simpa using hk
      rw [if_neg (fun h => hk h.1)] at hU
      have EU := hide hU.symm
      clear hU
      go_enter Tryd.func110, Tryd.ntmps110
      go_wp2
      refine bodyPost_ret (v := .agg #[.bool told, .string sp, .int .i64 sk, .string sd, .int .i64 st, .int .i64 (0), .bool h0, .bool h1, .bool h2, .bool h3]) (by simp [results, Tryd.results110, go_sem]) rfl ⟨by rw [unhide EU]; rfl, ?_⟩
      repeat first | exact Below.refl _ _ | refine Below.setCell ?_ (by simp) _ | refine Below.alloc ?_ (by simp) _
  · have hM : max (sm - 1) 0 = sm - 1 := by omega
    rw [hM] at hU
    by_cases hk : sk = 0
    · subst hk
      by_cases h6 : sm = 1
      · subst h6
        rw [if_pos ⟨rfl, by omega⟩] at hU
        have EU := hide hU.symm
        clear hU
        go_enter Tryd.func110, Tryd.ntmps110
        go_wp2
        refine bodyPost_ret (v := .agg #[.bool false, .string ⟨#[]⟩, .int .i64 0, .string ⟨#[]⟩, .int .i64 0, .int .i64 0, .bool false, .bool false, .bool false, .bool false]) (by simp [results, Tryd.results110, go_sem]) rfl ⟨by rw [unhide EU]; rfl, ?_⟩
        repeat first | exact Below.refl _ _ | refine Below.setCell ?_ (by simp) _ | refine Below.alloc ?_ (by simp) _
      · have t2 : (sm - 1 == 0) = false := by simp; omega
        rw [if_neg (fun h => by omega)] at hU
        have EU := hide hU.symm
        clear hU
        go_enter Tryd.func110, Tryd.ntmps110
        go_wp2
        refine bodyPost_ret (v := .agg #[.bool told, .string sp, .int .i64 0, .string sd, .int .i64 st, .int .i64 (sm - 1), .bool h0, .bool h1, .bool h2, .bool h3]) (by simp [results, Tryd.results110, go_sem]) rfl ⟨by rw [unhide EU]; rfl, ?_⟩
        repeat first | exact Below.refl _ _ | refine Below.setCell ?_ (by simp) _ | refine Below.alloc ?_ (by simp) _
    · have t1 : (sk == 0) = false := by simpa using hk
      rw [if_neg (fun h => hk h.1)] at hU
      have EU := hide hU.symm
      clear hU
      go_enter Tryd.func110, Tryd.ntmps110
      go_wp2
      refine bodyPost_ret (v := .agg #[.bool told, .string sp, .int .i64 sk, .string sd, .int .i64 st, .int .i64 (sm - 1), .bool h0, .bool h1, .bool h2, .bool h3]) (by simp [results, Tryd.results110, go_sem]) rfl ⟨by rw [unhide EU]; rfl, ?_⟩
      repeat first | exact Below.refl _ _ | refine Below.setCell ?_ (by simp) _ | refine Below.alloc ?_ (by simp) _
end WSight
end Go.Proofs.YtkfpfckmjgjanabDoor

