/- Several texts of one claim in one file: WTakeS, WLevelUp, WRootS. -/
import Derived.Test.YteddcihodfkliaaGreatDoorPartT
import Derived.Test.YteddcihodfkliaaGreatDoorPartA
import Derived.Test.YteddcihodfkliaaGreatDoorProg
import Derived.WalkKit
import Derived.WalkSpells
import Derived.Test.YteddcihodfkliaaGreatDoorPartQ
/- The walks of take and levelUp. -/
namespace Go.Proofs.YteddcihodfkliaaGreatDoor
open Go.RowKit
namespace WSight
theorem set_have (t : Bool) (n : Pl.Nd) (hv : List Bool) (k : Nat) (x : Bool) : (Pl.Sg.cs ⟨t, n, hv⟩).toArray.setIfInBounds (6 + k) (.bool x) = (Pl.Sg.cs ⟨t, n, hv.set k x⟩).toArray := by
  rw [List.setIfInBounds_toArray]
  unfold Pl.Sg.cs
  rw [List.set_append_right _ _ (by simp)]
  simp [List.map_set]
theorem set_mark (t : Bool) (n : Pl.Nd) (hv : List Bool) (m : Int) : (Pl.Sg.cs ⟨t, n, hv⟩).toArray.setIfInBounds 5 (.int .i64 m) = (Pl.Sg.cs ⟨t, ⟨n.path, n.kind, n.data, n.time, m⟩, hv⟩).toArray := by
  rw [List.setIfInBounds_toArray]
  rfl
theorem set_node (n : Pl.Nd) (hv : List Bool) (u : Bool) (m : Pl.Nd) : ((((((Pl.Sg.cs ⟨u, m, hv⟩).toArray.setIfInBounds 0 (.bool true)).setIfInBounds 1 (.string n.path)).setIfInBounds 2 (.int .i64 n.kind)).setIfInBounds 3 (.string n.data)).setIfInBounds 4 (.int .i64 n.time)).setIfInBounds 5 (.int .i64 n.mark) = (Pl.Sg.cs ⟨true, n, hv⟩).toArray := by
  simp only [List.setIfInBounds_toArray]
  rfl
theorem grown_same (w : World) (b : Nat) : w.grownBy w (some b) := ⟨rfl, rfl, rfl, Nat.le_refl _, fun _ _ _ => rfl⟩
theorem grown_set {w v : World} {g : Nat} (h : w.grownBy v (some g)) (o : Nat) (x : Value) : w.grownBy (v.setCell ⟨g, o, none⟩ x) (some g) :=
  ⟨h.os, h.tape, h.output, Nat.le_trans h.size (by simp [World.setCell]), fun j hj hne => (Below.heap_setCell _ _ _ _ (by intro e; exact hne (by rw [e]))).trans (h.block j hj hne)⟩
theorem grown_alloc {w w' : World} {b : Nat} (h : w.grownBy w' (some b)) (o : Obj) : w.grownBy (w'.alloc o) (some b) :=
  Mem.grown_trans h (Mem.grown_of_below ((Below.refl _ _).alloc (Nat.le_refl _) o) (some b))
set_option linter.unusedSimpArgs false in
set_option maxRecDepth 100000 in
set_option maxHeartbeats 2000000 in
theorem take_any (b k : Nat) (s : Pl.Sg) (n : Pl.Nd) (w : World) (hk : k < 4) (hh : s.have'.length = 4) (hb : Mem.Blk w b s.cs.toArray 87) :
    Calls Tryz.prog 129 #[.pointer (some ⟨b, 0, none⟩), .int .i64 k, n.val] w fun e w' => e = .returned (.bool (Pl.stopB n)) ∧ Mem.Blk w' b (Pl.takeS s k n).cs.toArray 87 ∧ w.grownBy w' (some b) := by
  obtain ⟨told, ⟨sp, sk, sd, st, sm⟩, hv⟩ := s
  obtain ⟨np, nk, nd, nt, nm⟩ := n
  obtain ⟨h0, h1, h2, h3, rfl⟩ : ∃ h0 h1 h2 h3, hv = [h0, h1, h2, h3] := by
    match hv, hh with
    | [a, b, c, d], _ => exact ⟨a, b, c, d, rfl⟩
  have hix : 0 ≤ (k : Int) ∧ (k : Int) < 4 := by omega
  simp only [Pl.Nd.val]
  have hbl := hb.lt
  have V := hb.alloc (.cells #[.string np, .int .i64 nk, .string nd, .int .i64 nt, .int .i64 nm] 34)
  have N := Mem.Blk.new w #[.string np, .int .i64 nk, .string nd, .int .i64 nt, .int .i64 nm] 34
  have c0 := hb.cell 0
  have c1 := hb.cell 1
  have c2 := hb.cell 2
  have c3 := hb.cell 3
  have c4 := hb.cell 4
  have c5 := hb.cell 5
  have f0 := hb.fr 0
  have f1 := hb.fr 1
  have f2 := hb.fr 2
  have f3 := hb.fr 3
  have f4 := hb.fr 4
  have f5 := hb.fr 5
  have fk := hb.fr (6 + k)
  obtain ⟨x, ck⟩ : ∃ x, w.cell? ⟨b, 6 + k, none⟩ = some (.bool x) := by
    rw [hb.cell (6 + k)]
    obtain rfl | rfl | rfl | rfl : k = 0 ∨ k = 1 ∨ k = 2 ∨ k = 3 := by omega
    all_goals exact ⟨_, rfl⟩
  simp only [Pl.Sg.cs, List.map_cons, List.map_nil, List.cons_append, List.nil_append, List.getElem?_toArray, List.getElem?_cons_zero, List.getElem?_cons_succ] at c0 c1 c2 c3 c4 c5
  have hN : ∀ (t : Bool) (x : Bool) (M : Int), Mem.Blk (((w.setCell ⟨b, 5, none⟩ (.int .i64 M)).setCell ⟨b, 6 + k, none⟩ (.bool x)).alloc (.cells #[.string np, .int .i64 nk, .string nd, .int .i64 nt, .int .i64 nm] 34)).drew.drew b (Pl.Sg.cs ⟨told, ⟨sp, sk, sd, st, M⟩, [h0, h1, h2, h3].set k x⟩).toArray 87 ∧ w.grownBy (((w.setCell ⟨b, 5, none⟩ (.int .i64 M)).setCell ⟨b, 6 + k, none⟩ (.bool x)).alloc (.cells #[.string np, .int .i64 nk, .string nd, .int .i64 nt, .int .i64 nm] 34)).drew.drew (some b) := by
    intro t x M
    have h1 := ((hb.put 5 (.int .i64 M)).put (6 + k) (.bool x)).alloc (.cells #[.string np, .int .i64 nk, .string nd, .int .i64 nt, .int .i64 nm] 34)
    rw [set_mark, set_have] at h1
    have h2 := grown_alloc (grown_set (grown_set (grown_same w b) 5 (.int .i64 M)) (6 + k) (.bool x)) (.cells #[.string np, .int .i64 nk, .string nd, .int .i64 nt, .int .i64 nm] 34)
    exact ⟨h1, ⟨h2.os, h2.tape, h2.output, h2.size, h2.block⟩⟩
  cases told
  · clear hN
    have V2 : Mem.Blk (((((((((w.setCell ⟨b, 0, none⟩ (.bool true)).setCell ⟨b, 1, none⟩ (.string np)).setCell ⟨b, 2, none⟩ (.int .i64 nk)).setCell ⟨b, 3, none⟩ (.string nd)).setCell ⟨b, 4, none⟩ (.int .i64 nt)).setCell ⟨b, 5, none⟩ (.int .i64 nm)).alloc (.cells #[.string np, .int .i64 nk, .string nd, .int .i64 nt, .int .i64 nm] 34))).drew) b (Pl.Sg.cs ⟨true, ⟨np, nk, nd, nt, nm⟩, [h0, h1, h2, h3]⟩).toArray 87 := by
      have h := ((((((hb.put 0 (.bool true)).put 1 (.string np)).put 2 (.int .i64 nk)).put 3 (.string nd)).put 4 (.int .i64 nt)).put 5 (.int .i64 nm)).alloc (.cells #[.string np, .int .i64 nk, .string nd, .int .i64 nt, .int .i64 nm] 34)
      rw [set_node ⟨np, nk, nd, nt, nm⟩] at h
      exact h
    have hsz : (((((((((w.setCell ⟨b, 0, none⟩ (.bool true)).setCell ⟨b, 1, none⟩ (.string np)).setCell ⟨b, 2, none⟩ (.int .i64 nk)).setCell ⟨b, 3, none⟩ (.string nd)).setCell ⟨b, 4, none⟩ (.int .i64 nt)).setCell ⟨b, 5, none⟩ (.int .i64 nm)).alloc (.cells #[.string np, .int .i64 nk, .string nd, .int .i64 nt, .int .i64 nm] 34))).drew).heap.size = w.heap.size + 1 := by simp
    have N2 : Mem.Blk (((((((((w.setCell ⟨b, 0, none⟩ (.bool true)).setCell ⟨b, 1, none⟩ (.string np)).setCell ⟨b, 2, none⟩ (.int .i64 nk)).setCell ⟨b, 3, none⟩ (.string nd)).setCell ⟨b, 4, none⟩ (.int .i64 nt)).setCell ⟨b, 5, none⟩ (.int .i64 nm)).alloc (.cells #[.string np, .int .i64 nk, .string nd, .int .i64 nt, .int .i64 nm] 34))).drew) w.heap.size #[.string np, .int .i64 nk, .string nd, .int .i64 nt, .int .i64 nm] 34 := by
      have h := Mem.Blk.new ((((((w.setCell ⟨b, 0, none⟩ (.bool true)).setCell ⟨b, 1, none⟩ (.string np)).setCell ⟨b, 2, none⟩ (.int .i64 nk)).setCell ⟨b, 3, none⟩ (.string nd)).setCell ⟨b, 4, none⟩ (.int .i64 nt)).setCell ⟨b, 5, none⟩ (.int .i64 nm)) #[.string np, .int .i64 nk, .string nd, .int .i64 nt, .int .i64 nm] 34
      simp only [World.size_setCell] at h
      exact h
    have G2 : w.grownBy (((((((((w.setCell ⟨b, 0, none⟩ (.bool true)).setCell ⟨b, 1, none⟩ (.string np)).setCell ⟨b, 2, none⟩ (.int .i64 nk)).setCell ⟨b, 3, none⟩ (.string nd)).setCell ⟨b, 4, none⟩ (.int .i64 nt)).setCell ⟨b, 5, none⟩ (.int .i64 nm)).alloc (.cells #[.string np, .int .i64 nk, .string nd, .int .i64 nt, .int .i64 nm] 34))).drew) (some b) := by
      have h := grown_alloc (grown_set (grown_set (grown_set (grown_set (grown_set (grown_set (grown_same w b) 0 (.bool true)) 1 (.string np)) 2 (.int .i64 nk)) 3 (.string nd)) 4 (.int .i64 nt)) 5 (.int .i64 nm)) (.cells #[.string np, .int .i64 nk, .string nd, .int .i64 nt, .int .i64 nm] 34)
      exact ⟨h.os, h.tape, h.output, h.size, h.block⟩
    have hM : max nm nm = nm := by omega
    have hmx : ¬ nm < nm := by omega
    go_enter Tryz.func129, Tryz.ntmps129
    go_wp2
    go_region
    go_wp2
    generalize (((((((((w.setCell ⟨b, 0, none⟩ (.bool true)).setCell ⟨b, 1, none⟩ (.string np)).setCell ⟨b, 2, none⟩ (.int .i64 nk)).setCell ⟨b, 3, none⟩ (.string nd)).setCell ⟨b, 4, none⟩ (.int .i64 nt)).setCell ⟨b, 5, none⟩ (.int .i64 nm)).alloc (.cells #[.string np, .int .i64 nk, .string nd, .int .i64 nt, .int .i64 nm] 34))).drew) = w2 at V2 N2 G2 hsz ⊢
    have HN : Hid (∀ x : Bool, Mem.Blk ((w2.setCell ⟨b, 5, none⟩ (.int .i64 nm)).setCell ⟨b, 6 + k, none⟩ (.bool x)).drew.drew b (Pl.Sg.cs ⟨true, ⟨np, nk, nd, nt, nm⟩, [h0, h1, h2, h3].set k x⟩).toArray 87 ∧ w.grownBy ((w2.setCell ⟨b, 5, none⟩ (.int .i64 nm)).setCell ⟨b, 6 + k, none⟩ (.bool x)).drew.drew (some b)) := by
      intro x
      have h1 := (V2.put 5 (.int .i64 nm)).put (6 + k) (.bool x)
      rw [set_mark, set_have] at h1
      have h2 := grown_set (grown_set G2 5 (.int .i64 nm)) (6 + k) (.bool x)
      exact ⟨h1, ⟨h2.os, h2.tape, h2.output, h2.size, h2.block⟩⟩
    have c5 := V2.cell 5
    have f5 := V2.fr 5
    have fk := V2.fr (6 + k)
    have n1 := N2.cell 1
    have n4 := N2.cell 4
    obtain ⟨x, ck⟩ : ∃ x, w2.cell? ⟨b, 6 + k, none⟩ = some (.bool x) := by
      rw [V2.cell (6 + k)]
      obtain rfl | rfl | rfl | rfl : k = 0 ∨ k = 1 ∨ k = 2 ∨ k = 3 := by omega
      all_goals exact ⟨_, rfl⟩
    simp only [Pl.Sg.cs, List.map_cons, List.map_nil, List.cons_append, List.nil_append, List.getElem?_toArray, List.getElem?_cons_zero, List.getElem?_cons_succ] at c5 n1 n4
    clear V2 N2 G2 hb V N c0 c1 c2 c3 c4
    have hne : ¬ w.heap.size = b := by omega
    by_cases hn : nk = 1
    · subst hn
      go_region
      go_wp2
      go_region
      go_wp2
      go_ret
      exact ⟨by simp [Pl.stopB], by simp only [Pl.takeS, Pl.markMax, Bool.false_eq_true, if_false, hM, decide_true]; exact (unhide HN true).1, (unhide HN true).2⟩
    · have t1 : (nk == 1) = false := by simpa using hn
      have t2 : (nk != 1) = true := by simpa using hn
      have t3 : decide (nk = 1) = false := by simpa using hn
      go_region
      go_wp2
      go_region
      go_wp2
      go_ret
      exact ⟨by simp [Pl.stopB, hn], by simp only [Pl.takeS, Pl.markMax, Bool.false_eq_true, if_false, hM, t3]; exact (unhide HN false).1, (unhide HN false).2⟩
  · have HN := hide hN
    clear hN V N hb
    by_cases hmx : sm < nm
    · have hM : max sm nm = nm := by omega
      by_cases hn : nk = 1
      · subst hn
        go_enter Tryz.func129, Tryz.ntmps129
        go_wp2
        go_region
        go_wp2
        go_region
        go_wp2
        go_ret
        exact ⟨by simp [Pl.stopB], by simp only [Pl.takeS, Pl.markMax, if_true, hM, decide_true]; exact (unhide HN true true nm).1, (unhide HN true true nm).2⟩
      · have t1 : (nk == 1) = false := by simpa using hn
        have t2 : (nk != 1) = true := by simpa using hn
        have t3 : decide (nk = 1) = false := by simpa using hn
        go_enter Tryz.func129, Tryz.ntmps129
        go_wp2
        go_region
        go_wp2
        go_region
        go_wp2
        go_ret
        exact ⟨by simp [Pl.stopB, hn], by simp only [Pl.takeS, Pl.markMax, if_true, hM, t3]; exact (unhide HN true false nm).1, (unhide HN true false nm).2⟩
    · have hM : max sm nm = sm := by omega
      by_cases hn : nk = 1
      · subst hn
        go_enter Tryz.func129, Tryz.ntmps129
        go_wp2
        go_region
        go_wp2
        go_region
        go_wp2
        go_ret
        exact ⟨by simp [Pl.stopB], by simp only [Pl.takeS, Pl.markMax, if_true, hM, decide_true]; exact (unhide HN true true sm).1, (unhide HN true true sm).2⟩
      · have t1 : (nk == 1) = false := by simpa using hn
        have t2 : (nk != 1) = true := by simpa using hn
        have t3 : decide (nk = 1) = false := by simpa using hn
        go_enter Tryz.func129, Tryz.ntmps129
        go_wp2
        go_region
        go_wp2
        go_region
        go_wp2
        go_ret
        exact ⟨by simp [Pl.stopB, hn], by simp only [Pl.takeS, Pl.markMax, if_true, hM, t3]; exact (unhide HN true false sm).1, (unhide HN true false sm).2⟩
end WSight
end Go.Proofs.YteddcihodfkliaaGreatDoor

/- The walks of levelUp and (nodeMap).at. -/
namespace Go.Proofs.YteddcihodfkliaaGreatDoor
open Go.RowKit Go.Maps
namespace WSight
set_option linter.unusedSimpArgs false in
set_option maxRecDepth 100000 in
set_option maxHeartbeats 2000000 in
theorem up_any (s : Pl.Sg) (w : World) (hh : s.have'.length = 4) (hm : 0 ≤ s.node.mark ∧ s.node.mark ≤ 1000) :
    Calls Tryz.prog 130 #[.agg s.cs.toArray] w fun e w' => e = .returned (.agg (Pl.upS s).cs.toArray) ∧ Below w.heap.size w w' := by
  obtain ⟨told, ⟨sp, sk, sd, st, sm⟩, hv⟩ := s
  obtain ⟨h0, h1, h2, h3, rfl⟩ : ∃ h0 h1 h2 h3, hv = [h0, h1, h2, h3] := by
    match hv, hh with
    | [a, b, c, d], _ => exact ⟨a, b, c, d, rfl⟩
  simp only at hm
  have hw : IntKind.i64.wrap (sm - 1) = sm - 1 := by simp only [IntKind.wrap_i64]; omega
  generalize hU : Pl.upS ⟨told, ⟨sp, sk, sd, st, sm⟩, [h0, h1, h2, h3]⟩ = U
  simp only [Pl.upS] at hU
  rw [show (Pl.Sg.cs ⟨told, ⟨sp, sk, sd, st, sm⟩, [h0, h1, h2, h3]⟩).toArray = #[.bool told, .string sp, .int .i64 sk, .string sd, .int .i64 st, .int .i64 sm, .bool h0, .bool h1, .bool h2, .bool h3] from rfl]
  by_cases h5 : sm - 1 < 0
  · have hM : max (sm - 1) 0 = 0 := by omega
    rw [hM] at hU
    by_cases hk : sk = 0
    · subst hk
      rw [if_pos ⟨rfl, rfl⟩] at hU
      have EU := hide hU.symm
      clear hU
      go_enter Tryz.func130, Tryz.ntmps130
      go_wp2
      refine bodyPost_ret (v := .agg #[.bool false, .string ⟨#[]⟩, .int .i64 0, .string ⟨#[]⟩, .int .i64 0, .int .i64 0, .bool false, .bool false, .bool false, .bool false]) (by simp [results, Tryz.results130, go_sem]) rfl ⟨by rw [unhide EU]; rfl, ?_⟩
      repeat first | exact Below.refl _ _ | refine Below.setCell ?_ (by simp) _ | refine Below.alloc ?_ (by simp) _
    · have t1 : (sk == 0) = false := by simpa using hk
      rw [if_neg (fun h => hk h.1)] at hU
      have EU := hide hU.symm
      clear hU
      go_enter Tryz.func130, Tryz.ntmps130
      go_wp2
      refine bodyPost_ret (v := .agg #[.bool told, .string sp, .int .i64 sk, .string sd, .int .i64 st, .int .i64 (0), .bool h0, .bool h1, .bool h2, .bool h3]) (by simp [results, Tryz.results130, go_sem]) rfl ⟨by rw [unhide EU]; rfl, ?_⟩
      repeat first | exact Below.refl _ _ | refine Below.setCell ?_ (by simp) _ | refine Below.alloc ?_ (by simp) _
  · have hM : max (sm - 1) 0 = sm - 1 := by omega
    rw [hM] at hU
    by_cases hk : sk = 0
    · subst hk
      by_cases h6 : sm = 1
      · subst h6
        rw [if_pos ⟨rfl, by omega⟩] at hU
        have EU := hide hU.symm
        clear hU
        go_enter Tryz.func130, Tryz.ntmps130
        go_wp2
        refine bodyPost_ret (v := .agg #[.bool false, .string ⟨#[]⟩, .int .i64 0, .string ⟨#[]⟩, .int .i64 0, .int .i64 0, .bool false, .bool false, .bool false, .bool false]) (by simp [results, Tryz.results130, go_sem]) rfl ⟨by rw [unhide EU]; rfl, ?_⟩
        repeat first | exact Below.refl _ _ | refine Below.setCell ?_ (by simp) _ | refine Below.alloc ?_ (by simp) _
      · have t2 : (sm - 1 == 0) = false := by simp; omega
        rw [if_neg (fun h => by omega)] at hU
        have EU := hide hU.symm
        clear hU
        go_enter Tryz.func130, Tryz.ntmps130
        go_wp2
        refine bodyPost_ret (v := .agg #[.bool told, .string sp, .int .i64 0, .string sd, .int .i64 st, .int .i64 (sm - 1), .bool h0, .bool h1, .bool h2, .bool h3]) (by simp [results, Tryz.results130, go_sem]) rfl ⟨by rw [unhide EU]; rfl, ?_⟩
        repeat first | exact Below.refl _ _ | refine Below.setCell ?_ (by simp) _ | refine Below.alloc ?_ (by simp) _
    · have t1 : (sk == 0) = false := by simpa using hk
      rw [if_neg (fun h => hk h.1)] at hU
      have EU := hide hU.symm
      clear hU
      go_enter Tryz.func130, Tryz.ntmps130
      go_wp2
      refine bodyPost_ret (v := .agg #[.bool told, .string sp, .int .i64 sk, .string sd, .int .i64 st, .int .i64 (sm - 1), .bool h0, .bool h1, .bool h2, .bool h3]) (by simp [results, Tryz.results130, go_sem]) rfl ⟨by rw [unhide EU]; rfl, ?_⟩
      repeat first | exact Below.refl _ _ | refine Below.setCell ?_ (by simp) _ | refine Below.alloc ?_ (by simp) _
set_option linter.unusedSimpArgs false in
set_option maxRecDepth 100000 in
set_option maxHeartbeats 2000000 in
theorem at_some (B N : Nat) (D : DataW Unit) (p : ByteArray) (m : Pl.Nd) (w : World) (hp : p.size ≤ 1048576) (hown : w.ownsMap Tryz.prog 9 MapN.elem B N D) (h1 : D.atKey (MapN.key p) (MapN.dat ⟨⟨#[]⟩, 0, ⟨#[]⟩, 0, 0⟩) = MapN.dat m) (t : Bool) (h2 : Maps.has D (MapN.key p) = t) :
    Calls Tryz.prog 187 #[.map (some B), .string p] w fun e w' => e = .returned (.tuple #[m.val, .bool t]) ∧ Below w.heap.size w w' := by
  have hkey := MapN.keyOf_mk (p := p) (by unfold maxLen; omega)
  have HM := hide (WNodesI.map_call hown ((Below.refl _ _).alloc (Nat.le_refl _) (.cells #[.string ⟨#[]⟩, .int .i64 0, .string ⟨#[]⟩, .int .i64 0, .int .i64 0] 34)))
  have ha := hide h1
  have ha2 := hide h2
  clear h1 h2 hown
  obtain ⟨mp, mk, md, mt, mm⟩ := m
  go_enter Tryz.func187, Tryz.ntmps187
  go_wp2_with (at_lookup; refine MapN.look_ok _ rfl _ _ 71 rfl 9 34 MapN.law Tryz.underlying71 (MapN.zeroN _) B N D rfl (unhide HM) _ _ rfl hkey ⟨mp, mk, md, mt, mm⟩ (unhide ha) t (unhide ha2) ?_)
  refine bodyPost_ret (v := .tuple #[.agg #[.string mp, .int .i64 mk, .string md, .int .i64 mt, .int .i64 mm], .bool t]) (by simp [results, Tryz.results187, go_sem]) rfl ⟨rfl, ?_⟩
  repeat first | exact Below.refl _ _ | refine Below.setCell ?_ (by simp) _ | refine Below.alloc ?_ (by simp) _
end WSight
end Go.Proofs.YteddcihodfkliaaGreatDoor

/- The walks of rootSight and decider. -/
namespace Go.Proofs.YteddcihodfkliaaGreatDoor
open Go.RowKit
namespace Pl
/-- Who has a part in the root: all, of so many. -/
def partsR (n : Nat) : List Bool := [decide (0 < n), decide (1 < n), decide (2 < n), decide (3 < n)]
def rootS (n : Nat) : Sg := ⟨false, zeroN, partsR n⟩
theorem parts_set {k : Nat} (h : k < 4) : (partsR k).set k true = partsR (k + 1) := by
  obtain rfl | rfl | rfl | rfl : k = 0 ∨ k = 1 ∨ k = 2 ∨ k = 3 := by omega
  all_goals rfl
end Pl
namespace WSight
set_option maxRecDepth 100000 in
theorem dec_make (a : Option Addr) (n cap : Nat) (w : World) : Calls Tryz.prog 92 #[.slice a n cap] w fun e w' => e = .returned (.func (.func 128) #[] #[.pointer (some ⟨w.heap.size, 0, none⟩)]) ∧ w' = w.alloc (.cells #[.slice a n cap] 64) := by
  have hmf : ∀ (fn : Fn) (first cap : Array Value) (w : World), (Instr.makeFunc fn first cap).run Tryz.prog w = .ok (.func fn first cap) w := fun _ _ _ _ => rfl
  go_enter Tryz.func92, Tryz.ntmps92
  go_wp2
  go_ret
  exact ⟨rfl, rfl⟩
set_option linter.unusedSimpArgs false in
set_option maxRecDepth 100000 in
set_option maxHeartbeats 2000000 in
theorem root_any (a : Option Addr) (n cap : Nat) (w : World) (hn : n ≤ 4) :
    Calls Tryz.prog 93 #[.slice a n cap] w fun e w' => e = .returned (.agg (Pl.rootS n).cs.toArray) ∧ Below w.heap.size w w' := by
  have b0 : Below w.heap.size w ((w.alloc (.cells Pl.Sg.zero.cs.toArray 87)).alloc (.cells Pl.Sg.zero.cs.toArray 87)) := ((Below.refl _ _).alloc (Nat.le_refl _) _).alloc (by simp) _
  have A0 : Hid (Below w.heap.size w ((w.alloc (.cells Pl.Sg.zero.cs.toArray 87)).alloc (.cells Pl.Sg.zero.cs.toArray 87)) ∧ Mem.Blk ((w.alloc (.cells Pl.Sg.zero.cs.toArray 87)).alloc (.cells Pl.Sg.zero.cs.toArray 87)) w.heap.size Pl.Sg.zero.cs.toArray 87 ∧ Mem.Blk ((w.alloc (.cells Pl.Sg.zero.cs.toArray 87)).alloc (.cells Pl.Sg.zero.cs.toArray 87)) (w.heap.size + 1) (Pl.rootS 0).cs.toArray 87) := ⟨b0, (Mem.Blk.new _ _ _).alloc _, Mem.new_two _ _ _⟩
  simp only [Pl.Sg.zero, Pl.zeroN, Pl.Sg.cs, List.map_cons, List.map_nil, List.cons_append, List.nil_append] at A0
  have hR : w.heap.size ≤ w.heap.size := Nat.le_refl _
  clear b0
  go_enter Tryz.func93, Tryz.ntmps93
  go_wp2
  go_loopw [7] (fun i wr => ∃ k : Nat, k ≤ n ∧ i = .int .i64 (k : Int) ∧ Hid (Below w.heap.size w wr ∧ Mem.Blk wr w.heap.size Pl.Sg.zero.cs.toArray 87 ∧ Mem.Blk wr (w.heap.size + 1) (Pl.rootS k).cs.toArray 87)) (fun i _ => n - (intOf i).toNat)
  case atStart => exact ⟨0, Nat.zero_le _, rfl, A0⟩
  case round =>
    obtain ⟨k, hk, rfl, HA⟩ := hrel
    clear A0
    by_cases hlt : k < n
    · have y1 : (k : Int) < (n : Int) := by omega
      have hix : 0 ≤ (k : Int) ∧ (k : Int) < 4 := by omega
      have fk := (unhide HA).2.2.fr (6 + k)
      obtain ⟨x, ck⟩ : ∃ x, wr.cell? ⟨w.heap.size + 1, 6 + k, none⟩ = some (.bool x) := by
        rw [(unhide HA).2.2.cell (6 + k)]
        obtain rfl | rfl | rfl | rfl : k = 0 ∨ k = 1 ∨ k = 2 ∨ k = 3 := by omega
        all_goals exact ⟨_, rfl⟩
      have A2 : Hid (Below w.heap.size w (wr.setCell ⟨w.heap.size + 1, 6 + k, none⟩ (.bool true)) ∧ Mem.Blk (wr.setCell ⟨w.heap.size + 1, 6 + k, none⟩ (.bool true)) w.heap.size Pl.Sg.zero.cs.toArray 87 ∧ Mem.Blk (wr.setCell ⟨w.heap.size + 1, 6 + k, none⟩ (.bool true)) (w.heap.size + 1) (Pl.rootS (k + 1)).cs.toArray 87) := by
        refine ⟨(unhide HA).1.setCell (by show w.heap.size ≤ w.heap.size + 1; omega) _, (unhide HA).2.1.far _ _ (by show w.heap.size ≠ w.heap.size + 1; omega), ?_⟩
        have h := (unhide HA).2.2.put (6 + k) (.bool true)
        unfold Pl.rootS at h
        rw [set_have, Pl.parts_set (by omega)] at h
        exact h
      clear HA
      go_wp2
      go_roundw
      case rel => exact ⟨k + 1, by omega, by go_num, A2⟩
      case measure => simp [intOf]; omega
    · obtain rfl : k = n := by omega
      have y1 : ¬ ((k : Int) < (k : Int)) := by omega
      have R1 := (unhide HA).2.1
      have S1 := (unhide HA).2.2
      have BU := (unhide HA).1
      have ER : Hid (Pl.rootS k = ⟨false, Pl.zeroN, [decide (0 < k), decide (1 < k), decide (2 < k), decide (3 < k)]⟩) := rfl
      generalize decide (0 < k) = g0 at ER
      generalize decide (1 < k) = g1 at ER
      generalize decide (2 < k) = g2 at ER
      generalize decide (3 < k) = g3 at ER
      rw [unhide ER] at S1
      have c0 := R1.cell 0
      have f0 := R1.fr 0
      have d0 := S1.cell 0
      have c1 := R1.cell 1
      have f1 := R1.fr 1
      have d1 := S1.cell 1
      have c2 := R1.cell 2
      have f2 := R1.fr 2
      have d2 := S1.cell 2
      have c3 := R1.cell 3
      have f3 := R1.fr 3
      have d3 := S1.cell 3
      have c4 := R1.cell 4
      have f4 := R1.fr 4
      have d4 := S1.cell 4
      have c5 := R1.cell 5
      have f5 := R1.fr 5
      have d5 := S1.cell 5
      have c6 := R1.cell 6
      have f6 := R1.fr 6
      have d6 := S1.cell 6
      have c7 := R1.cell 7
      have f7 := R1.fr 7
      have d7 := S1.cell 7
      have c8 := R1.cell 8
      have f8 := R1.fr 8
      have d8 := S1.cell 8
      have c9 := R1.cell 9
      have f9 := R1.fr 9
      have d9 := S1.cell 9
      simp only [Pl.Sg.zero, Pl.zeroN, Pl.Sg.cs, List.map_cons, List.map_nil, List.cons_append, List.nil_append, List.getElem?_toArray, List.getElem?_cons_zero, List.getElem?_cons_succ] at c0 c1 c2 c3 c4 c5 c6 c7 c8 c9 d0 d1 d2 d3 d4 d5 d6 d7 d8 d9
      clear R1 S1 HA
      go_wp2
      refine bodyPost_ret (v := .agg #[.bool false, .string ⟨#[]⟩, .int .i64 0, .string ⟨#[]⟩, .int .i64 0, .int .i64 0, .bool g0, .bool g1, .bool g2, .bool g3]) (by simp [results, Tryz.results93, go_sem, c0, c1, c2, c3, c4, c5, c6, c7, c8, c9]) rfl ⟨by rw [unhide ER]; rfl, ?_⟩
      exact ((((((((((BU.setCell (p := ⟨w.heap.size, 0, none⟩) hR _).setCell (p := ⟨w.heap.size, 1, none⟩) hR _).setCell (p := ⟨w.heap.size, 2, none⟩) hR _).setCell (p := ⟨w.heap.size, 3, none⟩) hR _).setCell (p := ⟨w.heap.size, 4, none⟩) hR _).setCell (p := ⟨w.heap.size, 5, none⟩) hR _).setCell (p := ⟨w.heap.size, 6, none⟩) hR _).setCell (p := ⟨w.heap.size, 7, none⟩) hR _).setCell (p := ⟨w.heap.size, 8, none⟩) hR _).setCell (p := ⟨w.heap.size, 9, none⟩) hR _)
end WSight
end Go.Proofs.YteddcihodfkliaaGreatDoor

