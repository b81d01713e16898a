/- The walk of the specification's TreeCut. -/
import Derived.Test.YtmamahpeiajigaaGreatDoorPlainCut
import Derived.Test.YtmamahpeiajigaaGreatDoorWCutS
import Derived.Test.YtmamahpeiajigaaGreatDoorWGetP
import Derived.Test.YtmamahpeiajigaaGreatDoorWIll3
namespace Go.Proofs.YtmamahpeiajigaaGreatDoor
open Go.RowKit Go.Maps
namespace WCutF
set_option linter.unusedSimpArgs false in
set_option maxRecDepth 100000 in
set_option maxHeartbeats 2000000 in
theorem spec_any (a : Option Addr) (cap : Nat) (L : List Pl.Nd) (p : ByteArray) (n : Pl.Nd) (c : Int) (hV : Pl.getV L p = .agg #[.string n.path, .int .i64 n.kind, .string n.data, .int .i64 n.time, .int .i64 n.mark, .int .i64 c]) (w : World) (hl : L.length ≤ 1048576) (hv : Mem.isNodes w a L) (hok : ∀ n ∈ L, n.path.size ≤ 1048576 ∧ n.data.size ≤ 1048576) (hp : p.size ≤ 1048576) :
    Calls Tryz.prog 60 #[.agg #[.slice a L.length cap], .string p] w fun e w' => ∃ v, e = .returned (.agg #[v, .int .i64 c]) ∧ Mem.ownN w' w.heap.size v (Pl.cutO p L c) ∧ Below w.heap.size w w' := by
  have b0 : Below w.heap.size w ((w.alloc (.cells #[.slice a L.length cap] 29)).alloc (.cells #[.slice none 0 0, .int .i64 0] 31)) := ((Below.refl _ _).alloc (Nat.le_refl _) _).alloc (by simp) _
  have hg := hide (WGetT.spec_any a cap L p _ hl (Mem.nodes_call hv b0) hok hp)
  rw [hV] at hg
  have hc := hide (fun W (b : Below w.heap.size w W) => WCutS.l03_any a cap L p W hl (Mem.nodes_call hv b) hp)
  have V1 := (Mem.Blk.new w #[.slice a L.length cap] 29).alloc (.cells #[.slice none 0 0, .int .i64 0] 31)
  have V2 : Mem.Blk ((w.alloc (.cells #[.slice a L.length cap] 29)).alloc (.cells #[.slice none 0 0, .int .i64 0] 31)) (w.heap.size + 1) #[.slice none 0 0, .int .i64 0] 31 := Mem.new_two _ _ _
  clear hv hok hV
  by_cases h0 : c = 0
  · subst h0
    rw [show Pl.cutO p L 0 = Pl.offL p L from rfl]
    go_enter Tryz.func60, Tryz.ntmps60
    go_wp2_with fail
    refine (unhide hg).mono ?_
    rintro e w1 ⟨rfl, b1⟩
    have b2 := b0.trans (b1.mono b0.size)
    have b3 := b2.alloc b2.size (.cells #[.string n.path, .int .i64 n.kind, .string n.data, .int .i64 n.time, .int .i64 n.mark, .int .i64 0] 38)
    have V3 := (V2.call b1).alloc (.cells #[.string n.path, .int .i64 n.kind, .string n.data, .int .i64 n.time, .int .i64 n.mark, .int .i64 0] 38)
    have c0 := ((V1.call b1).alloc (.cells #[.string n.path, .int .i64 n.kind, .string n.data, .int .i64 n.time, .int .i64 n.mark, .int .i64 0] 38)).cell 0
    simp only [List.getElem?_toArray, List.getElem?_cons_zero] at c0
    have hs : w.heap.size + 1 < (w1.alloc (.cells #[.string n.path, .int .i64 n.kind, .string n.data, .int .i64 n.time, .int .i64 n.mark, .int .i64 0] 38)).heap.size := V3.lt
    clear hg b0 b1 V1 V2 b2
    go_wp2_with fail
    refine (unhide hc _ b3).mono ?_
    rintro e w3 ⟨v, rfl, own, b4⟩
    obtain ⟨a', cap', rfl⟩ := Mem.own_shape own
    have OW := hide own
    have b5 := b3.trans (b4.mono b3.size)
    have V4 := V3.call b4
    have d0 := V4.cell 0
    have d1 := V4.cell 1
    have f0 := V4.fr 0
    have f1 := V4.fr 1
    simp only [List.getElem?_toArray, List.getElem?_cons_zero, List.getElem?_cons_succ] at d0 d1
    have HS := hide hs
    clear b3 b4 V3 hc own c0 hs
    go_wp2
    refine bodyPost_ret (v := .agg #[.slice a' (Pl.offL p L).length cap', .int .i64 0]) (by simp [results, Tryz.results60, go_sem, d0, d1]) rfl ⟨_, rfl, ?_, ?_⟩
    · exact Mem.ownN_mono (Mem.ownN_set (Mem.ownN_set (unhide OW) _ _ (unhide HS)) _ _ (unhide HS)) (by have := unhide HS; omega)
    · exact (b5.setCell (by show w.heap.size ≤ w.heap.size + 1; omega) _).setCell (by show w.heap.size ≤ w.heap.size + 1; omega) _
  · have t0 : (c == 0) = false := by simpa using h0
    rw [show Pl.cutO p L c = [] by rw [Pl.cutO, if_neg h0]]
    clear hc h0
    go_enter Tryz.func60, Tryz.ntmps60
    go_wp2_with fail
    refine (unhide hg).mono ?_
    rintro e w1 ⟨rfl, b1⟩
    have b2 := b0.trans (b1.mono b0.size)
    have b3 := b2.alloc b2.size (.cells #[.string n.path, .int .i64 n.kind, .string n.data, .int .i64 n.time, .int .i64 n.mark, .int .i64 c] 38)
    have V3 := (V2.call b1).alloc (.cells #[.string n.path, .int .i64 n.kind, .string n.data, .int .i64 n.time, .int .i64 n.mark, .int .i64 c] 38)
    clear hg b0 b1 V1 V2 b2
    go_wp2_with fail
    refine (WIll3.ill_any c _).mono ?_
    rintro e w3 ⟨rfl, b4⟩
    have b5 := b3.trans (b4.mono b3.size)
    have V4 := V3.call b4
    have d0 := V4.cell 0
    have d1 := V4.cell 1
    have f0 := V4.fr 0
    have f1 := V4.fr 1
    simp only [List.getElem?_toArray, List.getElem?_cons_zero, List.getElem?_cons_succ] at d0 d1
    clear b3 b4 V3
    go_wp2
    refine bodyPost_ret (v := .agg #[.slice none 0 0, .int .i64 c]) (by simp [results, Tryz.results60, go_sem, d0, d1]) rfl ⟨_, rfl, Mem.ownN_nil _ _, ?_⟩
    exact (b5.setCell (by show w.heap.size ≤ w.heap.size + 1; omega) _).setCell (by show w.heap.size ≤ w.heap.size + 1; omega) _
end WCutF
end Go.Proofs.YtmamahpeiajigaaGreatDoor
