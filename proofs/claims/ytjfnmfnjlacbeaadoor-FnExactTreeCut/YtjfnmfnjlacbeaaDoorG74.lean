/- Several texts of one claim in one file: WCodeA, WCutF. -/
import Derived.Test.YtjfnmfnjlacbeaaDoorG27
import Derived.Test.YtjfnmfnjlacbeaaDoorG73
import Derived.Test.YtjfnmfnjlacbeaaDoorWGetW
/- The code of any of the six errors, and of none. -/
namespace Go.Proofs.YtjfnmfnjlacbeaaDoor
open Go.RowKit
namespace WCutF
theorem code_any (x : Nat → Addr) (w : World) (h : WIs.Six w x) (i : Nat) (hi : i < 6) :
    Calls Tryd.prog 54 #[.iface 174 (.pointer (some (x i)))] w fun e w' => e = .returned (.int .i64 (WIs.codeOf i)) ∧ w' = w := by
  obtain rfl | rfl | rfl | rfl | rfl | rfl : i = 0 ∨ i = 1 ∨ i = 2 ∨ i = 3 ∨ i = 4 ∨ i = 5 := by omega
  · exact WIs.code0 x w h
  · exact WIs.code1 x w h
  · exact WIs.code2 x w h
  · exact WIs.code3 x w h
  · exact WIs.code4 x w h
  · exact WIs.code5 x w h
theorem code_pos (i : Nat) : WIs.codeOf i ≠ 0 := by
  unfold WIs.codeOf
  split <;> decide
set_option maxRecDepth 100000 in
theorem code_nil (w : World) : Calls Tryd.prog 54 #[.nilIface] w fun e w' => e = .returned (.int .i64 0) ∧ w' = w := by
  go_enter Tryd.func54, Tryd.ntmps54
  go_wp2
  go_ret
  exact ⟨rfl, rfl⟩
end WCutF
end Go.Proofs.YtjfnmfnjlacbeaaDoor

/- The walk of the program's TreeCut. -/
namespace Go.Proofs.YtjfnmfnjlacbeaaDoor
open Go.RowKit Go.Maps
namespace WCutF
set_option linter.unusedSimpArgs false in
set_option maxRecDepth 100000 in
set_option maxHeartbeats 2000000 in
theorem impl_any (a : Option Addr) (cap : Nat) (L : List Pl.Nd) (p : ByteArray) (n : Pl.Nd) (c : Int) (hV : Pl.getV L p = .agg #[.string n.path, .int .i64 n.kind, .string n.data, .int .i64 n.time, .int .i64 n.mark, .int .i64 c]) (w : World) (hl : L.length ≤ 1048576) (hv : Mem.isNodes w a L) (hok : ∀ n ∈ L, n.path.size ≤ 1048576 ∧ n.data.size ≤ 1048576) (hp : p.size ≤ 1048576) (x : Nat → Addr) (hE : WIs.Six w x) :
    Calls Tryd.prog 31 #[.agg #[.slice a L.length cap], .string p] w fun e w' => ∃ v, e = .returned (.agg #[v, .int .i64 c]) ∧ Mem.ownN w' w.heap.size v (Pl.cutO p L c) ∧ Below w.heap.size w w' := by
  have b0 : Below w.heap.size w ((w.alloc (.cells #[.slice a L.length cap] 36)).alloc (.cells #[.slice none 0 0, .int .i64 0] 53)) := ((Below.refl _ _).alloc (Nat.le_refl _) _).alloc (by simp) _
  have hs0 : ((w.alloc (.cells #[.slice a L.length cap] 36)).alloc (.cells #[.slice none 0 0, .int .i64 0] 53)).heap.size = w.heap.size + 2 := by simp
  have hw := hide (WGetT.with_any a cap L p _ hl (Mem.nodes_call hv b0) hok hp x (hE.call b0))
  have V2 : Mem.Blk ((w.alloc (.cells #[.slice a L.length cap] 36)).alloc (.cells #[.slice none 0 0, .int .i64 0] 53)) (w.heap.size + 1) #[.slice none 0 0, .int .i64 0] 53 := Mem.new_two _ _ _
  have HE := hide hE
  have HV := hide hV
  have EO : Hid (Pl.cutO p L c = if c = 0 then Pl.offL p L else []) := rfl
  generalize Pl.cutO p L c = O at EO ⊢
  clear hv hok hE hV
  go_enter Tryd.func31, Tryd.ntmps31
  go_wp2_with fail
  refine (unhide hw).mono ?_
  rintro e w1 ⟨⟨h1⟩, b1⟩
  have b2 := b0.trans (b1.mono b0.size)
  have HE1 := hide ((unhide HE).call b2)
  have V3 := V2.call b1
  clear hw b1 b0 V2 HE
  rcases h1 with ⟨i, hi, rfl, hg⟩ | ⟨B, m, rfl, hB, hown, hm1, hmp, hC, hg⟩
  · have hc : c = WIs.codeOf i := by
      have h := unhide HV
      rw [hg] at h
      simp at h
      exact h.2.2.2.2.2.symm
    have HC := hide hc
    have EN := hide (show O = [] by rw [unhide EO, if_neg (by rw [hc]; exact code_pos i)])
    have hcd := hide (code_any x w1 (unhide HE1) i (by omega))
    generalize WIs.codeOf i = c2 at hcd HC
    clear hg HV hi EO hc
    go_wp2_with fail
    refine (unhide hcd).mono ?_
    rintro e w2 ⟨rfl, rfl⟩
    have d0 := V3.cell 0
    have d1 := V3.cell 1
    have f0 := V3.fr 0
    have f1 := V3.fr 1
    simp only [kA0, kA1, kA2] at d0 d1
    clear V3 hcd
    go_wp2
    refine bodyPost_ret (v := .agg #[.slice none 0 0, .int .i64 c2]) (by simp [results, Tryd.results31, go_sem, d0, d1]) rfl ⟨.slice none 0 0, by rw [unhide HC], by rw [unhide EN]; exact Mem.ownN_nil _ _, ?_⟩
    exact (b2.setCell (by show w.heap.size ≤ w.heap.size + 1; omega) _).setCell (by show w.heap.size ≤ w.heap.size + 1; omega) _
  · have hc : c = 0 := by
      have h := unhide HV
      rw [hg] at h
      simp at h
      exact h.2.2.2.2.2.symm
    have HC := hide hc
    have EN := hide (show O = Pl.offL p L by rw [unhide EO, if_pos hc])
    obtain ⟨ht, hpb, -⟩ := Pl.get_ok hg
    obtain ⟨hr, hokn, h40⟩ := Pl.tree_rise ht
    have hcut := hide (WCutI.any B 40 L (MapN.mapOf L) p w1 hown (by omega) (MapN.reads_mapOf hC) hC hr hokn (by omega) hp)
    rw [Pl.off_below (fun n hn => (hokn n hn).1) hpb] at hcut
    have hris := hide (fun D' W (hO : W.ownsMap Tryd.prog 9 MapN.elem B 40 D') (hR : MapN.Reads D' (Pl.offL p L)) => WRising.any B 40 (Pl.offL p L) (Pl.offL p L) D' W hO (by omega) hR (hC.filter _) (List.Perm.refl _) (hr.filter _) (fun n hn => hokn n ((List.mem_filter.1 hn).1)))
    rw [hs0] at hB
    clear hg HV hm1 hmp hC hown ht hpb hr hokn h40 HE1 hs0 EO hc
    generalize Pl.offL p L = O2 at hcut hris EN
    go_wp2_with fail
    refine (unhide hcut).mono ?_
    rintro e w2 ⟨rfl, ⟨D', hO2, hR2⟩, hg2⟩
    have b3 := b2.grown hg2 b2.size (fun q hq => by cases hq; omega)
    have V4 := V3.grown hg2 (fun e => by cases e; omega)
    have HR2 := hide hR2
    have HO2 := hide hO2
    clear hcut V3 b2 hR2 hO2 hg2
    go_wp2_with fail
    refine (unhide hris D' _ (unhide HO2) (unhide HR2)).mono ?_
    rintro e w3 ⟨v, rfl, own, b4⟩
    obtain ⟨a', cap', rfl⟩ := Mem.own_shape own
    have b5 := b3.trans (b4.mono b3.size)
    have V5 := V4.call b4
    have HS : w.heap.size + 1 < w2.heap.size := V4.lt
    have OW := hide own
    have d0 := V5.cell 0
    have d1 := V5.cell 1
    have f0 := V5.fr 0
    have f1 := V5.fr 1
    simp only [kA0, kA1, kA2] at d0 d1
    clear hris HO2 HR2 V4 V5 own b3 b4
    go_wp2
    refine bodyPost_ret (v := .agg #[.slice a' O2.length cap', .int .i64 0]) (by simp [results, Tryd.results31, go_sem, d0, d1]) rfl ⟨.slice a' O2.length cap', by rw [unhide HC], ?_, ?_⟩
    · rw [unhide EN]
      exact Mem.ownN_mono (Mem.ownN_set (Mem.ownN_set (unhide OW) _ _ HS) _ _ HS) (by omega)
    · exact (b5.setCell (by show w.heap.size ≤ w.heap.size + 1; omega) _).setCell (by show w.heap.size ≤ w.heap.size + 1; omega) _
end WCutF
end Go.Proofs.YtjfnmfnjlacbeaaDoor

