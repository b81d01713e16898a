/- The walk of the specification's TreeCut. -/
import Derived.Test.YtfjpbmacfcabaaiDoorWCutS
import Derived.Test.YtfjpbmacfcabaaiDoorWGetP
import Derived.Test.YtfjpbmacfcabaaiDoorWIll3
import Derived.Test.YtfjpbmacfcabaaiDoorPartA
namespace Go.Proofs.YtfjpbmacfcabaaiDoor
open Go.RowKit Go.Maps
namespace Pl
theorem get_ok {L : List Nd} {p : ByteArray} {a b : ByteArray} {k t m : Int} (h : getV L p = .agg #[.string a, .int .i64 k, .string b, .int .i64 t, .int .i64 m, .int .i64 0]) : treeB L = true ∧ pathB p = true ∧ ¬ 8000 < p.size := by
  by_cases h1 : 8000 < p.size
  · rw [get_long h1] at h; simp at h
  by_cases h2 : treeB L = false ∨ p.size = 0 ∨ pathB p = false
  · rw [get_form h1 h2] at h; simp at h
  · refine ⟨?_, ?_, h1⟩
    · cases h3 : treeB L
      · exact absurd (.inl h3) h2
      · rfl
    · cases h3 : pathB p
      · exact absurd (.inr (.inr h3)) h2
      · rfl
theorem tree_rise {L : List Nd} (h : treeB L = true) : L.Pairwise (fun a b => ltP a.path b.path = true) ∧ (∀ n ∈ L, pathB n.path = true ∧ n.data.size ≤ 1048576) ∧ L.length ≤ 40 := by
  have h0 := h
  simp only [treeB, Bool.and_eq_true, decide_eq_true_eq] at h
  have hn := goI_all L _ _ h.2
  have hr := (goI_rise L [] ⟨#[]⟩ h.2 (right_root rfl).1).1
  refine ⟨List.Pairwise.imp_of_mem (fun {a b} ha hb hab => ?_) hr, fun n hm => ⟨(node_right (hn n hm)).1, by have := (node_bounds (hn n hm)).1; omega⟩, h.1⟩
  rw [ltP_right (node_right (hn a ha)).1 (node_right (hn b hb)).1]; exact hab
theorem off_below {L : List Nd} {p : ByteArray} (hL : ∀ n ∈ L, pathB n.path = true) (hp : pathB p = true) : L.filter (fun n => !belowP n.path p && !decide (n.path = p)) = offL p L := by
  apply List.filter_congr
  intro n hn
  have hn' := hL n hn
  by_cases e : n.path = p
  · have : under n.path p = true := by rw [e]; exact under_same p
    rw [this, e]; simp
  · have hb : belowP n.path p = under n.path p := by
      rw [belowP, hn', hp, namesR_yes hn', namesR_yes hp, under_names]
      simp [e]
    rw [hb]; simp [e]
theorem off_len (p : ByteArray) (L : List Nd) : (offL p L).length ≤ L.length := List.length_filter_le _ _
def cutO (p : ByteArray) (L : List Nd) (c : Int) : List Nd := if c = 0 then offL p L else []
theorem cutO_len (p : ByteArray) (L : List Nd) (c : Int) : (cutO p L c).length ≤ L.length := by
  unfold cutO
  split
  · exact off_len p L
  · exact Nat.zero_le _
end Pl
namespace WCutF
set_option linter.unusedSimpArgs false in
set_option maxRecDepth 100000 in
set_option maxHeartbeats 2000000 in
theorem spec_any (a : Option Addr) (cap : Nat) (L : List Pl.Nd) (p : ByteArray) (n : Pl.Nd) (c : Int) (hV : Pl.getV L p = .agg #[.string n.path, .int .i64 n.kind, .string n.data, .int .i64 n.time, .int .i64 n.mark, .int .i64 c]) (w : World) (hl : L.length ≤ 1048576) (hv : Mem.isNodes w a L) (hok : ∀ n ∈ L, n.path.size ≤ 1048576 ∧ n.data.size ≤ 1048576) (hp : p.size ≤ 1048576) :
    Calls Tryd.prog 32 #[.agg #[.slice a L.length cap], .string p] w fun e w' => ∃ v, e = .returned (.agg #[v, .int .i64 c]) ∧ Mem.ownN w' w.heap.size v (Pl.cutO p L c) ∧ Below w.heap.size w w' := by
  have b0 : Below w.heap.size w ((w.alloc (.cells #[.slice a L.length cap] 29)).alloc (.cells #[.slice none 0 0, .int .i64 0] 48)) := ((Below.refl _ _).alloc (Nat.le_refl _) _).alloc (by simp) _
  have hg := hide (WGetT.spec_any a cap L p _ hl (Mem.nodes_call hv b0) hok hp)
  rw [hV] at hg
  have hc := hide (fun W (b : Below w.heap.size w W) => WCutS.l03_any a cap L p W hl (Mem.nodes_call hv b) hp)
  have V1 := (Mem.Blk.new w #[.slice a L.length cap] 29).alloc (.cells #[.slice none 0 0, .int .i64 0] 48)
  have V2 : Mem.Blk ((w.alloc (.cells #[.slice a L.length cap] 29)).alloc (.cells #[.slice none 0 0, .int .i64 0] 48)) (w.heap.size + 1) #[.slice none 0 0, .int .i64 0] 48 := Mem.new_two _ _ _
  clear hv hok hV
  by_cases h0 : c = 0
  · subst h0
    rw [show Pl.cutO p L 0 = Pl.offL p L from rfl]
    go_enter Tryd.func32, Tryd.ntmps32
    go_wp2_with fail
    refine (unhide hg).mono ?_
    rintro e w1 ⟨rfl, b1⟩
    have b2 := b0.trans (b1.mono b0.size)
    have b3 := b2.alloc b2.size (.cells #[.string n.path, .int .i64 n.kind, .string n.data, .int .i64 n.time, .int .i64 n.mark, .int .i64 0] 36)
    have V3 := (V2.call b1).alloc (.cells #[.string n.path, .int .i64 n.kind, .string n.data, .int .i64 n.time, .int .i64 n.mark, .int .i64 0] 36)
    have c0 := ((V1.call b1).alloc (.cells #[.string n.path, .int .i64 n.kind, .string n.data, .int .i64 n.time, .int .i64 n.mark, .int .i64 0] 36)).cell 0
    simp only [List.getElem?_toArray, List.getElem?_cons_zero] at c0
    have hs : w.heap.size + 1 < (w1.alloc (.cells #[.string n.path, .int .i64 n.kind, .string n.data, .int .i64 n.time, .int .i64 n.mark, .int .i64 0] 36)).heap.size := V3.lt
    clear hg b0 b1 V1 V2 b2
    go_wp2_with fail
    refine (unhide hc _ b3).mono ?_
    rintro e w3 ⟨v, rfl, own, b4⟩
    obtain ⟨a', cap', rfl⟩ := Mem.own_shape own
    have OW := hide own
    have b5 := b3.trans (b4.mono b3.size)
    have V4 := V3.call b4
    have d0 := V4.cell 0
    have d1 := V4.cell 1
    have f0 := V4.fr 0
    have f1 := V4.fr 1
    simp only [List.getElem?_toArray, List.getElem?_cons_zero, List.getElem?_cons_succ] at d0 d1
    have HS := hide hs
    clear b3 b4 V3 hc own c0 hs
    go_wp2
    refine bodyPost_ret (v := .agg #[.slice a' (Pl.offL p L).length cap', .int .i64 0]) (by simp [results, Tryd.results32, go_sem, d0, d1]) rfl ⟨_, rfl, ?_, ?_⟩
    · exact Mem.ownN_mono (Mem.ownN_set (Mem.ownN_set (unhide OW) _ _ (unhide HS)) _ _ (unhide HS)) (by have := unhide HS; omega)
    · exact (b5.setCell (by show w.heap.size ≤ w.heap.size + 1; omega) _).setCell (by show w.heap.size ≤ w.heap.size + 1; omega) _
  · have t0 : (c == 0) = false := by simpa using h0
    rw [show Pl.cutO p L c = [] by rw [Pl.cutO, if_neg h0]]
    clear hc h0
    go_enter Tryd.func32, Tryd.ntmps32
    go_wp2_with fail
    refine (unhide hg).mono ?_
    rintro e w1 ⟨rfl, b1⟩
    have b2 := b0.trans (b1.mono b0.size)
    have b3 := b2.alloc b2.size (.cells #[.string n.path, .int .i64 n.kind, .string n.data, .int .i64 n.time, .int .i64 n.mark, .int .i64 c] 36)
    have V3 := (V2.call b1).alloc (.cells #[.string n.path, .int .i64 n.kind, .string n.data, .int .i64 n.time, .int .i64 n.mark, .int .i64 c] 36)
    clear hg b0 b1 V1 V2 b2
    go_wp2_with fail
    refine (WIll3.ill_any c _).mono ?_
    rintro e w3 ⟨rfl, b4⟩
    have b5 := b3.trans (b4.mono b3.size)
    have V4 := V3.call b4
    have d0 := V4.cell 0
    have d1 := V4.cell 1
    have f0 := V4.fr 0
    have f1 := V4.fr 1
    simp only [List.getElem?_toArray, List.getElem?_cons_zero, List.getElem?_cons_succ] at d0 d1
    clear b3 b4 V3
    go_wp2
    refine bodyPost_ret (v := .agg #[.slice none 0 0, .int .i64 c]) (by simp [results, Tryd.results32, go_sem, d0, d1]) rfl ⟨_, rfl, Mem.ownN_nil _ _, ?_⟩
    exact (b5.setCell (by show w.heap.size ≤ w.heap.size + 1; omega) _).setCell (by show w.heap.size ≤ w.heap.size + 1; omega) _
end WCutF
end Go.Proofs.YtfjpbmacfcabaaiDoor
