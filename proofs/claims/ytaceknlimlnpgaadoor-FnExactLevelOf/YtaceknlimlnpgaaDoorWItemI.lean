/- The walk of the program's treeItemOf. -/
import Derived.Test.YtaceknlimlnpgaaDoorWNodesJ
import Derived.Test.YtaceknlimlnpgaaDoorPartA
namespace Go.Proofs.YtaceknlimlnpgaaDoor
open Go.RowKit
namespace WNestI
set_option linter.unusedSimpArgs false in
set_option maxRecDepth 100000 in
set_option maxHeartbeats 1000000 in
theorem item_any (m : Int) (a : Option Addr) (cap : Nat) (L : List Pl.Nd) (w : World) (hl : L.length ≤ 1048576) (hv : Mem.isNodes w a L) (hok : ∀ n ∈ L, n.path.size ≤ 1048576 ∧ n.data.size ≤ 1048576)
    (r1 r2 r3 : TypeId) (x1 x2 x3 : Value) (hE : WNodesI.Errs w r1 r2 r3 x1 x2 x3) :
    Calls Tryd.prog 30 #[.agg #[.int .i64 m, .slice a L.length cap]] w fun e w' => ((Pl.itemB m L = true ∧ ∃ B, e = .returned (.tuple #[.agg #[.map (some B), .int .i64 m], .nilIface])) ∨
      (Pl.itemB m L = false ∧ ∃ k, e = .returned (.tuple #[.agg #[.map none, .int .i64 k], .iface r1 x1]))) ∧ Below w.heap.size w w' := by
  have b0 : Below w.heap.size w ((w.alloc (.cells #[.int .i64 m, .slice a L.length cap] 41)).alloc (.cells #[.map none, .int .i64 0] 47)) := ((Below.refl _ _).alloc (Nat.le_refl _) _).alloc (by simp) _
  have k1 := (hE.call b0).c1
  have HB0 := hide b0
  by_cases h1 : m < 0
  · have hb : Pl.itemB m L = false := by unfold Pl.itemB; rw [show decide (0 ≤ m) = false from decide_eq_false (by omega)]; simp
    clear b0 hv hok hE
    go_enter Tryd.func30, Tryd.ntmps30
    go_wp2
    go_region
    go_wp2
    refine bodyPost_ret (v := .tuple #[.agg #[.map none, .int .i64 0], .iface r1 x1]) (by simp [results, Tryd.results30, go_sem]) rfl ⟨.inr ⟨hb, 0, rfl⟩, ?_⟩
    exact Mem.below_drewN (unhide HB0) 1
  by_cases h2 : 4 < m
  · have hb : Pl.itemB m L = false := by unfold Pl.itemB; rw [show decide (m ≤ 4) = false from decide_eq_false (by omega)]; simp
    clear b0 hv hok hE
    go_enter Tryd.func30, Tryd.ntmps30
    go_wp2
    go_region
    go_wp2
    refine bodyPost_ret (v := .tuple #[.agg #[.map none, .int .i64 0], .iface r1 x1]) (by simp [results, Tryd.results30, go_sem]) rfl ⟨.inr ⟨hb, 0, rfl⟩, ?_⟩
    exact Mem.below_drewN (unhide HB0) 1
  by_cases h3 : 0 < m ∧ 0 < L.length
  · have hb : Pl.itemB m L = false := by
      rw [Pl.itemB_more (by omega), show decide (L.length = 0) = false from decide_eq_false (by omega)]; simp
    have u1 := h3.1
    have u2 : (0 : Int) < (L.length : Int) := by omega
    clear b0 hv hok hE
    go_enter Tryd.func30, Tryd.ntmps30
    go_wp2
    go_region
    go_wp2
    refine bodyPost_ret (v := .tuple #[.agg #[.map none, .int .i64 0], .iface r1 x1]) (by simp [results, Tryd.results30, go_sem]) rfl ⟨.inr ⟨hb, 0, rfl⟩, ?_⟩
    exact Mem.below_drewN (unhide HB0) 1
  have hb : Pl.itemB m L = Pl.treeB L := by
    by_cases h0 : m = 0
    · subst h0; exact Pl.itemB_zero L
    · have hL : L = [] := List.eq_nil_of_length_eq_zero (by omega)
      subst hL
      rw [Pl.itemB_more h0, Pl.treeB_nil, decide_eq_true (show 1 ≤ m by omega), decide_eq_true (show m ≤ 4 by omega)]; rfl
  rw [hb]
  have hz := hide (WNodesI.nodes_any a cap L _ hl (Mem.nodes_call hv b0) hok r1 r2 r3 x1 x2 x3 (hE.call b0))
  have r2' : Mem.Blk ((w.alloc (.cells #[.int .i64 m, .slice a L.length cap] 41)).alloc (.cells #[.map none, .int .i64 0] 47)) (w.heap.size + 1) #[.map none, .int .i64 0] 47 := by
    have := Mem.Blk.new (w.alloc (.cells #[.int .i64 m, .slice a L.length cap] 41)) #[.map none, .int .i64 0] 47
    simpa using this
  have r1' : Mem.Blk ((w.alloc (.cells #[.int .i64 m, .slice a L.length cap] 41)).alloc (.cells #[.map none, .int .i64 0] 47)) w.heap.size #[.int .i64 m, .slice a L.length cap] 41 := (Mem.Blk.new w _ _).alloc _
  clear hv hok hE k1 b0 hb
  by_cases h4 : 0 < m
  · have u2 : ¬ (0 : Int) < (L.length : Int) := by omega
    go_enter Tryd.func30, Tryd.ntmps30
    go_wp2_with fail
    generalize ((w.alloc (.cells #[.int .i64 m, .slice a L.length cap] 41)).alloc (.cells #[.map none, .int .i64 0] 47)) = w2 at hz r1' r2' HB0 ⊢
    refine (unhide hz).mono ?_
    rintro e w1 ⟨h1, b1⟩
    have R1 := r1'.call b1
    have R2 := r2'.call b1
    have c10 := R1.cell 0
    have c11 := R1.cell 1
    have c20 := R2.cell 0
    have c21 := R2.cell 1
    have f20 := R2.fr 0
    have f21 := R2.fr 1
    simp only [List.getElem?_toArray, List.getElem?_cons_zero, List.getElem?_cons_succ] at c10 c11 c20 c21
    have bb := hide ((unhide HB0).trans (b1.mono (unhide HB0).size))
    clear hz b1 r1' r2' R1 R2 HB0
    rcases h1 with ⟨hT, B, rfl, -, -⟩ | ⟨hT, rfl⟩
    · go_wp2
      refine bodyPost_ret (v := .tuple #[.agg #[.map (some B), .int .i64 m], .nilIface]) (by simp [results, Tryd.results30, go_sem, c20, c21]) rfl ⟨.inl ⟨hT, B, rfl⟩, ?_⟩
      exact ((unhide bb).setCell (by show w.heap.size ≤ w.heap.size + 1; omega) _).setCell (by show w.heap.size ≤ w.heap.size + 1; omega) _
    · go_wp2
      refine bodyPost_ret (v := .tuple #[.agg #[.map none, .int .i64 m], .iface r1 x1]) (by simp [results, Tryd.results30, go_sem, c20, c21]) rfl ⟨.inr ⟨hT, m, rfl⟩, ?_⟩
      exact ((unhide bb).setCell (by show w.heap.size ≤ w.heap.size + 1; omega) _).setCell (by show w.heap.size ≤ w.heap.size + 1; omega) _
  · go_enter Tryd.func30, Tryd.ntmps30
    go_wp2_with fail
    generalize ((w.alloc (.cells #[.int .i64 m, .slice a L.length cap] 41)).alloc (.cells #[.map none, .int .i64 0] 47)) = w2 at hz r1' r2' HB0 ⊢
    refine (unhide hz).mono ?_
    rintro e w1 ⟨h1, b1⟩
    have R1 := r1'.call b1
    have R2 := r2'.call b1
    have c10 := R1.cell 0
    have c11 := R1.cell 1
    have c20 := R2.cell 0
    have c21 := R2.cell 1
    have f20 := R2.fr 0
    have f21 := R2.fr 1
    simp only [List.getElem?_toArray, List.getElem?_cons_zero, List.getElem?_cons_succ] at c10 c11 c20 c21
    have bb := hide ((unhide HB0).trans (b1.mono (unhide HB0).size))
    clear hz b1 r1' r2' R1 R2 HB0
    rcases h1 with ⟨hT, B, rfl, -, -⟩ | ⟨hT, rfl⟩
    · go_wp2
      refine bodyPost_ret (v := .tuple #[.agg #[.map (some B), .int .i64 m], .nilIface]) (by simp [results, Tryd.results30, go_sem, c20, c21]) rfl ⟨.inl ⟨hT, B, rfl⟩, ?_⟩
      exact ((unhide bb).setCell (by show w.heap.size ≤ w.heap.size + 1; omega) _).setCell (by show w.heap.size ≤ w.heap.size + 1; omega) _
    · go_wp2
      refine bodyPost_ret (v := .tuple #[.agg #[.map none, .int .i64 m], .iface r1 x1]) (by simp [results, Tryd.results30, go_sem, c20, c21]) rfl ⟨.inr ⟨hT, m, rfl⟩, ?_⟩
      exact ((unhide bb).setCell (by show w.heap.size ≤ w.heap.size + 1; omega) _).setCell (by show w.heap.size ≤ w.heap.size + 1; omega) _
end WNestI
end Go.Proofs.YtaceknlimlnpgaaDoor
