/- The program's PlainTouch: its work, and its face. -/
import Derived.Test.YtkfpfckmjgjanabDoorG66
import Derived.Test.YtkfpfckmjgjanabDoorG61
import Derived.Test.YtkfpfckmjgjanabDoorWInTree
namespace Go.Proofs.YtkfpfckmjgjanabDoor
open Go.RowKit Go.Maps
namespace WPanic
set_option linter.unusedSimpArgs false in
set_option maxRecDepth 100000 in
set_option maxHeartbeats 2000000 in
theorem touch_work (a : Option Addr) (cap : Nat) (L : List Pl.Nd) (p : ByteArray) (t : Int) (qp qt qT : Addr) (w : World) (hp : w.cell? qp = some (.string p)) (lp : qp.block < w.heap.size) (ht : w.cell? qt = some (.int .i64 t)) (lt : qt.block < w.heap.size) (hT : w.cell? qT = some (.slice a L.length cap)) (lT : qT.block < w.heap.size) (hl : L.length ≤ 1048576) (hv : Mem.isNodes w a L) (hok : ∀ n ∈ L, n.path.size ≤ 1048576 ∧ n.data.size ≤ 1048576)
    (r1 r2 r3 : TypeId) (x1 x2 x3 : Value) (hE : WNodesI.Errs w r1 r2 r3 x1 x2 x3) :
    Calls Tryd.prog 70 #[.pointer (some qp), .pointer (some qt), .pointer (some qT)] w fun e w' => Ends w w' e (Pl.chgC L (⟨p, 1, ⟨#[]⟩, t, 0⟩ : Pl.Nd) (Pl.tchC L p)) (Pl.chgO L (⟨p, 1, ⟨#[]⟩, t, 0⟩ : Pl.Nd) (Pl.tchC L p) (Pl.tchL L p t)) := by
  have MK : Hid (∀ W', Below w.heap.size w W' → (fun W' => Below w.heap.size w W' ∧ W'.cell? qp = some (.string p) ∧ W'.cell? qt = some (.int .i64 t) ∧ W'.cell? qT = some (.slice a L.length cap)) W') := fun W' hb' => ⟨hb', (hb'.cell (p := qp) lp).trans hp, (hb'.cell (p := qt) lt).trans ht, (hb'.cell (p := qT) lT).trans hT⟩
  have b0 : Below w.heap.size w (w.alloc (.cells #[.slice none 0 0] 39)) := (Below.refl _ _).alloc (Nat.le_refl _) _
  have A0 := Mem.Blk.new w #[.slice none 0 0] 39
  have HIT := hide (fun W (b : Below w.heap.size w W) => inTree_any (⟨p, 1, ⟨#[]⟩, t, 0⟩ : Pl.Nd) 99 100 a cap L (Pl.tchC L p) (Pl.tchL L p t) W hl (Mem.nodes_call hv b) hok r1 r2 r3 x1 x2 x3 (hE.call b) (fun B W => by kernel_rfl) (fun hpl hnb B W _ _ ho => touchP_any B L ⟨p, 1, ⟨#[]⟩, t, 0⟩ W (Pl.plain_tree hpl) (Pl.node_right hnb).1 ho))
  have HMK := hide (touching_any p t)
  generalize hc0 : Pl.chgC L (⟨p, 1, ⟨#[]⟩, t, 0⟩ : Pl.Nd) (Pl.tchC L p) = c at HIT ⊢
  generalize hO0 : Pl.chgO L (⟨p, 1, ⟨#[]⟩, t, 0⟩ : Pl.Nd) (Pl.tchC L p) (Pl.tchL L p t) = O at HIT ⊢
  clear hv hok hE hc0 hO0
  go_enter Tryd.func70, Tryd.ntmps70
  go_wp2_with fail
  refine wp_region_held_drew (S := fun W' => Below w.heap.size w W' ∧ W'.cell? qp = some (.string p) ∧ W'.cell? qt = some (.int .i64 t) ∧ W'.cell? qT = some (.slice a L.length cap)) (by kernel_rfl) ?_ (fun hHeld => ?_)
  · exact unhide MK _ (b0.trans ⟨rfl, rfl, rfl, Nat.le_refl _, fun _ _ => rfl⟩)
  refine wpAnyH_take (i := 0) (v := ?_) rfl (by kernel_rfl) (by kernel_rfl) (by kernel_rfl) (fun _ _ _ h => h) (Or.inl ⟨by rfl, ?_⟩) (by assumption) ?_
  rotate_left
  · (intro w hSw; (try dsimp only at hSw); go_simp; (try with_reducible rfl))
  try simp only [Act.put, kB0, kB1, kB2, kB3, kB4, kB5]
  refine wpAnyH_take (i := 1) (v := ?_) rfl (by kernel_rfl) (by kernel_rfl) (by kernel_rfl) (fun _ _ _ h => h) (Or.inl ⟨by rfl, ?_⟩) (by assumption) ?_
  rotate_left
  · (intro w hSw; (try dsimp only at hSw); go_simp; (try with_reducible rfl))
  try simp only [Act.put, kB0, kB1, kB2, kB3, kB4, kB5]
  refine wpAnyH_take (i := 3) (v := ?_) rfl (by kernel_rfl) (by kernel_rfl) (by kernel_rfl) (fun _ _ _ h => h) (Or.inl ⟨by rfl, ?_⟩) (by assumption) ?_
  rotate_left
  · (intro w hSw; (try dsimp only at hSw); go_simp; (try with_reducible rfl))
  try simp only [Act.put, kB0, kB1, kB2, kB3, kB4, kB5]
  have A1 : Mem.Blk (w.alloc (.cells #[.slice none 0 0] 39)).drew w.heap.size #[.slice none 0 0] 39 := A0
  generalize hwd : (w.alloc (.cells #[.slice none 0 0] 39)).drew = wd at A1 hHeld ⊢
  clear hwd b0 A0
  refine wpAnyH_ready (rs := [2]) (by kernel_rfl) (by simp) ?_
  refine AllReadyH.cons rfl (fun K hK => ?_) AllReadyH.nil
  go_simp
  refine (unhide HMK _).mono ?_
  rintro e w1 ⟨rfl, b1⟩
  have bw1 := hHeld.1.trans (b1.mono hHeld.1.size)
  have A2 := A1.call b1
  refine hK.out _ _ (unhide MK _ bw1) (fun hHeld1 => ?_)
  clear hK K hHeld A1 b1
  try simp only [Act.put, kB0, kB1, kB2, kB3, kB4, kB5]
  refine wpAnyH_ready (rs := [4]) (by kernel_rfl) (by simp) ?_
  refine AllReadyH.cons rfl (fun K hK => ?_) AllReadyH.nil
  go_simp
  refine (unhide HIT _ bw1).mono ?_
  rintro e w2 ⟨h2, b2⟩
  have bw2 := bw1.trans (b2.mono bw1.size)
  have A3 := A2.call b2
  have hlt := A2.lt
  rcases h2 with ⟨rfl, v, rfl, own⟩ | ⟨hc, rfl, rfl⟩
  · obtain ⟨a2, cap2, rfl⟩ := Mem.own_shape own
    refine hK.out _ _ (unhide MK _ bw2) (fun hHeld2 => ?_)
    clear hK K hHeld1 A2 b2 HIT HMK
    try simp only [Act.put, kB0, kB1, kB2, kB3, kB4, kB5]
    refine wpAnyH_ready (rs := [5]) (by kernel_rfl) (by simp) ?_
    refine AllReadyH.cons rfl (fun K hK => ?_) AllReadyH.nil
    have c0 := A3.cell 0
    have f0 := A3.fr 0
    simp only [kA0, kA1] at c0
    go_simp
    have b3 := bw2.setCell (p := ⟨w.heap.size, 0, none⟩) (Nat.le_refl _) (.slice a2 O.length cap2)
    refine hK.out _ _ (unhide MK _ b3) (fun hHeld3 => ?_)
    clear hK K
    try simp only [Act.put, kB0, kB1, kB2, kB3, kB4, kB5]
    refine wpAnyH_done (by kernel_rfl) ?_ _
    go_wp2
    refine bodyPost_ret (v := .agg #[.slice a2 O.length cap2]) (by simp [results, Tryd.results70, go_sem, c0]) rfl ⟨.inl ⟨rfl, .slice a2 O.length cap2, rfl, ?_⟩, b3⟩
    exact Mem.ownN_mono (Mem.ownN_set own _ _ hlt) (by omega)
  · exact ⟨rfl, ⟨.inr ⟨hc, rfl, rfl⟩, bw2⟩⟩

set_option linter.unusedSimpArgs false in
set_option maxRecDepth 100000 in
set_option maxHeartbeats 2000000 in
theorem touch_impl (a : Option Addr) (cap : Nat) (L : List Pl.Nd) (p : ByteArray) (t : Int) (w : World) (hl : L.length ≤ 1048576) (hv : Mem.isNodes w a L) (hok : ∀ n ∈ L, n.path.size ≤ 1048576 ∧ n.data.size ≤ 1048576)
    (r1 r2 r3 : TypeId) (x1 x2 x3 : Value) (hE : WNodesI.Errs w r1 r2 r3 x1 x2 x3) :
    Calls Tryd.prog 35 #[.agg #[.slice a L.length cap], .string p, .int .i64 t] w fun e w' => ∃ v, e = .returned (.agg #[v, .int .i64 (Pl.chgC L (⟨p, 1, ⟨#[]⟩, t, 0⟩ : Pl.Nd) (Pl.tchC L p))]) ∧ Mem.ownN w' w.heap.size v (Pl.chgO L (⟨p, 1, ⟨#[]⟩, t, 0⟩ : Pl.Nd) (Pl.tchC L p) (Pl.tchL L p t)) ∧ Below w.heap.size w w' := by
  have hmf : ∀ (fn : Fn) (first cap : Array Value) (w : World), (Instr.makeFunc fn first cap).run Tryd.prog w = .ok (.func fn first cap) w := fun _ _ _ _ => rfl
  have b0 : Below w.heap.size w ((((w.alloc (.cells #[.slice a L.length cap] 39)).alloc (.cells #[.string p] 9)).alloc (.cells #[.int .i64 t] 2)).alloc (.cells #[.slice none 0 0, .int .i64 0] 41)) := ((((Below.refl _ _).alloc (Nat.le_refl _) _).alloc (by simp) _).alloc (by simp; omega) _).alloc (by simp; omega) _
  have hs : ((((w.alloc (.cells #[.slice a L.length cap] 39)).alloc (.cells #[.string p] 9)).alloc (.cells #[.int .i64 t] 2)).alloc (.cells #[.slice none 0 0, .int .i64 0] 41)).heap.size = w.heap.size + 1 + 1 + 1 + 1 := by simp
  have B0 : Mem.Blk ((((w.alloc (.cells #[.slice a L.length cap] 39)).alloc (.cells #[.string p] 9)).alloc (.cells #[.int .i64 t] 2)).alloc (.cells #[.slice none 0 0, .int .i64 0] 41)) (w.heap.size) #[.slice a L.length cap] 39 := by
    have h : Mem.Blk ((w.alloc (.cells #[.slice a L.length cap] 39))) (w).heap.size #[.slice a L.length cap] 39 := Mem.Blk.new _ _ _
    rw [show (w).heap.size = w.heap.size by simp] at h
    exact (((h).alloc _).alloc _).alloc _
  have B1 : Mem.Blk ((((w.alloc (.cells #[.slice a L.length cap] 39)).alloc (.cells #[.string p] 9)).alloc (.cells #[.int .i64 t] 2)).alloc (.cells #[.slice none 0 0, .int .i64 0] 41)) (w.heap.size + 1) #[.string p] 9 := by
    have h : Mem.Blk (((w.alloc (.cells #[.slice a L.length cap] 39)).alloc (.cells #[.string p] 9))) ((w.alloc (.cells #[.slice a L.length cap] 39))).heap.size #[.string p] 9 := Mem.Blk.new _ _ _
    rw [show ((w.alloc (.cells #[.slice a L.length cap] 39))).heap.size = w.heap.size + 1 by simp] at h
    exact ((h).alloc _).alloc _
  have B2 : Mem.Blk ((((w.alloc (.cells #[.slice a L.length cap] 39)).alloc (.cells #[.string p] 9)).alloc (.cells #[.int .i64 t] 2)).alloc (.cells #[.slice none 0 0, .int .i64 0] 41)) (w.heap.size + 1 + 1) #[.int .i64 t] 2 := by
    have h : Mem.Blk ((((w.alloc (.cells #[.slice a L.length cap] 39)).alloc (.cells #[.string p] 9)).alloc (.cells #[.int .i64 t] 2))) (((w.alloc (.cells #[.slice a L.length cap] 39)).alloc (.cells #[.string p] 9))).heap.size #[.int .i64 t] 2 := Mem.Blk.new _ _ _
    rw [show (((w.alloc (.cells #[.slice a L.length cap] 39)).alloc (.cells #[.string p] 9))).heap.size = w.heap.size + 1 + 1 by simp] at h
    exact (h).alloc _
  have B3 : Mem.Blk ((((w.alloc (.cells #[.slice a L.length cap] 39)).alloc (.cells #[.string p] 9)).alloc (.cells #[.int .i64 t] 2)).alloc (.cells #[.slice none 0 0, .int .i64 0] 41)) (w.heap.size + 1 + 1 + 1) #[.slice none 0 0, .int .i64 0] 41 := by
    have h : Mem.Blk (((((w.alloc (.cells #[.slice a L.length cap] 39)).alloc (.cells #[.string p] 9)).alloc (.cells #[.int .i64 t] 2)).alloc (.cells #[.slice none 0 0, .int .i64 0] 41))) ((((w.alloc (.cells #[.slice a L.length cap] 39)).alloc (.cells #[.string p] 9)).alloc (.cells #[.int .i64 t] 2))).heap.size #[.slice none 0 0, .int .i64 0] 41 := Mem.Blk.new _ _ _
    rw [show ((((w.alloc (.cells #[.slice a L.length cap] 39)).alloc (.cells #[.string p] 9)).alloc (.cells #[.int .i64 t] 2))).heap.size = w.heap.size + 1 + 1 + 1 by simp] at h
    exact h
  have HF := hide (fun W0 (hW0 : W0 = ((((w.alloc (.cells #[.slice a L.length cap] 39)).alloc (.cells #[.string p] 9)).alloc (.cells #[.int .i64 t] 2)).alloc (.cells #[.slice none 0 0, .int .i64 0] 41))) => treeFace_any 70 #[.pointer (some ⟨w.heap.size + 1, 0, none⟩), .pointer (some ⟨w.heap.size + 1 + 1, 0, none⟩), .pointer (some ⟨w.heap.size, 0, none⟩)] (Pl.chgC L (⟨p, 1, ⟨#[]⟩, t, 0⟩ : Pl.Nd) (Pl.tchC L p)) (Pl.chgO L (⟨p, 1, ⟨#[]⟩, t, 0⟩ : Pl.Nd) (Pl.tchC L p) (Pl.tchL L p t)) W0 (fun _ => by kernel_rfl) (fun W b => by
    subst hW0
    have bw := b0.trans (b.mono b0.size)
    rw [hs] at b
    have hsz := b.size
    exact touch_work a cap L p t ⟨w.heap.size + 1, 0, none⟩ ⟨w.heap.size + 1 + 1, 0, none⟩ ⟨w.heap.size, 0, none⟩ W (by have h := (B1.below b (by omega)).cell 0; simpa using h) (by show w.heap.size + 1 < _; omega) (by have h := (B2.below b (by omega)).cell 0; simpa using h) (by show w.heap.size + 1 + 1 < _; omega) (by have h := (B0.below b (by omega)).cell 0; simpa using h) (by show w.heap.size < _; omega) hl (Mem.nodes_call hv bw) hok r1 r2 r3 x1 x2 x3 (hE.call bw)))
  have hf := hide (unhide HF _ rfl)
  clear HF hv hok hE
  generalize Pl.chgC L (⟨p, 1, ⟨#[]⟩, t, 0⟩ : Pl.Nd) (Pl.tchC L p) = c at hf ⊢
  generalize Pl.chgO L (⟨p, 1, ⟨#[]⟩, t, 0⟩ : Pl.Nd) (Pl.tchC L p) (Pl.tchL L p t) = O at hf ⊢
  go_enter Tryd.func35, Tryd.ntmps35
  go_wp2_with fail
  refine (unhide hf).mono ?_
  rintro e w1 ⟨v, rfl, own, b1⟩
  obtain ⟨a2, cap2, rfl⟩ := Mem.own_shape own
  rw [hs] at own
  have bw1 := b0.trans (b1.mono b0.size)
  have R1 := B3.call b1
  have c0 := R1.cell 0
  have c1 := R1.cell 1
  have f0 := R1.fr 0
  have f1 := R1.fr 1
  simp only [kA0, kA1, kA2] at c0 c1
  clear hf b0 b1 B0 B1 B2 B3
  go_wp2
  refine bodyPost_ret (v := .agg #[.slice a2 O.length cap2, .int .i64 c]) (by simp [results, Tryd.results35, go_sem, c0, c1]) rfl ⟨.slice a2 O.length cap2, rfl, ?_, ?_⟩
  · exact Mem.ownN_mono (Mem.ownN_set (Mem.ownN_set own _ _ (by show w.heap.size + 1 + 1 + 1 < _; omega)) _ _ (by show w.heap.size + 1 + 1 + 1 < _; omega)) (by omega)
  · exact (bw1.setCell (by show w.heap.size ≤ w.heap.size + 1 + 1 + 1; omega) _).setCell (by show w.heap.size ≤ w.heap.size + 1 + 1 + 1; omega) _
end WPanic
end Go.Proofs.YtkfpfckmjgjanabDoor
