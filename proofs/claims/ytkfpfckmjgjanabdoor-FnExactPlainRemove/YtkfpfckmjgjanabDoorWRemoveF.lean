/- The program's PlainRemove: its work, and its face. -/
import Derived.Test.YtkfpfckmjgjanabDoorG72
import Derived.Test.YtkfpfckmjgjanabDoorG61
import Derived.Test.YtkfpfckmjgjanabDoorWInTree
namespace Go.Proofs.YtkfpfckmjgjanabDoor
open Go.RowKit Go.Maps
namespace WPanic
set_option linter.unusedSimpArgs false in
set_option maxRecDepth 100000 in
set_option maxHeartbeats 2000000 in
theorem remove_work (a : Option Addr) (cap : Nat) (L : List Pl.Nd) (p : ByteArray) (qp qT : Addr) (w : World) (hp : w.cell? qp = some (.string p)) (lp : qp.block < w.heap.size) (hT : w.cell? qT = some (.slice a L.length cap)) (lT : qT.block < w.heap.size) (hl : L.length ≤ 1048576) (hv : Mem.isNodes w a L) (hok : ∀ n ∈ L, n.path.size ≤ 1048576 ∧ n.data.size ≤ 1048576)
    (r1 r2 r3 : TypeId) (x1 x2 x3 : Value) (hE : WNodesI.Errs w r1 r2 r3 x1 x2 x3) :
    Calls Tryd.prog 65 #[.pointer (some qp), .pointer (some qT)] w fun e w' => Ends w w' e (Pl.chgC L (⟨p, 1, ⟨#[]⟩, 0, 0⟩ : Pl.Nd) (Pl.remC L p)) (Pl.chgO L (⟨p, 1, ⟨#[]⟩, 0, 0⟩ : Pl.Nd) (Pl.remC L p) (Pl.offL p L)) := by
  have MK : Hid (∀ W', Below w.heap.size w W' → (fun W' => Below w.heap.size w W' ∧ W'.cell? qp = some (.string p) ∧ W'.cell? qT = some (.slice a L.length cap)) W') := fun W' hb' => ⟨hb', (hb'.cell (p := qp) lp).trans hp, (hb'.cell (p := qT) lT).trans hT⟩
  have b0 : Below w.heap.size w (w.alloc (.cells #[.slice none 0 0] 39)) := (Below.refl _ _).alloc (Nat.le_refl _) _
  have A0 := Mem.Blk.new w #[.slice none 0 0] 39
  have HIT := hide (fun W (b : Below w.heap.size w W) => inTree_any (⟨p, 1, ⟨#[]⟩, 0, 0⟩ : Pl.Nd) 92 93 a cap L (Pl.remC L p) (Pl.offL p L) W hl (Mem.nodes_call hv b) hok r1 r2 r3 x1 x2 x3 (hE.call b) (fun B W => by kernel_rfl) (fun hpl hnb B W _ _ ho => removeP_any B L ⟨p, 1, ⟨#[]⟩, 0, 0⟩ W (Pl.plain_tree hpl) (Pl.node_right hnb).1 ho))
  have HMK := hide (removing_any p)
  generalize hc0 : Pl.chgC L (⟨p, 1, ⟨#[]⟩, 0, 0⟩ : Pl.Nd) (Pl.remC L p) = c at HIT ⊢
  generalize hO0 : Pl.chgO L (⟨p, 1, ⟨#[]⟩, 0, 0⟩ : Pl.Nd) (Pl.remC L p) (Pl.offL p L) = O at HIT ⊢
  clear hv hok hE hc0 hO0
  go_enter Tryd.func65, Tryd.ntmps65
  go_wp2_with fail
  refine wp_region_held_drew (S := fun W' => Below w.heap.size w W' ∧ W'.cell? qp = some (.string p) ∧ W'.cell? qT = some (.slice a L.length cap)) (by kernel_rfl) ?_ (fun hHeld => ?_)
  · exact unhide MK _ (b0.trans ⟨rfl, rfl, rfl, Nat.le_refl _, fun _ _ => rfl⟩)
  refine wpAnyH_take (i := 0) (v := ?_) rfl (by kernel_rfl) (by kernel_rfl) (by kernel_rfl) (fun _ _ _ h => h) (Or.inl ⟨by rfl, ?_⟩) (by assumption) ?_
  rotate_left
  · (intro w hSw; (try dsimp only at hSw); go_simp; (try with_reducible rfl))
  try simp only [Act.put, kB0, kB1, kB2, kB3, kB4, kB5]
  refine wpAnyH_take (i := 2) (v := ?_) rfl (by kernel_rfl) (by kernel_rfl) (by kernel_rfl) (fun _ _ _ h => h) (Or.inl ⟨by rfl, ?_⟩) (by assumption) ?_
  rotate_left
  · (intro w hSw; (try dsimp only at hSw); go_simp; (try with_reducible rfl))
  try simp only [Act.put, kB0, kB1, kB2, kB3, kB4, kB5]
  have A1 : Mem.Blk (w.alloc (.cells #[.slice none 0 0] 39)).drew w.heap.size #[.slice none 0 0] 39 := A0
  generalize hwd : (w.alloc (.cells #[.slice none 0 0] 39)).drew = wd at A1 hHeld ⊢
  clear hwd b0 A0
  refine wpAnyH_ready (rs := [1]) (by kernel_rfl) (by simp) ?_
  refine AllReadyH.cons rfl (fun K hK => ?_) AllReadyH.nil
  go_simp
  refine (unhide HMK _).mono ?_
  rintro e w1 ⟨rfl, b1⟩
  have bw1 := hHeld.1.trans (b1.mono hHeld.1.size)
  have A2 := A1.call b1
  refine hK.out _ _ (unhide MK _ bw1) (fun hHeld1 => ?_)
  clear hK K hHeld A1 b1
  try simp only [Act.put, kB0, kB1, kB2, kB3, kB4, kB5]
  refine wpAnyH_ready (rs := [3]) (by kernel_rfl) (by simp) ?_
  refine AllReadyH.cons rfl (fun K hK => ?_) AllReadyH.nil
  go_simp
  refine (unhide HIT _ bw1).mono ?_
  rintro e w2 ⟨h2, b2⟩
  have bw2 := bw1.trans (b2.mono bw1.size)
  have A3 := A2.call b2
  have hlt := A2.lt
  rcases h2 with ⟨rfl, v, rfl, own⟩ | ⟨hc, rfl, rfl⟩
  · obtain ⟨a2, cap2, rfl⟩ := Mem.own_shape own
    refine hK.out _ _ (unhide MK _ bw2) (fun hHeld2 => ?_)
    clear hK K hHeld1 A2 b2 HIT HMK
    try simp only [Act.put, kB0, kB1, kB2, kB3, kB4, kB5]
    refine wpAnyH_ready (rs := [4]) (by kernel_rfl) (by simp) ?_
    refine AllReadyH.cons rfl (fun K hK => ?_) AllReadyH.nil
    have c0 := A3.cell 0
    have f0 := A3.fr 0
    simp only [kA0, kA1] at c0
    go_simp
    have b3 := bw2.setCell (p := ⟨w.heap.size, 0, none⟩) (Nat.le_refl _) (.slice a2 O.length cap2)
    refine hK.out _ _ (unhide MK _ b3) (fun hHeld3 => ?_)
    clear hK K
    try simp only [Act.put, kB0, kB1, kB2, kB3, kB4, kB5]
    refine wpAnyH_done (by kernel_rfl) ?_ _
    go_wp2
    refine bodyPost_ret (v := .agg #[.slice a2 O.length cap2]) (by simp [results, Tryd.results65, go_sem, c0]) rfl ⟨.inl ⟨rfl, .slice a2 O.length cap2, rfl, ?_⟩, b3⟩
    exact Mem.ownN_mono (Mem.ownN_set own _ _ hlt) (by omega)
  · exact ⟨rfl, ⟨.inr ⟨hc, rfl, rfl⟩, bw2⟩⟩

set_option linter.unusedSimpArgs false in
set_option maxRecDepth 100000 in
set_option maxHeartbeats 2000000 in
theorem remove_impl (a : Option Addr) (cap : Nat) (L : List Pl.Nd) (p : ByteArray) (w : World) (hl : L.length ≤ 1048576) (hv : Mem.isNodes w a L) (hok : ∀ n ∈ L, n.path.size ≤ 1048576 ∧ n.data.size ≤ 1048576)
    (r1 r2 r3 : TypeId) (x1 x2 x3 : Value) (hE : WNodesI.Errs w r1 r2 r3 x1 x2 x3) :
    Calls Tryd.prog 33 #[.agg #[.slice a L.length cap], .string p] w fun e w' => ∃ v, e = .returned (.agg #[v, .int .i64 (Pl.chgC L (⟨p, 1, ⟨#[]⟩, 0, 0⟩ : Pl.Nd) (Pl.remC L p))]) ∧ Mem.ownN w' w.heap.size v (Pl.chgO L (⟨p, 1, ⟨#[]⟩, 0, 0⟩ : Pl.Nd) (Pl.remC L p) (Pl.offL p L)) ∧ Below w.heap.size w w' := by
  have hmf : ∀ (fn : Fn) (first cap : Array Value) (w : World), (Instr.makeFunc fn first cap).run Tryd.prog w = .ok (.func fn first cap) w := fun _ _ _ _ => rfl
  have b0 : Below w.heap.size w (((w.alloc (.cells #[.slice a L.length cap] 39)).alloc (.cells #[.string p] 9)).alloc (.cells #[.slice none 0 0, .int .i64 0] 41)) := (((Below.refl _ _).alloc (Nat.le_refl _) _).alloc (by simp) _).alloc (by simp; omega) _
  have hs : (((w.alloc (.cells #[.slice a L.length cap] 39)).alloc (.cells #[.string p] 9)).alloc (.cells #[.slice none 0 0, .int .i64 0] 41)).heap.size = w.heap.size + 1 + 1 + 1 := by simp
  have B0 : Mem.Blk (((w.alloc (.cells #[.slice a L.length cap] 39)).alloc (.cells #[.string p] 9)).alloc (.cells #[.slice none 0 0, .int .i64 0] 41)) (w.heap.size) #[.slice a L.length cap] 39 := by
    have h : Mem.Blk ((w.alloc (.cells #[.slice a L.length cap] 39))) (w).heap.size #[.slice a L.length cap] 39 := Mem.Blk.new _ _ _
    rw [show (w).heap.size = w.heap.size by simp] at h
    exact ((h).alloc _).alloc _
  have B1 : Mem.Blk (((w.alloc (.cells #[.slice a L.length cap] 39)).alloc (.cells #[.string p] 9)).alloc (.cells #[.slice none 0 0, .int .i64 0] 41)) (w.heap.size + 1) #[.string p] 9 := by
    have h : Mem.Blk (((w.alloc (.cells #[.slice a L.length cap] 39)).alloc (.cells #[.string p] 9))) ((w.alloc (.cells #[.slice a L.length cap] 39))).heap.size #[.string p] 9 := Mem.Blk.new _ _ _
    rw [show ((w.alloc (.cells #[.slice a L.length cap] 39))).heap.size = w.heap.size + 1 by simp] at h
    exact (h).alloc _
  have B2 : Mem.Blk (((w.alloc (.cells #[.slice a L.length cap] 39)).alloc (.cells #[.string p] 9)).alloc (.cells #[.slice none 0 0, .int .i64 0] 41)) (w.heap.size + 1 + 1) #[.slice none 0 0, .int .i64 0] 41 := by
    have h : Mem.Blk ((((w.alloc (.cells #[.slice a L.length cap] 39)).alloc (.cells #[.string p] 9)).alloc (.cells #[.slice none 0 0, .int .i64 0] 41))) (((w.alloc (.cells #[.slice a L.length cap] 39)).alloc (.cells #[.string p] 9))).heap.size #[.slice none 0 0, .int .i64 0] 41 := Mem.Blk.new _ _ _
    rw [show (((w.alloc (.cells #[.slice a L.length cap] 39)).alloc (.cells #[.string p] 9))).heap.size = w.heap.size + 1 + 1 by simp] at h
    exact h
  have HF := hide (fun W0 (hW0 : W0 = (((w.alloc (.cells #[.slice a L.length cap] 39)).alloc (.cells #[.string p] 9)).alloc (.cells #[.slice none 0 0, .int .i64 0] 41))) => treeFace_any 65 #[.pointer (some ⟨w.heap.size + 1, 0, none⟩), .pointer (some ⟨w.heap.size, 0, none⟩)] (Pl.chgC L (⟨p, 1, ⟨#[]⟩, 0, 0⟩ : Pl.Nd) (Pl.remC L p)) (Pl.chgO L (⟨p, 1, ⟨#[]⟩, 0, 0⟩ : Pl.Nd) (Pl.remC L p) (Pl.offL p L)) W0 (fun _ => by kernel_rfl) (fun W b => by
    subst hW0
    have bw := b0.trans (b.mono b0.size)
    rw [hs] at b
    have hsz := b.size
    exact remove_work a cap L p ⟨w.heap.size + 1, 0, none⟩ ⟨w.heap.size, 0, none⟩ W (by have h := (B1.below b (by omega)).cell 0; simpa using h) (by show w.heap.size + 1 < _; omega) (by have h := (B0.below b (by omega)).cell 0; simpa using h) (by show w.heap.size < _; omega) hl (Mem.nodes_call hv bw) hok r1 r2 r3 x1 x2 x3 (hE.call bw)))
  have hf := hide (unhide HF _ rfl)
  clear HF hv hok hE
  generalize Pl.chgC L (⟨p, 1, ⟨#[]⟩, 0, 0⟩ : Pl.Nd) (Pl.remC L p) = c at hf ⊢
  generalize Pl.chgO L (⟨p, 1, ⟨#[]⟩, 0, 0⟩ : Pl.Nd) (Pl.remC L p) (Pl.offL p L) = O at hf ⊢
  go_enter Tryd.func33, Tryd.ntmps33
  go_wp2_with fail
  refine (unhide hf).mono ?_
  rintro e w1 ⟨v, rfl, own, b1⟩
  obtain ⟨a2, cap2, rfl⟩ := Mem.own_shape own
  rw [hs] at own
  have bw1 := b0.trans (b1.mono b0.size)
  have R1 := B2.call b1
  have c0 := R1.cell 0
  have c1 := R1.cell 1
  have f0 := R1.fr 0
  have f1 := R1.fr 1
  simp only [kA0, kA1, kA2] at c0 c1
  clear hf b0 b1 B0 B1 B2
  go_wp2
  refine bodyPost_ret (v := .agg #[.slice a2 O.length cap2, .int .i64 c]) (by simp [results, Tryd.results33, go_sem, c0, c1]) rfl ⟨.slice a2 O.length cap2, rfl, ?_, ?_⟩
  · exact Mem.ownN_mono (Mem.ownN_set (Mem.ownN_set own _ _ (by show w.heap.size + 1 + 1 < _; omega)) _ _ (by show w.heap.size + 1 + 1 < _; omega)) (by omega)
  · exact (bw1.setCell (by show w.heap.size ≤ w.heap.size + 1 + 1; omega) _).setCell (by show w.heap.size ≤ w.heap.size + 1 + 1; omega) _
end WPanic
end Go.Proofs.YtkfpfckmjgjanabDoor
