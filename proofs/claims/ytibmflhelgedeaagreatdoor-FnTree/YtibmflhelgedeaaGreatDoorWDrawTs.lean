/- The walk of the draw of a tree and a path (by genDS.py; its first part is WDrawSm). -/
import Derived.Test.YtibmflhelgedeaaGreatDoorG29
namespace Go.Proofs.YtibmflhelgedeaaGreatDoor
open Go.RowKit
namespace WSrc
/-- What the draw of a tree and a path keeps. -/
structure Dk (w W : World) (S X : Nat) (a : Option Addr) (len cap : Nat) (va : Option Addr) (vc : Nat) (L : List Pl.Nd) (u : Value) : Prop where
  lo : w.heap.size < S
  hi : S < X
  bel : Below w.heap.size w W
  src : Src W S a len cap
  two : Mem.Blk W w.heap.size #[u] 25
  one : Mem.Blk W X #[.slice va L.length vc] 25
  tv : TreeV W (S + 1) va vc L
  row : RowB w w.heap.size a len cap
section
variable {w W W' : World} {S X len cap vc : Nat} {a va : Option Addr} {L : List Pl.Nd} {u : Value}
theorem Dk.call (h : Dk w W S X a len cap va vc L u) (s : Src W' S a len cap) (g : W.grownBy W' (some S)) : Dk w W' S X a len cap va vc L u :=
  have l := h.lo
  have l2 := h.hi
  ⟨l, l2, h.bel.grown g h.bel.size (fun q hq => by cases hq; omega), s, h.two.grown g (by simp; omega), h.one.grown g (by simp; omega), h.tv.grown g (fun q hq => by cases hq; omega), h.row⟩
theorem Dk.drew (h : Dk w W S X a len cap va vc L u) : Dk w W.drew S X a len cap va vc L u :=
  ⟨h.lo, h.hi, ⟨h.bel.os, h.bel.tape, h.bel.output, h.bel.size, h.bel.block⟩, h.src, h.two, h.one, h.tv, h.row⟩
theorem Dk.put (h : Dk w W S X a len cap va vc L u) (u' : Value) : Dk w (W.setCell ⟨w.heap.size, 0, none⟩ u') S X a len cap va vc L u' :=
  have l := h.lo
  have l2 := h.hi
  have hb2 : Below w.heap.size w (W.setCell ⟨w.heap.size, 0, none⟩ u') := h.bel.setCell (Nat.le_refl _) _
  ⟨l, l2, hb2, (by
    obtain ⟨hr, p, m, sz, hb, hp, h0, h1⟩ := h.src
    exact ⟨row_up h.row hb2 (by omega), p, m, sz, (Below.heap_setCell W ⟨w.heap.size, 0, none⟩ u' S (by show S ≠ w.heap.size; omega)).trans hb, hp, h0, h1⟩), h.two.put 0 u', h.one.far _ _ (by show X ≠ w.heap.size; omega), h.tv.set _ _ _ (by omega), h.row⟩
end
set_option linter.unusedSimpArgs false in
set_option maxRecDepth 100000 in
set_option maxHeartbeats 4000000 in
theorem drawGet_any (a : Option Addr) (len cap : Nat) (w : World) (hr : RowB w w.heap.size a len cap) :
    Calls Tryz.prog 15 #[.slice a len cap] w fun e w' => ∃ (va : Option Addr) (vc : Nat) (L : List Pl.Nd) (p : ByteArray), L.length ≤ 64 ∧ Pl.smallL L ∧ p.size ≤ 200 ∧ e = .returned (.tuple #[.agg #[.slice va L.length vc], .string p]) ∧ TreeV w' w.heap.size va vc L ∧ Below w.heap.size w w' := by
  have b0 : Below w.heap.size w (w.alloc (.cells #[.slice none 0 0] 25)) := (Below.refl _ _).alloc (Nat.le_refl _) _
  have hz0 : (w.alloc (.cells #[.slice none 0 0] 25)).heap.size = w.heap.size + 1 := by simp
  have h0 := hide (source_any a len cap (w.alloc (.cells #[.slice none 0 0] 25)) (row_up hr b0 (by omega)))
  have BA := Mem.Blk.new w #[.slice none 0 0] 25
  rw [hz0] at h0
  have HR := hide hr
  clear hr
  go_enter Tryz.func15, Tryz.ntmps15
  go_wp2_with fail
  generalize w.alloc (.cells #[.slice none 0 0] 25) = w0 at h0 b0 BA hz0 ⊢
  refine (unhide h0).mono ?_
  rintro e w1 ⟨rfl, hs, b1⟩
  have BA := BA.below b1 (by omega)
  have b1 := b0.trans (b1.mono (by omega))
  clear h0 b0
  go_wp2_with fail
  refine (tree_any (w.heap.size + 1) a len cap _ hs).mono ?_
  rintro e w2 ⟨va, vc, L, hl, hsm, rfl, tv, s2, g2⟩
  have HSM := hide hsm
  have hlt := src_lt hs
  have D3 : Hid (Dk w (w2.alloc (.cells #[.slice va L.length vc] 25)) (w.heap.size + 1) w2.heap.size a len cap va vc L (.slice none 0 0)) :=
    ⟨by omega, by have := g2.size; omega, (b1.grown g2 b1.size (fun q hq => by cases hq; omega)).alloc (by have := b1.size; have := g2.size; omega) _, src_alloc s2 _, (BA.grown g2 (by simp)).alloc _, Mem.Blk.new _ _ _, (tv.mono (by omega)).alloc _, unhide HR⟩
  clear hs s2 g2 tv BA b1 hsm HR hlt hz0
  obtain ⟨S0, hS0⟩ : ∃ S0, S0 = w.heap.size + 1 := ⟨_, rfl⟩
  rw [← hS0] at D3
  have x0 := (unhide D3).one.cell 0
  simp only [kA0, kA1, kA2] at x0
  go_wp2_with fail
  rw [← hS0]
  have HS0 := hide hS0
  clear hS0
  generalize w2.alloc (.cells #[.slice va L.length vc] 25) = w3 at D3 x0 ⊢
  generalize w2.heap.size = X at D3 x0 ⊢
  refine wp_region_held_drew (S := fun W' => W'.cell? ⟨X, 0, none⟩ = some (.slice va L.length vc)) (by kernel_rfl) ?_ (fun hHeld => ?_)
  · exact (unhide D3).one.cell 0
  have D4 := hide (unhide D3).drew
  generalize w3.drew = W4 at D4 hHeld ⊢
  clear D3
  refine wpAnyH_take (i := 0) (v := ?_) rfl (by kernel_rfl) (by kernel_rfl) (by kernel_rfl) (fun _ _ _ h => h) (Or.inl ⟨by rfl, ?_⟩) (by assumption) ?_
  rotate_left
  · (intro w hSw; (try dsimp only at hSw); go_simp; (try with_reducible rfl))
  try simp only [Act.put, kB0, kB1, kB2, kB3, kB4, kB5]
  refine wpAnyH_take (i := 1) (v := ?_) rfl (by kernel_rfl) (by kernel_rfl) (by kernel_rfl) (fun _ _ _ h => h) (Or.inl ⟨by rfl, ?_⟩) (by assumption) ?_
  rotate_left
  · (intro w hSw; (try dsimp only at hSw); go_simp; (try with_reducible rfl))
  try simp only [Act.put, kB0, kB1, kB2, kB3, kB4, kB5]
  refine wpAnyH_take (i := 2) (v := ?_) rfl (by kernel_rfl) (by kernel_rfl) (by kernel_rfl) (fun _ _ _ h => h) (Or.inl ⟨by rfl, ?_⟩) (by assumption) ?_
  rotate_left
  · (intro w hSw; (try dsimp only at hSw); go_simp; (try with_reducible rfl))
  try simp only [Act.put, kB0, kB1, kB2, kB3, kB4, kB5]
  refine wpAnyH_ready (rs := [3]) (by kernel_rfl) (by simp) ?_
  refine AllReadyH.cons rfl (fun K hK => ?_) AllReadyH.nil
  go_simp
  refine (some_any S0 a len cap (S0 + 1) va vc L _ (unhide D4).src (by omega) (unhide D4).tv hl (unhide HSM)).mono ?_
  rintro e w5 ⟨p, hp, rfl, s5, g5⟩
  have D5 := hide ((unhide D4).call s5 g5)
  clear s5 g5
  refine hK.out _ _ ?_ (fun hHeld => ?_)
  · exact (unhide D5).one.cell 0
  clear hK K
  try simp only [Act.put, kB0, kB1, kB2, kB3, kB4, kB5]
  have k0 := (unhide D5).two.cell 0
  have kf := (unhide D5).two.fr 0
  simp only [kA0, kA1, kA2] at k0
  have D6 := hide ((unhide D5).put (.slice va L.length vc))
  refine wpAnyH_ready (rs := [4]) (by kernel_rfl) (by simp) ?_
  refine AllReadyH.cons rfl (fun K hK => ?_) AllReadyH.nil
  go_simp
  refine hK.out _ _ ?_ (fun hHeld => ?_)
  · exact (unhide D6).one.cell 0
  clear hK K
  try simp only [Act.put, kB0, kB1, kB2, kB3, kB4, kB5]
  refine wpAnyH_take (i := 5) (v := ?_) rfl (by kernel_rfl) (by kernel_rfl) (by kernel_rfl) (fun _ _ _ h => h) (Or.inl ⟨by rfl, ?_⟩) (by assumption) ?_
  rotate_left
  · (intro w hSw; (try dsimp only at hSw); go_simp; (try with_reducible rfl))
  try simp only [Act.put, kB0, kB1, kB2, kB3, kB4, kB5]
  refine wpAnyH_done (by kernel_rfl) ?_ _
  have q := (unhide D6).two.cell
  go_wp2
  refine bodyPost_ret (v := .tuple #[.agg #[.slice va L.length vc], .string p]) (by simp [results, Tryz.results15, go_sem, q]) rfl ?_
  exact ⟨va, vc, L, p, hl, unhide HSM, hp, rfl, (unhide D6).tv.mono (by have := (unhide D6).lo; omega), (unhide D6).bel⟩
end WSrc
end Go.Proofs.YtibmflhelgedeaaGreatDoor
