/- Several texts of one claim in one file: WDrawTs, WDrawTp. -/
import Derived.Test.YthkfhjemcekpgaaGreatDoorPartM
import Derived.Test.YthkfhjemcekpgaaGreatDoorWSource
/- The walks of the draws: a path of a tree; a tree and a path (by genDS.py). -/
namespace Go.Proofs.YthkfhjemcekpgaaGreatDoor
open Go.RowKit
namespace WSrc
set_option linter.unusedSimpArgs false in
set_option maxRecDepth 100000 in
set_option maxHeartbeats 4000000 in
theorem some_any (S : Nat) (a : Option Addr) (len cap : Nat) (B : Nat) (va : Option Addr) (vc : Nat) (L : List Pl.Nd) (w : World) (hs : Src w S a len cap) (hB : S < B) (tv : TreeV w B va vc L) (hl : L.length ≤ 64) (hsm : Pl.smallL L) :
    Calls Tryz.prog 40 #[.pointer (some ⟨S, 0, none⟩), .agg #[.slice va L.length vc]] w fun e w' => ∃ p : ByteArray, p.size ≤ 200 ∧ e = .returned (.string p) ∧ Src w' S a len cap ∧ w.grownBy w' (some S) := by
  have hS := src_lt hs
  have HSM := hide hsm
  have hs0 := hide (src_alloc hs (.cells #[.slice va L.length vc] 25))
  have BX := Mem.Blk.new w #[.slice va L.length vc] 25
  have g0 := World.grownBy_alloc w (.cells #[.slice va L.length vc] 25) (some S)
  have TV := hide (tv.alloc (.cells #[.slice va L.length vc] 25))
  clear hs tv hsm
  by_cases h0 : (0 : Int) < (L.length : Int)
  · obtain ⟨b, o, rfl⟩ : ∃ b o, va = some ⟨b, o, none⟩ := by
      rcases (unhide TV).2.1 with ⟨_, _, rfl⟩ | ⟨b, o, e, _⟩
      · simp at h0
      · exact ⟨b, o, e⟩
    have hbB := (unhide TV).2.2 b o rfl
    have x0 := BX.cell 0
    simp only [List.getElem?_toArray, List.getElem?_cons_zero, List.getElem?_cons_succ] at x0
    go_enter Tryz.func40, Tryz.ntmps40
    go_wp2_with fail
    generalize w.alloc (.cells #[.slice (some ⟨b, o, none⟩) L.length vc] 25) = w1 at hs0 BX g0 TV x0 ⊢
    refine (one_any S a len cap 4 _ (unhide hs0) (by omega)).mono ?_
    rintro e w2 ⟨r4, rfl, s1, g1⟩
    have BX := BX.grown g1 (by simp; omega)
    have NV := hide (Mem.nodes_grown (unhide TV).1 g1 (by simp; omega))
    have g0 := g0.trans g1
    clear g1 x0 TV hs0
    cases r4
    · have x0 := BX.cell 0
      simp only [List.getElem?_toArray, List.getElem?_cons_zero, List.getElem?_cons_succ] at x0
      go_wp2_with fail
      refine wp_region_held_drew (S := fun W' => W'.cell? ⟨w.heap.size, 0, none⟩ = some (.slice (some ⟨b, o, none⟩) L.length vc)) (by kernel_rfl) ?_ (fun hHeld => ?_)
      · exact (BX.cell 0)
      have s1' : Src w2.drew S a len cap := s1
      have BX' : Mem.Blk w2.drew w.heap.size #[.slice (some ⟨b, o, none⟩) L.length vc] 25 := BX
      have NV' : Hid (Mem.isNodes w2.drew (some ⟨b, o, none⟩) L) := unhide NV
      have g0' := grown_drew g0
      generalize w2.drew = WD at s1' BX' NV' g0' hHeld ⊢
      clear s1 BX NV g0 x0
      refine wpAnyH_take (i := 0) (v := ?_) rfl (by kernel_rfl) (by kernel_rfl) (by kernel_rfl) (fun _ _ _ h => h) (Or.inl ⟨by rfl, ?_⟩) (by assumption) ?_
      rotate_left
      · (intro w hSw; (try dsimp only at hSw); go_simp; (try with_reducible rfl))
      try simp only [Act.put, List.getElem_toArray, List.getElem_cons_zero, List.getElem_cons_succ, List.setIfInBounds_toArray, List.set_cons_zero, List.set_cons_succ]
      refine wpAnyH_take (i := 1) (v := ?_) rfl (by kernel_rfl) (by kernel_rfl) (by kernel_rfl) (fun _ _ _ h => h) (Or.inl ⟨by rfl, ?_⟩) (by assumption) ?_
      rotate_left
      · (intro w hSw; (try dsimp only at hSw); go_simp; (try with_reducible rfl))
      try simp only [Act.put, List.getElem_toArray, List.getElem_cons_zero, List.getElem_cons_succ, List.setIfInBounds_toArray, List.set_cons_zero, List.set_cons_succ]
      refine wpAnyH_take (i := 2) (v := ?_) rfl (by kernel_rfl) (by kernel_rfl) (by kernel_rfl) (fun _ _ _ h => h) (Or.inl ⟨by rfl, ?_⟩) (by assumption) ?_
      rotate_left
      · (intro w hSw; (try dsimp only at hSw); go_simp; (try with_reducible rfl))
      try simp only [Act.put, List.getElem_toArray, List.getElem_cons_zero, List.getElem_cons_succ, List.setIfInBounds_toArray, List.set_cons_zero, List.set_cons_succ]
      refine wpAnyH_take (i := 3) (v := ?_) rfl (by kernel_rfl) (by kernel_rfl) (by kernel_rfl) (fun _ _ _ h => h) (Or.inl ⟨by rfl, ?_⟩) (by assumption) ?_
      rotate_left
      · (intro w hSw; (try dsimp only at hSw); go_simp; (try with_reducible rfl))
      try simp only [Act.put, List.getElem_toArray, List.getElem_cons_zero, List.getElem_cons_succ, List.setIfInBounds_toArray, List.set_cons_zero, List.set_cons_succ]
      refine wpAnyH_take (i := 4) (v := ?_) rfl (by kernel_rfl) (by kernel_rfl) (by kernel_rfl) (fun _ _ _ h => h) (Or.inl ⟨by rfl, ?_⟩) (by assumption) ?_
      rotate_left
      · (intro w hSw; (try dsimp only at hSw); go_simp; (try with_reducible rfl))
      try simp only [Act.put, List.getElem_toArray, List.getElem_cons_zero, List.getElem_cons_succ, List.setIfInBounds_toArray, List.set_cons_zero, List.set_cons_succ]
      refine wpAnyH_take (i := 5) (v := ?_) rfl (by kernel_rfl) (by kernel_rfl) (by kernel_rfl) (fun _ _ _ h => h) (Or.inl ⟨by rfl, ?_⟩) (by assumption) ?_
      rotate_left
      · (intro w hSw; (try dsimp only at hSw); go_simp; (try with_reducible rfl))
      try simp only [Act.put, List.getElem_toArray, List.getElem_cons_zero, List.getElem_cons_succ, List.setIfInBounds_toArray, List.set_cons_zero, List.set_cons_succ]
      refine wpAnyH_ready (rs := [6]) (by kernel_rfl) (by simp) ?_
      refine AllReadyH.cons rfl (fun K hK => ?_) AllReadyH.nil
      go_simp
      refine (n_any S a len cap (L.length : Int) _ s1' (by omega)).mono ?_
      rintro e wX ⟨r, rfl, r0, r1, sX, gX⟩
      refine hK.out _ _ ?_ (fun hHeld => ?_)
      · exact (BX'.grown gX (by simp; omega)).cell 0
      clear hK K
      try simp only [Act.put, List.getElem_toArray, List.getElem_cons_zero, List.getElem_cons_succ, List.setIfInBounds_toArray, List.set_cons_zero, List.set_cons_succ]
      obtain ⟨k, rfl⟩ : ∃ k : Nat, r = (k : Int) := ⟨r.toNat, by omega⟩
      have hk : k < L.length := by omega
      have y1 : (k : Int) < (L.length : Int) := by omega
      have y3 : (0 : Int) ≤ (k : Int) := by omega
      obtain ⟨m, hm⟩ : ∃ m, L[k]? = some m := ⟨_, List.getElem?_eq_getElem hk⟩
      have hmp : m.path.size ≤ 200 := (unhide HSM m (List.mem_of_getElem? hm)).1
      obtain ⟨b', o', e', -, q0, -⟩ := (Mem.nodes_grown (unhide NV') gX (by simp; omega)) k m hm
      cases e'
      have GG := hide (g0'.trans gX)
      refine wpAnyH_take (i := 7) (v := ?_) rfl (by kernel_rfl) (by kernel_rfl) (by kernel_rfl) (fun _ _ _ h => h) (Or.inl ⟨by rfl, ?_⟩) (by assumption) ?_
      rotate_left
      · (intro w hSw; (try dsimp only at hSw); go_simp; (try with_reducible rfl))
      try simp only [Act.put, List.getElem_toArray, List.getElem_cons_zero, List.getElem_cons_succ, List.setIfInBounds_toArray, List.set_cons_zero, List.set_cons_succ]
      refine wpAnyH_take (i := 8) (v := ?_) rfl (by kernel_rfl) (by kernel_rfl) (by kernel_rfl) (fun _ _ _ h => h) (Or.inl ⟨by rfl, ?_⟩) (by assumption) ?_
      rotate_left
      · (intro w hSw; (try dsimp only at hSw); go_simp; (try with_reducible rfl))
      try simp only [Act.put, List.getElem_toArray, List.getElem_cons_zero, List.getElem_cons_succ, List.setIfInBounds_toArray, List.set_cons_zero, List.set_cons_succ]
      refine wpAnyH_ready (rs := [9]) (by kernel_rfl) (by simp) ?_
      refine AllReadyH.cons rfl (fun K hK => ?_) AllReadyH.nil
      go_simp
      refine hK.out _ _ ?_ (fun hHeld => ?_)
      · exact hHeld
      clear hK K
      try simp only [Act.put, List.getElem_toArray, List.getElem_cons_zero, List.getElem_cons_succ, List.setIfInBounds_toArray, List.set_cons_zero, List.set_cons_succ]
      refine wpAnyH_take (i := 10) (v := ?_) rfl (by kernel_rfl) (by kernel_rfl) (by kernel_rfl) (fun _ _ _ h => h) (Or.inl ⟨by rfl, ?_⟩) (by assumption) ?_
      rotate_left
      · (intro w hSw; (try dsimp only at hSw); go_simp; (try with_reducible rfl))
      try simp only [Act.put, List.getElem_toArray, List.getElem_cons_zero, List.getElem_cons_succ, List.setIfInBounds_toArray, List.set_cons_zero, List.set_cons_succ]
      refine wpAnyH_done (by kernel_rfl) ?_ _
      go_wp2
      go_ret
      exact ⟨_, hmp, rfl, sX, unhide GG⟩
    · go_wp2_with fail
      refine (path_any S a len cap _ s1).mono ?_
      rintro e w3 ⟨t, ht, rfl, s3, g3⟩
      go_wp2
      go_ret
      exact ⟨t, by omega, rfl, s3, g0.trans g3⟩
  · have x0 := BX.cell 0
    simp only [List.getElem?_toArray, List.getElem?_cons_zero, List.getElem?_cons_succ] at x0
    go_enter Tryz.func40, Tryz.ntmps40
    go_wp2_with fail
    refine (path_any S a len cap _ (unhide hs0)).mono ?_
    rintro e w3 ⟨t, ht, rfl, s3, g3⟩
    go_wp2
    go_ret
    exact ⟨t, by omega, rfl, s3, g0.trans g3⟩
theorem row_up {w W : World} {S len cap : Nat} {a : Option Addr} (h : RowB w w.heap.size a len cap) (b : Below w.heap.size w W) (hS : w.heap.size ≤ S) : RowB W S a len cap :=
  ⟨h.1, h.2.1, fun i hi => by
    obtain ⟨g, o, n, h1, h2, h3, h4⟩ := h.2.2 i hi
    exact ⟨g, o, n, h1, Nat.lt_of_lt_of_le h2 hS, h3, (b.cell (p := ⟨g, o + i, none⟩) h2).trans h4⟩⟩
/-- What the draw of a tree and a path keeps. -/
structure Dk (w W : World) (S X : Nat) (a : Option Addr) (len cap : Nat) (va : Option Addr) (vc : Nat) (L : List Pl.Nd) (u : Value) : Prop where
  lo : w.heap.size < S
  hi : S < X
  bel : Below w.heap.size w W
  src : Src W S a len cap
  two : Mem.Blk W w.heap.size #[u] 25
  one : Mem.Blk W X #[.slice va L.length vc] 25
  tv : TreeV W (S + 1) va vc L
  row : RowB w w.heap.size a len cap
section
variable {w W W' : World} {S X len cap vc : Nat} {a va : Option Addr} {L : List Pl.Nd} {u : Value}
theorem Dk.call (h : Dk w W S X a len cap va vc L u) (s : Src W' S a len cap) (g : W.grownBy W' (some S)) : Dk w W' S X a len cap va vc L u :=
  have l := h.lo
  have l2 := h.hi
  ⟨l, l2, h.bel.grown g h.bel.size (fun q hq => by cases hq; omega), s, h.two.grown g (by simp; omega), h.one.grown g (by simp; omega), h.tv.grown g (fun q hq => by cases hq; omega), h.row⟩
theorem Dk.drew (h : Dk w W S X a len cap va vc L u) : Dk w W.drew S X a len cap va vc L u :=
  ⟨h.lo, h.hi, ⟨h.bel.os, h.bel.tape, h.bel.output, h.bel.size, h.bel.block⟩, h.src, h.two, h.one, h.tv, h.row⟩
theorem Dk.put (h : Dk w W S X a len cap va vc L u) (u' : Value) : Dk w (W.setCell ⟨w.heap.size, 0, none⟩ u') S X a len cap va vc L u' :=
  have l := h.lo
  have l2 := h.hi
  have hb2 : Below w.heap.size w (W.setCell ⟨w.heap.size, 0, none⟩ u') := h.bel.setCell (Nat.le_refl _) _
  ⟨l, l2, hb2, (by
    obtain ⟨hr, p, m, sz, hb, hp, h0, h1⟩ := h.src
    exact ⟨row_up h.row hb2 (by omega), p, m, sz, (Below.heap_setCell W ⟨w.heap.size, 0, none⟩ u' S (by show S ≠ w.heap.size; omega)).trans hb, hp, h0, h1⟩), h.two.put 0 u', h.one.far _ _ (by show X ≠ w.heap.size; omega), h.tv.set _ _ _ (by omega), h.row⟩
end
set_option linter.unusedSimpArgs false in
set_option maxRecDepth 100000 in
set_option maxHeartbeats 4000000 in
theorem drawGet_any (a : Option Addr) (len cap : Nat) (w : World) (hr : RowB w w.heap.size a len cap) :
    Calls Tryz.prog 9 #[.slice a len cap] w fun e w' => ∃ (va : Option Addr) (vc : Nat) (L : List Pl.Nd) (p : ByteArray), L.length ≤ 64 ∧ Pl.smallL L ∧ p.size ≤ 200 ∧ e = .returned (.tuple #[.agg #[.slice va L.length vc], .string p]) ∧ TreeV w' w.heap.size va vc L ∧ Below w.heap.size w w' := by
  have b0 : Below w.heap.size w (w.alloc (.cells #[.slice none 0 0] 25)) := (Below.refl _ _).alloc (Nat.le_refl _) _
  have hz0 : (w.alloc (.cells #[.slice none 0 0] 25)).heap.size = w.heap.size + 1 := by simp
  have h0 := hide (source_any a len cap (w.alloc (.cells #[.slice none 0 0] 25)) (row_up hr b0 (by omega)))
  have BA := Mem.Blk.new w #[.slice none 0 0] 25
  rw [hz0] at h0
  have HR := hide hr
  clear hr
  go_enter Tryz.func9, Tryz.ntmps9
  go_wp2_with fail
  generalize w.alloc (.cells #[.slice none 0 0] 25) = w0 at h0 b0 BA hz0 ⊢
  refine (unhide h0).mono ?_
  rintro e w1 ⟨rfl, hs, b1⟩
  have BA := BA.below b1 (by omega)
  have b1 := b0.trans (b1.mono (by omega))
  clear h0 b0
  go_wp2_with fail
  refine (tree_any (w.heap.size + 1) a len cap _ hs).mono ?_
  rintro e w2 ⟨va, vc, L, hl, hsm, rfl, tv, s2, g2⟩
  have HSM := hide hsm
  have hlt := src_lt hs
  have D3 : Hid (Dk w (w2.alloc (.cells #[.slice va L.length vc] 25)) (w.heap.size + 1) w2.heap.size a len cap va vc L (.slice none 0 0)) :=
    ⟨by omega, by have := g2.size; omega, (b1.grown g2 b1.size (fun q hq => by cases hq; omega)).alloc (by have := b1.size; have := g2.size; omega) _, src_alloc s2 _, (BA.grown g2 (by simp)).alloc _, Mem.Blk.new _ _ _, (tv.mono (by omega)).alloc _, unhide HR⟩
  clear hs s2 g2 tv BA b1 hsm HR hlt hz0
  obtain ⟨S0, hS0⟩ : ∃ S0, S0 = w.heap.size + 1 := ⟨_, rfl⟩
  rw [← hS0] at D3
  have x0 := (unhide D3).one.cell 0
  simp only [List.getElem?_toArray, List.getElem?_cons_zero, List.getElem?_cons_succ] at x0
  go_wp2_with fail
  rw [← hS0]
  have HS0 := hide hS0
  clear hS0
  generalize w2.alloc (.cells #[.slice va L.length vc] 25) = w3 at D3 x0 ⊢
  generalize w2.heap.size = X at D3 x0 ⊢
  refine wp_region_held_drew (S := fun W' => W'.cell? ⟨X, 0, none⟩ = some (.slice va L.length vc)) (by kernel_rfl) ?_ (fun hHeld => ?_)
  · exact (unhide D3).one.cell 0
  have D4 := hide (unhide D3).drew
  generalize w3.drew = W4 at D4 hHeld ⊢
  clear D3
  refine wpAnyH_take (i := 0) (v := ?_) rfl (by kernel_rfl) (by kernel_rfl) (by kernel_rfl) (fun _ _ _ h => h) (Or.inl ⟨by rfl, ?_⟩) (by assumption) ?_
  rotate_left
  · (intro w hSw; (try dsimp only at hSw); go_simp; (try with_reducible rfl))
  try simp only [Act.put, List.getElem_toArray, List.getElem_cons_zero, List.getElem_cons_succ, List.setIfInBounds_toArray, List.set_cons_zero, List.set_cons_succ]
  refine wpAnyH_take (i := 1) (v := ?_) rfl (by kernel_rfl) (by kernel_rfl) (by kernel_rfl) (fun _ _ _ h => h) (Or.inl ⟨by rfl, ?_⟩) (by assumption) ?_
  rotate_left
  · (intro w hSw; (try dsimp only at hSw); go_simp; (try with_reducible rfl))
  try simp only [Act.put, List.getElem_toArray, List.getElem_cons_zero, List.getElem_cons_succ, List.setIfInBounds_toArray, List.set_cons_zero, List.set_cons_succ]
  refine wpAnyH_take (i := 2) (v := ?_) rfl (by kernel_rfl) (by kernel_rfl) (by kernel_rfl) (fun _ _ _ h => h) (Or.inl ⟨by rfl, ?_⟩) (by assumption) ?_
  rotate_left
  · (intro w hSw; (try dsimp only at hSw); go_simp; (try with_reducible rfl))
  try simp only [Act.put, List.getElem_toArray, List.getElem_cons_zero, List.getElem_cons_succ, List.setIfInBounds_toArray, List.set_cons_zero, List.set_cons_succ]
  refine wpAnyH_ready (rs := [3]) (by kernel_rfl) (by simp) ?_
  refine AllReadyH.cons rfl (fun K hK => ?_) AllReadyH.nil
  go_simp
  refine (some_any S0 a len cap (S0 + 1) va vc L _ (unhide D4).src (by omega) (unhide D4).tv hl (unhide HSM)).mono ?_
  rintro e w5 ⟨p, hp, rfl, s5, g5⟩
  have D5 := hide ((unhide D4).call s5 g5)
  clear s5 g5
  refine hK.out _ _ ?_ (fun hHeld => ?_)
  · exact (unhide D5).one.cell 0
  clear hK K
  try simp only [Act.put, List.getElem_toArray, List.getElem_cons_zero, List.getElem_cons_succ, List.setIfInBounds_toArray, List.set_cons_zero, List.set_cons_succ]
  have k0 := (unhide D5).two.cell 0
  have kf := (unhide D5).two.fr 0
  simp only [List.getElem?_toArray, List.getElem?_cons_zero, List.getElem?_cons_succ] at k0
  have D6 := hide ((unhide D5).put (.slice va L.length vc))
  refine wpAnyH_ready (rs := [4]) (by kernel_rfl) (by simp) ?_
  refine AllReadyH.cons rfl (fun K hK => ?_) AllReadyH.nil
  go_simp
  refine hK.out _ _ ?_ (fun hHeld => ?_)
  · exact (unhide D6).one.cell 0
  clear hK K
  try simp only [Act.put, List.getElem_toArray, List.getElem_cons_zero, List.getElem_cons_succ, List.setIfInBounds_toArray, List.set_cons_zero, List.set_cons_succ]
  refine wpAnyH_take (i := 5) (v := ?_) rfl (by kernel_rfl) (by kernel_rfl) (by kernel_rfl) (fun _ _ _ h => h) (Or.inl ⟨by rfl, ?_⟩) (by assumption) ?_
  rotate_left
  · (intro w hSw; (try dsimp only at hSw); go_simp; (try with_reducible rfl))
  try simp only [Act.put, List.getElem_toArray, List.getElem_cons_zero, List.getElem_cons_succ, List.setIfInBounds_toArray, List.set_cons_zero, List.set_cons_succ]
  refine wpAnyH_done (by kernel_rfl) ?_ _
  have q := (unhide D6).two.cell
  go_wp2
  refine bodyPost_ret (v := .tuple #[.agg #[.slice va L.length vc], .string p]) (by simp [results, Tryz.results9, go_sem, q]) rfl ?_
  exact ⟨va, vc, L, p, hl, unhide HSM, hp, rfl, (unhide D6).tv.mono (by have := (unhide D6).lo; omega), (unhide D6).bel⟩
end WSrc
end Go.Proofs.YthkfhjemcekpgaaGreatDoor

/- The walk of the draw of a tree and a node (by genDP.py). -/
namespace Go.Proofs.YthkfhjemcekpgaaGreatDoor
open Go.RowKit
namespace WSrc
/-- What the draw of a tree and a node keeps: the results at S - 2 and S - 1, the source at S, the tree at X, the node at Y. -/
structure Pk (w W : World) (S X Y : Nat) (a : Option Addr) (len cap : Nat) (va : Option Addr) (vc : Nat) (L : List Pl.Nd) (n : Pl.Nd) : Prop where
  lo : w.heap.size + 2 = S
  hi : S < X
  hy : X < Y
  bel : Below w.heap.size w W
  src : Src W S a len cap
  r0 : Mem.Blk W w.heap.size #[.slice none 0 0] 25
  r1 : Mem.Blk W (w.heap.size + 1) #[.string ⟨#[]⟩, .int .i64 0, .string ⟨#[]⟩, .int .i64 0, .int .i64 0] 27
  one : Mem.Blk W X #[.slice va L.length vc] 25
  two : Mem.Blk W Y n.cs.toArray 27
  tv : TreeV W (S + 1) va vc L
  row : RowB w w.heap.size a len cap
  ny : ∀ g o, va = some ⟨g, o, none⟩ → g ≠ Y
section
variable {w W W' : World} {S X Y len cap vc : Nat} {a va : Option Addr} {L : List Pl.Nd} {n : Pl.Nd}
theorem Pk.call (h : Pk w W S X Y a len cap va vc L n) (s : Src W' S a len cap) (g : W.grownBy W' (some S)) : Pk w W' S X Y a len cap va vc L n :=
  have l := h.lo
  have l2 := h.hi
  have l3 := h.hy
  ⟨l, l2, l3, h.bel.grown g h.bel.size (fun q hq => by cases hq; omega), s, h.r0.grown g (by simp; omega), h.r1.grown g (by simp; omega), h.one.grown g (by simp; omega), h.two.grown g (by simp; omega), h.tv.grown g (fun q hq => by cases hq; omega), h.row, h.ny⟩
theorem Pk.drew (h : Pk w W S X Y a len cap va vc L n) : Pk w W.drew S X Y a len cap va vc L n :=
  ⟨h.lo, h.hi, h.hy, ⟨h.bel.os, h.bel.tape, h.bel.output, h.bel.size, h.bel.block⟩, h.src, h.r0, h.r1, h.one, h.two, h.tv, h.row, h.ny⟩
/-- Another path in the node. -/
theorem Pk.path (h : Pk w W S X Y a len cap va vc L n) (p : ByteArray) : Pk w (W.setCell ⟨Y, 0, none⟩ (.string p)) S X Y a len cap va vc L { n with path := p } := by
  have l := h.lo
  have l2 := h.hi
  have l3 := h.hy
  refine ⟨l, l2, l3, h.bel.setCell (by show w.heap.size ≤ Y; omega) _, src_put h.src 0 _ (by omega), h.r0.far _ _ (by show w.heap.size ≠ Y; omega), h.r1.far _ _ (by show w.heap.size + 1 ≠ Y; omega), h.one.far _ _ (by show X ≠ Y; omega), h.two.put 0 _, ?_, h.row, h.ny⟩
  refine ⟨?_, WPutG.okA_call h.tv.2.1 (by rw [World.size_setCell]; exact Nat.le_refl _), h.tv.2.2⟩
  rcases h.tv.2.1 with ⟨rfl, rfl, rfl⟩ | ⟨b, o, rfl, h2, h3⟩
  · exact Mem.nodes_nil _ _
  · exact Mem.nodes_grown h.tv.1 (grown_set (grown_refl W (some Y))) (fun e => h.ny b o rfl (Option.some.inj e))
theorem Pk.done0 (h : Pk w W S X Y a len cap va vc L n) : TreeV ((((((W.setCell ⟨w.heap.size, 0, none⟩ (.slice va L.length vc)).setCell ⟨w.heap.size + 1, 0, none⟩ (.string n.path)).setCell ⟨w.heap.size + 1, 1, none⟩ (.int .i64 n.kind)).setCell ⟨w.heap.size + 1, 2, none⟩ (.string n.data)).setCell ⟨w.heap.size + 1, 3, none⟩ (.int .i64 n.time)).setCell ⟨w.heap.size + 1, 4, none⟩ (.int .i64 n.mark)) w.heap.size va vc L ∧ Below w.heap.size w ((((((W.setCell ⟨w.heap.size, 0, none⟩ (.slice va L.length vc)).setCell ⟨w.heap.size + 1, 0, none⟩ (.string n.path)).setCell ⟨w.heap.size + 1, 1, none⟩ (.int .i64 n.kind)).setCell ⟨w.heap.size + 1, 2, none⟩ (.string n.data)).setCell ⟨w.heap.size + 1, 3, none⟩ (.int .i64 n.time)).setCell ⟨w.heap.size + 1, 4, none⟩ (.int .i64 n.mark)) ∧ Mem.Blk ((((((W.setCell ⟨w.heap.size, 0, none⟩ (.slice va L.length vc)).setCell ⟨w.heap.size + 1, 0, none⟩ (.string n.path)).setCell ⟨w.heap.size + 1, 1, none⟩ (.int .i64 n.kind)).setCell ⟨w.heap.size + 1, 2, none⟩ (.string n.data)).setCell ⟨w.heap.size + 1, 3, none⟩ (.int .i64 n.time)).setCell ⟨w.heap.size + 1, 4, none⟩ (.int .i64 n.mark)) w.heap.size #[.slice va L.length vc] 25 ∧ Mem.Blk ((((((W.setCell ⟨w.heap.size, 0, none⟩ (.slice va L.length vc)).setCell ⟨w.heap.size + 1, 0, none⟩ (.string n.path)).setCell ⟨w.heap.size + 1, 1, none⟩ (.int .i64 n.kind)).setCell ⟨w.heap.size + 1, 2, none⟩ (.string n.data)).setCell ⟨w.heap.size + 1, 3, none⟩ (.int .i64 n.time)).setCell ⟨w.heap.size + 1, 4, none⟩ (.int .i64 n.mark)) (w.heap.size + 1) n.cs.toArray 27 := by
  have l := h.lo
  have e : w.heap.size ≠ w.heap.size + 1 := by omega
  refine ⟨?_, ?_, ?_, ?_⟩
  · exact ((((((h.tv.set _ _ _ (by omega)).set _ _ _ (by omega)).set _ _ _ (by omega)).set _ _ _ (by omega)).set _ _ _ (by omega)).set _ _ _ (by omega)).mono (by omega)
  · exact (((((h.bel.setCell (Nat.le_refl _) _).setCell (Nat.le_succ _) _).setCell (Nat.le_succ _) _).setCell (Nat.le_succ _) _).setCell (Nat.le_succ _) _).setCell (Nat.le_succ _) _
  · exact (((((h.r0.put 0 (.slice va L.length vc)).far _ _ e).far _ _ e).far _ _ e).far _ _ e).far _ _ e
  · exact (((((h.r1.far ⟨w.heap.size, 0, none⟩ (.slice va L.length vc) e.symm).put 0 (.string n.path)).put 1 (.int .i64 n.kind)).put 2 (.string n.data)).put 3 (.int .i64 n.time)).put 4 (.int .i64 n.mark)
theorem drew4 {W6 : World} {B X1 X2 : Nat} {c1 c2 : Array Value} {T1 T2 : TypeId} (h : TreeV W6 B va vc L ∧ Below w.heap.size w W6 ∧ Mem.Blk W6 X1 c1 T1 ∧ Mem.Blk W6 X2 c2 T2) : TreeV W6.drew B va vc L ∧ Below w.heap.size w W6.drew ∧ Mem.Blk W6.drew X1 c1 T1 ∧ Mem.Blk W6.drew X2 c2 T2 :=
  ⟨⟨h.1.1, h.1.2.1, h.1.2.2⟩, ⟨h.2.1.os, h.2.1.tape, h.2.1.output, h.2.1.size, h.2.1.block⟩, h.2.2.1, h.2.2.2⟩
theorem Pk.done (h : Pk w W S X Y a len cap va vc L n) : TreeV (((((((W.setCell ⟨w.heap.size, 0, none⟩ (.slice va L.length vc)).setCell ⟨w.heap.size + 1, 0, none⟩ (.string n.path)).setCell ⟨w.heap.size + 1, 1, none⟩ (.int .i64 n.kind)).setCell ⟨w.heap.size + 1, 2, none⟩ (.string n.data)).setCell ⟨w.heap.size + 1, 3, none⟩ (.int .i64 n.time)).setCell ⟨w.heap.size + 1, 4, none⟩ (.int .i64 n.mark))).drew w.heap.size va vc L ∧ Below w.heap.size w (((((((W.setCell ⟨w.heap.size, 0, none⟩ (.slice va L.length vc)).setCell ⟨w.heap.size + 1, 0, none⟩ (.string n.path)).setCell ⟨w.heap.size + 1, 1, none⟩ (.int .i64 n.kind)).setCell ⟨w.heap.size + 1, 2, none⟩ (.string n.data)).setCell ⟨w.heap.size + 1, 3, none⟩ (.int .i64 n.time)).setCell ⟨w.heap.size + 1, 4, none⟩ (.int .i64 n.mark))).drew ∧ Mem.Blk (((((((W.setCell ⟨w.heap.size, 0, none⟩ (.slice va L.length vc)).setCell ⟨w.heap.size + 1, 0, none⟩ (.string n.path)).setCell ⟨w.heap.size + 1, 1, none⟩ (.int .i64 n.kind)).setCell ⟨w.heap.size + 1, 2, none⟩ (.string n.data)).setCell ⟨w.heap.size + 1, 3, none⟩ (.int .i64 n.time)).setCell ⟨w.heap.size + 1, 4, none⟩ (.int .i64 n.mark))).drew w.heap.size #[.slice va L.length vc] 25 ∧ Mem.Blk (((((((W.setCell ⟨w.heap.size, 0, none⟩ (.slice va L.length vc)).setCell ⟨w.heap.size + 1, 0, none⟩ (.string n.path)).setCell ⟨w.heap.size + 1, 1, none⟩ (.int .i64 n.kind)).setCell ⟨w.heap.size + 1, 2, none⟩ (.string n.data)).setCell ⟨w.heap.size + 1, 3, none⟩ (.int .i64 n.time)).setCell ⟨w.heap.size + 1, 4, none⟩ (.int .i64 n.mark))).drew (w.heap.size + 1) n.cs.toArray 27 := by
  exact drew4 h.done0
end
set_option linter.unusedSimpArgs false in
set_option maxRecDepth 100000 in
set_option maxHeartbeats 4000000 in
theorem drawPut_any (a : Option Addr) (len cap : Nat) (w : World) (hr : RowB w w.heap.size a len cap) :
    Calls Tryz.prog 5 #[.slice a len cap] w fun e w' => ∃ (va : Option Addr) (vc : Nat) (L : List Pl.Nd) (n : Pl.Nd), L.length ≤ 64 ∧ Pl.smallL L ∧ Pl.smallN n ∧ e = .returned (.tuple #[.agg #[.slice va L.length vc], n.val]) ∧ TreeV w' w.heap.size va vc L ∧ Below w.heap.size w w' := by
  have b0 : Below w.heap.size w ((w.alloc (.cells #[.slice none 0 0] 25)).alloc (.cells #[.string ⟨#[]⟩, .int .i64 0, .string ⟨#[]⟩, .int .i64 0, .int .i64 0] 27)) := ((Below.refl _ _).alloc (Nat.le_refl _) _).alloc (by simp) _
  have hz0 : ((w.alloc (.cells #[.slice none 0 0] 25)).alloc (.cells #[.string ⟨#[]⟩, .int .i64 0, .string ⟨#[]⟩, .int .i64 0, .int .i64 0] 27)).heap.size = w.heap.size + 2 := by simp
  have h0 := hide (source_any a len cap _ (row_up hr b0 (by omega)))
  have B0 := (Mem.Blk.new w #[.slice none 0 0] 25).alloc (.cells #[.string ⟨#[]⟩, .int .i64 0, .string ⟨#[]⟩, .int .i64 0, .int .i64 0] 27)
  have B1 : Mem.Blk ((w.alloc (.cells #[.slice none 0 0] 25)).alloc (.cells #[.string ⟨#[]⟩, .int .i64 0, .string ⟨#[]⟩, .int .i64 0, .int .i64 0] 27)) (w.heap.size + 1) #[.string ⟨#[]⟩, .int .i64 0, .string ⟨#[]⟩, .int .i64 0, .int .i64 0] 27 := Mem.new_two _ _ _
  rw [hz0] at h0
  have HR := hide hr
  clear hr
  go_enter Tryz.func5, Tryz.ntmps5
  go_wp2_with fail
  generalize (w.alloc (.cells #[.slice none 0 0] 25)).alloc (.cells #[.string ⟨#[]⟩, .int .i64 0, .string ⟨#[]⟩, .int .i64 0, .int .i64 0] 27) = w0 at h0 b0 B0 B1 hz0 ⊢
  refine (unhide h0).mono ?_
  rintro e w1 ⟨rfl, hs, b1⟩
  have B0 := B0.below b1 (by omega)
  have B1 := B1.below b1 (by omega)
  have b1 := b0.trans (b1.mono (by omega))
  clear h0 b0
  go_wp2_with fail
  refine (tree_any (w.heap.size + 2) a len cap _ hs).mono ?_
  rintro e w2 ⟨va, vc, L, hl, hsm, rfl, tv, s2, g2⟩
  have HSM := hide hsm
  have hlt := src_lt hs
  have B0 := (B0.grown g2 (by simp)).alloc (.cells #[.slice va L.length vc] 25)
  have B1 := (B1.grown g2 (by simp)).alloc (.cells #[.slice va L.length vc] 25)
  have BX := Mem.Blk.new w2 #[.slice va L.length vc] 25
  have b2 := (b1.grown g2 b1.size (fun q hq => by cases hq; omega)).alloc (by have := b1.size; have := g2.size; omega) (.cells #[.slice va L.length vc] 25)
  have hX : w.heap.size + 2 < w2.heap.size := by have := g2.size; omega
  have s3 := src_alloc s2 (.cells #[.slice va L.length vc] 25)
  have TV := hide ((tv.mono (show w.heap.size + 2 + 1 ≤ w1.heap.size by omega)).alloc (.cells #[.slice va L.length vc] 25))
  clear hs s2 g2 tv b1 hsm hlt hz0
  go_wp2_with fail
  generalize hw3 : w2.alloc (.cells #[.slice va L.length vc] 25) = w3 at B0 B1 BX b2 s3 TV ⊢
  generalize w2.heap.size = X at BX hX ⊢
  clear hw3
  refine (node_any (w.heap.size + 2) a len cap _ s3).mono ?_
  rintro e w4 ⟨n, hn1, hn2, hn3, hn4, hn5, hn6, hn7, hn8, rfl, s4, g4⟩
  obtain ⟨np, nk, nd, nt, nm⟩ := n
  simp only [Pl.Nd.val] at hn1 hn2 hn3 hn4 hn5 hn6 hn7 hn8 ⊢
  have HN : Hid (np.size ≤ 200 ∧ nd.size ≤ 200 ∧ -2000000 ≤ nk ∧ nk ≤ 2000000 ∧ -2000000 ≤ nt ∧ nt ≤ 2000000 ∧ -2000000 ≤ nm ∧ nm ≤ 2000000) := ⟨by omega, by omega, hn3, hn4, hn5, hn6, hn7, hn8⟩
  have hXl := BX.lt
  have hg4 := g4.size
  have TV4 := (unhide TV).grown g4 (fun q hq => by cases hq; omega)
  have D : Hid (Pk w (w4.alloc (.cells #[.string np, .int .i64 nk, .string nd, .int .i64 nt, .int .i64 nm] 27)) (w.heap.size + 2) X w4.heap.size a len cap va vc L ⟨np, nk, nd, nt, nm⟩) :=
    ⟨rfl, hX, by omega, (b2.grown g4 b2.size (fun q hq => by cases hq; omega)).alloc (by have := b2.size; omega) _, src_alloc s4 _, (B0.grown g4 (by simp)).alloc _, (B1.grown g4 (by simp)).alloc _, (BX.grown g4 (by simp; omega)).alloc _, Mem.Blk.new _ _ _, TV4.alloc _, unhide HR, fun g o e => by
      rcases TV4.2.1 with ⟨h, _⟩ | ⟨b, o', h, h2, _⟩
      · rw [h] at e; cases e
      · rw [h] at e; cases e; omega⟩
  clear s3 s4 g4 TV TV4 BX B0 B1 b2 hX hXl hg4 HR hn1 hn2 hn3 hn4 hn5 hn6 hn7 hn8
  obtain ⟨S0, hS0⟩ : ∃ S0, S0 = w.heap.size + 2 := ⟨_, rfl⟩
  rw [← hS0] at D
  go_wp2_with fail
  rw [← hS0]
  have HS0 := hide hS0
  clear hS0
  generalize hw5 : w4.alloc (.cells #[.string np, .int .i64 nk, .string nd, .int .i64 nt, .int .i64 nm] 27) = w5 at D ⊢
  generalize w4.heap.size = Y at D ⊢
  clear hw5
  refine (one_any S0 a len cap 3 _ (unhide D).src (by omega)).mono ?_
  rintro e w6 ⟨r3, rfl, s6, g6⟩
  have D := hide ((unhide D).call s6 g6)
  clear s6 g6
  have x0 := (unhide D).one.cell 0
  simp only [List.getElem?_toArray, List.getElem?_cons_zero, List.getElem?_cons_succ] at x0
  cases r3
  · skip
    have z0 := (unhide D).r0.cell 0
    have u0 := (unhide D).r1.cell 0
    have u1 := (unhide D).r1.cell 1
    have u2 := (unhide D).r1.cell 2
    have u3 := (unhide D).r1.cell 3
    have u4 := (unhide D).r1.cell 4
    have zf := (unhide D).r0.fr 0
    have uf0 := (unhide D).r1.fr 0
    have uf1 := (unhide D).r1.fr 1
    have uf2 := (unhide D).r1.fr 2
    have uf3 := (unhide D).r1.fr 3
    have uf4 := (unhide D).r1.fr 4
    have x1 := (unhide D).one.cell 0
    have v0 := (unhide D).two.cell 0
    have v1 := (unhide D).two.cell 1
    have v2 := (unhide D).two.cell 2
    have v3 := (unhide D).two.cell 3
    have v4 := (unhide D).two.cell 4
    simp only [Pl.Nd.cs, List.getElem?_toArray, List.getElem?_cons_zero, List.getElem?_cons_succ] at z0 u0 u1 u2 u3 u4 x1 v0 v1 v2 v3 v4
    have lo := (unhide D).lo
    have hi := (unhide D).hi
    have hy := (unhide D).hy
    have m1 : ¬ w.heap.size = X := by omega
    have m2 : ¬ w.heap.size = Y := by omega
    have m3 : ¬ w.heap.size + 1 = X := by omega
    have m4 : ¬ w.heap.size + 1 = Y := by omega
    have m5 : ¬ X = w.heap.size := by omega
    have m6 : ¬ Y = w.heap.size := by omega
    have m7 : ¬ X = w.heap.size + 1 := by omega
    have m8 : ¬ Y = w.heap.size + 1 := by omega
    clear lo hi hy
    go_wp2
    go_region
    go_wp2
    have hD := (unhide D).done
    have q0 := hD.2.2.1.cell
    have q1 := hD.2.2.2.cell
    simp only [Pl.Nd.cs] at q1
    refine bodyPost_ret (v := .tuple #[.agg #[.slice va L.length vc], .agg #[.string np, .int .i64 nk, .string nd, .int .i64 nt, .int .i64 nm]]) (by simp [results, Tryz.results5, go_sem, q0, q1]) rfl ⟨va, vc, L, ⟨np, nk, nd, nt, nm⟩, hl, unhide HSM, unhide HN, rfl, hD.1, hD.2.1⟩
  · by_cases h0 : (0 : Int) < (L.length : Int)
    · obtain ⟨b, o, rfl⟩ : ∃ b o, va = some ⟨b, o, none⟩ := by
        rcases (unhide D).tv.2.1 with ⟨_, _, rfl⟩ | ⟨b, o, e, _⟩
        · simp at h0
        · exact ⟨b, o, e⟩
      go_wp2_with fail
      refine wp_region_held_drew (S := fun W' => W'.cell? ⟨X, 0, none⟩ = some (.slice (some ⟨b, o, none⟩) L.length vc)) (by kernel_rfl) ?_ (fun hHeld => ?_)
      · exact (unhide D).one.cell 0
      have D := hide (unhide D).drew
      generalize w6.drew = WD at D hHeld ⊢
      clear x0
      refine wpAnyH_take (i := 0) (v := ?_) rfl (by kernel_rfl) (by kernel_rfl) (by kernel_rfl) (fun _ _ _ h => h) (Or.inl ⟨by rfl, ?_⟩) (by assumption) ?_
      rotate_left
      · (intro w hSw; (try dsimp only at hSw); go_simp; (try with_reducible rfl))
      try simp only [Act.put, List.getElem_toArray, List.getElem_cons_zero, List.getElem_cons_succ, List.setIfInBounds_toArray, List.set_cons_zero, List.set_cons_succ]
      refine wpAnyH_take (i := 1) (v := ?_) rfl (by kernel_rfl) (by kernel_rfl) (by kernel_rfl) (fun _ _ _ h => h) (Or.inl ⟨by rfl, ?_⟩) (by assumption) ?_
      rotate_left
      · (intro w hSw; (try dsimp only at hSw); go_simp; (try with_reducible rfl))
      try simp only [Act.put, List.getElem_toArray, List.getElem_cons_zero, List.getElem_cons_succ, List.setIfInBounds_toArray, List.set_cons_zero, List.set_cons_succ]
      refine wpAnyH_take (i := 2) (v := ?_) rfl (by kernel_rfl) (by kernel_rfl) (by kernel_rfl) (fun _ _ _ h => h) (Or.inl ⟨by rfl, ?_⟩) (by assumption) ?_
      rotate_left
      · (intro w hSw; (try dsimp only at hSw); go_simp; (try with_reducible rfl))
      try simp only [Act.put, List.getElem_toArray, List.getElem_cons_zero, List.getElem_cons_succ, List.setIfInBounds_toArray, List.set_cons_zero, List.set_cons_succ]
      refine wpAnyH_take (i := 3) (v := ?_) rfl (by kernel_rfl) (by kernel_rfl) (by kernel_rfl) (fun _ _ _ h => h) (Or.inl ⟨by rfl, ?_⟩) (by assumption) ?_
      rotate_left
      · (intro w hSw; (try dsimp only at hSw); go_simp; (try with_reducible rfl))
      try simp only [Act.put, List.getElem_toArray, List.getElem_cons_zero, List.getElem_cons_succ, List.setIfInBounds_toArray, List.set_cons_zero, List.set_cons_succ]
      refine wpAnyH_take (i := 4) (v := ?_) rfl (by kernel_rfl) (by kernel_rfl) (by kernel_rfl) (fun _ _ _ h => h) (Or.inl ⟨by rfl, ?_⟩) (by assumption) ?_
      rotate_left
      · (intro w hSw; (try dsimp only at hSw); go_simp; (try with_reducible rfl))
      try simp only [Act.put, List.getElem_toArray, List.getElem_cons_zero, List.getElem_cons_succ, List.setIfInBounds_toArray, List.set_cons_zero, List.set_cons_succ]
      refine wpAnyH_take (i := 5) (v := ?_) rfl (by kernel_rfl) (by kernel_rfl) (by kernel_rfl) (fun _ _ _ h => h) (Or.inl ⟨by rfl, ?_⟩) (by assumption) ?_
      rotate_left
      · (intro w hSw; (try dsimp only at hSw); go_simp; (try with_reducible rfl))
      try simp only [Act.put, List.getElem_toArray, List.getElem_cons_zero, List.getElem_cons_succ, List.setIfInBounds_toArray, List.set_cons_zero, List.set_cons_succ]
      refine wpAnyH_ready (rs := [6]) (by kernel_rfl) (by simp) ?_
      refine AllReadyH.cons rfl (fun K hK => ?_) AllReadyH.nil
      go_simp
      refine (n_any S0 a len cap (L.length : Int) _ (unhide D).src (by omega)).mono ?_
      rintro e wX ⟨r, rfl, r0, r1, sX, gX⟩
      have D := hide ((unhide D).call sX gX)
      clear sX gX
      refine hK.out _ _ ?_ (fun hHeld => ?_)
      · exact (unhide D).one.cell 0
      clear hK K
      try simp only [Act.put, List.getElem_toArray, List.getElem_cons_zero, List.getElem_cons_succ, List.setIfInBounds_toArray, List.set_cons_zero, List.set_cons_succ]
      obtain ⟨k, rfl⟩ : ∃ k : Nat, r = (k : Int) := ⟨r.toNat, by omega⟩
      have hk : k < L.length := by omega
      have y1 : (k : Int) < (L.length : Int) := by omega
      have y3 : (0 : Int) ≤ (k : Int) := by omega
      obtain ⟨m, hm⟩ : ∃ m, L[k]? = some m := ⟨_, List.getElem?_eq_getElem hk⟩
      have hmp : m.path.size ≤ 200 := (unhide HSM m (List.mem_of_getElem? hm)).1
      obtain ⟨b', o', e', -, q0, -⟩ := (unhide D).tv.1 k m hm
      cases e'
      have k0 := (unhide D).two.cell 0
      have kf := (unhide D).two.fr 0
      simp only [List.getElem?_toArray, List.getElem?_cons_zero, List.getElem?_cons_succ] at k0
      refine wpAnyH_take (i := 7) (v := ?_) rfl (by kernel_rfl) (by kernel_rfl) (by kernel_rfl) (fun _ _ _ h => h) (Or.inl ⟨by rfl, ?_⟩) (by assumption) ?_
      rotate_left
      · (intro w hSw; (try dsimp only at hSw); go_simp; (try with_reducible rfl))
      try simp only [Act.put, List.getElem_toArray, List.getElem_cons_zero, List.getElem_cons_succ, List.setIfInBounds_toArray, List.set_cons_zero, List.set_cons_succ]
      refine wpAnyH_take (i := 8) (v := ?_) rfl (by kernel_rfl) (by kernel_rfl) (by kernel_rfl) (fun _ _ _ h => h) (Or.inl ⟨by rfl, ?_⟩) (by assumption) ?_
      rotate_left
      · (intro w hSw; (try dsimp only at hSw); go_simp; (try with_reducible rfl))
      try simp only [Act.put, List.getElem_toArray, List.getElem_cons_zero, List.getElem_cons_succ, List.setIfInBounds_toArray, List.set_cons_zero, List.set_cons_succ]
      refine wpAnyH_ready (rs := [9]) (by kernel_rfl) (by simp) ?_
      refine AllReadyH.cons rfl (fun K hK => ?_) AllReadyH.nil
      go_simp
      refine hK.out _ _ ?_ (fun hHeld => ?_)
      · exact hHeld
      clear hK K
      try simp only [Act.put, List.getElem_toArray, List.getElem_cons_zero, List.getElem_cons_succ, List.setIfInBounds_toArray, List.set_cons_zero, List.set_cons_succ]
      refine wpAnyH_take (i := 10) (v := ?_) rfl (by kernel_rfl) (by kernel_rfl) (by kernel_rfl) (fun _ _ _ h => h) (Or.inl ⟨by rfl, ?_⟩) (by assumption) ?_
      rotate_left
      · (intro w hSw; (try dsimp only at hSw); go_simp; (try with_reducible rfl))
      try simp only [Act.put, List.getElem_toArray, List.getElem_cons_zero, List.getElem_cons_succ, List.setIfInBounds_toArray, List.set_cons_zero, List.set_cons_succ]
      have D := hide ((unhide D).path m.path)
      refine wpAnyH_ready (rs := [11]) (by kernel_rfl) (by simp) ?_
      refine AllReadyH.cons rfl (fun K hK => ?_) AllReadyH.nil
      go_simp
      refine hK.out _ _ ?_ (fun hHeld => ?_)
      · exact (unhide D).one.cell 0
      clear hK K
      try simp only [Act.put, List.getElem_toArray, List.getElem_cons_zero, List.getElem_cons_succ, List.setIfInBounds_toArray, List.set_cons_zero, List.set_cons_succ]
      refine wpAnyH_done (by kernel_rfl) ?_ _
      have x0 := hHeld
      clear q0 k0 kf hm hHeld
      have HN : Hid (m.path.size ≤ 200 ∧ nd.size ≤ 200 ∧ -2000000 ≤ nk ∧ nk ≤ 2000000 ∧ -2000000 ≤ nt ∧ nt ≤ 2000000 ∧ -2000000 ≤ nm ∧ nm ≤ 2000000) := ⟨hmp, (unhide HN).2⟩
      generalize m.path = mp at D HN ⊢
      clear x0
      have z0 := (unhide D).r0.cell 0
      have u0 := (unhide D).r1.cell 0
      have u1 := (unhide D).r1.cell 1
      have u2 := (unhide D).r1.cell 2
      have u3 := (unhide D).r1.cell 3
      have u4 := (unhide D).r1.cell 4
      have zf := (unhide D).r0.fr 0
      have uf0 := (unhide D).r1.fr 0
      have uf1 := (unhide D).r1.fr 1
      have uf2 := (unhide D).r1.fr 2
      have uf3 := (unhide D).r1.fr 3
      have uf4 := (unhide D).r1.fr 4
      have x1 := (unhide D).one.cell 0
      have v0 := (unhide D).two.cell 0
      have v1 := (unhide D).two.cell 1
      have v2 := (unhide D).two.cell 2
      have v3 := (unhide D).two.cell 3
      have v4 := (unhide D).two.cell 4
      simp only [Pl.Nd.cs, List.getElem?_toArray, List.getElem?_cons_zero, List.getElem?_cons_succ] at z0 u0 u1 u2 u3 u4 x1 v0 v1 v2 v3 v4
      have lo := (unhide D).lo
      have hi := (unhide D).hi
      have hy := (unhide D).hy
      have m1 : ¬ w.heap.size = X := by omega
      have m2 : ¬ w.heap.size = Y := by omega
      have m3 : ¬ w.heap.size + 1 = X := by omega
      have m4 : ¬ w.heap.size + 1 = Y := by omega
      have m5 : ¬ X = w.heap.size := by omega
      have m6 : ¬ Y = w.heap.size := by omega
      have m7 : ¬ X = w.heap.size + 1 := by omega
      have m8 : ¬ Y = w.heap.size + 1 := by omega
      clear lo hi hy
      go_wp2
      go_region
      go_wp2
      have hD := (unhide D).done
      have q0 := hD.2.2.1.cell
      have q1 := hD.2.2.2.cell
      simp only [Pl.Nd.cs] at q1
      refine bodyPost_ret (v := .tuple #[.agg #[.slice (some ⟨b, o, none⟩) L.length vc], .agg #[.string mp, .int .i64 nk, .string nd, .int .i64 nt, .int .i64 nm]]) (by simp [results, Tryz.results5, go_sem, q0, q1]) rfl ⟨(some ⟨b, o, none⟩), vc, L, ⟨mp, nk, nd, nt, nm⟩, hl, unhide HSM, unhide HN, rfl, hD.1, hD.2.1⟩
    · skip
      have z0 := (unhide D).r0.cell 0
      have u0 := (unhide D).r1.cell 0
      have u1 := (unhide D).r1.cell 1
      have u2 := (unhide D).r1.cell 2
      have u3 := (unhide D).r1.cell 3
      have u4 := (unhide D).r1.cell 4
      have zf := (unhide D).r0.fr 0
      have uf0 := (unhide D).r1.fr 0
      have uf1 := (unhide D).r1.fr 1
      have uf2 := (unhide D).r1.fr 2
      have uf3 := (unhide D).r1.fr 3
      have uf4 := (unhide D).r1.fr 4
      have x1 := (unhide D).one.cell 0
      have v0 := (unhide D).two.cell 0
      have v1 := (unhide D).two.cell 1
      have v2 := (unhide D).two.cell 2
      have v3 := (unhide D).two.cell 3
      have v4 := (unhide D).two.cell 4
      simp only [Pl.Nd.cs, List.getElem?_toArray, List.getElem?_cons_zero, List.getElem?_cons_succ] at z0 u0 u1 u2 u3 u4 x1 v0 v1 v2 v3 v4
      have lo := (unhide D).lo
      have hi := (unhide D).hi
      have hy := (unhide D).hy
      have m1 : ¬ w.heap.size = X := by omega
      have m2 : ¬ w.heap.size = Y := by omega
      have m3 : ¬ w.heap.size + 1 = X := by omega
      have m4 : ¬ w.heap.size + 1 = Y := by omega
      have m5 : ¬ X = w.heap.size := by omega
      have m6 : ¬ Y = w.heap.size := by omega
      have m7 : ¬ X = w.heap.size + 1 := by omega
      have m8 : ¬ Y = w.heap.size + 1 := by omega
      clear lo hi hy
      go_wp2
      go_region
      go_wp2
      have hD := (unhide D).done
      have q0 := hD.2.2.1.cell
      have q1 := hD.2.2.2.cell
      simp only [Pl.Nd.cs] at q1
      refine bodyPost_ret (v := .tuple #[.agg #[.slice va L.length vc], .agg #[.string np, .int .i64 nk, .string nd, .int .i64 nt, .int .i64 nm]]) (by simp [results, Tryz.results5, go_sem, q0, q1]) rfl ⟨va, vc, L, ⟨np, nk, nd, nt, nm⟩, hl, unhide HSM, unhide HN, rfl, hD.1, hD.2.1⟩
end WSrc
end Go.Proofs.YthkfhjemcekpgaaGreatDoor

