/- Several texts of one claim in one file: WDrawTp, WDrawTc, WCountT, WUnderS, WLwBut. -/
import Derived.Test.YtibmflhelgedeaaGreatDoorWDrawTs
import Derived.Test.YtibmflhelgedeaaGreatDoorWNodesR
import Derived.Test.YtibmflhelgedeaaGreatDoorWTreeR
import Derived.Test.YtibmflhelgedeaaGreatDoorG07
import Derived.Test.YtibmflhelgedeaaGreatDoorG12
import Derived.Test.YtibmflhelgedeaaGreatDoorG22
/- The walk of the draw of a tree and a node (by genDP.py). -/
namespace Go.Proofs.YtibmflhelgedeaaGreatDoor
open Go.RowKit
namespace WSrc
/-- What the draw of a tree and a node keeps: the results at S - 2 and S - 1, the source at S, the tree at X, the node at Y. -/
structure Pk (w W : World) (S X Y : Nat) (a : Option Addr) (len cap : Nat) (va : Option Addr) (vc : Nat) (L : List Pl.Nd) (n : Pl.Nd) : Prop where
  lo : w.heap.size + 2 = S
  hi : S < X
  hy : X < Y
  bel : Below w.heap.size w W
  src : Src W S a len cap
  r0 : Mem.Blk W w.heap.size #[.slice none 0 0] 25
  r1 : Mem.Blk W (w.heap.size + 1) #[.string ⟨#[]⟩, .int .i64 0, .string ⟨#[]⟩, .int .i64 0, .int .i64 0] 27
  one : Mem.Blk W X #[.slice va L.length vc] 25
  two : Mem.Blk W Y n.cs.toArray 27
  tv : TreeV W (S + 1) va vc L
  row : RowB w w.heap.size a len cap
  ny : ∀ g o, va = some ⟨g, o, none⟩ → g ≠ Y
section
variable {w W W' : World} {S X Y len cap vc : Nat} {a va : Option Addr} {L : List Pl.Nd} {n : Pl.Nd}
theorem Pk.call (h : Pk w W S X Y a len cap va vc L n) (s : Src W' S a len cap) (g : W.grownBy W' (some S)) : Pk w W' S X Y a len cap va vc L n :=
  have l := h.lo
  have l2 := h.hi
  have l3 := h.hy
  ⟨l, l2, l3, h.bel.grown g h.bel.size (fun q hq => by cases hq; omega), s, h.r0.grown g (by simp; omega), h.r1.grown g (by simp; omega), h.one.grown g (by simp; omega), h.two.grown g (by simp; omega), h.tv.grown g (fun q hq => by cases hq; omega), h.row, h.ny⟩
theorem Pk.drew (h : Pk w W S X Y a len cap va vc L n) : Pk w W.drew S X Y a len cap va vc L n :=
  ⟨h.lo, h.hi, h.hy, ⟨h.bel.os, h.bel.tape, h.bel.output, h.bel.size, h.bel.block⟩, h.src, h.r0, h.r1, h.one, h.two, h.tv, h.row, h.ny⟩
/-- Another path in the node. -/
theorem Pk.path (h : Pk w W S X Y a len cap va vc L n) (p : ByteArray) : Pk w (W.setCell ⟨Y, 0, none⟩ (.string p)) S X Y a len cap va vc L { n with path := p } := by
  have l := h.lo
  have l2 := h.hi
  have l3 := h.hy
  refine ⟨l, l2, l3, h.bel.setCell (by show w.heap.size ≤ Y; omega) _, src_put h.src 0 _ (by omega), h.r0.far _ _ (by show w.heap.size ≠ Y; omega), h.r1.far _ _ (by show w.heap.size + 1 ≠ Y; omega), h.one.far _ _ (by show X ≠ Y; omega), h.two.put 0 _, ?_, h.row, h.ny⟩
  refine ⟨?_, WPutG.okA_call h.tv.2.1 (by rw [World.size_setCell]; exact Nat.le_refl _), h.tv.2.2⟩
  rcases h.tv.2.1 with ⟨rfl, rfl, rfl⟩ | ⟨b, o, rfl, h2, h3⟩
  · exact Mem.nodes_nil _ _
  · exact Mem.nodes_grown h.tv.1 (grown_set (grown_refl W (some Y))) (fun e => h.ny b o rfl (Option.some.inj e))
theorem Pk.done0 (h : Pk w W S X Y a len cap va vc L n) : TreeV ((((((W.setCell ⟨w.heap.size, 0, none⟩ (.slice va L.length vc)).setCell ⟨w.heap.size + 1, 0, none⟩ (.string n.path)).setCell ⟨w.heap.size + 1, 1, none⟩ (.int .i64 n.kind)).setCell ⟨w.heap.size + 1, 2, none⟩ (.string n.data)).setCell ⟨w.heap.size + 1, 3, none⟩ (.int .i64 n.time)).setCell ⟨w.heap.size + 1, 4, none⟩ (.int .i64 n.mark)) w.heap.size va vc L ∧ Below w.heap.size w ((((((W.setCell ⟨w.heap.size, 0, none⟩ (.slice va L.length vc)).setCell ⟨w.heap.size + 1, 0, none⟩ (.string n.path)).setCell ⟨w.heap.size + 1, 1, none⟩ (.int .i64 n.kind)).setCell ⟨w.heap.size + 1, 2, none⟩ (.string n.data)).setCell ⟨w.heap.size + 1, 3, none⟩ (.int .i64 n.time)).setCell ⟨w.heap.size + 1, 4, none⟩ (.int .i64 n.mark)) ∧ Mem.Blk ((((((W.setCell ⟨w.heap.size, 0, none⟩ (.slice va L.length vc)).setCell ⟨w.heap.size + 1, 0, none⟩ (.string n.path)).setCell ⟨w.heap.size + 1, 1, none⟩ (.int .i64 n.kind)).setCell ⟨w.heap.size + 1, 2, none⟩ (.string n.data)).setCell ⟨w.heap.size + 1, 3, none⟩ (.int .i64 n.time)).setCell ⟨w.heap.size + 1, 4, none⟩ (.int .i64 n.mark)) w.heap.size #[.slice va L.length vc] 25 ∧ Mem.Blk ((((((W.setCell ⟨w.heap.size, 0, none⟩ (.slice va L.length vc)).setCell ⟨w.heap.size + 1, 0, none⟩ (.string n.path)).setCell ⟨w.heap.size + 1, 1, none⟩ (.int .i64 n.kind)).setCell ⟨w.heap.size + 1, 2, none⟩ (.string n.data)).setCell ⟨w.heap.size + 1, 3, none⟩ (.int .i64 n.time)).setCell ⟨w.heap.size + 1, 4, none⟩ (.int .i64 n.mark)) (w.heap.size + 1) n.cs.toArray 27 := by
  have l := h.lo
  have e : w.heap.size ≠ w.heap.size + 1 := by omega
  refine ⟨?_, ?_, ?_, ?_⟩
  · exact ((((((h.tv.set _ _ _ (by omega)).set _ _ _ (by omega)).set _ _ _ (by omega)).set _ _ _ (by omega)).set _ _ _ (by omega)).set _ _ _ (by omega)).mono (by omega)
  · exact (((((h.bel.setCell (Nat.le_refl _) _).setCell (Nat.le_succ _) _).setCell (Nat.le_succ _) _).setCell (Nat.le_succ _) _).setCell (Nat.le_succ _) _).setCell (Nat.le_succ _) _
  · exact (((((h.r0.put 0 (.slice va L.length vc)).far _ _ e).far _ _ e).far _ _ e).far _ _ e).far _ _ e
  · exact (((((h.r1.far ⟨w.heap.size, 0, none⟩ (.slice va L.length vc) e.symm).put 0 (.string n.path)).put 1 (.int .i64 n.kind)).put 2 (.string n.data)).put 3 (.int .i64 n.time)).put 4 (.int .i64 n.mark)
theorem drew4 {W6 : World} {B X1 X2 : Nat} {c1 c2 : Array Value} {T1 T2 : TypeId} (h : TreeV W6 B va vc L ∧ Below w.heap.size w W6 ∧ Mem.Blk W6 X1 c1 T1 ∧ Mem.Blk W6 X2 c2 T2) : TreeV W6.drew B va vc L ∧ Below w.heap.size w W6.drew ∧ Mem.Blk W6.drew X1 c1 T1 ∧ Mem.Blk W6.drew X2 c2 T2 :=
  ⟨⟨h.1.1, h.1.2.1, h.1.2.2⟩, ⟨h.2.1.os, h.2.1.tape, h.2.1.output, h.2.1.size, h.2.1.block⟩, h.2.2.1, h.2.2.2⟩
theorem Pk.done (h : Pk w W S X Y a len cap va vc L n) : TreeV (((((((W.setCell ⟨w.heap.size, 0, none⟩ (.slice va L.length vc)).setCell ⟨w.heap.size + 1, 0, none⟩ (.string n.path)).setCell ⟨w.heap.size + 1, 1, none⟩ (.int .i64 n.kind)).setCell ⟨w.heap.size + 1, 2, none⟩ (.string n.data)).setCell ⟨w.heap.size + 1, 3, none⟩ (.int .i64 n.time)).setCell ⟨w.heap.size + 1, 4, none⟩ (.int .i64 n.mark))).drew w.heap.size va vc L ∧ Below w.heap.size w (((((((W.setCell ⟨w.heap.size, 0, none⟩ (.slice va L.length vc)).setCell ⟨w.heap.size + 1, 0, none⟩ (.string n.path)).setCell ⟨w.heap.size + 1, 1, none⟩ (.int .i64 n.kind)).setCell ⟨w.heap.size + 1, 2, none⟩ (.string n.data)).setCell ⟨w.heap.size + 1, 3, none⟩ (.int .i64 n.time)).setCell ⟨w.heap.size + 1, 4, none⟩ (.int .i64 n.mark))).drew ∧ Mem.Blk (((((((W.setCell ⟨w.heap.size, 0, none⟩ (.slice va L.length vc)).setCell ⟨w.heap.size + 1, 0, none⟩ (.string n.path)).setCell ⟨w.heap.size + 1, 1, none⟩ (.int .i64 n.kind)).setCell ⟨w.heap.size + 1, 2, none⟩ (.string n.data)).setCell ⟨w.heap.size + 1, 3, none⟩ (.int .i64 n.time)).setCell ⟨w.heap.size + 1, 4, none⟩ (.int .i64 n.mark))).drew w.heap.size #[.slice va L.length vc] 25 ∧ Mem.Blk (((((((W.setCell ⟨w.heap.size, 0, none⟩ (.slice va L.length vc)).setCell ⟨w.heap.size + 1, 0, none⟩ (.string n.path)).setCell ⟨w.heap.size + 1, 1, none⟩ (.int .i64 n.kind)).setCell ⟨w.heap.size + 1, 2, none⟩ (.string n.data)).setCell ⟨w.heap.size + 1, 3, none⟩ (.int .i64 n.time)).setCell ⟨w.heap.size + 1, 4, none⟩ (.int .i64 n.mark))).drew (w.heap.size + 1) n.cs.toArray 27 := by
  exact drew4 h.done0
end
set_option linter.unusedSimpArgs false in
set_option maxRecDepth 100000 in
set_option maxHeartbeats 4000000 in
theorem drawPut_any (a : Option Addr) (len cap : Nat) (w : World) (hr : RowB w w.heap.size a len cap) :
    Calls Tryz.prog 11 #[.slice a len cap] w fun e w' => ∃ (va : Option Addr) (vc : Nat) (L : List Pl.Nd) (n : Pl.Nd), L.length ≤ 64 ∧ Pl.smallL L ∧ Pl.smallD n ∧ e = .returned (.tuple #[.agg #[.slice va L.length vc], n.val]) ∧ TreeV w' w.heap.size va vc L ∧ Below w.heap.size w w' := by
  have b0 : Below w.heap.size w ((w.alloc (.cells #[.slice none 0 0] 25)).alloc (.cells #[.string ⟨#[]⟩, .int .i64 0, .string ⟨#[]⟩, .int .i64 0, .int .i64 0] 27)) := ((Below.refl _ _).alloc (Nat.le_refl _) _).alloc (by simp) _
  have hz0 : ((w.alloc (.cells #[.slice none 0 0] 25)).alloc (.cells #[.string ⟨#[]⟩, .int .i64 0, .string ⟨#[]⟩, .int .i64 0, .int .i64 0] 27)).heap.size = w.heap.size + 2 := by simp
  have h0 := hide (source_any a len cap _ (row_up hr b0 (by omega)))
  have B0 := (Mem.Blk.new w #[.slice none 0 0] 25).alloc (.cells #[.string ⟨#[]⟩, .int .i64 0, .string ⟨#[]⟩, .int .i64 0, .int .i64 0] 27)
  have B1 : Mem.Blk ((w.alloc (.cells #[.slice none 0 0] 25)).alloc (.cells #[.string ⟨#[]⟩, .int .i64 0, .string ⟨#[]⟩, .int .i64 0, .int .i64 0] 27)) (w.heap.size + 1) #[.string ⟨#[]⟩, .int .i64 0, .string ⟨#[]⟩, .int .i64 0, .int .i64 0] 27 := Mem.new_two _ _ _
  rw [hz0] at h0
  have HR := hide hr
  clear hr
  go_enter Tryz.func11, Tryz.ntmps11
  go_wp2_with fail
  generalize (w.alloc (.cells #[.slice none 0 0] 25)).alloc (.cells #[.string ⟨#[]⟩, .int .i64 0, .string ⟨#[]⟩, .int .i64 0, .int .i64 0] 27) = w0 at h0 b0 B0 B1 hz0 ⊢
  refine (unhide h0).mono ?_
  rintro e w1 ⟨rfl, hs, b1⟩
  have B0 := B0.below b1 (by omega)
  have B1 := B1.below b1 (by omega)
  have b1 := b0.trans (b1.mono (by omega))
  clear h0 b0
  go_wp2_with fail
  refine (tree_any (w.heap.size + 2) a len cap _ hs).mono ?_
  rintro e w2 ⟨va, vc, L, hl, hsm, rfl, tv, s2, g2⟩
  have HSM := hide hsm
  have hlt := src_lt hs
  have B0 := (B0.grown g2 (by simp)).alloc (.cells #[.slice va L.length vc] 25)
  have B1 := (B1.grown g2 (by simp)).alloc (.cells #[.slice va L.length vc] 25)
  have BX := Mem.Blk.new w2 #[.slice va L.length vc] 25
  have b2 := (b1.grown g2 b1.size (fun q hq => by cases hq; omega)).alloc (by have := b1.size; have := g2.size; omega) (.cells #[.slice va L.length vc] 25)
  have hX : w.heap.size + 2 < w2.heap.size := by have := g2.size; omega
  have s3 := src_alloc s2 (.cells #[.slice va L.length vc] 25)
  have TV := hide ((tv.mono (show w.heap.size + 2 + 1 ≤ w1.heap.size by omega)).alloc (.cells #[.slice va L.length vc] 25))
  clear hs s2 g2 tv b1 hsm hlt hz0
  go_wp2_with fail
  generalize hw3 : w2.alloc (.cells #[.slice va L.length vc] 25) = w3 at B0 B1 BX b2 s3 TV ⊢
  generalize w2.heap.size = X at BX hX ⊢
  clear hw3
  refine (node_any (w.heap.size + 2) a len cap _ s3).mono ?_
  rintro e w4 ⟨n, hn1, hn2, hn3, hn4, hn5, hn6, hn7, hn8, rfl, s4, g4⟩
  obtain ⟨np, nk, nd, nt, nm⟩ := n
  simp only [Pl.Nd.val] at hn1 hn2 hn3 hn4 hn5 hn6 hn7 hn8 ⊢
  have HN : Hid (np.size ≤ 200 ∧ nd.size ≤ 200 ∧ -2000000 ≤ nk ∧ nk ≤ 2000000 ∧ -2000000 ≤ nt ∧ nt ≤ 2000000 ∧ -2000000 ≤ nm ∧ nm ≤ 2000000) := ⟨by omega, by omega, hn3, hn4, hn5, hn6, hn7, hn8⟩
  have hXl := BX.lt
  have hg4 := g4.size
  have TV4 := (unhide TV).grown g4 (fun q hq => by cases hq; omega)
  have D : Hid (Pk w (w4.alloc (.cells #[.string np, .int .i64 nk, .string nd, .int .i64 nt, .int .i64 nm] 27)) (w.heap.size + 2) X w4.heap.size a len cap va vc L ⟨np, nk, nd, nt, nm⟩) :=
    ⟨rfl, hX, by omega, (b2.grown g4 b2.size (fun q hq => by cases hq; omega)).alloc (by have := b2.size; omega) _, src_alloc s4 _, (B0.grown g4 (by simp)).alloc _, (B1.grown g4 (by simp)).alloc _, (BX.grown g4 (by simp; omega)).alloc _, Mem.Blk.new _ _ _, TV4.alloc _, unhide HR, fun g o e => by
      rcases TV4.2.1 with ⟨h, _⟩ | ⟨b, o', h, h2, _⟩
      · rw [h] at e; cases e
      · rw [h] at e; cases e; omega⟩
  clear s3 s4 g4 TV TV4 BX B0 B1 b2 hX hXl hg4 HR hn1 hn2 hn3 hn4 hn5 hn6 hn7 hn8
  obtain ⟨S0, hS0⟩ : ∃ S0, S0 = w.heap.size + 2 := ⟨_, rfl⟩
  rw [← hS0] at D
  go_wp2_with fail
  rw [← hS0]
  have HS0 := hide hS0
  clear hS0
  generalize hw5 : w4.alloc (.cells #[.string np, .int .i64 nk, .string nd, .int .i64 nt, .int .i64 nm] 27) = w5 at D ⊢
  generalize w4.heap.size = Y at D ⊢
  clear hw5
  refine (one_any S0 a len cap 3 _ (unhide D).src (by omega)).mono ?_
  rintro e w6 ⟨r3, rfl, s6, g6⟩
  have D := hide ((unhide D).call s6 g6)
  clear s6 g6
  have x0 := (unhide D).one.cell 0
  simp only [kA0, kA1, kA2] at x0
  cases r3
  · skip
    have z0 := (unhide D).r0.cell 0
    have u0 := (unhide D).r1.cell 0
    have u1 := (unhide D).r1.cell 1
    have u2 := (unhide D).r1.cell 2
    have u3 := (unhide D).r1.cell 3
    have u4 := (unhide D).r1.cell 4
    have zf := (unhide D).r0.fr 0
    have uf0 := (unhide D).r1.fr 0
    have uf1 := (unhide D).r1.fr 1
    have uf2 := (unhide D).r1.fr 2
    have uf3 := (unhide D).r1.fr 3
    have uf4 := (unhide D).r1.fr 4
    have x1 := (unhide D).one.cell 0
    have v0 := (unhide D).two.cell 0
    have v1 := (unhide D).two.cell 1
    have v2 := (unhide D).two.cell 2
    have v3 := (unhide D).two.cell 3
    have v4 := (unhide D).two.cell 4
    simp only [Pl.Nd.cs, kA0, kA1, kA2] at z0 u0 u1 u2 u3 u4 x1 v0 v1 v2 v3 v4
    have lo := (unhide D).lo
    have hi := (unhide D).hi
    have hy := (unhide D).hy
    have m1 : ¬ w.heap.size = X := by omega
    have m2 : ¬ w.heap.size = Y := by omega
    have m3 : ¬ w.heap.size + 1 = X := by omega
    have m4 : ¬ w.heap.size + 1 = Y := by omega
    have m5 : ¬ X = w.heap.size := by omega
    have m6 : ¬ Y = w.heap.size := by omega
    have m7 : ¬ X = w.heap.size + 1 := by omega
    have m8 : ¬ Y = w.heap.size + 1 := by omega
    clear lo hi hy
    go_wp2
    go_region
    go_wp2
    have hD := (unhide D).done
    have q0 := hD.2.2.1.cell
    have q1 := hD.2.2.2.cell
    simp only [Pl.Nd.cs] at q1
    refine bodyPost_ret (v := .tuple #[.agg #[.slice va L.length vc], .agg #[.string np, .int .i64 nk, .string nd, .int .i64 nt, .int .i64 nm]]) (by simp [results, Tryz.results11, go_sem, q0, q1]) rfl ⟨va, vc, L, ⟨np, nk, nd, nt, nm⟩, hl, unhide HSM, unhide HN, rfl, hD.1, hD.2.1⟩
  · by_cases h0 : (0 : Int) < (L.length : Int)
    · obtain ⟨b, o, rfl⟩ : ∃ b o, va = some ⟨b, o, none⟩ := by
        rcases (unhide D).tv.2.1 with ⟨_, _, rfl⟩ | ⟨b, o, e, _⟩
        · simp at h0
        · exact ⟨b, o, e⟩
      go_wp2_with fail
      refine wp_region_held_drew (S := fun W' => W'.cell? ⟨X, 0, none⟩ = some (.slice (some ⟨b, o, none⟩) L.length vc)) (by kernel_rfl) ?_ (fun hHeld => ?_)
      · exact (unhide D).one.cell 0
      have D := hide (unhide D).drew
      generalize w6.drew = WD at D hHeld ⊢
      clear x0
      refine wpAnyH_take (i := 0) (v := ?_) rfl (by kernel_rfl) (by kernel_rfl) (by kernel_rfl) (fun _ _ _ h => h) (Or.inl ⟨by rfl, ?_⟩) (by assumption) ?_
      rotate_left
      · (intro w hSw; (try dsimp only at hSw); go_simp; (try with_reducible rfl))
      try simp only [Act.put, kB0, kB1, kB2, kB3, kB4, kB5]
      refine wpAnyH_take (i := 1) (v := ?_) rfl (by kernel_rfl) (by kernel_rfl) (by kernel_rfl) (fun _ _ _ h => h) (Or.inl ⟨by rfl, ?_⟩) (by assumption) ?_
      rotate_left
      · (intro w hSw; (try dsimp only at hSw); go_simp; (try with_reducible rfl))
      try simp only [Act.put, kB0, kB1, kB2, kB3, kB4, kB5]
      refine wpAnyH_take (i := 2) (v := ?_) rfl (by kernel_rfl) (by kernel_rfl) (by kernel_rfl) (fun _ _ _ h => h) (Or.inl ⟨by rfl, ?_⟩) (by assumption) ?_
      rotate_left
      · (intro w hSw; (try dsimp only at hSw); go_simp; (try with_reducible rfl))
      try simp only [Act.put, kB0, kB1, kB2, kB3, kB4, kB5]
      refine wpAnyH_take (i := 3) (v := ?_) rfl (by kernel_rfl) (by kernel_rfl) (by kernel_rfl) (fun _ _ _ h => h) (Or.inl ⟨by rfl, ?_⟩) (by assumption) ?_
      rotate_left
      · (intro w hSw; (try dsimp only at hSw); go_simp; (try with_reducible rfl))
      try simp only [Act.put, kB0, kB1, kB2, kB3, kB4, kB5]
      refine wpAnyH_take (i := 4) (v := ?_) rfl (by kernel_rfl) (by kernel_rfl) (by kernel_rfl) (fun _ _ _ h => h) (Or.inl ⟨by rfl, ?_⟩) (by assumption) ?_
      rotate_left
      · (intro w hSw; (try dsimp only at hSw); go_simp; (try with_reducible rfl))
      try simp only [Act.put, kB0, kB1, kB2, kB3, kB4, kB5]
      refine wpAnyH_take (i := 5) (v := ?_) rfl (by kernel_rfl) (by kernel_rfl) (by kernel_rfl) (fun _ _ _ h => h) (Or.inl ⟨by rfl, ?_⟩) (by assumption) ?_
      rotate_left
      · (intro w hSw; (try dsimp only at hSw); go_simp; (try with_reducible rfl))
      try simp only [Act.put, kB0, kB1, kB2, kB3, kB4, kB5]
      refine wpAnyH_ready (rs := [6]) (by kernel_rfl) (by simp) ?_
      refine AllReadyH.cons rfl (fun K hK => ?_) AllReadyH.nil
      go_simp
      refine (n_any S0 a len cap (L.length : Int) _ (unhide D).src (by omega)).mono ?_
      rintro e wX ⟨r, rfl, r0, r1, sX, gX⟩
      have D := hide ((unhide D).call sX gX)
      clear sX gX
      refine hK.out _ _ ?_ (fun hHeld => ?_)
      · exact (unhide D).one.cell 0
      clear hK K
      try simp only [Act.put, kB0, kB1, kB2, kB3, kB4, kB5]
      obtain ⟨k, rfl⟩ : ∃ k : Nat, r = (k : Int) := ⟨r.toNat, by omega⟩
      have hk : k < L.length := by omega
      have y1 : (k : Int) < (L.length : Int) := by omega
      have y3 : (0 : Int) ≤ (k : Int) := by omega
      obtain ⟨m, hm⟩ : ∃ m, L[k]? = some m := ⟨_, List.getElem?_eq_getElem hk⟩
      have hmp : m.path.size ≤ 200 := (unhide HSM m (List.mem_of_getElem? hm)).1
      obtain ⟨b', o', e', -, q0, -⟩ := (unhide D).tv.1 k m hm
      cases e'
      have k0 := (unhide D).two.cell 0
      have kf := (unhide D).two.fr 0
      simp only [kA0, kA1, kA2] at k0
      refine wpAnyH_take (i := 7) (v := ?_) rfl (by kernel_rfl) (by kernel_rfl) (by kernel_rfl) (fun _ _ _ h => h) (Or.inl ⟨by rfl, ?_⟩) (by assumption) ?_
      rotate_left
      · (intro w hSw; (try dsimp only at hSw); go_simp; (try with_reducible rfl))
      try simp only [Act.put, kB0, kB1, kB2, kB3, kB4, kB5]
      refine wpAnyH_take (i := 8) (v := ?_) rfl (by kernel_rfl) (by kernel_rfl) (by kernel_rfl) (fun _ _ _ h => h) (Or.inl ⟨by rfl, ?_⟩) (by assumption) ?_
      rotate_left
      · (intro w hSw; (try dsimp only at hSw); go_simp; (try with_reducible rfl))
      try simp only [Act.put, kB0, kB1, kB2, kB3, kB4, kB5]
      refine wpAnyH_ready (rs := [9]) (by kernel_rfl) (by simp) ?_
      refine AllReadyH.cons rfl (fun K hK => ?_) AllReadyH.nil
      go_simp
      refine hK.out _ _ ?_ (fun hHeld => ?_)
      · exact hHeld
      clear hK K
      try simp only [Act.put, kB0, kB1, kB2, kB3, kB4, kB5]
      refine wpAnyH_take (i := 10) (v := ?_) rfl (by kernel_rfl) (by kernel_rfl) (by kernel_rfl) (fun _ _ _ h => h) (Or.inl ⟨by rfl, ?_⟩) (by assumption) ?_
      rotate_left
      · (intro w hSw; (try dsimp only at hSw); go_simp; (try with_reducible rfl))
      try simp only [Act.put, kB0, kB1, kB2, kB3, kB4, kB5]
      have D := hide ((unhide D).path m.path)
      refine wpAnyH_ready (rs := [11]) (by kernel_rfl) (by simp) ?_
      refine AllReadyH.cons rfl (fun K hK => ?_) AllReadyH.nil
      go_simp
      refine hK.out _ _ ?_ (fun hHeld => ?_)
      · exact (unhide D).one.cell 0
      clear hK K
      try simp only [Act.put, kB0, kB1, kB2, kB3, kB4, kB5]
      refine wpAnyH_done (by kernel_rfl) ?_ _
      have x0 := hHeld
      clear q0 k0 kf hm hHeld
      have HN : Hid (m.path.size ≤ 200 ∧ nd.size ≤ 200 ∧ -2000000 ≤ nk ∧ nk ≤ 2000000 ∧ -2000000 ≤ nt ∧ nt ≤ 2000000 ∧ -2000000 ≤ nm ∧ nm ≤ 2000000) := ⟨hmp, (unhide HN).2⟩
      generalize m.path = mp at D HN ⊢
      clear x0
      have z0 := (unhide D).r0.cell 0
      have u0 := (unhide D).r1.cell 0
      have u1 := (unhide D).r1.cell 1
      have u2 := (unhide D).r1.cell 2
      have u3 := (unhide D).r1.cell 3
      have u4 := (unhide D).r1.cell 4
      have zf := (unhide D).r0.fr 0
      have uf0 := (unhide D).r1.fr 0
      have uf1 := (unhide D).r1.fr 1
      have uf2 := (unhide D).r1.fr 2
      have uf3 := (unhide D).r1.fr 3
      have uf4 := (unhide D).r1.fr 4
      have x1 := (unhide D).one.cell 0
      have v0 := (unhide D).two.cell 0
      have v1 := (unhide D).two.cell 1
      have v2 := (unhide D).two.cell 2
      have v3 := (unhide D).two.cell 3
      have v4 := (unhide D).two.cell 4
      simp only [Pl.Nd.cs, kA0, kA1, kA2] at z0 u0 u1 u2 u3 u4 x1 v0 v1 v2 v3 v4
      have lo := (unhide D).lo
      have hi := (unhide D).hi
      have hy := (unhide D).hy
      have m1 : ¬ w.heap.size = X := by omega
      have m2 : ¬ w.heap.size = Y := by omega
      have m3 : ¬ w.heap.size + 1 = X := by omega
      have m4 : ¬ w.heap.size + 1 = Y := by omega
      have m5 : ¬ X = w.heap.size := by omega
      have m6 : ¬ Y = w.heap.size := by omega
      have m7 : ¬ X = w.heap.size + 1 := by omega
      have m8 : ¬ Y = w.heap.size + 1 := by omega
      clear lo hi hy
      go_wp2
      go_region
      go_wp2
      have hD := (unhide D).done
      have q0 := hD.2.2.1.cell
      have q1 := hD.2.2.2.cell
      simp only [Pl.Nd.cs] at q1
      refine bodyPost_ret (v := .tuple #[.agg #[.slice (some ⟨b, o, none⟩) L.length vc], .agg #[.string mp, .int .i64 nk, .string nd, .int .i64 nt, .int .i64 nm]]) (by simp [results, Tryz.results11, go_sem, q0, q1]) rfl ⟨(some ⟨b, o, none⟩), vc, L, ⟨mp, nk, nd, nt, nm⟩, hl, unhide HSM, unhide HN, rfl, hD.1, hD.2.1⟩
    · skip
      have z0 := (unhide D).r0.cell 0
      have u0 := (unhide D).r1.cell 0
      have u1 := (unhide D).r1.cell 1
      have u2 := (unhide D).r1.cell 2
      have u3 := (unhide D).r1.cell 3
      have u4 := (unhide D).r1.cell 4
      have zf := (unhide D).r0.fr 0
      have uf0 := (unhide D).r1.fr 0
      have uf1 := (unhide D).r1.fr 1
      have uf2 := (unhide D).r1.fr 2
      have uf3 := (unhide D).r1.fr 3
      have uf4 := (unhide D).r1.fr 4
      have x1 := (unhide D).one.cell 0
      have v0 := (unhide D).two.cell 0
      have v1 := (unhide D).two.cell 1
      have v2 := (unhide D).two.cell 2
      have v3 := (unhide D).two.cell 3
      have v4 := (unhide D).two.cell 4
      simp only [Pl.Nd.cs, kA0, kA1, kA2] at z0 u0 u1 u2 u3 u4 x1 v0 v1 v2 v3 v4
      have lo := (unhide D).lo
      have hi := (unhide D).hi
      have hy := (unhide D).hy
      have m1 : ¬ w.heap.size = X := by omega
      have m2 : ¬ w.heap.size = Y := by omega
      have m3 : ¬ w.heap.size + 1 = X := by omega
      have m4 : ¬ w.heap.size + 1 = Y := by omega
      have m5 : ¬ X = w.heap.size := by omega
      have m6 : ¬ Y = w.heap.size := by omega
      have m7 : ¬ X = w.heap.size + 1 := by omega
      have m8 : ¬ Y = w.heap.size + 1 := by omega
      clear lo hi hy
      go_wp2
      go_region
      go_wp2
      have hD := (unhide D).done
      have q0 := hD.2.2.1.cell
      have q1 := hD.2.2.2.cell
      simp only [Pl.Nd.cs] at q1
      refine bodyPost_ret (v := .tuple #[.agg #[.slice va L.length vc], .agg #[.string np, .int .i64 nk, .string nd, .int .i64 nt, .int .i64 nm]]) (by simp [results, Tryz.results11, go_sem, q0, q1]) rfl ⟨va, vc, L, ⟨np, nk, nd, nt, nm⟩, hl, unhide HSM, unhide HN, rfl, hD.1, hD.2.1⟩
end WSrc
end Go.Proofs.YtibmflhelgedeaaGreatDoor

/- The walk of the draw DrawTreeCut (by genDS.py). -/
namespace Go.Proofs.YtibmflhelgedeaaGreatDoor
open Go.RowKit
namespace WSrc
set_option linter.unusedSimpArgs false in
set_option maxRecDepth 100000 in
theorem drawTCut_any (a : Option Addr) (len cap : Nat) (w : World) (hr : RowB w w.heap.size a len cap) :
    Calls Tryz.prog 13 #[.slice a len cap] w fun e w' => ∃ (va : Option Addr) (vc : Nat) (L : List Pl.Nd) (p : ByteArray), L.length ≤ 64 ∧ Pl.smallL L ∧ p.size ≤ 200 ∧ e = .returned (.tuple #[.agg #[.slice va L.length vc], .string p]) ∧ TreeV w' w.heap.size va vc L ∧ Below w.heap.size w w' := by
  have b0 : Below w.heap.size w (w.alloc (.cells #[.slice none 0 0] 25)) := (Below.refl _ _).alloc (Nat.le_refl _) _
  have hz0 : (w.alloc (.cells #[.slice none 0 0] 25)).heap.size = w.heap.size + 1 := by simp
  have h0 := hide (drawGet_any a len cap (w.alloc (.cells #[.slice none 0 0] 25)) (row_up hr b0 (by omega)))
  have BA := Mem.Blk.new w #[.slice none 0 0] 25
  clear hr
  go_enter Tryz.func13, Tryz.ntmps13
  go_wp2_with fail
  generalize w.alloc (.cells #[.slice none 0 0] 25) = w0 at h0 b0 BA hz0 ⊢
  refine (unhide h0).mono ?_
  rintro e w1 ⟨va, vc, L, p, hl, hsm, hp, rfl, tv, b1⟩
  have BA := BA.below b1 (by omega)
  have b2 := b0.trans (b1.mono (by omega))
  have HSM := hide hsm
  have TV := hide (tv.set w.heap.size 0 (.slice va L.length vc) (by omega))
  have BB := BA.put 0 (.slice va L.length vc)
  have k0 := BA.cell 0
  have kf := BA.fr 0
  have q := BB.cell
  simp only [kA0, kA1, kA2] at k0
  clear h0 b0 b1 tv hsm
  go_wp2
  refine bodyPost_ret (v := .tuple #[.agg #[.slice va L.length vc], .string p]) (by simp [results, Tryz.results13, go_sem, q]) rfl ?_
  exact ⟨va, vc, L, p, hl, unhide HSM, hp, rfl, (unhide TV).mono (by omega), b2.setCell (Nat.le_refl _) _⟩
end WSrc
end Go.Proofs.YtibmflhelgedeaaGreatDoor

/- The walks of TreeCount, of the program and of the specification. -/
namespace Go.Proofs.YtibmflhelgedeaaGreatDoor
open Go.RowKit
namespace Pl
def cntT (L : List Nd) : Int := if treeB L then (L.length : Int) else 0
end Pl
namespace WCountT
set_option maxRecDepth 100000 in
theorem spec_any (a : Option Addr) (cap : Nat) (L : List Pl.Nd) (w : World) (hl : L.length ≤ 1048576) (hv : Mem.isNodes w a L) (hok : ∀ n ∈ L, n.path.size ≤ 1048576 ∧ n.data.size ≤ 1048576) :
    Calls Tryz.prog 26 #[.agg #[.slice a L.length cap]] w fun e w' => e = .returned (.int .i64 (Pl.cntT L)) ∧ Below w.heap.size w w' := by
  have b0 : Below w.heap.size w (w.alloc (.cells #[.slice a L.length cap] 25)) := (Below.refl _ _).alloc (Nat.le_refl _) _
  have hr := hide (WTreeS.right_tree a cap L _ hl (Mem.nodes_call hv b0) hok)
  have hvar := Mem.var_new w [.slice a L.length cap] 25
  have E : Hid (Pl.cntT L = if Pl.treeB L then (L.length : Int) else 0) := rfl
  generalize Pl.cntT L = R at E ⊢
  generalize Pl.treeB L = R2 at E hr
  clear hv hok
  go_enter Tryz.func26, Tryz.ntmps26
  go_wp2_with fail
  refine (unhide hr).mono ?_
  rintro e w1 ⟨rfl, b1⟩
  have b2 := b0.trans (b1.mono b0.size)
  have c0 := (Mem.var_call hvar b1).2 0 _ rfl
  clear hvar hr b0 b1
  cases R2
  · go_wp2
    go_ret
    exact ⟨by rw [unhide E]; rfl, b2⟩
  · go_wp2
    go_ret
    exact ⟨by rw [unhide E]; rfl, b2⟩
set_option maxRecDepth 100000 in
theorem impl_any (a : Option Addr) (cap : Nat) (L : List Pl.Nd) (w : World) (hl : L.length ≤ 1048576) (hv : Mem.isNodes w a L) (hok : ∀ n ∈ L, n.path.size ≤ 1048576 ∧ n.data.size ≤ 1048576)
    (r1 r2 r3 : TypeId) (x1 x2 x3 : Value) (hE : WNodesI.Errs w r1 r2 r3 x1 x2 x3) :
    Calls Tryz.prog 25 #[.agg #[.slice a L.length cap]] w fun e w' => e = .returned (.int .i64 (Pl.cntT L)) ∧ Below w.heap.size w w' := by
  have b0 : Below w.heap.size w (w.alloc (.cells #[.slice a L.length cap] 25)) := (Below.refl _ _).alloc (Nat.le_refl _) _
  have hr := hide (WNodesI.treeRight_any a cap L _ hl (Mem.nodes_call hv b0) hok r1 r2 r3 x1 x2 x3 (hE.call b0))
  have hvar := Mem.var_new w [.slice a L.length cap] 25
  have E : Hid (Pl.cntT L = if Pl.treeB L then (L.length : Int) else 0) := rfl
  generalize Pl.cntT L = R at E ⊢
  generalize Pl.treeB L = R2 at E hr
  clear hv hok hE
  go_enter Tryz.func25, Tryz.ntmps25
  go_wp2_with fail
  refine (unhide hr).mono ?_
  rintro e w1 ⟨rfl, b1⟩
  have b2 := b0.trans (b1.mono b0.size)
  have c0 := (Mem.var_call hvar b1).2 0 _ rfl
  clear hvar hr b0 b1
  cases R2
  · go_wp2
    go_ret
    exact ⟨by rw [unhide E]; rfl, b2⟩
  · go_wp2
    go_ret
    exact ⟨by rw [unhide E]; rfl, b2⟩
end WCountT
end Go.Proofs.YtibmflhelgedeaaGreatDoor

/- The walk of the specification's PathUnder. -/
namespace Go.Proofs.YtibmflhelgedeaaGreatDoor
open Go.RowKit
namespace WPathS
set_option maxRecDepth 100000 in
set_option maxHeartbeats 400000 in
theorem underF_any (p t : ByteArray) (w : World) (hp : p.size ≤ 1048576) (ht : t.size ≤ 1048576) :
    Calls Tryz.prog 95 #[.string p, .string t] w fun e w' => e = .returned (.bool (Pl.pathB p && Pl.pathB t && Pl.underR (Pl.namesR p) (Pl.namesR t))) ∧ Below w.heap.size w w' := by
  have hr1 := hide (fun W => right_any p W (by unfold maxLen; omega))
  have hr2 := hide (fun W => right_any t W (by unfold maxLen; omega))
  have hun := hide (fun W => under1_any p t W ht)
  have L1 : Hid (8000 < p.size → Pl.pathB p = false) := fun h => Pl.pathB_long (by omega)
  have L2 : Hid (8000 < t.size → Pl.pathB t = false) := fun h => Pl.pathB_long (by omega)
  have EU : Hid (Pl.pathB p = true → Pl.pathB t = true → Pl.underR (Pl.namesR p) (Pl.namesR t) = Pl.under p t) := fun h1 h2 => by rw [Pl.namesR_yes h1, Pl.namesR_yes h2]; rfl
  generalize Pl.underR (Pl.namesR p) (Pl.namesR t) = u at EU ⊢
  generalize Pl.under p t = u2 at EU hun
  generalize Pl.pathB p = r1 at hr1 L1 EU ⊢
  generalize Pl.pathB t = r2 at hr2 L2 EU ⊢
  by_cases h1 : 8000 < p.size
  · have E := hide (L1.out h1)
    have k1 : ¬ (p.size : Int) ≤ 8000 := by omega
    go_enter Tryz.func95, Tryz.ntmps95
    go_wp2
    go_ret
    exact ⟨ret_bool (by rw [unhide E]; rfl), Below.refl _ _⟩
  have k1 : (p.size : Int) ≤ 8000 := by omega
  by_cases h2 : 8000 < t.size
  · have E := hide (L2.out h2)
    have k2 : ¬ (t.size : Int) ≤ 8000 := by omega
    go_enter Tryz.func95, Tryz.ntmps95
    go_wp2
    go_ret
    exact ⟨ret_bool (by rw [unhide E]; simp), Below.refl _ _⟩
  have k2 : (t.size : Int) ≤ 8000 := by omega
  cases r1
  · go_enter Tryz.func95, Tryz.ntmps95
    go_wp2_with (go_at_call 86; refine (unhide hr1 _).mono ?_; rintro e w1 ⟨rfl, b1⟩)
    go_ret
    exact ⟨rfl, b1⟩
  cases r2
  · go_enter Tryz.func95, Tryz.ntmps95
    go_wp2_with fail
    refine (unhide hr1 _).mono ?_
    rintro e w1 ⟨rfl, b1⟩
    go_wp2_with fail
    refine (unhide hr2 _).mono ?_
    rintro e w2 ⟨rfl, b2⟩
    go_wp2
    go_ret
    exact ⟨rfl, b1.trans (b2.mono b1.size)⟩
  · have E := hide (EU.out rfl rfl)
    go_enter Tryz.func95, Tryz.ntmps95
    go_wp2_with fail
    refine (unhide hr1 _).mono ?_
    rintro e w1 ⟨rfl, b1⟩
    go_wp2_with fail
    refine (unhide hr2 _).mono ?_
    rintro e w2 ⟨rfl, b2⟩
    go_wp2_with fail
    refine (unhide hun _).mono ?_
    rintro e w3 ⟨rfl, hw⟩
    obtain rfl := hw.symm
    go_wp2
    go_ret
    exact ⟨by rw [unhide E]; rfl, b1.trans (b2.mono b1.size)⟩
end WPathS
end Go.Proofs.YtibmflhelgedeaaGreatDoor

/- The walk of the laws' own lwBut (by mkLB.py). -/
namespace Go.Proofs.YtibmflhelgedeaaGreatDoor
open Go.RowKit
namespace WUnderS
theorem pu_any (p t : ByteArray) (w : World) (hp : Pl.pathB p = true) (ht : Pl.pathB t = true) :
    Calls Tryz.prog 95 #[.string p, .string t] w fun e w' => e = .returned (.bool (Pl.under p t)) ∧ Below w.heap.size w w' := by
  have h := WPathS.underF_any p t w (by have := Pl.pathB_le hp; omega) (by have := Pl.pathB_le ht; omega)
  rw [hp, ht, Pl.namesR_yes hp, Pl.namesR_yes ht, ← Pl.under_names] at h
  exact h
end WUnderS
namespace WLb
structure At (w wr : World) (a : Option Addr) (cap : Nat) (L : List Pl.Nd) (p : ByteArray) (k : Nat) (v : Value) : Prop where
  bel : Below w.heap.size w wr
  one : Mem.Blk wr w.heap.size #[.slice a L.length cap] 25
  two : Mem.Blk wr (w.heap.size + 1) #[.slice none 0 0] 25
  out : Mem.Blk wr (w.heap.size + 1 + 1) #[v] 25
  own : Mem.ownN wr (w.heap.size + 3) v (Pl.offL p (L.take k))
theorem At.call {w W W' : World} {a : Option Addr} {cap : Nat} {L : List Pl.Nd} {p : ByteArray} {k : Nat} {v : Value} (h : At w W a cap L p k v) (b : Below W.heap.size W W') : At w W' a cap L p k v :=
  ⟨h.bel.trans (b.mono h.bel.size), h.one.call b, h.two.call b, h.out.call b, Mem.ownN_call h.own b⟩
set_option linter.unusedSimpArgs false in
set_option maxRecDepth 100000 in
set_option maxHeartbeats 2000000 in
theorem l03_any (a : Option Addr) (cap : Nat) (L : List Pl.Nd) (p : ByteArray) (w : World) (hl : L.length ≤ 1048576) (hv : Mem.isNodes w a L) (hp : Pl.pathB p = true) (hpb : ∀ n ∈ L, Pl.pathB n.path = true) :
    Calls Tryz.prog 28 #[.agg #[.slice a L.length cap], .string p] w fun e w' => ∃ v, e = .returned (.agg #[v]) ∧ Mem.ownN w' w.heap.size v (Pl.offL p L) ∧ Below w.heap.size w w' := by
  obtain ⟨i0, hi, hz0, hz1, hz2⟩ := info_parts WCutS.infoN
  have HV := hide hv
  have HPB := hide hpb
  clear hv hpb
  have H0 : At w (((w.alloc (.cells #[.slice a L.length cap] 25)).alloc (.cells #[.slice none 0 0] 25)).alloc (.cells #[.slice none 0 0] 25)) a cap L p 0 (.slice none 0 0) :=
    ⟨(((Below.refl _ _).alloc (Nat.le_refl _) _).alloc (by simp) _).alloc (by simp; omega) _, ((Mem.Blk.new _ _ _).alloc _).alloc _, (by have h := (Mem.Blk.new (w.alloc (.cells #[.slice a L.length cap] 25)) #[.slice none 0 0] 25).alloc (.cells #[.slice none 0 0] 25); rwa [show (w.alloc (.cells #[.slice a L.length cap] 25)).heap.size = w.heap.size + 1 by simp] at h), Mem.new_three _ _ _ _, by simpa [Pl.offL] using Mem.ownN_nil _ _⟩
  have HH := hide H0
  clear H0
  go_enter Tryz.func28, Tryz.ntmps28
  go_wp2
  go_loopw [6] (fun i wr => ∃ k : Nat, k ≤ L.length ∧ i = .int .i64 (k : Int) ∧ Hid (∃ v, At w wr a cap L p k v)) (fun i _ => L.length - (intOf i).toNat)
  case atStart => exact ⟨0, Nat.zero_le _, rfl, ⟨_, unhide HH⟩⟩
  case round =>
    obtain ⟨k, hk, rfl, HA⟩ := hrel
    obtain ⟨v, A⟩ := unhide HA
    obtain ⟨av, capv, hvs⟩ := Mem.own_shape A.own
    subst hvs
    have c1 := A.one.cell 0
    have c3 := A.out.cell 0
    have f3 := A.out.fr 0
    simp only [kA0, kA1] at c1 c3
    have KA := hide A
    clear HA A HH
    by_cases hlt : k < L.length
    · obtain ⟨n, hn⟩ : ∃ n, L[k]? = some n := ⟨_, List.getElem?_eq_getElem hlt⟩
      obtain ⟨b, o, rfl, hb, q0, q1, q2, q3, q4⟩ := (Mem.nodes_call (unhide HV) (unhide KA).bel) k n hn
      have y1 : (k : Int) < (L.length : Int) := by omega
      have y3 : (0 : Int) ≤ (k : Int) := by omega
      have hcu := hide (WUnderS.pu_any n.path p wr (unhide HPB n (List.mem_of_getElem? hn)) hp)
      cases hun : Pl.under n.path p
      · rw [hun] at hcu
        go_wp2_with fail
        refine (unhide hcu).mono ?_
        rintro e wY ⟨rfl, bY⟩
        have KA := hide ((unhide KA).call bY)
        clear hcu bY
        have HPL := hide (Pl.offN_in hn hun)
        have HLEN := hide (Pl.offN_len L p k)
        have OWD : Hid (Mem.ownN wY.drew (w.heap.size + 3) (.slice av (Pl.offL p (L.take k)).length capv) (Pl.offL p (L.take k))) := (unhide KA).own
        have BLD : Hid (Mem.Blk wY.drew (w.heap.size + 1 + 1) #[.slice av (Pl.offL p (L.take k)).length capv] 25) := (unhide KA).out
        have BL2 : Hid (Mem.Blk wY.drew (w.heap.size + 1) #[.slice none 0 0] 25) := (unhide KA).two
        have HLT := hide (Mem.ownN_lt (unhide KA).own)
        have HSZ : Hid (w.heap.size + 1 + 1 < wY.drew.heap.size) := (unhide KA).out.lt
        have HV2 : Hid (∀ W', Below w.heap.size w W' → W'.cell? ⟨b, o + k * 5, none⟩ = some (.string n.path) ∧ W'.cell? ⟨b, o + k * 5 + 1, none⟩ = some (.int .i64 n.kind) ∧ W'.cell? ⟨b, o + k * 5 + 2, none⟩ = some (.string n.data) ∧ W'.cell? ⟨b, o + k * 5 + 3, none⟩ = some (.int .i64 n.time) ∧ W'.cell? ⟨b, o + k * 5 + 4, none⟩ = some (.int .i64 n.mark)) := fun W' hb' => by
          obtain ⟨b', o', e, _, z0, z1, z2, z3, z4⟩ := (Mem.nodes_call (unhide HV) hb') k n hn
          cases e
          exact ⟨z0, z1, z2, z3, z4⟩
        have B0 : Below w.heap.size w wY.drew := by have h := (unhide KA).bel; exact ⟨h.os, h.tape, h.output, h.size, h.block⟩
        have ONE : Mem.Blk wY.drew w.heap.size #[.slice (some ⟨b, o, none⟩) L.length cap] 25 := (unhide KA).one
        clear hn hun KA HV
        obtain ⟨q, k0, d, t, m⟩ := n
        simp only at q0 q1 q2 q3 q4 HPL HV2
        go_wp2_with fail
        have MK : Hid (∀ W', Below w.heap.size w W' → Mem.Blk W' w.heap.size #[.slice (some ⟨b, o, none⟩) L.length cap] 25 → (Below w.heap.size w W' ∧ Mem.Blk W' w.heap.size #[.slice (some ⟨b, o, none⟩) L.length cap] 25 ∧ W'.cell? ⟨w.heap.size, 0, none⟩ = some (.slice (some ⟨b, o, none⟩) L.length cap) ∧ W'.cell? ⟨b, o + k * 5, none⟩ = some (.string q) ∧ W'.cell? ⟨b, o + k * 5 + 1, none⟩ = some (.int .i64 k0) ∧ W'.cell? ⟨b, o + k * 5 + 2, none⟩ = some (.string d) ∧ W'.cell? ⟨b, o + k * 5 + 3, none⟩ = some (.int .i64 t) ∧ W'.cell? ⟨b, o + k * 5 + 4, none⟩ = some (.int .i64 m))) := fun W' h1 h2 => ⟨h1, h2, h2.cell 0, unhide HV2 W' h1⟩
        clear q0 q1 q2 q3 q4 c1 c3 f3
        refine wp_region_held_drew (S := fun W' => Below w.heap.size w W' ∧ Mem.Blk W' w.heap.size #[.slice (some ⟨b, o, none⟩) L.length cap] 25 ∧ W'.cell? ⟨w.heap.size, 0, none⟩ = some (.slice (some ⟨b, o, none⟩) L.length cap) ∧ W'.cell? ⟨b, o + k * 5, none⟩ = some (.string q) ∧ W'.cell? ⟨b, o + k * 5 + 1, none⟩ = some (.int .i64 k0) ∧ W'.cell? ⟨b, o + k * 5 + 2, none⟩ = some (.string d) ∧ W'.cell? ⟨b, o + k * 5 + 3, none⟩ = some (.int .i64 t) ∧ W'.cell? ⟨b, o + k * 5 + 4, none⟩ = some (.int .i64 m)) (by kernel_rfl) ?_ (fun hHeld => ?_)
        · exact unhide MK _ B0 ONE
        clear B0 ONE
        generalize wY.drew = WD at hHeld OWD BLD BL2 HSZ ⊢
        have cD := (unhide BLD).cell 0
        simp only [kA0, kA1] at cD
        refine wpAnyH_take (i := 0) (v := ?_) rfl (by kernel_rfl) (by kernel_rfl) (by kernel_rfl) (fun _ _ _ h => h) (Or.inl ⟨by rfl, ?_⟩) (by assumption) ?_
        rotate_left
        · (intro w hSw; (try dsimp only at hSw); go_simp; (try with_reducible rfl))
        try simp only [Act.put, kB0, kB1, kB2, kB3, kB4, kB5]
        refine wpAnyH_take (i := 2) (v := ?_) rfl (by kernel_rfl) (by kernel_rfl) (by kernel_rfl) (fun _ _ _ h => h) (Or.inl ⟨by rfl, ?_⟩) (by assumption) ?_
        rotate_left
        · (intro w hSw; (try dsimp only at hSw); go_simp; (try with_reducible rfl))
        try simp only [Act.put, kB0, kB1, kB2, kB3, kB4, kB5]
        refine wpAnyH_take (i := 3) (v := ?_) rfl (by kernel_rfl) (by kernel_rfl) (by kernel_rfl) (fun _ _ _ h => h) (Or.inl ⟨by rfl, ?_⟩) (by assumption) ?_
        rotate_left
        · (intro w hSw; (try dsimp only at hSw); go_simp; (try with_reducible rfl))
        try simp only [Act.put, kB0, kB1, kB2, kB3, kB4, kB5]
        refine wpAnyH_take (i := 4) (v := ?_) rfl (by kernel_rfl) (by kernel_rfl) (by kernel_rfl) (fun _ _ _ h => h) (Or.inl ⟨by rfl, ?_⟩) (by assumption) ?_
        rotate_left
        · (intro w hSw; (try dsimp only at hSw); go_simp; (try with_reducible rfl))
        try simp only [Act.put, kB0, kB1, kB2, kB3, kB4, kB5]
        refine wpAnyH_take (i := 5) (v := ?_) rfl (by kernel_rfl) (by kernel_rfl) (by kernel_rfl) (fun _ _ _ h => h) (Or.inl ⟨by rfl, ?_⟩) (by assumption) ?_
        rotate_left
        · (intro w hSw; (try dsimp only at hSw); go_simp; (try with_reducible rfl))
        try simp only [Act.put, kB0, kB1, kB2, kB3, kB4, kB5]
        refine wpAnyH_take (i := 6) (v := ?_) rfl (by kernel_rfl) (by kernel_rfl) (by kernel_rfl) (fun _ _ _ h => h) (Or.inl ⟨by rfl, ?_⟩) (by assumption) ?_
        rotate_left
        · (intro w hSw; (try dsimp only at hSw); go_simp; (try with_reducible rfl))
        try simp only [Act.put, kB0, kB1, kB2, kB3, kB4, kB5]
        refine wpAnyH_ready (rs := [1, 7]) (by kernel_rfl) (by simp) ?_
        refine AllReadyH.cons rfl (fun K hK => ?_) (AllReadyH.cons rfl (fun K hK => ?_) AllReadyH.nil)
        · go_simp
          refine hK.out _ _ ?_ (fun hHeld => ?_)
          · exact unhide MK _ hHeld.1 hHeld.2.1
          clear hK K
          try simp only [Act.put, kB0, kB1, kB2, kB3, kB4, kB5]
          refine wpAnyH_ready (rs := [7]) (by kernel_rfl) (by simp) ?_
          refine AllReadyH.cons rfl (fun K hK => ?_) AllReadyH.nil
          go_simp
          refine hK.out _ _ ?_ (fun hHeld => ?_)
          · exact unhide MK _ (hHeld.1.alloc hHeld.1.size _) (hHeld.2.1.alloc _)
          clear hK K
          try simp only [Act.put, kB0, kB1, kB2, kB3, kB4, kB5]
          refine wpAnyH_ready (rs := [8]) (by kernel_rfl) (by simp) ?_
          refine AllReadyH.cons rfl (fun K hK => ?_) AllReadyH.nil
          refine Mem.step_append_own rfl _ _ 23 rfl (w.heap.size + 3) 27 i0 _ 5 56 Tryz.underlying23 hi hz0 hz1 hz2 rfl (by decide) _ _ _ rfl (Mem.ownN_alloc (unhide OWD) _) ⟨WD.heap.size, 0, none⟩ 1 1 [.string q, .int .i64 k0, .string d, .int .i64 t, .int .i64 m] rfl rfl (Mem.cs_new WD ⟨q, k0, d, t, m⟩ _) (Mem.cs_one ⟨q, k0, d, t, m⟩) (by have := unhide HLEN; unfold maxLen; omega) (by have := unhide HLEN; omega) (by have := unhide HSZ; simp; omega) ?_
          intro v' wZ hownZ hgrow
          obtain ⟨a', cap', hv'⟩ := Mem.own_shape hownZ
          subst hv'
          have blkZ := ((unhide BLD).alloc (.cells #[.string q, .int .i64 k0, .string d, .int .i64 t, .int .i64 m] 27)).grown hgrow (fun e => by have := (unhide HLT _ e.symm).1; omega)
          have H2Z := hide ((((unhide BL2).alloc (.cells #[.string q, .int .i64 k0, .string d, .int .i64 t, .int .i64 m] 27)).grown hgrow (fun e => by have := (unhide HLT _ e.symm).1; omega)))
          refine hK.out _ _ ?_ (fun hHeld => ?_)
          · exact unhide MK _ (hHeld.1.grown hgrow (by have := hHeld.1.size; omega) (fun q hq => by have := (unhide HLT q hq).1; omega)) (hHeld.2.1.grown hgrow (fun e => by have := (unhide HLT _ e.symm).1; omega))
          clear hK K
          try simp only [Act.put, kB0, kB1, kB2, kB3, kB4, kB5]
          have cZ := blkZ.cell 0
          have fZ := blkZ.fr 0
          simp only [kA0, kA1] at cZ
          have BLZ := hide blkZ
          have OWZ := hide hownZ
          clear blkZ hownZ
          refine wpAnyH_take (i := 9) (v := ?_) rfl (by kernel_rfl) (by kernel_rfl) (by kernel_rfl) (fun _ _ _ h => h) (Or.inl ⟨by rfl, ?_⟩) (by assumption) ?_
          rotate_left
          · (intro w hSw; (try dsimp only at hSw); go_simp; (try with_reducible rfl))
          try simp only [Act.put, kB0, kB1, kB2, kB3, kB4, kB5]
          refine wpAnyH_ready (rs := [10]) (by kernel_rfl) (by simp) ?_
          refine AllReadyH.cons rfl (fun K hK => ?_) AllReadyH.nil
          go_simp
          refine hK.out _ _ ?_ (fun hHeld => ?_)
          · exact unhide MK _ (hHeld.1.setCell (by show w.heap.size ≤ w.heap.size + 1 + 1; omega) _) (hHeld.2.1.far _ _ (by show w.heap.size ≠ w.heap.size + 1 + 1; omega))
          clear hK K
          try simp only [Act.put, kB0, kB1, kB2, kB3, kB4, kB5]
          refine wpAnyH_done (by kernel_rfl) ?_ _
          have FIN : Hid (At w (wZ.setCell ⟨w.heap.size + 1 + 1, 0, none⟩ (.slice a' ((Pl.offL p (L.take k)).length + 1) cap')) (some ⟨b, o, none⟩) cap L p (k + 1) (.slice a' ((Pl.offL p (L.take k)).length + 1) cap')) :=
            ⟨hHeld.1, hHeld.2.1, (unhide H2Z).far _ _ (by show w.heap.size + 1 ≠ w.heap.size + 1 + 1; omega), (unhide BLZ).put 0 _, by
              rw [unhide HPL]
              exact Mem.ownN_set (Mem.ownN_snoc (L := Pl.offL p (L.take k)) (n := ⟨q, k0, d, t, m⟩) (unhide OWZ)) _ _ (by show w.heap.size + 1 + 1 < w.heap.size + 3; omega)⟩
          clear hHeld OWZ BLZ hgrow cZ fZ
          go_wp2
          go_roundw
          case rel => exact ⟨k + 1, by omega, by go_num, ⟨_, unhide FIN⟩⟩
          case measure => simp [intOf]; omega
        · go_simp
          refine hK.out _ _ ?_ (fun hHeld => ?_)
          · exact unhide MK _ (hHeld.1.alloc hHeld.1.size _) (hHeld.2.1.alloc _)
          clear hK K
          try simp only [Act.put, kB0, kB1, kB2, kB3, kB4, kB5]
          have cD2 := ((unhide BLD).alloc (.cells #[.string q, .int .i64 k0, .string d, .int .i64 t, .int .i64 m] 27)).cell 0
          simp only [kA0, kA1] at cD2
          refine wpAnyH_ready (rs := [1]) (by kernel_rfl) (by simp) ?_
          refine AllReadyH.cons rfl (fun K hK => ?_) AllReadyH.nil
          go_simp
          refine hK.out _ _ ?_ (fun hHeld => ?_)
          · exact unhide MK _ hHeld.1 hHeld.2.1
          clear hK K
          try simp only [Act.put, kB0, kB1, kB2, kB3, kB4, kB5]
          refine wpAnyH_ready (rs := [8]) (by kernel_rfl) (by simp) ?_
          refine AllReadyH.cons rfl (fun K hK => ?_) AllReadyH.nil
          refine Mem.step_append_own rfl _ _ 23 rfl (w.heap.size + 3) 27 i0 _ 5 56 Tryz.underlying23 hi hz0 hz1 hz2 rfl (by decide) _ _ _ rfl (Mem.ownN_alloc (unhide OWD) _) ⟨WD.heap.size, 0, none⟩ 1 1 [.string q, .int .i64 k0, .string d, .int .i64 t, .int .i64 m] rfl rfl (Mem.cs_new WD ⟨q, k0, d, t, m⟩ _) (Mem.cs_one ⟨q, k0, d, t, m⟩) (by have := unhide HLEN; unfold maxLen; omega) (by have := unhide HLEN; omega) (by have := unhide HSZ; simp; omega) ?_
          intro v' wZ hownZ hgrow
          obtain ⟨a', cap', hv'⟩ := Mem.own_shape hownZ
          subst hv'
          have blkZ := ((unhide BLD).alloc (.cells #[.string q, .int .i64 k0, .string d, .int .i64 t, .int .i64 m] 27)).grown hgrow (fun e => by have := (unhide HLT _ e.symm).1; omega)
          have H2Z := hide ((((unhide BL2).alloc (.cells #[.string q, .int .i64 k0, .string d, .int .i64 t, .int .i64 m] 27)).grown hgrow (fun e => by have := (unhide HLT _ e.symm).1; omega)))
          refine hK.out _ _ ?_ (fun hHeld => ?_)
          · exact unhide MK _ (hHeld.1.grown hgrow (by have := hHeld.1.size; omega) (fun q hq => by have := (unhide HLT q hq).1; omega)) (hHeld.2.1.grown hgrow (fun e => by have := (unhide HLT _ e.symm).1; omega))
          clear hK K
          try simp only [Act.put, kB0, kB1, kB2, kB3, kB4, kB5]
          have cZ := blkZ.cell 0
          have fZ := blkZ.fr 0
          simp only [kA0, kA1] at cZ
          have BLZ := hide blkZ
          have OWZ := hide hownZ
          clear blkZ hownZ
          refine wpAnyH_take (i := 9) (v := ?_) rfl (by kernel_rfl) (by kernel_rfl) (by kernel_rfl) (fun _ _ _ h => h) (Or.inl ⟨by rfl, ?_⟩) (by assumption) ?_
          rotate_left
          · (intro w hSw; (try dsimp only at hSw); go_simp; (try with_reducible rfl))
          try simp only [Act.put, kB0, kB1, kB2, kB3, kB4, kB5]
          refine wpAnyH_ready (rs := [10]) (by kernel_rfl) (by simp) ?_
          refine AllReadyH.cons rfl (fun K hK => ?_) AllReadyH.nil
          go_simp
          refine hK.out _ _ ?_ (fun hHeld => ?_)
          · exact unhide MK _ (hHeld.1.setCell (by show w.heap.size ≤ w.heap.size + 1 + 1; omega) _) (hHeld.2.1.far _ _ (by show w.heap.size ≠ w.heap.size + 1 + 1; omega))
          clear hK K
          try simp only [Act.put, kB0, kB1, kB2, kB3, kB4, kB5]
          refine wpAnyH_done (by kernel_rfl) ?_ _
          have FIN : Hid (At w (wZ.setCell ⟨w.heap.size + 1 + 1, 0, none⟩ (.slice a' ((Pl.offL p (L.take k)).length + 1) cap')) (some ⟨b, o, none⟩) cap L p (k + 1) (.slice a' ((Pl.offL p (L.take k)).length + 1) cap')) :=
            ⟨hHeld.1, hHeld.2.1, (unhide H2Z).far _ _ (by show w.heap.size + 1 ≠ w.heap.size + 1 + 1; omega), (unhide BLZ).put 0 _, by
              rw [unhide HPL]
              exact Mem.ownN_set (Mem.ownN_snoc (L := Pl.offL p (L.take k)) (n := ⟨q, k0, d, t, m⟩) (unhide OWZ)) _ _ (by show w.heap.size + 1 + 1 < w.heap.size + 3; omega)⟩
          clear hHeld OWZ BLZ hgrow cZ fZ
          go_wp2
          go_roundw
          case rel => exact ⟨k + 1, by omega, by go_num, ⟨_, unhide FIN⟩⟩
          case measure => simp [intOf]; omega
      · rw [hun] at hcu
        go_wp2_with fail
        refine (unhide hcu).mono ?_
        rintro e wY ⟨rfl, bY⟩
        have KA := hide ((unhide KA).call bY)
        clear hcu bY
        have H2 : Hid (At w wY (some ⟨b, o, none⟩) cap L p (k + 1) (.slice av (Pl.offL p (L.take k)).length capv)) :=
          ⟨(unhide KA).bel, (unhide KA).one, (unhide KA).two, (unhide KA).out, by have h := (unhide KA).own; rw [Pl.offN_out hn hun]; exact h⟩
        clear KA hun hn
        go_wp2
        go_roundw
        case rel => exact ⟨k + 1, by omega, by go_num, ⟨_, unhide H2⟩⟩
        case measure => simp [intOf]; omega
    · have y1 : ¬ (k : Int) < (L.length : Int) := by omega
      obtain rfl : k = L.length := by omega
      have c2 := (unhide KA).two.cell 0
      have f2 := (unhide KA).two.fr 0
      simp only [kA0, kA1] at c2
      go_wp2
      refine bodyPost_ret (v := .agg #[.slice av (Pl.offL p (L.take L.length)).length capv]) (by simp [results, Tryz.results28, go_sem, c2]) rfl ⟨_, rfl, ?_, ?_⟩
      · have h := (unhide KA).own
        rw [show Pl.offL p (L.take L.length) = Pl.offL p L by rw [List.take_length]] at h ⊢
        exact Mem.ownN_mono (Mem.ownN_set h _ _ (by show w.heap.size + 1 < w.heap.size + 3; omega)) (by omega)
      · exact (unhide KA).bel.setCell (by show w.heap.size ≤ w.heap.size + 1; omega) _
end WLb
end Go.Proofs.YtibmflhelgedeaaGreatDoor

