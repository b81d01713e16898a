/- The walk of the draw of a path of a tree (WDrawTs's first part, by genDS.py). -/
import Derived.Test.YtepmojmelcngeaaGreatDoorG26
import Derived.Test.YtepmojmelcngeaaGreatDoorWDrawTr
namespace Go.Proofs.YtepmojmelcngeaaGreatDoor
open Go.RowKit
namespace WSrc
set_option linter.unusedSimpArgs false in
set_option maxRecDepth 100000 in
set_option maxHeartbeats 4000000 in
theorem some_any (S : Nat) (a : Option Addr) (len cap : Nat) (B : Nat) (va : Option Addr) (vc : Nat) (L : List Pl.Nd) (w : World) (hs : Src w S a len cap) (hB : S < B) (tv : TreeV w B va vc L) (hl : L.length ≤ 64) (hsm : Pl.smallL L) :
    Calls Tryz.prog 68 #[.pointer (some ⟨S, 0, none⟩), .agg #[.slice va L.length vc]] w fun e w' => ∃ p : ByteArray, p.size ≤ 200 ∧ e = .returned (.string p) ∧ Src w' S a len cap ∧ w.grownBy w' (some S) := by
  have hS := src_lt hs
  have HSM := hide hsm
  have hs0 := hide (src_alloc hs (.cells #[.slice va L.length vc] 31))
  have BX := Mem.Blk.new w #[.slice va L.length vc] 31
  have g0 := World.grownBy_alloc w (.cells #[.slice va L.length vc] 31) (some S)
  have TV := hide (tv.alloc (.cells #[.slice va L.length vc] 31))
  clear hs tv hsm
  by_cases h0 : (0 : Int) < (L.length : Int)
  · obtain ⟨b, o, rfl⟩ : ∃ b o, va = some ⟨b, o, none⟩ := by
      rcases (unhide TV).2.1 with ⟨_, _, rfl⟩ | ⟨b, o, e, _⟩
      · simp at h0
      · exact ⟨b, o, e⟩
    have hbB := (unhide TV).2.2 b o rfl
    have x0 := BX.cell 0
    simp only [kA0, kA1, kA2] at x0
    go_enter Tryz.func68, Tryz.ntmps68
    go_wp2_with fail
    generalize w.alloc (.cells #[.slice (some ⟨b, o, none⟩) L.length vc] 31) = w1 at hs0 BX g0 TV x0 ⊢
    refine (one_any S a len cap 4 _ (unhide hs0) (by omega)).mono ?_
    rintro e w2 ⟨r4, rfl, s1, g1⟩
    have BX := BX.grown g1 (by simp; omega)
    have NV := hide (Mem.nodes_grown (unhide TV).1 g1 (by simp; omega))
    have g0 := g0.trans g1
    clear g1 x0 TV hs0
    cases r4
    · have x0 := BX.cell 0
      simp only [kA0, kA1, kA2] at x0
      go_wp2_with fail
      refine wp_region_held_drew (S := fun W' => W'.cell? ⟨w.heap.size, 0, none⟩ = some (.slice (some ⟨b, o, none⟩) L.length vc)) (by kernel_rfl) ?_ (fun hHeld => ?_)
      · exact (BX.cell 0)
      have s1' : Src w2.drew S a len cap := s1
      have BX' : Mem.Blk w2.drew w.heap.size #[.slice (some ⟨b, o, none⟩) L.length vc] 31 := BX
      have NV' : Hid (Mem.isNodes w2.drew (some ⟨b, o, none⟩) L) := unhide NV
      have g0' := grown_drew g0
      generalize w2.drew = WD at s1' BX' NV' g0' hHeld ⊢
      clear s1 BX NV g0 x0
      refine wpAnyH_take (i := 0) (v := ?_) rfl (by kernel_rfl) (by kernel_rfl) (by kernel_rfl) (fun _ _ _ h => h) (Or.inl ⟨by rfl, ?_⟩) (by assumption) ?_
      rotate_left
      · (intro w hSw; (try dsimp only at hSw); go_simp; (try with_reducible rfl))
      try simp only [Act.put, kB0, kB1, kB2, kB3, kB4, kB5]
      refine wpAnyH_take (i := 1) (v := ?_) rfl (by kernel_rfl) (by kernel_rfl) (by kernel_rfl) (fun _ _ _ h => h) (Or.inl ⟨by rfl, ?_⟩) (by assumption) ?_
      rotate_left
      · (intro w hSw; (try dsimp only at hSw); go_simp; (try with_reducible rfl))
      try simp only [Act.put, kB0, kB1, kB2, kB3, kB4, kB5]
      refine wpAnyH_take (i := 2) (v := ?_) rfl (by kernel_rfl) (by kernel_rfl) (by kernel_rfl) (fun _ _ _ h => h) (Or.inl ⟨by rfl, ?_⟩) (by assumption) ?_
      rotate_left
      · (intro w hSw; (try dsimp only at hSw); go_simp; (try with_reducible rfl))
      try simp only [Act.put, kB0, kB1, kB2, kB3, kB4, kB5]
      refine wpAnyH_take (i := 3) (v := ?_) rfl (by kernel_rfl) (by kernel_rfl) (by kernel_rfl) (fun _ _ _ h => h) (Or.inl ⟨by rfl, ?_⟩) (by assumption) ?_
      rotate_left
      · (intro w hSw; (try dsimp only at hSw); go_simp; (try with_reducible rfl))
      try simp only [Act.put, kB0, kB1, kB2, kB3, kB4, kB5]
      refine wpAnyH_take (i := 4) (v := ?_) rfl (by kernel_rfl) (by kernel_rfl) (by kernel_rfl) (fun _ _ _ h => h) (Or.inl ⟨by rfl, ?_⟩) (by assumption) ?_
      rotate_left
      · (intro w hSw; (try dsimp only at hSw); go_simp; (try with_reducible rfl))
      try simp only [Act.put, kB0, kB1, kB2, kB3, kB4, kB5]
      refine wpAnyH_take (i := 5) (v := ?_) rfl (by kernel_rfl) (by kernel_rfl) (by kernel_rfl) (fun _ _ _ h => h) (Or.inl ⟨by rfl, ?_⟩) (by assumption) ?_
      rotate_left
      · (intro w hSw; (try dsimp only at hSw); go_simp; (try with_reducible rfl))
      try simp only [Act.put, kB0, kB1, kB2, kB3, kB4, kB5]
      refine wpAnyH_ready (rs := [6]) (by kernel_rfl) (by simp) ?_
      refine AllReadyH.cons rfl (fun K hK => ?_) AllReadyH.nil
      go_simp
      refine (n_any S a len cap (L.length : Int) _ s1' (by omega)).mono ?_
      rintro e wX ⟨r, rfl, r0, r1, sX, gX⟩
      refine hK.out _ _ ?_ (fun hHeld => ?_)
      · exact (BX'.grown gX (by simp; omega)).cell 0
      clear hK K
      try simp only [Act.put, kB0, kB1, kB2, kB3, kB4, kB5]
      obtain ⟨k, rfl⟩ : ∃ k : Nat, r = (k : Int) := ⟨r.toNat, by omega⟩
      have hk : k < L.length := by omega
      have y1 : (k : Int) < (L.length : Int) := by omega
      have y3 : (0 : Int) ≤ (k : Int) := by omega
      obtain ⟨m, hm⟩ : ∃ m, L[k]? = some m := ⟨_, List.getElem?_eq_getElem hk⟩
      have hmp : m.path.size ≤ 200 := (unhide HSM m (List.mem_of_getElem? hm)).1
      obtain ⟨b', o', e', -, q0, -⟩ := (Mem.nodes_grown (unhide NV') gX (by simp; omega)) k m hm
      cases e'
      have GG := hide (g0'.trans gX)
      refine wpAnyH_take (i := 7) (v := ?_) rfl (by kernel_rfl) (by kernel_rfl) (by kernel_rfl) (fun _ _ _ h => h) (Or.inl ⟨by rfl, ?_⟩) (by assumption) ?_
      rotate_left
      · (intro w hSw; (try dsimp only at hSw); go_simp; (try with_reducible rfl))
      try simp only [Act.put, kB0, kB1, kB2, kB3, kB4, kB5]
      refine wpAnyH_take (i := 8) (v := ?_) rfl (by kernel_rfl) (by kernel_rfl) (by kernel_rfl) (fun _ _ _ h => h) (Or.inl ⟨by rfl, ?_⟩) (by assumption) ?_
      rotate_left
      · (intro w hSw; (try dsimp only at hSw); go_simp; (try with_reducible rfl))
      try simp only [Act.put, kB0, kB1, kB2, kB3, kB4, kB5]
      refine wpAnyH_ready (rs := [9]) (by kernel_rfl) (by simp) ?_
      refine AllReadyH.cons rfl (fun K hK => ?_) AllReadyH.nil
      go_simp
      refine hK.out _ _ ?_ (fun hHeld => ?_)
      · exact hHeld
      clear hK K
      try simp only [Act.put, kB0, kB1, kB2, kB3, kB4, kB5]
      refine wpAnyH_take (i := 10) (v := ?_) rfl (by kernel_rfl) (by kernel_rfl) (by kernel_rfl) (fun _ _ _ h => h) (Or.inl ⟨by rfl, ?_⟩) (by assumption) ?_
      rotate_left
      · (intro w hSw; (try dsimp only at hSw); go_simp; (try with_reducible rfl))
      try simp only [Act.put, kB0, kB1, kB2, kB3, kB4, kB5]
      refine wpAnyH_done (by kernel_rfl) ?_ _
      go_wp2
      go_ret
      exact ⟨_, hmp, rfl, sX, unhide GG⟩
    · go_wp2_with fail
      refine (path_any S a len cap _ s1).mono ?_
      rintro e w3 ⟨t, ht, rfl, s3, g3⟩
      go_wp2
      go_ret
      exact ⟨t, by omega, rfl, s3, g0.trans g3⟩
  · have x0 := BX.cell 0
    simp only [kA0, kA1, kA2] at x0
    go_enter Tryz.func68, Tryz.ntmps68
    go_wp2_with fail
    refine (path_any S a len cap _ (unhide hs0)).mono ?_
    rintro e w3 ⟨t, ht, rfl, s3, g3⟩
    go_wp2
    go_ret
    exact ⟨t, by omega, rfl, s3, g0.trans g3⟩
end WSrc
end Go.Proofs.YtepmojmelcngeaaGreatDoor
