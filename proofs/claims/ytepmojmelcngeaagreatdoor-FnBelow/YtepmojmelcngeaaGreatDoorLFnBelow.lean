/- The walk of the law FnBelow, over the walks of the functions and of the draws (by genBl.py). -/
import Derived.Test.YtepmojmelcngeaaGreatDoorG34
import Derived.Test.YtepmojmelcngeaaGreatDoorWDrawPo
import Derived.Test.YtepmojmelcngeaaGreatDoorWOverF
import Derived.Test.YtepmojmelcngeaaGreatDoorG47
import Derived.Test.YtepmojmelcngeaaGreatDoorWGetI
import Derived.Test.YtepmojmelcngeaaGreatDoorG63
import Derived.Test.YtepmojmelcngeaaGreatDoorMemUp
import Derived.Test.YtepmojmelcngeaaGreatDoorMerge
import Derived.Laws.Cover1
namespace Go.Proofs.YtepmojmelcngeaaGreatDoor
open Go.RowKit
namespace fnBelow
theorem lay_all {W : World} {B : Nat} {va : Option Addr} {Ts : List Pl.Tr} (h : WSrc.LayV W B va Ts) : ∀ t ∈ Ts, t.L.length ≤ 1048576 ∧ ∀ n ∈ t.L, n.path.size ≤ 1048576 ∧ n.data.size ≤ 1048576 := fun t ht =>
  ⟨by have := (h.each t ht).2.1; omega, Pl.small_ok (h.each t ht).2.2⟩
theorem seen_form (Ls : List (List Pl.Nd)) (p : ByteArray) : ∃ (np : ByteArray) (nk : Int) (nd : ByteArray) (nt nm c : Int), Pl.seenV Ls p = .agg #[.string np, .int .i64 nk, .string nd, .int .i64 nt, .int .i64 nm, .int .i64 c] := by
  unfold Pl.seenV
  split
  · exact ⟨⟨#[]⟩, 0, ⟨#[]⟩, 0, 0, _, rfl⟩
  split
  · exact ⟨⟨#[]⟩, 0, ⟨#[]⟩, 0, 0, _, rfl⟩
  split
  · exact ⟨_, _, _, _, _, _, rfl⟩
  · exact ⟨⟨#[]⟩, 0, ⟨#[]⟩, 0, 0, _, rfl⟩
theorem says {Ts : List Pl.Tr} {tr : Pl.Tr} (hC : Pl.overC (Ts.map (·.L)) (Pl.allO (Ts.map (·.L))) = 0) (hD : Pl.overC ((Ts ++ [tr]).map (·.L)) (Pl.allO ((Ts ++ [tr]).map (·.L))) = 0) (n : Pl.Nd) (hn : n ∈ Pl.overN (Ts.map (·.L)) (Pl.allO (Ts.map (·.L)))) (hk : n.kind ≠ 0) :
    ∃ (np : ByteArray) (nm : Int), Pl.getV (Pl.overN ((Ts ++ [tr]).map (·.L)) (Pl.allO ((Ts ++ [tr]).map (·.L)))) n.path = .agg #[.string np, .int .i64 n.kind, .string n.data, .int .i64 n.time, .int .i64 nm, .int .i64 0] := by
  obtain ⟨h1, -, h3⟩ := Pl.over_all hC
  obtain ⟨g1, -, -⟩ := Pl.over_all hD
  rw [h3] at hn
  rw [Pl.over_get hD]
  rw [List.map_append] at g1 ⊢
  exact Pl.more_says h1 g1 hn hk
theorem form {Ls : List (List Pl.Nd)} (hD : Pl.overC Ls (Pl.allO Ls) = 0) (p : ByteArray) : ∃ np nk nd nt nm c, Pl.getV (Pl.overN Ls (Pl.allO Ls)) p = .agg #[.string np, .int .i64 nk, .string nd, .int .i64 nt, .int .i64 nm, .int .i64 c] := by
  rw [Pl.over_get hD]
  exact seen_form Ls p
/-- What stands while the law asks. -/
structure Fk (w W : World) (X5 X7 X8 X9 : Nat) (la xa ba ya : Option Addr) (lc xc bc yc : Nat) (Ts Us : List Pl.Tr) (O Z : List Pl.Nd) (C D : Int) : Prop where
  bel : Below w.heap.size w W
  b5 : Mem.Blk W X5 #[.slice la Ts.length lc] 60
  t5 : Mem.isTrees W la Ts
  b7 : Mem.Blk W X7 #[.slice xa O.length xc, .int .i64 C] 33
  n7 : Mem.isNodes W xa O
  b8 : Mem.Blk W X8 #[.slice ba Us.length bc] 60
  t8 : Mem.isTrees W ba Us
  b9 : Mem.Blk W X9 #[.slice ya Z.length yc, .int .i64 D] 33
  n9 : Mem.isNodes W ya Z
section
variable {w W W' : World} {X5 X7 X8 X9 : Nat} {la xa ba ya : Option Addr} {lc xc bc yc : Nat} {Ts Us : List Pl.Tr} {O Z : List Pl.Nd} {C D : Int}
theorem Fk.call (h : Fk w W X5 X7 X8 X9 la xa ba ya lc xc bc yc Ts Us O Z C D) (b : Below W.heap.size W W') : Fk w W' X5 X7 X8 X9 la xa ba ya lc xc bc yc Ts Us O Z C D :=
  ⟨h.bel.trans (b.mono h.bel.size), h.b5.call b, Mem.trees_call h.t5 b, h.b7.call b, Mem.nodes_call h.n7 b, h.b8.call b, Mem.trees_call h.t8 b, h.b9.call b, Mem.nodes_call h.n9 b⟩
theorem Fk.drew (h : Fk w W X5 X7 X8 X9 la xa ba ya lc xc bc yc Ts Us O Z C D) : Fk w W.drew X5 X7 X8 X9 la xa ba ya lc xc bc yc Ts Us O Z C D :=
  h.call ⟨rfl, rfl, rfl, Nat.le_refl _, fun _ _ => rfl⟩
end
set_option linter.unusedSimpArgs false in
set_option maxRecDepth 100000 in
set_option maxHeartbeats 40000000 in
theorem walk (a0 : Option Addr) (len0 cap0 : Nat) (b0 : Option Addr) (len1 cap1 : Nat) (w : World) (w0 : WSrc.RowB w w.heap.size a0 len0 cap0) (w1 : WSrc.RowB w w.heap.size b0 len1 cap1) (x : Nat → Addr) (hE : WIs.Six w x) :
    Calls Tryz.prog 6 #[.slice a0 len0 cap0, .slice b0 len1 cap1] w fun e w' => e = .returned (.bool true) ∧ Below w.heap.size w w' := by
  by_cases hL0 : (1048576 : Int) < (len0 : Int)
  · clear w0 w1 hE
    go_enter Tryz.func6, Tryz.ntmps6
    go_wp2
    go_ret
    exact ⟨rfl, Below.refl _ _⟩
  by_cases hL1 : (1048576 : Int) < (len1 : Int)
  · clear w0 w1 hE
    go_enter Tryz.func6, Tryz.ntmps6
    go_wp2
    go_ret
    exact ⟨rfl, Below.refl _ _⟩
  obtain ⟨i0, hi, hz0, hz1, hz2⟩ := info_parts WSrc.infoT
  have HE := hide (fun W (b : Below w.heap.size w W) => hE.call b)
  have hd1 := hide (WSrc.drawOver_any a0 len0 cap0 w w0)
  have hd2 := hide (fun W (b : Below w.heap.size w W) => WSrc.drawPlain_any b0 len1 cap1 W (WSrc.row_upP w1 b b.size))
  clear w0 w1 hE
  go_enter Tryz.func6, Tryz.ntmps6
  go_wp2_with fail
  refine (unhide hd1).mono ?_
  rintro e v1 ⟨la, lc, Ts, hl, rfl, lv, b1⟩
  have OKT := hide (lay_all lv)
  have B5 := hide (Mem.Blk.new v1 #[.slice la Ts.length lc] 60)
  have T5 := hide (Mem.trees_call lv.trees ((Below.refl _ _).alloc (Nat.le_refl _) (.cells #[.slice la Ts.length lc] 60)))
  have b2 := b1.alloc b1.size (.cells #[.slice la Ts.length lc] 60)
  have HNO := hide (fun (h : la = none) => Mem.trees_none (Ts := Ts) (w := v1) (by rw [← h]; exact lv.trees))
  clear hd1 lv b1
  go_wp2_with fail
  generalize v1.alloc (.cells #[.slice la Ts.length lc] 60) = v2 at B5 T5 b2 ⊢
  generalize v1.heap.size = X5 at B5 ⊢
  refine (unhide hd2 _ b2).mono ?_
  rintro e v3 ⟨ta, tc, L, hLl, hsm, rfl, tv, b3⟩
  have OKL := hide (Pl.small_ok hsm)
  have b3' := b3.alloc b3.size (.cells #[.slice ta L.length tc] 31)
  have B6 := hide (Mem.Blk.new v3 #[.slice ta L.length tc] 31)
  have N6 := hide (tv.call ((Below.refl _ _).alloc (Nat.le_refl _) (.cells #[.slice ta L.length tc] 31))).1
  have B5 := hide ((unhide B5).call b3')
  have T5 := hide (Mem.trees_call (unhide T5) b3')
  have b4 := b2.trans (b3'.mono b2.size)
  clear hd2 tv hsm b3 b3' b2
  have hio := hide (fun W (b : Below w.heap.size w W) (v : Mem.isTrees W la Ts) => WGather.impl_any la lc Ts (Pl.allO (Ts.map (·.L))) W (by omega) v (unhide OKT) (Pl.all_lay (Ts.map (·.L))) x (unhide HE W b))
  have hso := hide (fun W (v : Mem.isTrees W la Ts) => WWalk4.spec_any la lc Ts W (by omega) v (unhide OKT))
  have OKU : Hid (∀ t ∈ Ts ++ [(⟨ta, tc, L⟩ : Pl.Tr)], t.L.length ≤ 1048576 ∧ ∀ n ∈ t.L, n.path.size ≤ 1048576 ∧ n.data.size ≤ 1048576) := fun t ht => by
    rcases List.mem_append.1 ht with h | h
    · exact unhide OKT t h
    · obtain rfl := List.mem_singleton.1 h
      exact ⟨by show L.length ≤ _; omega, unhide OKL⟩
  have hyo := hide (fun W ba bc (b : Below w.heap.size w W) (v : Mem.isTrees W ba (Ts ++ [(⟨ta, tc, L⟩ : Pl.Tr)])) => WGather.impl_any ba bc (Ts ++ [(⟨ta, tc, L⟩ : Pl.Tr)]) (Pl.allO ((Ts ++ [(⟨ta, tc, L⟩ : Pl.Tr)]).map (·.L))) W (by rw [List.length_append, List.length_singleton]; omega) v (unhide OKU) (Pl.all_lay ((Ts ++ [(⟨ta, tc, L⟩ : Pl.Tr)]).map (·.L))) x (unhide HE W b))
  have hys := hide (fun W ba bc (v : Mem.isTrees W ba (Ts ++ [(⟨ta, tc, L⟩ : Pl.Tr)])) => WWalk4.spec_any ba bc (Ts ++ [(⟨ta, tc, L⟩ : Pl.Tr)]) W (by rw [List.length_append, List.length_singleton]; omega) v (unhide OKU))
  have HOS := hide (Pl.over_small (Ts.map (·.L)))
  have hol := Pl.over_le (Ts.map (·.L)) (Pl.allO (Ts.map (·.L)))
  have HZS := hide (Pl.over_small ((Ts ++ [(⟨ta, tc, L⟩ : Pl.Tr)]).map (·.L)))
  have hzl := Pl.over_le ((Ts ++ [(⟨ta, tc, L⟩ : Pl.Tr)]).map (·.L)) (Pl.allO ((Ts ++ [(⟨ta, tc, L⟩ : Pl.Tr)]).map (·.L)))
  have HZT := hide (Pl.over_tree (Ls := (Ts ++ [(⟨ta, tc, L⟩ : Pl.Tr)]).map (·.L)))
  have HMS := hide (says (Ts := Ts) (tr := ⟨ta, tc, L⟩))
  have HFM := hide (form (Ls := (Ts ++ [(⟨ta, tc, L⟩ : Pl.Tr)]).map (·.L)))
  generalize Pl.overN (Ts.map (·.L)) (Pl.allO (Ts.map (·.L))) = O at hio hso HOS hol HMS
  generalize Pl.overC (Ts.map (·.L)) (Pl.allO (Ts.map (·.L))) = C at hio hso HMS
  generalize Pl.overN ((Ts ++ [(⟨ta, tc, L⟩ : Pl.Tr)]).map (·.L)) (Pl.allO ((Ts ++ [(⟨ta, tc, L⟩ : Pl.Tr)]).map (·.L))) = Z at hyo hys HZS hzl HZT HMS HFM
  generalize Pl.overC ((Ts ++ [(⟨ta, tc, L⟩ : Pl.Tr)]).map (·.L)) (Pl.allO ((Ts ++ [(⟨ta, tc, L⟩ : Pl.Tr)]).map (·.L))) = D at hyo hys HZT HMS HFM
  have x5 := (unhide B5).cell 0
  simp only [kA0, kA1, kA2] at x5
  go_wp2_with fail
  generalize v3.alloc (.cells #[.slice ta L.length tc] 31) = v4 at B5 B6 T5 N6 b4 x5 ⊢
  generalize v3.heap.size = X6 at B6 ⊢
  refine (unhide hio _ b4 (unhide T5)).mono ?_
  rintro e v5 ⟨vx, rfl, own5, b5⟩
  obtain ⟨xa, xc, hvx⟩ := Mem.own_shape own5
  subst hvx
  have b5' := b5.alloc b5.size (.cells #[.slice xa O.length xc, .int .i64 C] 33)
  have B7 := hide (Mem.Blk.new v5 #[.slice xa O.length xc, .int .i64 C] 33)
  have N7 := hide ((WSrc.treeV_own own5).alloc (.cells #[.slice xa O.length xc, .int .i64 C] 33)).1
  have B5 := hide ((unhide B5).call b5')
  have B6 := hide ((unhide B6).call b5')
  have T5 := hide (Mem.trees_call (unhide T5) b5')
  have N6 := hide (Mem.nodes_call (unhide N6) b5')
  have b6 := b4.trans (b5'.mono b4.size)
  clear hio own5 b5 b5' b4 x5
  have x5 := (unhide B5).cell 0
  have x6 := (unhide B6).cell 0
  simp only [kA0, kA1, kA2] at x5 x6
  have HONE : Hid (∀ u ∈ Ts.map Pl.Tr.val, u.oneCell' = true) := fun u hu => by
    obtain ⟨t, -, rfl⟩ := List.mem_map.1 hu
    rfl
  go_upto_region 6 with fail
  generalize v5.alloc (.cells #[.slice xa O.length xc, .int .i64 C] 33) = v6 at B5 B6 B7 T5 N6 N7 b6 x5 x6 ⊢
  generalize v5.heap.size = X7 at B7 ⊢
  have HND : Hid (∀ t ∈ Ts ++ [(⟨ta, tc, L⟩ : Pl.Tr)], Mem.isNodes v6 t.a t.L) := fun t ht => by
    rcases List.mem_append.1 ht with h | h
    · obtain ⟨j, hj⟩ := List.getElem?_of_mem h
      exact (unhide T5 j t hj).2
    · obtain rfl := List.mem_singleton.1 h
      exact unhide N6
  have MK6 : Hid (∀ W', Below v6.heap.size v6 W' → (Below v6.heap.size v6 W' ∧ W'.cell? ⟨X5, 0, none⟩ = some (.slice la Ts.length lc) ∧ W'.cell? ⟨X6, 0, none⟩ = some (.slice ta L.length tc))) := fun W' hb' => ⟨hb', (hb'.cell (p := ⟨X5, 0, none⟩) (unhide B5).lt).trans x5, (hb'.cell (p := ⟨X6, 0, none⟩) (unhide B6).lt).trans x6⟩
  clear x5 x6
  go_wp2_with fail
  refine wp_merge (R := fun T T' W => ∃ (g0 g2 Y : Nat) (a1 : Option Addr) (c1 : Nat) (a3 : Option Addr) (c3 : Nat), T' = (((((((((T).setIfInBounds 27 (.slice (some ⟨g0, 0, none⟩) 0 0)).setIfInBounds 28 (.pointer (some ⟨X5, 0, none⟩))).setIfInBounds 29 (.slice la Ts.length lc)).setIfInBounds 30 (.slice a1 Ts.length c1)).setIfInBounds 31 (.agg #[.slice ta L.length tc])).setIfInBounds 32 (.slice (some ⟨g2, 0, none⟩) 1 1)).setIfInBounds 33 (.slice a3 (Ts.length + 1) c3)).setIfInBounds 34 (.agg #[.slice a3 (Ts.length + 1) c3])).setIfInBounds 8 (.pointer (some ⟨Y, 0, none⟩)) ∧ Mem.Bth v6 W Y a3 c3 (Ts ++ [(⟨ta, tc, L⟩ : Pl.Tr)])) ?_ ?_
  · refine wp_region_held_drew (S := fun W' => Below v6.heap.size v6 W' ∧ W'.cell? ⟨X5, 0, none⟩ = some (.slice la Ts.length lc) ∧ W'.cell? ⟨X6, 0, none⟩ = some (.slice ta L.length tc)) (by kernel_rfl) ?_ (fun hHeld => ?_)
    · exact unhide MK6 _ ((Below.refl _ _).trans ⟨rfl, rfl, rfl, Nat.le_refl _, fun _ _ => rfl⟩)
    generalize v6.drew = D0 at hHeld ⊢
    refine wpAnyH_take (i := 1) (v := ?_) rfl (by kernel_rfl) (by kernel_rfl) (by kernel_rfl) (by first | exact (fun _ _ _ h => nomatch h.1) | exact (fun _ _ _ h => h)) (Or.inl ⟨by rfl, ?_⟩) (by assumption) ?_
    rotate_left
    · (intro w hSw; (try dsimp only at hSw); go_simp; (try with_reducible rfl))
    try simp only [Act.put, kB0, kB1, kB2, kB3, kB4, kB5]
    refine wpAnyH_take (i := 2) (v := ?_) rfl (by kernel_rfl) (by kernel_rfl) (by kernel_rfl) (by first | exact (fun _ _ _ h => nomatch h.1) | exact (fun _ _ _ h => h)) (Or.inl ⟨by rfl, ?_⟩) (by assumption) ?_
    rotate_left
    · (intro w hSw; (try dsimp only at hSw); go_simp; (try with_reducible rfl))
    try simp only [Act.put, kB0, kB1, kB2, kB3, kB4, kB5]
    refine wpAnyH_take (i := 4) (v := ?_) rfl (by kernel_rfl) (by kernel_rfl) (by kernel_rfl) (by first | exact (fun _ _ _ h => nomatch h.1) | exact (fun _ _ _ h => h)) (Or.inl ⟨by rfl, ?_⟩) (by assumption) ?_
    rotate_left
    · (intro w hSw; (try dsimp only at hSw); go_simp; (try with_reducible rfl))
    try simp only [Act.put, kB0, kB1, kB2, kB3, kB4, kB5]
    refine wpAnyH_ready (rs := [0, 5, 8]) (by kernel_rfl) (by simp) ?_
    refine AllReadyH.cons rfl (fun K hK => ?_) (AllReadyH.cons rfl (fun K hK => ?_) (AllReadyH.cons rfl (fun K hK => ?_) (AllReadyH.nil)))
    · go_simp
      have bA : Below D0.heap.size D0 (D0.alloc (.cells #[] 31)) := (Below.refl _ _).alloc (Nat.le_refl _) _
      have own0 : (D0.alloc (.cells #[] 31)).ownsRow v6.heap.size 31 1 (.slice (some ⟨D0.heap.size, 0, none⟩) 0 0) 0 [] := ⟨rfl, .inr ⟨D0.heap.size, 0, #[], rfl, hHeld.1.size, heap_alloc_new _ _, Nat.le_refl _, Nat.zero_le _, rfl, rfl⟩⟩
      refine hK.out _ _ ?_ (fun hHeld => ?_)
      · exact unhide MK6 _ (hHeld.1.trans (bA.mono hHeld.1.size))
      clear hK K
      try simp only [Act.put, kB0, kB1, kB2, kB3, kB4, kB5]
      clear bA
      generalize D0.alloc (.cells #[] 31) = XE at hHeld own0  ⊢
      generalize D0.heap.size = g0 at own0   ⊢
      refine wpAnyH_ready (rs := [3, 5, 8]) (by kernel_rfl) (by simp) ?_
      refine AllReadyH.cons rfl (fun K hK => ?_) (AllReadyH.cons rfl (fun K hK => ?_) (AllReadyH.cons rfl (fun K hK => ?_) (AllReadyH.nil)))
      · refine Mem.step_append_any rfl _ _ 58 rfl v6.heap.size 31 i0 (.agg #[.slice none 0 0]) 1 24 Tryz.underlying58 hi hz0 hz1 hz2 rfl (by decide) _ 0 [] rfl own0 la Ts.length lc (Ts.map Pl.Tr.val) rfl (by rw [List.length_map, Nat.mul_one]) (Mem.trees_src (Mem.trees_call (unhide T5) hHeld.1) (unhide HNO)) (unhide HONE) (by unfold maxLen; omega) (by omega) hHeld.1.size ?_
        intro v1 XP own1 gr far1
        rw [Nat.zero_add, List.nil_append] at own1
        obtain ⟨a1, c1, rfl⟩ := Mem.own_shape own1
        have bX := hHeld.1.grown gr hHeld.1.size (fun q hq => (World.ownsRow.lt own0 q hq).1)
        refine hK.out _ _ ?_ (fun hHeld => ?_)
        · exact unhide MK6 _ (bX)
        clear hK K
        try simp only [Act.put, kB0, kB1, kB2, kB3, kB4, kB5]
        clear bX own0 gr far1
        refine wpAnyH_ready (rs := [5, 8]) (by kernel_rfl) (by simp) ?_
        refine AllReadyH.cons rfl (fun K hK => ?_) (AllReadyH.cons rfl (fun K hK => ?_) (AllReadyH.nil))
        · go_simp
          have bA : Below XP.heap.size XP (XP.alloc (.cells #[.slice ta L.length tc] 31)) := (Below.refl _ _).alloc (Nat.le_refl _) _
          replace own1 := Mem.own_call own1 bA
          have r32 : (XP.alloc (.cells #[.slice ta L.length tc] 31)).ownsRow v6.heap.size 31 1 (.slice (some ⟨XP.heap.size, 0, none⟩) 1 1) 1 [.slice ta L.length tc] := ⟨rfl, .inr ⟨XP.heap.size, 1, #[.slice ta L.length tc], rfl, hHeld.1.size, heap_alloc_new _ _, Nat.le_refl _, by decide, rfl, rfl⟩⟩
          refine hK.out _ _ ?_ (fun hHeld => ?_)
          · exact unhide MK6 _ (hHeld.1.trans (bA.mono hHeld.1.size))
          clear hK K
          try simp only [Act.put, kB0, kB1, kB2, kB3, kB4, kB5]
          clear bA
          generalize XP.alloc (.cells #[.slice ta L.length tc] 31) = XR at hHeld r32 own1 ⊢
          generalize XP.heap.size = g2 at r32   ⊢
          refine wpAnyH_ready (rs := [6, 8]) (by kernel_rfl) (by simp) ?_
          refine AllReadyH.cons rfl (fun K hK => ?_) (AllReadyH.cons rfl (fun K hK => ?_) (AllReadyH.nil))
          · refine Mem.step_append_any rfl _ _ 58 rfl v6.heap.size 31 i0 (.agg #[.slice none 0 0]) 1 24 Tryz.underlying58 hi hz0 hz1 hz2 rfl (by decide) _ Ts.length (Ts.map Pl.Tr.val) rfl own1 (some ⟨g2, 0, none⟩) 1 1 [.slice ta L.length tc] rfl rfl (.inl ⟨_, rfl, World.ownsRow.cells r32 (g := g2) rfl⟩) (fun u hu => by cases List.mem_singleton.1 hu; rfl) (by unfold maxLen; omega) (by omega) hHeld.1.size ?_
            intro v3 XQ own3 gr far3
            obtain ⟨a3, c3, rfl⟩ := Mem.own_shape own3
            have bX := hHeld.1.grown gr hHeld.1.size (fun q hq => (World.ownsRow.lt own1 q hq).1)
            refine hK.out _ _ ?_ (fun hHeld => ?_)
            · exact unhide MK6 _ (bX)
            clear hK K
            try simp only [Act.put, kB0, kB1, kB2, kB3, kB4, kB5]
            clear bX own1 r32 gr far3
            refine wpAnyH_take (i := 7) (v := ?_) rfl (by kernel_rfl) (by kernel_rfl) (by kernel_rfl) (by first | exact (fun _ _ _ h => nomatch h.1) | exact (fun _ _ _ h => h)) (Or.inl ⟨by rfl, ?_⟩) (by assumption) ?_
            rotate_left
            · (intro w hSw; (try dsimp only at hSw); go_simp; (try with_reducible rfl))
            try simp only [Act.put, kB0, kB1, kB2, kB3, kB4, kB5]
            refine wpAnyH_ready (rs := [8]) (by kernel_rfl) (by simp) ?_
            refine AllReadyH.cons rfl (fun K hK => ?_) (AllReadyH.nil)
            go_simp
            have ne3Y : ∀ g, (Value.slice a3 (Ts.length + 1) c3).ownBlock = some g → g ≠ XQ.heap.size := fun g hg => by have := (World.ownsRow.lt own3 g hg).2; omega
            have bA : Below XQ.heap.size XQ (XQ.alloc (.cells #[.slice none 0 0] 60)) := (Below.refl _ _).alloc (Nat.le_refl _) _
            have LYY := hHeld.1.size
            replace own3 := Mem.own_call own3 bA
            have V := Mem.Blk.new XQ #[.slice none 0 0] 60
            refine hK.out _ _ ?_ (fun hHeld => ?_)
            · exact unhide MK6 _ (hHeld.1.trans (bA.mono hHeld.1.size))
            clear hK K
            try simp only [Act.put, kB0, kB1, kB2, kB3, kB4, kB5]
            clear bA
            generalize XQ.alloc (.cells #[.slice none 0 0] 60) = XA at hHeld V own3 ⊢
            generalize XQ.heap.size = Y at V LYY ne3Y ⊢
            have d0 := V.cell 0
            have f0 := V.fr 0
            simp only [kA0, kA1, kA2] at d0
            have GOT := hide (Mem.Bth.of (Ts := Ts ++ [(⟨ta, tc, L⟩ : Pl.Tr)]) (n := Ts.length + 1) (by simp) hHeld.1 LYY V (by rw [List.map_append]; exact own3) ne3Y (unhide HND))
            clear V own3 ne3Y
            refine wpAnyH_ready (rs := [9]) (by kernel_rfl) (by simp) ?_
            refine AllReadyH.cons rfl (fun K hK => ?_) (AllReadyH.nil)
            go_simp
            refine hK.out _ _ ?_ (fun hHeld => ?_)
            · exact unhide MK6 _ ((unhide GOT).bel)
            clear hK K
            try simp only [Act.put, kB0, kB1, kB2, kB3, kB4, kB5]
            refine wpAnyH_done (by kernel_rfl) ?_ _
            refine ⟨rfl, rfl, g0, g2, Y, a1, c1, a3, c3, ?_, unhide GOT⟩
            simp only [kB3, kB4, kB5]
          · go_simp
            have ne1Y : ∀ g, (Value.slice a1 Ts.length c1).ownBlock = some g → g ≠ XR.heap.size := fun g hg => by have := (World.ownsRow.lt own1 g hg).2; omega
            have bA : Below XR.heap.size XR (XR.alloc (.cells #[.slice none 0 0] 60)) := (Below.refl _ _).alloc (Nat.le_refl _) _
            have LYY := hHeld.1.size
            replace r32 := Mem.own_call r32 bA
            replace own1 := Mem.own_call own1 bA
            have V := Mem.Blk.new XR #[.slice none 0 0] 60
            refine hK.out _ _ ?_ (fun hHeld => ?_)
            · exact unhide MK6 _ (hHeld.1.trans (bA.mono hHeld.1.size))
            clear hK K
            try simp only [Act.put, kB0, kB1, kB2, kB3, kB4, kB5]
            clear bA
            generalize XR.alloc (.cells #[.slice none 0 0] 60) = XA at hHeld V r32 own1 ⊢
            generalize XR.heap.size = Y at V LYY ne1Y ⊢
            refine wpAnyH_ready (rs := [6]) (by kernel_rfl) (by simp) ?_
            refine AllReadyH.cons rfl (fun K hK => ?_) (AllReadyH.nil)
            refine Mem.step_append_any rfl _ _ 58 rfl v6.heap.size 31 i0 (.agg #[.slice none 0 0]) 1 24 Tryz.underlying58 hi hz0 hz1 hz2 rfl (by decide) _ Ts.length (Ts.map Pl.Tr.val) rfl own1 (some ⟨g2, 0, none⟩) 1 1 [.slice ta L.length tc] rfl rfl (.inl ⟨_, rfl, World.ownsRow.cells r32 (g := g2) rfl⟩) (fun u hu => by cases List.mem_singleton.1 hu; rfl) (by unfold maxLen; omega) (by omega) hHeld.1.size ?_
            intro v3 XQ own3 gr far3
            obtain ⟨a3, c3, rfl⟩ := Mem.own_shape own3
            have ne3Y : ∀ g, (Value.slice a3 (Ts.length + 1) c3).ownBlock = some g → g ≠ Y := fun g hg => by
              rcases far3 g hg with e | e
              · exact ne1Y g e
              · have := V.lt; omega
            replace V := V.grown gr (fun e => ne1Y Y e.symm rfl)
            clear ne1Y
            have bX := hHeld.1.grown gr hHeld.1.size (fun q hq => (World.ownsRow.lt own1 q hq).1)
            refine hK.out _ _ ?_ (fun hHeld => ?_)
            · exact unhide MK6 _ (bX)
            clear hK K
            try simp only [Act.put, kB0, kB1, kB2, kB3, kB4, kB5]
            clear bX own1 r32 gr far3
            refine wpAnyH_take (i := 7) (v := ?_) rfl (by kernel_rfl) (by kernel_rfl) (by kernel_rfl) (by first | exact (fun _ _ _ h => nomatch h.1) | exact (fun _ _ _ h => h)) (Or.inl ⟨by rfl, ?_⟩) (by assumption) ?_
            rotate_left
            · (intro w hSw; (try dsimp only at hSw); go_simp; (try with_reducible rfl))
            try simp only [Act.put, kB0, kB1, kB2, kB3, kB4, kB5]
            have d0 := V.cell 0
            have f0 := V.fr 0
            simp only [kA0, kA1, kA2] at d0
            have GOT := hide (Mem.Bth.of (Ts := Ts ++ [(⟨ta, tc, L⟩ : Pl.Tr)]) (n := Ts.length + 1) (by simp) hHeld.1 LYY V (by rw [List.map_append]; exact own3) ne3Y (unhide HND))
            clear V own3 ne3Y
            refine wpAnyH_ready (rs := [9]) (by kernel_rfl) (by simp) ?_
            refine AllReadyH.cons rfl (fun K hK => ?_) (AllReadyH.nil)
            go_simp
            refine hK.out _ _ ?_ (fun hHeld => ?_)
            · exact unhide MK6 _ ((unhide GOT).bel)
            clear hK K
            try simp only [Act.put, kB0, kB1, kB2, kB3, kB4, kB5]
            refine wpAnyH_done (by kernel_rfl) ?_ _
            refine ⟨rfl, rfl, g0, g2, Y, a1, c1, a3, c3, ?_, unhide GOT⟩
            simp only [kB3, kB4, kB5]
        · go_simp
          have ne1Y : ∀ g, (Value.slice a1 Ts.length c1).ownBlock = some g → g ≠ XP.heap.size := fun g hg => by have := (World.ownsRow.lt own1 g hg).2; omega
          have bA : Below XP.heap.size XP (XP.alloc (.cells #[.slice none 0 0] 60)) := (Below.refl _ _).alloc (Nat.le_refl _) _
          have LYY := hHeld.1.size
          replace own1 := Mem.own_call own1 bA
          have V := Mem.Blk.new XP #[.slice none 0 0] 60
          refine hK.out _ _ ?_ (fun hHeld => ?_)
          · exact unhide MK6 _ (hHeld.1.trans (bA.mono hHeld.1.size))
          clear hK K
          try simp only [Act.put, kB0, kB1, kB2, kB3, kB4, kB5]
          clear bA
          generalize XP.alloc (.cells #[.slice none 0 0] 60) = XA at hHeld V own1 ⊢
          generalize XP.heap.size = Y at V LYY ne1Y ⊢
          refine wpAnyH_ready (rs := [5]) (by kernel_rfl) (by simp) ?_
          refine AllReadyH.cons rfl (fun K hK => ?_) (AllReadyH.nil)
          go_simp
          have bA : Below XA.heap.size XA (XA.alloc (.cells #[.slice ta L.length tc] 31)) := (Below.refl _ _).alloc (Nat.le_refl _) _
          replace V := V.call bA
          replace own1 := Mem.own_call own1 bA
          have r32 : (XA.alloc (.cells #[.slice ta L.length tc] 31)).ownsRow v6.heap.size 31 1 (.slice (some ⟨XA.heap.size, 0, none⟩) 1 1) 1 [.slice ta L.length tc] := ⟨rfl, .inr ⟨XA.heap.size, 1, #[.slice ta L.length tc], rfl, hHeld.1.size, heap_alloc_new _ _, Nat.le_refl _, by decide, rfl, rfl⟩⟩
          refine hK.out _ _ ?_ (fun hHeld => ?_)
          · exact unhide MK6 _ (hHeld.1.trans (bA.mono hHeld.1.size))
          clear hK K
          try simp only [Act.put, kB0, kB1, kB2, kB3, kB4, kB5]
          clear bA
          generalize XA.alloc (.cells #[.slice ta L.length tc] 31) = XR at hHeld r32 V own1 ⊢
          generalize XA.heap.size = g2 at r32   ⊢
          refine wpAnyH_ready (rs := [6]) (by kernel_rfl) (by simp) ?_
          refine AllReadyH.cons rfl (fun K hK => ?_) (AllReadyH.nil)
          refine Mem.step_append_any rfl _ _ 58 rfl v6.heap.size 31 i0 (.agg #[.slice none 0 0]) 1 24 Tryz.underlying58 hi hz0 hz1 hz2 rfl (by decide) _ Ts.length (Ts.map Pl.Tr.val) rfl own1 (some ⟨g2, 0, none⟩) 1 1 [.slice ta L.length tc] rfl rfl (.inl ⟨_, rfl, World.ownsRow.cells r32 (g := g2) rfl⟩) (fun u hu => by cases List.mem_singleton.1 hu; rfl) (by unfold maxLen; omega) (by omega) hHeld.1.size ?_
          intro v3 XQ own3 gr far3
          obtain ⟨a3, c3, rfl⟩ := Mem.own_shape own3
          have ne3Y : ∀ g, (Value.slice a3 (Ts.length + 1) c3).ownBlock = some g → g ≠ Y := fun g hg => by
            rcases far3 g hg with e | e
            · exact ne1Y g e
            · have := V.lt; omega
          replace V := V.grown gr (fun e => ne1Y Y e.symm rfl)
          clear ne1Y
          have bX := hHeld.1.grown gr hHeld.1.size (fun q hq => (World.ownsRow.lt own1 q hq).1)
          refine hK.out _ _ ?_ (fun hHeld => ?_)
          · exact unhide MK6 _ (bX)
          clear hK K
          try simp only [Act.put, kB0, kB1, kB2, kB3, kB4, kB5]
          clear bX own1 r32 gr far3
          refine wpAnyH_take (i := 7) (v := ?_) rfl (by kernel_rfl) (by kernel_rfl) (by kernel_rfl) (by first | exact (fun _ _ _ h => nomatch h.1) | exact (fun _ _ _ h => h)) (Or.inl ⟨by rfl, ?_⟩) (by assumption) ?_
          rotate_left
          · (intro w hSw; (try dsimp only at hSw); go_simp; (try with_reducible rfl))
          try simp only [Act.put, kB0, kB1, kB2, kB3, kB4, kB5]
          have d0 := V.cell 0
          have f0 := V.fr 0
          simp only [kA0, kA1, kA2] at d0
          have GOT := hide (Mem.Bth.of (Ts := Ts ++ [(⟨ta, tc, L⟩ : Pl.Tr)]) (n := Ts.length + 1) (by simp) hHeld.1 LYY V (by rw [List.map_append]; exact own3) ne3Y (unhide HND))
          clear V own3 ne3Y
          refine wpAnyH_ready (rs := [9]) (by kernel_rfl) (by simp) ?_
          refine AllReadyH.cons rfl (fun K hK => ?_) (AllReadyH.nil)
          go_simp
          refine hK.out _ _ ?_ (fun hHeld => ?_)
          · exact unhide MK6 _ ((unhide GOT).bel)
          clear hK K
          try simp only [Act.put, kB0, kB1, kB2, kB3, kB4, kB5]
          refine wpAnyH_done (by kernel_rfl) ?_ _
          refine ⟨rfl, rfl, g0, g2, Y, a1, c1, a3, c3, ?_, unhide GOT⟩
          simp only [kB3, kB4, kB5]
      · go_simp
        have ne02 : XE.heap.size ≠ g0 := by have := (World.ownsRow.lt own0 g0 rfl).2; omega
        have bA : Below XE.heap.size XE (XE.alloc (.cells #[.slice ta L.length tc] 31)) := (Below.refl _ _).alloc (Nat.le_refl _) _
        replace own0 := Mem.own_call own0 bA
        have r32 : (XE.alloc (.cells #[.slice ta L.length tc] 31)).ownsRow v6.heap.size 31 1 (.slice (some ⟨XE.heap.size, 0, none⟩) 1 1) 1 [.slice ta L.length tc] := ⟨rfl, .inr ⟨XE.heap.size, 1, #[.slice ta L.length tc], rfl, hHeld.1.size, heap_alloc_new _ _, Nat.le_refl _, by decide, rfl, rfl⟩⟩
        refine hK.out _ _ ?_ (fun hHeld => ?_)
        · exact unhide MK6 _ (hHeld.1.trans (bA.mono hHeld.1.size))
        clear hK K
        try simp only [Act.put, kB0, kB1, kB2, kB3, kB4, kB5]
        clear bA
        generalize XE.alloc (.cells #[.slice ta L.length tc] 31) = XR at hHeld r32 own0 ⊢
        generalize XE.heap.size = g2 at r32  ne02 ⊢
        refine wpAnyH_ready (rs := [3, 8]) (by kernel_rfl) (by simp) ?_
        refine AllReadyH.cons rfl (fun K hK => ?_) (AllReadyH.cons rfl (fun K hK => ?_) (AllReadyH.nil))
        · refine Mem.step_append_any rfl _ _ 58 rfl v6.heap.size 31 i0 (.agg #[.slice none 0 0]) 1 24 Tryz.underlying58 hi hz0 hz1 hz2 rfl (by decide) _ 0 [] rfl own0 la Ts.length lc (Ts.map Pl.Tr.val) rfl (by rw [List.length_map, Nat.mul_one]) (Mem.trees_src (Mem.trees_call (unhide T5) hHeld.1) (unhide HNO)) (unhide HONE) (by unfold maxLen; omega) (by omega) hHeld.1.size ?_
          intro v1 XP own1 gr far1
          rw [Nat.zero_add, List.nil_append] at own1
          obtain ⟨a1, c1, rfl⟩ := Mem.own_shape own1
          replace r32 := Mem.row_off3 r32 gr (fun g hg e => ne02 ((Option.some.inj (hg : some g2 = some g)).trans (Option.some.inj (e : some g = some g0))))
          clear ne02
          have bX := hHeld.1.grown gr hHeld.1.size (fun q hq => (World.ownsRow.lt own0 q hq).1)
          refine hK.out _ _ ?_ (fun hHeld => ?_)
          · exact unhide MK6 _ (bX)
          clear hK K
          try simp only [Act.put, kB0, kB1, kB2, kB3, kB4, kB5]
          clear bX own0 gr far1
          refine wpAnyH_ready (rs := [6, 8]) (by kernel_rfl) (by simp) ?_
          refine AllReadyH.cons rfl (fun K hK => ?_) (AllReadyH.cons rfl (fun K hK => ?_) (AllReadyH.nil))
          · refine Mem.step_append_any rfl _ _ 58 rfl v6.heap.size 31 i0 (.agg #[.slice none 0 0]) 1 24 Tryz.underlying58 hi hz0 hz1 hz2 rfl (by decide) _ Ts.length (Ts.map Pl.Tr.val) rfl own1 (some ⟨g2, 0, none⟩) 1 1 [.slice ta L.length tc] rfl rfl (.inl ⟨_, rfl, World.ownsRow.cells r32 (g := g2) rfl⟩) (fun u hu => by cases List.mem_singleton.1 hu; rfl) (by unfold maxLen; omega) (by omega) hHeld.1.size ?_
            intro v3 XQ own3 gr far3
            obtain ⟨a3, c3, rfl⟩ := Mem.own_shape own3
            have bX := hHeld.1.grown gr hHeld.1.size (fun q hq => (World.ownsRow.lt own1 q hq).1)
            refine hK.out _ _ ?_ (fun hHeld => ?_)
            · exact unhide MK6 _ (bX)
            clear hK K
            try simp only [Act.put, kB0, kB1, kB2, kB3, kB4, kB5]
            clear bX own1 r32 gr far3
            refine wpAnyH_take (i := 7) (v := ?_) rfl (by kernel_rfl) (by kernel_rfl) (by kernel_rfl) (by first | exact (fun _ _ _ h => nomatch h.1) | exact (fun _ _ _ h => h)) (Or.inl ⟨by rfl, ?_⟩) (by assumption) ?_
            rotate_left
            · (intro w hSw; (try dsimp only at hSw); go_simp; (try with_reducible rfl))
            try simp only [Act.put, kB0, kB1, kB2, kB3, kB4, kB5]
            refine wpAnyH_ready (rs := [8]) (by kernel_rfl) (by simp) ?_
            refine AllReadyH.cons rfl (fun K hK => ?_) (AllReadyH.nil)
            go_simp
            have ne3Y : ∀ g, (Value.slice a3 (Ts.length + 1) c3).ownBlock = some g → g ≠ XQ.heap.size := fun g hg => by have := (World.ownsRow.lt own3 g hg).2; omega
            have bA : Below XQ.heap.size XQ (XQ.alloc (.cells #[.slice none 0 0] 60)) := (Below.refl _ _).alloc (Nat.le_refl _) _
            have LYY := hHeld.1.size
            replace own3 := Mem.own_call own3 bA
            have V := Mem.Blk.new XQ #[.slice none 0 0] 60
            refine hK.out _ _ ?_ (fun hHeld => ?_)
            · exact unhide MK6 _ (hHeld.1.trans (bA.mono hHeld.1.size))
            clear hK K
            try simp only [Act.put, kB0, kB1, kB2, kB3, kB4, kB5]
            clear bA
            generalize XQ.alloc (.cells #[.slice none 0 0] 60) = XA at hHeld V own3 ⊢
            generalize XQ.heap.size = Y at V LYY ne3Y ⊢
            have d0 := V.cell 0
            have f0 := V.fr 0
            simp only [kA0, kA1, kA2] at d0
            have GOT := hide (Mem.Bth.of (Ts := Ts ++ [(⟨ta, tc, L⟩ : Pl.Tr)]) (n := Ts.length + 1) (by simp) hHeld.1 LYY V (by rw [List.map_append]; exact own3) ne3Y (unhide HND))
            clear V own3 ne3Y
            refine wpAnyH_ready (rs := [9]) (by kernel_rfl) (by simp) ?_
            refine AllReadyH.cons rfl (fun K hK => ?_) (AllReadyH.nil)
            go_simp
            refine hK.out _ _ ?_ (fun hHeld => ?_)
            · exact unhide MK6 _ ((unhide GOT).bel)
            clear hK K
            try simp only [Act.put, kB0, kB1, kB2, kB3, kB4, kB5]
            refine wpAnyH_done (by kernel_rfl) ?_ _
            refine ⟨rfl, rfl, g0, g2, Y, a1, c1, a3, c3, ?_, unhide GOT⟩
            simp only [kB3, kB4, kB5]
          · go_simp
            have ne1Y : ∀ g, (Value.slice a1 Ts.length c1).ownBlock = some g → g ≠ XP.heap.size := fun g hg => by have := (World.ownsRow.lt own1 g hg).2; omega
            have bA : Below XP.heap.size XP (XP.alloc (.cells #[.slice none 0 0] 60)) := (Below.refl _ _).alloc (Nat.le_refl _) _
            have LYY := hHeld.1.size
            replace r32 := Mem.own_call r32 bA
            replace own1 := Mem.own_call own1 bA
            have V := Mem.Blk.new XP #[.slice none 0 0] 60
            refine hK.out _ _ ?_ (fun hHeld => ?_)
            · exact unhide MK6 _ (hHeld.1.trans (bA.mono hHeld.1.size))
            clear hK K
            try simp only [Act.put, kB0, kB1, kB2, kB3, kB4, kB5]
            clear bA
            generalize XP.alloc (.cells #[.slice none 0 0] 60) = XA at hHeld V r32 own1 ⊢
            generalize XP.heap.size = Y at V LYY ne1Y ⊢
            refine wpAnyH_ready (rs := [6]) (by kernel_rfl) (by simp) ?_
            refine AllReadyH.cons rfl (fun K hK => ?_) (AllReadyH.nil)
            refine Mem.step_append_any rfl _ _ 58 rfl v6.heap.size 31 i0 (.agg #[.slice none 0 0]) 1 24 Tryz.underlying58 hi hz0 hz1 hz2 rfl (by decide) _ Ts.length (Ts.map Pl.Tr.val) rfl own1 (some ⟨g2, 0, none⟩) 1 1 [.slice ta L.length tc] rfl rfl (.inl ⟨_, rfl, World.ownsRow.cells r32 (g := g2) rfl⟩) (fun u hu => by cases List.mem_singleton.1 hu; rfl) (by unfold maxLen; omega) (by omega) hHeld.1.size ?_
            intro v3 XQ own3 gr far3
            obtain ⟨a3, c3, rfl⟩ := Mem.own_shape own3
            have ne3Y : ∀ g, (Value.slice a3 (Ts.length + 1) c3).ownBlock = some g → g ≠ Y := fun g hg => by
              rcases far3 g hg with e | e
              · exact ne1Y g e
              · have := V.lt; omega
            replace V := V.grown gr (fun e => ne1Y Y e.symm rfl)
            clear ne1Y
            have bX := hHeld.1.grown gr hHeld.1.size (fun q hq => (World.ownsRow.lt own1 q hq).1)
            refine hK.out _ _ ?_ (fun hHeld => ?_)
            · exact unhide MK6 _ (bX)
            clear hK K
            try simp only [Act.put, kB0, kB1, kB2, kB3, kB4, kB5]
            clear bX own1 r32 gr far3
            refine wpAnyH_take (i := 7) (v := ?_) rfl (by kernel_rfl) (by kernel_rfl) (by kernel_rfl) (by first | exact (fun _ _ _ h => nomatch h.1) | exact (fun _ _ _ h => h)) (Or.inl ⟨by rfl, ?_⟩) (by assumption) ?_
            rotate_left
            · (intro w hSw; (try dsimp only at hSw); go_simp; (try with_reducible rfl))
            try simp only [Act.put, kB0, kB1, kB2, kB3, kB4, kB5]
            have d0 := V.cell 0
            have f0 := V.fr 0
            simp only [kA0, kA1, kA2] at d0
            have GOT := hide (Mem.Bth.of (Ts := Ts ++ [(⟨ta, tc, L⟩ : Pl.Tr)]) (n := Ts.length + 1) (by simp) hHeld.1 LYY V (by rw [List.map_append]; exact own3) ne3Y (unhide HND))
            clear V own3 ne3Y
            refine wpAnyH_ready (rs := [9]) (by kernel_rfl) (by simp) ?_
            refine AllReadyH.cons rfl (fun K hK => ?_) (AllReadyH.nil)
            go_simp
            refine hK.out _ _ ?_ (fun hHeld => ?_)
            · exact unhide MK6 _ ((unhide GOT).bel)
            clear hK K
            try simp only [Act.put, kB0, kB1, kB2, kB3, kB4, kB5]
            refine wpAnyH_done (by kernel_rfl) ?_ _
            refine ⟨rfl, rfl, g0, g2, Y, a1, c1, a3, c3, ?_, unhide GOT⟩
            simp only [kB3, kB4, kB5]
        · go_simp
          have ne0Y : XR.heap.size ≠ g0 := by have := (World.ownsRow.lt own0 g0 rfl).2; omega
          have bA : Below XR.heap.size XR (XR.alloc (.cells #[.slice none 0 0] 60)) := (Below.refl _ _).alloc (Nat.le_refl _) _
          have LYY := hHeld.1.size
          replace own0 := Mem.own_call own0 bA
          replace r32 := Mem.own_call r32 bA
          have V := Mem.Blk.new XR #[.slice none 0 0] 60
          refine hK.out _ _ ?_ (fun hHeld => ?_)
          · exact unhide MK6 _ (hHeld.1.trans (bA.mono hHeld.1.size))
          clear hK K
          try simp only [Act.put, kB0, kB1, kB2, kB3, kB4, kB5]
          clear bA
          generalize XR.alloc (.cells #[.slice none 0 0] 60) = XA at hHeld V own0 r32 ⊢
          generalize XR.heap.size = Y at V LYY ne0Y ⊢
          refine wpAnyH_ready (rs := [3]) (by kernel_rfl) (by simp) ?_
          refine AllReadyH.cons rfl (fun K hK => ?_) (AllReadyH.nil)
          refine Mem.step_append_any rfl _ _ 58 rfl v6.heap.size 31 i0 (.agg #[.slice none 0 0]) 1 24 Tryz.underlying58 hi hz0 hz1 hz2 rfl (by decide) _ 0 [] rfl own0 la Ts.length lc (Ts.map Pl.Tr.val) rfl (by rw [List.length_map, Nat.mul_one]) (Mem.trees_src (Mem.trees_call (unhide T5) hHeld.1) (unhide HNO)) (unhide HONE) (by unfold maxLen; omega) (by omega) hHeld.1.size ?_
          intro v1 XP own1 gr far1
          rw [Nat.zero_add, List.nil_append] at own1
          obtain ⟨a1, c1, rfl⟩ := Mem.own_shape own1
          have ne1Y : ∀ g, (Value.slice a1 Ts.length c1).ownBlock = some g → g ≠ Y := fun g hg => by
            rcases far1 g hg with e | e
            · exact fun h => ne0Y (h.symm.trans (Option.some.inj (e : some g0 = some g)).symm)
            · have := V.lt; omega
          replace V := V.grown gr (fun e => ne0Y (Option.some.inj (e : some Y = some g0)))
          clear ne0Y
          replace r32 := Mem.row_off3 r32 gr (fun g hg e => ne02 ((Option.some.inj (hg : some g2 = some g)).trans (Option.some.inj (e : some g = some g0))))
          clear ne02
          have bX := hHeld.1.grown gr hHeld.1.size (fun q hq => (World.ownsRow.lt own0 q hq).1)
          refine hK.out _ _ ?_ (fun hHeld => ?_)
          · exact unhide MK6 _ (bX)
          clear hK K
          try simp only [Act.put, kB0, kB1, kB2, kB3, kB4, kB5]
          clear bX own0 gr far1
          refine wpAnyH_ready (rs := [6]) (by kernel_rfl) (by simp) ?_
          refine AllReadyH.cons rfl (fun K hK => ?_) (AllReadyH.nil)
          refine Mem.step_append_any rfl _ _ 58 rfl v6.heap.size 31 i0 (.agg #[.slice none 0 0]) 1 24 Tryz.underlying58 hi hz0 hz1 hz2 rfl (by decide) _ Ts.length (Ts.map Pl.Tr.val) rfl own1 (some ⟨g2, 0, none⟩) 1 1 [.slice ta L.length tc] rfl rfl (.inl ⟨_, rfl, World.ownsRow.cells r32 (g := g2) rfl⟩) (fun u hu => by cases List.mem_singleton.1 hu; rfl) (by unfold maxLen; omega) (by omega) hHeld.1.size ?_
          intro v3 XQ own3 gr far3
          obtain ⟨a3, c3, rfl⟩ := Mem.own_shape own3
          have ne3Y : ∀ g, (Value.slice a3 (Ts.length + 1) c3).ownBlock = some g → g ≠ Y := fun g hg => by
            rcases far3 g hg with e | e
            · exact ne1Y g e
            · have := V.lt; omega
          replace V := V.grown gr (fun e => ne1Y Y e.symm rfl)
          clear ne1Y
          have bX := hHeld.1.grown gr hHeld.1.size (fun q hq => (World.ownsRow.lt own1 q hq).1)
          refine hK.out _ _ ?_ (fun hHeld => ?_)
          · exact unhide MK6 _ (bX)
          clear hK K
          try simp only [Act.put, kB0, kB1, kB2, kB3, kB4, kB5]
          clear bX own1 r32 gr far3
          refine wpAnyH_take (i := 7) (v := ?_) rfl (by kernel_rfl) (by kernel_rfl) (by kernel_rfl) (by first | exact (fun _ _ _ h => nomatch h.1) | exact (fun _ _ _ h => h)) (Or.inl ⟨by rfl, ?_⟩) (by assumption) ?_
          rotate_left
          · (intro w hSw; (try dsimp only at hSw); go_simp; (try with_reducible rfl))
          try simp only [Act.put, kB0, kB1, kB2, kB3, kB4, kB5]
          have d0 := V.cell 0
          have f0 := V.fr 0
          simp only [kA0, kA1, kA2] at d0
          have GOT := hide (Mem.Bth.of (Ts := Ts ++ [(⟨ta, tc, L⟩ : Pl.Tr)]) (n := Ts.length + 1) (by simp) hHeld.1 LYY V (by rw [List.map_append]; exact own3) ne3Y (unhide HND))
          clear V own3 ne3Y
          refine wpAnyH_ready (rs := [9]) (by kernel_rfl) (by simp) ?_
          refine AllReadyH.cons rfl (fun K hK => ?_) (AllReadyH.nil)
          go_simp
          refine hK.out _ _ ?_ (fun hHeld => ?_)
          · exact unhide MK6 _ ((unhide GOT).bel)
          clear hK K
          try simp only [Act.put, kB0, kB1, kB2, kB3, kB4, kB5]
          refine wpAnyH_done (by kernel_rfl) ?_ _
          refine ⟨rfl, rfl, g0, g2, Y, a1, c1, a3, c3, ?_, unhide GOT⟩
          simp only [kB3, kB4, kB5]
      · go_simp
        have ne0Y : XE.heap.size ≠ g0 := by have := (World.ownsRow.lt own0 g0 rfl).2; omega
        have bA : Below XE.heap.size XE (XE.alloc (.cells #[.slice none 0 0] 60)) := (Below.refl _ _).alloc (Nat.le_refl _) _
        have LYY := hHeld.1.size
        replace own0 := Mem.own_call own0 bA
        have V := Mem.Blk.new XE #[.slice none 0 0] 60
        refine hK.out _ _ ?_ (fun hHeld => ?_)
        · exact unhide MK6 _ (hHeld.1.trans (bA.mono hHeld.1.size))
        clear hK K
        try simp only [Act.put, kB0, kB1, kB2, kB3, kB4, kB5]
        clear bA
        generalize XE.alloc (.cells #[.slice none 0 0] 60) = XA at hHeld V own0 ⊢
        generalize XE.heap.size = Y at V LYY ne0Y ⊢
        refine wpAnyH_ready (rs := [3, 5]) (by kernel_rfl) (by simp) ?_
        refine AllReadyH.cons rfl (fun K hK => ?_) (AllReadyH.cons rfl (fun K hK => ?_) (AllReadyH.nil))
        · refine Mem.step_append_any rfl _ _ 58 rfl v6.heap.size 31 i0 (.agg #[.slice none 0 0]) 1 24 Tryz.underlying58 hi hz0 hz1 hz2 rfl (by decide) _ 0 [] rfl own0 la Ts.length lc (Ts.map Pl.Tr.val) rfl (by rw [List.length_map, Nat.mul_one]) (Mem.trees_src (Mem.trees_call (unhide T5) hHeld.1) (unhide HNO)) (unhide HONE) (by unfold maxLen; omega) (by omega) hHeld.1.size ?_
          intro v1 XP own1 gr far1
          rw [Nat.zero_add, List.nil_append] at own1
          obtain ⟨a1, c1, rfl⟩ := Mem.own_shape own1
          have ne1Y : ∀ g, (Value.slice a1 Ts.length c1).ownBlock = some g → g ≠ Y := fun g hg => by
            rcases far1 g hg with e | e
            · exact fun h => ne0Y (h.symm.trans (Option.some.inj (e : some g0 = some g)).symm)
            · have := V.lt; omega
          replace V := V.grown gr (fun e => ne0Y (Option.some.inj (e : some Y = some g0)))
          clear ne0Y
          have bX := hHeld.1.grown gr hHeld.1.size (fun q hq => (World.ownsRow.lt own0 q hq).1)
          refine hK.out _ _ ?_ (fun hHeld => ?_)
          · exact unhide MK6 _ (bX)
          clear hK K
          try simp only [Act.put, kB0, kB1, kB2, kB3, kB4, kB5]
          clear bX own0 gr far1
          refine wpAnyH_ready (rs := [5]) (by kernel_rfl) (by simp) ?_
          refine AllReadyH.cons rfl (fun K hK => ?_) (AllReadyH.nil)
          go_simp
          have bA : Below XP.heap.size XP (XP.alloc (.cells #[.slice ta L.length tc] 31)) := (Below.refl _ _).alloc (Nat.le_refl _) _
          replace V := V.call bA
          replace own1 := Mem.own_call own1 bA
          have r32 : (XP.alloc (.cells #[.slice ta L.length tc] 31)).ownsRow v6.heap.size 31 1 (.slice (some ⟨XP.heap.size, 0, none⟩) 1 1) 1 [.slice ta L.length tc] := ⟨rfl, .inr ⟨XP.heap.size, 1, #[.slice ta L.length tc], rfl, hHeld.1.size, heap_alloc_new _ _, Nat.le_refl _, by decide, rfl, rfl⟩⟩
          refine hK.out _ _ ?_ (fun hHeld => ?_)
          · exact unhide MK6 _ (hHeld.1.trans (bA.mono hHeld.1.size))
          clear hK K
          try simp only [Act.put, kB0, kB1, kB2, kB3, kB4, kB5]
          clear bA
          generalize XP.alloc (.cells #[.slice ta L.length tc] 31) = XR at hHeld r32 V own1 ⊢
          generalize XP.heap.size = g2 at r32   ⊢
          refine wpAnyH_ready (rs := [6]) (by kernel_rfl) (by simp) ?_
          refine AllReadyH.cons rfl (fun K hK => ?_) (AllReadyH.nil)
          refine Mem.step_append_any rfl _ _ 58 rfl v6.heap.size 31 i0 (.agg #[.slice none 0 0]) 1 24 Tryz.underlying58 hi hz0 hz1 hz2 rfl (by decide) _ Ts.length (Ts.map Pl.Tr.val) rfl own1 (some ⟨g2, 0, none⟩) 1 1 [.slice ta L.length tc] rfl rfl (.inl ⟨_, rfl, World.ownsRow.cells r32 (g := g2) rfl⟩) (fun u hu => by cases List.mem_singleton.1 hu; rfl) (by unfold maxLen; omega) (by omega) hHeld.1.size ?_
          intro v3 XQ own3 gr far3
          obtain ⟨a3, c3, rfl⟩ := Mem.own_shape own3
          have ne3Y : ∀ g, (Value.slice a3 (Ts.length + 1) c3).ownBlock = some g → g ≠ Y := fun g hg => by
            rcases far3 g hg with e | e
            · exact ne1Y g e
            · have := V.lt; omega
          replace V := V.grown gr (fun e => ne1Y Y e.symm rfl)
          clear ne1Y
          have bX := hHeld.1.grown gr hHeld.1.size (fun q hq => (World.ownsRow.lt own1 q hq).1)
          refine hK.out _ _ ?_ (fun hHeld => ?_)
          · exact unhide MK6 _ (bX)
          clear hK K
          try simp only [Act.put, kB0, kB1, kB2, kB3, kB4, kB5]
          clear bX own1 r32 gr far3
          refine wpAnyH_take (i := 7) (v := ?_) rfl (by kernel_rfl) (by kernel_rfl) (by kernel_rfl) (by first | exact (fun _ _ _ h => nomatch h.1) | exact (fun _ _ _ h => h)) (Or.inl ⟨by rfl, ?_⟩) (by assumption) ?_
          rotate_left
          · (intro w hSw; (try dsimp only at hSw); go_simp; (try with_reducible rfl))
          try simp only [Act.put, kB0, kB1, kB2, kB3, kB4, kB5]
          have d0 := V.cell 0
          have f0 := V.fr 0
          simp only [kA0, kA1, kA2] at d0
          have GOT := hide (Mem.Bth.of (Ts := Ts ++ [(⟨ta, tc, L⟩ : Pl.Tr)]) (n := Ts.length + 1) (by simp) hHeld.1 LYY V (by rw [List.map_append]; exact own3) ne3Y (unhide HND))
          clear V own3 ne3Y
          refine wpAnyH_ready (rs := [9]) (by kernel_rfl) (by simp) ?_
          refine AllReadyH.cons rfl (fun K hK => ?_) (AllReadyH.nil)
          go_simp
          refine hK.out _ _ ?_ (fun hHeld => ?_)
          · exact unhide MK6 _ ((unhide GOT).bel)
          clear hK K
          try simp only [Act.put, kB0, kB1, kB2, kB3, kB4, kB5]
          refine wpAnyH_done (by kernel_rfl) ?_ _
          refine ⟨rfl, rfl, g0, g2, Y, a1, c1, a3, c3, ?_, unhide GOT⟩
          simp only [kB3, kB4, kB5]
        · go_simp
          have ne02 : XA.heap.size ≠ g0 := by have := (World.ownsRow.lt own0 g0 rfl).2; omega
          have bA : Below XA.heap.size XA (XA.alloc (.cells #[.slice ta L.length tc] 31)) := (Below.refl _ _).alloc (Nat.le_refl _) _
          replace own0 := Mem.own_call own0 bA
          replace V := V.call bA
          have r32 : (XA.alloc (.cells #[.slice ta L.length tc] 31)).ownsRow v6.heap.size 31 1 (.slice (some ⟨XA.heap.size, 0, none⟩) 1 1) 1 [.slice ta L.length tc] := ⟨rfl, .inr ⟨XA.heap.size, 1, #[.slice ta L.length tc], rfl, hHeld.1.size, heap_alloc_new _ _, Nat.le_refl _, by decide, rfl, rfl⟩⟩
          refine hK.out _ _ ?_ (fun hHeld => ?_)
          · exact unhide MK6 _ (hHeld.1.trans (bA.mono hHeld.1.size))
          clear hK K
          try simp only [Act.put, kB0, kB1, kB2, kB3, kB4, kB5]
          clear bA
          generalize XA.alloc (.cells #[.slice ta L.length tc] 31) = XR at hHeld r32 own0 V ⊢
          generalize XA.heap.size = g2 at r32  ne02 ⊢
          refine wpAnyH_ready (rs := [3]) (by kernel_rfl) (by simp) ?_
          refine AllReadyH.cons rfl (fun K hK => ?_) (AllReadyH.nil)
          refine Mem.step_append_any rfl _ _ 58 rfl v6.heap.size 31 i0 (.agg #[.slice none 0 0]) 1 24 Tryz.underlying58 hi hz0 hz1 hz2 rfl (by decide) _ 0 [] rfl own0 la Ts.length lc (Ts.map Pl.Tr.val) rfl (by rw [List.length_map, Nat.mul_one]) (Mem.trees_src (Mem.trees_call (unhide T5) hHeld.1) (unhide HNO)) (unhide HONE) (by unfold maxLen; omega) (by omega) hHeld.1.size ?_
          intro v1 XP own1 gr far1
          rw [Nat.zero_add, List.nil_append] at own1
          obtain ⟨a1, c1, rfl⟩ := Mem.own_shape own1
          have ne1Y : ∀ g, (Value.slice a1 Ts.length c1).ownBlock = some g → g ≠ Y := fun g hg => by
            rcases far1 g hg with e | e
            · exact fun h => ne0Y (h.symm.trans (Option.some.inj (e : some g0 = some g)).symm)
            · have := V.lt; omega
          replace V := V.grown gr (fun e => ne0Y (Option.some.inj (e : some Y = some g0)))
          clear ne0Y
          replace r32 := Mem.row_off3 r32 gr (fun g hg e => ne02 ((Option.some.inj (hg : some g2 = some g)).trans (Option.some.inj (e : some g = some g0))))
          clear ne02
          have bX := hHeld.1.grown gr hHeld.1.size (fun q hq => (World.ownsRow.lt own0 q hq).1)
          refine hK.out _ _ ?_ (fun hHeld => ?_)
          · exact unhide MK6 _ (bX)
          clear hK K
          try simp only [Act.put, kB0, kB1, kB2, kB3, kB4, kB5]
          clear bX own0 gr far1
          refine wpAnyH_ready (rs := [6]) (by kernel_rfl) (by simp) ?_
          refine AllReadyH.cons rfl (fun K hK => ?_) (AllReadyH.nil)
          refine Mem.step_append_any rfl _ _ 58 rfl v6.heap.size 31 i0 (.agg #[.slice none 0 0]) 1 24 Tryz.underlying58 hi hz0 hz1 hz2 rfl (by decide) _ Ts.length (Ts.map Pl.Tr.val) rfl own1 (some ⟨g2, 0, none⟩) 1 1 [.slice ta L.length tc] rfl rfl (.inl ⟨_, rfl, World.ownsRow.cells r32 (g := g2) rfl⟩) (fun u hu => by cases List.mem_singleton.1 hu; rfl) (by unfold maxLen; omega) (by omega) hHeld.1.size ?_
          intro v3 XQ own3 gr far3
          obtain ⟨a3, c3, rfl⟩ := Mem.own_shape own3
          have ne3Y : ∀ g, (Value.slice a3 (Ts.length + 1) c3).ownBlock = some g → g ≠ Y := fun g hg => by
            rcases far3 g hg with e | e
            · exact ne1Y g e
            · have := V.lt; omega
          replace V := V.grown gr (fun e => ne1Y Y e.symm rfl)
          clear ne1Y
          have bX := hHeld.1.grown gr hHeld.1.size (fun q hq => (World.ownsRow.lt own1 q hq).1)
          refine hK.out _ _ ?_ (fun hHeld => ?_)
          · exact unhide MK6 _ (bX)
          clear hK K
          try simp only [Act.put, kB0, kB1, kB2, kB3, kB4, kB5]
          clear bX own1 r32 gr far3
          refine wpAnyH_take (i := 7) (v := ?_) rfl (by kernel_rfl) (by kernel_rfl) (by kernel_rfl) (by first | exact (fun _ _ _ h => nomatch h.1) | exact (fun _ _ _ h => h)) (Or.inl ⟨by rfl, ?_⟩) (by assumption) ?_
          rotate_left
          · (intro w hSw; (try dsimp only at hSw); go_simp; (try with_reducible rfl))
          try simp only [Act.put, kB0, kB1, kB2, kB3, kB4, kB5]
          have d0 := V.cell 0
          have f0 := V.fr 0
          simp only [kA0, kA1, kA2] at d0
          have GOT := hide (Mem.Bth.of (Ts := Ts ++ [(⟨ta, tc, L⟩ : Pl.Tr)]) (n := Ts.length + 1) (by simp) hHeld.1 LYY V (by rw [List.map_append]; exact own3) ne3Y (unhide HND))
          clear V own3 ne3Y
          refine wpAnyH_ready (rs := [9]) (by kernel_rfl) (by simp) ?_
          refine AllReadyH.cons rfl (fun K hK => ?_) (AllReadyH.nil)
          go_simp
          refine hK.out _ _ ?_ (fun hHeld => ?_)
          · exact unhide MK6 _ ((unhide GOT).bel)
          clear hK K
          try simp only [Act.put, kB0, kB1, kB2, kB3, kB4, kB5]
          refine wpAnyH_done (by kernel_rfl) ?_ _
          refine ⟨rfl, rfl, g0, g2, Y, a1, c1, a3, c3, ?_, unhide GOT⟩
          simp only [kB3, kB4, kB5]
    · go_simp
      have bA : Below D0.heap.size D0 (D0.alloc (.cells #[.slice ta L.length tc] 31)) := (Below.refl _ _).alloc (Nat.le_refl _) _
      have r32 : (D0.alloc (.cells #[.slice ta L.length tc] 31)).ownsRow v6.heap.size 31 1 (.slice (some ⟨D0.heap.size, 0, none⟩) 1 1) 1 [.slice ta L.length tc] := ⟨rfl, .inr ⟨D0.heap.size, 1, #[.slice ta L.length tc], rfl, hHeld.1.size, heap_alloc_new _ _, Nat.le_refl _, by decide, rfl, rfl⟩⟩
      refine hK.out _ _ ?_ (fun hHeld => ?_)
      · exact unhide MK6 _ (hHeld.1.trans (bA.mono hHeld.1.size))
      clear hK K
      try simp only [Act.put, kB0, kB1, kB2, kB3, kB4, kB5]
      clear bA
      generalize D0.alloc (.cells #[.slice ta L.length tc] 31) = XR at hHeld r32  ⊢
      generalize D0.heap.size = g2 at r32   ⊢
      refine wpAnyH_ready (rs := [0, 8]) (by kernel_rfl) (by simp) ?_
      refine AllReadyH.cons rfl (fun K hK => ?_) (AllReadyH.cons rfl (fun K hK => ?_) (AllReadyH.nil))
      · go_simp
        have ne02 : g2 ≠ XR.heap.size := by have := (World.ownsRow.lt r32 g2 rfl).2; omega
        have bA : Below XR.heap.size XR (XR.alloc (.cells #[] 31)) := (Below.refl _ _).alloc (Nat.le_refl _) _
        replace r32 := Mem.own_call r32 bA
        have own0 : (XR.alloc (.cells #[] 31)).ownsRow v6.heap.size 31 1 (.slice (some ⟨XR.heap.size, 0, none⟩) 0 0) 0 [] := ⟨rfl, .inr ⟨XR.heap.size, 0, #[], rfl, hHeld.1.size, heap_alloc_new _ _, Nat.le_refl _, Nat.zero_le _, rfl, rfl⟩⟩
        refine hK.out _ _ ?_ (fun hHeld => ?_)
        · exact unhide MK6 _ (hHeld.1.trans (bA.mono hHeld.1.size))
        clear hK K
        try simp only [Act.put, kB0, kB1, kB2, kB3, kB4, kB5]
        clear bA
        generalize XR.alloc (.cells #[] 31) = XE at hHeld own0 r32 ⊢
        generalize XR.heap.size = g0 at own0  ne02 ⊢
        refine wpAnyH_ready (rs := [3, 8]) (by kernel_rfl) (by simp) ?_
        refine AllReadyH.cons rfl (fun K hK => ?_) (AllReadyH.cons rfl (fun K hK => ?_) (AllReadyH.nil))
        · refine Mem.step_append_any rfl _ _ 58 rfl v6.heap.size 31 i0 (.agg #[.slice none 0 0]) 1 24 Tryz.underlying58 hi hz0 hz1 hz2 rfl (by decide) _ 0 [] rfl own0 la Ts.length lc (Ts.map Pl.Tr.val) rfl (by rw [List.length_map, Nat.mul_one]) (Mem.trees_src (Mem.trees_call (unhide T5) hHeld.1) (unhide HNO)) (unhide HONE) (by unfold maxLen; omega) (by omega) hHeld.1.size ?_
          intro v1 XP own1 gr far1
          rw [Nat.zero_add, List.nil_append] at own1
          obtain ⟨a1, c1, rfl⟩ := Mem.own_shape own1
          replace r32 := Mem.row_off3 r32 gr (fun g hg e => ne02 ((Option.some.inj (hg : some g2 = some g)).trans (Option.some.inj (e : some g = some g0))))
          clear ne02
          have bX := hHeld.1.grown gr hHeld.1.size (fun q hq => (World.ownsRow.lt own0 q hq).1)
          refine hK.out _ _ ?_ (fun hHeld => ?_)
          · exact unhide MK6 _ (bX)
          clear hK K
          try simp only [Act.put, kB0, kB1, kB2, kB3, kB4, kB5]
          clear bX own0 gr far1
          refine wpAnyH_ready (rs := [6, 8]) (by kernel_rfl) (by simp) ?_
          refine AllReadyH.cons rfl (fun K hK => ?_) (AllReadyH.cons rfl (fun K hK => ?_) (AllReadyH.nil))
          · refine Mem.step_append_any rfl _ _ 58 rfl v6.heap.size 31 i0 (.agg #[.slice none 0 0]) 1 24 Tryz.underlying58 hi hz0 hz1 hz2 rfl (by decide) _ Ts.length (Ts.map Pl.Tr.val) rfl own1 (some ⟨g2, 0, none⟩) 1 1 [.slice ta L.length tc] rfl rfl (.inl ⟨_, rfl, World.ownsRow.cells r32 (g := g2) rfl⟩) (fun u hu => by cases List.mem_singleton.1 hu; rfl) (by unfold maxLen; omega) (by omega) hHeld.1.size ?_
            intro v3 XQ own3 gr far3
            obtain ⟨a3, c3, rfl⟩ := Mem.own_shape own3
            have bX := hHeld.1.grown gr hHeld.1.size (fun q hq => (World.ownsRow.lt own1 q hq).1)
            refine hK.out _ _ ?_ (fun hHeld => ?_)
            · exact unhide MK6 _ (bX)
            clear hK K
            try simp only [Act.put, kB0, kB1, kB2, kB3, kB4, kB5]
            clear bX own1 r32 gr far3
            refine wpAnyH_take (i := 7) (v := ?_) rfl (by kernel_rfl) (by kernel_rfl) (by kernel_rfl) (by first | exact (fun _ _ _ h => nomatch h.1) | exact (fun _ _ _ h => h)) (Or.inl ⟨by rfl, ?_⟩) (by assumption) ?_
            rotate_left
            · (intro w hSw; (try dsimp only at hSw); go_simp; (try with_reducible rfl))
            try simp only [Act.put, kB0, kB1, kB2, kB3, kB4, kB5]
            refine wpAnyH_ready (rs := [8]) (by kernel_rfl) (by simp) ?_
            refine AllReadyH.cons rfl (fun K hK => ?_) (AllReadyH.nil)
            go_simp
            have ne3Y : ∀ g, (Value.slice a3 (Ts.length + 1) c3).ownBlock = some g → g ≠ XQ.heap.size := fun g hg => by have := (World.ownsRow.lt own3 g hg).2; omega
            have bA : Below XQ.heap.size XQ (XQ.alloc (.cells #[.slice none 0 0] 60)) := (Below.refl _ _).alloc (Nat.le_refl _) _
            have LYY := hHeld.1.size
            replace own3 := Mem.own_call own3 bA
            have V := Mem.Blk.new XQ #[.slice none 0 0] 60
            refine hK.out _ _ ?_ (fun hHeld => ?_)
            · exact unhide MK6 _ (hHeld.1.trans (bA.mono hHeld.1.size))
            clear hK K
            try simp only [Act.put, kB0, kB1, kB2, kB3, kB4, kB5]
            clear bA
            generalize XQ.alloc (.cells #[.slice none 0 0] 60) = XA at hHeld V own3 ⊢
            generalize XQ.heap.size = Y at V LYY ne3Y ⊢
            have d0 := V.cell 0
            have f0 := V.fr 0
            simp only [kA0, kA1, kA2] at d0
            have GOT := hide (Mem.Bth.of (Ts := Ts ++ [(⟨ta, tc, L⟩ : Pl.Tr)]) (n := Ts.length + 1) (by simp) hHeld.1 LYY V (by rw [List.map_append]; exact own3) ne3Y (unhide HND))
            clear V own3 ne3Y
            refine wpAnyH_ready (rs := [9]) (by kernel_rfl) (by simp) ?_
            refine AllReadyH.cons rfl (fun K hK => ?_) (AllReadyH.nil)
            go_simp
            refine hK.out _ _ ?_ (fun hHeld => ?_)
            · exact unhide MK6 _ ((unhide GOT).bel)
            clear hK K
            try simp only [Act.put, kB0, kB1, kB2, kB3, kB4, kB5]
            refine wpAnyH_done (by kernel_rfl) ?_ _
            refine ⟨rfl, rfl, g0, g2, Y, a1, c1, a3, c3, ?_, unhide GOT⟩
            simp only [kB3, kB4, kB5]
          · go_simp
            have ne1Y : ∀ g, (Value.slice a1 Ts.length c1).ownBlock = some g → g ≠ XP.heap.size := fun g hg => by have := (World.ownsRow.lt own1 g hg).2; omega
            have bA : Below XP.heap.size XP (XP.alloc (.cells #[.slice none 0 0] 60)) := (Below.refl _ _).alloc (Nat.le_refl _) _
            have LYY := hHeld.1.size
            replace r32 := Mem.own_call r32 bA
            replace own1 := Mem.own_call own1 bA
            have V := Mem.Blk.new XP #[.slice none 0 0] 60
            refine hK.out _ _ ?_ (fun hHeld => ?_)
            · exact unhide MK6 _ (hHeld.1.trans (bA.mono hHeld.1.size))
            clear hK K
            try simp only [Act.put, kB0, kB1, kB2, kB3, kB4, kB5]
            clear bA
            generalize XP.alloc (.cells #[.slice none 0 0] 60) = XA at hHeld V r32 own1 ⊢
            generalize XP.heap.size = Y at V LYY ne1Y ⊢
            refine wpAnyH_ready (rs := [6]) (by kernel_rfl) (by simp) ?_
            refine AllReadyH.cons rfl (fun K hK => ?_) (AllReadyH.nil)
            refine Mem.step_append_any rfl _ _ 58 rfl v6.heap.size 31 i0 (.agg #[.slice none 0 0]) 1 24 Tryz.underlying58 hi hz0 hz1 hz2 rfl (by decide) _ Ts.length (Ts.map Pl.Tr.val) rfl own1 (some ⟨g2, 0, none⟩) 1 1 [.slice ta L.length tc] rfl rfl (.inl ⟨_, rfl, World.ownsRow.cells r32 (g := g2) rfl⟩) (fun u hu => by cases List.mem_singleton.1 hu; rfl) (by unfold maxLen; omega) (by omega) hHeld.1.size ?_
            intro v3 XQ own3 gr far3
            obtain ⟨a3, c3, rfl⟩ := Mem.own_shape own3
            have ne3Y : ∀ g, (Value.slice a3 (Ts.length + 1) c3).ownBlock = some g → g ≠ Y := fun g hg => by
              rcases far3 g hg with e | e
              · exact ne1Y g e
              · have := V.lt; omega
            replace V := V.grown gr (fun e => ne1Y Y e.symm rfl)
            clear ne1Y
            have bX := hHeld.1.grown gr hHeld.1.size (fun q hq => (World.ownsRow.lt own1 q hq).1)
            refine hK.out _ _ ?_ (fun hHeld => ?_)
            · exact unhide MK6 _ (bX)
            clear hK K
            try simp only [Act.put, kB0, kB1, kB2, kB3, kB4, kB5]
            clear bX own1 r32 gr far3
            refine wpAnyH_take (i := 7) (v := ?_) rfl (by kernel_rfl) (by kernel_rfl) (by kernel_rfl) (by first | exact (fun _ _ _ h => nomatch h.1) | exact (fun _ _ _ h => h)) (Or.inl ⟨by rfl, ?_⟩) (by assumption) ?_
            rotate_left
            · (intro w hSw; (try dsimp only at hSw); go_simp; (try with_reducible rfl))
            try simp only [Act.put, kB0, kB1, kB2, kB3, kB4, kB5]
            have d0 := V.cell 0
            have f0 := V.fr 0
            simp only [kA0, kA1, kA2] at d0
            have GOT := hide (Mem.Bth.of (Ts := Ts ++ [(⟨ta, tc, L⟩ : Pl.Tr)]) (n := Ts.length + 1) (by simp) hHeld.1 LYY V (by rw [List.map_append]; exact own3) ne3Y (unhide HND))
            clear V own3 ne3Y
            refine wpAnyH_ready (rs := [9]) (by kernel_rfl) (by simp) ?_
            refine AllReadyH.cons rfl (fun K hK => ?_) (AllReadyH.nil)
            go_simp
            refine hK.out _ _ ?_ (fun hHeld => ?_)
            · exact unhide MK6 _ ((unhide GOT).bel)
            clear hK K
            try simp only [Act.put, kB0, kB1, kB2, kB3, kB4, kB5]
            refine wpAnyH_done (by kernel_rfl) ?_ _
            refine ⟨rfl, rfl, g0, g2, Y, a1, c1, a3, c3, ?_, unhide GOT⟩
            simp only [kB3, kB4, kB5]
        · go_simp
          have ne0Y : XE.heap.size ≠ g0 := by have := (World.ownsRow.lt own0 g0 rfl).2; omega
          have bA : Below XE.heap.size XE (XE.alloc (.cells #[.slice none 0 0] 60)) := (Below.refl _ _).alloc (Nat.le_refl _) _
          have LYY := hHeld.1.size
          replace own0 := Mem.own_call own0 bA
          replace r32 := Mem.own_call r32 bA
          have V := Mem.Blk.new XE #[.slice none 0 0] 60
          refine hK.out _ _ ?_ (fun hHeld => ?_)
          · exact unhide MK6 _ (hHeld.1.trans (bA.mono hHeld.1.size))
          clear hK K
          try simp only [Act.put, kB0, kB1, kB2, kB3, kB4, kB5]
          clear bA
          generalize XE.alloc (.cells #[.slice none 0 0] 60) = XA at hHeld V own0 r32 ⊢
          generalize XE.heap.size = Y at V LYY ne0Y ⊢
          refine wpAnyH_ready (rs := [3]) (by kernel_rfl) (by simp) ?_
          refine AllReadyH.cons rfl (fun K hK => ?_) (AllReadyH.nil)
          refine Mem.step_append_any rfl _ _ 58 rfl v6.heap.size 31 i0 (.agg #[.slice none 0 0]) 1 24 Tryz.underlying58 hi hz0 hz1 hz2 rfl (by decide) _ 0 [] rfl own0 la Ts.length lc (Ts.map Pl.Tr.val) rfl (by rw [List.length_map, Nat.mul_one]) (Mem.trees_src (Mem.trees_call (unhide T5) hHeld.1) (unhide HNO)) (unhide HONE) (by unfold maxLen; omega) (by omega) hHeld.1.size ?_
          intro v1 XP own1 gr far1
          rw [Nat.zero_add, List.nil_append] at own1
          obtain ⟨a1, c1, rfl⟩ := Mem.own_shape own1
          have ne1Y : ∀ g, (Value.slice a1 Ts.length c1).ownBlock = some g → g ≠ Y := fun g hg => by
            rcases far1 g hg with e | e
            · exact fun h => ne0Y (h.symm.trans (Option.some.inj (e : some g0 = some g)).symm)
            · have := V.lt; omega
          replace V := V.grown gr (fun e => ne0Y (Option.some.inj (e : some Y = some g0)))
          clear ne0Y
          replace r32 := Mem.row_off3 r32 gr (fun g hg e => ne02 ((Option.some.inj (hg : some g2 = some g)).trans (Option.some.inj (e : some g = some g0))))
          clear ne02
          have bX := hHeld.1.grown gr hHeld.1.size (fun q hq => (World.ownsRow.lt own0 q hq).1)
          refine hK.out _ _ ?_ (fun hHeld => ?_)
          · exact unhide MK6 _ (bX)
          clear hK K
          try simp only [Act.put, kB0, kB1, kB2, kB3, kB4, kB5]
          clear bX own0 gr far1
          refine wpAnyH_ready (rs := [6]) (by kernel_rfl) (by simp) ?_
          refine AllReadyH.cons rfl (fun K hK => ?_) (AllReadyH.nil)
          refine Mem.step_append_any rfl _ _ 58 rfl v6.heap.size 31 i0 (.agg #[.slice none 0 0]) 1 24 Tryz.underlying58 hi hz0 hz1 hz2 rfl (by decide) _ Ts.length (Ts.map Pl.Tr.val) rfl own1 (some ⟨g2, 0, none⟩) 1 1 [.slice ta L.length tc] rfl rfl (.inl ⟨_, rfl, World.ownsRow.cells r32 (g := g2) rfl⟩) (fun u hu => by cases List.mem_singleton.1 hu; rfl) (by unfold maxLen; omega) (by omega) hHeld.1.size ?_
          intro v3 XQ own3 gr far3
          obtain ⟨a3, c3, rfl⟩ := Mem.own_shape own3
          have ne3Y : ∀ g, (Value.slice a3 (Ts.length + 1) c3).ownBlock = some g → g ≠ Y := fun g hg => by
            rcases far3 g hg with e | e
            · exact ne1Y g e
            · have := V.lt; omega
          replace V := V.grown gr (fun e => ne1Y Y e.symm rfl)
          clear ne1Y
          have bX := hHeld.1.grown gr hHeld.1.size (fun q hq => (World.ownsRow.lt own1 q hq).1)
          refine hK.out _ _ ?_ (fun hHeld => ?_)
          · exact unhide MK6 _ (bX)
          clear hK K
          try simp only [Act.put, kB0, kB1, kB2, kB3, kB4, kB5]
          clear bX own1 r32 gr far3
          refine wpAnyH_take (i := 7) (v := ?_) rfl (by kernel_rfl) (by kernel_rfl) (by kernel_rfl) (by first | exact (fun _ _ _ h => nomatch h.1) | exact (fun _ _ _ h => h)) (Or.inl ⟨by rfl, ?_⟩) (by assumption) ?_
          rotate_left
          · (intro w hSw; (try dsimp only at hSw); go_simp; (try with_reducible rfl))
          try simp only [Act.put, kB0, kB1, kB2, kB3, kB4, kB5]
          have d0 := V.cell 0
          have f0 := V.fr 0
          simp only [kA0, kA1, kA2] at d0
          have GOT := hide (Mem.Bth.of (Ts := Ts ++ [(⟨ta, tc, L⟩ : Pl.Tr)]) (n := Ts.length + 1) (by simp) hHeld.1 LYY V (by rw [List.map_append]; exact own3) ne3Y (unhide HND))
          clear V own3 ne3Y
          refine wpAnyH_ready (rs := [9]) (by kernel_rfl) (by simp) ?_
          refine AllReadyH.cons rfl (fun K hK => ?_) (AllReadyH.nil)
          go_simp
          refine hK.out _ _ ?_ (fun hHeld => ?_)
          · exact unhide MK6 _ ((unhide GOT).bel)
          clear hK K
          try simp only [Act.put, kB0, kB1, kB2, kB3, kB4, kB5]
          refine wpAnyH_done (by kernel_rfl) ?_ _
          refine ⟨rfl, rfl, g0, g2, Y, a1, c1, a3, c3, ?_, unhide GOT⟩
          simp only [kB3, kB4, kB5]
      · go_simp
        have bA : Below XR.heap.size XR (XR.alloc (.cells #[.slice none 0 0] 60)) := (Below.refl _ _).alloc (Nat.le_refl _) _
        have LYY := hHeld.1.size
        replace r32 := Mem.own_call r32 bA
        have V := Mem.Blk.new XR #[.slice none 0 0] 60
        refine hK.out _ _ ?_ (fun hHeld => ?_)
        · exact unhide MK6 _ (hHeld.1.trans (bA.mono hHeld.1.size))
        clear hK K
        try simp only [Act.put, kB0, kB1, kB2, kB3, kB4, kB5]
        clear bA
        generalize XR.alloc (.cells #[.slice none 0 0] 60) = XA at hHeld V r32 ⊢
        generalize XR.heap.size = Y at V LYY  ⊢
        refine wpAnyH_ready (rs := [0]) (by kernel_rfl) (by simp) ?_
        refine AllReadyH.cons rfl (fun K hK => ?_) (AllReadyH.nil)
        go_simp
        have ne02 : g2 ≠ XA.heap.size := by have := (World.ownsRow.lt r32 g2 rfl).2; omega
        have ne0Y : Y ≠ XA.heap.size := by have := V.lt; omega
        have bA : Below XA.heap.size XA (XA.alloc (.cells #[] 31)) := (Below.refl _ _).alloc (Nat.le_refl _) _
        replace r32 := Mem.own_call r32 bA
        replace V := V.call bA
        have own0 : (XA.alloc (.cells #[] 31)).ownsRow v6.heap.size 31 1 (.slice (some ⟨XA.heap.size, 0, none⟩) 0 0) 0 [] := ⟨rfl, .inr ⟨XA.heap.size, 0, #[], rfl, hHeld.1.size, heap_alloc_new _ _, Nat.le_refl _, Nat.zero_le _, rfl, rfl⟩⟩
        refine hK.out _ _ ?_ (fun hHeld => ?_)
        · exact unhide MK6 _ (hHeld.1.trans (bA.mono hHeld.1.size))
        clear hK K
        try simp only [Act.put, kB0, kB1, kB2, kB3, kB4, kB5]
        clear bA
        generalize XA.alloc (.cells #[] 31) = XE at hHeld own0 r32 V ⊢
        generalize XA.heap.size = g0 at own0  ne02 ne0Y ⊢
        refine wpAnyH_ready (rs := [3]) (by kernel_rfl) (by simp) ?_
        refine AllReadyH.cons rfl (fun K hK => ?_) (AllReadyH.nil)
        refine Mem.step_append_any rfl _ _ 58 rfl v6.heap.size 31 i0 (.agg #[.slice none 0 0]) 1 24 Tryz.underlying58 hi hz0 hz1 hz2 rfl (by decide) _ 0 [] rfl own0 la Ts.length lc (Ts.map Pl.Tr.val) rfl (by rw [List.length_map, Nat.mul_one]) (Mem.trees_src (Mem.trees_call (unhide T5) hHeld.1) (unhide HNO)) (unhide HONE) (by unfold maxLen; omega) (by omega) hHeld.1.size ?_
        intro v1 XP own1 gr far1
        rw [Nat.zero_add, List.nil_append] at own1
        obtain ⟨a1, c1, rfl⟩ := Mem.own_shape own1
        have ne1Y : ∀ g, (Value.slice a1 Ts.length c1).ownBlock = some g → g ≠ Y := fun g hg => by
          rcases far1 g hg with e | e
          · exact fun h => ne0Y (h.symm.trans (Option.some.inj (e : some g0 = some g)).symm)
          · have := V.lt; omega
        replace V := V.grown gr (fun e => ne0Y (Option.some.inj (e : some Y = some g0)))
        clear ne0Y
        replace r32 := Mem.row_off3 r32 gr (fun g hg e => ne02 ((Option.some.inj (hg : some g2 = some g)).trans (Option.some.inj (e : some g = some g0))))
        clear ne02
        have bX := hHeld.1.grown gr hHeld.1.size (fun q hq => (World.ownsRow.lt own0 q hq).1)
        refine hK.out _ _ ?_ (fun hHeld => ?_)
        · exact unhide MK6 _ (bX)
        clear hK K
        try simp only [Act.put, kB0, kB1, kB2, kB3, kB4, kB5]
        clear bX own0 gr far1
        refine wpAnyH_ready (rs := [6]) (by kernel_rfl) (by simp) ?_
        refine AllReadyH.cons rfl (fun K hK => ?_) (AllReadyH.nil)
        refine Mem.step_append_any rfl _ _ 58 rfl v6.heap.size 31 i0 (.agg #[.slice none 0 0]) 1 24 Tryz.underlying58 hi hz0 hz1 hz2 rfl (by decide) _ Ts.length (Ts.map Pl.Tr.val) rfl own1 (some ⟨g2, 0, none⟩) 1 1 [.slice ta L.length tc] rfl rfl (.inl ⟨_, rfl, World.ownsRow.cells r32 (g := g2) rfl⟩) (fun u hu => by cases List.mem_singleton.1 hu; rfl) (by unfold maxLen; omega) (by omega) hHeld.1.size ?_
        intro v3 XQ own3 gr far3
        obtain ⟨a3, c3, rfl⟩ := Mem.own_shape own3
        have ne3Y : ∀ g, (Value.slice a3 (Ts.length + 1) c3).ownBlock = some g → g ≠ Y := fun g hg => by
          rcases far3 g hg with e | e
          · exact ne1Y g e
          · have := V.lt; omega
        replace V := V.grown gr (fun e => ne1Y Y e.symm rfl)
        clear ne1Y
        have bX := hHeld.1.grown gr hHeld.1.size (fun q hq => (World.ownsRow.lt own1 q hq).1)
        refine hK.out _ _ ?_ (fun hHeld => ?_)
        · exact unhide MK6 _ (bX)
        clear hK K
        try simp only [Act.put, kB0, kB1, kB2, kB3, kB4, kB5]
        clear bX own1 r32 gr far3
        refine wpAnyH_take (i := 7) (v := ?_) rfl (by kernel_rfl) (by kernel_rfl) (by kernel_rfl) (by first | exact (fun _ _ _ h => nomatch h.1) | exact (fun _ _ _ h => h)) (Or.inl ⟨by rfl, ?_⟩) (by assumption) ?_
        rotate_left
        · (intro w hSw; (try dsimp only at hSw); go_simp; (try with_reducible rfl))
        try simp only [Act.put, kB0, kB1, kB2, kB3, kB4, kB5]
        have d0 := V.cell 0
        have f0 := V.fr 0
        simp only [kA0, kA1, kA2] at d0
        have GOT := hide (Mem.Bth.of (Ts := Ts ++ [(⟨ta, tc, L⟩ : Pl.Tr)]) (n := Ts.length + 1) (by simp) hHeld.1 LYY V (by rw [List.map_append]; exact own3) ne3Y (unhide HND))
        clear V own3 ne3Y
        refine wpAnyH_ready (rs := [9]) (by kernel_rfl) (by simp) ?_
        refine AllReadyH.cons rfl (fun K hK => ?_) (AllReadyH.nil)
        go_simp
        refine hK.out _ _ ?_ (fun hHeld => ?_)
        · exact unhide MK6 _ ((unhide GOT).bel)
        clear hK K
        try simp only [Act.put, kB0, kB1, kB2, kB3, kB4, kB5]
        refine wpAnyH_done (by kernel_rfl) ?_ _
        refine ⟨rfl, rfl, g0, g2, Y, a1, c1, a3, c3, ?_, unhide GOT⟩
        simp only [kB3, kB4, kB5]
    · go_simp
      have bA : Below D0.heap.size D0 (D0.alloc (.cells #[.slice none 0 0] 60)) := (Below.refl _ _).alloc (Nat.le_refl _) _
      have LYY := hHeld.1.size
      have V := Mem.Blk.new D0 #[.slice none 0 0] 60
      refine hK.out _ _ ?_ (fun hHeld => ?_)
      · exact unhide MK6 _ (hHeld.1.trans (bA.mono hHeld.1.size))
      clear hK K
      try simp only [Act.put, kB0, kB1, kB2, kB3, kB4, kB5]
      clear bA
      generalize D0.alloc (.cells #[.slice none 0 0] 60) = XA at hHeld V  ⊢
      generalize D0.heap.size = Y at V LYY  ⊢
      refine wpAnyH_ready (rs := [0, 5]) (by kernel_rfl) (by simp) ?_
      refine AllReadyH.cons rfl (fun K hK => ?_) (AllReadyH.cons rfl (fun K hK => ?_) (AllReadyH.nil))
      · go_simp
        have ne0Y : Y ≠ XA.heap.size := by have := V.lt; omega
        have bA : Below XA.heap.size XA (XA.alloc (.cells #[] 31)) := (Below.refl _ _).alloc (Nat.le_refl _) _
        replace V := V.call bA
        have own0 : (XA.alloc (.cells #[] 31)).ownsRow v6.heap.size 31 1 (.slice (some ⟨XA.heap.size, 0, none⟩) 0 0) 0 [] := ⟨rfl, .inr ⟨XA.heap.size, 0, #[], rfl, hHeld.1.size, heap_alloc_new _ _, Nat.le_refl _, Nat.zero_le _, rfl, rfl⟩⟩
        refine hK.out _ _ ?_ (fun hHeld => ?_)
        · exact unhide MK6 _ (hHeld.1.trans (bA.mono hHeld.1.size))
        clear hK K
        try simp only [Act.put, kB0, kB1, kB2, kB3, kB4, kB5]
        clear bA
        generalize XA.alloc (.cells #[] 31) = XE at hHeld own0 V ⊢
        generalize XA.heap.size = g0 at own0  ne0Y ⊢
        refine wpAnyH_ready (rs := [3, 5]) (by kernel_rfl) (by simp) ?_
        refine AllReadyH.cons rfl (fun K hK => ?_) (AllReadyH.cons rfl (fun K hK => ?_) (AllReadyH.nil))
        · refine Mem.step_append_any rfl _ _ 58 rfl v6.heap.size 31 i0 (.agg #[.slice none 0 0]) 1 24 Tryz.underlying58 hi hz0 hz1 hz2 rfl (by decide) _ 0 [] rfl own0 la Ts.length lc (Ts.map Pl.Tr.val) rfl (by rw [List.length_map, Nat.mul_one]) (Mem.trees_src (Mem.trees_call (unhide T5) hHeld.1) (unhide HNO)) (unhide HONE) (by unfold maxLen; omega) (by omega) hHeld.1.size ?_
          intro v1 XP own1 gr far1
          rw [Nat.zero_add, List.nil_append] at own1
          obtain ⟨a1, c1, rfl⟩ := Mem.own_shape own1
          have ne1Y : ∀ g, (Value.slice a1 Ts.length c1).ownBlock = some g → g ≠ Y := fun g hg => by
            rcases far1 g hg with e | e
            · exact fun h => ne0Y (h.symm.trans (Option.some.inj (e : some g0 = some g)).symm)
            · have := V.lt; omega
          replace V := V.grown gr (fun e => ne0Y (Option.some.inj (e : some Y = some g0)))
          clear ne0Y
          have bX := hHeld.1.grown gr hHeld.1.size (fun q hq => (World.ownsRow.lt own0 q hq).1)
          refine hK.out _ _ ?_ (fun hHeld => ?_)
          · exact unhide MK6 _ (bX)
          clear hK K
          try simp only [Act.put, kB0, kB1, kB2, kB3, kB4, kB5]
          clear bX own0 gr far1
          refine wpAnyH_ready (rs := [5]) (by kernel_rfl) (by simp) ?_
          refine AllReadyH.cons rfl (fun K hK => ?_) (AllReadyH.nil)
          go_simp
          have bA : Below XP.heap.size XP (XP.alloc (.cells #[.slice ta L.length tc] 31)) := (Below.refl _ _).alloc (Nat.le_refl _) _
          replace V := V.call bA
          replace own1 := Mem.own_call own1 bA
          have r32 : (XP.alloc (.cells #[.slice ta L.length tc] 31)).ownsRow v6.heap.size 31 1 (.slice (some ⟨XP.heap.size, 0, none⟩) 1 1) 1 [.slice ta L.length tc] := ⟨rfl, .inr ⟨XP.heap.size, 1, #[.slice ta L.length tc], rfl, hHeld.1.size, heap_alloc_new _ _, Nat.le_refl _, by decide, rfl, rfl⟩⟩
          refine hK.out _ _ ?_ (fun hHeld => ?_)
          · exact unhide MK6 _ (hHeld.1.trans (bA.mono hHeld.1.size))
          clear hK K
          try simp only [Act.put, kB0, kB1, kB2, kB3, kB4, kB5]
          clear bA
          generalize XP.alloc (.cells #[.slice ta L.length tc] 31) = XR at hHeld r32 V own1 ⊢
          generalize XP.heap.size = g2 at r32   ⊢
          refine wpAnyH_ready (rs := [6]) (by kernel_rfl) (by simp) ?_
          refine AllReadyH.cons rfl (fun K hK => ?_) (AllReadyH.nil)
          refine Mem.step_append_any rfl _ _ 58 rfl v6.heap.size 31 i0 (.agg #[.slice none 0 0]) 1 24 Tryz.underlying58 hi hz0 hz1 hz2 rfl (by decide) _ Ts.length (Ts.map Pl.Tr.val) rfl own1 (some ⟨g2, 0, none⟩) 1 1 [.slice ta L.length tc] rfl rfl (.inl ⟨_, rfl, World.ownsRow.cells r32 (g := g2) rfl⟩) (fun u hu => by cases List.mem_singleton.1 hu; rfl) (by unfold maxLen; omega) (by omega) hHeld.1.size ?_
          intro v3 XQ own3 gr far3
          obtain ⟨a3, c3, rfl⟩ := Mem.own_shape own3
          have ne3Y : ∀ g, (Value.slice a3 (Ts.length + 1) c3).ownBlock = some g → g ≠ Y := fun g hg => by
            rcases far3 g hg with e | e
            · exact ne1Y g e
            · have := V.lt; omega
          replace V := V.grown gr (fun e => ne1Y Y e.symm rfl)
          clear ne1Y
          have bX := hHeld.1.grown gr hHeld.1.size (fun q hq => (World.ownsRow.lt own1 q hq).1)
          refine hK.out _ _ ?_ (fun hHeld => ?_)
          · exact unhide MK6 _ (bX)
          clear hK K
          try simp only [Act.put, kB0, kB1, kB2, kB3, kB4, kB5]
          clear bX own1 r32 gr far3
          refine wpAnyH_take (i := 7) (v := ?_) rfl (by kernel_rfl) (by kernel_rfl) (by kernel_rfl) (by first | exact (fun _ _ _ h => nomatch h.1) | exact (fun _ _ _ h => h)) (Or.inl ⟨by rfl, ?_⟩) (by assumption) ?_
          rotate_left
          · (intro w hSw; (try dsimp only at hSw); go_simp; (try with_reducible rfl))
          try simp only [Act.put, kB0, kB1, kB2, kB3, kB4, kB5]
          have d0 := V.cell 0
          have f0 := V.fr 0
          simp only [kA0, kA1, kA2] at d0
          have GOT := hide (Mem.Bth.of (Ts := Ts ++ [(⟨ta, tc, L⟩ : Pl.Tr)]) (n := Ts.length + 1) (by simp) hHeld.1 LYY V (by rw [List.map_append]; exact own3) ne3Y (unhide HND))
          clear V own3 ne3Y
          refine wpAnyH_ready (rs := [9]) (by kernel_rfl) (by simp) ?_
          refine AllReadyH.cons rfl (fun K hK => ?_) (AllReadyH.nil)
          go_simp
          refine hK.out _ _ ?_ (fun hHeld => ?_)
          · exact unhide MK6 _ ((unhide GOT).bel)
          clear hK K
          try simp only [Act.put, kB0, kB1, kB2, kB3, kB4, kB5]
          refine wpAnyH_done (by kernel_rfl) ?_ _
          refine ⟨rfl, rfl, g0, g2, Y, a1, c1, a3, c3, ?_, unhide GOT⟩
          simp only [kB3, kB4, kB5]
        · go_simp
          have ne02 : XE.heap.size ≠ g0 := by have := (World.ownsRow.lt own0 g0 rfl).2; omega
          have bA : Below XE.heap.size XE (XE.alloc (.cells #[.slice ta L.length tc] 31)) := (Below.refl _ _).alloc (Nat.le_refl _) _
          replace own0 := Mem.own_call own0 bA
          replace V := V.call bA
          have r32 : (XE.alloc (.cells #[.slice ta L.length tc] 31)).ownsRow v6.heap.size 31 1 (.slice (some ⟨XE.heap.size, 0, none⟩) 1 1) 1 [.slice ta L.length tc] := ⟨rfl, .inr ⟨XE.heap.size, 1, #[.slice ta L.length tc], rfl, hHeld.1.size, heap_alloc_new _ _, Nat.le_refl _, by decide, rfl, rfl⟩⟩
          refine hK.out _ _ ?_ (fun hHeld => ?_)
          · exact unhide MK6 _ (hHeld.1.trans (bA.mono hHeld.1.size))
          clear hK K
          try simp only [Act.put, kB0, kB1, kB2, kB3, kB4, kB5]
          clear bA
          generalize XE.alloc (.cells #[.slice ta L.length tc] 31) = XR at hHeld r32 own0 V ⊢
          generalize XE.heap.size = g2 at r32  ne02 ⊢
          refine wpAnyH_ready (rs := [3]) (by kernel_rfl) (by simp) ?_
          refine AllReadyH.cons rfl (fun K hK => ?_) (AllReadyH.nil)
          refine Mem.step_append_any rfl _ _ 58 rfl v6.heap.size 31 i0 (.agg #[.slice none 0 0]) 1 24 Tryz.underlying58 hi hz0 hz1 hz2 rfl (by decide) _ 0 [] rfl own0 la Ts.length lc (Ts.map Pl.Tr.val) rfl (by rw [List.length_map, Nat.mul_one]) (Mem.trees_src (Mem.trees_call (unhide T5) hHeld.1) (unhide HNO)) (unhide HONE) (by unfold maxLen; omega) (by omega) hHeld.1.size ?_
          intro v1 XP own1 gr far1
          rw [Nat.zero_add, List.nil_append] at own1
          obtain ⟨a1, c1, rfl⟩ := Mem.own_shape own1
          have ne1Y : ∀ g, (Value.slice a1 Ts.length c1).ownBlock = some g → g ≠ Y := fun g hg => by
            rcases far1 g hg with e | e
            · exact fun h => ne0Y (h.symm.trans (Option.some.inj (e : some g0 = some g)).symm)
            · have := V.lt; omega
          replace V := V.grown gr (fun e => ne0Y (Option.some.inj (e : some Y = some g0)))
          clear ne0Y
          replace r32 := Mem.row_off3 r32 gr (fun g hg e => ne02 ((Option.some.inj (hg : some g2 = some g)).trans (Option.some.inj (e : some g = some g0))))
          clear ne02
          have bX := hHeld.1.grown gr hHeld.1.size (fun q hq => (World.ownsRow.lt own0 q hq).1)
          refine hK.out _ _ ?_ (fun hHeld => ?_)
          · exact unhide MK6 _ (bX)
          clear hK K
          try simp only [Act.put, kB0, kB1, kB2, kB3, kB4, kB5]
          clear bX own0 gr far1
          refine wpAnyH_ready (rs := [6]) (by kernel_rfl) (by simp) ?_
          refine AllReadyH.cons rfl (fun K hK => ?_) (AllReadyH.nil)
          refine Mem.step_append_any rfl _ _ 58 rfl v6.heap.size 31 i0 (.agg #[.slice none 0 0]) 1 24 Tryz.underlying58 hi hz0 hz1 hz2 rfl (by decide) _ Ts.length (Ts.map Pl.Tr.val) rfl own1 (some ⟨g2, 0, none⟩) 1 1 [.slice ta L.length tc] rfl rfl (.inl ⟨_, rfl, World.ownsRow.cells r32 (g := g2) rfl⟩) (fun u hu => by cases List.mem_singleton.1 hu; rfl) (by unfold maxLen; omega) (by omega) hHeld.1.size ?_
          intro v3 XQ own3 gr far3
          obtain ⟨a3, c3, rfl⟩ := Mem.own_shape own3
          have ne3Y : ∀ g, (Value.slice a3 (Ts.length + 1) c3).ownBlock = some g → g ≠ Y := fun g hg => by
            rcases far3 g hg with e | e
            · exact ne1Y g e
            · have := V.lt; omega
          replace V := V.grown gr (fun e => ne1Y Y e.symm rfl)
          clear ne1Y
          have bX := hHeld.1.grown gr hHeld.1.size (fun q hq => (World.ownsRow.lt own1 q hq).1)
          refine hK.out _ _ ?_ (fun hHeld => ?_)
          · exact unhide MK6 _ (bX)
          clear hK K
          try simp only [Act.put, kB0, kB1, kB2, kB3, kB4, kB5]
          clear bX own1 r32 gr far3
          refine wpAnyH_take (i := 7) (v := ?_) rfl (by kernel_rfl) (by kernel_rfl) (by kernel_rfl) (by first | exact (fun _ _ _ h => nomatch h.1) | exact (fun _ _ _ h => h)) (Or.inl ⟨by rfl, ?_⟩) (by assumption) ?_
          rotate_left
          · (intro w hSw; (try dsimp only at hSw); go_simp; (try with_reducible rfl))
          try simp only [Act.put, kB0, kB1, kB2, kB3, kB4, kB5]
          have d0 := V.cell 0
          have f0 := V.fr 0
          simp only [kA0, kA1, kA2] at d0
          have GOT := hide (Mem.Bth.of (Ts := Ts ++ [(⟨ta, tc, L⟩ : Pl.Tr)]) (n := Ts.length + 1) (by simp) hHeld.1 LYY V (by rw [List.map_append]; exact own3) ne3Y (unhide HND))
          clear V own3 ne3Y
          refine wpAnyH_ready (rs := [9]) (by kernel_rfl) (by simp) ?_
          refine AllReadyH.cons rfl (fun K hK => ?_) (AllReadyH.nil)
          go_simp
          refine hK.out _ _ ?_ (fun hHeld => ?_)
          · exact unhide MK6 _ ((unhide GOT).bel)
          clear hK K
          try simp only [Act.put, kB0, kB1, kB2, kB3, kB4, kB5]
          refine wpAnyH_done (by kernel_rfl) ?_ _
          refine ⟨rfl, rfl, g0, g2, Y, a1, c1, a3, c3, ?_, unhide GOT⟩
          simp only [kB3, kB4, kB5]
      · go_simp
        have bA : Below XA.heap.size XA (XA.alloc (.cells #[.slice ta L.length tc] 31)) := (Below.refl _ _).alloc (Nat.le_refl _) _
        replace V := V.call bA
        have r32 : (XA.alloc (.cells #[.slice ta L.length tc] 31)).ownsRow v6.heap.size 31 1 (.slice (some ⟨XA.heap.size, 0, none⟩) 1 1) 1 [.slice ta L.length tc] := ⟨rfl, .inr ⟨XA.heap.size, 1, #[.slice ta L.length tc], rfl, hHeld.1.size, heap_alloc_new _ _, Nat.le_refl _, by decide, rfl, rfl⟩⟩
        refine hK.out _ _ ?_ (fun hHeld => ?_)
        · exact unhide MK6 _ (hHeld.1.trans (bA.mono hHeld.1.size))
        clear hK K
        try simp only [Act.put, kB0, kB1, kB2, kB3, kB4, kB5]
        clear bA
        generalize XA.alloc (.cells #[.slice ta L.length tc] 31) = XR at hHeld r32 V ⊢
        generalize XA.heap.size = g2 at r32   ⊢
        refine wpAnyH_ready (rs := [0]) (by kernel_rfl) (by simp) ?_
        refine AllReadyH.cons rfl (fun K hK => ?_) (AllReadyH.nil)
        go_simp
        have ne02 : g2 ≠ XR.heap.size := by have := (World.ownsRow.lt r32 g2 rfl).2; omega
        have ne0Y : Y ≠ XR.heap.size := by have := V.lt; omega
        have bA : Below XR.heap.size XR (XR.alloc (.cells #[] 31)) := (Below.refl _ _).alloc (Nat.le_refl _) _
        replace r32 := Mem.own_call r32 bA
        replace V := V.call bA
        have own0 : (XR.alloc (.cells #[] 31)).ownsRow v6.heap.size 31 1 (.slice (some ⟨XR.heap.size, 0, none⟩) 0 0) 0 [] := ⟨rfl, .inr ⟨XR.heap.size, 0, #[], rfl, hHeld.1.size, heap_alloc_new _ _, Nat.le_refl _, Nat.zero_le _, rfl, rfl⟩⟩
        refine hK.out _ _ ?_ (fun hHeld => ?_)
        · exact unhide MK6 _ (hHeld.1.trans (bA.mono hHeld.1.size))
        clear hK K
        try simp only [Act.put, kB0, kB1, kB2, kB3, kB4, kB5]
        clear bA
        generalize XR.alloc (.cells #[] 31) = XE at hHeld own0 r32 V ⊢
        generalize XR.heap.size = g0 at own0  ne02 ne0Y ⊢
        refine wpAnyH_ready (rs := [3]) (by kernel_rfl) (by simp) ?_
        refine AllReadyH.cons rfl (fun K hK => ?_) (AllReadyH.nil)
        refine Mem.step_append_any rfl _ _ 58 rfl v6.heap.size 31 i0 (.agg #[.slice none 0 0]) 1 24 Tryz.underlying58 hi hz0 hz1 hz2 rfl (by decide) _ 0 [] rfl own0 la Ts.length lc (Ts.map Pl.Tr.val) rfl (by rw [List.length_map, Nat.mul_one]) (Mem.trees_src (Mem.trees_call (unhide T5) hHeld.1) (unhide HNO)) (unhide HONE) (by unfold maxLen; omega) (by omega) hHeld.1.size ?_
        intro v1 XP own1 gr far1
        rw [Nat.zero_add, List.nil_append] at own1
        obtain ⟨a1, c1, rfl⟩ := Mem.own_shape own1
        have ne1Y : ∀ g, (Value.slice a1 Ts.length c1).ownBlock = some g → g ≠ Y := fun g hg => by
          rcases far1 g hg with e | e
          · exact fun h => ne0Y (h.symm.trans (Option.some.inj (e : some g0 = some g)).symm)
          · have := V.lt; omega
        replace V := V.grown gr (fun e => ne0Y (Option.some.inj (e : some Y = some g0)))
        clear ne0Y
        replace r32 := Mem.row_off3 r32 gr (fun g hg e => ne02 ((Option.some.inj (hg : some g2 = some g)).trans (Option.some.inj (e : some g = some g0))))
        clear ne02
        have bX := hHeld.1.grown gr hHeld.1.size (fun q hq => (World.ownsRow.lt own0 q hq).1)
        refine hK.out _ _ ?_ (fun hHeld => ?_)
        · exact unhide MK6 _ (bX)
        clear hK K
        try simp only [Act.put, kB0, kB1, kB2, kB3, kB4, kB5]
        clear bX own0 gr far1
        refine wpAnyH_ready (rs := [6]) (by kernel_rfl) (by simp) ?_
        refine AllReadyH.cons rfl (fun K hK => ?_) (AllReadyH.nil)
        refine Mem.step_append_any rfl _ _ 58 rfl v6.heap.size 31 i0 (.agg #[.slice none 0 0]) 1 24 Tryz.underlying58 hi hz0 hz1 hz2 rfl (by decide) _ Ts.length (Ts.map Pl.Tr.val) rfl own1 (some ⟨g2, 0, none⟩) 1 1 [.slice ta L.length tc] rfl rfl (.inl ⟨_, rfl, World.ownsRow.cells r32 (g := g2) rfl⟩) (fun u hu => by cases List.mem_singleton.1 hu; rfl) (by unfold maxLen; omega) (by omega) hHeld.1.size ?_
        intro v3 XQ own3 gr far3
        obtain ⟨a3, c3, rfl⟩ := Mem.own_shape own3
        have ne3Y : ∀ g, (Value.slice a3 (Ts.length + 1) c3).ownBlock = some g → g ≠ Y := fun g hg => by
          rcases far3 g hg with e | e
          · exact ne1Y g e
          · have := V.lt; omega
        replace V := V.grown gr (fun e => ne1Y Y e.symm rfl)
        clear ne1Y
        have bX := hHeld.1.grown gr hHeld.1.size (fun q hq => (World.ownsRow.lt own1 q hq).1)
        refine hK.out _ _ ?_ (fun hHeld => ?_)
        · exact unhide MK6 _ (bX)
        clear hK K
        try simp only [Act.put, kB0, kB1, kB2, kB3, kB4, kB5]
        clear bX own1 r32 gr far3
        refine wpAnyH_take (i := 7) (v := ?_) rfl (by kernel_rfl) (by kernel_rfl) (by kernel_rfl) (by first | exact (fun _ _ _ h => nomatch h.1) | exact (fun _ _ _ h => h)) (Or.inl ⟨by rfl, ?_⟩) (by assumption) ?_
        rotate_left
        · (intro w hSw; (try dsimp only at hSw); go_simp; (try with_reducible rfl))
        try simp only [Act.put, kB0, kB1, kB2, kB3, kB4, kB5]
        have d0 := V.cell 0
        have f0 := V.fr 0
        simp only [kA0, kA1, kA2] at d0
        have GOT := hide (Mem.Bth.of (Ts := Ts ++ [(⟨ta, tc, L⟩ : Pl.Tr)]) (n := Ts.length + 1) (by simp) hHeld.1 LYY V (by rw [List.map_append]; exact own3) ne3Y (unhide HND))
        clear V own3 ne3Y
        refine wpAnyH_ready (rs := [9]) (by kernel_rfl) (by simp) ?_
        refine AllReadyH.cons rfl (fun K hK => ?_) (AllReadyH.nil)
        go_simp
        refine hK.out _ _ ?_ (fun hHeld => ?_)
        · exact unhide MK6 _ ((unhide GOT).bel)
        clear hK K
        try simp only [Act.put, kB0, kB1, kB2, kB3, kB4, kB5]
        refine wpAnyH_done (by kernel_rfl) ?_ _
        refine ⟨rfl, rfl, g0, g2, Y, a1, c1, a3, c3, ?_, unhide GOT⟩
        simp only [kB3, kB4, kB5]
  rintro T' W ⟨g0, g2, Y, a1, c1, a3, c3, rfl, bt⟩
  simp only [kB3, kB4, kB5]
  clear MK6 HND HONE HNO B6 N6 OKT OKL hi hz0 hz1 hz2 i0
  generalize Ts ++ [(⟨ta, tc, L⟩ : Pl.Tr)] = Us at bt hyo hys
  clear OKU
  have bw := b6.trans (bt.bel.mono b6.size)
  have x8 := bt.var.cell 0
  simp only [kA0, kA1, kA2] at x8
  go_wp2_with fail
  refine (unhide hyo W a3 c3 bw bt.trees).mono ?_
  rintro e u1 ⟨vy, rfl, owny, b7⟩
  obtain ⟨ya, yc, hvy⟩ := Mem.own_shape owny
  subst hvy
  have b7' := b7.alloc b7.size (.cells #[.slice ya Z.length yc, .int .i64 D] 33)
  have K4 : Hid (Fk w (u1.alloc (.cells #[.slice ya Z.length yc, .int .i64 D] 33)) X5 X7 Y u1.heap.size la xa a3 ya lc xc c3 yc Ts Us O Z C D) :=
    ⟨bw.trans (b7'.mono bw.size), ((unhide B5).call bt.bel).call b7', Mem.trees_call (Mem.trees_call (unhide T5) bt.bel) b7', ((unhide B7).call bt.bel).call b7', Mem.nodes_call (Mem.nodes_call (unhide N7) bt.bel) b7', bt.var.call b7', Mem.trees_call bt.trees b7', Mem.Blk.new _ _ _, ((WSrc.treeV_own owny).alloc _).1⟩
  clear hyo owny b7 b7' b6 bw x8 bt B5 T5 B7 N7
  go_wp2_with fail
  generalize u1.alloc (.cells #[.slice ya Z.length yc, .int .i64 D] 33) = v8 at K4 ⊢
  generalize u1.heap.size = X9 at K4 ⊢
  generalize Y = X8 at K4 ⊢
  generalize a3 = ba at K4 ⊢
  generalize c3 = bc at K4 ⊢
  have hc0 : (C != C) = false := by simp
  have hc1 : (C == C) = true := by simp
  by_cases hC : C = 0
  rotate_left
  · have hD1 : (C == 0) = false := by simpa using hC
    have hD2 : decide (C = 0) = false := by simpa using hC
    have hD3 : (C != 0) = true := by simpa using hC
    have MK : Hid (∀ W', Fk w W' X5 X7 X8 X9 la xa ba ya lc xc bc yc Ts Us O Z C D → (fun W' => Fk w W' X5 X7 X8 X9 la xa ba ya lc xc bc yc Ts Us O Z C D ∧ W'.cell? ⟨X5, 0, none⟩ = some (.slice la Ts.length lc) ∧ W'.cell? ⟨X7, 1, none⟩ = some (.int .i64 C) ∧ W'.cell? ⟨X8, 0, none⟩ = some (.slice ba Us.length bc) ∧ W'.cell? ⟨X9, 0, none⟩ = some (.slice ya Z.length yc) ∧ W'.cell? ⟨X9, 1, none⟩ = some (.int .i64 D)) W') := fun W' h => ⟨h, (by have e := h.b5.cell 0; simp only [kA0, kA1, kA2] at e; exact e), (by have e := h.b7.cell 1; simp only [kA0, kA1, kA2] at e; exact e), (by have e := h.b8.cell 0; simp only [kA0, kA1, kA2] at e; exact e), (by have e := h.b9.cell 0; simp only [kA0, kA1, kA2] at e; exact e), (by have e := h.b9.cell 1; simp only [kA0, kA1, kA2] at e; exact e)⟩
    refine wp_region_held_drew (S := fun W' => Fk w W' X5 X7 X8 X9 la xa ba ya lc xc bc yc Ts Us O Z C D ∧ W'.cell? ⟨X5, 0, none⟩ = some (.slice la Ts.length lc) ∧ W'.cell? ⟨X7, 1, none⟩ = some (.int .i64 C) ∧ W'.cell? ⟨X8, 0, none⟩ = some (.slice ba Us.length bc) ∧ W'.cell? ⟨X9, 0, none⟩ = some (.slice ya Z.length yc) ∧ W'.cell? ⟨X9, 1, none⟩ = some (.int .i64 D)) (by kernel_rfl) ?_ (fun hHeld => ?_)
    · exact unhide MK _ (unhide K4).drew
    clear K4
    refine wpAnyH_take (i := 0) (v := ?_) rfl (by kernel_rfl) (by kernel_rfl) (by kernel_rfl) (fun _ _ _ h => h) (Or.inl ⟨by rfl, ?_⟩) (by assumption) ?_
    rotate_left
    · (intro w hSw; (try dsimp only at hSw); go_simp; (try with_reducible rfl))
    try simp only [Act.put, kB0, kB1, kB2, kB3, kB4, kB5]
    refine wpAnyH_take (i := 1) (v := ?_) rfl (by kernel_rfl) (by kernel_rfl) (by kernel_rfl) (fun _ _ _ h => h) (Or.inl ⟨by rfl, ?_⟩) (by assumption) ?_
    rotate_left
    · (intro w hSw; (try dsimp only at hSw); go_simp; (try with_reducible rfl))
    try simp only [Act.put, kB0, kB1, kB2, kB3, kB4, kB5]
    refine wpAnyH_take (i := 2) (v := ?_) rfl (by kernel_rfl) (by kernel_rfl) (by kernel_rfl) (fun _ _ _ h => h) (Or.inl ⟨by rfl, ?_⟩) (by assumption) ?_
    rotate_left
    · (intro w hSw; (try dsimp only at hSw); go_simp; (try with_reducible rfl))
    try simp only [Act.put, kB0, kB1, kB2, kB3, kB4, kB5]
    refine wpAnyH_ready (rs := [3]) (by kernel_rfl) (by simp) ?_
    refine AllReadyH.cons rfl (fun K hK => ?_) AllReadyH.nil
    go_simp
    refine (unhide hso _ hHeld.1.t5).mono ?_
    rintro e wX ⟨vs, rfl, ownS, bX⟩
    obtain ⟨sa, sc, hvs⟩ := Mem.own_shape ownS
    subst hvs
    clear ownS
    have hf := hide (fun W => (by kernel_rfl : (Instr.field 33 (.agg #[.slice sa O.length sc, .int .i64 C]) 1).run Tryz.prog W = .ok (.int .i64 C) W))
    have hf' := unhide hf
    refine hK.out _ _ ?_ (fun hHeld => ?_)
    · exact unhide MK _ (hHeld.1.call bX)
    clear hK K
    try simp only [Act.put, kB0, kB1, kB2, kB3, kB4, kB5]
    refine wpAnyH_take (i := 4) (v := ?_) rfl (by kernel_rfl) (by kernel_rfl) (by kernel_rfl) (fun _ _ _ h => h) (Or.inl ⟨by rfl, ?_⟩) (by assumption) ?_
    rotate_left
    · (intro w hSw; (try dsimp only at hSw); go_simp; (try with_reducible rfl))
    try simp only [Act.put, kB0, kB1, kB2, kB3, kB4, kB5]
    refine wpAnyH_take (i := 5) (v := ?_) rfl (by kernel_rfl) (by kernel_rfl) (by kernel_rfl) (fun _ _ _ h => h) (Or.inl ⟨by rfl, ?_⟩) (by assumption) ?_
    rotate_left
    · (intro w hSw; (try dsimp only at hSw); go_simp; (try with_reducible rfl))
    try simp only [Act.put, kB0, kB1, kB2, kB3, kB4, kB5]
    refine wpAnyH_take (i := 6) (v := ?_) rfl (by kernel_rfl) (by kernel_rfl) (by kernel_rfl) (fun _ _ _ h => h) (Or.inl ⟨by rfl, ?_⟩) (by assumption) ?_
    rotate_left
    · (intro w hSw; (try dsimp only at hSw); go_simp; (try with_reducible rfl))
    try simp only [Act.put, kB0, kB1, kB2, kB3, kB4, kB5]
    refine wpAnyH_take (i := 7) (v := ?_) rfl (by kernel_rfl) (by kernel_rfl) (by kernel_rfl) (fun _ _ _ h => h) (Or.inl ⟨by rfl, ?_⟩) (by assumption) ?_
    rotate_left
    · (intro w hSw; (try dsimp only at hSw); go_simp; (try with_reducible rfl))
    try simp only [Act.put, kB0, kB1, kB2, kB3, kB4, kB5]
    refine wpAnyH_take (i := 8) (v := ?_) rfl (by kernel_rfl) (by kernel_rfl) (by kernel_rfl) (fun _ _ _ h => h) (Or.inl ⟨by rfl, ?_⟩) (by assumption) ?_
    rotate_left
    · (intro w hSw; (try dsimp only at hSw); go_simp; (try with_reducible rfl))
    try simp only [Act.put, kB0, kB1, kB2, kB3, kB4, kB5]
    refine wpAnyH_ready (rs := [9]) (by kernel_rfl) (by simp) ?_
    refine AllReadyH.cons rfl (fun K hK => ?_) AllReadyH.nil
    go_simp
    refine (unhide hys _ ba bc hHeld.1.t8).mono ?_
    rintro e wX ⟨vz, rfl, ownZ, bX⟩
    obtain ⟨za, zc, hvz⟩ := Mem.own_shape ownZ
    subst hvz
    have NZ := hide (Mem.ownN_nodes ownZ).2
    clear ownZ
    refine hK.out _ _ ?_ (fun hHeld => ?_)
    · exact unhide MK _ (hHeld.1.call bX)
    clear hK K
    try simp only [Act.put, kB0, kB1, kB2, kB3, kB4, kB5]
    refine wpAnyH_ready (rs := [10]) (by kernel_rfl) (by simp) ?_
    refine AllReadyH.cons rfl (fun K hK => ?_) AllReadyH.nil
    go_simp
    refine (WLw.trees_any ya za yc zc D Z _ (by omega) hHeld.1.n9 (unhide NZ) (unhide HZS) (unhide HZT)).mono ?_
    rintro e wX ⟨rfl, bX⟩
    refine hK.out _ _ ?_ (fun hHeld => ?_)
    · exact unhide MK _ (hHeld.1.call bX)
    clear hK K
    try simp only [Act.put, kB0, kB1, kB2, kB3, kB4, kB5]
    clear NZ
    refine wpAnyH_take (i := 11) (v := ?_) rfl (by kernel_rfl) (by kernel_rfl) (by kernel_rfl) (fun _ _ _ h => h) (Or.inl ⟨by rfl, ?_⟩) (by assumption) ?_
    rotate_left
    · (intro w hSw; (try dsimp only at hSw); go_simp; (try with_reducible rfl))
    try simp only [Act.put, kB0, kB1, kB2, kB3, kB4, kB5]
    refine wpAnyH_take (i := 12) (v := ?_) rfl (by kernel_rfl) (by kernel_rfl) (by kernel_rfl) (fun _ _ _ h => h) (Or.inl ⟨by rfl, ?_⟩) (by assumption) ?_
    rotate_left
    · (intro w hSw; (try dsimp only at hSw); go_simp; (try with_reducible rfl))
    try simp only [Act.put, kB0, kB1, kB2, kB3, kB4, kB5]
    refine wpAnyH_take (i := 13) (v := ?_) rfl (by kernel_rfl) (by kernel_rfl) (by kernel_rfl) (fun _ _ _ h => h) (Or.inl ⟨by rfl, ?_⟩) (by assumption) ?_
    rotate_left
    · (intro w hSw; (try dsimp only at hSw); go_simp; (try with_reducible rfl))
    try simp only [Act.put, kB0, kB1, kB2, kB3, kB4, kB5]
    refine wpAnyH_take (i := 14) (v := ?_) rfl (by kernel_rfl) (by kernel_rfl) (by kernel_rfl) (fun _ _ _ h => h) (Or.inl ⟨by rfl, ?_⟩) (by assumption) ?_
    rotate_left
    · (intro w hSw; (try dsimp only at hSw); go_simp; (try with_reducible rfl))
    try simp only [Act.put, kB0, kB1, kB2, kB3, kB4, kB5]
    refine wpAnyH_take (i := 15) (v := ?_) rfl (by kernel_rfl) (by kernel_rfl) (by kernel_rfl) (fun _ _ _ h => h) (Or.inl ⟨by rfl, ?_⟩) (by assumption) ?_
    rotate_left
    · (intro w hSw; (try dsimp only at hSw); go_simp; (try with_reducible rfl))
    try simp only [Act.put, kB0, kB1, kB2, kB3, kB4, kB5]
    refine wpAnyH_take (i := 16) (v := ?_) rfl (by kernel_rfl) (by kernel_rfl) (by kernel_rfl) (fun _ _ _ h => h) (Or.inl ⟨by rfl, ?_⟩) (by assumption) ?_
    rotate_left
    · (intro w hSw; (try dsimp only at hSw); go_simp; (try with_reducible rfl))
    try simp only [Act.put, kB0, kB1, kB2, kB3, kB4, kB5]
    refine wpAnyH_take (i := 17) (v := ?_) rfl (by kernel_rfl) (by kernel_rfl) (by kernel_rfl) (fun _ _ _ h => h) (Or.inl ⟨by rfl, ?_⟩) (by assumption) ?_
    rotate_left
    · (intro w hSw; (try dsimp only at hSw); go_simp; (try with_reducible rfl))
    try simp only [Act.put, kB0, kB1, kB2, kB3, kB4, kB5]
    refine wpAnyH_take (i := 18) (v := ?_) rfl (by kernel_rfl) (by kernel_rfl) (by kernel_rfl) (fun _ _ _ h => h) (Or.inl ⟨by rfl, ?_⟩) (by assumption) ?_
    rotate_left
    · (intro w hSw; (try dsimp only at hSw); go_simp; (try with_reducible rfl))
    try simp only [Act.put, kB0, kB1, kB2, kB3, kB4, kB5]
    refine wpAnyH_take (i := 19) (v := undef) rfl (by kernel_rfl) (by kernel_rfl) (by kernel_rfl) (fun _ _ _ h => h) (Or.inr ⟨by rfl, rfl⟩) (by assumption) ?_
    try simp only [Act.put, kB0, kB1, kB2, kB3, kB4, kB5]
    refine wpAnyH_take (i := 20) (v := undef) rfl (by kernel_rfl) (by kernel_rfl) (by kernel_rfl) (fun _ _ _ h => h) (Or.inr ⟨by rfl, rfl⟩) (by assumption) ?_
    try simp only [Act.put, kB0, kB1, kB2, kB3, kB4, kB5]
    refine wpAnyH_take (i := 21) (v := undef) rfl (by kernel_rfl) (by kernel_rfl) (by kernel_rfl) (fun _ _ _ h => h) (Or.inr ⟨by rfl, rfl⟩) (by assumption) ?_
    try simp only [Act.put, kB0, kB1, kB2, kB3, kB4, kB5]
    refine wpAnyH_take (i := 22) (v := ?_) rfl (by kernel_rfl) (by kernel_rfl) (by kernel_rfl) (fun _ _ _ h => h) (Or.inl ⟨by rfl, ?_⟩) (by assumption) ?_
    rotate_left
    · (intro w hSw; (try dsimp only at hSw); go_simp; (try with_reducible rfl))
    try simp only [Act.put, kB0, kB1, kB2, kB3, kB4, kB5]
    refine wpAnyH_done (by kernel_rfl) ?_ _
    have K4 := hide hHeld.1
    clear hHeld hf hf'
    go_wp2_with fail
    refine wp_region_held_drew (S := fun W' => Fk w W' X5 X7 X8 X9 la xa ba ya lc xc bc yc Ts Us O Z C D ∧ W'.cell? ⟨X5, 0, none⟩ = some (.slice la Ts.length lc) ∧ W'.cell? ⟨X7, 1, none⟩ = some (.int .i64 C) ∧ W'.cell? ⟨X8, 0, none⟩ = some (.slice ba Us.length bc) ∧ W'.cell? ⟨X9, 0, none⟩ = some (.slice ya Z.length yc) ∧ W'.cell? ⟨X9, 1, none⟩ = some (.int .i64 D)) (by kernel_rfl) ?_ (fun hHeld => ?_)
    · exact unhide MK _ (unhide K4).drew
    clear K4
    refine wpAnyH_take (i := 0) (v := ?_) rfl (by kernel_rfl) (by kernel_rfl) (by kernel_rfl) (fun _ _ _ h => h) (Or.inl ⟨by rfl, ?_⟩) (by assumption) ?_
    rotate_left
    · (intro w hSw; (try dsimp only at hSw); go_simp; (try with_reducible rfl))
    try simp only [Act.put, kB0, kB1, kB2, kB3, kB4, kB5]
    refine wpAnyH_take (i := 1) (v := ?_) rfl (by kernel_rfl) (by kernel_rfl) (by kernel_rfl) (fun _ _ _ h => h) (Or.inl ⟨by rfl, ?_⟩) (by assumption) ?_
    rotate_left
    · (intro w hSw; (try dsimp only at hSw); go_simp; (try with_reducible rfl))
    try simp only [Act.put, kB0, kB1, kB2, kB3, kB4, kB5]
    refine wpAnyH_take (i := 2) (v := ?_) rfl (by kernel_rfl) (by kernel_rfl) (by kernel_rfl) (fun _ _ _ h => h) (Or.inl ⟨by rfl, ?_⟩) (by assumption) ?_
    rotate_left
    · (intro w hSw; (try dsimp only at hSw); go_simp; (try with_reducible rfl))
    try simp only [Act.put, kB0, kB1, kB2, kB3, kB4, kB5]
    refine wpAnyH_ready (rs := [3]) (by kernel_rfl) (by simp) ?_
    refine AllReadyH.cons rfl (fun K hK => ?_) AllReadyH.nil
    go_simp
    refine (unhide hso _ hHeld.1.t5).mono ?_
    rintro e wX ⟨vs, rfl, ownS, bX⟩
    obtain ⟨sa, sc, hvs⟩ := Mem.own_shape ownS
    subst hvs
    clear ownS
    have hf := hide (fun W => (by kernel_rfl : (Instr.field 33 (.agg #[.slice sa O.length sc, .int .i64 C]) 1).run Tryz.prog W = .ok (.int .i64 C) W))
    have hf' := unhide hf
    refine hK.out _ _ ?_ (fun hHeld => ?_)
    · exact unhide MK _ (hHeld.1.call bX)
    clear hK K
    try simp only [Act.put, kB0, kB1, kB2, kB3, kB4, kB5]
    refine wpAnyH_take (i := 4) (v := ?_) rfl (by kernel_rfl) (by kernel_rfl) (by kernel_rfl) (fun _ _ _ h => h) (Or.inl ⟨by rfl, ?_⟩) (by assumption) ?_
    rotate_left
    · (intro w hSw; (try dsimp only at hSw); go_simp; (try with_reducible rfl))
    try simp only [Act.put, kB0, kB1, kB2, kB3, kB4, kB5]
    refine wpAnyH_take (i := 5) (v := ?_) rfl (by kernel_rfl) (by kernel_rfl) (by kernel_rfl) (fun _ _ _ h => h) (Or.inl ⟨by rfl, ?_⟩) (by assumption) ?_
    rotate_left
    · (intro w hSw; (try dsimp only at hSw); go_simp; (try with_reducible rfl))
    try simp only [Act.put, kB0, kB1, kB2, kB3, kB4, kB5]
    refine wpAnyH_take (i := 6) (v := ?_) rfl (by kernel_rfl) (by kernel_rfl) (by kernel_rfl) (fun _ _ _ h => h) (Or.inl ⟨by rfl, ?_⟩) (by assumption) ?_
    rotate_left
    · (intro w hSw; (try dsimp only at hSw); go_simp; (try with_reducible rfl))
    try simp only [Act.put, kB0, kB1, kB2, kB3, kB4, kB5]
    refine wpAnyH_take (i := 7) (v := ?_) rfl (by kernel_rfl) (by kernel_rfl) (by kernel_rfl) (fun _ _ _ h => h) (Or.inl ⟨by rfl, ?_⟩) (by assumption) ?_
    rotate_left
    · (intro w hSw; (try dsimp only at hSw); go_simp; (try with_reducible rfl))
    try simp only [Act.put, kB0, kB1, kB2, kB3, kB4, kB5]
    refine wpAnyH_take (i := 8) (v := ?_) rfl (by kernel_rfl) (by kernel_rfl) (by kernel_rfl) (fun _ _ _ h => h) (Or.inl ⟨by rfl, ?_⟩) (by assumption) ?_
    rotate_left
    · (intro w hSw; (try dsimp only at hSw); go_simp; (try with_reducible rfl))
    try simp only [Act.put, kB0, kB1, kB2, kB3, kB4, kB5]
    refine wpAnyH_ready (rs := [9]) (by kernel_rfl) (by simp) ?_
    refine AllReadyH.cons rfl (fun K hK => ?_) AllReadyH.nil
    go_simp
    refine (unhide hys _ ba bc hHeld.1.t8).mono ?_
    rintro e wX ⟨vz, rfl, ownZ, bX⟩
    obtain ⟨za, zc, hvz⟩ := Mem.own_shape ownZ
    subst hvz
    have NZ := hide (Mem.ownN_nodes ownZ).2
    clear ownZ
    refine hK.out _ _ ?_ (fun hHeld => ?_)
    · exact unhide MK _ (hHeld.1.call bX)
    clear hK K
    try simp only [Act.put, kB0, kB1, kB2, kB3, kB4, kB5]
    refine wpAnyH_ready (rs := [10]) (by kernel_rfl) (by simp) ?_
    refine AllReadyH.cons rfl (fun K hK => ?_) AllReadyH.nil
    go_simp
    refine (WLw.trees_any ya za yc zc D Z _ (by omega) hHeld.1.n9 (unhide NZ) (unhide HZS) (unhide HZT)).mono ?_
    rintro e wX ⟨rfl, bX⟩
    refine hK.out _ _ ?_ (fun hHeld => ?_)
    · exact unhide MK _ (hHeld.1.call bX)
    clear hK K
    try simp only [Act.put, kB0, kB1, kB2, kB3, kB4, kB5]
    clear NZ
    refine wpAnyH_take (i := 11) (v := ?_) rfl (by kernel_rfl) (by kernel_rfl) (by kernel_rfl) (fun _ _ _ h => h) (Or.inl ⟨by rfl, ?_⟩) (by assumption) ?_
    rotate_left
    · (intro w hSw; (try dsimp only at hSw); go_simp; (try with_reducible rfl))
    try simp only [Act.put, kB0, kB1, kB2, kB3, kB4, kB5]
    refine wpAnyH_take (i := 12) (v := ?_) rfl (by kernel_rfl) (by kernel_rfl) (by kernel_rfl) (fun _ _ _ h => h) (Or.inl ⟨by rfl, ?_⟩) (by assumption) ?_
    rotate_left
    · (intro w hSw; (try dsimp only at hSw); go_simp; (try with_reducible rfl))
    try simp only [Act.put, kB0, kB1, kB2, kB3, kB4, kB5]
    refine wpAnyH_done (by kernel_rfl) ?_ _
    have K4 := hide hHeld.1
    clear hHeld hf hf'
    go_wp2
    go_ret
    exact ⟨rfl, (unhide K4).bel⟩
  subst hC
  by_cases hD : D = 0
  rotate_left
  · have hD1 : (D == 0) = false := by simpa using hD
    have hD2 : decide (D = 0) = false := by simpa using hD
    have hD3 : (D != 0) = true := by simpa using hD
    have MK : Hid (∀ W', Fk w W' X5 X7 X8 X9 la xa ba ya lc xc bc yc Ts Us O Z 0 D → (fun W' => Fk w W' X5 X7 X8 X9 la xa ba ya lc xc bc yc Ts Us O Z 0 D ∧ W'.cell? ⟨X5, 0, none⟩ = some (.slice la Ts.length lc) ∧ W'.cell? ⟨X7, 1, none⟩ = some (.int .i64 0) ∧ W'.cell? ⟨X8, 0, none⟩ = some (.slice ba Us.length bc) ∧ W'.cell? ⟨X9, 0, none⟩ = some (.slice ya Z.length yc) ∧ W'.cell? ⟨X9, 1, none⟩ = some (.int .i64 D)) W') := fun W' h => ⟨h, (by have e := h.b5.cell 0; simp only [kA0, kA1, kA2] at e; exact e), (by have e := h.b7.cell 1; simp only [kA0, kA1, kA2] at e; exact e), (by have e := h.b8.cell 0; simp only [kA0, kA1, kA2] at e; exact e), (by have e := h.b9.cell 0; simp only [kA0, kA1, kA2] at e; exact e), (by have e := h.b9.cell 1; simp only [kA0, kA1, kA2] at e; exact e)⟩
    clear hc0 hc1
    refine wp_region_held_drew (S := fun W' => Fk w W' X5 X7 X8 X9 la xa ba ya lc xc bc yc Ts Us O Z 0 D ∧ W'.cell? ⟨X5, 0, none⟩ = some (.slice la Ts.length lc) ∧ W'.cell? ⟨X7, 1, none⟩ = some (.int .i64 0) ∧ W'.cell? ⟨X8, 0, none⟩ = some (.slice ba Us.length bc) ∧ W'.cell? ⟨X9, 0, none⟩ = some (.slice ya Z.length yc) ∧ W'.cell? ⟨X9, 1, none⟩ = some (.int .i64 D)) (by kernel_rfl) ?_ (fun hHeld => ?_)
    · exact unhide MK _ (unhide K4).drew
    clear K4
    refine wpAnyH_take (i := 0) (v := ?_) rfl (by kernel_rfl) (by kernel_rfl) (by kernel_rfl) (fun _ _ _ h => h) (Or.inl ⟨by rfl, ?_⟩) (by assumption) ?_
    rotate_left
    · (intro w hSw; (try dsimp only at hSw); go_simp; (try with_reducible rfl))
    try simp only [Act.put, kB0, kB1, kB2, kB3, kB4, kB5]
    refine wpAnyH_take (i := 1) (v := ?_) rfl (by kernel_rfl) (by kernel_rfl) (by kernel_rfl) (fun _ _ _ h => h) (Or.inl ⟨by rfl, ?_⟩) (by assumption) ?_
    rotate_left
    · (intro w hSw; (try dsimp only at hSw); go_simp; (try with_reducible rfl))
    try simp only [Act.put, kB0, kB1, kB2, kB3, kB4, kB5]
    refine wpAnyH_take (i := 2) (v := ?_) rfl (by kernel_rfl) (by kernel_rfl) (by kernel_rfl) (fun _ _ _ h => h) (Or.inl ⟨by rfl, ?_⟩) (by assumption) ?_
    rotate_left
    · (intro w hSw; (try dsimp only at hSw); go_simp; (try with_reducible rfl))
    try simp only [Act.put, kB0, kB1, kB2, kB3, kB4, kB5]
    refine wpAnyH_ready (rs := [3]) (by kernel_rfl) (by simp) ?_
    refine AllReadyH.cons rfl (fun K hK => ?_) AllReadyH.nil
    go_simp
    refine (unhide hso _ hHeld.1.t5).mono ?_
    rintro e wX ⟨vs, rfl, ownS, bX⟩
    obtain ⟨sa, sc, hvs⟩ := Mem.own_shape ownS
    subst hvs
    clear ownS
    have hf := hide (fun W => (by kernel_rfl : (Instr.field 33 (.agg #[.slice sa O.length sc, .int .i64 0]) 1).run Tryz.prog W = .ok (.int .i64 0) W))
    have hf' := unhide hf
    refine hK.out _ _ ?_ (fun hHeld => ?_)
    · exact unhide MK _ (hHeld.1.call bX)
    clear hK K
    try simp only [Act.put, kB0, kB1, kB2, kB3, kB4, kB5]
    refine wpAnyH_take (i := 4) (v := ?_) rfl (by kernel_rfl) (by kernel_rfl) (by kernel_rfl) (fun _ _ _ h => h) (Or.inl ⟨by rfl, ?_⟩) (by assumption) ?_
    rotate_left
    · (intro w hSw; (try dsimp only at hSw); go_simp; (try with_reducible rfl))
    try simp only [Act.put, kB0, kB1, kB2, kB3, kB4, kB5]
    refine wpAnyH_take (i := 5) (v := ?_) rfl (by kernel_rfl) (by kernel_rfl) (by kernel_rfl) (fun _ _ _ h => h) (Or.inl ⟨by rfl, ?_⟩) (by assumption) ?_
    rotate_left
    · (intro w hSw; (try dsimp only at hSw); go_simp; (try with_reducible rfl))
    try simp only [Act.put, kB0, kB1, kB2, kB3, kB4, kB5]
    refine wpAnyH_take (i := 6) (v := ?_) rfl (by kernel_rfl) (by kernel_rfl) (by kernel_rfl) (fun _ _ _ h => h) (Or.inl ⟨by rfl, ?_⟩) (by assumption) ?_
    rotate_left
    · (intro w hSw; (try dsimp only at hSw); go_simp; (try with_reducible rfl))
    try simp only [Act.put, kB0, kB1, kB2, kB3, kB4, kB5]
    refine wpAnyH_take (i := 7) (v := ?_) rfl (by kernel_rfl) (by kernel_rfl) (by kernel_rfl) (fun _ _ _ h => h) (Or.inl ⟨by rfl, ?_⟩) (by assumption) ?_
    rotate_left
    · (intro w hSw; (try dsimp only at hSw); go_simp; (try with_reducible rfl))
    try simp only [Act.put, kB0, kB1, kB2, kB3, kB4, kB5]
    refine wpAnyH_take (i := 8) (v := ?_) rfl (by kernel_rfl) (by kernel_rfl) (by kernel_rfl) (fun _ _ _ h => h) (Or.inl ⟨by rfl, ?_⟩) (by assumption) ?_
    rotate_left
    · (intro w hSw; (try dsimp only at hSw); go_simp; (try with_reducible rfl))
    try simp only [Act.put, kB0, kB1, kB2, kB3, kB4, kB5]
    refine wpAnyH_ready (rs := [9]) (by kernel_rfl) (by simp) ?_
    refine AllReadyH.cons rfl (fun K hK => ?_) AllReadyH.nil
    go_simp
    refine (unhide hys _ ba bc hHeld.1.t8).mono ?_
    rintro e wX ⟨vz, rfl, ownZ, bX⟩
    obtain ⟨za, zc, hvz⟩ := Mem.own_shape ownZ
    subst hvz
    have NZ := hide (Mem.ownN_nodes ownZ).2
    clear ownZ
    refine hK.out _ _ ?_ (fun hHeld => ?_)
    · exact unhide MK _ (hHeld.1.call bX)
    clear hK K
    try simp only [Act.put, kB0, kB1, kB2, kB3, kB4, kB5]
    refine wpAnyH_ready (rs := [10]) (by kernel_rfl) (by simp) ?_
    refine AllReadyH.cons rfl (fun K hK => ?_) AllReadyH.nil
    go_simp
    refine (WLw.trees_any ya za yc zc D Z _ (by omega) hHeld.1.n9 (unhide NZ) (unhide HZS) (unhide HZT)).mono ?_
    rintro e wX ⟨rfl, bX⟩
    refine hK.out _ _ ?_ (fun hHeld => ?_)
    · exact unhide MK _ (hHeld.1.call bX)
    clear hK K
    try simp only [Act.put, kB0, kB1, kB2, kB3, kB4, kB5]
    clear NZ
    refine wpAnyH_take (i := 11) (v := ?_) rfl (by kernel_rfl) (by kernel_rfl) (by kernel_rfl) (fun _ _ _ h => h) (Or.inl ⟨by rfl, ?_⟩) (by assumption) ?_
    rotate_left
    · (intro w hSw; (try dsimp only at hSw); go_simp; (try with_reducible rfl))
    try simp only [Act.put, kB0, kB1, kB2, kB3, kB4, kB5]
    refine wpAnyH_take (i := 12) (v := ?_) rfl (by kernel_rfl) (by kernel_rfl) (by kernel_rfl) (fun _ _ _ h => h) (Or.inl ⟨by rfl, ?_⟩) (by assumption) ?_
    rotate_left
    · (intro w hSw; (try dsimp only at hSw); go_simp; (try with_reducible rfl))
    try simp only [Act.put, kB0, kB1, kB2, kB3, kB4, kB5]
    refine wpAnyH_take (i := 13) (v := ?_) rfl (by kernel_rfl) (by kernel_rfl) (by kernel_rfl) (fun _ _ _ h => h) (Or.inl ⟨by rfl, ?_⟩) (by assumption) ?_
    rotate_left
    · (intro w hSw; (try dsimp only at hSw); go_simp; (try with_reducible rfl))
    try simp only [Act.put, kB0, kB1, kB2, kB3, kB4, kB5]
    refine wpAnyH_take (i := 14) (v := ?_) rfl (by kernel_rfl) (by kernel_rfl) (by kernel_rfl) (fun _ _ _ h => h) (Or.inl ⟨by rfl, ?_⟩) (by assumption) ?_
    rotate_left
    · (intro w hSw; (try dsimp only at hSw); go_simp; (try with_reducible rfl))
    try simp only [Act.put, kB0, kB1, kB2, kB3, kB4, kB5]
    refine wpAnyH_take (i := 15) (v := ?_) rfl (by kernel_rfl) (by kernel_rfl) (by kernel_rfl) (fun _ _ _ h => h) (Or.inl ⟨by rfl, ?_⟩) (by assumption) ?_
    rotate_left
    · (intro w hSw; (try dsimp only at hSw); go_simp; (try with_reducible rfl))
    try simp only [Act.put, kB0, kB1, kB2, kB3, kB4, kB5]
    refine wpAnyH_take (i := 16) (v := ?_) rfl (by kernel_rfl) (by kernel_rfl) (by kernel_rfl) (fun _ _ _ h => h) (Or.inl ⟨by rfl, ?_⟩) (by assumption) ?_
    rotate_left
    · (intro w hSw; (try dsimp only at hSw); go_simp; (try with_reducible rfl))
    try simp only [Act.put, kB0, kB1, kB2, kB3, kB4, kB5]
    refine wpAnyH_take (i := 17) (v := ?_) rfl (by kernel_rfl) (by kernel_rfl) (by kernel_rfl) (fun _ _ _ h => h) (Or.inl ⟨by rfl, ?_⟩) (by assumption) ?_
    rotate_left
    · (intro w hSw; (try dsimp only at hSw); go_simp; (try with_reducible rfl))
    try simp only [Act.put, kB0, kB1, kB2, kB3, kB4, kB5]
    refine wpAnyH_take (i := 18) (v := ?_) rfl (by kernel_rfl) (by kernel_rfl) (by kernel_rfl) (fun _ _ _ h => h) (Or.inl ⟨by rfl, ?_⟩) (by assumption) ?_
    rotate_left
    · (intro w hSw; (try dsimp only at hSw); go_simp; (try with_reducible rfl))
    try simp only [Act.put, kB0, kB1, kB2, kB3, kB4, kB5]
    refine wpAnyH_take (i := 19) (v := ?_) rfl (by kernel_rfl) (by kernel_rfl) (by kernel_rfl) (fun _ _ _ h => h) (Or.inl ⟨by rfl, ?_⟩) (by assumption) ?_
    rotate_left
    · (intro w hSw; (try dsimp only at hSw); go_simp; (try with_reducible rfl))
    try simp only [Act.put, kB0, kB1, kB2, kB3, kB4, kB5]
    refine wpAnyH_take (i := 20) (v := ?_) rfl (by kernel_rfl) (by kernel_rfl) (by kernel_rfl) (fun _ _ _ h => h) (Or.inl ⟨by rfl, ?_⟩) (by assumption) ?_
    rotate_left
    · (intro w hSw; (try dsimp only at hSw); go_simp; (try with_reducible rfl))
    try simp only [Act.put, kB0, kB1, kB2, kB3, kB4, kB5]
    refine wpAnyH_take (i := 21) (v := ?_) rfl (by kernel_rfl) (by kernel_rfl) (by kernel_rfl) (fun _ _ _ h => h) (Or.inl ⟨by rfl, ?_⟩) (by assumption) ?_
    rotate_left
    · (intro w hSw; (try dsimp only at hSw); go_simp; (try with_reducible rfl))
    try simp only [Act.put, kB0, kB1, kB2, kB3, kB4, kB5]
    refine wpAnyH_take (i := 22) (v := ?_) rfl (by kernel_rfl) (by kernel_rfl) (by kernel_rfl) (fun _ _ _ h => h) (Or.inl ⟨by rfl, ?_⟩) (by assumption) ?_
    rotate_left
    · (intro w hSw; (try dsimp only at hSw); go_simp; (try with_reducible rfl))
    try simp only [Act.put, kB0, kB1, kB2, kB3, kB4, kB5]
    refine wpAnyH_done (by kernel_rfl) ?_ _
    have K4 := hide hHeld.1
    clear hHeld hf hf'
    go_wp2_with fail
    refine wp_region_held_drew (S := fun W' => Fk w W' X5 X7 X8 X9 la xa ba ya lc xc bc yc Ts Us O Z 0 D ∧ W'.cell? ⟨X5, 0, none⟩ = some (.slice la Ts.length lc) ∧ W'.cell? ⟨X7, 1, none⟩ = some (.int .i64 0) ∧ W'.cell? ⟨X8, 0, none⟩ = some (.slice ba Us.length bc) ∧ W'.cell? ⟨X9, 0, none⟩ = some (.slice ya Z.length yc) ∧ W'.cell? ⟨X9, 1, none⟩ = some (.int .i64 D)) (by kernel_rfl) ?_ (fun hHeld => ?_)
    · exact unhide MK _ (unhide K4).drew
    clear K4
    refine wpAnyH_take (i := 0) (v := ?_) rfl (by kernel_rfl) (by kernel_rfl) (by kernel_rfl) (fun _ _ _ h => h) (Or.inl ⟨by rfl, ?_⟩) (by assumption) ?_
    rotate_left
    · (intro w hSw; (try dsimp only at hSw); go_simp; (try with_reducible rfl))
    try simp only [Act.put, kB0, kB1, kB2, kB3, kB4, kB5]
    refine wpAnyH_take (i := 1) (v := ?_) rfl (by kernel_rfl) (by kernel_rfl) (by kernel_rfl) (fun _ _ _ h => h) (Or.inl ⟨by rfl, ?_⟩) (by assumption) ?_
    rotate_left
    · (intro w hSw; (try dsimp only at hSw); go_simp; (try with_reducible rfl))
    try simp only [Act.put, kB0, kB1, kB2, kB3, kB4, kB5]
    refine wpAnyH_take (i := 2) (v := ?_) rfl (by kernel_rfl) (by kernel_rfl) (by kernel_rfl) (fun _ _ _ h => h) (Or.inl ⟨by rfl, ?_⟩) (by assumption) ?_
    rotate_left
    · (intro w hSw; (try dsimp only at hSw); go_simp; (try with_reducible rfl))
    try simp only [Act.put, kB0, kB1, kB2, kB3, kB4, kB5]
    refine wpAnyH_ready (rs := [3]) (by kernel_rfl) (by simp) ?_
    refine AllReadyH.cons rfl (fun K hK => ?_) AllReadyH.nil
    go_simp
    refine (unhide hso _ hHeld.1.t5).mono ?_
    rintro e wX ⟨vs, rfl, ownS, bX⟩
    obtain ⟨sa, sc, hvs⟩ := Mem.own_shape ownS
    subst hvs
    clear ownS
    have hf := hide (fun W => (by kernel_rfl : (Instr.field 33 (.agg #[.slice sa O.length sc, .int .i64 0]) 1).run Tryz.prog W = .ok (.int .i64 0) W))
    have hf' := unhide hf
    refine hK.out _ _ ?_ (fun hHeld => ?_)
    · exact unhide MK _ (hHeld.1.call bX)
    clear hK K
    try simp only [Act.put, kB0, kB1, kB2, kB3, kB4, kB5]
    refine wpAnyH_take (i := 4) (v := ?_) rfl (by kernel_rfl) (by kernel_rfl) (by kernel_rfl) (fun _ _ _ h => h) (Or.inl ⟨by rfl, ?_⟩) (by assumption) ?_
    rotate_left
    · (intro w hSw; (try dsimp only at hSw); go_simp; (try with_reducible rfl))
    try simp only [Act.put, kB0, kB1, kB2, kB3, kB4, kB5]
    refine wpAnyH_take (i := 5) (v := ?_) rfl (by kernel_rfl) (by kernel_rfl) (by kernel_rfl) (fun _ _ _ h => h) (Or.inl ⟨by rfl, ?_⟩) (by assumption) ?_
    rotate_left
    · (intro w hSw; (try dsimp only at hSw); go_simp; (try with_reducible rfl))
    try simp only [Act.put, kB0, kB1, kB2, kB3, kB4, kB5]
    refine wpAnyH_take (i := 6) (v := ?_) rfl (by kernel_rfl) (by kernel_rfl) (by kernel_rfl) (fun _ _ _ h => h) (Or.inl ⟨by rfl, ?_⟩) (by assumption) ?_
    rotate_left
    · (intro w hSw; (try dsimp only at hSw); go_simp; (try with_reducible rfl))
    try simp only [Act.put, kB0, kB1, kB2, kB3, kB4, kB5]
    refine wpAnyH_take (i := 7) (v := ?_) rfl (by kernel_rfl) (by kernel_rfl) (by kernel_rfl) (fun _ _ _ h => h) (Or.inl ⟨by rfl, ?_⟩) (by assumption) ?_
    rotate_left
    · (intro w hSw; (try dsimp only at hSw); go_simp; (try with_reducible rfl))
    try simp only [Act.put, kB0, kB1, kB2, kB3, kB4, kB5]
    refine wpAnyH_take (i := 8) (v := ?_) rfl (by kernel_rfl) (by kernel_rfl) (by kernel_rfl) (fun _ _ _ h => h) (Or.inl ⟨by rfl, ?_⟩) (by assumption) ?_
    rotate_left
    · (intro w hSw; (try dsimp only at hSw); go_simp; (try with_reducible rfl))
    try simp only [Act.put, kB0, kB1, kB2, kB3, kB4, kB5]
    refine wpAnyH_ready (rs := [9]) (by kernel_rfl) (by simp) ?_
    refine AllReadyH.cons rfl (fun K hK => ?_) AllReadyH.nil
    go_simp
    refine (unhide hys _ ba bc hHeld.1.t8).mono ?_
    rintro e wX ⟨vz, rfl, ownZ, bX⟩
    obtain ⟨za, zc, hvz⟩ := Mem.own_shape ownZ
    subst hvz
    have NZ := hide (Mem.ownN_nodes ownZ).2
    clear ownZ
    refine hK.out _ _ ?_ (fun hHeld => ?_)
    · exact unhide MK _ (hHeld.1.call bX)
    clear hK K
    try simp only [Act.put, kB0, kB1, kB2, kB3, kB4, kB5]
    refine wpAnyH_ready (rs := [10]) (by kernel_rfl) (by simp) ?_
    refine AllReadyH.cons rfl (fun K hK => ?_) AllReadyH.nil
    go_simp
    refine (WLw.trees_any ya za yc zc D Z _ (by omega) hHeld.1.n9 (unhide NZ) (unhide HZS) (unhide HZT)).mono ?_
    rintro e wX ⟨rfl, bX⟩
    refine hK.out _ _ ?_ (fun hHeld => ?_)
    · exact unhide MK _ (hHeld.1.call bX)
    clear hK K
    try simp only [Act.put, kB0, kB1, kB2, kB3, kB4, kB5]
    clear NZ
    refine wpAnyH_take (i := 11) (v := ?_) rfl (by kernel_rfl) (by kernel_rfl) (by kernel_rfl) (fun _ _ _ h => h) (Or.inl ⟨by rfl, ?_⟩) (by assumption) ?_
    rotate_left
    · (intro w hSw; (try dsimp only at hSw); go_simp; (try with_reducible rfl))
    try simp only [Act.put, kB0, kB1, kB2, kB3, kB4, kB5]
    refine wpAnyH_take (i := 12) (v := ?_) rfl (by kernel_rfl) (by kernel_rfl) (by kernel_rfl) (fun _ _ _ h => h) (Or.inl ⟨by rfl, ?_⟩) (by assumption) ?_
    rotate_left
    · (intro w hSw; (try dsimp only at hSw); go_simp; (try with_reducible rfl))
    try simp only [Act.put, kB0, kB1, kB2, kB3, kB4, kB5]
    refine wpAnyH_done (by kernel_rfl) ?_ _
    have K4 := hide hHeld.1
    clear hHeld hf hf'
    go_wp2
    go_ret
    exact ⟨rfl, (unhide K4).bel⟩
  subst hD
  have MK : Hid (∀ W', Fk w W' X5 X7 X8 X9 la xa ba ya lc xc bc yc Ts Us O Z 0 0 → (fun W' => Fk w W' X5 X7 X8 X9 la xa ba ya lc xc bc yc Ts Us O Z 0 0 ∧ W'.cell? ⟨X5, 0, none⟩ = some (.slice la Ts.length lc) ∧ W'.cell? ⟨X7, 1, none⟩ = some (.int .i64 0) ∧ W'.cell? ⟨X8, 0, none⟩ = some (.slice ba Us.length bc) ∧ W'.cell? ⟨X9, 0, none⟩ = some (.slice ya Z.length yc) ∧ W'.cell? ⟨X9, 1, none⟩ = some (.int .i64 0)) W') := fun W' h => ⟨h, (by have e := h.b5.cell 0; simp only [kA0, kA1, kA2] at e; exact e), (by have e := h.b7.cell 1; simp only [kA0, kA1, kA2] at e; exact e), (by have e := h.b8.cell 0; simp only [kA0, kA1, kA2] at e; exact e), (by have e := h.b9.cell 0; simp only [kA0, kA1, kA2] at e; exact e), (by have e := h.b9.cell 1; simp only [kA0, kA1, kA2] at e; exact e)⟩
  clear hc0 hc1
  refine wp_region_held_drew (S := fun W' => Fk w W' X5 X7 X8 X9 la xa ba ya lc xc bc yc Ts Us O Z 0 0 ∧ W'.cell? ⟨X5, 0, none⟩ = some (.slice la Ts.length lc) ∧ W'.cell? ⟨X7, 1, none⟩ = some (.int .i64 0) ∧ W'.cell? ⟨X8, 0, none⟩ = some (.slice ba Us.length bc) ∧ W'.cell? ⟨X9, 0, none⟩ = some (.slice ya Z.length yc) ∧ W'.cell? ⟨X9, 1, none⟩ = some (.int .i64 0)) (by kernel_rfl) ?_ (fun hHeld => ?_)
  · exact unhide MK _ (unhide K4).drew
  clear K4
  refine wpAnyH_take (i := 0) (v := ?_) rfl (by kernel_rfl) (by kernel_rfl) (by kernel_rfl) (fun _ _ _ h => h) (Or.inl ⟨by rfl, ?_⟩) (by assumption) ?_
  rotate_left
  · (intro w hSw; (try dsimp only at hSw); go_simp; (try with_reducible rfl))
  try simp only [Act.put, kB0, kB1, kB2, kB3, kB4, kB5]
  refine wpAnyH_take (i := 1) (v := ?_) rfl (by kernel_rfl) (by kernel_rfl) (by kernel_rfl) (fun _ _ _ h => h) (Or.inl ⟨by rfl, ?_⟩) (by assumption) ?_
  rotate_left
  · (intro w hSw; (try dsimp only at hSw); go_simp; (try with_reducible rfl))
  try simp only [Act.put, kB0, kB1, kB2, kB3, kB4, kB5]
  refine wpAnyH_take (i := 2) (v := ?_) rfl (by kernel_rfl) (by kernel_rfl) (by kernel_rfl) (fun _ _ _ h => h) (Or.inl ⟨by rfl, ?_⟩) (by assumption) ?_
  rotate_left
  · (intro w hSw; (try dsimp only at hSw); go_simp; (try with_reducible rfl))
  try simp only [Act.put, kB0, kB1, kB2, kB3, kB4, kB5]
  refine wpAnyH_ready (rs := [3]) (by kernel_rfl) (by simp) ?_
  refine AllReadyH.cons rfl (fun K hK => ?_) AllReadyH.nil
  go_simp
  refine (unhide hso _ hHeld.1.t5).mono ?_
  rintro e wX ⟨vs, rfl, ownS, bX⟩
  obtain ⟨sa, sc, hvs⟩ := Mem.own_shape ownS
  subst hvs
  clear ownS
  have hf := hide (fun W => (by kernel_rfl : (Instr.field 33 (.agg #[.slice sa O.length sc, .int .i64 0]) 1).run Tryz.prog W = .ok (.int .i64 0) W))
  have hf' := unhide hf
  refine hK.out _ _ ?_ (fun hHeld => ?_)
  · exact unhide MK _ (hHeld.1.call bX)
  clear hK K
  try simp only [Act.put, kB0, kB1, kB2, kB3, kB4, kB5]
  refine wpAnyH_take (i := 4) (v := ?_) rfl (by kernel_rfl) (by kernel_rfl) (by kernel_rfl) (fun _ _ _ h => h) (Or.inl ⟨by rfl, ?_⟩) (by assumption) ?_
  rotate_left
  · (intro w hSw; (try dsimp only at hSw); go_simp; (try with_reducible rfl))
  try simp only [Act.put, kB0, kB1, kB2, kB3, kB4, kB5]
  refine wpAnyH_take (i := 5) (v := ?_) rfl (by kernel_rfl) (by kernel_rfl) (by kernel_rfl) (fun _ _ _ h => h) (Or.inl ⟨by rfl, ?_⟩) (by assumption) ?_
  rotate_left
  · (intro w hSw; (try dsimp only at hSw); go_simp; (try with_reducible rfl))
  try simp only [Act.put, kB0, kB1, kB2, kB3, kB4, kB5]
  refine wpAnyH_take (i := 6) (v := ?_) rfl (by kernel_rfl) (by kernel_rfl) (by kernel_rfl) (fun _ _ _ h => h) (Or.inl ⟨by rfl, ?_⟩) (by assumption) ?_
  rotate_left
  · (intro w hSw; (try dsimp only at hSw); go_simp; (try with_reducible rfl))
  try simp only [Act.put, kB0, kB1, kB2, kB3, kB4, kB5]
  refine wpAnyH_take (i := 7) (v := ?_) rfl (by kernel_rfl) (by kernel_rfl) (by kernel_rfl) (fun _ _ _ h => h) (Or.inl ⟨by rfl, ?_⟩) (by assumption) ?_
  rotate_left
  · (intro w hSw; (try dsimp only at hSw); go_simp; (try with_reducible rfl))
  try simp only [Act.put, kB0, kB1, kB2, kB3, kB4, kB5]
  refine wpAnyH_take (i := 8) (v := ?_) rfl (by kernel_rfl) (by kernel_rfl) (by kernel_rfl) (fun _ _ _ h => h) (Or.inl ⟨by rfl, ?_⟩) (by assumption) ?_
  rotate_left
  · (intro w hSw; (try dsimp only at hSw); go_simp; (try with_reducible rfl))
  try simp only [Act.put, kB0, kB1, kB2, kB3, kB4, kB5]
  refine wpAnyH_ready (rs := [9]) (by kernel_rfl) (by simp) ?_
  refine AllReadyH.cons rfl (fun K hK => ?_) AllReadyH.nil
  go_simp
  refine (unhide hys _ ba bc hHeld.1.t8).mono ?_
  rintro e wX ⟨vz, rfl, ownZ, bX⟩
  obtain ⟨za, zc, hvz⟩ := Mem.own_shape ownZ
  subst hvz
  have NZ := hide (Mem.ownN_nodes ownZ).2
  clear ownZ
  refine hK.out _ _ ?_ (fun hHeld => ?_)
  · exact unhide MK _ (hHeld.1.call bX)
  clear hK K
  try simp only [Act.put, kB0, kB1, kB2, kB3, kB4, kB5]
  refine wpAnyH_ready (rs := [10]) (by kernel_rfl) (by simp) ?_
  refine AllReadyH.cons rfl (fun K hK => ?_) AllReadyH.nil
  go_simp
  refine (WLw.trees_any ya za yc zc 0 Z _ (by omega) hHeld.1.n9 (unhide NZ) (unhide HZS) (unhide HZT)).mono ?_
  rintro e wX ⟨rfl, bX⟩
  refine hK.out _ _ ?_ (fun hHeld => ?_)
  · exact unhide MK _ (hHeld.1.call bX)
  clear hK K
  try simp only [Act.put, kB0, kB1, kB2, kB3, kB4, kB5]
  clear NZ
  refine wpAnyH_take (i := 11) (v := ?_) rfl (by kernel_rfl) (by kernel_rfl) (by kernel_rfl) (fun _ _ _ h => h) (Or.inl ⟨by rfl, ?_⟩) (by assumption) ?_
  rotate_left
  · (intro w hSw; (try dsimp only at hSw); go_simp; (try with_reducible rfl))
  try simp only [Act.put, kB0, kB1, kB2, kB3, kB4, kB5]
  refine wpAnyH_take (i := 12) (v := ?_) rfl (by kernel_rfl) (by kernel_rfl) (by kernel_rfl) (fun _ _ _ h => h) (Or.inl ⟨by rfl, ?_⟩) (by assumption) ?_
  rotate_left
  · (intro w hSw; (try dsimp only at hSw); go_simp; (try with_reducible rfl))
  try simp only [Act.put, kB0, kB1, kB2, kB3, kB4, kB5]
  refine wpAnyH_take (i := 13) (v := ?_) rfl (by kernel_rfl) (by kernel_rfl) (by kernel_rfl) (fun _ _ _ h => h) (Or.inl ⟨by rfl, ?_⟩) (by assumption) ?_
  rotate_left
  · (intro w hSw; (try dsimp only at hSw); go_simp; (try with_reducible rfl))
  try simp only [Act.put, kB0, kB1, kB2, kB3, kB4, kB5]
  refine wpAnyH_take (i := 14) (v := ?_) rfl (by kernel_rfl) (by kernel_rfl) (by kernel_rfl) (fun _ _ _ h => h) (Or.inl ⟨by rfl, ?_⟩) (by assumption) ?_
  rotate_left
  · (intro w hSw; (try dsimp only at hSw); go_simp; (try with_reducible rfl))
  try simp only [Act.put, kB0, kB1, kB2, kB3, kB4, kB5]
  refine wpAnyH_take (i := 15) (v := ?_) rfl (by kernel_rfl) (by kernel_rfl) (by kernel_rfl) (fun _ _ _ h => h) (Or.inl ⟨by rfl, ?_⟩) (by assumption) ?_
  rotate_left
  · (intro w hSw; (try dsimp only at hSw); go_simp; (try with_reducible rfl))
  try simp only [Act.put, kB0, kB1, kB2, kB3, kB4, kB5]
  refine wpAnyH_take (i := 16) (v := ?_) rfl (by kernel_rfl) (by kernel_rfl) (by kernel_rfl) (fun _ _ _ h => h) (Or.inl ⟨by rfl, ?_⟩) (by assumption) ?_
  rotate_left
  · (intro w hSw; (try dsimp only at hSw); go_simp; (try with_reducible rfl))
  try simp only [Act.put, kB0, kB1, kB2, kB3, kB4, kB5]
  refine wpAnyH_take (i := 17) (v := ?_) rfl (by kernel_rfl) (by kernel_rfl) (by kernel_rfl) (fun _ _ _ h => h) (Or.inl ⟨by rfl, ?_⟩) (by assumption) ?_
  rotate_left
  · (intro w hSw; (try dsimp only at hSw); go_simp; (try with_reducible rfl))
  try simp only [Act.put, kB0, kB1, kB2, kB3, kB4, kB5]
  refine wpAnyH_take (i := 18) (v := ?_) rfl (by kernel_rfl) (by kernel_rfl) (by kernel_rfl) (fun _ _ _ h => h) (Or.inl ⟨by rfl, ?_⟩) (by assumption) ?_
  rotate_left
  · (intro w hSw; (try dsimp only at hSw); go_simp; (try with_reducible rfl))
  try simp only [Act.put, kB0, kB1, kB2, kB3, kB4, kB5]
  refine wpAnyH_take (i := 19) (v := ?_) rfl (by kernel_rfl) (by kernel_rfl) (by kernel_rfl) (fun _ _ _ h => h) (Or.inl ⟨by rfl, ?_⟩) (by assumption) ?_
  rotate_left
  · (intro w hSw; (try dsimp only at hSw); go_simp; (try with_reducible rfl))
  try simp only [Act.put, kB0, kB1, kB2, kB3, kB4, kB5]
  refine wpAnyH_take (i := 20) (v := ?_) rfl (by kernel_rfl) (by kernel_rfl) (by kernel_rfl) (fun _ _ _ h => h) (Or.inl ⟨by rfl, ?_⟩) (by assumption) ?_
  rotate_left
  · (intro w hSw; (try dsimp only at hSw); go_simp; (try with_reducible rfl))
  try simp only [Act.put, kB0, kB1, kB2, kB3, kB4, kB5]
  refine wpAnyH_take (i := 21) (v := ?_) rfl (by kernel_rfl) (by kernel_rfl) (by kernel_rfl) (fun _ _ _ h => h) (Or.inl ⟨by rfl, ?_⟩) (by assumption) ?_
  rotate_left
  · (intro w hSw; (try dsimp only at hSw); go_simp; (try with_reducible rfl))
  try simp only [Act.put, kB0, kB1, kB2, kB3, kB4, kB5]
  refine wpAnyH_take (i := 22) (v := ?_) rfl (by kernel_rfl) (by kernel_rfl) (by kernel_rfl) (fun _ _ _ h => h) (Or.inl ⟨by rfl, ?_⟩) (by assumption) ?_
  rotate_left
  · (intro w hSw; (try dsimp only at hSw); go_simp; (try with_reducible rfl))
  try simp only [Act.put, kB0, kB1, kB2, kB3, kB4, kB5]
  refine wpAnyH_done (by kernel_rfl) ?_ _
  have K4 := hide hHeld.1
  clear hHeld hf hf'
  clear hso hys MK HZT
  go_wp2_with fail
  go_loopw [10] (fun i wr => ∃ k : Nat, k ≤ O.length ∧ i = .int .i64 (k : Int) ∧ Hid (Fk w wr X5 X7 X8 X9 la xa ba ya lc xc bc yc Ts Us O Z 0 0)) (fun i _ => O.length - (intOf i).toNat)
  case atStart => exact ⟨0, Nat.zero_le _, rfl, K4⟩
  case round =>
    obtain ⟨k, hk, rfl, KR⟩ := hrel
    clear K4
    have x7 := (unhide KR).b7.cell 0
    simp only [kA0, kA1, kA2] at x7
    by_cases hlt : k < O.length
    rotate_left
    · have y1 : ¬ (k : Int) < (O.length : Int) := by omega
      have hbel := (unhide KR).bel
      go_wp2
      go_ret
      exact ⟨rfl, hbel⟩
    have y1 : (k : Int) < (O.length : Int) := by omega
    have y3 : (0 : Int) ≤ (k : Int) := by omega
    obtain ⟨⟨p, kd, d, t, m⟩, hn⟩ : ∃ n, O[k]? = some n := ⟨_, List.getElem?_eq_getElem hlt⟩
    have hmem := List.mem_of_getElem? hn
    have hps := (unhide HOS _ hmem).1
    obtain ⟨np, nk, nd, nt, nm, c, hV⟩ := unhide HFM (by trivial) p
    have HKD : Hid (kd ≠ 0 → nk = kd ∧ nd = d ∧ nt = t ∧ c = 0) := fun hk0 => by
      obtain ⟨np', nm', hV'⟩ := unhide HMS (by trivial) (by trivial) _ hmem hk0
      simp only at hV'
      rw [hV] at hV'
      simp at hV'
      obtain ⟨-, e1, e2, e3, -, e4⟩ := hV'
      exact ⟨e1, e2, e3, e4⟩
    simp only at hps
    obtain ⟨b', o', hxa, hb', q0, q1, q2, q3, q4⟩ := (unhide KR).n7 k _ hn
    simp only at q0 q1 q2 q3 q4
    have hget := hide (fun W (b : Below w.heap.size w W) (v : Mem.isNodes W ya Z) => WGetT.impl_any ya yc Z p W (by omega) v (unhide HZS) hps x (unhide HE W b))
    rw [hV] at hget
    have K1 := hide ((unhide KR).call ((Below.refl _ _).alloc (Nat.le_refl _) (.cells #[.string p, .int .i64 kd, .string d, .int .i64 t, .int .i64 m] 36)))
    have BN := hide (Mem.Blk.new wr #[.string p, .int .i64 kd, .string d, .int .i64 t, .int .i64 m] 36)
    have x9 := (unhide K1).b9.cell 0
    have n0 := (unhide BN).cell 0
    simp only [kA0, kA1, kA2] at x9 n0
    rw [hxa] at x7
    clear hV hn hmem KR hxa
    go_wp2_with fail
    generalize wr.alloc (.cells #[.string p, .int .i64 kd, .string d, .int .i64 t, .int .i64 m] 36) = u2 at K1 BN x9 n0 ⊢
    generalize wr.heap.size = XN at BN n0 ⊢
    refine (unhide hget _ (unhide K1).bel (unhide K1).n9).mono ?_
    rintro e u3 ⟨rfl, b2⟩
    have b2' := b2.alloc b2.size (.cells #[.string np, .int .i64 nk, .string nd, .int .i64 nt, .int .i64 nm, .int .i64 c] 52)
    have KE := hide ((unhide K1).call b2')
    have BN := hide ((unhide BN).call b2')
    have BG := hide (Mem.Blk.new u3 #[.string np, .int .i64 nk, .string nd, .int .i64 nt, .int .i64 nm, .int .i64 c] 52)
    clear hget K1 x9 n0 b2 b2' x7 q0 q1 q2 q3 q4 hb'
    have n0 := (unhide BN).cell 0
    have n1 := (unhide BN).cell 1
    have n2 := (unhide BN).cell 2
    have n3 := (unhide BN).cell 3
    have n4 := (unhide BN).cell 4
    have g0 := (unhide BG).cell 0
    have g1 := (unhide BG).cell 1
    have g2 := (unhide BG).cell 2
    have g3 := (unhide BG).cell 3
    have g4 := (unhide BG).cell 4
    have g5 := (unhide BG).cell 5
    simp only [kA0, kA1, kA2] at n0 n1 n2 n3 n4 g0 g1 g2 g3 g4 g5
    by_cases hk0 : kd = 0
    · subst hk0
      clear HKD
      go_wp2
      go_roundw
      case rel => exact ⟨k + 1, by omega, by go_num, KE⟩
      case measure => simp [intOf]; omega
    · obtain ⟨e1, e2, e3, e4⟩ := unhide HKD hk0
      subst e1 e2 e3 e4
      have z1 : (nk == 0) = false := by simpa using hk0
      have z2 : decide (nk = 0) = false := by simpa using hk0
      have z3 : (nk != 0) = true := by simpa using hk0
      clear HKD
      go_wp2
      go_roundw
      case rel => exact ⟨k + 1, by omega, by go_num, KE⟩
      case measure => simp [intOf]; omega
end fnBelow
end Go.Proofs.YtepmojmelcngeaaGreatDoor
