/- The walks of the specification's l03Cut and TreeCut. -/
import Derived.Test.YtepmojmelcngeaaGreatDoorG28
import Derived.Test.YtepmojmelcngeaaGreatDoorG05
import Derived.Test.YtepmojmelcngeaaGreatDoorG22
import Derived.Test.YtepmojmelcngeaaGreatDoorG12
namespace Go.Proofs.YtepmojmelcngeaaGreatDoor
open Go.RowKit
namespace WCutS
theorem infoN : (Tryz.prog.info? 36).map (fun i => (i.zero, i.size, i.bytes)) = some (some (.agg #[.string ⟨#[]⟩, .int .i64 0, .string ⟨#[]⟩, .int .i64 0, .int .i64 0]), 5, 56) := by kernel_rfl
structure At (w wr : World) (a : Option Addr) (cap : Nat) (L : List Pl.Nd) (p : ByteArray) (k : Nat) (v : Value) : Prop where
  bel : Below w.heap.size w wr
  one : Mem.Blk wr w.heap.size #[.slice a L.length cap] 31
  two : Mem.Blk wr (w.heap.size + 1) #[.slice none 0 0] 31
  out : Mem.Blk wr (w.heap.size + 1 + 1) #[v] 31
  own : Mem.ownN wr (w.heap.size + 3) v (Pl.offL p (L.take k))
set_option linter.unusedSimpArgs false in
set_option maxRecDepth 100000 in
set_option maxHeartbeats 2000000 in
theorem l03_any (a : Option Addr) (cap : Nat) (L : List Pl.Nd) (p : ByteArray) (w : World) (hl : L.length ≤ 1048576) (hv : Mem.isNodes w a L) (hp : p.size ≤ 1048576) :
    Calls Tryz.prog 127 #[.agg #[.slice a L.length cap], .string p] w fun e w' => ∃ v, e = .returned (.agg #[v]) ∧ Mem.ownN w' w.heap.size v (Pl.offL p L) ∧ Below w.heap.size w w' := by
  obtain ⟨i0, hi, hz0, hz1, hz2⟩ := info_parts infoN
  have HV := hide hv
  clear hv
  have H0 : At w (((w.alloc (.cells #[.slice a L.length cap] 31)).alloc (.cells #[.slice none 0 0] 31)).alloc (.cells #[.slice none 0 0] 31)) a cap L p 0 (.slice none 0 0) :=
    ⟨(((Below.refl _ _).alloc (Nat.le_refl _) _).alloc (by simp) _).alloc (by simp; omega) _, ((Mem.Blk.new _ _ _).alloc _).alloc _, (by have h := (Mem.Blk.new (w.alloc (.cells #[.slice a L.length cap] 31)) #[.slice none 0 0] 31).alloc (.cells #[.slice none 0 0] 31); rwa [show (w.alloc (.cells #[.slice a L.length cap] 31)).heap.size = w.heap.size + 1 by simp] at h), Mem.new_three _ _ _ _, by simpa [Pl.offL] using Mem.ownN_nil _ _⟩
  have HH := hide H0
  clear H0
  go_enter Tryz.func127, Tryz.ntmps127
  go_wp2
  go_loopw [6] (fun i wr => ∃ k : Nat, k ≤ L.length ∧ i = .int .i64 (k : Int) ∧ Hid (∃ v, At w wr a cap L p k v)) (fun i _ => L.length - (intOf i).toNat)
  case atStart => exact ⟨0, Nat.zero_le _, rfl, ⟨_, unhide HH⟩⟩
  case round =>
    obtain ⟨k, hk, rfl, HA⟩ := hrel
    obtain ⟨v, A⟩ := unhide HA
    obtain ⟨av, capv, hvs⟩ := Mem.own_shape A.own
    subst hvs
    have c1 := A.one.cell 0
    have c3 := A.out.cell 0
    have f3 := A.out.fr 0
    simp only [kA0, kA1] at c1 c3
    have KA := hide A
    clear HA A HH
    by_cases hlt : k < L.length
    · obtain ⟨n, hn⟩ : ∃ n, L[k]? = some n := ⟨_, List.getElem?_eq_getElem hlt⟩
      obtain ⟨b, o, rfl, hb, q0, q1, q2, q3, q4⟩ := (Mem.nodes_call (unhide HV) (unhide KA).bel) k n hn
      have y1 : (k : Int) < (L.length : Int) := by omega
      have y3 : (0 : Int) ≤ (k : Int) := by omega
      have hcu := hide (WPathS.under1_any n.path p wr hp)
      cases hun : Pl.under n.path p
      · rw [hun] at hcu
        have HPL := hide (Pl.offN_in hn hun)
        have HLEN := hide (Pl.offN_len L p k)
        have OWD : Hid (Mem.ownN wr.drew (w.heap.size + 3) (.slice av (Pl.offL p (L.take k)).length capv) (Pl.offL p (L.take k))) := (unhide KA).own
        have BLD : Hid (Mem.Blk wr.drew (w.heap.size + 1 + 1) #[.slice av (Pl.offL p (L.take k)).length capv] 31) := (unhide KA).out
        have BL2 : Hid (Mem.Blk wr.drew (w.heap.size + 1) #[.slice none 0 0] 31) := (unhide KA).two
        have HLT := hide (Mem.ownN_lt (unhide KA).own)
        have HSZ : Hid (w.heap.size + 1 + 1 < wr.drew.heap.size) := (unhide KA).out.lt
        have HV2 : Hid (∀ W', Below w.heap.size w W' → W'.cell? ⟨b, o + k * 5, none⟩ = some (.string n.path) ∧ W'.cell? ⟨b, o + k * 5 + 1, none⟩ = some (.int .i64 n.kind) ∧ W'.cell? ⟨b, o + k * 5 + 2, none⟩ = some (.string n.data) ∧ W'.cell? ⟨b, o + k * 5 + 3, none⟩ = some (.int .i64 n.time) ∧ W'.cell? ⟨b, o + k * 5 + 4, none⟩ = some (.int .i64 n.mark)) := fun W' hb' => by
          obtain ⟨b', o', e, _, z0, z1, z2, z3, z4⟩ := (Mem.nodes_call (unhide HV) hb') k n hn
          cases e
          exact ⟨z0, z1, z2, z3, z4⟩
        have B0 : Below w.heap.size w wr.drew := by have h := (unhide KA).bel; exact ⟨h.os, h.tape, h.output, h.size, h.block⟩
        have ONE : Mem.Blk wr.drew w.heap.size #[.slice (some ⟨b, o, none⟩) L.length cap] 31 := (unhide KA).one
        clear hn hun KA HV
        obtain ⟨q, k0, d, t, m⟩ := n
        simp only at q0 q1 q2 q3 q4 hcu HPL HV2
        go_wp2_with fail
        refine (unhide hcu).mono ?_
        rintro e wY ⟨rfl, rfl⟩
        clear hcu
        go_wp2_with fail
        have MK : Hid (∀ W', Below w.heap.size w W' → Mem.Blk W' w.heap.size #[.slice (some ⟨b, o, none⟩) L.length cap] 31 → (Below w.heap.size w W' ∧ Mem.Blk W' w.heap.size #[.slice (some ⟨b, o, none⟩) L.length cap] 31 ∧ W'.cell? ⟨w.heap.size, 0, none⟩ = some (.slice (some ⟨b, o, none⟩) L.length cap) ∧ W'.cell? ⟨b, o + k * 5, none⟩ = some (.string q) ∧ W'.cell? ⟨b, o + k * 5 + 1, none⟩ = some (.int .i64 k0) ∧ W'.cell? ⟨b, o + k * 5 + 2, none⟩ = some (.string d) ∧ W'.cell? ⟨b, o + k * 5 + 3, none⟩ = some (.int .i64 t) ∧ W'.cell? ⟨b, o + k * 5 + 4, none⟩ = some (.int .i64 m))) := fun W' h1 h2 => ⟨h1, h2, h2.cell 0, unhide HV2 W' h1⟩
        clear q0 q1 q2 q3 q4 c1 c3 f3
        refine wp_region_held_drew (S := fun W' => Below w.heap.size w W' ∧ Mem.Blk W' w.heap.size #[.slice (some ⟨b, o, none⟩) L.length cap] 31 ∧ W'.cell? ⟨w.heap.size, 0, none⟩ = some (.slice (some ⟨b, o, none⟩) L.length cap) ∧ W'.cell? ⟨b, o + k * 5, none⟩ = some (.string q) ∧ W'.cell? ⟨b, o + k * 5 + 1, none⟩ = some (.int .i64 k0) ∧ W'.cell? ⟨b, o + k * 5 + 2, none⟩ = some (.string d) ∧ W'.cell? ⟨b, o + k * 5 + 3, none⟩ = some (.int .i64 t) ∧ W'.cell? ⟨b, o + k * 5 + 4, none⟩ = some (.int .i64 m)) (by kernel_rfl) ?_ (fun hHeld => ?_)
        · exact unhide MK _ B0 ONE
        clear B0 ONE
        generalize wY.drew = WD at hHeld OWD BLD BL2 HSZ ⊢
        have cD := (unhide BLD).cell 0
        simp only [kA0, kA1] at cD
        refine wpAnyH_take (i := 0) (v := ?_) rfl (by kernel_rfl) (by kernel_rfl) (by kernel_rfl) (fun _ _ _ h => h) (Or.inl ⟨by rfl, ?_⟩) (by assumption) ?_
        rotate_left
        · (intro w hSw; (try dsimp only at hSw); go_simp; (try with_reducible rfl))
        try simp only [Act.put, kB0, kB1, kB2, kB3, kB4, kB5]
        refine wpAnyH_take (i := 2) (v := ?_) rfl (by kernel_rfl) (by kernel_rfl) (by kernel_rfl) (fun _ _ _ h => h) (Or.inl ⟨by rfl, ?_⟩) (by assumption) ?_
        rotate_left
        · (intro w hSw; (try dsimp only at hSw); go_simp; (try with_reducible rfl))
        try simp only [Act.put, kB0, kB1, kB2, kB3, kB4, kB5]
        refine wpAnyH_take (i := 3) (v := ?_) rfl (by kernel_rfl) (by kernel_rfl) (by kernel_rfl) (fun _ _ _ h => h) (Or.inl ⟨by rfl, ?_⟩) (by assumption) ?_
        rotate_left
        · (intro w hSw; (try dsimp only at hSw); go_simp; (try with_reducible rfl))
        try simp only [Act.put, kB0, kB1, kB2, kB3, kB4, kB5]
        refine wpAnyH_take (i := 4) (v := ?_) rfl (by kernel_rfl) (by kernel_rfl) (by kernel_rfl) (fun _ _ _ h => h) (Or.inl ⟨by rfl, ?_⟩) (by assumption) ?_
        rotate_left
        · (intro w hSw; (try dsimp only at hSw); go_simp; (try with_reducible rfl))
        try simp only [Act.put, kB0, kB1, kB2, kB3, kB4, kB5]
        refine wpAnyH_take (i := 5) (v := ?_) rfl (by kernel_rfl) (by kernel_rfl) (by kernel_rfl) (fun _ _ _ h => h) (Or.inl ⟨by rfl, ?_⟩) (by assumption) ?_
        rotate_left
        · (intro w hSw; (try dsimp only at hSw); go_simp; (try with_reducible rfl))
        try simp only [Act.put, kB0, kB1, kB2, kB3, kB4, kB5]
        refine wpAnyH_take (i := 6) (v := ?_) rfl (by kernel_rfl) (by kernel_rfl) (by kernel_rfl) (fun _ _ _ h => h) (Or.inl ⟨by rfl, ?_⟩) (by assumption) ?_
        rotate_left
        · (intro w hSw; (try dsimp only at hSw); go_simp; (try with_reducible rfl))
        try simp only [Act.put, kB0, kB1, kB2, kB3, kB4, kB5]
        refine wpAnyH_ready (rs := [1, 7]) (by kernel_rfl) (by simp) ?_
        refine AllReadyH.cons rfl (fun K hK => ?_) (AllReadyH.cons rfl (fun K hK => ?_) AllReadyH.nil)
        · go_simp
          refine hK.out _ _ ?_ (fun hHeld => ?_)
          · exact unhide MK _ hHeld.1 hHeld.2.1
          clear hK K
          try simp only [Act.put, kB0, kB1, kB2, kB3, kB4, kB5]
          refine wpAnyH_ready (rs := [7]) (by kernel_rfl) (by simp) ?_
          refine AllReadyH.cons rfl (fun K hK => ?_) AllReadyH.nil
          go_simp
          refine hK.out _ _ ?_ (fun hHeld => ?_)
          · exact unhide MK _ (hHeld.1.alloc hHeld.1.size _) (hHeld.2.1.alloc _)
          clear hK K
          try simp only [Act.put, kB0, kB1, kB2, kB3, kB4, kB5]
          refine wpAnyH_ready (rs := [8]) (by kernel_rfl) (by simp) ?_
          refine AllReadyH.cons rfl (fun K hK => ?_) AllReadyH.nil
          refine Mem.step_append_own rfl _ _ 29 rfl (w.heap.size + 3) 36 i0 _ 5 56 Tryz.underlying29 hi hz0 hz1 hz2 rfl (by decide) _ _ _ rfl (Mem.ownN_alloc (unhide OWD) _) ⟨WD.heap.size, 0, none⟩ 1 1 [.string q, .int .i64 k0, .string d, .int .i64 t, .int .i64 m] rfl rfl (Mem.cs_new WD ⟨q, k0, d, t, m⟩ _) (Mem.cs_one ⟨q, k0, d, t, m⟩) (by have := unhide HLEN; unfold maxLen; omega) (by have := unhide HLEN; omega) (by have := unhide HSZ; simp; omega) ?_
          intro v' wZ hownZ hgrow
          obtain ⟨a', cap', hv'⟩ := Mem.own_shape hownZ
          subst hv'
          have blkZ := ((unhide BLD).alloc (.cells #[.string q, .int .i64 k0, .string d, .int .i64 t, .int .i64 m] 36)).grown hgrow (fun e => by have := (unhide HLT _ e.symm).1; omega)
          have H2Z := hide ((((unhide BL2).alloc (.cells #[.string q, .int .i64 k0, .string d, .int .i64 t, .int .i64 m] 36)).grown hgrow (fun e => by have := (unhide HLT _ e.symm).1; omega)))
          refine hK.out _ _ ?_ (fun hHeld => ?_)
          · exact unhide MK _ (hHeld.1.grown hgrow (by have := hHeld.1.size; omega) (fun q hq => by have := (unhide HLT q hq).1; omega)) (hHeld.2.1.grown hgrow (fun e => by have := (unhide HLT _ e.symm).1; omega))
          clear hK K
          try simp only [Act.put, kB0, kB1, kB2, kB3, kB4, kB5]
          have cZ := blkZ.cell 0
          have fZ := blkZ.fr 0
          simp only [kA0, kA1] at cZ
          have BLZ := hide blkZ
          have OWZ := hide hownZ
          clear blkZ hownZ
          refine wpAnyH_take (i := 9) (v := ?_) rfl (by kernel_rfl) (by kernel_rfl) (by kernel_rfl) (fun _ _ _ h => h) (Or.inl ⟨by rfl, ?_⟩) (by assumption) ?_
          rotate_left
          · (intro w hSw; (try dsimp only at hSw); go_simp; (try with_reducible rfl))
          try simp only [Act.put, kB0, kB1, kB2, kB3, kB4, kB5]
          refine wpAnyH_ready (rs := [10]) (by kernel_rfl) (by simp) ?_
          refine AllReadyH.cons rfl (fun K hK => ?_) AllReadyH.nil
          go_simp
          refine hK.out _ _ ?_ (fun hHeld => ?_)
          · exact unhide MK _ (hHeld.1.setCell (by show w.heap.size ≤ w.heap.size + 1 + 1; omega) _) (hHeld.2.1.far _ _ (by show w.heap.size ≠ w.heap.size + 1 + 1; omega))
          clear hK K
          try simp only [Act.put, kB0, kB1, kB2, kB3, kB4, kB5]
          refine wpAnyH_done (by kernel_rfl) ?_ _
          have FIN : Hid (At w (wZ.setCell ⟨w.heap.size + 1 + 1, 0, none⟩ (.slice a' ((Pl.offL p (L.take k)).length + 1) cap')) (some ⟨b, o, none⟩) cap L p (k + 1) (.slice a' ((Pl.offL p (L.take k)).length + 1) cap')) :=
            ⟨hHeld.1, hHeld.2.1, (unhide H2Z).far _ _ (by show w.heap.size + 1 ≠ w.heap.size + 1 + 1; omega), (unhide BLZ).put 0 _, by
              rw [unhide HPL]
              exact Mem.ownN_set (Mem.ownN_snoc (L := Pl.offL p (L.take k)) (n := ⟨q, k0, d, t, m⟩) (unhide OWZ)) _ _ (by show w.heap.size + 1 + 1 < w.heap.size + 3; omega)⟩
          clear hHeld OWZ BLZ hgrow cZ fZ
          go_wp2
          go_roundw
          case rel => exact ⟨k + 1, by omega, by go_num, ⟨_, unhide FIN⟩⟩
          case measure => simp [intOf]; omega
        · go_simp
          refine hK.out _ _ ?_ (fun hHeld => ?_)
          · exact unhide MK _ (hHeld.1.alloc hHeld.1.size _) (hHeld.2.1.alloc _)
          clear hK K
          try simp only [Act.put, kB0, kB1, kB2, kB3, kB4, kB5]
          have cD2 := ((unhide BLD).alloc (.cells #[.string q, .int .i64 k0, .string d, .int .i64 t, .int .i64 m] 36)).cell 0
          simp only [kA0, kA1] at cD2
          refine wpAnyH_ready (rs := [1]) (by kernel_rfl) (by simp) ?_
          refine AllReadyH.cons rfl (fun K hK => ?_) AllReadyH.nil
          go_simp
          refine hK.out _ _ ?_ (fun hHeld => ?_)
          · exact unhide MK _ hHeld.1 hHeld.2.1
          clear hK K
          try simp only [Act.put, kB0, kB1, kB2, kB3, kB4, kB5]
          refine wpAnyH_ready (rs := [8]) (by kernel_rfl) (by simp) ?_
          refine AllReadyH.cons rfl (fun K hK => ?_) AllReadyH.nil
          refine Mem.step_append_own rfl _ _ 29 rfl (w.heap.size + 3) 36 i0 _ 5 56 Tryz.underlying29 hi hz0 hz1 hz2 rfl (by decide) _ _ _ rfl (Mem.ownN_alloc (unhide OWD) _) ⟨WD.heap.size, 0, none⟩ 1 1 [.string q, .int .i64 k0, .string d, .int .i64 t, .int .i64 m] rfl rfl (Mem.cs_new WD ⟨q, k0, d, t, m⟩ _) (Mem.cs_one ⟨q, k0, d, t, m⟩) (by have := unhide HLEN; unfold maxLen; omega) (by have := unhide HLEN; omega) (by have := unhide HSZ; simp; omega) ?_
          intro v' wZ hownZ hgrow
          obtain ⟨a', cap', hv'⟩ := Mem.own_shape hownZ
          subst hv'
          have blkZ := ((unhide BLD).alloc (.cells #[.string q, .int .i64 k0, .string d, .int .i64 t, .int .i64 m] 36)).grown hgrow (fun e => by have := (unhide HLT _ e.symm).1; omega)
          have H2Z := hide ((((unhide BL2).alloc (.cells #[.string q, .int .i64 k0, .string d, .int .i64 t, .int .i64 m] 36)).grown hgrow (fun e => by have := (unhide HLT _ e.symm).1; omega)))
          refine hK.out _ _ ?_ (fun hHeld => ?_)
          · exact unhide MK _ (hHeld.1.grown hgrow (by have := hHeld.1.size; omega) (fun q hq => by have := (unhide HLT q hq).1; omega)) (hHeld.2.1.grown hgrow (fun e => by have := (unhide HLT _ e.symm).1; omega))
          clear hK K
          try simp only [Act.put, kB0, kB1, kB2, kB3, kB4, kB5]
          have cZ := blkZ.cell 0
          have fZ := blkZ.fr 0
          simp only [kA0, kA1] at cZ
          have BLZ := hide blkZ
          have OWZ := hide hownZ
          clear blkZ hownZ
          refine wpAnyH_take (i := 9) (v := ?_) rfl (by kernel_rfl) (by kernel_rfl) (by kernel_rfl) (fun _ _ _ h => h) (Or.inl ⟨by rfl, ?_⟩) (by assumption) ?_
          rotate_left
          · (intro w hSw; (try dsimp only at hSw); go_simp; (try with_reducible rfl))
          try simp only [Act.put, kB0, kB1, kB2, kB3, kB4, kB5]
          refine wpAnyH_ready (rs := [10]) (by kernel_rfl) (by simp) ?_
          refine AllReadyH.cons rfl (fun K hK => ?_) AllReadyH.nil
          go_simp
          refine hK.out _ _ ?_ (fun hHeld => ?_)
          · exact unhide MK _ (hHeld.1.setCell (by show w.heap.size ≤ w.heap.size + 1 + 1; omega) _) (hHeld.2.1.far _ _ (by show w.heap.size ≠ w.heap.size + 1 + 1; omega))
          clear hK K
          try simp only [Act.put, kB0, kB1, kB2, kB3, kB4, kB5]
          refine wpAnyH_done (by kernel_rfl) ?_ _
          have FIN : Hid (At w (wZ.setCell ⟨w.heap.size + 1 + 1, 0, none⟩ (.slice a' ((Pl.offL p (L.take k)).length + 1) cap')) (some ⟨b, o, none⟩) cap L p (k + 1) (.slice a' ((Pl.offL p (L.take k)).length + 1) cap')) :=
            ⟨hHeld.1, hHeld.2.1, (unhide H2Z).far _ _ (by show w.heap.size + 1 ≠ w.heap.size + 1 + 1; omega), (unhide BLZ).put 0 _, by
              rw [unhide HPL]
              exact Mem.ownN_set (Mem.ownN_snoc (L := Pl.offL p (L.take k)) (n := ⟨q, k0, d, t, m⟩) (unhide OWZ)) _ _ (by show w.heap.size + 1 + 1 < w.heap.size + 3; omega)⟩
          clear hHeld OWZ BLZ hgrow cZ fZ
          go_wp2
          go_roundw
          case rel => exact ⟨k + 1, by omega, by go_num, ⟨_, unhide FIN⟩⟩
          case measure => simp [intOf]; omega
      · rw [hun] at hcu
        have H2 : Hid (At w wr (some ⟨b, o, none⟩) cap L p (k + 1) (.slice av (Pl.offL p (L.take k)).length capv)) :=
          ⟨(unhide KA).bel, (unhide KA).one, (unhide KA).two, (unhide KA).out, by have h := (unhide KA).own; rw [Pl.offN_out hn hun]; exact h⟩
        clear KA hun hn
        go_wp2_with fail
        refine (unhide hcu).mono ?_
        rintro e wY ⟨rfl, rfl⟩
        clear hcu
        go_wp2
        go_roundw
        case rel => exact ⟨k + 1, by omega, by go_num, ⟨_, unhide H2⟩⟩
        case measure => simp [intOf]; omega
    · have y1 : ¬ (k : Int) < (L.length : Int) := by omega
      obtain rfl : k = L.length := by omega
      have c2 := (unhide KA).two.cell 0
      have f2 := (unhide KA).two.fr 0
      simp only [kA0, kA1] at c2
      go_wp2
      refine bodyPost_ret (v := .agg #[.slice av (Pl.offL p (L.take L.length)).length capv]) (by simp [results, Tryz.results127, go_sem, c2]) rfl ⟨_, rfl, ?_, ?_⟩
      · have h := (unhide KA).own
        rw [show Pl.offL p (L.take L.length) = Pl.offL p L by rw [List.take_length]] at h ⊢
        exact Mem.ownN_mono (Mem.ownN_set h _ _ (by show w.heap.size + 1 < w.heap.size + 3; omega)) (by omega)
      · exact (unhide KA).bel.setCell (by show w.heap.size ≤ w.heap.size + 1; omega) _
end WCutS
end Go.Proofs.YtepmojmelcngeaaGreatDoor
