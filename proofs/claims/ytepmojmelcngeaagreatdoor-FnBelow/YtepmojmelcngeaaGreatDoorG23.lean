/- Several texts of one claim in one file: WPutC, WPutD, WBase1S, WDec. -/
import Derived.Test.YtepmojmelcngeaaGreatDoorPlainAddC
import Derived.Test.YtepmojmelcngeaaGreatDoorG11
import Derived.Test.YtepmojmelcngeaaGreatDoorWPutH
import Derived.Test.YtepmojmelcngeaaGreatDoorG09
import Derived.Test.YtepmojmelcngeaaGreatDoorG04
import Derived.Test.YtepmojmelcngeaaGreatDoorWParS
import Derived.Test.YtepmojmelcngeaaGreatDoorG00
import Derived.Test.YtepmojmelcngeaaGreatDoorG01
import Derived.Test.YtepmojmelcngeaaGreatDoorG03
import Derived.Test.YtepmojmelcngeaaGreatDoorProg
import Derived.WalkSpells
import Derived.RegionTactic
/- The walk of the specification's l03Add over any slice of nodes. -/
namespace Go.Proofs.YtepmojmelcngeaaGreatDoor
open Go.RowKit
namespace WPutC
structure At (w W : World) (a : Option Addr) (cap : Nat) (L : List Pl.Nd) (n : Pl.Nd) : Prop where
  bel : Below w.heap.size w W
  one : Mem.Blk W w.heap.size #[.slice a L.length cap] 31
  two : Mem.Blk W (w.heap.size + 1) n.cs.toArray 36
  three : Mem.Blk W (w.heap.size + 1 + 1) #[.slice none 0 0, .int .i64 0] 33
theorem At.call {w W W' : World} {a : Option Addr} {cap : Nat} {L : List Pl.Nd} {n : Pl.Nd} (h : At w W a cap L n) (b : Below W.heap.size W W') : At w W' a cap L n :=
  ⟨h.bel.trans (b.mono h.bel.size), h.one.call b, h.two.call b, h.three.call b⟩
set_option linter.unusedSimpArgs false in
set_option maxRecDepth 100000 in
set_option maxHeartbeats 1000000 in
theorem add_any (a : Option Addr) (cap : Nat) (L : List Pl.Nd) (n : Pl.Nd) (w : World) (hl : L.length ≤ 1000) (hA : WPutG.okA w a cap L) (hv : Mem.isNodes w a L) (hok : ∀ m ∈ L, m.path.size ≤ 8000) (hn8 : n.path.size ≤ 8000) :
    Calls Tryz.prog 40 #[.agg #[.slice a L.length cap], n.val] w fun e w' => ∃ v, e = .returned (.agg #[v, .int .i64 (Pl.addC L n)]) ∧ Mem.ownN w' w.heap.size v (Pl.addO L n) ∧ Below w.heap.size w w' := by
  have HPA := hide (fun W => WPathS.parent_any n.path W (by unfold maxLen; omega))
  have HAU := hide (fun W (b : Below w.heap.size w W) => WTreeS.at_any a cap L (Pl.parent n.path) W (by omega) (Mem.nodes_call hv b))
  have HDU := hide (fun W (b : Below w.heap.size w W) => WTreeS.dir_any a cap L (Pl.parent n.path) W (by omega) (Mem.nodes_call hv b))
  have HOV := hide (fun W (b : Below w.heap.size w W) => WPutS.over_any a cap L n.path W (by omega) (Mem.nodes_call hv b) (by omega))
  have HAN := hide (fun W (b : Below w.heap.size w W) => WTreeS.at_any a cap L n.path W (by omega) (Mem.nodes_call hv b))
  have HPU := hide (fun W (b : Below w.heap.size w W) => WPutG.put_gen a cap L n W hl (WPutG.okA_call hA b.size) (Mem.nodes_call hv b) hok hn8)
  have E6 : Hid ((Pl.parent n.path).size ≠ 0 ∧ L.find? (fun m => decide (m.path = Pl.parent n.path)) = none → Pl.addC L n = 6) := fun h => by rw [Pl.addC, if_pos h]
  have E12 : Hid (¬ ((Pl.parent n.path).size ≠ 0 ∧ L.find? (fun m => decide (m.path = Pl.parent n.path)) = none) → Pl.dirS L (Pl.parent n.path) = false → Pl.addC L n = 12) := fun h h2 => by rw [Pl.addC, if_neg h, if_pos h2]
  have E11 : Hid (¬ ((Pl.parent n.path).size ≠ 0 ∧ L.find? (fun m => decide (m.path = Pl.parent n.path)) = none) → Pl.dirS L (Pl.parent n.path) = true → n.kind ≠ 1 ∧ Pl.overL L n.path = true → Pl.addC L n = 11) := fun h h2 h3 => by rw [Pl.addC, if_neg h, if_neg (by rw [h2]; simp), if_pos h3]
  have E9 : Hid (¬ ((Pl.parent n.path).size ≠ 0 ∧ L.find? (fun m => decide (m.path = Pl.parent n.path)) = none) → Pl.dirS L (Pl.parent n.path) = true → ¬ (n.kind ≠ 1 ∧ Pl.overL L n.path = true) → (L.find? (fun m => decide (m.path = n.path)) = none ∧ 40 ≤ L.length) → Pl.addC L n = 9) := fun h h2 h3 h4 => by rw [Pl.addC, if_neg h, if_neg (by rw [h2]; simp), if_neg h3, if_pos h4]
  have E0 : Hid (¬ ((Pl.parent n.path).size ≠ 0 ∧ L.find? (fun m => decide (m.path = Pl.parent n.path)) = none) → Pl.dirS L (Pl.parent n.path) = true → ¬ (n.kind ≠ 1 ∧ Pl.overL L n.path = true) → ¬ (L.find? (fun m => decide (m.path = n.path)) = none ∧ 40 ≤ L.length) → Pl.addC L n = 0) := fun h h2 h3 h4 => by rw [Pl.addC, if_neg h, if_neg (by rw [h2]; simp), if_neg h3, if_neg h4]
  have HO : Hid (Pl.addO L n = if Pl.addC L n = 0 then Pl.putL L n else []) := rfl
  obtain ⟨C, HC⟩ : ∃ C, Hid (C = Pl.addC L n) := ⟨_, hide rfl⟩
  rw [← unhide HC] at HO ⊢
  generalize Pl.addO L n = O at HO ⊢
  obtain ⟨np, nk, nd, nt, nm⟩ := n
  simp only [Pl.Nd.val] at HPA HAU HDU HOV HAN HPU hn8 HC HO E6 E12 E11 E9 E0 ⊢
  have H0 : At w (((w.alloc (.cells #[.slice a L.length cap] 31)).alloc (.cells #[.string np, .int .i64 nk, .string nd, .int .i64 nt, .int .i64 nm] 36)).alloc (.cells #[.slice none 0 0, .int .i64 0] 33)) a cap L ⟨np, nk, nd, nt, nm⟩ :=
    ⟨(((Below.refl _ _).alloc (Nat.le_refl _) _).alloc (by simp) _).alloc (by simp; omega) _, ((Mem.Blk.new _ _ _).alloc _).alloc _, (by have h := (Mem.Blk.new (w.alloc (.cells #[.slice a L.length cap] 31)) #[.string np, .int .i64 nk, .string nd, .int .i64 nt, .int .i64 nm] 36).alloc (.cells #[.slice none 0 0, .int .i64 0] 33); rwa [show (w.alloc (.cells #[.slice a L.length cap] 31)).heap.size = w.heap.size + 1 by simp] at h), Mem.new_three _ _ _ _⟩
  have HA := hide H0
  clear H0 hv hok hn8
  go_enter Tryz.func40, Tryz.ntmps40
  go_wp2_with fail
  refine (unhide HPA _).mono ?_
  rintro e wP ⟨rfl, hwP⟩
  obtain rfl := hwP.symm
  clear HPA
  generalize hUP : Pl.parent np = UP at HAU HDU E6 E12 E11 E9 E0
  generalize ((w.alloc (.cells #[.slice a L.length cap] 31)).alloc (.cells #[.string np, .int .i64 nk, .string nd, .int .i64 nt, .int .i64 nm] 36)).alloc (.cells #[.slice none 0 0, .int .i64 0] 33) = W1 at HA ⊢
  have c1 := (unhide HA).one.cell 0
  have p0 := (unhide HA).two.cell 0
  have p1 := (unhide HA).two.cell 1
  have p2 := (unhide HA).two.cell 2
  have p3 := (unhide HA).two.cell 3
  have p4 := (unhide HA).two.cell 4
  simp only [Pl.Nd.cs, kA0, kA1, kA2] at c1 p0 p1 p2 p3 p4
  by_cases h0 : UP.size = 0
  · have t0 : UP.toList.isEmpty = true := by rw [Pl.empty_list]; simpa [Pl.by_nil] using h0
    have Q1 : Hid (¬ (UP.size ≠ 0 ∧ L.find? (fun m => decide (m.path = UP)) = none)) := fun h => h.1 h0
    clear h0 HAU hUP
    go_wp2_with fail
    refine (unhide HDU _ (unhide HA).bel).mono ?_
    rintro e wV ⟨rfl, bV⟩
    have HA3 := hide ((unhide HA).call bV)
    clear HA bV HDU
    clear c1 p0 p1 p2 p3 p4
    cases hdd : Pl.dirS L UP
    · have EC := hide (show C = 12 by rw [unhide HC]; exact unhide E12 (unhide Q1) hdd)
      have EN := hide (show O = [] by rw [unhide HO, if_neg (by rw [unhide EC]; decide)])
      clear HC HO
      clear hdd E6 E12 E11 E9 E0 HOV HAN HPU Q1
      go_wp2_with fail
      refine (WIll3.ill_any 12 _).mono ?_
      rintro e wI ⟨rfl, bI⟩
      have AI := hide ((unhide HA3).call bI)
      clear bI HA3
      have d0 := (unhide AI).three.cell 0
      have d1 := (unhide AI).three.cell 1
      have f0 := (unhide AI).three.fr 0
      have f1 := (unhide AI).three.fr 1
      simp only [kA0, kA1, kA2] at d0 d1
      go_wp2
      refine bodyPost_ret (v := .agg #[.slice none 0 0, .int .i64 12]) (by simp [results, Tryz.results40, go_sem, d0, d1]) rfl ⟨.slice none 0 0, by rw [unhide EC], by rw [unhide EN]; exact Mem.ownN_nil _ _, ?_⟩
      exact ((unhide AI).bel.setCell (by show w.heap.size ≤ w.heap.size + 1 + 1; omega) _).setCell (by show w.heap.size ≤ w.heap.size + 1 + 1; omega) _
    have c1 := (unhide HA3).one.cell 0
    have p0 := (unhide HA3).two.cell 0
    have p1 := (unhide HA3).two.cell 1
    have p2 := (unhide HA3).two.cell 2
    have p3 := (unhide HA3).two.cell 3
    have p4 := (unhide HA3).two.cell 4
    simp only [Pl.Nd.cs, kA0, kA1, kA2] at c1 p0 p1 p2 p3 p4
    by_cases hk1 : nk = 1
    · subst hk1
      have Q2 : Hid (¬ ((1 : Int) ≠ 1 ∧ Pl.overL L np = true)) := fun h => h.1 rfl
      have Q0 : Hid (Pl.dirS L UP = true) := hdd
      clear hdd HOV
      have HA4 := HA3
      clear HA3
      go_wp2_with fail
      refine (unhide HAN _ (unhide HA4).bel).mono ?_
      rintro e wN ⟨⟨r, rfl, hr⟩, bN⟩
      have HA5 := hide ((unhide HA4).call bN)
      clear HA4 bN HAN
      clear c1 p0 p1 p2 p3 p4
      rcases hr.out with ⟨kn, nn, rfl, hkn, hfn⟩ | ⟨rfl, hfn⟩
      · have tn : ¬ ((kn : Int) < 0) := by omega
        have EC := hide (show C = 0 by rw [unhide HC]; exact unhide E0 (unhide Q1) (unhide Q0) (unhide Q2) (fun h => by rw [hfn] at h; cases h.1))
        clear hr hkn hfn E6 E12 E11 E9 E0 Q0 Q1 Q2
        have EN := hide (show O = Pl.putL L ⟨np, 1, nd, nt, nm⟩ by rw [unhide HO, if_pos (unhide EC)])
        clear HC HO
        have c1 := (unhide HA5).one.cell 0
        have p0 := (unhide HA5).two.cell 0
        have p1 := (unhide HA5).two.cell 1
        have p2 := (unhide HA5).two.cell 2
        have p3 := (unhide HA5).two.cell 3
        have p4 := (unhide HA5).two.cell 4
        simp only [Pl.Nd.cs, kA0, kA1, kA2] at c1 p0 p1 p2 p3 p4
        go_wp2_with fail
        refine (unhide HPU _ (unhide HA5).bel).mono ?_
        rintro e wT ⟨v, rfl, own, bT⟩
        obtain ⟨a', cap', hvv⟩ := Mem.own_shape own
        subst hvv
        have hs5 := (unhide HA5).three.lt
        have AI := hide ((unhide HA5).call bT)
        have OW := hide own
        clear own bT HA5 HPU c1 p0 p1 p2 p3 p4
        have d0 := (unhide AI).three.cell 0
        have d1 := (unhide AI).three.cell 1
        have f0 := (unhide AI).three.fr 0
        have f1 := (unhide AI).three.fr 1
        simp only [kA0, kA1, kA2] at d0 d1
        go_wp2
        refine bodyPost_ret (v := .agg #[.slice a' (Pl.putL L ⟨np, 1, nd, nt, nm⟩).length cap', .int .i64 0]) (by simp [results, Tryz.results40, go_sem, d0, d1]) rfl ⟨.slice a' (Pl.putL L ⟨np, 1, nd, nt, nm⟩).length cap', by rw [unhide EC], ?_, ?_⟩
        · rw [unhide EN]
          exact Mem.ownN_mono (Mem.ownN_set (Mem.ownN_set (unhide OW) _ _ (by show w.heap.size + 1 + 1 < _; omega)) _ _ (by show w.heap.size + 1 + 1 < _; omega)) (by omega)
        · exact ((unhide AI).bel.setCell (by show w.heap.size ≤ w.heap.size + 1 + 1; omega) _).setCell (by show w.heap.size ≤ w.heap.size + 1 + 1; omega) _
      · by_cases h40 : 40 ≤ L.length
        · have t40 : (40 : Int) ≤ (L.length : Int) := by omega
          have EC := hide (show C = 9 by rw [unhide HC]; exact unhide E9 (unhide Q1) (unhide Q0) (unhide Q2) ⟨hfn, h40⟩)
          have EN := hide (show O = [] by rw [unhide HO, if_neg (by rw [unhide EC]; decide)])
          clear HC HO
          clear hr hfn E6 E12 E11 E9 E0 HPU Q0 Q1 Q2
          have c1 := (unhide HA5).one.cell 0
          have p0 := (unhide HA5).two.cell 0
          have p1 := (unhide HA5).two.cell 1
          have p2 := (unhide HA5).two.cell 2
          have p3 := (unhide HA5).two.cell 3
          have p4 := (unhide HA5).two.cell 4
          simp only [Pl.Nd.cs, kA0, kA1, kA2] at c1 p0 p1 p2 p3 p4
          go_wp2_with fail
          refine (WIll3.ill_any 9 _).mono ?_
          rintro e wI ⟨rfl, bI⟩
          have AI := hide ((unhide HA5).call bI)
          clear bI HA5
          have d0 := (unhide AI).three.cell 0
          have d1 := (unhide AI).three.cell 1
          have f0 := (unhide AI).three.fr 0
          have f1 := (unhide AI).three.fr 1
          simp only [kA0, kA1, kA2] at d0 d1
          go_wp2
          refine bodyPost_ret (v := .agg #[.slice none 0 0, .int .i64 9]) (by simp [results, Tryz.results40, go_sem, d0, d1]) rfl ⟨.slice none 0 0, by rw [unhide EC], by rw [unhide EN]; exact Mem.ownN_nil _ _, ?_⟩
          exact ((unhide AI).bel.setCell (by show w.heap.size ≤ w.heap.size + 1 + 1; omega) _).setCell (by show w.heap.size ≤ w.heap.size + 1 + 1; omega) _
        · have t40 : ¬ (40 : Int) ≤ (L.length : Int) := by omega
          have EC := hide (show C = 0 by rw [unhide HC]; exact unhide E0 (unhide Q1) (unhide Q0) (unhide Q2) (fun h => h40 h.2))
          clear hr hfn E6 E12 E11 E9 E0 Q0 Q1 Q2 h40
          have EN := hide (show O = Pl.putL L ⟨np, 1, nd, nt, nm⟩ by rw [unhide HO, if_pos (unhide EC)])
          clear HC HO
          have c1 := (unhide HA5).one.cell 0
          have p0 := (unhide HA5).two.cell 0
          have p1 := (unhide HA5).two.cell 1
          have p2 := (unhide HA5).two.cell 2
          have p3 := (unhide HA5).two.cell 3
          have p4 := (unhide HA5).two.cell 4
          simp only [Pl.Nd.cs, kA0, kA1, kA2] at c1 p0 p1 p2 p3 p4
          go_wp2_with fail
          refine (unhide HPU _ (unhide HA5).bel).mono ?_
          rintro e wT ⟨v, rfl, own, bT⟩
          obtain ⟨a', cap', hvv⟩ := Mem.own_shape own
          subst hvv
          have hs5 := (unhide HA5).three.lt
          have AI := hide ((unhide HA5).call bT)
          have OW := hide own
          clear own bT HA5 HPU c1 p0 p1 p2 p3 p4
          have d0 := (unhide AI).three.cell 0
          have d1 := (unhide AI).three.cell 1
          have f0 := (unhide AI).three.fr 0
          have f1 := (unhide AI).three.fr 1
          simp only [kA0, kA1, kA2] at d0 d1
          go_wp2
          refine bodyPost_ret (v := .agg #[.slice a' (Pl.putL L ⟨np, 1, nd, nt, nm⟩).length cap', .int .i64 0]) (by simp [results, Tryz.results40, go_sem, d0, d1]) rfl ⟨.slice a' (Pl.putL L ⟨np, 1, nd, nt, nm⟩).length cap', by rw [unhide EC], ?_, ?_⟩
          · rw [unhide EN]
            exact Mem.ownN_mono (Mem.ownN_set (Mem.ownN_set (unhide OW) _ _ (by show w.heap.size + 1 + 1 < _; omega)) _ _ (by show w.heap.size + 1 + 1 < _; omega)) (by omega)
          · exact ((unhide AI).bel.setCell (by show w.heap.size ≤ w.heap.size + 1 + 1; omega) _).setCell (by show w.heap.size ≤ w.heap.size + 1 + 1; omega) _
    · have tk : (nk == 1) = false := by simpa using hk1
      go_wp2_with fail
      refine (unhide HOV _ (unhide HA3).bel).mono ?_
      rintro e wO ⟨rfl, bO⟩
      have HA4 := hide ((unhide HA3).call bO)
      clear HA3 bO HOV c1 p0 p1 p2 p3 p4
      cases hov : Pl.overL L np
      · have Q2 : Hid (¬ (nk ≠ 1 ∧ Pl.overL L np = true)) := fun h => by rw [hov] at h; cases h.2
        have Q0 : Hid (Pl.dirS L UP = true) := hdd
        clear hov hdd hk1
        have c1 := (unhide HA4).one.cell 0
        have p0 := (unhide HA4).two.cell 0
        have p1 := (unhide HA4).two.cell 1
        have p2 := (unhide HA4).two.cell 2
        have p3 := (unhide HA4).two.cell 3
        have p4 := (unhide HA4).two.cell 4
        simp only [Pl.Nd.cs, kA0, kA1, kA2] at c1 p0 p1 p2 p3 p4
        go_wp2_with fail
        refine (unhide HAN _ (unhide HA4).bel).mono ?_
        rintro e wN ⟨⟨r, rfl, hr⟩, bN⟩
        have HA5 := hide ((unhide HA4).call bN)
        clear HA4 bN HAN
        clear c1 p0 p1 p2 p3 p4
        rcases hr.out with ⟨kn, nn, rfl, hkn, hfn⟩ | ⟨rfl, hfn⟩
        · have tn : ¬ ((kn : Int) < 0) := by omega
          have EC := hide (show C = 0 by rw [unhide HC]; exact unhide E0 (unhide Q1) (unhide Q0) (unhide Q2) (fun h => by rw [hfn] at h; cases h.1))
          clear hr hkn hfn E6 E12 E11 E9 E0 Q0 Q1 Q2
          have EN := hide (show O = Pl.putL L ⟨np, nk, nd, nt, nm⟩ by rw [unhide HO, if_pos (unhide EC)])
          clear HC HO
          have c1 := (unhide HA5).one.cell 0
          have p0 := (unhide HA5).two.cell 0
          have p1 := (unhide HA5).two.cell 1
          have p2 := (unhide HA5).two.cell 2
          have p3 := (unhide HA5).two.cell 3
          have p4 := (unhide HA5).two.cell 4
          simp only [Pl.Nd.cs, kA0, kA1, kA2] at c1 p0 p1 p2 p3 p4
          go_wp2_with fail
          refine (unhide HPU _ (unhide HA5).bel).mono ?_
          rintro e wT ⟨v, rfl, own, bT⟩
          obtain ⟨a', cap', hvv⟩ := Mem.own_shape own
          subst hvv
          have hs5 := (unhide HA5).three.lt
          have AI := hide ((unhide HA5).call bT)
          have OW := hide own
          clear own bT HA5 HPU c1 p0 p1 p2 p3 p4
          have d0 := (unhide AI).three.cell 0
          have d1 := (unhide AI).three.cell 1
          have f0 := (unhide AI).three.fr 0
          have f1 := (unhide AI).three.fr 1
          simp only [kA0, kA1, kA2] at d0 d1
          go_wp2
          refine bodyPost_ret (v := .agg #[.slice a' (Pl.putL L ⟨np, nk, nd, nt, nm⟩).length cap', .int .i64 0]) (by simp [results, Tryz.results40, go_sem, d0, d1]) rfl ⟨.slice a' (Pl.putL L ⟨np, nk, nd, nt, nm⟩).length cap', by rw [unhide EC], ?_, ?_⟩
          · rw [unhide EN]
            exact Mem.ownN_mono (Mem.ownN_set (Mem.ownN_set (unhide OW) _ _ (by show w.heap.size + 1 + 1 < _; omega)) _ _ (by show w.heap.size + 1 + 1 < _; omega)) (by omega)
          · exact ((unhide AI).bel.setCell (by show w.heap.size ≤ w.heap.size + 1 + 1; omega) _).setCell (by show w.heap.size ≤ w.heap.size + 1 + 1; omega) _
        · by_cases h40 : 40 ≤ L.length
          · have t40 : (40 : Int) ≤ (L.length : Int) := by omega
            have EC := hide (show C = 9 by rw [unhide HC]; exact unhide E9 (unhide Q1) (unhide Q0) (unhide Q2) ⟨hfn, h40⟩)
            have EN := hide (show O = [] by rw [unhide HO, if_neg (by rw [unhide EC]; decide)])
            clear HC HO
            clear hr hfn E6 E12 E11 E9 E0 HPU Q0 Q1 Q2
            have c1 := (unhide HA5).one.cell 0
            have p0 := (unhide HA5).two.cell 0
            have p1 := (unhide HA5).two.cell 1
            have p2 := (unhide HA5).two.cell 2
            have p3 := (unhide HA5).two.cell 3
            have p4 := (unhide HA5).two.cell 4
            simp only [Pl.Nd.cs, kA0, kA1, kA2] at c1 p0 p1 p2 p3 p4
            go_wp2_with fail
            refine (WIll3.ill_any 9 _).mono ?_
            rintro e wI ⟨rfl, bI⟩
            have AI := hide ((unhide HA5).call bI)
            clear bI HA5
            have d0 := (unhide AI).three.cell 0
            have d1 := (unhide AI).three.cell 1
            have f0 := (unhide AI).three.fr 0
            have f1 := (unhide AI).three.fr 1
            simp only [kA0, kA1, kA2] at d0 d1
            go_wp2
            refine bodyPost_ret (v := .agg #[.slice none 0 0, .int .i64 9]) (by simp [results, Tryz.results40, go_sem, d0, d1]) rfl ⟨.slice none 0 0, by rw [unhide EC], by rw [unhide EN]; exact Mem.ownN_nil _ _, ?_⟩
            exact ((unhide AI).bel.setCell (by show w.heap.size ≤ w.heap.size + 1 + 1; omega) _).setCell (by show w.heap.size ≤ w.heap.size + 1 + 1; omega) _
          · have t40 : ¬ (40 : Int) ≤ (L.length : Int) := by omega
            have EC := hide (show C = 0 by rw [unhide HC]; exact unhide E0 (unhide Q1) (unhide Q0) (unhide Q2) (fun h => h40 h.2))
            clear hr hfn E6 E12 E11 E9 E0 Q0 Q1 Q2 h40
            have EN := hide (show O = Pl.putL L ⟨np, nk, nd, nt, nm⟩ by rw [unhide HO, if_pos (unhide EC)])
            clear HC HO
            have c1 := (unhide HA5).one.cell 0
            have p0 := (unhide HA5).two.cell 0
            have p1 := (unhide HA5).two.cell 1
            have p2 := (unhide HA5).two.cell 2
            have p3 := (unhide HA5).two.cell 3
            have p4 := (unhide HA5).two.cell 4
            simp only [Pl.Nd.cs, kA0, kA1, kA2] at c1 p0 p1 p2 p3 p4
            go_wp2_with fail
            refine (unhide HPU _ (unhide HA5).bel).mono ?_
            rintro e wT ⟨v, rfl, own, bT⟩
            obtain ⟨a', cap', hvv⟩ := Mem.own_shape own
            subst hvv
            have hs5 := (unhide HA5).three.lt
            have AI := hide ((unhide HA5).call bT)
            have OW := hide own
            clear own bT HA5 HPU c1 p0 p1 p2 p3 p4
            have d0 := (unhide AI).three.cell 0
            have d1 := (unhide AI).three.cell 1
            have f0 := (unhide AI).three.fr 0
            have f1 := (unhide AI).three.fr 1
            simp only [kA0, kA1, kA2] at d0 d1
            go_wp2
            refine bodyPost_ret (v := .agg #[.slice a' (Pl.putL L ⟨np, nk, nd, nt, nm⟩).length cap', .int .i64 0]) (by simp [results, Tryz.results40, go_sem, d0, d1]) rfl ⟨.slice a' (Pl.putL L ⟨np, nk, nd, nt, nm⟩).length cap', by rw [unhide EC], ?_, ?_⟩
            · rw [unhide EN]
              exact Mem.ownN_mono (Mem.ownN_set (Mem.ownN_set (unhide OW) _ _ (by show w.heap.size + 1 + 1 < _; omega)) _ _ (by show w.heap.size + 1 + 1 < _; omega)) (by omega)
            · exact ((unhide AI).bel.setCell (by show w.heap.size ≤ w.heap.size + 1 + 1; omega) _).setCell (by show w.heap.size ≤ w.heap.size + 1 + 1; omega) _
      · have EC := hide (show C = 11 by rw [unhide HC]; exact unhide E11 (unhide Q1) hdd ⟨hk1, hov⟩)
        have EN := hide (show O = [] by rw [unhide HO, if_neg (by rw [unhide EC]; decide)])
        clear HC HO
        clear hov hdd hk1 E6 E12 E11 E9 E0 HAN HPU Q1
        go_wp2_with fail
        refine (WIll3.ill_any 11 _).mono ?_
        rintro e wI ⟨rfl, bI⟩
        have AI := hide ((unhide HA4).call bI)
        clear bI HA4
        have d0 := (unhide AI).three.cell 0
        have d1 := (unhide AI).three.cell 1
        have f0 := (unhide AI).three.fr 0
        have f1 := (unhide AI).three.fr 1
        simp only [kA0, kA1, kA2] at d0 d1
        go_wp2
        refine bodyPost_ret (v := .agg #[.slice none 0 0, .int .i64 11]) (by simp [results, Tryz.results40, go_sem, d0, d1]) rfl ⟨.slice none 0 0, by rw [unhide EC], by rw [unhide EN]; exact Mem.ownN_nil _ _, ?_⟩
        exact ((unhide AI).bel.setCell (by show w.heap.size ≤ w.heap.size + 1 + 1; omega) _).setCell (by show w.heap.size ≤ w.heap.size + 1 + 1; omega) _
  · have t0 : UP.toList.isEmpty = false := by rw [Pl.empty_list]; simpa [Pl.by_nil] using h0
    go_wp2_with fail
    refine (unhide HAU _ (unhide HA).bel).mono ?_
    rintro e wU ⟨⟨r, rfl, hr⟩, bU⟩
    have HA2 := hide ((unhide HA).call bU)
    clear HA bU HAU c1 p0 p1 p2 p3 p4
    rcases hr.out with ⟨ku, nu, rfl, hku, hfu⟩ | ⟨rfl, hfu⟩
    · have tu : ¬ ((ku : Int) < 0) := by omega
      have Q1 : Hid (¬ (UP.size ≠ 0 ∧ L.find? (fun m => decide (m.path = UP)) = none)) := fun h => by rw [hfu] at h; cases h.2
      clear hr hku hfu h0 hUP
      have HA := HA2
      clear HA2
      have c1 := (unhide HA).one.cell 0
      have p0 := (unhide HA).two.cell 0
      have p1 := (unhide HA).two.cell 1
      have p2 := (unhide HA).two.cell 2
      have p3 := (unhide HA).two.cell 3
      have p4 := (unhide HA).two.cell 4
      simp only [Pl.Nd.cs, kA0, kA1, kA2] at c1 p0 p1 p2 p3 p4
      go_wp2_with fail
      refine (unhide HDU _ (unhide HA).bel).mono ?_
      rintro e wV ⟨rfl, bV⟩
      have HA3 := hide ((unhide HA).call bV)
      clear HA bV HDU
      clear c1 p0 p1 p2 p3 p4
      cases hdd : Pl.dirS L UP
      · have EC := hide (show C = 12 by rw [unhide HC]; exact unhide E12 (unhide Q1) hdd)
        have EN := hide (show O = [] by rw [unhide HO, if_neg (by rw [unhide EC]; decide)])
        clear HC HO
        clear hdd E6 E12 E11 E9 E0 HOV HAN HPU Q1
        go_wp2_with fail
        refine (WIll3.ill_any 12 _).mono ?_
        rintro e wI ⟨rfl, bI⟩
        have AI := hide ((unhide HA3).call bI)
        clear bI HA3
        have d0 := (unhide AI).three.cell 0
        have d1 := (unhide AI).three.cell 1
        have f0 := (unhide AI).three.fr 0
        have f1 := (unhide AI).three.fr 1
        simp only [kA0, kA1, kA2] at d0 d1
        go_wp2
        refine bodyPost_ret (v := .agg #[.slice none 0 0, .int .i64 12]) (by simp [results, Tryz.results40, go_sem, d0, d1]) rfl ⟨.slice none 0 0, by rw [unhide EC], by rw [unhide EN]; exact Mem.ownN_nil _ _, ?_⟩
        exact ((unhide AI).bel.setCell (by show w.heap.size ≤ w.heap.size + 1 + 1; omega) _).setCell (by show w.heap.size ≤ w.heap.size + 1 + 1; omega) _
      have c1 := (unhide HA3).one.cell 0
      have p0 := (unhide HA3).two.cell 0
      have p1 := (unhide HA3).two.cell 1
      have p2 := (unhide HA3).two.cell 2
      have p3 := (unhide HA3).two.cell 3
      have p4 := (unhide HA3).two.cell 4
      simp only [Pl.Nd.cs, kA0, kA1, kA2] at c1 p0 p1 p2 p3 p4
      by_cases hk1 : nk = 1
      · subst hk1
        have Q2 : Hid (¬ ((1 : Int) ≠ 1 ∧ Pl.overL L np = true)) := fun h => h.1 rfl
        have Q0 : Hid (Pl.dirS L UP = true) := hdd
        clear hdd HOV
        have HA4 := HA3
        clear HA3
        go_wp2_with fail
        refine (unhide HAN _ (unhide HA4).bel).mono ?_
        rintro e wN ⟨⟨r, rfl, hr⟩, bN⟩
        have HA5 := hide ((unhide HA4).call bN)
        clear HA4 bN HAN
        clear c1 p0 p1 p2 p3 p4
        rcases hr.out with ⟨kn, nn, rfl, hkn, hfn⟩ | ⟨rfl, hfn⟩
        · have tn : ¬ ((kn : Int) < 0) := by omega
          have EC := hide (show C = 0 by rw [unhide HC]; exact unhide E0 (unhide Q1) (unhide Q0) (unhide Q2) (fun h => by rw [hfn] at h; cases h.1))
          clear hr hkn hfn E6 E12 E11 E9 E0 Q0 Q1 Q2
          have EN := hide (show O = Pl.putL L ⟨np, 1, nd, nt, nm⟩ by rw [unhide HO, if_pos (unhide EC)])
          clear HC HO
          have c1 := (unhide HA5).one.cell 0
          have p0 := (unhide HA5).two.cell 0
          have p1 := (unhide HA5).two.cell 1
          have p2 := (unhide HA5).two.cell 2
          have p3 := (unhide HA5).two.cell 3
          have p4 := (unhide HA5).two.cell 4
          simp only [Pl.Nd.cs, kA0, kA1, kA2] at c1 p0 p1 p2 p3 p4
          go_wp2_with fail
          refine (unhide HPU _ (unhide HA5).bel).mono ?_
          rintro e wT ⟨v, rfl, own, bT⟩
          obtain ⟨a', cap', hvv⟩ := Mem.own_shape own
          subst hvv
          have hs5 := (unhide HA5).three.lt
          have AI := hide ((unhide HA5).call bT)
          have OW := hide own
          clear own bT HA5 HPU c1 p0 p1 p2 p3 p4
          have d0 := (unhide AI).three.cell 0
          have d1 := (unhide AI).three.cell 1
          have f0 := (unhide AI).three.fr 0
          have f1 := (unhide AI).three.fr 1
          simp only [kA0, kA1, kA2] at d0 d1
          go_wp2
          refine bodyPost_ret (v := .agg #[.slice a' (Pl.putL L ⟨np, 1, nd, nt, nm⟩).length cap', .int .i64 0]) (by simp [results, Tryz.results40, go_sem, d0, d1]) rfl ⟨.slice a' (Pl.putL L ⟨np, 1, nd, nt, nm⟩).length cap', by rw [unhide EC], ?_, ?_⟩
          · rw [unhide EN]
            exact Mem.ownN_mono (Mem.ownN_set (Mem.ownN_set (unhide OW) _ _ (by show w.heap.size + 1 + 1 < _; omega)) _ _ (by show w.heap.size + 1 + 1 < _; omega)) (by omega)
          · exact ((unhide AI).bel.setCell (by show w.heap.size ≤ w.heap.size + 1 + 1; omega) _).setCell (by show w.heap.size ≤ w.heap.size + 1 + 1; omega) _
        · by_cases h40 : 40 ≤ L.length
          · have t40 : (40 : Int) ≤ (L.length : Int) := by omega
            have EC := hide (show C = 9 by rw [unhide HC]; exact unhide E9 (unhide Q1) (unhide Q0) (unhide Q2) ⟨hfn, h40⟩)
            have EN := hide (show O = [] by rw [unhide HO, if_neg (by rw [unhide EC]; decide)])
            clear HC HO
            clear hr hfn E6 E12 E11 E9 E0 HPU Q0 Q1 Q2
            have c1 := (unhide HA5).one.cell 0
            have p0 := (unhide HA5).two.cell 0
            have p1 := (unhide HA5).two.cell 1
            have p2 := (unhide HA5).two.cell 2
            have p3 := (unhide HA5).two.cell 3
            have p4 := (unhide HA5).two.cell 4
            simp only [Pl.Nd.cs, kA0, kA1, kA2] at c1 p0 p1 p2 p3 p4
            go_wp2_with fail
            refine (WIll3.ill_any 9 _).mono ?_
            rintro e wI ⟨rfl, bI⟩
            have AI := hide ((unhide HA5).call bI)
            clear bI HA5
            have d0 := (unhide AI).three.cell 0
            have d1 := (unhide AI).three.cell 1
            have f0 := (unhide AI).three.fr 0
            have f1 := (unhide AI).three.fr 1
            simp only [kA0, kA1, kA2] at d0 d1
            go_wp2
            refine bodyPost_ret (v := .agg #[.slice none 0 0, .int .i64 9]) (by simp [results, Tryz.results40, go_sem, d0, d1]) rfl ⟨.slice none 0 0, by rw [unhide EC], by rw [unhide EN]; exact Mem.ownN_nil _ _, ?_⟩
            exact ((unhide AI).bel.setCell (by show w.heap.size ≤ w.heap.size + 1 + 1; omega) _).setCell (by show w.heap.size ≤ w.heap.size + 1 + 1; omega) _
          · have t40 : ¬ (40 : Int) ≤ (L.length : Int) := by omega
            have EC := hide (show C = 0 by rw [unhide HC]; exact unhide E0 (unhide Q1) (unhide Q0) (unhide Q2) (fun h => h40 h.2))
            clear hr hfn E6 E12 E11 E9 E0 Q0 Q1 Q2 h40
            have EN := hide (show O = Pl.putL L ⟨np, 1, nd, nt, nm⟩ by rw [unhide HO, if_pos (unhide EC)])
            clear HC HO
            have c1 := (unhide HA5).one.cell 0
            have p0 := (unhide HA5).two.cell 0
            have p1 := (unhide HA5).two.cell 1
            have p2 := (unhide HA5).two.cell 2
            have p3 := (unhide HA5).two.cell 3
            have p4 := (unhide HA5).two.cell 4
            simp only [Pl.Nd.cs, kA0, kA1, kA2] at c1 p0 p1 p2 p3 p4
            go_wp2_with fail
            refine (unhide HPU _ (unhide HA5).bel).mono ?_
            rintro e wT ⟨v, rfl, own, bT⟩
            obtain ⟨a', cap', hvv⟩ := Mem.own_shape own
            subst hvv
            have hs5 := (unhide HA5).three.lt
            have AI := hide ((unhide HA5).call bT)
            have OW := hide own
            clear own bT HA5 HPU c1 p0 p1 p2 p3 p4
            have d0 := (unhide AI).three.cell 0
            have d1 := (unhide AI).three.cell 1
            have f0 := (unhide AI).three.fr 0
            have f1 := (unhide AI).three.fr 1
            simp only [kA0, kA1, kA2] at d0 d1
            go_wp2
            refine bodyPost_ret (v := .agg #[.slice a' (Pl.putL L ⟨np, 1, nd, nt, nm⟩).length cap', .int .i64 0]) (by simp [results, Tryz.results40, go_sem, d0, d1]) rfl ⟨.slice a' (Pl.putL L ⟨np, 1, nd, nt, nm⟩).length cap', by rw [unhide EC], ?_, ?_⟩
            · rw [unhide EN]
              exact Mem.ownN_mono (Mem.ownN_set (Mem.ownN_set (unhide OW) _ _ (by show w.heap.size + 1 + 1 < _; omega)) _ _ (by show w.heap.size + 1 + 1 < _; omega)) (by omega)
            · exact ((unhide AI).bel.setCell (by show w.heap.size ≤ w.heap.size + 1 + 1; omega) _).setCell (by show w.heap.size ≤ w.heap.size + 1 + 1; omega) _
      · have tk : (nk == 1) = false := by simpa using hk1
        go_wp2_with fail
        refine (unhide HOV _ (unhide HA3).bel).mono ?_
        rintro e wO ⟨rfl, bO⟩
        have HA4 := hide ((unhide HA3).call bO)
        clear HA3 bO HOV c1 p0 p1 p2 p3 p4
        cases hov : Pl.overL L np
        · have Q2 : Hid (¬ (nk ≠ 1 ∧ Pl.overL L np = true)) := fun h => by rw [hov] at h; cases h.2
          have Q0 : Hid (Pl.dirS L UP = true) := hdd
          clear hov hdd hk1
          have c1 := (unhide HA4).one.cell 0
          have p0 := (unhide HA4).two.cell 0
          have p1 := (unhide HA4).two.cell 1
          have p2 := (unhide HA4).two.cell 2
          have p3 := (unhide HA4).two.cell 3
          have p4 := (unhide HA4).two.cell 4
          simp only [Pl.Nd.cs, kA0, kA1, kA2] at c1 p0 p1 p2 p3 p4
          go_wp2_with fail
          refine (unhide HAN _ (unhide HA4).bel).mono ?_
          rintro e wN ⟨⟨r, rfl, hr⟩, bN⟩
          have HA5 := hide ((unhide HA4).call bN)
          clear HA4 bN HAN
          clear c1 p0 p1 p2 p3 p4
          rcases hr.out with ⟨kn, nn, rfl, hkn, hfn⟩ | ⟨rfl, hfn⟩
          · have tn : ¬ ((kn : Int) < 0) := by omega
            have EC := hide (show C = 0 by rw [unhide HC]; exact unhide E0 (unhide Q1) (unhide Q0) (unhide Q2) (fun h => by rw [hfn] at h; cases h.1))
            clear hr hkn hfn E6 E12 E11 E9 E0 Q0 Q1 Q2
            have EN := hide (show O = Pl.putL L ⟨np, nk, nd, nt, nm⟩ by rw [unhide HO, if_pos (unhide EC)])
            clear HC HO
            have c1 := (unhide HA5).one.cell 0
            have p0 := (unhide HA5).two.cell 0
            have p1 := (unhide HA5).two.cell 1
            have p2 := (unhide HA5).two.cell 2
            have p3 := (unhide HA5).two.cell 3
            have p4 := (unhide HA5).two.cell 4
            simp only [Pl.Nd.cs, kA0, kA1, kA2] at c1 p0 p1 p2 p3 p4
            go_wp2_with fail
            refine (unhide HPU _ (unhide HA5).bel).mono ?_
            rintro e wT ⟨v, rfl, own, bT⟩
            obtain ⟨a', cap', hvv⟩ := Mem.own_shape own
            subst hvv
            have hs5 := (unhide HA5).three.lt
            have AI := hide ((unhide HA5).call bT)
            have OW := hide own
            clear own bT HA5 HPU c1 p0 p1 p2 p3 p4
            have d0 := (unhide AI).three.cell 0
            have d1 := (unhide AI).three.cell 1
            have f0 := (unhide AI).three.fr 0
            have f1 := (unhide AI).three.fr 1
            simp only [kA0, kA1, kA2] at d0 d1
            go_wp2
            refine bodyPost_ret (v := .agg #[.slice a' (Pl.putL L ⟨np, nk, nd, nt, nm⟩).length cap', .int .i64 0]) (by simp [results, Tryz.results40, go_sem, d0, d1]) rfl ⟨.slice a' (Pl.putL L ⟨np, nk, nd, nt, nm⟩).length cap', by rw [unhide EC], ?_, ?_⟩
            · rw [unhide EN]
              exact Mem.ownN_mono (Mem.ownN_set (Mem.ownN_set (unhide OW) _ _ (by show w.heap.size + 1 + 1 < _; omega)) _ _ (by show w.heap.size + 1 + 1 < _; omega)) (by omega)
            · exact ((unhide AI).bel.setCell (by show w.heap.size ≤ w.heap.size + 1 + 1; omega) _).setCell (by show w.heap.size ≤ w.heap.size + 1 + 1; omega) _
          · by_cases h40 : 40 ≤ L.length
            · have t40 : (40 : Int) ≤ (L.length : Int) := by omega
              have EC := hide (show C = 9 by rw [unhide HC]; exact unhide E9 (unhide Q1) (unhide Q0) (unhide Q2) ⟨hfn, h40⟩)
              have EN := hide (show O = [] by rw [unhide HO, if_neg (by rw [unhide EC]; decide)])
              clear HC HO
              clear hr hfn E6 E12 E11 E9 E0 HPU Q0 Q1 Q2
              have c1 := (unhide HA5).one.cell 0
              have p0 := (unhide HA5).two.cell 0
              have p1 := (unhide HA5).two.cell 1
              have p2 := (unhide HA5).two.cell 2
              have p3 := (unhide HA5).two.cell 3
              have p4 := (unhide HA5).two.cell 4
              simp only [Pl.Nd.cs, kA0, kA1, kA2] at c1 p0 p1 p2 p3 p4
              go_wp2_with fail
              refine (WIll3.ill_any 9 _).mono ?_
              rintro e wI ⟨rfl, bI⟩
              have AI := hide ((unhide HA5).call bI)
              clear bI HA5
              have d0 := (unhide AI).three.cell 0
              have d1 := (unhide AI).three.cell 1
              have f0 := (unhide AI).three.fr 0
              have f1 := (unhide AI).three.fr 1
              simp only [kA0, kA1, kA2] at d0 d1
              go_wp2
              refine bodyPost_ret (v := .agg #[.slice none 0 0, .int .i64 9]) (by simp [results, Tryz.results40, go_sem, d0, d1]) rfl ⟨.slice none 0 0, by rw [unhide EC], by rw [unhide EN]; exact Mem.ownN_nil _ _, ?_⟩
              exact ((unhide AI).bel.setCell (by show w.heap.size ≤ w.heap.size + 1 + 1; omega) _).setCell (by show w.heap.size ≤ w.heap.size + 1 + 1; omega) _
            · have t40 : ¬ (40 : Int) ≤ (L.length : Int) := by omega
              have EC := hide (show C = 0 by rw [unhide HC]; exact unhide E0 (unhide Q1) (unhide Q0) (unhide Q2) (fun h => h40 h.2))
              clear hr hfn E6 E12 E11 E9 E0 Q0 Q1 Q2 h40
              have EN := hide (show O = Pl.putL L ⟨np, nk, nd, nt, nm⟩ by rw [unhide HO, if_pos (unhide EC)])
              clear HC HO
              have c1 := (unhide HA5).one.cell 0
              have p0 := (unhide HA5).two.cell 0
              have p1 := (unhide HA5).two.cell 1
              have p2 := (unhide HA5).two.cell 2
              have p3 := (unhide HA5).two.cell 3
              have p4 := (unhide HA5).two.cell 4
              simp only [Pl.Nd.cs, kA0, kA1, kA2] at c1 p0 p1 p2 p3 p4
              go_wp2_with fail
              refine (unhide HPU _ (unhide HA5).bel).mono ?_
              rintro e wT ⟨v, rfl, own, bT⟩
              obtain ⟨a', cap', hvv⟩ := Mem.own_shape own
              subst hvv
              have hs5 := (unhide HA5).three.lt
              have AI := hide ((unhide HA5).call bT)
              have OW := hide own
              clear own bT HA5 HPU c1 p0 p1 p2 p3 p4
              have d0 := (unhide AI).three.cell 0
              have d1 := (unhide AI).three.cell 1
              have f0 := (unhide AI).three.fr 0
              have f1 := (unhide AI).three.fr 1
              simp only [kA0, kA1, kA2] at d0 d1
              go_wp2
              refine bodyPost_ret (v := .agg #[.slice a' (Pl.putL L ⟨np, nk, nd, nt, nm⟩).length cap', .int .i64 0]) (by simp [results, Tryz.results40, go_sem, d0, d1]) rfl ⟨.slice a' (Pl.putL L ⟨np, nk, nd, nt, nm⟩).length cap', by rw [unhide EC], ?_, ?_⟩
              · rw [unhide EN]
                exact Mem.ownN_mono (Mem.ownN_set (Mem.ownN_set (unhide OW) _ _ (by show w.heap.size + 1 + 1 < _; omega)) _ _ (by show w.heap.size + 1 + 1 < _; omega)) (by omega)
              · exact ((unhide AI).bel.setCell (by show w.heap.size ≤ w.heap.size + 1 + 1; omega) _).setCell (by show w.heap.size ≤ w.heap.size + 1 + 1; omega) _
        · have EC := hide (show C = 11 by rw [unhide HC]; exact unhide E11 (unhide Q1) hdd ⟨hk1, hov⟩)
          have EN := hide (show O = [] by rw [unhide HO, if_neg (by rw [unhide EC]; decide)])
          clear HC HO
          clear hov hdd hk1 E6 E12 E11 E9 E0 HAN HPU Q1
          go_wp2_with fail
          refine (WIll3.ill_any 11 _).mono ?_
          rintro e wI ⟨rfl, bI⟩
          have AI := hide ((unhide HA4).call bI)
          clear bI HA4
          have d0 := (unhide AI).three.cell 0
          have d1 := (unhide AI).three.cell 1
          have f0 := (unhide AI).three.fr 0
          have f1 := (unhide AI).three.fr 1
          simp only [kA0, kA1, kA2] at d0 d1
          go_wp2
          refine bodyPost_ret (v := .agg #[.slice none 0 0, .int .i64 11]) (by simp [results, Tryz.results40, go_sem, d0, d1]) rfl ⟨.slice none 0 0, by rw [unhide EC], by rw [unhide EN]; exact Mem.ownN_nil _ _, ?_⟩
          exact ((unhide AI).bel.setCell (by show w.heap.size ≤ w.heap.size + 1 + 1; omega) _).setCell (by show w.heap.size ≤ w.heap.size + 1 + 1; omega) _
    · have EC := hide (show C = 6 by rw [unhide HC]; exact unhide E6 ⟨h0, hfu⟩)
      have EN := hide (show O = [] by rw [unhide HO, if_neg (by rw [unhide EC]; decide)])
      clear HC HO
      clear hr hfu h0 hUP E6 E12 E11 E9 E0 HDU HOV HAN HPU
      go_wp2_with fail
      refine (WIll3.ill_any 6 _).mono ?_
      rintro e wI ⟨rfl, bI⟩
      have AI := hide ((unhide HA2).call bI)
      clear bI HA2
      have d0 := (unhide AI).three.cell 0
      have d1 := (unhide AI).three.cell 1
      have f0 := (unhide AI).three.fr 0
      have f1 := (unhide AI).three.fr 1
      simp only [kA0, kA1, kA2] at d0 d1
      go_wp2
      refine bodyPost_ret (v := .agg #[.slice none 0 0, .int .i64 6]) (by simp [results, Tryz.results40, go_sem, d0, d1]) rfl ⟨.slice none 0 0, by rw [unhide EC], by rw [unhide EN]; exact Mem.ownN_nil _ _, ?_⟩
      exact ((unhide AI).bel.setCell (by show w.heap.size ≤ w.heap.size + 1 + 1; omega) _).setCell (by show w.heap.size ≤ w.heap.size + 1 + 1; omega) _
end WPutC
end Go.Proofs.YtepmojmelcngeaaGreatDoor

/- The walk of the specification's TreePut over any slice of nodes. -/
namespace Go.Proofs.YtepmojmelcngeaaGreatDoor
open Go.RowKit
namespace WPutD
set_option linter.unusedSimpArgs false in
set_option maxRecDepth 100000 in
set_option maxHeartbeats 1000000 in
theorem spec_any (a : Option Addr) (cap : Nat) (L : List Pl.Nd) (n : Pl.Nd) (w : World) (hA : WPutG.okA w a cap L) (hl : L.length ≤ 1048576) (hv : Mem.isNodes w a L) (hok : ∀ n ∈ L, n.path.size ≤ 1048576 ∧ n.data.size ≤ 1048576) (hn : n.path.size ≤ 1048576 ∧ n.data.size ≤ 1048576) :
    Calls Tryz.prog 9 #[.agg #[.slice a L.length cap], n.val] w fun e w' => ∃ v, e = .returned (.agg #[v, .int .i64 (Pl.putC L n)]) ∧ Mem.ownN w' w.heap.size v (Pl.putO L n) ∧ Below w.heap.size w w' := by
  have HRT := hide (fun W (b : Below w.heap.size w W) => WTreeS.right_tree a cap L W hl (Mem.nodes_call hv b) hok)
  have HNR := hide (fun W => WNode.spec_any n W hn.1 hn.2)
  have HAD := hide (fun W (b : Below w.heap.size w W) (h1 : Pl.treeB L = true) (h2 : Pl.nodeB n = true) => WPutC.add_any a cap L n W (by have := (WPutB.right_bounds h1).1; omega) (WPutG.okA_call hA b.size) (Mem.nodes_call hv b) (fun m hm => by have := (WPutB.right_bounds h1).2 m hm; omega) (by have := Pl.pathB_le (Pl.node_right h2).1; omega))
  have HC : Hid (Pl.putC L n = if Pl.treeB L = true ∧ Pl.nodeB n = true then Pl.addC L n else 1) := rfl
  have HO : Hid (Pl.putO L n = if Pl.treeB L = true ∧ Pl.nodeB n = true then Pl.addO L n else []) := rfl
  generalize Pl.putC L n = C at HC ⊢
  generalize Pl.putO L n = O at HO ⊢
  generalize Pl.addC L n = AC at HAD HC
  generalize Pl.addO L n = AO at HAD HO
  generalize Pl.treeB L = R1 at HRT HAD HC HO
  generalize Pl.nodeB n = R2 at HNR HAD HC HO
  obtain ⟨np, nk, nd, nt, nm⟩ := n
  simp only [Pl.Nd.val] at HNR HAD ⊢
  have H0 : WPutC.At w (((w.alloc (.cells #[.slice a L.length cap] 31)).alloc (.cells #[.string np, .int .i64 nk, .string nd, .int .i64 nt, .int .i64 nm] 36)).alloc (.cells #[.slice none 0 0, .int .i64 0] 33)) a cap L ⟨np, nk, nd, nt, nm⟩ :=
    ⟨(((Below.refl _ _).alloc (Nat.le_refl _) _).alloc (by simp) _).alloc (by simp; omega) _, ((Mem.Blk.new _ _ _).alloc _).alloc _, (by have h := (Mem.Blk.new (w.alloc (.cells #[.slice a L.length cap] 31)) #[.string np, .int .i64 nk, .string nd, .int .i64 nt, .int .i64 nm] 36).alloc (.cells #[.slice none 0 0, .int .i64 0] 33); rwa [show (w.alloc (.cells #[.slice a L.length cap] 31)).heap.size = w.heap.size + 1 by simp] at h), Mem.new_three _ _ _ _⟩
  have HA := hide H0
  clear H0 hv hok hn
  go_enter Tryz.func9, Tryz.ntmps9
  go_wp2_with fail
  refine (unhide HRT _ (unhide HA).bel).mono ?_
  rintro e w1 ⟨rfl, b1⟩
  have A1 := hide ((unhide HA).call b1)
  clear HA HRT b1
  have c1 := (unhide A1).one.cell 0
  have p0 := (unhide A1).two.cell 0
  have p1 := (unhide A1).two.cell 1
  have p2 := (unhide A1).two.cell 2
  have p3 := (unhide A1).two.cell 3
  have p4 := (unhide A1).two.cell 4
  simp only [Pl.Nd.cs, kA0, kA1, kA2] at c1 p0 p1 p2 p3 p4
  cases R1
  · have EC := hide (show C = 1 by rw [unhide HC, if_neg (by simp)])
    have EN := hide (show O = [] by rw [unhide HO, if_neg (by simp)])
    clear HC HO HAD HNR
    have A2 := A1
    clear A1
    go_wp2_with fail
    refine (WIll3.ill_any 1 _).mono ?_
    rintro e wI ⟨rfl, bI⟩
    have AI := hide ((unhide A2).call bI)
    clear bI A2
    have d0 := (unhide AI).three.cell 0
    have d1 := (unhide AI).three.cell 1
    have f0 := (unhide AI).three.fr 0
    have f1 := (unhide AI).three.fr 1
    simp only [kA0, kA1, kA2] at d0 d1
    go_wp2
    refine bodyPost_ret (v := .agg #[.slice none 0 0, .int .i64 1]) (by simp [results, Tryz.results9, go_sem, d0, d1]) rfl ⟨.slice none 0 0, by rw [unhide EC], by rw [unhide EN]; exact Mem.ownN_nil _ _, ?_⟩
    exact ((unhide AI).bel.setCell (by show w.heap.size ≤ w.heap.size + 1 + 1; omega) _).setCell (by show w.heap.size ≤ w.heap.size + 1 + 1; omega) _
  · go_wp2_with fail
    refine (unhide HNR _).mono ?_
    rintro e w2 ⟨rfl, b2⟩
    have A2 := hide ((unhide A1).call b2)
    clear A1 HNR b2 c1 p0 p1 p2 p3 p4
    cases R2
    · have EC := hide (show C = 1 by rw [unhide HC, if_neg (by simp)])
      have EN := hide (show O = [] by rw [unhide HO, if_neg (by simp)])
      clear HC HO HAD
      go_wp2_with fail
      refine (WIll3.ill_any 1 _).mono ?_
      rintro e wI ⟨rfl, bI⟩
      have AI := hide ((unhide A2).call bI)
      clear bI A2
      have d0 := (unhide AI).three.cell 0
      have d1 := (unhide AI).three.cell 1
      have f0 := (unhide AI).three.fr 0
      have f1 := (unhide AI).three.fr 1
      simp only [kA0, kA1, kA2] at d0 d1
      go_wp2
      refine bodyPost_ret (v := .agg #[.slice none 0 0, .int .i64 1]) (by simp [results, Tryz.results9, go_sem, d0, d1]) rfl ⟨.slice none 0 0, by rw [unhide EC], by rw [unhide EN]; exact Mem.ownN_nil _ _, ?_⟩
      exact ((unhide AI).bel.setCell (by show w.heap.size ≤ w.heap.size + 1 + 1; omega) _).setCell (by show w.heap.size ≤ w.heap.size + 1 + 1; omega) _
    · have EC := hide (show C = AC by rw [unhide HC, if_pos (by simp)])
      have EN := hide (show O = AO by rw [unhide HO, if_pos (by simp)])
      clear HC HO
      have c1 := (unhide A2).one.cell 0
      have p0 := (unhide A2).two.cell 0
      have p1 := (unhide A2).two.cell 1
      have p2 := (unhide A2).two.cell 2
      have p3 := (unhide A2).two.cell 3
      have p4 := (unhide A2).two.cell 4
      simp only [Pl.Nd.cs, kA0, kA1, kA2] at c1 p0 p1 p2 p3 p4
      go_wp2_with fail
      refine (unhide HAD _ (unhide A2).bel (by first | rfl | trivial) (by first | rfl | trivial)).mono ?_
      rintro e wI ⟨v, rfl, own, bI⟩
      obtain ⟨a', cap', hvv⟩ := Mem.own_shape own
      subst hvv
      have hs5 := (unhide A2).three.lt
      have AI := hide ((unhide A2).call bI)
      have OW := hide own
      clear own bI A2 HAD c1 p0 p1 p2 p3 p4
      have d0 := (unhide AI).three.cell 0
      have d1 := (unhide AI).three.cell 1
      have f0 := (unhide AI).three.fr 0
      have f1 := (unhide AI).three.fr 1
      simp only [kA0, kA1, kA2] at d0 d1
      go_wp2
      refine bodyPost_ret (v := .agg #[.slice a' AO.length cap', .int .i64 AC]) (by simp [results, Tryz.results9, go_sem, d0, d1]) rfl ⟨.slice a' AO.length cap', by rw [unhide EC], ?_, ?_⟩
      · rw [unhide EN]
        exact Mem.ownN_mono (Mem.ownN_set (Mem.ownN_set (unhide OW) _ _ (by show w.heap.size + 1 + 1 < _; omega)) _ _ (by show w.heap.size + 1 + 1 < _; omega)) (by omega)
      · exact ((unhide AI).bel.setCell (by show w.heap.size ≤ w.heap.size + 1 + 1; omega) _).setCell (by show w.heap.size ≤ w.heap.size + 1 + 1; omega) _
end WPutD
end Go.Proofs.YtepmojmelcngeaaGreatDoor

/- The walk of the specification's l02Base. -/
namespace Go.Proofs.YtepmojmelcngeaaGreatDoor
open Go.RowKit
namespace WPathS
theorem base1_any (s : ByteArray) (w : World) (hs : s.size ≤ maxLen) :
    Calls Tryz.prog 95 #[.string s] w fun e w' => e = .returned (.string (Pl.base s)) ∧ w' = w := by
  have hb := Pl.slash_lt s s.size
  have hc := hide (fun W => cut_any s W hs)
  unfold maxLen at hs
  have E : Hid (Pl.base s = s.extract (Pl.slashTo s s.size + 1).toNat s.size) := rfl
  generalize Pl.base s = R at E ⊢
  generalize Pl.slashTo s s.size = k at hc hb E
  have t1 : 0 ≤ k + 1 := by omega
  have t2 : k + 1 ≤ (s.size : Int) := by omega
  go_enter Tryz.func95, Tryz.ntmps95
  go_wp2_with (go_at_call 96; refine (unhide hc _).mono ?_; rintro e w' ⟨rfl, hw⟩; obtain rfl := hw.symm)
  go_ret
  exact ⟨ret_string (unhide E).symm, rfl⟩
end WPathS
end Go.Proofs.YtepmojmelcngeaaGreatDoor

/- The walk of the specification's l01Dec (the digits of a small number): only how long it is. -/
namespace Go.Proofs.YtepmojmelcngeaaGreatDoor
open Go.RowKit
namespace WDec
set_option maxRecDepth 100000 in
set_option maxHeartbeats 400000 in
theorem dec_any (K : Nat) (w : World) (h0 : 0 < K) (hK : K ≤ 1000000) :
    Calls Tryz.prog 109 #[.int .i64 (K : Int)] w fun e w' => ∃ t : ByteArray, t.size ≤ K ∧ e = .returned (.string t) ∧ Below w.heap.size w w' := by
  have p1 : ¬ (K : Int) = 0 := by omega
  have p3 : ¬ (K : Int) < 0 := by omega
  go_enter Tryz.func109, Tryz.ntmps109
  go_wp2
  go_loopw [0, 4] (fun a o wr => ∃ (k : Nat) (out : List UInt8), out.length + k ≤ K ∧ a = .int .i64 (k : Int) ∧ o = .string ⟨out.toArray⟩ ∧ Below w.heap.size w wr) (fun a _ _ => (intOf a).toNat)
  case atStart => exact ⟨K, [], by simp, rfl, rfl, Below.refl _ _⟩
  case round =>
    obtain ⟨k, out, hk, rfl, rfl, hbel⟩ := hrel
    have hsz := hbel.size
    have ho : ¬ 9223372036854775807 < 1 + out.length := by omega
    by_cases hk0 : 0 < k
    · have p2 : ¬ (k : Int) = 0 := by omega
      have p4 : ¬ (k : Int) % 10 < 0 := by omega
      have p5 : ¬ (k : Int).tmod 10 < 0 := by have := Int.tmod_nonneg 10 (show (0 : Int) ≤ (k : Int) by omega); omega
      have hb : ((UInt8.ofNat (48 + k % 10)).toNat : Int) = 48 + (k : Int) % 10 := by
        rw [UInt8.toNat_ofNat_of_lt' (by show 48 + k % 10 < 256; omega)]; omega
      have hcv := Mem.row_text (P := Tryz.prog) (w := wr.alloc (.cells #[.int .u8 (48 + (k : Int) % 10)] 5)) (n := 1) (cap := 1) Tryz.underlying43 Tryz.underlying5 Tryz.underlying9 [UInt8.ofNat (48 + k % 10)] rfl (heap_alloc_new wr _) (by simp only [List.map_cons, List.map_nil, Pl.byteVal, hb]; rfl)
      have HX : Hid ((⟨[UInt8.ofNat (48 + k % 10)].toArray⟩ : ByteArray) ++ (⟨out.toArray⟩ : ByteArray) = ⟨(UInt8.ofNat (48 + k % 10) :: out).toArray⟩) := by
        show _ = _
        rw [Pl.put_behind]; rfl
      have hbel2 := hbel.alloc hsz (.cells #[.int .u8 (48 + (k : Int) % 10)] 5)
      generalize UInt8.ofNat (48 + k % 10) = b at hcv HX
      clear hb
      go_wp2
      go_roundw
      case rel => exact ⟨k / 10, b :: out, by simp; omega, by go_num, congrArg Value.string HX.out, hbel2⟩
      case measure => simp [intOf]; omega
    · obtain rfl : k = 0 := by omega
      go_wp2
      go_ret
      exact ⟨_, by show out.toArray.size ≤ K; simp; omega, rfl, hbel⟩
end WDec
end Go.Proofs.YtepmojmelcngeaaGreatDoor

