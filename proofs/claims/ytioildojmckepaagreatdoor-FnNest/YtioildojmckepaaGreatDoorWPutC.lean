import Derived.Test.YtioildojmckepaaGreatDoorWTreeS
import Derived.Test.YtioildojmckepaaGreatDoorPlainAddC
import Derived.Test.YtioildojmckepaaGreatDoorG10
import Derived.Test.YtioildojmckepaaGreatDoorWPutH
namespace Go.Proofs.YtioildojmckepaaGreatDoor
open Go.RowKit
namespace WPutC
structure At (w W : World) (a : Option Addr) (cap : Nat) (L : List Pl.Nd) (n : Pl.Nd) : Prop where
 bel : Below w.heap.size w W
 one : Mem.Blk W w.heap.size #[.slice a L.length cap] 36
 two : Mem.Blk W (w.heap.size + 1) n.cs.toArray 88
 three : Mem.Blk W (w.heap.size + 1 + 1) #[.slice none 0 0, .int .i64 0] 62
theorem At.call {w W W' : World} {a : Option Addr} {cap : Nat} {L : List Pl.Nd} {n : Pl.Nd} (h : At w W a cap L n) (b : Below W.heap.size W W') : At w W' a cap L n :=
 ⟨h.bel.trans (b.mono h.bel.size), h.one.call b, h.two.call b, h.three.call b⟩
set_option linter.unusedSimpArgs false in
set_option maxRecDepth 100000 in
set_option maxHeartbeats 1000000 in
theorem zu0 (a : Option Addr) (cap : Nat) (L : List Pl.Nd) (n : Pl.Nd) (w : World) (hl : L.length ≤ 1000) (hA : zn4.okA w a cap L) (hv : Mem.zb5 w a L) (hok : ∀ m ∈ L, m.path.size ≤ 8000) (hn8 : n.path.size ≤ 8000) :
  Calls Tryz.prog 91 #[.agg #[.slice a L.length cap], n.val] w fun e w' => ∃ v, e = .returned (.agg #[v, .int .i64 (Pl.addC L n)]) ∧ Mem.ownN w' w.heap.size v (Pl.addO L n) ∧ Below w.heap.size w w' := by
 have HPA := hide (fun W => zf3.zt4 n.path W (by unfold maxLen; omega))
 have HAU := hide (fun W (b : Below w.heap.size w W) => zl7.at_any a cap L (Pl.parent n.path) W (by omega) (Mem.za5 hv b))
 have HDU := hide (fun W (b : Below w.heap.size w W) => zl7.dir_any a cap L (Pl.parent n.path) W (by omega) (Mem.za5 hv b))
 have HOV := hide (fun W (b : Below w.heap.size w W) => WPutS.over_any a cap L n.path W (by omega) (Mem.za5 hv b) (by omega))
 have HAN := hide (fun W (b : Below w.heap.size w W) => zl7.at_any a cap L n.path W (by omega) (Mem.za5 hv b))
 have HPU := hide (fun W (b : Below w.heap.size w W) => zn4.put_gen a cap L n W hl (zn4.zu9 hA b.size) (Mem.za5 hv b) hok hn8)
 have E6 : Hid ((Pl.parent n.path).size ≠ 0 ∧ L.find? (fun m => decide (m.path = Pl.parent n.path)) = none → Pl.addC L n = 6) := fun h => by rw [Pl.addC, if_pos h]
 have E12 : Hid (¬ ((Pl.parent n.path).size ≠ 0 ∧ L.find? (fun m => decide (m.path = Pl.parent n.path)) = none) → Pl.dirS L (Pl.parent n.path) = false → Pl.addC L n = 12) := fun h h2 => by rw [Pl.addC, if_neg h, if_pos h2]
 have E11 : Hid (¬ ((Pl.parent n.path).size ≠ 0 ∧ L.find? (fun m => decide (m.path = Pl.parent n.path)) = none) → Pl.dirS L (Pl.parent n.path) = true → n.kind ≠ 1 ∧ Pl.zj7 L n.path = true → Pl.addC L n = 11) := fun h h2 h3 => by rw [Pl.addC, if_neg h, if_neg (by rw [h2]; simp), if_pos h3]
 have E9 : Hid (¬ ((Pl.parent n.path).size ≠ 0 ∧ L.find? (fun m => decide (m.path = Pl.parent n.path)) = none) → Pl.dirS L (Pl.parent n.path) = true → ¬ (n.kind ≠ 1 ∧ Pl.zj7 L n.path = true) → (L.find? (fun m => decide (m.path = n.path)) = none ∧ 40 ≤ L.length) → Pl.addC L n = 9) := fun h h2 h3 h4 => by rw [Pl.addC, if_neg h, if_neg (by rw [h2]; simp), if_neg h3, if_pos h4]
 have E0 : Hid (¬ ((Pl.parent n.path).size ≠ 0 ∧ L.find? (fun m => decide (m.path = Pl.parent n.path)) = none) → Pl.dirS L (Pl.parent n.path) = true → ¬ (n.kind ≠ 1 ∧ Pl.zj7 L n.path = true) → ¬ (L.find? (fun m => decide (m.path = n.path)) = none ∧ 40 ≤ L.length) → Pl.addC L n = 0) := fun h h2 h3 h4 => by rw [Pl.addC, if_neg h, if_neg (by rw [h2]; simp), if_neg h3, if_neg h4]
 have HO : Hid (Pl.addO L n = if Pl.addC L n = 0 then Pl.putL L n else []) := rfl
 obtain ⟨C, HC⟩ : ∃ C, Hid (C = Pl.addC L n) := ⟨_, hide rfl⟩
 rw [← za HC] at HO ⊢
 generalize Pl.addO L n = O at HO ⊢
 obtain ⟨np, nk, nd, nt, nm⟩ := n
 simp only [Pl.Nd.val] at HPA HAU HDU HOV HAN HPU hn8 HC HO E6 E12 E11 E9 E0 ⊢
 have H0 : At w (((w.alloc (.cells #[.slice a L.length cap] 36)).alloc (.cells #[.string np, .int .i64 nk, .string nd, .int .i64 nt, .int .i64 nm] 88)).alloc (.cells #[.slice none 0 0, .int .i64 0] 62)) a cap L ⟨np, nk, nd, nt, nm⟩ :=
  ⟨(((Below.refl _ _).alloc (Nat.le_refl _) _).alloc (by simp) _).alloc (by simp; omega) _, ((Mem.Blk.new _ _ _).alloc _).alloc _, (by have h := (Mem.Blk.new (w.alloc (.cells #[.slice a L.length cap] 36)) #[.string np, .int .i64 nk, .string nd, .int .i64 nt, .int .i64 nm] 88).alloc (.cells #[.slice none 0 0, .int .i64 0] 62); rwa [show (w.alloc (.cells #[.slice a L.length cap] 36)).heap.size = w.heap.size + 1 by simp] at h), Mem.zk6 _ _ _ _⟩
 have HA := hide H0
 clear H0 hv hok hn8
 go_enter Tryz.func91, Tryz.ntmps91
 go_wp2_with fail
 refine (za HPA _).mono ?_
 rintro e wP ⟨rfl, hwP⟩
 obtain rfl := hwP.symm
 clear HPA
 generalize hUP : Pl.parent np = UP at HAU HDU E6 E12 E11 E9 E0
 generalize ((w.alloc (.cells #[.slice a L.length cap] 36)).alloc (.cells #[.string np, .int .i64 nk, .string nd, .int .i64 nt, .int .i64 nm] 88)).alloc (.cells #[.slice none 0 0, .int .i64 0] 62) = W1 at HA ⊢
 have c1 := (za HA).one.cell 0
 have p0 := (za HA).two.cell 0
 have p1 := (za HA).two.cell 1
 have p2 := (za HA).two.cell 2
 have p3 := (za HA).two.cell 3
 have p4 := (za HA).two.cell 4
 simp only [Pl.Nd.cs, kGs] at c1 p0 p1 p2 p3 p4
 by_cases h0 : UP.size = 0
 ·have t0 : UP.toList.isEmpty = true := by rw [Pl.zc5]; simpa [Pl.zg2] using h0
  have Q1 : Hid (¬ (UP.size ≠ 0 ∧ L.find? (fun m => decide (m.path = UP)) = none)) := fun h => h.1 h0
  clear h0 HAU hUP
  go_wp2_with fail
  refine (za HDU _ (za HA).bel).mono ?_
  rintro e wV ⟨rfl, bV⟩
  have HA3 := hide ((za HA).call bV)
  clear HA bV HDU
  clear c1 p0 p1 p2 p3 p4
  cases hdd : Pl.dirS L UP
  ·have EC := hide (show C = 12 by rw [za HC]; exact za E12 (za Q1) hdd)
   have EN := hide (show O = [] by rw [za HO, if_neg (by rw [za EC]; decide)])
   clear HC HO
   clear hdd E6 E12 E11 E9 E0 HOV HAN HPU Q1
   go_wp2_with fail
   refine (zj4.zg5 12 _).mono ?_
   rintro e wI ⟨rfl, bI⟩
   have AI := hide ((za HA3).call bI)
   clear bI HA3
   have d0 := (za AI).three.cell 0
   have d1 := (za AI).three.cell 1
   have f0 := (za AI).three.fr 0
   have f1 := (za AI).three.fr 1
   simp only [kGs] at d0 d1
   go_wp2
   refine bodyPost_ret (v := .agg #[.slice none 0 0, .int .i64 12]) (by simp [results, Tryz.results91, go_sem, d0, d1]) rfl ⟨.slice none 0 0, by rw [za EC], by rw [za EN]; exact Mem.zc7 _ _, ?_⟩
   exact ((za AI).bel.setCell (by show w.heap.size ≤ w.heap.size + 1 + 1; omega) _).setCell (by show w.heap.size ≤ w.heap.size + 1 + 1; omega) _
  have c1 := (za HA3).one.cell 0
  have p0 := (za HA3).two.cell 0
  have p1 := (za HA3).two.cell 1
  have p2 := (za HA3).two.cell 2
  have p3 := (za HA3).two.cell 3
  have p4 := (za HA3).two.cell 4
  simp only [Pl.Nd.cs, kGs] at c1 p0 p1 p2 p3 p4
  by_cases hk1 : nk = 1
  ·subst hk1
   have Q2 : Hid (¬ ((1 : Int) ≠ 1 ∧ Pl.zj7 L np = true)) := fun h => h.1 rfl
   have Q0 : Hid (Pl.dirS L UP = true) := hdd
   clear hdd HOV
   have HA4 := HA3
   clear HA3
   go_wp2_with fail
   refine (za HAN _ (za HA4).bel).mono ?_
   rintro e wN ⟨⟨r, rfl, hr⟩, bN⟩
   have HA5 := hide ((za HA4).call bN)
   clear HA4 bN HAN
   clear c1 p0 p1 p2 p3 p4
   rcases hr.out with ⟨kn, nn, rfl, hkn, hfn⟩ | ⟨rfl, hfn⟩
   ·have tn : ¬ ((kn : Int) < 0) := by omega
    have EC := hide (show C = 0 by rw [za HC]; exact za E0 (za Q1) (za Q0) (za Q2) (fun h => by rw [hfn] at h; cases h.1))
    clear hr hkn hfn E6 E12 E11 E9 E0 Q0 Q1 Q2
    have EN := hide (show O = Pl.putL L ⟨np, 1, nd, nt, nm⟩ by rw [za HO, if_pos (za EC)])
    clear HC HO
    have c1 := (za HA5).one.cell 0
    have p0 := (za HA5).two.cell 0
    have p1 := (za HA5).two.cell 1
    have p2 := (za HA5).two.cell 2
    have p3 := (za HA5).two.cell 3
    have p4 := (za HA5).two.cell 4
    simp only [Pl.Nd.cs, kGs] at c1 p0 p1 p2 p3 p4
    go_wp2_with fail
    refine (za HPU _ (za HA5).bel).mono ?_
    rintro e wT ⟨v, rfl, own, bT⟩
    obtain ⟨a', cap', hvv⟩ := Mem.za3 own
    subst hvv
    have hs5 := (za HA5).three.lt
    have AI := hide ((za HA5).call bT)
    have OW := hide own
    clear own bT HA5 HPU c1 p0 p1 p2 p3 p4
    have d0 := (za AI).three.cell 0
    have d1 := (za AI).three.cell 1
    have f0 := (za AI).three.fr 0
    have f1 := (za AI).three.fr 1
    simp only [kGs] at d0 d1
    go_wp2
    refine bodyPost_ret (v := .agg #[.slice a' (Pl.putL L ⟨np, 1, nd, nt, nm⟩).length cap', .int .i64 0]) (by simp [results, Tryz.results91, go_sem, d0, d1]) rfl ⟨.slice a' (Pl.putL L ⟨np, 1, nd, nt, nm⟩).length cap', by rw [za EC], ?_, ?_⟩
    ·rw [za EN]
     exact Mem.zb7 (Mem.za4 (Mem.za4 (za OW) _ _ (by show w.heap.size + 1 + 1 < _; omega)) _ _ (by show w.heap.size + 1 + 1 < _; omega)) (by omega)
    ·exact ((za AI).bel.setCell (by show w.heap.size ≤ w.heap.size + 1 + 1; omega) _).setCell (by show w.heap.size ≤ w.heap.size + 1 + 1; omega) _
   ·by_cases h40 : 40 ≤ L.length
    ·have t40 : (40 : Int) ≤ (L.length : Int) := by omega
     have EC := hide (show C = 9 by rw [za HC]; exact za E9 (za Q1) (za Q0) (za Q2) ⟨hfn, h40⟩)
     have EN := hide (show O = [] by rw [za HO, if_neg (by rw [za EC]; decide)])
     clear HC HO
     clear hr hfn E6 E12 E11 E9 E0 HPU Q0 Q1 Q2
     have c1 := (za HA5).one.cell 0
     have p0 := (za HA5).two.cell 0
     have p1 := (za HA5).two.cell 1
     have p2 := (za HA5).two.cell 2
     have p3 := (za HA5).two.cell 3
     have p4 := (za HA5).two.cell 4
     simp only [Pl.Nd.cs, kGs] at c1 p0 p1 p2 p3 p4
     go_wp2_with fail
     refine (zj4.zg5 9 _).mono ?_
     rintro e wI ⟨rfl, bI⟩
     have AI := hide ((za HA5).call bI)
     clear bI HA5
     have d0 := (za AI).three.cell 0
     have d1 := (za AI).three.cell 1
     have f0 := (za AI).three.fr 0
     have f1 := (za AI).three.fr 1
     simp only [kGs] at d0 d1
     go_wp2
     refine bodyPost_ret (v := .agg #[.slice none 0 0, .int .i64 9]) (by simp [results, Tryz.results91, go_sem, d0, d1]) rfl ⟨.slice none 0 0, by rw [za EC], by rw [za EN]; exact Mem.zc7 _ _, ?_⟩
     exact ((za AI).bel.setCell (by show w.heap.size ≤ w.heap.size + 1 + 1; omega) _).setCell (by show w.heap.size ≤ w.heap.size + 1 + 1; omega) _
    ·have t40 : ¬ (40 : Int) ≤ (L.length : Int) := by omega
     have EC := hide (show C = 0 by rw [za HC]; exact za E0 (za Q1) (za Q0) (za Q2) (fun h => h40 h.2))
     clear hr hfn E6 E12 E11 E9 E0 Q0 Q1 Q2 h40
     have EN := hide (show O = Pl.putL L ⟨np, 1, nd, nt, nm⟩ by rw [za HO, if_pos (za EC)])
     clear HC HO
     have c1 := (za HA5).one.cell 0
     have p0 := (za HA5).two.cell 0
     have p1 := (za HA5).two.cell 1
     have p2 := (za HA5).two.cell 2
     have p3 := (za HA5).two.cell 3
     have p4 := (za HA5).two.cell 4
     simp only [Pl.Nd.cs, kGs] at c1 p0 p1 p2 p3 p4
     go_wp2_with fail
     refine (za HPU _ (za HA5).bel).mono ?_
     rintro e wT ⟨v, rfl, own, bT⟩
     obtain ⟨a', cap', hvv⟩ := Mem.za3 own
     subst hvv
     have hs5 := (za HA5).three.lt
     have AI := hide ((za HA5).call bT)
     have OW := hide own
     clear own bT HA5 HPU c1 p0 p1 p2 p3 p4
     have d0 := (za AI).three.cell 0
     have d1 := (za AI).three.cell 1
     have f0 := (za AI).three.fr 0
     have f1 := (za AI).three.fr 1
     simp only [kGs] at d0 d1
     go_wp2
     refine bodyPost_ret (v := .agg #[.slice a' (Pl.putL L ⟨np, 1, nd, nt, nm⟩).length cap', .int .i64 0]) (by simp [results, Tryz.results91, go_sem, d0, d1]) rfl ⟨.slice a' (Pl.putL L ⟨np, 1, nd, nt, nm⟩).length cap', by rw [za EC], ?_, ?_⟩
     ·rw [za EN]
      exact Mem.zb7 (Mem.za4 (Mem.za4 (za OW) _ _ (by show w.heap.size + 1 + 1 < _; omega)) _ _ (by show w.heap.size + 1 + 1 < _; omega)) (by omega)
     ·exact ((za AI).bel.setCell (by show w.heap.size ≤ w.heap.size + 1 + 1; omega) _).setCell (by show w.heap.size ≤ w.heap.size + 1 + 1; omega) _
  ·have tk : (nk == 1) = false := by simpa using hk1
   go_wp2_with fail
   refine (za HOV _ (za HA3).bel).mono ?_
   rintro e wO ⟨rfl, bO⟩
   have HA4 := hide ((za HA3).call bO)
   clear HA3 bO HOV c1 p0 p1 p2 p3 p4
   cases hov : Pl.zj7 L np
   ·have Q2 : Hid (¬ (nk ≠ 1 ∧ Pl.zj7 L np = true)) := fun h => by rw [hov] at h; cases h.2
    have Q0 : Hid (Pl.dirS L UP = true) := hdd
    clear hov hdd hk1
    have c1 := (za HA4).one.cell 0
    have p0 := (za HA4).two.cell 0
    have p1 := (za HA4).two.cell 1
    have p2 := (za HA4).two.cell 2
    have p3 := (za HA4).two.cell 3
    have p4 := (za HA4).two.cell 4
    simp only [Pl.Nd.cs, kGs] at c1 p0 p1 p2 p3 p4
    go_wp2_with fail
    refine (za HAN _ (za HA4).bel).mono ?_
    rintro e wN ⟨⟨r, rfl, hr⟩, bN⟩
    have HA5 := hide ((za HA4).call bN)
    clear HA4 bN HAN
    clear c1 p0 p1 p2 p3 p4
    rcases hr.out with ⟨kn, nn, rfl, hkn, hfn⟩ | ⟨rfl, hfn⟩
    ·have tn : ¬ ((kn : Int) < 0) := by omega
     have EC := hide (show C = 0 by rw [za HC]; exact za E0 (za Q1) (za Q0) (za Q2) (fun h => by rw [hfn] at h; cases h.1))
     clear hr hkn hfn E6 E12 E11 E9 E0 Q0 Q1 Q2
     have EN := hide (show O = Pl.putL L ⟨np, nk, nd, nt, nm⟩ by rw [za HO, if_pos (za EC)])
     clear HC HO
     have c1 := (za HA5).one.cell 0
     have p0 := (za HA5).two.cell 0
     have p1 := (za HA5).two.cell 1
     have p2 := (za HA5).two.cell 2
     have p3 := (za HA5).two.cell 3
     have p4 := (za HA5).two.cell 4
     simp only [Pl.Nd.cs, kGs] at c1 p0 p1 p2 p3 p4
     go_wp2_with fail
     refine (za HPU _ (za HA5).bel).mono ?_
     rintro e wT ⟨v, rfl, own, bT⟩
     obtain ⟨a', cap', hvv⟩ := Mem.za3 own
     subst hvv
     have hs5 := (za HA5).three.lt
     have AI := hide ((za HA5).call bT)
     have OW := hide own
     clear own bT HA5 HPU c1 p0 p1 p2 p3 p4
     have d0 := (za AI).three.cell 0
     have d1 := (za AI).three.cell 1
     have f0 := (za AI).three.fr 0
     have f1 := (za AI).three.fr 1
     simp only [kGs] at d0 d1
     go_wp2
     refine bodyPost_ret (v := .agg #[.slice a' (Pl.putL L ⟨np, nk, nd, nt, nm⟩).length cap', .int .i64 0]) (by simp [results, Tryz.results91, go_sem, d0, d1]) rfl ⟨.slice a' (Pl.putL L ⟨np, nk, nd, nt, nm⟩).length cap', by rw [za EC], ?_, ?_⟩
     ·rw [za EN]
      exact Mem.zb7 (Mem.za4 (Mem.za4 (za OW) _ _ (by show w.heap.size + 1 + 1 < _; omega)) _ _ (by show w.heap.size + 1 + 1 < _; omega)) (by omega)
     ·exact ((za AI).bel.setCell (by show w.heap.size ≤ w.heap.size + 1 + 1; omega) _).setCell (by show w.heap.size ≤ w.heap.size + 1 + 1; omega) _
    ·by_cases h40 : 40 ≤ L.length
     ·have t40 : (40 : Int) ≤ (L.length : Int) := by omega
      have EC := hide (show C = 9 by rw [za HC]; exact za E9 (za Q1) (za Q0) (za Q2) ⟨hfn, h40⟩)
      have EN := hide (show O = [] by rw [za HO, if_neg (by rw [za EC]; decide)])
      clear HC HO
      clear hr hfn E6 E12 E11 E9 E0 HPU Q0 Q1 Q2
      have c1 := (za HA5).one.cell 0
      have p0 := (za HA5).two.cell 0
      have p1 := (za HA5).two.cell 1
      have p2 := (za HA5).two.cell 2
      have p3 := (za HA5).two.cell 3
      have p4 := (za HA5).two.cell 4
      simp only [Pl.Nd.cs, kGs] at c1 p0 p1 p2 p3 p4
      go_wp2_with fail
      refine (zj4.zg5 9 _).mono ?_
      rintro e wI ⟨rfl, bI⟩
      have AI := hide ((za HA5).call bI)
      clear bI HA5
      have d0 := (za AI).three.cell 0
      have d1 := (za AI).three.cell 1
      have f0 := (za AI).three.fr 0
      have f1 := (za AI).three.fr 1
      simp only [kGs] at d0 d1
      go_wp2
      refine bodyPost_ret (v := .agg #[.slice none 0 0, .int .i64 9]) (by simp [results, Tryz.results91, go_sem, d0, d1]) rfl ⟨.slice none 0 0, by rw [za EC], by rw [za EN]; exact Mem.zc7 _ _, ?_⟩
      exact ((za AI).bel.setCell (by show w.heap.size ≤ w.heap.size + 1 + 1; omega) _).setCell (by show w.heap.size ≤ w.heap.size + 1 + 1; omega) _
     ·have t40 : ¬ (40 : Int) ≤ (L.length : Int) := by omega
      have EC := hide (show C = 0 by rw [za HC]; exact za E0 (za Q1) (za Q0) (za Q2) (fun h => h40 h.2))
      clear hr hfn E6 E12 E11 E9 E0 Q0 Q1 Q2 h40
      have EN := hide (show O = Pl.putL L ⟨np, nk, nd, nt, nm⟩ by rw [za HO, if_pos (za EC)])
      clear HC HO
      have c1 := (za HA5).one.cell 0
      have p0 := (za HA5).two.cell 0
      have p1 := (za HA5).two.cell 1
      have p2 := (za HA5).two.cell 2
      have p3 := (za HA5).two.cell 3
      have p4 := (za HA5).two.cell 4
      simp only [Pl.Nd.cs, kGs] at c1 p0 p1 p2 p3 p4
      go_wp2_with fail
      refine (za HPU _ (za HA5).bel).mono ?_
      rintro e wT ⟨v, rfl, own, bT⟩
      obtain ⟨a', cap', hvv⟩ := Mem.za3 own
      subst hvv
      have hs5 := (za HA5).three.lt
      have AI := hide ((za HA5).call bT)
      have OW := hide own
      clear own bT HA5 HPU c1 p0 p1 p2 p3 p4
      have d0 := (za AI).three.cell 0
      have d1 := (za AI).three.cell 1
      have f0 := (za AI).three.fr 0
      have f1 := (za AI).three.fr 1
      simp only [kGs] at d0 d1
      go_wp2
      refine bodyPost_ret (v := .agg #[.slice a' (Pl.putL L ⟨np, nk, nd, nt, nm⟩).length cap', .int .i64 0]) (by simp [results, Tryz.results91, go_sem, d0, d1]) rfl ⟨.slice a' (Pl.putL L ⟨np, nk, nd, nt, nm⟩).length cap', by rw [za EC], ?_, ?_⟩
      ·rw [za EN]
       exact Mem.zb7 (Mem.za4 (Mem.za4 (za OW) _ _ (by show w.heap.size + 1 + 1 < _; omega)) _ _ (by show w.heap.size + 1 + 1 < _; omega)) (by omega)
      ·exact ((za AI).bel.setCell (by show w.heap.size ≤ w.heap.size + 1 + 1; omega) _).setCell (by show w.heap.size ≤ w.heap.size + 1 + 1; omega) _
   ·have EC := hide (show C = 11 by rw [za HC]; exact za E11 (za Q1) hdd ⟨hk1, hov⟩)
    have EN := hide (show O = [] by rw [za HO, if_neg (by rw [za EC]; decide)])
    clear HC HO
    clear hov hdd hk1 E6 E12 E11 E9 E0 HAN HPU Q1
    go_wp2_with fail
    refine (zj4.zg5 11 _).mono ?_
    rintro e wI ⟨rfl, bI⟩
    have AI := hide ((za HA4).call bI)
    clear bI HA4
    have d0 := (za AI).three.cell 0
    have d1 := (za AI).three.cell 1
    have f0 := (za AI).three.fr 0
    have f1 := (za AI).three.fr 1
    simp only [kGs] at d0 d1
    go_wp2
    refine bodyPost_ret (v := .agg #[.slice none 0 0, .int .i64 11]) (by simp [results, Tryz.results91, go_sem, d0, d1]) rfl ⟨.slice none 0 0, by rw [za EC], by rw [za EN]; exact Mem.zc7 _ _, ?_⟩
    exact ((za AI).bel.setCell (by show w.heap.size ≤ w.heap.size + 1 + 1; omega) _).setCell (by show w.heap.size ≤ w.heap.size + 1 + 1; omega) _
 ·have t0 : UP.toList.isEmpty = false := by rw [Pl.zc5]; simpa [Pl.zg2] using h0
  go_wp2_with fail
  refine (za HAU _ (za HA).bel).mono ?_
  rintro e wU ⟨⟨r, rfl, hr⟩, bU⟩
  have HA2 := hide ((za HA).call bU)
  clear HA bU HAU c1 p0 p1 p2 p3 p4
  rcases hr.out with ⟨ku, nu, rfl, hku, hfu⟩ | ⟨rfl, hfu⟩
  ·have tu : ¬ ((ku : Int) < 0) := by omega
   have Q1 : Hid (¬ (UP.size ≠ 0 ∧ L.find? (fun m => decide (m.path = UP)) = none)) := fun h => by rw [hfu] at h; cases h.2
   clear hr hku hfu h0 hUP
   have HA := HA2
   clear HA2
   have c1 := (za HA).one.cell 0
   have p0 := (za HA).two.cell 0
   have p1 := (za HA).two.cell 1
   have p2 := (za HA).two.cell 2
   have p3 := (za HA).two.cell 3
   have p4 := (za HA).two.cell 4
   simp only [Pl.Nd.cs, kGs] at c1 p0 p1 p2 p3 p4
   go_wp2_with fail
   refine (za HDU _ (za HA).bel).mono ?_
   rintro e wV ⟨rfl, bV⟩
   have HA3 := hide ((za HA).call bV)
   clear HA bV HDU
   clear c1 p0 p1 p2 p3 p4
   cases hdd : Pl.dirS L UP
   ·have EC := hide (show C = 12 by rw [za HC]; exact za E12 (za Q1) hdd)
    have EN := hide (show O = [] by rw [za HO, if_neg (by rw [za EC]; decide)])
    clear HC HO
    clear hdd E6 E12 E11 E9 E0 HOV HAN HPU Q1
    go_wp2_with fail
    refine (zj4.zg5 12 _).mono ?_
    rintro e wI ⟨rfl, bI⟩
    have AI := hide ((za HA3).call bI)
    clear bI HA3
    have d0 := (za AI).three.cell 0
    have d1 := (za AI).three.cell 1
    have f0 := (za AI).three.fr 0
    have f1 := (za AI).three.fr 1
    simp only [kGs] at d0 d1
    go_wp2
    refine bodyPost_ret (v := .agg #[.slice none 0 0, .int .i64 12]) (by simp [results, Tryz.results91, go_sem, d0, d1]) rfl ⟨.slice none 0 0, by rw [za EC], by rw [za EN]; exact Mem.zc7 _ _, ?_⟩
    exact ((za AI).bel.setCell (by show w.heap.size ≤ w.heap.size + 1 + 1; omega) _).setCell (by show w.heap.size ≤ w.heap.size + 1 + 1; omega) _
   have c1 := (za HA3).one.cell 0
   have p0 := (za HA3).two.cell 0
   have p1 := (za HA3).two.cell 1
   have p2 := (za HA3).two.cell 2
   have p3 := (za HA3).two.cell 3
   have p4 := (za HA3).two.cell 4
   simp only [Pl.Nd.cs, kGs] at c1 p0 p1 p2 p3 p4
   by_cases hk1 : nk = 1
   ·subst hk1
    have Q2 : Hid (¬ ((1 : Int) ≠ 1 ∧ Pl.zj7 L np = true)) := fun h => h.1 rfl
    have Q0 : Hid (Pl.dirS L UP = true) := hdd
    clear hdd HOV
    have HA4 := HA3
    clear HA3
    go_wp2_with fail
    refine (za HAN _ (za HA4).bel).mono ?_
    rintro e wN ⟨⟨r, rfl, hr⟩, bN⟩
    have HA5 := hide ((za HA4).call bN)
    clear HA4 bN HAN
    clear c1 p0 p1 p2 p3 p4
    rcases hr.out with ⟨kn, nn, rfl, hkn, hfn⟩ | ⟨rfl, hfn⟩
    ·have tn : ¬ ((kn : Int) < 0) := by omega
     have EC := hide (show C = 0 by rw [za HC]; exact za E0 (za Q1) (za Q0) (za Q2) (fun h => by rw [hfn] at h; cases h.1))
     clear hr hkn hfn E6 E12 E11 E9 E0 Q0 Q1 Q2
     have EN := hide (show O = Pl.putL L ⟨np, 1, nd, nt, nm⟩ by rw [za HO, if_pos (za EC)])
     clear HC HO
     have c1 := (za HA5).one.cell 0
     have p0 := (za HA5).two.cell 0
     have p1 := (za HA5).two.cell 1
     have p2 := (za HA5).two.cell 2
     have p3 := (za HA5).two.cell 3
     have p4 := (za HA5).two.cell 4
     simp only [Pl.Nd.cs, kGs] at c1 p0 p1 p2 p3 p4
     go_wp2_with fail
     refine (za HPU _ (za HA5).bel).mono ?_
     rintro e wT ⟨v, rfl, own, bT⟩
     obtain ⟨a', cap', hvv⟩ := Mem.za3 own
     subst hvv
     have hs5 := (za HA5).three.lt
     have AI := hide ((za HA5).call bT)
     have OW := hide own
     clear own bT HA5 HPU c1 p0 p1 p2 p3 p4
     have d0 := (za AI).three.cell 0
     have d1 := (za AI).three.cell 1
     have f0 := (za AI).three.fr 0
     have f1 := (za AI).three.fr 1
     simp only [kGs] at d0 d1
     go_wp2
     refine bodyPost_ret (v := .agg #[.slice a' (Pl.putL L ⟨np, 1, nd, nt, nm⟩).length cap', .int .i64 0]) (by simp [results, Tryz.results91, go_sem, d0, d1]) rfl ⟨.slice a' (Pl.putL L ⟨np, 1, nd, nt, nm⟩).length cap', by rw [za EC], ?_, ?_⟩
     ·rw [za EN]
      exact Mem.zb7 (Mem.za4 (Mem.za4 (za OW) _ _ (by show w.heap.size + 1 + 1 < _; omega)) _ _ (by show w.heap.size + 1 + 1 < _; omega)) (by omega)
     ·exact ((za AI).bel.setCell (by show w.heap.size ≤ w.heap.size + 1 + 1; omega) _).setCell (by show w.heap.size ≤ w.heap.size + 1 + 1; omega) _
    ·by_cases h40 : 40 ≤ L.length
     ·have t40 : (40 : Int) ≤ (L.length : Int) := by omega
      have EC := hide (show C = 9 by rw [za HC]; exact za E9 (za Q1) (za Q0) (za Q2) ⟨hfn, h40⟩)
      have EN := hide (show O = [] by rw [za HO, if_neg (by rw [za EC]; decide)])
      clear HC HO
      clear hr hfn E6 E12 E11 E9 E0 HPU Q0 Q1 Q2
      have c1 := (za HA5).one.cell 0
      have p0 := (za HA5).two.cell 0
      have p1 := (za HA5).two.cell 1
      have p2 := (za HA5).two.cell 2
      have p3 := (za HA5).two.cell 3
      have p4 := (za HA5).two.cell 4
      simp only [Pl.Nd.cs, kGs] at c1 p0 p1 p2 p3 p4
      go_wp2_with fail
      refine (zj4.zg5 9 _).mono ?_
      rintro e wI ⟨rfl, bI⟩
      have AI := hide ((za HA5).call bI)
      clear bI HA5
      have d0 := (za AI).three.cell 0
      have d1 := (za AI).three.cell 1
      have f0 := (za AI).three.fr 0
      have f1 := (za AI).three.fr 1
      simp only [kGs] at d0 d1
      go_wp2
      refine bodyPost_ret (v := .agg #[.slice none 0 0, .int .i64 9]) (by simp [results, Tryz.results91, go_sem, d0, d1]) rfl ⟨.slice none 0 0, by rw [za EC], by rw [za EN]; exact Mem.zc7 _ _, ?_⟩
      exact ((za AI).bel.setCell (by show w.heap.size ≤ w.heap.size + 1 + 1; omega) _).setCell (by show w.heap.size ≤ w.heap.size + 1 + 1; omega) _
     ·have t40 : ¬ (40 : Int) ≤ (L.length : Int) := by omega
      have EC := hide (show C = 0 by rw [za HC]; exact za E0 (za Q1) (za Q0) (za Q2) (fun h => h40 h.2))
      clear hr hfn E6 E12 E11 E9 E0 Q0 Q1 Q2 h40
      have EN := hide (show O = Pl.putL L ⟨np, 1, nd, nt, nm⟩ by rw [za HO, if_pos (za EC)])
      clear HC HO
      have c1 := (za HA5).one.cell 0
      have p0 := (za HA5).two.cell 0
      have p1 := (za HA5).two.cell 1
      have p2 := (za HA5).two.cell 2
      have p3 := (za HA5).two.cell 3
      have p4 := (za HA5).two.cell 4
      simp only [Pl.Nd.cs, kGs] at c1 p0 p1 p2 p3 p4
      go_wp2_with fail
      refine (za HPU _ (za HA5).bel).mono ?_
      rintro e wT ⟨v, rfl, own, bT⟩
      obtain ⟨a', cap', hvv⟩ := Mem.za3 own
      subst hvv
      have hs5 := (za HA5).three.lt
      have AI := hide ((za HA5).call bT)
      have OW := hide own
      clear own bT HA5 HPU c1 p0 p1 p2 p3 p4
      have d0 := (za AI).three.cell 0
      have d1 := (za AI).three.cell 1
      have f0 := (za AI).three.fr 0
      have f1 := (za AI).three.fr 1
      simp only [kGs] at d0 d1
      go_wp2
      refine bodyPost_ret (v := .agg #[.slice a' (Pl.putL L ⟨np, 1, nd, nt, nm⟩).length cap', .int .i64 0]) (by simp [results, Tryz.results91, go_sem, d0, d1]) rfl ⟨.slice a' (Pl.putL L ⟨np, 1, nd, nt, nm⟩).length cap', by rw [za EC], ?_, ?_⟩
      ·rw [za EN]
       exact Mem.zb7 (Mem.za4 (Mem.za4 (za OW) _ _ (by show w.heap.size + 1 + 1 < _; omega)) _ _ (by show w.heap.size + 1 + 1 < _; omega)) (by omega)
      ·exact ((za AI).bel.setCell (by show w.heap.size ≤ w.heap.size + 1 + 1; omega) _).setCell (by show w.heap.size ≤ w.heap.size + 1 + 1; omega) _
   ·have tk : (nk == 1) = false := by simpa using hk1
    go_wp2_with fail
    refine (za HOV _ (za HA3).bel).mono ?_
    rintro e wO ⟨rfl, bO⟩
    have HA4 := hide ((za HA3).call bO)
    clear HA3 bO HOV c1 p0 p1 p2 p3 p4
    cases hov : Pl.zj7 L np
    ·have Q2 : Hid (¬ (nk ≠ 1 ∧ Pl.zj7 L np = true)) := fun h => by rw [hov] at h; cases h.2
     have Q0 : Hid (Pl.dirS L UP = true) := hdd
     clear hov hdd hk1
     have c1 := (za HA4).one.cell 0
     have p0 := (za HA4).two.cell 0
     have p1 := (za HA4).two.cell 1
     have p2 := (za HA4).two.cell 2
     have p3 := (za HA4).two.cell 3
     have p4 := (za HA4).two.cell 4
     simp only [Pl.Nd.cs, kGs] at c1 p0 p1 p2 p3 p4
     go_wp2_with fail
     refine (za HAN _ (za HA4).bel).mono ?_
     rintro e wN ⟨⟨r, rfl, hr⟩, bN⟩
     have HA5 := hide ((za HA4).call bN)
     clear HA4 bN HAN
     clear c1 p0 p1 p2 p3 p4
     rcases hr.out with ⟨kn, nn, rfl, hkn, hfn⟩ | ⟨rfl, hfn⟩
     ·have tn : ¬ ((kn : Int) < 0) := by omega
      have EC := hide (show C = 0 by rw [za HC]; exact za E0 (za Q1) (za Q0) (za Q2) (fun h => by rw [hfn] at h; cases h.1))
      clear hr hkn hfn E6 E12 E11 E9 E0 Q0 Q1 Q2
      have EN := hide (show O = Pl.putL L ⟨np, nk, nd, nt, nm⟩ by rw [za HO, if_pos (za EC)])
      clear HC HO
      have c1 := (za HA5).one.cell 0
      have p0 := (za HA5).two.cell 0
      have p1 := (za HA5).two.cell 1
      have p2 := (za HA5).two.cell 2
      have p3 := (za HA5).two.cell 3
      have p4 := (za HA5).two.cell 4
      simp only [Pl.Nd.cs, kGs] at c1 p0 p1 p2 p3 p4
      go_wp2_with fail
      refine (za HPU _ (za HA5).bel).mono ?_
      rintro e wT ⟨v, rfl, own, bT⟩
      obtain ⟨a', cap', hvv⟩ := Mem.za3 own
      subst hvv
      have hs5 := (za HA5).three.lt
      have AI := hide ((za HA5).call bT)
      have OW := hide own
      clear own bT HA5 HPU c1 p0 p1 p2 p3 p4
      have d0 := (za AI).three.cell 0
      have d1 := (za AI).three.cell 1
      have f0 := (za AI).three.fr 0
      have f1 := (za AI).three.fr 1
      simp only [kGs] at d0 d1
      go_wp2
      refine bodyPost_ret (v := .agg #[.slice a' (Pl.putL L ⟨np, nk, nd, nt, nm⟩).length cap', .int .i64 0]) (by simp [results, Tryz.results91, go_sem, d0, d1]) rfl ⟨.slice a' (Pl.putL L ⟨np, nk, nd, nt, nm⟩).length cap', by rw [za EC], ?_, ?_⟩
      ·rw [za EN]
       exact Mem.zb7 (Mem.za4 (Mem.za4 (za OW) _ _ (by show w.heap.size + 1 + 1 < _; omega)) _ _ (by show w.heap.size + 1 + 1 < _; omega)) (by omega)
      ·exact ((za AI).bel.setCell (by show w.heap.size ≤ w.heap.size + 1 + 1; omega) _).setCell (by show w.heap.size ≤ w.heap.size + 1 + 1; omega) _
     ·by_cases h40 : 40 ≤ L.length
      ·have t40 : (40 : Int) ≤ (L.length : Int) := by omega
       have EC := hide (show C = 9 by rw [za HC]; exact za E9 (za Q1) (za Q0) (za Q2) ⟨hfn, h40⟩)
       have EN := hide (show O = [] by rw [za HO, if_neg (by rw [za EC]; decide)])
       clear HC HO
       clear hr hfn E6 E12 E11 E9 E0 HPU Q0 Q1 Q2
       have c1 := (za HA5).one.cell 0
       have p0 := (za HA5).two.cell 0
       have p1 := (za HA5).two.cell 1
       have p2 := (za HA5).two.cell 2
       have p3 := (za HA5).two.cell 3
       have p4 := (za HA5).two.cell 4
       simp only [Pl.Nd.cs, kGs] at c1 p0 p1 p2 p3 p4
       go_wp2_with fail
       refine (zj4.zg5 9 _).mono ?_
       rintro e wI ⟨rfl, bI⟩
       have AI := hide ((za HA5).call bI)
       clear bI HA5
       have d0 := (za AI).three.cell 0
       have d1 := (za AI).three.cell 1
       have f0 := (za AI).three.fr 0
       have f1 := (za AI).three.fr 1
       simp only [kGs] at d0 d1
       go_wp2
       refine bodyPost_ret (v := .agg #[.slice none 0 0, .int .i64 9]) (by simp [results, Tryz.results91, go_sem, d0, d1]) rfl ⟨.slice none 0 0, by rw [za EC], by rw [za EN]; exact Mem.zc7 _ _, ?_⟩
       exact ((za AI).bel.setCell (by show w.heap.size ≤ w.heap.size + 1 + 1; omega) _).setCell (by show w.heap.size ≤ w.heap.size + 1 + 1; omega) _
      ·have t40 : ¬ (40 : Int) ≤ (L.length : Int) := by omega
       have EC := hide (show C = 0 by rw [za HC]; exact za E0 (za Q1) (za Q0) (za Q2) (fun h => h40 h.2))
       clear hr hfn E6 E12 E11 E9 E0 Q0 Q1 Q2 h40
       have EN := hide (show O = Pl.putL L ⟨np, nk, nd, nt, nm⟩ by rw [za HO, if_pos (za EC)])
       clear HC HO
       have c1 := (za HA5).one.cell 0
       have p0 := (za HA5).two.cell 0
       have p1 := (za HA5).two.cell 1
       have p2 := (za HA5).two.cell 2
       have p3 := (za HA5).two.cell 3
       have p4 := (za HA5).two.cell 4
       simp only [Pl.Nd.cs, kGs] at c1 p0 p1 p2 p3 p4
       go_wp2_with fail
       refine (za HPU _ (za HA5).bel).mono ?_
       rintro e wT ⟨v, rfl, own, bT⟩
       obtain ⟨a', cap', hvv⟩ := Mem.za3 own
       subst hvv
       have hs5 := (za HA5).three.lt
       have AI := hide ((za HA5).call bT)
       have OW := hide own
       clear own bT HA5 HPU c1 p0 p1 p2 p3 p4
       have d0 := (za AI).three.cell 0
       have d1 := (za AI).three.cell 1
       have f0 := (za AI).three.fr 0
       have f1 := (za AI).three.fr 1
       simp only [kGs] at d0 d1
       go_wp2
       refine bodyPost_ret (v := .agg #[.slice a' (Pl.putL L ⟨np, nk, nd, nt, nm⟩).length cap', .int .i64 0]) (by simp [results, Tryz.results91, go_sem, d0, d1]) rfl ⟨.slice a' (Pl.putL L ⟨np, nk, nd, nt, nm⟩).length cap', by rw [za EC], ?_, ?_⟩
       ·rw [za EN]
        exact Mem.zb7 (Mem.za4 (Mem.za4 (za OW) _ _ (by show w.heap.size + 1 + 1 < _; omega)) _ _ (by show w.heap.size + 1 + 1 < _; omega)) (by omega)
       ·exact ((za AI).bel.setCell (by show w.heap.size ≤ w.heap.size + 1 + 1; omega) _).setCell (by show w.heap.size ≤ w.heap.size + 1 + 1; omega) _
    ·have EC := hide (show C = 11 by rw [za HC]; exact za E11 (za Q1) hdd ⟨hk1, hov⟩)
     have EN := hide (show O = [] by rw [za HO, if_neg (by rw [za EC]; decide)])
     clear HC HO
     clear hov hdd hk1 E6 E12 E11 E9 E0 HAN HPU Q1
     go_wp2_with fail
     refine (zj4.zg5 11 _).mono ?_
     rintro e wI ⟨rfl, bI⟩
     have AI := hide ((za HA4).call bI)
     clear bI HA4
     have d0 := (za AI).three.cell 0
     have d1 := (za AI).three.cell 1
     have f0 := (za AI).three.fr 0
     have f1 := (za AI).three.fr 1
     simp only [kGs] at d0 d1
     go_wp2
     refine bodyPost_ret (v := .agg #[.slice none 0 0, .int .i64 11]) (by simp [results, Tryz.results91, go_sem, d0, d1]) rfl ⟨.slice none 0 0, by rw [za EC], by rw [za EN]; exact Mem.zc7 _ _, ?_⟩
     exact ((za AI).bel.setCell (by show w.heap.size ≤ w.heap.size + 1 + 1; omega) _).setCell (by show w.heap.size ≤ w.heap.size + 1 + 1; omega) _
  ·have EC := hide (show C = 6 by rw [za HC]; exact za E6 ⟨h0, hfu⟩)
   have EN := hide (show O = [] by rw [za HO, if_neg (by rw [za EC]; decide)])
   clear HC HO
   clear hr hfu h0 hUP E6 E12 E11 E9 E0 HDU HOV HAN HPU
   go_wp2_with fail
   refine (zj4.zg5 6 _).mono ?_
   rintro e wI ⟨rfl, bI⟩
   have AI := hide ((za HA2).call bI)
   clear bI HA2
   have d0 := (za AI).three.cell 0
   have d1 := (za AI).three.cell 1
   have f0 := (za AI).three.fr 0
   have f1 := (za AI).three.fr 1
   simp only [kGs] at d0 d1
   go_wp2
   refine bodyPost_ret (v := .agg #[.slice none 0 0, .int .i64 6]) (by simp [results, Tryz.results91, go_sem, d0, d1]) rfl ⟨.slice none 0 0, by rw [za EC], by rw [za EN]; exact Mem.zc7 _ _, ?_⟩
   exact ((za AI).bel.setCell (by show w.heap.size ≤ w.heap.size + 1 + 1; omega) _).setCell (by show w.heap.size ≤ w.heap.size + 1 + 1; omega) _
end WPutC
end Go.Proofs.YtioildojmckepaaGreatDoor
