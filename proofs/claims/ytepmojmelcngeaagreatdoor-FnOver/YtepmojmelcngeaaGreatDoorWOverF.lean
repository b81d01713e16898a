/- The program's Over. -/
import Derived.Test.YtepmojmelcngeaaGreatDoorG37
import Derived.Test.YtepmojmelcngeaaGreatDoorPlainOverC
import Derived.Test.YtepmojmelcngeaaGreatDoorG27
import Derived.Deep.Cut
namespace Go.Proofs.YtepmojmelcngeaaGreatDoor
open Go.RowKit Go.Maps
namespace WGather
set_option linter.unusedSimpArgs false in
set_option maxRecDepth 100000 in
set_option maxHeartbeats 2000000 in
theorem impl_any (a : Option Addr) (cap : Nat) (Ts : List Pl.Tr) (O : List Pl.Nd) (w : World) (hl : Ts.length ≤ 1048576) (hv : Mem.isTrees w a Ts) (hok : ∀ t ∈ Ts, t.L.length ≤ 1048576 ∧ ∀ n ∈ t.L, n.path.size ≤ 1048576 ∧ n.data.size ≤ 1048576)
    (hO : Pl.layB (Ts.map (·.L)) = true → Pl.AllN (Ts.map (·.L)) O) (x : Nat → Addr) (hE : WIs.Six w x) :
    Calls Tryz.prog 27 #[.agg #[.slice a Ts.length cap]] w fun e w' => ∃ v, e = .returned (.agg #[v, .int .i64 (Pl.overC (Ts.map (·.L)) O)]) ∧ Mem.ownN w' w.heap.size v (Pl.overN (Ts.map (·.L)) O) ∧ Below w.heap.size w w' := by
  have b0 : Below w.heap.size w ((w.alloc (.cells #[.slice a Ts.length cap] 60)).alloc (.cells #[.slice none 0 0, .int .i64 0] 33)) := ((Below.refl _ _).alloc (Nat.le_refl _) _).alloc (by simp) _
  have T0 : Mem.Blk ((w.alloc (.cells #[.slice a Ts.length cap] 60)).alloc (.cells #[.slice none 0 0, .int .i64 0] 33)) w.heap.size #[.slice a Ts.length cap] 60 := (Mem.Blk.new _ _ _).alloc _
  have V2 : Mem.Blk ((w.alloc (.cells #[.slice a Ts.length cap] 60)).alloc (.cells #[.slice none 0 0, .int .i64 0] 33)) (w.heap.size + 1) #[.slice none 0 0, .int .i64 0] 33 := Mem.new_two _ _ _
  have HOV := hide (fun W (b : Below w.heap.size w W) => WOverI.over_any a cap Ts W hl (Mem.trees_call hv b) hok _ _ _ _ _ _ (hE.call b).errs)
  have HLT := hide (fun h => Pl.lay_ok (Ls := Ts.map (·.L)) h)
  have HE := hide hE
  have HO := hide hO
  generalize Ts.map (·.L) = Ls at HOV HLT HO ⊢
  clear hv hok hE hO
  have c0 := T0.cell 0
  simp only [kA0, kA1] at c0
  go_enter Tryz.func27, Tryz.ntmps27
  go_wp2_with fail
  refine (unhide HOV _ b0).mono ?_
  rintro e w1 ⟨h1, b1⟩
  have bw1 := b0.trans (b1.mono b0.size)
  have V3 := V2.call b1
  clear b0 T0 V2 c0 HOV
  rcases h1 with ⟨hL, v, Bs, rfl, hov⟩ | ⟨hL, rfl⟩
  rotate_left
  · have EC : Hid (Pl.overC Ls O = 1) := by show _ = _; rw [Pl.overC, if_neg (by rw [hL]; simp)]
    have EN : Hid (Pl.overN Ls O = []) := by show _ = _; rw [Pl.overN, if_neg (by rw [hL]; simp)]
    have hcd := hide (WIs.code1 x w1 ((unhide HE).call bw1))
    clear b1 HLT hL HO HE
    go_wp2_with fail
    refine (unhide hcd).mono ?_
    rintro e w2 ⟨rfl, hw2⟩
    subst w2
    have d0 := V3.cell 0
    have d1 := V3.cell 1
    have f0 := V3.fr 0
    have f1 := V3.fr 1
    simp only [kA0, kA1, kA2] at d0 d1
    clear V3 hcd
    go_wp2
    refine bodyPost_ret (v := .agg #[.slice none 0 0, .int .i64 1]) (by simp [results, Tryz.results27, go_sem, d0, d1]) rfl ⟨.slice none 0 0, by rw [unhide EC], by rw [unhide EN]; exact Mem.ownN_nil _ _, ?_⟩
    exact (bw1.setCell (by show w.heap.size ≤ w.heap.size + 1; omega) _).setCell (by show w.heap.size ≤ w.heap.size + 1; omega) _
  obtain ⟨h4, htr⟩ := unhide HLT hL
  have hall := unhide HO hL
  have hwh := hide (whole_any _ v Bs Ls w1 hov h4 htr x ((unhide HE).call bw1))
  have HAP := hide (fun C h1 h2 => Pl.all_perm (C := C) htr hall h1 h2)
  have HRI := hide hall.rise
  have HTO := hide (fun n hn => Pl.told_ok (n := n) htr hn)
  have EC1 : Hid (40 < O.length → Pl.overC Ls O = 9 ∧ Pl.overN Ls O = []) := fun h => ⟨by rw [Pl.overC, if_pos hL, if_pos h], by rw [Pl.overN, if_neg (by omega)]⟩
  have EC2 : Hid (O.length ≤ 40 → Pl.overC Ls O = 0 ∧ Pl.overN Ls O = O) := fun h => ⟨by rw [Pl.overC, if_pos hL, if_neg (by omega)], by rw [Pl.overN, if_pos ⟨hL, h⟩]⟩
  obtain ⟨a1, cap1, rfl⟩ := WSight.ov_shape hov
  have hsw := bw1.size
  clear b1 hov HO HLT hL hall
  go_wp2_with fail
  refine (unhide hwh).mono ?_
  rintro e w2 h2
  clear hwh
  rcases h2 with ⟨N, D, C, rfl, hC4, hN, G, hC⟩ | ⟨C, rfl, hC4, hap, hC, b2⟩
  · have hp := unhide HAP C G.gt.apart hC
    have hlen := hp.length_eq
    obtain ⟨e1, e2⟩ := unhide EC2 (by omega)
    have E1 := hide e1
    have E2 := hide e2
    have hris := hide (WRising.any w1.heap.size N C O D w2 G.map (by omega) G.gt.reads G.gt.apart hp (unhide HRI) (fun n hn => unhide HTO n ((hC n).1 hn)))
    have b3 := bw1.trans (G.bel.mono bw1.size)
    have V4 := V3.call G.bel
    clear G hC hp e1 e2 EC1 EC2 HAP HRI HTO V3 bw1 HE hlen
    go_wp2_with fail
    refine (unhide hris).mono ?_
    rintro e w3 ⟨v, rfl, own, b4⟩
    obtain ⟨a', cap', rfl⟩ := Mem.own_shape own
    have b5 := b3.trans (b4.mono b3.size)
    have V5 := V4.call b4
    have HS : w.heap.size + 1 < w2.heap.size := V4.lt
    have OW := hide own
    have V6 : Mem.Blk ((w3.setCell ⟨w.heap.size + 1, 0, none⟩ (.slice a' O.length cap')).setCell ⟨w.heap.size + 1, 1, none⟩ (.int .i64 0)) (w.heap.size + 1) #[.slice a' O.length cap', .int .i64 0] 33 := by
      have h := (V5.put 0 (.slice a' O.length cap')).put 1 (.int .i64 0)
      simp only [kB3] at h
      exact h
    have RT : Hid (Below w.heap.size w ((w3.setCell ⟨w.heap.size + 1, 0, none⟩ (.slice a' O.length cap')).setCell ⟨w.heap.size + 1, 1, none⟩ (.int .i64 0)) ∧ Mem.ownN ((w3.setCell ⟨w.heap.size + 1, 0, none⟩ (.slice a' O.length cap')).setCell ⟨w.heap.size + 1, 1, none⟩ (.int .i64 0)) w.heap.size (.slice a' O.length cap') O) :=
      ⟨(b5.setCell (by show w.heap.size ≤ w.heap.size + 1; omega) _).setCell (by show w.heap.size ≤ w.heap.size + 1; omega) _, Mem.ownN_mono (Mem.ownN_set (Mem.ownN_set own _ _ (by show w.heap.size + 1 < _; omega)) _ _ (by show w.heap.size + 1 < _; omega)) (by omega)⟩
    have d0 := V5.cell 0
    have d1 := V5.cell 1
    have f0 := V5.fr 0
    have f1 := V5.fr 1
    simp only [kA0, kA1, kA2] at d0 d1
    have HV6 := hide V6
    clear V5 V6 b4 b5 own OW hris V4 b3
    go_wp2
    generalize (w3.setCell ⟨w.heap.size + 1, 0, none⟩ (.slice a' O.length cap')).setCell ⟨w.heap.size + 1, 1, none⟩ (.int .i64 0) = WR at RT HV6 ⊢
    have q0 := (unhide HV6).cell 0
    have q1 := (unhide HV6).cell 1
    simp only [kA0, kA1, kA2] at q0 q1
    exact bodyPost_ret (v := .agg #[.slice a' O.length cap', .int .i64 0]) (by simp [results, Tryz.results27, go_sem, q0, q1]) rfl ⟨.slice a' O.length cap', by rw [unhide E1], by rw [unhide E2]; exact (unhide RT).2, (unhide RT).1⟩
  · have hp := unhide HAP C hap hC
    have hlen := hp.length_eq
    obtain ⟨e1, e2⟩ := unhide EC1 (by omega)
    have EC := hide e1
    have EN := hide e2
    have bw2 := bw1.trans (b2.mono bw1.size)
    have V4 := V3.call b2
    have hcd := hide (WIs.code5 x w2 ((unhide HE).call bw2))
    clear hp hC hap e1 e2 EC1 EC2 HAP HRI HTO V3 bw1 HE b2 hlen
    go_wp2_with fail
    refine (unhide hcd).mono ?_
    rintro e w3 ⟨rfl, hw3⟩
    subst w3
    have d0 := V4.cell 0
    have d1 := V4.cell 1
    have f0 := V4.fr 0
    have f1 := V4.fr 1
    simp only [kA0, kA1, kA2] at d0 d1
    clear V4 hcd
    go_wp2
    refine bodyPost_ret (v := .agg #[.slice none 0 0, .int .i64 9]) (by simp [results, Tryz.results27, go_sem, d0, d1]) rfl ⟨.slice none 0 0, by rw [unhide EC], by rw [unhide EN]; exact Mem.ownN_nil _ _, ?_⟩
    exact (bw2.setCell (by show w.heap.size ≤ w.heap.size + 1; omega) _).setCell (by show w.heap.size ≤ w.heap.size + 1; omega) _
end WGather
end Go.Proofs.YtepmojmelcngeaaGreatDoor
