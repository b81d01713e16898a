import Derived.Test.YtioildojmckepaaGreatDoorG14
import Derived.Test.YtioildojmckepaaGreatDoorG27
namespace Go.Proofs.YtioildojmckepaaGreatDoor
open Go.RowKit
namespace Pl
theorem zn3 {L : List Nd} (h : zb1 L = true) : L.length ≤ 40 ∧ ∀ n ∈ L, zc1 n = true := by
 simp only [zb1, Bool.and_eq_true, decide_eq_true_eq] at h
 exact ⟨h.1, goI_all L _ _ h.2⟩
end Pl
namespace Pl
theorem flat_len (L : List Nd) : (L.flatMap zc4).length = 5 * L.length := by
 induction L with
 | nil => rfl
 | cons n L ih => rw [List.flatMap_cons, List.length_append, ih]; simp [zc4]; omega
theorem ye8 (L : List Nd) : (zj2 L).length = 1 + 5 * L.length := by
 rw [zj2, List.length_cons, flat_len]; omega
theorem tot_app (A B : List ByteArray) : tot (A ++ B) = tot A + tot B := by simp [tot]
theorem flat_tot (L : List Nd) (h : ∀ n ∈ L, zc1 n = true) : tot (L.flatMap zc4) ≤ 400 * L.length := by
 induction L with
 | nil => exact Nat.zero_le _
 | cons n L ih =>
  have h1 := ih (fun m hm => h m (List.mem_cons_of_mem _ hm))
  have hn := h n List.mem_cons_self
  have hp := zk7 (zf9 hn).1
  obtain ⟨hd, ht, hm, hk⟩ := zl3 hn
  have hkk := zt6 hk
  have z1 := zv3 (s := n.path) (by omega)
  have z2 := zv3 (s := n.data) (by omega)
  have z3 := zi8 (n := n.kind) (by omega) (by omega)
  have z4 := zi8 (n := n.time) (by omega) (by omega)
  have z5 := zi8 (n := n.mark) (by omega) (by omega)
  rw [List.flatMap_cons, tot_app, List.length_cons]
  have e : tot (zc4 n) = (zc6.put n.path).size + ((num n.kind).size + ((zc6.put n.data).size + ((num n.time).size + (num n.mark).size))) := by simp [tot, zc4]
  omega
theorem partsT_tot (L : List Nd) (h40 : L.length ≤ 40) (h : ∀ n ∈ L, zc1 n = true) : tot (zj2 L) ≤ 20000 := by
 have h1 := flat_tot L h
 have z := zi8 (n := (L.length : Int)) (by omega) (by omega)
 have e : tot (zj2 L) = (num L.length).size + tot (L.flatMap zc4) := by simp [tot, zj2]
 omega
end Pl
namespace zo6
theorem keep5 {w W W' : World} {X : Nat} {a b c d e : Value} (h : Below w.heap.size w W ∧ W.cell? ⟨X, 0, none⟩ = some a ∧ W.cell? ⟨X, 1, none⟩ = some b ∧ W.cell? ⟨X, 2, none⟩ = some c ∧ W.cell? ⟨X, 3, none⟩ = some d ∧ W.cell? ⟨X, 4, none⟩ = some e) (hb : Below W.heap.size W W') :
  Below w.heap.size w W' ∧ W'.cell? ⟨X, 0, none⟩ = some a ∧ W'.cell? ⟨X, 1, none⟩ = some b ∧ W'.cell? ⟨X, 2, none⟩ = some c ∧ W'.cell? ⟨X, 3, none⟩ = some d ∧ W'.cell? ⟨X, 4, none⟩ = some e := by
 have hX := World.block_lt_of_cell? W ⟨X, 0, none⟩ h.2.1
 exact ⟨h.1.trans (hb.mono h.1.size), (hb.cell (p := ⟨X, 0, none⟩) hX).trans h.2.1, (hb.cell (p := ⟨X, 1, none⟩) hX).trans h.2.2.1, (hb.cell (p := ⟨X, 2, none⟩) hX).trans h.2.2.2.1, (hb.cell (p := ⟨X, 3, none⟩) hX).trans h.2.2.2.2.1, (hb.cell (p := ⟨X, 4, none⟩) hX).trans h.2.2.2.2.2⟩
theorem keep5g {w W W' : World} {X : Nat} {r : Option Nat} {a b c d e : Value} (h : Below w.heap.size w W ∧ W.cell? ⟨X, 0, none⟩ = some a ∧ W.cell? ⟨X, 1, none⟩ = some b ∧ W.cell? ⟨X, 2, none⟩ = some c ∧ W.cell? ⟨X, 3, none⟩ = some d ∧ W.cell? ⟨X, 4, none⟩ = some e) (hg : W.grownBy W' r) (hr : some X ≠ r) (hq : ∀ q, r = some q → w.heap.size ≤ q) :
  Below w.heap.size w W' ∧ W'.cell? ⟨X, 0, none⟩ = some a ∧ W'.cell? ⟨X, 1, none⟩ = some b ∧ W'.cell? ⟨X, 2, none⟩ = some c ∧ W'.cell? ⟨X, 3, none⟩ = some d ∧ W'.cell? ⟨X, 4, none⟩ = some e :=
 ⟨h.1.grown hg h.1.size hq, hg.cell h.2.1 hr, hg.cell h.2.2.1 hr, hg.cell h.2.2.2.1 hr, hg.cell h.2.2.2.2.1 hr, hg.cell h.2.2.2.2.2 hr⟩
set_option linter.unusedSimpArgs false in
set_option maxRecDepth 100000 in
set_option maxHeartbeats 2000000 in
theorem ze9 (a : Option Addr) (cap : Nat) (L : List Pl.Nd) (w : World) (hl : L.length ≤ 1048576) (hv : Mem.zb5 w a L) (hok : ∀ n ∈ L, n.path.size ≤ 1048576 ∧ n.data.size ≤ 1048576)
  (r1 r2 r3 : TypeId) (x1 x2 x3 : Value) (hE : zh9.Errs w r1 r2 r3 x1 x2 x3) :
  Calls Tryz.prog 26 #[.agg #[.slice a L.length cap]] w fun e w' => e = .returned (.string (Pl.zd7 L)) ∧ Below w.heap.size w w' := by
 have b0 : Below w.heap.size w (w.alloc (.cells #[.slice a L.length cap] 36)) := (Below.refl _ _).alloc (Nat.le_refl _) _
 have hr := hide (zh9.zz6 a cap L _ hl (Mem.za5 hv b0) hok r1 r2 r3 x1 x2 x3 (hE.call b0))
 have HT := hide (fun (ht : Pl.zb1 L = true) => Pl.zn3 ht)
 have HV := hide hv
 have hvar := Mem.ze w [.slice a L.length cap] 36
 have E : Hid (Pl.zd7 L = if Pl.zb1 L then (if 8000 < (Pl.zb4 L).size then ⟨#[]⟩ else Pl.zb4 L) else ⟨#[]⟩) := rfl
 generalize Pl.zd7 L = R at E ⊢
 generalize Pl.zb1 L = R2 at E hr HT
 clear hv hok hE
 cases R2
 ·go_enter Tryz.func26, Tryz.ntmps26
  go_wp2_with fail
  refine (za hr).mono ?_
  rintro e w1 ⟨rfl, b1⟩
  have b2 := b0.trans (b1.mono b0.size)
  clear hvar hr b0 b1
  go_wp2
  go_ret
  exact ⟨by rw [za E]; rfl, b2⟩
 obtain ⟨h40, hnb⟩ := za HT rfl
 have HO := hide hnb
 have E2 := hide (show R = if 8000 < (Pl.zb4 L).size then ⟨#[]⟩ else Pl.zb4 L by rw [za E, if_pos rfl])
 clear HT E hnb
 obtain ⟨i0, hi, hz0, hz1, hz2⟩ := info_parts zx4.infoS
 have hpn := hide (fun W => WNum.zq0 (L.length : Int) W (by omega) (by omega))
 go_enter Tryz.func26, Tryz.ntmps26
 go_wp2_with fail
 refine (za hr).mono ?_
 rintro e w1 ⟨rfl, b1⟩
 have b2 := b0.trans (b1.mono b0.size)
 have c0 := (Mem.zf8 hvar b1).2 0 _ rfl
 have V1 := hide (Mem.zf8 hvar b1)
 clear hvar hr b0 b1
 go_wp2_with fail
 refine (za hpn _).mono ?_
 rintro e w2 ⟨rfl, b3⟩
 have b4 := b2.trans (b3.mono b2.size)
 have ca : ∀ o, (w2.alloc o).cell? ⟨w.heap.size, 0, none⟩ = some (.slice a L.length cap) := fun o => (Mem.ya9 (Mem.zf8 (za V1) b3) o).2 0 _ rfl
 clear c0 V1 hpn b2 b3
 have own0 : (w2.alloc (.cells #[.string ⟨(Pl.enc (Pl.fold (L.length : Int))).toArray⟩] 9)).ownsRow w.heap.size 9 1 (.slice (some ⟨w2.heap.size, 0, none⟩) 1 1) 1 [.string ⟨(Pl.enc (Pl.fold (L.length : Int))).toArray⟩] :=
  ⟨rfl, .inr ⟨w2.heap.size, 1, _, rfl, b4.size, heap_alloc_new w2 _, Nat.le_refl _, by unfold maxLen; omega, rfl, rfl⟩⟩
 have OWN := hide own0
 have b5 : Below w.heap.size w (w2.alloc (.cells #[.string ⟨(Pl.enc (Pl.fold (L.length : Int))).toArray⟩] 9)) := b4.alloc b4.size _
 clear own0
 go_wp2
 go_loopw [3, 17] (fun v i wr => ∃ k : Nat, k ≤ L.length ∧ i = .int .i64 (k : Int) ∧ Below w.heap.size w wr ∧ Hid (wr.ownsRow w.heap.size 9 1 v (1 + 5 * k) ((Pl.num L.length :: (L.take k).flatMap Pl.zc4).map Value.string))) (fun _ i _ => L.length - (intOf i).toNat)
 case atStart => exact ⟨0, Nat.zero_le _, rfl, b5, OWN⟩
 case round =>
  obtain ⟨k, hk, rfl, hbel, HOWN⟩ := hrel
  by_cases hlt : k < L.length
  ·obtain ⟨n, hn⟩ : ∃ n, L[k]? = some n := ⟨_, List.getElem?_eq_getElem hlt⟩
   obtain ⟨b, o, rfl, hb, q0, q1, q2, q3, q4⟩ := (Mem.za5 (za HV) hbel) k n hn
   have y1 : (k : Int) < (L.length : Int) := by omega
   have y3 : (0 : Int) ≤ (k : Int) := by omega
   have hnb := za HO n (List.mem_of_getElem? hn)
   have hnr := Pl.zk7 (Pl.zf9 hnb).1
   obtain ⟨hnd, hnt, hnm, hnk⟩ := Pl.zl3 hnb
   have hkk := Pl.zt6 hnk
   have HN := hide (show (Pl.num L.length :: (L.take (k + 1)).flatMap Pl.zc4).map Value.string = (Pl.num L.length :: (L.take k).flatMap Pl.zc4).map Value.string ++ (Pl.zc4 n).map Value.string by
    have h1 := (List.getElem?_eq_some_iff.1 hn)
    rw [List.take_succ_eq_append_getElem h1.1, h1.2, List.flatMap_append]; simp)
   have hown0 := (za HOWN).alloc (.cells #[.string n.path, .int .i64 n.kind, .string n.data, .int .i64 n.time, .int .i64 n.mark] 88)
   have hvl := hide (za HOWN).lt
   have hsl := hbel.size
   obtain ⟨p, k0, d, t, m⟩ := n
   simp only [Pl.zc4] at q0 q1 q2 q3 q4 hnr hnd hnt hnm hkk HN hown0
   have cp := hide (fun W => zc6.ze9 p W (by unfold maxLen; omega))
   have cd := hide (fun W => zc6.ze9 d W (by unfold maxLen; omega))
   have ck := hide (fun W => WNum.zq0 k0 W (by omega) (by omega))
   have ct := hide (fun W => WNum.zq0 t W (by omega) (by omega))
   have cm := hide (fun W => WNum.zq0 m W (by omega) (by omega))
   change Hid (∀ W, Calls Tryz.prog _ _ W fun e w' => e = .returned (.string (Pl.num k0)) ∧ _) at ck
   change Hid (∀ W, Calls Tryz.prog _ _ W fun e w' => e = .returned (.string (Pl.num t)) ∧ _) at ct
   change Hid (∀ W, Calls Tryz.prog _ _ W fun e w' => e = .returned (.string (Pl.num m)) ∧ _) at cm
   generalize zc6.put p = P1 at cp HN
   generalize zc6.put d = D1 at cd HN
   generalize Pl.num k0 = K1 at ck HN
   generalize Pl.num t = T1 at ct HN
   generalize Pl.num m = M1 at cm HN
   generalize (Pl.num L.length :: (L.take k).flatMap Pl.zc4).map Value.string = XS at hown0 HN
   go_wp2_with fail
   have bw1 : Below wr.heap.size wr (wr.alloc (.cells #[.string p, .int .i64 k0, .string d, .int .i64 t, .int .i64 m] 88)) := (Below.refl _ _).alloc (Nat.le_refl _) _
   have hsz : (wr.alloc (.cells #[.string p, .int .i64 k0, .string d, .int .i64 t, .int .i64 m] 88)).heap.size = wr.heap.size + 1 := by simp
   generalize hW0 : wr.alloc (.cells #[.string p, .int .i64 k0, .string d, .int .i64 t, .int .i64 m] 88) = W0
   rw [hW0] at bw1 hsz hown0
   have zn : Mem.Var W0 wr.heap.size [.string p, .int .i64 k0, .string d, .int .i64 t, .int .i64 m] := hW0 ▸ Mem.ze wr [.string p, .int .i64 k0, .string d, .int .i64 t, .int .i64 m] 88
   have bw0 : Below w.heap.size w W0 := hbel.trans (bw1.mono hbel.size)
   have own0 : W0.drew.ownsRow w.heap.size 9 1 u3 (1 + 5 * k) XS := hown0
   clear hW0 q0 q1 q2 q3 q4 hn hnb hnk hown0 HOWN
   refine wp_region_held_drew (S := fun W' => Below w.heap.size w W' ∧ W'.cell? ⟨wr.heap.size, 0, none⟩ = some (.string p) ∧ W'.cell? ⟨wr.heap.size, 1, none⟩ = some (.int .i64 k0) ∧ W'.cell? ⟨wr.heap.size, 2, none⟩ = some (.string d) ∧ W'.cell? ⟨wr.heap.size, 3, none⟩ = some (.int .i64 t) ∧ W'.cell? ⟨wr.heap.size, 4, none⟩ = some (.int .i64 m)) (by kernel_rfl) ?_ (fun hHeld => ?_)
   ·exact ⟨⟨bw0.os, bw0.tape, bw0.output, bw0.size, bw0.block⟩, zn.2 0 _ rfl, zn.2 1 _ rfl, zn.2 2 _ rfl, zn.2 3 _ rfl, zn.2 4 _ rfl⟩
   refine tka (i := 0) rfl ?_
   try simp only [Act.put, kBs]
   refine tka (i := 1) rfl ?_
   try simp only [Act.put, kBs]
   refine tka (i := 2) rfl ?_
   try simp only [Act.put, kBs]
   refine tka (i := 4) rfl ?_
   try simp only [Act.put, kBs]
   refine tka (i := 5) rfl ?_
   try simp only [Act.put, kBs]
   refine tka (i := 7) rfl ?_
   try simp only [Act.put, kBs]
   refine tka (i := 8) rfl ?_
   try simp only [Act.put, kBs]
   refine tka (i := 10) rfl ?_
   try simp only [Act.put, kBs]
   refine tka (i := 11) rfl ?_
   try simp only [Act.put, kBs]
   refine tka (i := 13) rfl ?_
   try simp only [Act.put, kBs]
   refine tka (i := 14) rfl ?_
   try simp only [Act.put, kBs]
   refine wpAnyH_ready (rs := [3]) (by kernel_rfl) (by simp) ?_
   refine AllReadyH.cons rfl (fun K hK => ?_) AllReadyH.nil
   go_simp
   refine (za cp _).mono ?_
   rintro e wX ⟨rfl, bX⟩
   have own1 := Mem.zk3 own0 bX
   clear own0
   refine hK.out _ _ ?_ (fun hHeld => ?_)
   ·exact keep5 hHeld bX
   clear hK K
   try simp only [Act.put, kBs]
   refine wpAnyH_ready (rs := [6]) (by kernel_rfl) (by simp) ?_
   refine AllReadyH.cons rfl (fun K hK => ?_) AllReadyH.nil
   go_simp
   refine (za ck _).mono ?_
   rintro e wX ⟨rfl, bX⟩
   have own2 := Mem.zk3 own1 bX
   clear own1
   refine hK.out _ _ ?_ (fun hHeld => ?_)
   ·exact keep5 hHeld bX
   clear hK K
   try simp only [Act.put, kBs]
   refine wpAnyH_ready (rs := [9]) (by kernel_rfl) (by simp) ?_
   refine AllReadyH.cons rfl (fun K hK => ?_) AllReadyH.nil
   go_simp
   refine (za cd _).mono ?_
   rintro e wX ⟨rfl, bX⟩
   have own3 := Mem.zk3 own2 bX
   clear own2
   refine hK.out _ _ ?_ (fun hHeld => ?_)
   ·exact keep5 hHeld bX
   clear hK K
   try simp only [Act.put, kBs]
   refine wpAnyH_ready (rs := [12]) (by kernel_rfl) (by simp) ?_
   refine AllReadyH.cons rfl (fun K hK => ?_) AllReadyH.nil
   go_simp
   refine (za ct _).mono ?_
   rintro e wX ⟨rfl, bX⟩
   have own4 := Mem.zk3 own3 bX
   clear own3
   refine hK.out _ _ ?_ (fun hHeld => ?_)
   ·exact keep5 hHeld bX
   clear hK K
   try simp only [Act.put, kBs]
   refine wpAnyH_ready (rs := [15]) (by kernel_rfl) (by simp) ?_
   refine AllReadyH.cons rfl (fun K hK => ?_) AllReadyH.nil
   go_simp
   refine (za cm _).mono ?_
   rintro e wX ⟨rfl, bX⟩
   have own5 := Mem.zk3 own4 bX
   clear own4
   refine hK.out _ _ ?_ (fun hHeld => ?_)
   ·exact keep5 hHeld bX
   clear hK K
   try simp only [Act.put, kBs]
   refine wpAnyH_ready (rs := [16]) (by kernel_rfl) (by simp) ?_
   refine AllReadyH.cons rfl (fun K hK => ?_) AllReadyH.nil
   go_simp
   refine hK.out _ _ ?_ (fun hHeld => ?_)
   ·exact keep5 hHeld ((Below.refl _ _).alloc (Nat.le_refl _) _)
   clear hK K
   try simp only [Act.put, kBs]
   have own6 := own5.alloc (.cells #[.string P1, .string K1, .string D1, .string T1, .string M1] 9)
   have hsz6 := hHeld.1.size
   refine wpAnyH_ready (rs := [17]) (by kernel_rfl) (by simp) ?_
   refine AllReadyH.cons rfl (fun K hK => ?_) AllReadyH.nil
   refine Mem.zd0 rfl _ _ 44 rfl w.heap.size 9 i0 (.string ⟨#[]⟩) 1 16 Tryz.underlying44 hi hz0 hz1 hz2 rfl (by decide) _ _ _ rfl own6 ⟨wX.heap.size, 0, none⟩ 5 5 [.string P1, .string K1, .string D1, .string T1, .string M1] rfl rfl (Mem.five_new _ _ _ _ _ _ _ _ rfl) (Mem.five_one _ _ _ _ _) (by unfold maxLen; omega) (by omega) hsz6 ?_
   intro v' wZ hownZ hgrow
   refine hK.out _ _ ?_ (fun hHeld => ?_)
   ·exact keep5g hHeld hgrow (fun e => by have := (za hvl _ e.symm).2; omega) (fun q hq => (za hvl q hq).1)
   clear hK K
   try simp only [Act.put, kBs]
   refine tka (i := 18) rfl ?_
   try simp only [Act.put, kBs]
   refine wpAnyH_done (by kernel_rfl) ?_ _
   have bfin := hide hHeld.1
   have OW := hide (show wZ.ownsRow w.heap.size 9 1 v' (1 + 5 * (k + 1)) ((Pl.num L.length :: (L.take (k + 1)).flatMap Pl.zc4).map Value.string) by rw [za HN]; exact hownZ)
   clear hHeld hownZ hgrow own6 own5
   go_wp2
   go_roundw
   case rel => exact ⟨k + 1, by omega, by go_num, za bfin, OW⟩
   case measure => simp [intOf]; omega
  ·obtain rfl : k = L.length := by omega
   have EL := hide (show (Pl.num L.length :: (L.take L.length).flatMap Pl.zc4) = Pl.zj2 L by rw [List.take_length]; rfl)
   rw [za EL, ← Pl.ye8 L] at HOWN
   have htot := Pl.partsT_tot L h40 (za HO)
   have hplen := Pl.ye8 L
   rcases Mem.texts (za HOWN) with ⟨-, hnil⟩ | ⟨g, cp, rfl, hcap, hm, hgb, hgl, hcell⟩
   ·rw [hnil] at hplen; simp at hplen; omega
   have hj := hide (WJoin.any g 0 cp (Pl.zj2 L) wr (by omega) (by omega) (fun j t ht => by rw [Nat.zero_add]; exact hcell j t ht) hgl)
   change Hid (Calls Tryz.prog _ _ wr fun e w' => e = .returned (.string (Pl.zb4 L)) ∧ _) at hj
   generalize Pl.zb4 L = Y at hj E2
   clear hcell EL HOWN hplen htot
   go_wp2_with fail
   refine (za hj).mono ?_
   rintro e wJ ⟨rfl, bJ⟩
   have bfin := hbel.trans (bJ.mono hbel.size)
   clear hj bJ
   by_cases hy : 8000 < Y.size
   ·have E3 := hide (show R = ⟨#[]⟩ by rw [za E2, if_pos hy])
    clear E2
    go_wp2
    go_ret
    exact ⟨zd3 (za E3).symm, bfin⟩
   ·have E3 := hide (show R = Y by rw [za E2, if_neg hy])
    clear E2
    go_wp2
    go_ret
    exact ⟨zd3 (za E3).symm, bfin⟩
end zo6
end Go.Proofs.YtioildojmckepaaGreatDoor
