/- Several texts of one claim in one file: WMakeP, WDirG. -/
import Derived.Test.YtppmlbofhghghaaGreatDoorG34
import Derived.Test.YtppmlbofhghghaaGreatDoorG46
import Derived.Test.YtppmlbofhghghaaGreatDoorPlainChg
namespace Go.Proofs.YtppmlbofhghghaaGreatDoor
open Go.RowKit Go.Maps
namespace Pl
def makC (L : List Nd) (n : Nd) : Int := if L.find? (fun m => decide (m.path = n.path)) = none then addC L n else 7
end Pl
namespace zc3
set_option linter.unusedSimpArgs false in
set_option maxRecDepth 100000 in
set_option maxHeartbeats 2000000 in
theorem makeP_any (B : Nat) (L : List Pl.Nd) (n : Pl.Nd) (w : World) (ht : Pl.za5 L = true) (hnb : Pl.zb n = true) (x : Nat → Addr) (hE : WIs.Six w x) (hown : w.ownsMap Tryz.prog 9 MapN.elem B 40 (MapN.mapOf L)) :
  Calls Tryz.prog 88 #[.map (some B), n.val] w fun e w' => Did w w' e B (Pl.makC L n) (Pl.putL L n) := by
 have hC := Pl.zk4 ht
 have hp8 : n.path.size ≤ 8000 := by have := Pl.zb8 (Pl.za9 hnb).1; omega
 have HPU := hide (fun W (b : Below w.heap.size w W) => WPutI.put_any B L n W (zc2.zd6 hown b) hC (Pl.zf9 ht).1 (Pl.zf9 ht).2.1 (Pl.zf9 ht).2.2 ⟨by omega, by have := (Pl.zd3 hnb).1; omega⟩ x (hE.call b))
 have HFIN : Hid (∀ w' : World, (∃ D', w'.ownsMap Tryz.prog 9 MapN.elem B 41 D' ∧ MapN.Reads D' (L.filter (fun m => !decide (m.path = n.path)) ++ [n])) → ∃ N D' C, N ≤ 1000 ∧ w'.ownsMap Tryz.prog 9 MapN.elem B N D' ∧ MapN.Reads D' C ∧ C.Pairwise (fun a b => a.path ≠ b.path) ∧ (Pl.putL L n).Perm C ∧ (Pl.putL L n).Pairwise (fun a b => Pl.ltP a.path b.path = true) ∧ (∀ n ∈ C, Pl.za3 n.path = true ∧ n.data.size ≤ 1048576)) := fun w' h => put_fin ht hnb h
 have HCD := hide (fun W (b : Below w.heap.size w W) i hi => WCutF.yi2 x W (hE.call b) i hi)
 have HM := hide hown
 have HAP := hide hC
 have HNB := hide hnb
 have EC : Hid (Pl.makC L n = if L.find? (fun m => decide (m.path = n.path)) = none then Pl.addC L n else 7) := rfl
 generalize Pl.makC L n = c at EC ⊢
 generalize Pl.putL L n = O at HFIN ⊢
 obtain ⟨np, nk, nd, nt, nm⟩ := n
 simp only [Pl.Nd.val] at hp8 HPU HFIN EC HNB ⊢
 clear hown hC hE hnb
 have b0 : Below w.heap.size w (w.alloc (.cells #[.string np, .int .i64 nk, .string nd, .int .i64 nt, .int .i64 nm] 47)) := (Below.refl _ _).alloc (Nat.le_refl _) _
 have V0 := Mem.Blk.new w #[.string np, .int .i64 nk, .string nd, .int .i64 nt, .int .i64 nm] 47
 have HM0 := hide (zc2.zd6 (za HM) b0)
 have hkey := MapN.zi9 (p := np) (by unfold maxLen; omega)
 have HRN := hide zk
 have HRY := hide zk6
 have HNO := hide need_ok
 have HNN := hide yg2
 have HNI := hide WCutF.code_nil
 have hg : ∀ {W : World}, Below w.heap.size w W → w.grownBy W (some B) := fun b => ⟨b.os, b.tape, b.output, b.size, fun j hj _ => b.block j hj⟩
 cases hf : L.find? (fun m => decide (m.path = np)) with
 | none =>
  have hmiss : ∀ n ∈ L, n.path ≠ np := fun n hn => by simpa using List.find?_eq_none.1 hf n hn
  have ha := hide (MapN.zp7 hmiss)
  have ha2 := hide (Maps.atKey_of_not_has (za ha) (MapN.dat ⟨⟨#[]⟩, 0, ⟨#[]⟩, 0, 0⟩))
  have EC2 : Hid (c = Pl.addC L ⟨np, nk, nd, nt, nm⟩) := by have := za EC; rw [hf, if_pos rfl] at this; exact this
  clear EC hmiss hf HRY
  go_enter Tryz.func88, Tryz.ntmps88
  go_wp2_with (at_lookup; refine MapN.look_ok _ rfl _ _ 101 rfl 9 47 MapN.law Tryz.underlying101 (MapN.za7 _) B 40 (MapN.mapOf L) rfl (za HM0) _ _ rfl hkey ⟨⟨#[]⟩, 0, ⟨#[]⟩, 0, 0⟩ (za ha2) false (za ha) ?_)
  refine (za HRN 7 _).mono ?_
  rintro e w1 ⟨rfl, rfl⟩
  have b1 := b0.alloc b0.size (.cells #[.string ⟨#[]⟩, .int .i64 0, .string ⟨#[]⟩, .int .i64 0, .int .i64 0] 47)
  have V1 := V0.alloc (.cells #[.string ⟨#[]⟩, .int .i64 0, .string ⟨#[]⟩, .int .i64 0, .int .i64 0] 47)
  have p0 := V1.cell 0
  have p1 := V1.cell 1
  have p2 := V1.cell 2
  have p3 := V1.cell 3
  have p4 := V1.cell 4
  simp only [kA0, kA1, kA2] at p0 p1 p2 p3 p4
  clear b0 V0 HM0
  go_wp2_with fail
  refine (za HPU _ b1).mono ?_
  rintro e w2 ⟨h2⟩
  rcases h2 with ⟨i, hi, rfl, hco, b2⟩ | ⟨rfl, -, hadd, hD, hgr⟩
  ·have bw2 := b1.trans (b2.mono b1.size)
   have hc : WIs.codeOf i = c := by rw [if_pos (za HNB)] at hco; rw [hco, za EC2]
   have hcd := hide (za HCD _ bw2 i hi)
   rw [hc] at hcd
   have hc0 : c ≠ 0 := by rw [← hc]; exact WCutF.code_pos i
   clear HPU HFIN HCD HNO HNI hco EC2 hc
   go_wp2_with fail
   refine (za hcd).mono ?_
   rintro e w3 ⟨rfl, rfl⟩
   go_wp2_with fail
   refine (za HNN c hc0 _).mono ?_
   rintro e w4 ⟨rfl, rfl⟩
   go_wp2_with fail
   exact ⟨rfl, ⟨.inr ⟨hc0, rfl⟩, hg bw2⟩⟩
  ·have hc : c = 0 := by rw [za EC2, hadd]
   subst hc
   have hfin := hide (za HFIN _ hD)
   have hgr2 := hide (Mem.zj7 (hg b1) hgr)
   clear HPU HFIN HCD HNN hadd EC2 hD hgr p0 p1 p2 p3 p4 V1 b1
   go_wp2_with fail
   refine (za HNI _).mono ?_
   rintro e w3 ⟨rfl, rfl⟩
   go_wp2_with fail
   refine (za HNO _).mono ?_
   rintro e w4 ⟨rfl, rfl⟩
   go_wp2_with fail
   go_end0
   exact ⟨.inl ⟨rfl, rfl, za hfin⟩, za hgr2⟩
 | some m =>
  have hm1 := List.mem_of_find?_eq_some hf
  have hm2 : m.path = np := by simpa using List.find?_some hf
  obtain ⟨y1, y2⟩ := MapN.zn2 (za HAP) hm1
  rw [hm2] at y1 y2
  have ha := hide y1
  have ha2 := hide (y2 (MapN.dat ⟨⟨#[]⟩, 0, ⟨#[]⟩, 0, 0⟩))
  have hc : c = 7 := by have := za EC; rw [hf, if_neg (by simp)] at this; exact this
  subst hc
  clear EC hf hm1 hm2 y1 y2 HPU HFIN HCD HRN
  go_enter Tryz.func88, Tryz.ntmps88
  go_wp2_with (at_lookup; refine MapN.look_ok _ rfl _ _ 101 rfl 9 47 MapN.law Tryz.underlying101 (MapN.za7 _) B 40 (MapN.mapOf L) rfl (za HM0) _ _ rfl hkey m (za ha2) true (za ha) ?_)
  refine (za HRY 7 _).mono ?_
  rintro e w1 ⟨rfl, rfl⟩
  go_wp2_with fail
  exact ⟨rfl, ⟨.inr ⟨by decide, rfl⟩, hg (b0.alloc b0.size _)⟩⟩
end zc3
end Go.Proofs.YtppmlbofhghghaaGreatDoor

namespace Go.Proofs.YtppmlbofhghghaaGreatDoor
open Go.RowKit Go.Maps
namespace zc3
set_option linter.unusedSimpArgs false in
set_option maxRecDepth 100000 in
set_option maxHeartbeats 2000000 in
theorem dir_specG (a : Option Addr) (cap : Nat) (L : List Pl.Nd) (p : ByteArray) (t : Int) (w : World) (hl : L.length ≤ 1048576) (hA : zb1.okA w a cap L) (hv : Mem.za1 w a L) (hok : ∀ n ∈ L, n.path.size ≤ 1048576 ∧ n.data.size ≤ 1048576) (hp : p.size ≤ 1048576) :
  Calls Tryz.prog 41 #[.agg #[.slice a L.length cap], .string p, .int .i64 t] w fun e w' => ∃ v, e = .returned (.agg #[v, .int .i64 (Pl.chgC L (⟨p, 1, ⟨#[]⟩, t, 0⟩ : Pl.Nd) (Pl.makC L (⟨p, 1, ⟨#[]⟩, t, 0⟩ : Pl.Nd)))]) ∧ Mem.ownN w' w.heap.size v (Pl.chgO L (⟨p, 1, ⟨#[]⟩, t, 0⟩ : Pl.Nd) (Pl.makC L (⟨p, 1, ⟨#[]⟩, t, 0⟩ : Pl.Nd)) (Pl.putL L (⟨p, 1, ⟨#[]⟩, t, 0⟩ : Pl.Nd))) ∧ Below w.heap.size w w' := by
 have hd : (⟨#[]⟩ : ByteArray).size ≤ 1048576 := by decide
 have b0 : Below w.heap.size w ((w.alloc (.cells #[.slice a L.length cap] 50)).alloc (.cells #[.slice none 0 0, .int .i64 0] 55)) := ((Below.refl _ _).alloc (Nat.le_refl _) _).alloc (by simp) _
 have b1 : Below w.heap.size w (((w.alloc (.cells #[.slice a L.length cap] 50)).alloc (.cells #[.slice none 0 0, .int .i64 0] 55)).alloc (.cells #[.string p, .int .i64 1, .string ⟨#[]⟩, .int .i64 t, .int .i64 0] 47)) := b0.alloc (by simp; omega) _
 have R0 : Mem.Blk ((w.alloc (.cells #[.slice a L.length cap] 50)).alloc (.cells #[.slice none 0 0, .int .i64 0] 55)) (w.heap.size + 1) #[.slice none 0 0, .int .i64 0] 55 := Mem.zg0 _ _ _
 have T1 : Mem.Blk (((w.alloc (.cells #[.slice a L.length cap] 50)).alloc (.cells #[.slice none 0 0, .int .i64 0] 55)).alloc (.cells #[.string p, .int .i64 1, .string ⟨#[]⟩, .int .i64 t, .int .i64 0] 47)) w.heap.size #[.slice a L.length cap] 50 := ((Mem.Blk.new _ _ _).alloc _).alloc _
 have R1 : Mem.Blk (((w.alloc (.cells #[.slice a L.length cap] 50)).alloc (.cells #[.slice none 0 0, .int .i64 0] 55)).alloc (.cells #[.string p, .int .i64 1, .string ⟨#[]⟩, .int .i64 t, .int .i64 0] 47)) (w.heap.size + 1) #[.slice none 0 0, .int .i64 0] 55 := R0.alloc _
 have N1 : Mem.Blk (((w.alloc (.cells #[.slice a L.length cap] 50)).alloc (.cells #[.slice none 0 0, .int .i64 0] 55)).alloc (.cells #[.string p, .int .i64 1, .string ⟨#[]⟩, .int .i64 t, .int .i64 0] 47)) (w.heap.size + 1 + 1) #[.string p, .int .i64 1, .string ⟨#[]⟩, .int .i64 t, .int .i64 0] 47 := by
  have h : Mem.Blk (((w.alloc (.cells #[.slice a L.length cap] 50)).alloc (.cells #[.slice none 0 0, .int .i64 0] 55)).alloc (.cells #[.string p, .int .i64 1, .string ⟨#[]⟩, .int .i64 t, .int .i64 0] 47)) ((w.alloc (.cells #[.slice a L.length cap] 50)).alloc (.cells #[.slice none 0 0, .int .i64 0] 55)).heap.size #[.string p, .int .i64 1, .string ⟨#[]⟩, .int .i64 t, .int .i64 0] 47 := Mem.Blk.new _ _ _
  rw [show ((w.alloc (.cells #[.slice a L.length cap] 50)).alloc (.cells #[.slice none 0 0, .int .i64 0] 55)).heap.size = w.heap.size + 1 + 1 by simp] at h
  exact h
 have HPL := hide (fun W (b : Below w.heap.size w W) => yc2.zm3 a cap L W hl (Mem.za0 hv b) hok)
 have HND := hide (fun W => zv9.zm3 (⟨p, 1, ⟨#[]⟩, t, 0⟩ : Pl.Nd) W hp hd)
 have HAT := hide (fun W (b : Below w.heap.size w W) => zk5.zr1 a cap L p W hl (Mem.za0 hv b))
 have HNV := hide (fun W (b : Below w.heap.size w W) => Mem.za0 hv b)
 have HAD := hide (fun W (b : Below w.heap.size w W) (h40 : L.length ≤ 1000) (h8 : ∀ m ∈ L, m.path.size ≤ 8000) (hn8 : p.size ≤ 8000) => WPutC.zq a cap L (⟨p, 1, ⟨#[]⟩, t, 0⟩ : Pl.Nd) W h40 (zb1.zg3 hA b.size) (Mem.za0 hv b) h8 hn8)
 simp only [Pl.Nd.val] at HND HAD
 clear hv hok
 by_cases hz : 8000 < p.size
 ·have t0 : (8000 : Int) < (p.size : Int) := by omega
  go_enter Tryz.func41, Tryz.ntmps41
  have EC : Hid (Pl.chgC L (⟨p, 1, ⟨#[]⟩, t, 0⟩ : Pl.Nd) (Pl.makC L (⟨p, 1, ⟨#[]⟩, t, 0⟩ : Pl.Nd)) = 2) := hide (Pl.chg_long (by simp; omega))
  go_wp2_with fail
  refine (zg7.zc1 2 _).mono ?_
  rintro e wI ⟨rfl, bI⟩
  have bJ := b0.trans (bI.mono b0.size)
  have RJ := R0.call bI
  have d0 := RJ.cell 0
  have f0 := RJ.fr 0
  have d1 := RJ.cell 1
  have f1 := RJ.fr 1
  simp only [kA0, kA1, kA2] at d0 d1
  go_wp2
  refine bodyPost_ret (v := .agg #[.slice none 0 0, .int .i64 2]) (by simp [results, Tryz.results41, go_sem, d0, d1]) rfl ⟨.slice none 0 0, by rw [za EC], by rw [Pl.chgO, za EC]; exact Mem.zb6 _ _, ?_⟩
  exact (bJ.setCell (by show w.heap.size ≤ w.heap.size + 1; omega) _).setCell (by show w.heap.size ≤ w.heap.size + 1; omega) _
 have t0 : ¬ (8000 : Int) < (p.size : Int) := by omega
 have hz' : p.size ≤ 8000 := by omega
 have hzz : ((⟨p, 1, ⟨#[]⟩, t, 0⟩ : Pl.Nd)).path.size ≤ 8000 ∧ ((⟨p, 1, ⟨#[]⟩, t, 0⟩ : Pl.Nd)).data.size ≤ 8000 := ⟨hz', (by decide : (⟨#[]⟩ : ByteArray).size ≤ 8000)⟩
 have c0 := T1.cell 0
 simp only [kA0, kA1] at c0
 clear hz b0 R0
 go_enter Tryz.func41, Tryz.ntmps41
 go_wp2_with fail
 refine (za HPL _ b1).mono ?_
 rintro e w1 ⟨rfl, bx⟩
 have bw1 := b1.trans (bx.mono b1.size)
 have T2 := T1.call bx
 have R2 := R1.call bx
 have N2 := N1.call bx
 have n0 := N2.cell 0
 have n1 := N2.cell 1
 have n2 := N2.cell 2
 have n3 := N2.cell 3
 have n4 := N2.cell 4
 simp only [kA0, kA1, kA2] at n0 n1 n2 n3 n4
 clear b1 bx T1 R1 N1 c0
 cases hP : Pl.zd1 L
 ·skip
  have EC : Hid (Pl.chgC L (⟨p, 1, ⟨#[]⟩, t, 0⟩ : Pl.Nd) (Pl.makC L (⟨p, 1, ⟨#[]⟩, t, 0⟩ : Pl.Nd)) = 1) := hide (Pl.yj hzz (.inl hP))
  go_wp2_with fail
  refine (zg7.zc1 1 _).mono ?_
  rintro e wI ⟨rfl, bI⟩
  have bJ := bw1.trans (bI.mono bw1.size)
  have RJ := R2.call bI
  have d0 := RJ.cell 0
  have f0 := RJ.fr 0
  have d1 := RJ.cell 1
  have f1 := RJ.fr 1
  simp only [kA0, kA1, kA2] at d0 d1
  go_wp2
  refine bodyPost_ret (v := .agg #[.slice none 0 0, .int .i64 1]) (by simp [results, Tryz.results41, go_sem, d0, d1]) rfl ⟨.slice none 0 0, by rw [za EC], by rw [Pl.chgO, za EC]; exact Mem.zb6 _ _, ?_⟩
  exact (bJ.setCell (by show w.heap.size ≤ w.heap.size + 1; omega) _).setCell (by show w.heap.size ≤ w.heap.size + 1; omega) _
 go_wp2_with fail
 refine (za HND _).mono ?_
 rintro e w2 ⟨rfl, bx⟩
 have bw2 := bw1.trans (bx.mono bw1.size)
 have T3 := T2.call bx
 have R3 := R2.call bx
 have N3 := N2.call bx
 have c0 := T3.cell 0
 simp only [kA0, kA1] at c0
 clear bw1 bx T2 R2 N2 n0 n1 n2 n3 n4
 cases hQ : Pl.zb (⟨p, 1, ⟨#[]⟩, t, 0⟩ : Pl.Nd)
 ·skip
  have EC : Hid (Pl.chgC L (⟨p, 1, ⟨#[]⟩, t, 0⟩ : Pl.Nd) (Pl.makC L (⟨p, 1, ⟨#[]⟩, t, 0⟩ : Pl.Nd)) = 1) := hide (Pl.yj hzz (.inr hQ))
  go_wp2_with fail
  refine (zg7.zc1 1 _).mono ?_
  rintro e wI ⟨rfl, bI⟩
  have bJ := bw2.trans (bI.mono bw2.size)
  have RJ := R3.call bI
  have d0 := RJ.cell 0
  have f0 := RJ.fr 0
  have d1 := RJ.cell 1
  have f1 := RJ.fr 1
  simp only [kA0, kA1, kA2] at d0 d1
  go_wp2
  refine bodyPost_ret (v := .agg #[.slice none 0 0, .int .i64 1]) (by simp [results, Tryz.results41, go_sem, d0, d1]) rfl ⟨.slice none 0 0, by rw [za EC], by rw [Pl.chgO, za EC]; exact Mem.zb6 _ _, ?_⟩
  exact (bJ.setCell (by show w.heap.size ≤ w.heap.size + 1; omega) _).setCell (by show w.heap.size ≤ w.heap.size + 1; omega) _
 go_wp2_with fail
 refine (za HAT _ bw2).mono ?_
 rintro e w3 ⟨⟨r, rfl, hr⟩, bx⟩
 have bw3 := bw2.trans (bx.mono bw2.size)
 have T4 := T3.call bx
 have R4 := R3.call bx
 have N4 := N3.call bx
 have c0 := T4.cell 0
 simp only [kA0, kA1] at c0
 have n0 := N4.cell 0
 have n1 := N4.cell 1
 have n2 := N4.cell 2
 have n3 := N4.cell 3
 have n4 := N4.cell 4
 simp only [kA0, kA1, kA2] at n0 n1 n2 n3 n4
 clear bw2 bx T3 R3 N3
 have htr := Pl.ze7 hP
 have had := hide (za HAD _ bw3 (by have := (Pl.zf9 htr).2.2; omega) (fun m hm => by have := Pl.zb8 ((Pl.zf9 htr).2.1 m hm).1; omega) hz')
 clear HAD htr
 by_cases h0 : 0 ≤ r
 ·have h1 : L.find? (fun m => decide (m.path = p)) ≠ none := by
   rcases hr.out with ⟨k, m, _, _, h3⟩ | ⟨h4, _⟩
   ·rw [h3]; simp
   ·omega
  have EC : Hid (Pl.chgC L (⟨p, 1, ⟨#[]⟩, t, 0⟩ : Pl.Nd) (Pl.makC L (⟨p, 1, ⟨#[]⟩, t, 0⟩ : Pl.Nd)) = 7) := hide (by rw [Pl.zw0 hzz hP hQ, Pl.makC, if_neg h1])
  go_wp2_with fail
  refine (zg7.zc1 7 _).mono ?_
  rintro e wI ⟨rfl, bI⟩
  have bJ := bw3.trans (bI.mono bw3.size)
  have RJ := R4.call bI
  have d0 := RJ.cell 0
  have f0 := RJ.fr 0
  have d1 := RJ.cell 1
  have f1 := RJ.fr 1
  simp only [kA0, kA1, kA2] at d0 d1
  go_wp2
  refine bodyPost_ret (v := .agg #[.slice none 0 0, .int .i64 7]) (by simp [results, Tryz.results41, go_sem, d0, d1]) rfl ⟨.slice none 0 0, by rw [za EC], by rw [Pl.chgO, za EC]; exact Mem.zb6 _ _, ?_⟩
  exact (bJ.setCell (by show w.heap.size ≤ w.heap.size + 1; omega) _).setCell (by show w.heap.size ≤ w.heap.size + 1; omega) _
 have h1 : L.find? (fun m => decide (m.path = p)) = none := by
  rcases hr.out with ⟨k, m, h2, _, _⟩ | ⟨_, h4⟩
  ·omega
  ·exact h4
 have EC : Hid (Pl.chgC L (⟨p, 1, ⟨#[]⟩, t, 0⟩ : Pl.Nd) (Pl.makC L (⟨p, 1, ⟨#[]⟩, t, 0⟩ : Pl.Nd)) = Pl.addC L (⟨p, 1, ⟨#[]⟩, t, 0⟩ : Pl.Nd)) := by rw [Pl.zw0 hzz hP hQ, Pl.makC, if_pos h1]; exact rfl
 clear h1 hr
 have EO : Hid (Pl.chgO L (⟨p, 1, ⟨#[]⟩, t, 0⟩ : Pl.Nd) (Pl.makC L (⟨p, 1, ⟨#[]⟩, t, 0⟩ : Pl.Nd)) (Pl.putL L (⟨p, 1, ⟨#[]⟩, t, 0⟩ : Pl.Nd)) = Pl.addO L (⟨p, 1, ⟨#[]⟩, t, 0⟩ : Pl.Nd)) := by rw [Pl.chgO, za EC]; exact rfl
 go_wp2_with fail
 refine (za had).mono ?_
 rintro e w5 ⟨v, rfl, own, b5⟩
 obtain ⟨a', cap', rfl⟩ := Mem.za2 own
 have OW := hide own
 have HS := hide R4.lt
 have bw5 := bw3.trans (b5.mono bw3.size)
 have R5 := R4.call b5
 have d0 := R5.cell 0
 have f0 := R5.fr 0
 have d1 := R5.cell 1
 have f1 := R5.fr 1
 simp only [kA0, kA1, kA2] at d0 d1
 clear bw3 b5 T4 R4 N4 own had
 generalize Pl.addC L (⟨p, 1, ⟨#[]⟩, t, 0⟩ : Pl.Nd) = ca at EC
 generalize Pl.addO L (⟨p, 1, ⟨#[]⟩, t, 0⟩ : Pl.Nd) = oa at EO OW
 go_wp2
 refine bodyPost_ret (v := .agg #[.slice a' oa.length cap', .int .i64 ca]) (by simp [results, Tryz.results41, go_sem, d0, d1]) rfl ⟨.slice a' oa.length cap', by rw [za EC], ?_, ?_⟩
 ·rw [za EO]
  exact Mem.zb4 (Mem.za8 (Mem.za8 (za OW) _ _ (za HS)) _ _ (za HS)) (by have := za HS; omega)
 ·exact (bw5.setCell (by show w.heap.size ≤ w.heap.size + 1; omega) _).setCell (by show w.heap.size ≤ w.heap.size + 1; omega) _
end zc3
end Go.Proofs.YtppmlbofhghghaaGreatDoor

