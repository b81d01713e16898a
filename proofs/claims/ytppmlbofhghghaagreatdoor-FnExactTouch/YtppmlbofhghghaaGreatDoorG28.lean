/- Several texts of one claim in one file: WBegin7, WDir7, WPutS. -/
import Derived.Test.YtppmlbofhghghaaGreatDoorG19
import Derived.Test.YtppmlbofhghghaaGreatDoorG27
import Derived.Test.YtppmlbofhghghaaGreatDoorG02
import Derived.Test.YtppmlbofhghghaaGreatDoorWTreeS
import Derived.Test.YtppmlbofhghghaaGreatDoorG01
import Derived.Deep.Cut
import Derived.Test.YtppmlbofhghghaaGreatDoorWUnder1S
import Derived.Deep.RegionHeld3
import Derived.Lib.OthersKept
import Derived.Laws.RangeAny
import Derived.Deep.Draws
import Derived.Deep.QuietTactic
import Derived.BigQuiet
namespace Go.Proofs.YtppmlbofhghghaaGreatDoor
open Go.RowKit
namespace zh3
set_option linter.unusedSimpArgs false in
set_option maxRecDepth 100000 in
set_option maxHeartbeats 2000000 in
theorem ye8 (a : Option Addr) (cap : Nat) (Is : List Pl.It) (n : Pl.Nd) (w : World) (hl : Is.length ≤ 1048576) (hv : Mem.zb3 w a Is) (hok : ∀ x ∈ Is, x.t.L.length ≤ 1048576 ∧ ∀ n ∈ x.t.L, n.path.size ≤ 1048576 ∧ n.data.size ≤ 1048576) (hR : ∀ x ∈ Is, Mem.okR x.t.a x.t.cap x.t.L) (hp : n.path.size ≤ 1048576) (hd : n.data.size ≤ 1048576) :
  Calls Tryz.prog 26 #[.slice a Is.length cap, .string n.path, .agg #[.string n.path, .int .i64 n.kind, .string n.data, .int .i64 n.time, .int .i64 n.mark]] w fun e w' => ∃ v, e = .returned (.tuple #[.agg #[v], .int .i64 (Pl.begC (Is.map Pl.It.r) n)]) ∧ Mem.ownN w' w.heap.size v (Pl.begT (Is.map Pl.It.r) n) ∧ Below w.heap.size w w' := by
 generalize hBC : Pl.begC (Is.map Pl.It.r) n = C0
 generalize hBT : Pl.begT (Is.map Pl.It.r) n = T0
 have b0 : Below w.heap.size w ((w.alloc (.cells #[.string n.path, .int .i64 n.kind, .string n.data, .int .i64 n.time, .int .i64 n.mark] 47)).alloc (.cells #[.slice none 0 0] 50)) := ((Below.refl _ _).alloc (Nat.le_refl _) _).alloc (by simp) _
 have N0 : Mem.Blk ((w.alloc (.cells #[.string n.path, .int .i64 n.kind, .string n.data, .int .i64 n.time, .int .i64 n.mark] 47)).alloc (.cells #[.slice none 0 0] 50)) w.heap.size #[.string n.path, .int .i64 n.kind, .string n.data, .int .i64 n.time, .int .i64 n.mark] 47 := (Mem.Blk.new _ _ _).alloc _
 have R0 : Mem.Blk ((w.alloc (.cells #[.string n.path, .int .i64 n.kind, .string n.data, .int .i64 n.time, .int .i64 n.mark] 47)).alloc (.cells #[.slice none 0 0] 50)) (w.heap.size + 1) #[.slice none 0 0] 50 := by
  have h := Mem.Blk.new (w.alloc (.cells #[.string n.path, .int .i64 n.kind, .string n.data, .int .i64 n.time, .int .i64 n.mark] 47)) #[.slice none 0 0] 50
  simpa using h
 have hs0 : ((w.alloc (.cells #[.string n.path, .int .i64 n.kind, .string n.data, .int .i64 n.time, .int .i64 n.mark] 47)).alloc (.cells #[.slice none 0 0] 50)).heap.size = w.heap.size + 1 + 1 := by simp
 have n2 := N0.cell 2
 simp only [kA0, kA1, kA2] at n2
 by_cases h400 : 400 < Is.length
 ·have t0 : (400 : Int) < (Is.length : Int) := by omega
  obtain ⟨e1, e2⟩ := Pl.yc5 (XS := Is.map Pl.It.r) (n := n) (by rw [List.length_map]; omega)
  rw [e1] at hBC
  rw [e2] at hBT
  subst hBC hBT
  clear e1 e2 hv hok hR
  go_enter Tryz.func26, Tryz.ntmps26
  have d0 := R0.cell 0
  have f0 := R0.fr 0
  simp only [kA0, kA1] at d0
  go_wp2
  refine bodyPost_ret (v := .tuple #[.agg #[.slice none 0 0], .int .i64 2]) (by simp [results, Tryz.results26, go_sem, d0]) rfl ⟨.slice none 0 0, rfl, Mem.zb6 _ _, ?_⟩
  first | exact b0 | exact b0.setCell (p := ⟨w.heap.size + 1, 0, none⟩) (by show w.heap.size ≤ w.heap.size + 1; omega) _
 have t0 : ¬ (400 : Int) < (Is.length : Int) := by omega
 by_cases hp8 : 8000 < n.path.size
 ·have t1 : (8000 : Int) < (n.path.size : Int) := by omega
  obtain ⟨e1, e2⟩ := Pl.yc5 (XS := Is.map Pl.It.r) (n := n) (by rw [List.length_map]; omega)
  rw [e1] at hBC
  rw [e2] at hBT
  subst hBC hBT
  clear e1 e2 hv hok hR
  go_enter Tryz.func26, Tryz.ntmps26
  have d0 := R0.cell 0
  have f0 := R0.fr 0
  simp only [kA0, kA1] at d0
  go_wp2
  refine bodyPost_ret (v := .tuple #[.agg #[.slice none 0 0], .int .i64 2]) (by simp [results, Tryz.results26, go_sem, d0]) rfl ⟨.slice none 0 0, rfl, Mem.zb6 _ _, ?_⟩
  first | exact b0 | exact b0.setCell (p := ⟨w.heap.size + 1, 0, none⟩) (by show w.heap.size ≤ w.heap.size + 1; omega) _
 have t1 : ¬ (8000 : Int) < (n.path.size : Int) := by omega
 by_cases hd8 : 8000 < n.data.size
 ·have t2 : (8000 : Int) < (n.data.size : Int) := by omega
  obtain ⟨e1, e2⟩ := Pl.yc5 (XS := Is.map Pl.It.r) (n := n) (by rw [List.length_map]; omega)
  rw [e1] at hBC
  rw [e2] at hBT
  subst hBC hBT
  clear e1 e2 hv hok hR
  go_enter Tryz.func26, Tryz.ntmps26
  have d0 := R0.cell 0
  have f0 := R0.fr 0
  simp only [kA0, kA1] at d0
  go_wp2
  refine bodyPost_ret (v := .tuple #[.agg #[.slice none 0 0], .int .i64 2]) (by simp [results, Tryz.results26, go_sem, d0]) rfl ⟨.slice none 0 0, rfl, Mem.zb6 _ _, ?_⟩
  first | exact b0 | exact b0.setCell (p := ⟨w.heap.size + 1, 0, none⟩) (by show w.heap.size ≤ w.heap.size + 1; omega) _
 have t2 : ¬ (8000 : Int) < (n.data.size : Int) := by omega
 have hnl : ¬ (400 < (Is.map Pl.It.r).length ∨ 8000 < n.path.size ∨ 8000 < n.data.size) := by rw [List.length_map]; omega
 have HNR := hide (fun W (bb : Below w.heap.size w W) => zs5.zq3 a cap Is W hl (Mem.za6 hv bb) hok)
 have HND := hide (fun W => zv9.zm3 n W hp hd)
 have HSI := hide (fun W (bb : Below w.heap.size w W) => zw1.specSight_any a cap Is W hl (Mem.za6 hv bb) hok hR)
 simp only [Pl.Nd.val] at HND
 have HNL := hide hnl
 have HBC := hide (And.intro hBC hBT)
 clear hBC hBT
 clear hv hok hR hp8 hd8 h400 hnl
 go_enter Tryz.func26, Tryz.ntmps26
 go_wp2_with fail
 refine (za HNR _ b0).mono ?_
 rintro e w1 ⟨rfl, b1⟩
 have bw1 := b0.trans (b1.mono b0.size)
 have N1 := N0.call b1
 have R1 := R0.call b1
 clear HNR n2
 cases hN : (Pl.nest (Pl.rowO (Is.map Pl.It.r))).isSome
 ·obtain ⟨e1, e2⟩ := Pl.yh7 (XS := Is.map Pl.It.r) (n := n) (za HNL) (by rw [hN]; simp)
  obtain ⟨hBC, hBT⟩ := za HBC
  rw [e1] at hBC
  rw [e2] at hBT
  subst hBC hBT
  clear e1 e2 HSI HND HNL
  have d0 := R1.cell 0
  have f0 := R1.fr 0
  simp only [kA0, kA1] at d0
  go_wp2
  refine bodyPost_ret (v := .tuple #[.agg #[.slice none 0 0], .int .i64 1]) (by simp [results, Tryz.results26, go_sem, d0]) rfl ⟨.slice none 0 0, rfl, Mem.zb6 _ _, ?_⟩
  first | exact bw1 | exact bw1.setCell (p := ⟨w.heap.size + 1, 0, none⟩) (by show w.heap.size ≤ w.heap.size + 1; omega) _
 have n0 := N1.cell 0
 have n1 := N1.cell 1
 have n2 := N1.cell 2
 have n3 := N1.cell 3
 have n4 := N1.cell 4
 simp only [kA0, kA1, kA2] at n0 n1 n2 n3 n4
 go_wp2_with fail
 refine (za HND _).mono ?_
 rintro e w2 ⟨rfl, b2⟩
 have bw2 := bw1.trans (b2.mono bw1.size)
 have R2 := R1.call b2
 clear HND n0 n1 n2 n3 n4 N1 N0
 cases hB : Pl.zb n
 ·obtain ⟨e1, e2⟩ := Pl.yh7 (XS := Is.map Pl.It.r) (n := n) (za HNL) (by rw [hB]; simp)
  obtain ⟨hBC, hBT⟩ := za HBC
  rw [e1] at hBC
  rw [e2] at hBT
  subst hBC hBT
  clear e1 e2 HSI HNL
  have d0 := R2.cell 0
  have f0 := R2.fr 0
  simp only [kA0, kA1] at d0
  go_wp2
  refine bodyPost_ret (v := .tuple #[.agg #[.slice none 0 0], .int .i64 1]) (by simp [results, Tryz.results26, go_sem, d0]) rfl ⟨.slice none 0 0, rfl, Mem.zb6 _ _, ?_⟩
  first | exact bw2 | exact bw2.setCell (p := ⟨w.heap.size + 1, 0, none⟩) (by show w.heap.size ≤ w.heap.size + 1; omega) _
 obtain ⟨e1, e2⟩ := Pl.beg_go (XS := Is.map Pl.It.r) (n := n) (za HNL) ⟨hN, hB⟩
 obtain ⟨hBC, hBT⟩ := za HBC
 rw [e1] at hBC
 rw [e2] at hBT
 rw [hBC, hBT] at HSI
 clear e1 e2 HNL hBC hBT HBC
 go_wp2_with fail
 refine (za HSI _ bw2).mono ?_
 rintro e w3 ⟨v, rfl, own, b3⟩
 obtain ⟨va, vc, rfl⟩ := Mem.za2 own
 have bw3 := bw2.trans (b3.mono bw2.size)
 have R3 := R2.call b3
 have X4 := Mem.Blk.new w3 #[.slice va T0.length vc, .int .i64 C0] 55
 have R4 := R3.alloc (.cells #[.slice va T0.length vc, .int .i64 C0] 55)
 have bw4 := bw3.alloc (o := .cells #[.slice va T0.length vc, .int .i64 C0] 55) bw3.size
 have own4 := Mem.ze3 own ((Below.refl w3.heap.size w3).alloc (o := .cells #[.slice va T0.length vc, .int .i64 C0] 55) (Nat.le_refl _))
 have hs2 : w.heap.size + 2 ≤ w2.heap.size := R2.lt
 have d0 := R4.cell 0
 have f0 := R4.fr 0
 have x0 := X4.cell 0
 have x1 := X4.cell 1
 simp only [kA0, kA1, kA2] at d0 x0 x1
 go_wp2_with fail
 have hX3 : w.heap.size + 1 < w3.heap.size := R3.lt
 generalize hw4 : w3.alloc (.cells #[.slice va T0.length vc, .int .i64 C0] 55) = w4 at X4 R4 bw4 own4 d0 f0 x0 x1 ⊢
 generalize w3.heap.size = Y3 at X4 hX3 x0 x1 ⊢
 have bd : Below w4.heap.size w4 w4.drew := ⟨rfl, rfl, rfl, Nat.le_refl _, fun _ _ => rfl⟩
 have Q5 := hide (⟨X4.call bd, R4.call bd, bw4.trans (bd.mono bw4.size), Mem.ze3 own4 bd⟩ : Mem.Blk w4.drew Y3 #[.slice va T0.length vc, .int .i64 C0] 55 ∧ Mem.Blk w4.drew (w.heap.size + 1) #[.slice none 0 0] 50 ∧ Below w.heap.size w w4.drew ∧ Mem.ownN w4.drew w2.heap.size (.slice va T0.length vc) T0)
 clear X4 R4 bw4 own4 d0 f0 x0 x1 bd own R3 R2 R1 R0 bw3 bw2 bw1 b3 b2 b1 b0
 refine wp_region_held_drew (S := fun W' => W'.cell? ⟨Y3, 0, none⟩ = some (.slice va T0.length vc) ∧ W'.cell? ⟨Y3, 1, none⟩ = some (.int .i64 C0)) (by kernel_rfl) ?_ (fun hHeld => ?_)
 ·exact ⟨by have h := (za Q5).1.cell 0; simpa using h, by have h := (za Q5).1.cell 1; simpa using h⟩
 generalize w4.drew = WD at hHeld Q5 ⊢
 refine tka (i := 0) rfl ?_
 try simp only [Act.put, kBs]
 refine tka (i := 1) rfl ?_
 try simp only [Act.put, kBs]
 refine tka (i := 2) rfl ?_
 try simp only [Act.put, kBs]
 refine tka (i := 3) rfl ?_
 try simp only [Act.put, kBs]
 have d0 := (za Q5).2.1.cell 0
 have f0 := (za Q5).2.1.fr 0
 simp only [kA0, kA1] at d0
 refine wpAnyH_ready (rs := [4]) (by kernel_rfl) (by simp) ?_
 refine AllReadyH.cons rfl (fun K1 hK => ?_) AllReadyH.nil
 go_simp
 have X6 := (za Q5).1.far ⟨w.heap.size + 1, 0, none⟩ (.slice va T0.length vc) (by show Y3 ≠ w.heap.size + 1; omega)
 refine hK.out _ _ ?_ (fun hHeld2 => ?_)
 ·exact ⟨by have h := X6.cell 0; simpa using h, by have h := X6.cell 1; simpa using h⟩
 clear hK K1 hHeld
 refine tka (i := 5) rfl ?_
 try simp only [Act.put, kBs]
 refine wpAnyH_done (by kernel_rfl) ?_ _
 go_wp2
 refine bodyPost_ret (v := .tuple #[.agg #[.slice va T0.length vc], .int .i64 C0]) (by simp [results, Tryz.results26, go_sem, d0]) rfl ⟨_, rfl, Mem.zb4 (Mem.za8 (za Q5).2.2.2 _ _ (by show w.heap.size + 1 < w2.heap.size; omega)) (by omega), ?_⟩
 exact (za Q5).2.2.1.setCell (by show w.heap.size ≤ w.heap.size + 1; omega) _
end zh3
end Go.Proofs.YtppmlbofhghghaaGreatDoor

namespace Go.Proofs.YtppmlbofhghghaaGreatDoor
open Go.RowKit
namespace Pl
def dirN (L : List Nd) (p : ByteArray) (t : Int) : Nd := ⟨p, 1, ⟨#[]⟩, t, ((lk L p).getD za7).mark⟩
end Pl
namespace zh3
set_option linter.unusedSimpArgs false in
set_option maxRecDepth 100000 in
set_option maxHeartbeats 2000000 in
theorem yg1 (a : Option Addr) (cap : Nat) (L : List Pl.Nd) (p : ByteArray) (t : Int) (w : World) (hl : L.length ≤ 1000) (hv : Mem.za1 w a L) :
  Calls Tryz.prog 50 #[.agg #[.slice a L.length cap], .string p, .int .i64 t] w fun e w' => e = .returned (Pl.dirN L p t).val ∧ Below w.heap.size w w' := by
 have b0 : Below w.heap.size w ((w.alloc (.cells #[.slice a L.length cap] 50)).alloc (.cells #[.string ⟨#[]⟩, .int .i64 0, .string ⟨#[]⟩, .int .i64 0, .int .i64 0] 47)) := ((Below.refl _ _).alloc (Nat.le_refl _) _).alloc (by simp) _
 have T0 := (Mem.Blk.new w #[.slice a L.length cap] 50).alloc (.cells #[.string ⟨#[]⟩, .int .i64 0, .string ⟨#[]⟩, .int .i64 0, .int .i64 0] 47)
 have R0 : Mem.Blk ((w.alloc (.cells #[.slice a L.length cap] 50)).alloc (.cells #[.string ⟨#[]⟩, .int .i64 0, .string ⟨#[]⟩, .int .i64 0, .int .i64 0] 47)) (w.heap.size + 1) #[.string ⟨#[]⟩, .int .i64 0, .string ⟨#[]⟩, .int .i64 0, .int .i64 0] 47 := Mem.zg0 _ _ _
 have HAT := hide (fun W (b : Below w.heap.size w W) => zk5.zr1 a cap L p W (by omega) (Mem.za0 hv b))
 have HV := hide (fun W (b : Below w.heap.size w W) => Mem.za0 hv b)
 have ED : Hid (Pl.dirN L p t = ⟨p, 1, ⟨#[]⟩, t, ((Pl.lk L p).getD Pl.za7).mark⟩) := rfl
 generalize Pl.dirN L p t = D at ED ⊢
 have c0 := T0.cell 0
 simp only [kA0, kA1] at c0
 clear hv
 go_enter Tryz.func50, Tryz.ntmps50
 go_wp2_with fail
 generalize (w.alloc (.cells #[.slice a L.length cap] 50)).alloc (.cells #[.string ⟨#[]⟩, .int .i64 0, .string ⟨#[]⟩, .int .i64 0, .int .i64 0] 47) = w1 at b0 T0 R0 c0 ⊢
 refine (za HAT _ b0).mono ?_
 rintro e w2 ⟨⟨r, rfl, hr⟩, b2⟩
 have bw2 := b0.trans (b2.mono b0.size)
 have T2 := T0.call b2
 have R2 := R0.call b2
 have hz2 : w.heap.size + 1 < w2.heap.size := R2.lt
 clear HAT b0 b2 T0 R0 c0
 rcases hr.out with ⟨k, m, rfl, hk, hf⟩ | ⟨rfl, hf⟩
 ·obtain ⟨mp, mk, md, mt, mm⟩ := m
  have eD : D = ⟨p, 1, ⟨#[]⟩, t, mm⟩ := by
   have h := za ED
   rw [show Pl.lk L p = some ⟨mp, mk, md, mt, mm⟩ from hf] at h
   exact h
  subst eD
  have hkl : k < L.length := (List.getElem?_eq_some_iff.1 hk).1
  have b3 : Below w.heap.size w (w2.alloc (.cells #[.string p, .int .i64 1, .string ⟨#[]⟩, .int .i64 t, .int .i64 0] 47)) := bw2.alloc bw2.size _
  obtain ⟨g, o, e1, hg, q0, q1, q2, q3, q4⟩ := za HV _ b3 k _ hk
  subst e1
  have T3 := T2.alloc (.cells #[.string p, .int .i64 1, .string ⟨#[]⟩, .int .i64 t, .int .i64 0] 47)
  have c3 := T3.cell 0
  have R4 := R2.alloc (.cells #[.string p, .int .i64 1, .string ⟨#[]⟩, .int .i64 t, .int .i64 mm] 47)
  have N4 := Mem.Blk.new w2 #[.string p, .int .i64 1, .string ⟨#[]⟩, .int .i64 t, .int .i64 mm] 47
  have b4 := hide (bw2.alloc bw2.size (.cells #[.string p, .int .i64 1, .string ⟨#[]⟩, .int .i64 t, .int .i64 mm] 47))
  have n0 := N4.cell 0
  have n1 := N4.cell 1
  have n2 := N4.cell 2
  have n3 := N4.cell 3
  have n4 := N4.cell 4
  have z0 := R4.cell 0
  have z1 := R4.cell 1
  have z2 := R4.cell 2
  have z3 := R4.cell 3
  have z4 := R4.cell 4
  have f0 := R4.fr 0
  have f1 := R4.fr 1
  have f2 := R4.fr 2
  have f3 := R4.fr 3
  have f4 := R4.fr 4
  have F := ((((R4.put 0 (.string p)).put 1 (.int .i64 1)).put 2 (.string ⟨#[]⟩)).put 3 (.int .i64 t)).put 4 (.int .i64 mm)
  simp only [kB3, kB4, kB5] at F
  have HF := hide F
  simp only [kA0, kA1, kA2] at c3 n0 n1 n2 n3 n4 z0 z1 z2 z3 z4
  have hix : 0 ≤ (k : Int) ∧ (k : Int) < (L.length : Int) := by omega
  have hge : ¬ (k : Int) < 0 := by omega
  have hge2 : (0 : Int) ≤ (k : Int) := by omega
  simp only at q4
  clear T2 R2 T3 R4 N4 F hk hf b3 q0 q1 q2 q3 hr ED HV
  go_upto_region 5 with fail
  generalize w2.alloc (.cells #[.string p, .int .i64 1, .string ⟨#[]⟩, .int .i64 t, .int .i64 mm] 47) = w3 at n0 n1 n2 n3 n4 z0 z1 z2 z3 z4 f0 f1 f2 f3 f4 HF b4 ⊢
  generalize w2.heap.size = X8 at n0 n1 n2 n3 n4 ⊢
  clear c3 q4 hix hge hge2 hg
  go_wp2
  have r0 := (za HF).cell 0
  have r1 := (za HF).cell 1
  have r2 := (za HF).cell 2
  have r3 := (za HF).cell 3
  have r4 := (za HF).cell 4
  simp only [kA0, kA1, kA2] at r0 r1 r2 r3 r4
  refine bodyPost_ret (v := .agg #[.string p, .int .i64 1, .string ⟨#[]⟩, .int .i64 t, .int .i64 mm]) (by simp [results, Tryz.results50, go_sem, r0, r1, r2, r3, r4]) rfl ⟨rfl, ?_⟩
  exact (((((za b4).setCell (by show w.heap.size ≤ w.heap.size + 1; omega) _).setCell (by show w.heap.size ≤ w.heap.size + 1; omega) _).setCell (by show w.heap.size ≤ w.heap.size + 1; omega) _).setCell (by show w.heap.size ≤ w.heap.size + 1; omega) _).setCell (by show w.heap.size ≤ w.heap.size + 1; omega) _
 ·have eD : D = ⟨p, 1, ⟨#[]⟩, t, 0⟩ := by
   have h := za ED
   rw [show Pl.lk L p = none from hf] at h
   exact h
  subst eD
  have R4 := R2.alloc (.cells #[.string p, .int .i64 1, .string ⟨#[]⟩, .int .i64 t, .int .i64 0] 47)
  have N4 := Mem.Blk.new w2 #[.string p, .int .i64 1, .string ⟨#[]⟩, .int .i64 t, .int .i64 0] 47
  have b4 := hide (bw2.alloc bw2.size (.cells #[.string p, .int .i64 1, .string ⟨#[]⟩, .int .i64 t, .int .i64 0] 47))
  have n0 := N4.cell 0
  have n1 := N4.cell 1
  have n2 := N4.cell 2
  have n3 := N4.cell 3
  have n4 := N4.cell 4
  have z0 := R4.cell 0
  have z1 := R4.cell 1
  have z2 := R4.cell 2
  have z3 := R4.cell 3
  have z4 := R4.cell 4
  have f0 := R4.fr 0
  have f1 := R4.fr 1
  have f2 := R4.fr 2
  have f3 := R4.fr 3
  have f4 := R4.fr 4
  have F := ((((R4.put 0 (.string p)).put 1 (.int .i64 1)).put 2 (.string ⟨#[]⟩)).put 3 (.int .i64 t)).put 4 (.int .i64 0)
  simp only [kB3, kB4, kB5] at F
  have HF := hide F
  simp only [kA0, kA1, kA2] at n0 n1 n2 n3 n4 z0 z1 z2 z3 z4
  clear T2 R2 R4 N4 F hf hr ED HV
  go_upto_region 5 with fail
  generalize w2.alloc (.cells #[.string p, .int .i64 1, .string ⟨#[]⟩, .int .i64 t, .int .i64 0] 47) = w3 at n0 n1 n2 n3 n4 z0 z1 z2 z3 z4 f0 f1 f2 f3 f4 HF b4 ⊢
  generalize w2.heap.size = X8 at n0 n1 n2 n3 n4 ⊢
  go_wp2
  have r0 := (za HF).cell 0
  have r1 := (za HF).cell 1
  have r2 := (za HF).cell 2
  have r3 := (za HF).cell 3
  have r4 := (za HF).cell 4
  simp only [kA0, kA1, kA2] at r0 r1 r2 r3 r4
  refine bodyPost_ret (v := .agg #[.string p, .int .i64 1, .string ⟨#[]⟩, .int .i64 t, .int .i64 0]) (by simp [results, Tryz.results50, go_sem, r0, r1, r2, r3, r4]) rfl ⟨rfl, ?_⟩
  exact (((((za b4).setCell (by show w.heap.size ≤ w.heap.size + 1; omega) _).setCell (by show w.heap.size ≤ w.heap.size + 1; omega) _).setCell (by show w.heap.size ≤ w.heap.size + 1; omega) _).setCell (by show w.heap.size ≤ w.heap.size + 1; omega) _).setCell (by show w.heap.size ≤ w.heap.size + 1; omega) _
end zh3
end Go.Proofs.YtppmlbofhghghaaGreatDoor

namespace Go.Proofs.YtppmlbofhghghaaGreatDoor
open Go.RowKit
namespace Pl
def ze9 (L : List Nd) (p : ByteArray) : Bool := L.any (fun m => !decide (m.path = p) && under m.path p)
theorem over_yes {L : List Nd} {p : ByteArray} {k : Nat} {n : Nd} (hn : L[k]? = some n) (h1 : n.path ≠ p) (h2 : under n.path p = true) : ze9 L p = true :=
 List.any_eq_true.2 ⟨n, List.mem_of_getElem? hn, by simp [h1, h2]⟩
theorem over_no {L : List Nd} {p : ByteArray} (h : ∀ (j : Nat) m, L[j]? = some m → m.path = p ∨ under m.path p = false) : ze9 L p = false := by
 rw [ze9, List.any_eq_false]
 intro m hm
 obtain ⟨j, hj⟩ := List.mem_iff_getElem?.1 hm
 rcases h j m hj with h | h <;> simp [h]
end Pl
namespace WPutS
theorem tl_ne {a b : ByteArray} (h : a ≠ b) : (a.toList == b.toList) = false := by
 rw [beq_eq_false_iff_ne]
 intro e
 exact h (Pl.zi3 (by rw [ByteArray.toList_eq, ByteArray.toList_eq] at e; exact e))
set_option linter.unusedSimpArgs false in
set_option maxRecDepth 100000 in
set_option maxHeartbeats 2000000 in
theorem over_any (a : Option Addr) (cap : Nat) (L : List Pl.Nd) (p : ByteArray) (w : World) (hl : L.length ≤ 1048576) (hv : Mem.za1 w a L) (hp : p.size ≤ 1048576) :
  Calls Tryz.prog 90 #[.agg #[.slice a L.length cap], .string p] w fun e w' => e = .returned (.bool (Pl.ze9 L p)) ∧ Below w.heap.size w w' := by
 have b0 : Below w.heap.size w (w.alloc (.cells #[.slice a L.length cap] 50)) := (Below.refl _ _).alloc (Nat.le_refl _) _
 have HV := hide (Mem.za0 hv b0)
 have E1 : Hid (∀ (k : Nat) n, L[k]? = some n → n.path ≠ p → Pl.under n.path p = true → Pl.ze9 L p = true) := fun k n => Pl.over_yes
 have E2 : Hid ((∀ (j : Nat) m, L[j]? = some m → m.path = p ∨ Pl.under m.path p = false) → Pl.ze9 L p = false) := Pl.over_no
 generalize Pl.ze9 L p = R at E1 E2 ⊢
 clear hv
 go_enter Tryz.func90, Tryz.ntmps90
 go_wp2
 go_loop [5] (fun i => ∃ k : Nat, k ≤ L.length ∧ i = .int .i64 (k : Int) ∧ Hid (∀ (j : Nat) m, j < k → L[j]? = some m → m.path = p ∨ Pl.under m.path p = false)) (fun i => L.length - (intOf i).toNat)
 case atStart => exact ⟨0, Nat.zero_le _, rfl, fun j m h => absurd h (by omega)⟩
 case round =>
  obtain ⟨k, hk, rfl, HA⟩ := hrel
  by_cases hlt : k < L.length
  ·obtain ⟨n, hn⟩ : ∃ n, L[k]? = some n := ⟨_, List.getElem?_eq_getElem hlt⟩
   obtain ⟨b, o, rfl, hb, q0, -, -, -, -⟩ := (za HV) k n hn
   have y1 : (k : Int) < (L.length : Int) := by omega
   have y3 : (0 : Int) ≤ (k : Int) := by omega
   have EN := hide hn
   by_cases hqp : n.path = p
   ·have HA2 : Hid (∀ (j : Nat) m, j < k + 1 → L[j]? = some m → m.path = p ∨ Pl.under m.path p = false) := fun j m hj hm => by
     rcases Nat.lt_succ_iff_lt_or_eq.1 hj with h'' | rfl
     ·exact HA.out j m h'' hm
     ·rw [za EN] at hm; cases hm; exact .inl hqp
    rw [hqp] at q0
    clear hn EN hqp
    go_wp2
    go_round
    case rel => exact ⟨k + 1, by omega, by go_num, HA2⟩
    case measure => simp [intOf]; omega
   ·have t1 := tl_ne hqp
    have hcu := hide (fun W => zh1.yp6 n.path p W hp)
    cases hun : Pl.under n.path p
    ·have HA2 : Hid (∀ (j : Nat) m, j < k + 1 → L[j]? = some m → m.path = p ∨ Pl.under m.path p = false) := fun j m hj hm => by
      rcases Nat.lt_succ_iff_lt_or_eq.1 hj with h'' | rfl
      ·exact HA.out j m h'' hm
      ·rw [za EN] at hm; cases hm; exact .inr hun
     rw [hun] at hcu
     generalize n.path = np at q0 t1 hcu
     clear hn EN hqp hun
     go_wp2_with (go_at_call 91; refine (za hcu _).mono ?_; rintro e w' ⟨rfl, hw⟩; obtain rfl := hw.symm)
     go_round
     case rel => exact ⟨k + 1, by omega, by go_num, HA2⟩
     case measure => simp [intOf]; omega
    ·have E := hide (za E1 k n hn hqp hun)
     rw [hun] at hcu
     generalize n.path = np at q0 t1 hcu
     clear hn EN hqp hun
     go_wp2_with (go_at_call 91; refine (za hcu _).mono ?_; rintro e w' ⟨rfl, hw⟩; obtain rfl := hw.symm)
     go_ret
     exact ⟨za4 (za E).symm, b0⟩
  ·have E := hide (za E2 (fun j n h => HA.out j n (by have := (List.getElem?_eq_some_iff.1 h).1; omega) h))
   have u1 : ¬ (k : Int) < (L.length : Int) := by omega
   go_wp2
   go_ret
   exact ⟨za4 (za E).symm, b0⟩
end WPutS
end Go.Proofs.YtppmlbofhghghaaGreatDoor

