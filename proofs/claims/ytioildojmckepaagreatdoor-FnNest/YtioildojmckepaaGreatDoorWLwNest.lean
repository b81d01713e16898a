import Derived.Test.YtioildojmckepaaGreatDoorG30
import Derived.Test.YtioildojmckepaaGreatDoorG44
namespace Go.Proofs.YtioildojmckepaaGreatDoor
open Go.RowKit
namespace WLw
set_option maxRecDepth 100000 in
set_option maxHeartbeats 800000 in
theorem zk4 (a b : Option Addr) (c1 c2 : Nat) (Ts Us : List Pl.It) (w : World) (hl : Ts.length ≤ 1048576) (hm : Us.map Pl.It.r = Ts.map Pl.It.r) (hv : Mem.za7 w a Ts) (hu : Mem.za7 w b Us) (hok : ∀ t ∈ Ts, t.t.L.length ≤ 1048576) :
  Calls Tryz.prog 9 #[.slice a Ts.length c1, .slice b Ts.length c2] w fun e w' => e = .returned (.bool true) ∧ Below w.heap.size w w' := by
 have HV := hide hv
 have HU := hide hu
 have HO := hide hok
 have HM := hide hm
 clear hv hu hok hm
 go_enter Tryz.func9, Tryz.ntmps9
 go_wp2
 go_loopw [5] (fun i wr => ∃ k : Nat, k ≤ Ts.length ∧ i = .int .i64 (k : Int) ∧ Below w.heap.size w wr) (fun i _ => Ts.length - (intOf i).toNat)
 case atStart => exact ⟨0, Nat.zero_le _, rfl, Below.refl _ _⟩
 case round =>
  obtain ⟨k, hk, rfl, hbel⟩ := hrel
  by_cases hlt : k < Ts.length
  ·obtain ⟨t, ht⟩ : ∃ n, Ts[k]? = some n := ⟨_, List.getElem?_eq_getElem hlt⟩
   obtain ⟨u, hu, hum, hul⟩ : ∃ u, Us[k]? = some u ∧ u.m = t.m ∧ u.t.L = t.t.L := by
    have h := congrArg (fun l => l[k]?) (za HM)
    simp only [List.getElem?_map, ht, Option.map_some] at h
    cases hu : Us[k]? with
    | none => rw [hu] at h; simp at h
    | some u => rw [hu] at h; simp [Pl.It.r] at h; exact ⟨u, rfl, h.1, h.2⟩
   obtain ⟨⟨g, o, rfl, hg, q0, q0'⟩, q1⟩ := (za HV) k t ht
   obtain ⟨⟨g2, o2, rfl, hg2, p0, p0'⟩, p1⟩ := (za HU) k u hu
   rw [hul] at p1
   have hz := hide (fun W (b : Below w.heap.size w W) => zp8 t.t.a u.t.a t.t.cap u.t.cap t.t.L W (za HO t (List.mem_of_getElem? ht)) (Mem.za5 q1 b) (Mem.za5 p1 b))
   have MK : Hid (∀ W', Below w.heap.size w W' → (Below w.heap.size w W' ∧ W'.cell? ⟨g, o + k * 2, none⟩ = some (.int .i64 t.m) ∧ W'.cell? ⟨g, o + k * 2 + 1, none⟩ = some (.slice t.t.a t.t.L.length t.t.cap) ∧ W'.cell? ⟨g2, o2 + k * 2, none⟩ = some (.int .i64 t.m) ∧ W'.cell? ⟨g2, o2 + k * 2 + 1, none⟩ = some (.slice u.t.a t.t.L.length u.t.cap))) := fun W' hb' => ⟨hb', (hb'.cell (p := ⟨g, _, none⟩) hg).trans q0, (hb'.cell (p := ⟨g, _, none⟩) hg).trans (by rw [q0', Pl.Tr.val]), (hb'.cell (p := ⟨g2, _, none⟩) hg2).trans (by rw [p0, hum]), (hb'.cell (p := ⟨g2, _, none⟩) hg2).trans (by rw [p0', Pl.Tr.val, hul])⟩
   have u1 : (k : Int) < (Ts.length : Int) := by omega
   have u3 : (0 : Int) ≤ (k : Int) := by omega
   have hbd : Below w.heap.size w wr.drew := ⟨hbel.os, hbel.tape, hbel.output, hbel.size, hbel.block⟩
   clear q0 p0 q0' p0' ht hu hul hum q1 p1
   go_wp2_with fail
   go_region_held3 (fun W' => Below w.heap.size w W' ∧ W'.cell? ⟨g, o + k * 2, none⟩ = some (.int .i64 t.m) ∧ W'.cell? ⟨g, o + k * 2 + 1, none⟩ = some (.slice t.t.a t.t.L.length t.t.cap) ∧ W'.cell? ⟨g2, o2 + k * 2, none⟩ = some (.int .i64 t.m) ∧ W'.cell? ⟨g2, o2 + k * 2 + 1, none⟩ = some (.slice u.t.a t.t.L.length u.t.cap)) (first | exact za MK _ hbd | exact za MK _ (hbd.trans (bX.mono hbd.size))) (first | (go_at_call 35; refine (za hz _ hbd).mono ?_; rintro e wX ⟨rfl, bX⟩))
   have hb2 := hbd.trans (bX.mono hbd.size)
   clear hbel hbd bX MK
   go_wp2
   go_roundw
   case rel => exact ⟨k + 1, by omega, by go_num, hb2⟩
   case measure => simp [intOf]; omega
  ·have u1 : ¬ (k : Int) < (Ts.length : Int) := by omega
   go_wp2
   go_ret
   exact ⟨rfl, hbel⟩
set_option linter.unusedSimpArgs false in
set_option maxRecDepth 100000 in
set_option maxHeartbeats 2000000 in
theorem nests_any (a b : Option Addr) (c1 c2 : Nat) (C : Int) (Ts Us : List Pl.It) (w : World) (hl : Ts.length ≤ 1048576) (hm : Us.map Pl.It.r = Ts.map Pl.It.r) (hv : Mem.za7 w a Ts) (hu : Mem.za7 w b Us) (hok : ∀ t ∈ Ts, t.t.L.length ≤ 1048576 ∧ ∀ n ∈ t.t.L, n.path.size ≤ 1048576 ∧ n.data.size ≤ 1048576) (hr : C = 0 → (Pl.nest (Pl.rowO (Ts.map Pl.It.r))).isSome = true) :
  Calls Tryz.prog 10 #[.agg #[.slice a Ts.length c1, .int .i64 C], .agg #[.slice b Ts.length c2, .int .i64 C]] w fun e w' => e = .returned (.bool true) ∧ Below w.heap.size w w' := by
 have b0 : Below w.heap.size w ((w.alloc (.cells #[.slice a Ts.length c1, .int .i64 C] 28)).alloc (.cells #[.slice b Ts.length c2, .int .i64 C] 28)) := ((Below.refl _ _).alloc (Nat.le_refl _) _).alloc (by simp) _
 have B1 := hide ((Mem.Blk.new w #[.slice a Ts.length c1, .int .i64 C] 28).alloc (.cells #[.slice b Ts.length c2, .int .i64 C] 28))
 have B2 : Hid (Mem.Blk ((w.alloc (.cells #[.slice a Ts.length c1, .int .i64 C] 28)).alloc (.cells #[.slice b Ts.length c2, .int .i64 C] 28)) (w.heap.size + 1) #[.slice b Ts.length c2, .int .i64 C] 28) := Mem.zu4 _ _ _
 have HT := hide (zk4 a b c1 c2 Ts Us _ hl hm (Mem.zg hv b0) (Mem.zg hu b0) (fun t ht => (hok t ht).1))
 have HR := hide (fun W (b : Below w.heap.size w W) => zh8.ze6 a c1 Ts W hl (Mem.zg hv b) hok)
 clear hv hu hok hm
 have x0 := (za B1).cell 0
 have x1 := (za B1).cell 1
 have y0 := (za B2).cell 0
 have y1 := (za B2).cell 1
 simp only [kGs] at x0 x1 y0 y1
 generalize (Pl.nest (Pl.rowO (Ts.map Pl.It.r))).isSome = NB at HR hr
 go_enter Tryz.func10, Tryz.ntmps10
 go_wp2_with fail
 refine (za HT).mono ?_
 rintro e w1 ⟨rfl, b1⟩
 have B3 := hide ((za B1).call b1)
 have bw1 := b0.trans (b1.mono b0.size)
 clear HT x0 x1 y0 y1 B1 B2 b1 b0
 have x0 := (za B3).cell 0
 have x1 := (za B3).cell 1
 simp only [kGs] at x0 x1
 by_cases h0 : C = 0
 ·subst h0
  have hr' := hide (hr rfl)
  clear hr
  rw [za hr'] at HR
  go_wp2_with fail
  refine (za HR _ bw1).mono ?_
  rintro e w2 ⟨rfl, b2⟩
  go_wp2
  go_ret
  exact ⟨rfl, bw1.trans (b2.mono bw1.size)⟩
 ·clear HR hr
  go_wp2
  go_ret
  exact ⟨rfl, bw1⟩
end WLw
end Go.Proofs.YtioildojmckepaaGreatDoor
