/- Several texts of one claim in one file: WAsLeaf, WNestD, WItemX, WTakeX, WTakeY. -/
import Derived.Test.YtppmlbofhghghaaGreatDoorG11
import Derived.Test.YtppmlbofhghghaaGreatDoorG25
import Derived.Test.YtppmlbofhghghaaGreatDoorPlainCanon
import Derived.Test.YtppmlbofhghghaaGreatDoorG36
import Derived.Test.YtppmlbofhghghaaGreatDoorG00
import Derived.Test.YtppmlbofhghghaaGreatDoorG02
import Derived.Test.YtppmlbofhghghaaGreatDoorG01
import Derived.Test.YtppmlbofhghghaaGreatDoorProg
import Derived.WalkSpells
import Derived.Lib.OthersKept
import Derived.Laws.RangeAny
import Derived.Deep.Draws
import Derived.Deep.QuietTactic
import Derived.BigQuiet
import Derived.Deep.RegionHeld3
import Derived.Test.YtppmlbofhghghaaGreatDoorG26
import Derived.Test.YtppmlbofhghghaaGreatDoorG04
import Derived.Test.YtppmlbofhghghaaGreatDoorG03
namespace Go.Proofs.YtppmlbofhghghaaGreatDoor
open Go.RowKit Go.Maps
namespace WAsLeaf
structure Oq (w : World) (S : Nat) (v : Value) (Bs : List Nat) (Ls : List (List Pl.Nd)) : Prop where
 row : w.ownsRow S 221 1 v Bs.length (Bs.map zi0.layV)
 len : Bs.length = Ls.length
 maps : ∀ (j : Nat) b L, Bs[j]? = some b → Ls[j]? = some L → Mem.ownM w b L
theorem Oq.ov {w : World} {S : Nat} {v : Value} {Bs : List Nat} {Ls : List (List Pl.Nd)} (h : Oq w S v Bs Ls) : zi0.Ov w 0 v Bs Ls := by
 refine ⟨⟨h.row.1, ?_⟩, h.len, fun j b L h1 h2 => ⟨Nat.zero_le _, h.maps j b L h1 h2⟩⟩
 rcases h.row.2 with h0 | ⟨g, cap, cur, hv, hb, rest⟩
 ·exact .inl h0
 ·exact .inr ⟨g, cap, cur, hv, Nat.zero_le _, rest⟩
theorem Oq.call {w w' : World} {S : Nat} {v : Value} {Bs : List Nat} {Ls : List (List Pl.Nd)} (h : Oq w S v Bs Ls) (b : Below w.heap.size w w') : Oq w' S v Bs Ls :=
 ⟨zi0.zl3 h.row b, h.len, fun j c L h1 h2 => (h.maps j c L h1 h2).call b⟩
theorem Oq.put {w w' : World} {S b : Nat} {v v' : Value} {Bs : List Nat} {Ls : List (List Pl.Nd)} {L : List Pl.Nd} (h : Oq w S v Bs Ls) (hm : Mem.ownM w b L)
  (hr : w'.ownsRow S 221 1 v' (Bs.length + 1) (Bs.map zi0.layV ++ [zi0.layV b])) (hg : w.grownBy w' v.ownBlock) : Oq w' S v' (Bs ++ [b]) (Ls ++ [L]) := by
 refine ⟨by simpa using hr, by simp [h.len], fun j c M h1 h2 => ?_⟩
 by_cases e : j < Bs.length
 ·rw [List.getElem?_append_left e] at h1
  rw [List.getElem?_append_left (by rw [← h.len]; exact e)] at h2
  have h4 := h.maps j c M h1 h2
  exact h4.grown hg (zi0.map_not h.row h4)
 ·rw [List.getElem?_append_right (by omega)] at h1
  rw [List.getElem?_append_right (by rw [← h.len]; omega)] at h2
  have e0 : j - Bs.length = 0 := by
   have := (List.getElem?_eq_some_iff.1 h1).1
   simp at this; omega
  rw [e0] at h1
  rw [← h.len, e0] at h2
  simp at h1 h2
  subst h1 h2
  exact hm.grown hg (zi0.map_not h.row hm)
def Leafed (w' : World) (x : Nat → Addr) (VV : Option (List Pl.Nd)) (e : Ending) : Prop :=
 (∃ V q m, VV = some V ∧ e = .returned (.tuple #[.agg #[.map (some q), .int .i64 m], .nilIface]) ∧ Mem.ownM w' q V) ∨
 (VV = none ∧ e = .returned (.tuple #[.agg #[.map none, .int .i64 0], .iface 248 (.pointer (some (x 5)))]))
theorem told_map {w : World} {q N : Nat} {Ls : List (List Pl.Nd)} {D : DataW Unit} {C : List Pl.Nd} (h : w.ownsMap Tryz.prog 9 MapN.elem q N D) (g : MapN.Gt Ls D C) (hC : ∀ n, n ∈ C ↔ Pl.zp5 Ls n) (h4 : Ls.length ≤ 4) (htr : ∀ L ∈ Ls, Pl.za5 L = true) (hl : C.length ≤ 40) : Pl.zv8 (some Ls) = some (Pl.allO Ls) ∧ Mem.ownM w q (Pl.allO Ls) := by
 have ha := Pl.all_told h4 htr
 have hp := Pl.all_perm htr ha g.apart hC
 have hle : (Pl.allO Ls).length ≤ 40 := by rw [hp.length_eq]; exact hl
 have ht := Pl.all_tree h4 htr hle
 have e := MapN.is_mapOf h g (Pl.zy5 ht) (fun n => (hC n).trans (ha.mem n).symm)
 refine ⟨if_pos hle, ?_⟩
 subst e
 exact Mem.tight h (by rw [MapN.zw4 (Pl.zy5 ht)]; exact hle)
theorem told_long {Ls : List (List Pl.Nd)} {C : List Pl.Nd} (ap : C.Pairwise (fun a b => a.path ≠ b.path)) (hC : ∀ n, n ∈ C ↔ Pl.zp5 Ls n) (h4 : Ls.length ≤ 4) (htr : ∀ L ∈ Ls, Pl.za5 L = true) (hl : 40 < C.length) : Pl.zv8 (some Ls) = none := by
 have hp := Pl.all_perm htr (Pl.all_told h4 htr) ap hC
 exact if_neg (by rw [hp.length_eq]; omega)
set_option linter.unusedSimpArgs false in
set_option maxRecDepth 100000 in
set_option maxHeartbeats 2000000 in
theorem leaf_as (x : Nat → Addr) (n : Nat) (hn : n ≤ 1000) : ∀ (N : Nat → Prop) (K : Pl.Fx) (L : List Pl.Nd) (q : Nat) (m : Int) (v : Value) (w : World), K.sz ≤ n → (Pl.Fx.cons L K .nil).okX → Mem.ownM w q L → Mem.layX w N K v → WIs.Six w x →
  Calls Tryz.prog 142 #[.agg #[.map (some q), .int .i64 m, v]] w fun e w' => Leafed w' x (Pl.zi7 L K) e ∧ Below w.heap.size w w' := by
 obtain ⟨i0, hi, hz0, hz1, hz2⟩ := info_parts zi0.infoL
 have base : ∀ (L : List Pl.Nd) (q : Nat) (m : Int) (a : Option Addr) (cap : Nat) (w : World), Mem.ownM w q L → Calls Tryz.prog 142 #[.agg #[.map (some q), .int .i64 m, .slice a 0 cap]] w fun e w' => Leafed w' x (some L) e ∧ Below w.heap.size w w' := by
  intro L q m a cap w hm
  have b0 : Below w.heap.size w ((w.alloc (.cells #[.map (some q), .int .i64 m, .slice a 0 cap] 106)).alloc (.cells #[.map none, .int .i64 0] 103)) := ((Below.refl _ _).alloc (Nat.le_refl _) _).alloc (by simp) _
  have A0 := (Mem.Blk.new w #[.map (some q), .int .i64 m, .slice a 0 cap] 106).alloc (.cells #[.map none, .int .i64 0] 103)
  have R0 : Mem.Blk ((w.alloc (.cells #[.map (some q), .int .i64 m, .slice a 0 cap] 106)).alloc (.cells #[.map none, .int .i64 0] 103)) (w.heap.size + 1) #[.map none, .int .i64 0] 103 := Mem.zg0 _ _ _
  have hlf := hide (zl7.zy .nil (some q) m a cap)
  simp only [Pl.Fo.len] at hlf
  have HM := hide (hm.call b0)
  have hql := hm.lt
  clear hm
  go_enter Tryz.func142, Tryz.ntmps142
  go_wp2_with fail
  generalize (w.alloc (.cells #[.map (some q), .int .i64 m, .slice a 0 cap] 106)).alloc (.cells #[.map none, .int .i64 0] 103) = w2 at b0 A0 R0 HM ⊢
  refine (za hlf _).mono ?_
  rintro e w1 ⟨rfl, b1⟩
  have bb := b0.trans (b1.mono b0.size)
  have A1 := A0.call b1
  have R1 := R0.call b1
  have M1 := hide (((za HM).call b1).set ⟨w.heap.size + 1, 0, none⟩ (.map (some q)) (by show q ≠ w.heap.size + 1; omega))
  have M2 := hide ((za M1).set ⟨w.heap.size + 1, 1, none⟩ (.int .i64 m) (by show q ≠ w.heap.size + 1; omega))
  have c0 := A1.cell 0
  have c1 := A1.cell 1
  have d0 := R1.cell 0
  have d1 := R1.cell 1
  have f0 := R1.fr 0
  have f1 := R1.fr 1
  simp only [kA0, kA1, kA2] at c0 c1 d0 d1
  have HB := hide bb
  clear hlf A0 R0 A1 R1 HM M1 b0 b1 bb
  go_wp2
  refine bodyPost_ret (v := .tuple #[.agg #[.map (some q), .int .i64 m], .nilIface]) (by simp [results, Tryz.results142, go_sem, d0, d1]) rfl ⟨Or.inl ⟨L, q, m, rfl, rfl, za M2⟩, ?_⟩
  exact ((za HB).setCell (by show w.heap.size ≤ w.heap.size + 1; omega) _).setCell (by show w.heap.size ≤ w.heap.size + 1; omega) _
 induction n with
 | zero =>
  intro N K L q m v w hs hx hm hl hE
  obtain ⟨a, cap, rfl, -⟩ := hl
  cases K with
  | nil => exact base L q m a cap w hm
  | cons L' k' m' => simp [Pl.Fx.sz] at hs
 | succ n ih =>
  intro N K L q m v w hs hx hm hl hE
  obtain ⟨a, cap, rfl, hrow⟩ := hl
  by_cases hK0 : K.len = 0
  ·have e := Pl.Fx.yi6 hK0
   subst e
   exact base L q m a cap w hm
  rcases hrow with h | ⟨g, rfl, -, hrow⟩
  ·rw [h] at hK0; exact absurd rfl hK0
  rw [Pl.yk7 hK0]
  have hK4 : K.len ≤ 4 := hx.2.2.1
  have HKX := hide hx.2.2.2.1
  have b0 : Below w.heap.size w ((w.alloc (.cells #[.map (some q), .int .i64 m, .slice (some ⟨g, 0, none⟩) K.len cap] 106)).alloc (.cells #[.map none, .int .i64 0] 103)) := ((Below.refl _ _).alloc (Nat.le_refl _) _).alloc (by simp) _
  have A0 := (Mem.Blk.new w #[.map (some q), .int .i64 m, .slice (some ⟨g, 0, none⟩) K.len cap] 106).alloc (.cells #[.map none, .int .i64 0] 103)
  have R0 : Mem.Blk ((w.alloc (.cells #[.map (some q), .int .i64 m, .slice (some ⟨g, 0, none⟩) K.len cap] 106)).alloc (.cells #[.map none, .int .i64 0] 103)) (w.heap.size + 1) #[.map none, .int .i64 0] 103 := Mem.zg0 _ _ _
  have HI := hide (ih (by omega))
  have HRW := hide (Mem.zq2 (Mem.zo9 (N' := fun b => b < w.heap.size) (fun b _ hb => ⟨hb, hb, rfl⟩) K g 0 hrow) b0)
  have HE := hide (fun W (b : Below w.heap.size w W) => hE.call b)
  have hlf := hide (zl7.zy K.shape (some q) m (some ⟨g, 0, none⟩) cap)
  rw [Pl.Fx.zz2, show decide (K.len = 0) = false from decide_eq_false hK0] at hlf
  clear ih hrow base hx hm hE
  go_enter Tryz.func142, Tryz.ntmps142
  go_wp2_with fail
  generalize (w.alloc (.cells #[.map (some q), .int .i64 m, .slice (some ⟨g, 0, none⟩) K.len cap] 106)).alloc (.cells #[.map none, .int .i64 0] 103) = w2 at b0 A0 R0 HRW ⊢
  refine (za hlf _).mono ?_
  rintro e w1 ⟨rfl, b1⟩
  have bb := b0.trans (b1.mono b0.size)
  have c02 := (A0.call b1).cell 2
  simp only [kA0, kA1, kA2] at c02
  have RR := hide (R0.call b1)
  have RW : Hid (Mem.rowX w1 (fun b => b < w.heap.size) K g (0 * 3)) := hide (by simpa using Mem.zq2 (za HRW) b1)
  have OQ0 : Hid (Oq w1 (w.heap.size + 2) (.slice none 0 0) [] []) := ⟨⟨by rfl, .inl ⟨rfl, rfl⟩⟩, rfl, fun j b L h => by simp at h⟩
  have SF0 := hide (Pl.ym3 K)
  clear b0 b1 hlf A0 R0 HRW
  go_wp2
  go_loopw [4, 18] (fun v i wr => ∃ (j : Nat) (Bs : List Nat) (Ls : List (List Pl.Nd)) (F : Pl.Fx), i = .int .i64 (j : Int) ∧ j + F.len = K.len ∧ Bs.length = j ∧ F.sz ≤ n + 1 ∧ Below w.heap.size w wr ∧ Hid (Oq wr (w.heap.size + 2) v Bs Ls) ∧ Hid (Mem.rowX wr (fun b => b < w.heap.size) F g (j * 3)) ∧ Hid (Pl.zx1 K F Ls) ∧ Hid F.okX ∧ Hid (Mem.Blk wr (w.heap.size + 1) #[.map none, .int .i64 0] 103)) (fun _ i _ => K.len - (intOf i).toNat)
  case atStart => exact ⟨0, [], [], K, rfl, by omega, rfl, hs, bb, OQ0, RW, SF0, HKX, RR⟩
  case round =>
   obtain ⟨j, Bs, Ls, F, rfl, hj, hBs, hsz, hbel, OQ, HR, SF, FX, RB⟩ := hrel
   clear RW bb c02 OQ0 SF0 RR
   cases F with
   | nil =>
    simp only [Pl.Fx.len] at hj
    have u1 : ¬ (j : Int) < (K.len : Int) := by omega
    have hvs := Pl.seenF_end (za SF)
    obtain ⟨hLl, htr⟩ := Pl.views_ok K Ls (za HKX) hvs
    have hwh := hide (yb8.whole_any 0 _ Bs Ls wr (za OQ).ov (by omega) htr x (za HE _ hbel))
    have HTM := hide (fun W N D C (h : World.ownsMap W Tryz.prog 9 MapN.elem wr.heap.size N D) g hC hl => told_map (w := W) (q := wr.heap.size) (N := N) (D := D) (C := C) h g hC (by omega) htr hl)
    have HTL := hide (fun C ap hC hl => told_long (Ls := Ls) (C := C) ap hC (by omega) htr hl)
    obtain ⟨va, vc, hv⟩ := zk7.zu3 (za OQ).ov
    subst hv
    have hVS : Hid (Pl.zi2 K = some Ls) := hvs
    clear htr hvs OQ HR SF FX hLl
    go_wp2_with fail
    refine (za hwh).mono ?_
    rintro e w3 h3
    clear hwh
    rcases h3 with ⟨N3, D, C, rfl, hC4, -, G, hC⟩ | ⟨C, rfl, hC4, hap, hC, b2⟩
    ·obtain ⟨e1, m1⟩ := za HTM w3 N3 D C G.map G.gt hC hC4
     have E1 : Hid (Pl.zv8 (Pl.zi2 K) = some (Pl.allO Ls)) := hide (by rw [za hVS]; exact e1)
     have hlt := (za RB).lt
     have R3 := (za RB).call G.bel
     have B3 := hide (hbel.trans (G.bel.mono hbel.size))
     have M3 := hide ((m1.set ⟨w.heap.size + 1, 0, none⟩ (.map (some wr.heap.size)) (by show wr.heap.size ≠ w.heap.size + 1; omega)).set ⟨w.heap.size + 1, 1, none⟩ (.int .i64 0) (by show wr.heap.size ≠ w.heap.size + 1; omega))
     have d0 := R3.cell 0
     have d1 := R3.cell 1
     have f0 := R3.fr 0
     have f1 := R3.fr 1
     simp only [kA0, kA1, kA2] at d0 d1
     clear G hC e1 m1 R3 HTM HTL RB hVS HE
     go_wp2
     refine bodyPost_ret (v := .tuple #[.agg #[.map (some wr.heap.size), .int .i64 0], .nilIface]) (by simp [results, Tryz.results142, go_sem, d0, d1]) rfl ⟨Or.inl ⟨_, _, _, za E1, rfl, za M3⟩, ?_⟩
     exact ((za B3).setCell (by show w.heap.size ≤ w.heap.size + 1; omega) _).setCell (by show w.heap.size ≤ w.heap.size + 1; omega) _
    ·have E1 : Hid (Pl.zv8 (Pl.zi2 K) = none) := hide (by rw [za hVS]; exact za HTL C hap hC hC4)
     have R3 := (za RB).call b2
     have B3 := hide (hbel.trans (b2.mono hbel.size))
     have d0 := R3.cell 0
     have d1 := R3.cell 1
     have f0 := R3.fr 0
     have f1 := R3.fr 1
     simp only [kA0, kA1, kA2] at d0 d1
     clear hC hap R3 HTM HTL RB hVS HE b2
     go_wp2
     refine bodyPost_ret (v := .tuple #[.agg #[.map none, .int .i64 0], .iface 248 (.pointer (some (x 5)))]) (by simp [results, Tryz.results142, go_sem, d0, d1]) rfl ⟨Or.inr ⟨za E1, rfl⟩, ?_⟩
     first | exact za B3 | exact ((za B3).setCell (by show w.heap.size ≤ w.heap.size + 1; omega) _).setCell (by show w.heap.size ≤ w.heap.size + 1; omega) _
   | cons L1 k1 m1 =>
    simp only [Pl.Fx.len, Pl.Fx.sz] at hj hsz
    obtain ⟨g1, g2, g3, g5, g6⟩ := za FX
    obtain ⟨⟨q1, a1, cap1, c0, c1, c2, hg, hNg, hNq, hm1, hsub⟩, hrest⟩ := za HR
    have u1 : (j : Int) < (K.len : Int) := by omega
    have u3 : (0 : Int) ≤ (j : Int) := by omega
    have bA : Below wr.heap.size wr (wr.alloc (.cells #[.map (some q1), .int .i64 (k1.len : Int), .slice a1 k1.len cap1] 106)) := (Below.refl _ _).alloc (Nat.le_refl _) _
    have HL : Mem.layX wr (fun b => b < w.heap.size) k1 (.slice a1 k1.len cap1) := ⟨a1, cap1, rfl, hsub⟩
    have bw := hbel.trans (bA.mono hbel.size)
    have hcall := hide (za HI (fun b => b < w.heap.size) k1 L1 q1 (k1.len : Int) _ _ (by omega) ⟨g1, g2, g3, g5, trivial⟩ (hm1.call bA) (Mem.zl HL bA) (za HE _ bw))
    have HRR := hide (Mem.zq2 hrest bA)
    have OA := hide ((za OQ).call bA)
    have RA := hide ((za RB).call bA)
    have G6 := hide g6
    have hsw := hbel.size
    clear hsub hrest HL HR OQ RB FX g1 g2 g5 g6 hm1
    go_wp2_with fail
    refine (za hcall).mono ?_
    rintro e wX ⟨hX, bX⟩
    have bw2 := bw.trans (bX.mono bw.size)
    clear hcall
    rcases hX with ⟨V, q2, m2, hV, rfl, hm2⟩ | ⟨hV, rfl⟩
    ·have SF2 := hide (Pl.yp2 (za SF) hV)
     have bA2 : Below wX.heap.size wX ((wX.alloc (.cells #[.map (some q2), .int .i64 m2] 103)).alloc (.cells #[zi0.layV q2] 221)) := ((Below.refl _ _).alloc (Nat.le_refl _) _).alloc (by simp) _
     have bb2 := bX.trans (bA2.mono bX.size)
     have O2 := (za OA).call bb2
     have M2 := hm2.call bA2
     have HP := hide (fun v' w4 h1 h2 => O2.put (v' := v') (w' := w4) M2 h1 h2)
     have HRO := hide O2.row
     have bw3 := bw2.trans (bA2.mono bw2.size)
     have HQ := hide (fun w4 (h2 : ((wX.alloc (.cells #[.map (some q2), .int .i64 m2] 103)).alloc (.cells #[zi0.layV q2] 221)).grownBy w4 _) => bw3.grown h2 bw3.size (fun k hk => by have := (O2.row.lt k hk).1; omega))
     have HGR := hide (fun w4 (h2 : ((wX.alloc (.cells #[.map (some q2), .int .i64 m2] 103)).alloc (.cells #[zi0.layV q2] 221)).grownBy w4 _) => (⟨((za RA).call bb2).grown h2 (fun e => by have := (O2.row.lt _ e.symm).1; omega), Mem.zo9 (fun b hb hlt => ⟨hb, Nat.lt_of_lt_of_le hlt h2.size, h2.block b hlt (fun e => by have := (O2.row.lt b e.symm).1; omega)⟩) _ _ _ (Mem.zq2 (za HRR) bb2)⟩ : Mem.Blk w4 (w.heap.size + 1) #[.map none, .int .i64 0] 103 ∧ Mem.rowX w4 (fun b => b < w.heap.size) m1 g (j * 3 + 3)))
     have HSB := hide (show w.heap.size + 2 ≤ wX.heap.size by have h1 := (za RA).lt; have h2 := bX.size; omega)
     clear bA O2 M2 hm2 hV SF OA RA HRR bA2 bb2 bX bw bw3
     unfold zi0.layV at HP HRO HQ HGR
     go_wp2_with (at_builtin; refine wpList_append_own _ rfl _ _ 194 rfl (w.heap.size + 2) 221 i0 .nilIface 1 16 Tryz.underlying194 hi hz0 hz1 hz2 rfl (by decide) _ _ _ rfl (za HRO) ⟨wX.heap.size + 1, 0, none⟩ 1 1 [.iface 101 (.map (some q2))] rfl rfl (by have := Mem.zh7 (wX.alloc (.cells #[.map (some q2), .int .i64 m2] 103)) (.iface 101 (.map (some q2))) 221; simpa using this) (fun u hu => by simp at hu; subst hu; rfl) (by unfold maxLen; omega) (by omega) (by have := za HSB; simp; omega) ?_)
     intro v' w4 own' hgrow _
     have OV2 := hide (za HP v' w4 (by rw [hBs]; exact own') hgrow)
     have bw4 := za HQ w4 hgrow
     obtain ⟨RB2, HR2⟩ := za HGR w4 hgrow
     have RB3 := hide RB2
     have HR3 := hide HR2
     rw [show j * 3 + 3 = (j + 1) * 3 by omega] at HR3
     have hBl : (Bs ++ [q2]).length = j + 1 := by simp [hBs]
     have HBL := hide hBl
     clear HP HRO HQ HGR own' hgrow HSB RB2 HR2 hBl
     go_wp2
     go_roundw
     case rel => exact ⟨j + 1, Bs ++ [q2], Ls ++ [V], m1, by go_num, by omega, za HBL, by omega, bw4, OV2, HR3, SF2, G6, RB3⟩
     case measure => simp [intOf]; omega
    ·have E1 : Hid (Pl.zv8 (Pl.zi2 K) = none) := hide (by rw [Pl.yp1 (za SF) hV]; rfl)
     have R3 := ((za RA).call bX).alloc (.cells #[.map none, .int .i64 0] 103)
     have B3 := hide (bw2.alloc bw2.size (.cells #[.map none, .int .i64 0] 103))
     have d0 := R3.cell 0
     have d1 := R3.cell 1
     have f0 := R3.fr 0
     have f1 := R3.fr 1
     simp only [kA0, kA1, kA2] at d0 d1
     clear hV SF OA RA HRR bX bw bw2 R3 bA HE HI
     go_wp2
     refine bodyPost_ret (v := .tuple #[.agg #[.map none, .int .i64 0], .iface 248 (.pointer (some (x 5)))]) (by simp [results, Tryz.results142, go_sem, d0, d1]) rfl ⟨Or.inr ⟨za E1, rfl⟩, ?_⟩
     first | exact za B3 | exact ((za B3).setCell (by show w.heap.size ≤ w.heap.size + 1; omega) _).setCell (by show w.heap.size ≤ w.heap.size + 1; omega) _
end WAsLeaf
end Go.Proofs.YtppmlbofhghghaaGreatDoor

namespace Go.Proofs.YtppmlbofhghghaaGreatDoor
open Go.RowKit
namespace zl7
theorem yl6 {w w' : World} {N : Nat → Prop} {F : Pl.Fo} {b i : Nat} (h : Mem.rowF w N F b i) (bb : Below w.heap.size w w') : Mem.rowF w' N F b i := Mem.rowF_mono (fun g hg hl => ⟨hg, Nat.lt_of_lt_of_le hl bb.size, bb.block g hl⟩) F b i h
set_option linter.unusedSimpArgs false in
set_option maxRecDepth 100000 in
set_option maxHeartbeats 1000000 in
theorem depth_any (N : Nat → Prop) (n : Nat) (hn : n ≤ 1000) : ∀ (k : Pl.Fo) (q : Option Nat) (m : Int) (v : Value) (w : World), k.sz ≤ n → Mem.lay w N k v →
  Calls Tryz.prog 114 #[.agg #[.map q, .int .i64 m, v]] w fun e w' => e = .returned (.int .i64 ((k.depth : Int) + 1)) ∧ Below w.heap.size w w' := by
 have base : ∀ (q : Option Nat) (m : Int) (a : Option Addr) (cap : Nat) (w : World), Calls Tryz.prog 114 #[.agg #[.map q, .int .i64 m, .slice a 0 cap]] w fun e w' => e = .returned (.int .i64 1) ∧ Below w.heap.size w w' := by
  intro q m a cap w
  go_enter Tryz.func114, Tryz.ntmps114
  go_wp2
  go_loopw [3, 9] (fun d i wr => d = .int .i64 0 ∧ i = .int .i64 0 ∧ Below w.heap.size w wr) (fun _ _ _ => 0)
  case atStart => exact ⟨rfl, rfl, (Below.refl _ _).alloc (Nat.le_refl _) _⟩
  case round =>
   obtain ⟨rfl, rfl, hbel⟩ := hrel
   go_wp2
   go_ret
   exact ⟨rfl, hbel⟩
 induction n with
 | zero =>
  intro k q m v w hs hl
  obtain ⟨a, cap, rfl, -⟩ := hl
  cases k with
  | nil => exact base q m a cap w
  | cons a b => simp [Pl.Fo.sz] at hs
 | succ n ih =>
  intro k q m v w hs hl
  obtain ⟨a, cap, rfl, hrow⟩ := hl
  cases k with
  | nil => exact base q m a cap w
  | cons k0 m0 =>
   rcases hrow with h | ⟨g, rfl, hrow⟩
   ·cases h
   generalize hK : Pl.Fo.cons k0 m0 = K at *
   have hKl := K.len_le
   have hKd := K.depth_le
   have b0 : Below w.heap.size w (w.alloc (.cells #[.map q, .int .i64 m, .slice (some ⟨g, 0, none⟩) K.len cap] 106)) := (Below.refl _ _).alloc (Nat.le_refl _) _
   have HI := hide (ih (by omega))
   have R0 : Hid (Mem.rowF (w.alloc (.cells #[.map q, .int .i64 m, .slice (some ⟨g, 0, none⟩) K.len cap] 106)) N K g (0 * 3)) := hide (by simpa using yl6 hrow b0)
   clear hK ih hrow base
   go_enter Tryz.func114, Tryz.ntmps114
   go_wp2
   go_loopw [3, 9] (fun d i wr => ∃ (j dd : Nat) (F : Pl.Fo), d = .int .i64 (dd : Int) ∧ i = .int .i64 (j : Int) ∧ j + F.len = K.len ∧ max dd F.depth = K.depth ∧ F.sz ≤ n + 1 ∧ Below w.heap.size w wr ∧ Hid (Mem.rowF wr N F g (j * 3))) (fun _ i _ => K.len - (intOf i).toNat)
   case atStart => exact ⟨0, 0, K, rfl, rfl, by omega, by omega, hs, b0, R0⟩
   case round =>
    obtain ⟨j, dd, F, rfl, rfl, hj, hmax, hsz, hbel, HR⟩ := hrel
    clear R0 b0
    cases F with
    | nil =>
     simp only [Pl.Fo.len, Pl.Fo.depth] at hj hmax
     have u1 : ¬ (j : Int) < (K.len : Int) := by omega
     have hdd : dd = K.depth := by omega
     subst hdd
     go_wp2
     go_ret
     exact ⟨by show Ending.returned (.int .i64 (1 + (K.depth : Int))) = _; rw [Int.add_comm], hbel⟩
    | cons k1 m1 =>
     simp only [Pl.Fo.len, Pl.Fo.depth, Pl.Fo.sz] at hj hmax hsz
     obtain ⟨⟨x, y, a1, cap1, c0, c1, c2, hg, hN, ⟨q1, rfl⟩, ⟨r1, rfl⟩, hsub⟩, hrest⟩ := za HR
     have u1 : (j : Int) < (K.len : Int) := by omega
     have u3 : (0 : Int) ≤ (j : Int) := by omega
     have bA : Below wr.heap.size wr (wr.alloc (.cells #[.map q1, .int .i64 r1, .slice a1 k1.len cap1] 106)) := (Below.refl _ _).alloc (Nat.le_refl _) _
     have HL : Mem.lay wr N k1 (.slice a1 k1.len cap1) := ⟨a1, cap1, rfl, hsub⟩
     have hcall := hide (za HI k1 q1 r1 _ _ (by omega) (Mem.lay_call HL bA))
     have HRR := hide (yl6 hrest bA)
     have bw := hbel.trans (bA.mono hbel.size)
     clear hsub hrest HL HR
     go_wp2_with fail
     refine (za hcall).mono ?_
     rintro e wX ⟨rfl, bX⟩
     have bw2 := bw.trans (bX.mono bw.size)
     have HR2 := hide (yl6 (za HRR) bX)
     rw [show j * 3 + 3 = (j + 1) * 3 by omega] at HR2
     clear hcall HRR bX bw hbel c0 c1 c2 bA
     by_cases hcmp : (dd : Int) ≤ (k1.depth : Int) + 1
     ·have e1 : max (dd : Int) ((k1.depth : Int) + 1) = (k1.depth : Int) + 1 := by omega
      go_wp2
      go_roundw
      case rel => exact ⟨j + 1, k1.depth + 1, m1, by go_num, by go_num, by omega, by omega, by omega, bw2, HR2⟩
      case measure => simp [intOf]; omega
     ·have e1 : max (dd : Int) ((k1.depth : Int) + 1) = (dd : Int) := by omega
      go_wp2
      go_roundw
      case rel => exact ⟨j + 1, dd, m1, by go_num, by go_num, by omega, by omega, by omega, bw2, HR2⟩
      case measure => simp [intOf]; omega
end zl7
end Go.Proofs.YtppmlbofhghghaaGreatDoor

namespace Go.Proofs.YtppmlbofhghghaaGreatDoor
open Go.RowKit
namespace zt8
set_option linter.unusedSimpArgs false in
set_option maxRecDepth 100000 in
set_option maxHeartbeats 1000000 in
theorem item_any (m : Int) (a : Option Addr) (cap : Nat) (L : List Pl.Nd) (w : World) (hl : L.length ≤ 1048576) (hv : Mem.za1 w a L) (hok : ∀ n ∈ L, n.path.size ≤ 1048576 ∧ n.data.size ≤ 1048576)
  (r1 r2 r3 : TypeId) (x1 x2 x3 : Value) (hE : zc2.Errs w r1 r2 r3 x1 x2 x3) :
  Calls Tryz.prog 138 #[.agg #[.int .i64 m, .slice a L.length cap]] w fun e w' => ((Pl.zk3 m L = true ∧ ∃ B, e = .returned (.tuple #[.agg #[.map (some B), .int .i64 m], .nilIface]) ∧ w.heap.size ≤ B ∧ Mem.ownM w' B L) ∨
   (Pl.zk3 m L = false ∧ ∃ k, e = .returned (.tuple #[.agg #[.map none, .int .i64 k], .iface r1 x1]))) ∧ Below w.heap.size w w' := by
 have b0 : Below w.heap.size w ((w.alloc (.cells #[.int .i64 m, .slice a L.length cap] 61)).alloc (.cells #[.map none, .int .i64 0] 103)) := ((Below.refl _ _).alloc (Nat.le_refl _) _).alloc (by simp) _
 have k1 := (hE.call b0).c1
 have HB0 := hide b0
 by_cases h1 : m < 0
 ·have hb : Pl.zk3 m L = false := by unfold Pl.zk3; rw [show decide (0 ≤ m) = false from decide_eq_false (by omega)]; simp
  clear b0 hv hok hE
  go_enter Tryz.func138, Tryz.ntmps138
  go_wp2
  go_region
  go_wp2
  refine bodyPost_ret (v := .tuple #[.agg #[.map none, .int .i64 0], .iface r1 x1]) (by simp [results, Tryz.results138, go_sem]) rfl ⟨.inr ⟨hb, 0, rfl⟩, ?_⟩
  exact Mem.below_drewN (za HB0) 1
 by_cases h2 : 4 < m
 ·have hb : Pl.zk3 m L = false := by unfold Pl.zk3; rw [show decide (m ≤ 4) = false from decide_eq_false (by omega)]; simp
  clear b0 hv hok hE
  go_enter Tryz.func138, Tryz.ntmps138
  go_wp2
  go_region
  go_wp2
  refine bodyPost_ret (v := .tuple #[.agg #[.map none, .int .i64 0], .iface r1 x1]) (by simp [results, Tryz.results138, go_sem]) rfl ⟨.inr ⟨hb, 0, rfl⟩, ?_⟩
  exact Mem.below_drewN (za HB0) 1
 by_cases h3 : 0 < m ∧ 0 < L.length
 ·have hb : Pl.zk3 m L = false := by
   rw [Pl.yj4 (by omega), show decide (L.length = 0) = false from decide_eq_false (by omega)]; simp
  have u1 := h3.1
  have u2 : (0 : Int) < (L.length : Int) := by omega
  clear b0 hv hok hE
  go_enter Tryz.func138, Tryz.ntmps138
  go_wp2
  go_region
  go_wp2
  refine bodyPost_ret (v := .tuple #[.agg #[.map none, .int .i64 0], .iface r1 x1]) (by simp [results, Tryz.results138, go_sem]) rfl ⟨.inr ⟨hb, 0, rfl⟩, ?_⟩
  exact Mem.below_drewN (za HB0) 1
 have hb : Pl.zk3 m L = Pl.za5 L := by
  by_cases h0 : m = 0
  ·subst h0; exact Pl.yn9 L
  ·have hL : L = [] := List.eq_nil_of_length_eq_zero (by omega)
   subst hL
   rw [Pl.yj4 h0, Pl.treeB_nil, decide_eq_true (show 1 ≤ m by omega), decide_eq_true (show m ≤ 4 by omega)]; rfl
 rw [hb]
 have hz := hide (zc2.yf6 a cap L _ hl (Mem.za0 hv b0) hok r1 r2 r3 x1 x2 x3 (hE.call b0))
 have r2' : Mem.Blk ((w.alloc (.cells #[.int .i64 m, .slice a L.length cap] 61)).alloc (.cells #[.map none, .int .i64 0] 103)) (w.heap.size + 1) #[.map none, .int .i64 0] 103 := by
  have := Mem.Blk.new (w.alloc (.cells #[.int .i64 m, .slice a L.length cap] 61)) #[.map none, .int .i64 0] 103
  simpa using this
 have r1' : Mem.Blk ((w.alloc (.cells #[.int .i64 m, .slice a L.length cap] 61)).alloc (.cells #[.map none, .int .i64 0] 103)) w.heap.size #[.int .i64 m, .slice a L.length cap] 61 := (Mem.Blk.new w _ _).alloc _
 clear hv hok hE k1 b0 hb
 by_cases h4 : 0 < m
 ·have u2 : ¬ (0 : Int) < (L.length : Int) := by omega
  go_enter Tryz.func138, Tryz.ntmps138
  go_wp2_with fail
  generalize ((w.alloc (.cells #[.int .i64 m, .slice a L.length cap] 61)).alloc (.cells #[.map none, .int .i64 0] 103)) = w2 at hz r1' r2' HB0 ⊢
  refine (za hz).mono ?_
  rintro e w1 ⟨h1, b1⟩
  have R1 := r1'.call b1
  have R2 := r2'.call b1
  have c10 := R1.cell 0
  have c11 := R1.cell 1
  have c20 := R2.cell 0
  have c21 := R2.cell 1
  have f20 := R2.fr 0
  have f21 := R2.fr 1
  simp only [kA0, kA1, kA2] at c10 c11 c20 c21
  have bb := hide ((za HB0).trans (b1.mono (za HB0).size))
  have HS2 : Hid (w.heap.size + 2 ≤ w2.heap.size) := hide (by have := r2'.lt; omega)
  clear hz b1 r1' r2' R1 R2 HB0
  rcases h1 with ⟨hT, B, rfl, hB, hm⟩ | ⟨hT, rfl⟩
  ·have HM : Hid (w.heap.size ≤ B ∧ Mem.ownM ((w1.setCell ⟨w.heap.size + 1, 0, none⟩ (.map (some B))).setCell ⟨w.heap.size + 1, 1, none⟩ (.int .i64 m)) B L) :=
    hide ⟨by have := (za HS2); omega, (Mem.ownM.set (Mem.ownM.set hm _ _ (by have := (za HS2); show B ≠ w.heap.size + 1; omega)) _ _ (by have := (za HS2); show B ≠ w.heap.size + 1; omega))⟩
   clear hm hB
   go_wp2
   refine bodyPost_ret (v := .tuple #[.agg #[.map (some B), .int .i64 m], .nilIface]) (by simp [results, Tryz.results138, go_sem, c20, c21]) rfl ⟨.inl ⟨hT, B, rfl, za HM⟩, ?_⟩
   exact ((za bb).setCell (by show w.heap.size ≤ w.heap.size + 1; omega) _).setCell (by show w.heap.size ≤ w.heap.size + 1; omega) _
  ·go_wp2
   refine bodyPost_ret (v := .tuple #[.agg #[.map none, .int .i64 m], .iface r1 x1]) (by simp [results, Tryz.results138, go_sem, c20, c21]) rfl ⟨.inr ⟨hT, m, rfl⟩, ?_⟩
   exact ((za bb).setCell (by show w.heap.size ≤ w.heap.size + 1; omega) _).setCell (by show w.heap.size ≤ w.heap.size + 1; omega) _
 ·go_enter Tryz.func138, Tryz.ntmps138
  go_wp2_with fail
  generalize ((w.alloc (.cells #[.int .i64 m, .slice a L.length cap] 61)).alloc (.cells #[.map none, .int .i64 0] 103)) = w2 at hz r1' r2' HB0 ⊢
  refine (za hz).mono ?_
  rintro e w1 ⟨h1, b1⟩
  have R1 := r1'.call b1
  have R2 := r2'.call b1
  have c10 := R1.cell 0
  have c11 := R1.cell 1
  have c20 := R2.cell 0
  have c21 := R2.cell 1
  have f20 := R2.fr 0
  have f21 := R2.fr 1
  simp only [kA0, kA1, kA2] at c10 c11 c20 c21
  have bb := hide ((za HB0).trans (b1.mono (za HB0).size))
  have HS2 : Hid (w.heap.size + 2 ≤ w2.heap.size) := hide (by have := r2'.lt; omega)
  clear hz b1 r1' r2' R1 R2 HB0
  rcases h1 with ⟨hT, B, rfl, hB, hm⟩ | ⟨hT, rfl⟩
  ·have HM : Hid (w.heap.size ≤ B ∧ Mem.ownM ((w1.setCell ⟨w.heap.size + 1, 0, none⟩ (.map (some B))).setCell ⟨w.heap.size + 1, 1, none⟩ (.int .i64 m)) B L) :=
    hide ⟨by have := (za HS2); omega, (Mem.ownM.set (Mem.ownM.set hm _ _ (by have := (za HS2); show B ≠ w.heap.size + 1; omega)) _ _ (by have := (za HS2); show B ≠ w.heap.size + 1; omega))⟩
   clear hm hB
   go_wp2
   refine bodyPost_ret (v := .tuple #[.agg #[.map (some B), .int .i64 m], .nilIface]) (by simp [results, Tryz.results138, go_sem, c20, c21]) rfl ⟨.inl ⟨hT, B, rfl, za HM⟩, ?_⟩
   exact ((za bb).setCell (by show w.heap.size ≤ w.heap.size + 1; omega) _).setCell (by show w.heap.size ≤ w.heap.size + 1; omega) _
  ·go_wp2
   refine bodyPost_ret (v := .tuple #[.agg #[.map none, .int .i64 m], .iface r1 x1]) (by simp [results, Tryz.results138, go_sem, c20, c21]) rfl ⟨.inr ⟨hT, m, rfl⟩, ?_⟩
   exact ((za bb).setCell (by show w.heap.size ≤ w.heap.size + 1; omega) _).setCell (by show w.heap.size ≤ w.heap.size + 1; omega) _
end zt8
end Go.Proofs.YtppmlbofhghghaaGreatDoor

namespace Go.Proofs.YtppmlbofhghghaaGreatDoor
open Go.RowKit
namespace zt8
theorem zn8 : (Tryz.prog.info? 106).map (fun i => (i.zero, i.size, i.bytes)) = some (some (.agg #[.map none, .int .i64 0, .slice none 0 0]), 3, 40) := by kernel_rfl
structure Tk (w wr : World) (B X2 X7 : Nat) (q : Nat) (L : List Pl.Nd) (m : Int) (v : Value) (F : Pl.Fx) (xs : List Value) : Prop where
 bel : Below w.heap.size w wr
 big : B ≤ wr.heap.size
 x2 : Mem.Blk wr X2 #[.map none, .int .i64 0, .slice none 0 0] 106
 x7 : Mem.Blk wr X7 #[.map (some q), .int .i64 m, v] 106
 l2 : w.heap.size ≤ X2 ∧ X2 < B
 l7 : w.heap.size ≤ X7 ∧ X7 < B
 ne : X2 ≠ X7
 row : wr.ownsRow B 106 3 v F.len xs
 cells : Mem.zo8 wr (fun b => B ≤ b ∧ v.ownBlock ≠ some b) F xs
 lq : w.heap.size ≤ q ∧ q < B ∧ q ≠ X2 ∧ q ≠ X7
 mq : Mem.ownM wr q L
 ord : (q :: Mem.zp6 wr F xs).Pairwise (· < ·)
theorem zl3 {w w' : World} {B n s : Nat} {T : TypeId} {v : Value} {xs : List Value} (h : w.ownsRow B T s v n xs) (b : Below w.heap.size w w') : w'.ownsRow B T s v n xs := by
 refine ⟨h.1, ?_⟩
 rcases h.2 with h0 | ⟨g, cap, cur, hv, hb, hg, rest⟩
 ·exact .inl h0
 ·exact .inr ⟨g, cap, cur, hv, hb, (b.block g (Array.getElem?_eq_some_iff.1 hg).1).trans hg, rest⟩
theorem zh2 {w : World} {B n s : Nat} {T : TypeId} {v : Value} {xs : List Value} (h : w.ownsRow B T s v n xs) (p : Addr) (u : Value) (hp : p.block < B) : (w.setCell p u).ownsRow B T s v n xs := by
 refine ⟨h.1, ?_⟩
 rcases h.2 with h0 | ⟨g, cap, cur, hv, hb, hg, rest⟩
 ·exact .inl h0
 ·exact .inr ⟨g, cap, cur, hv, hb, (heap_setCell_other _ _ _ _ (by omega)).trans hg, rest⟩
theorem Tk.step {w wr w1 w4 : World} {B X2 X7 : Nat} {q q1 : Nat} {L L1 : List Pl.Nd} {m : Int} {v v1 v' : Value} {F kids : Pl.Fx} {xs : List Value} {o1 o2 : Obj} (h : Tk w wr B X2 X7 q L m v F xs)
  (b1 : Below wr.heap.size wr w1) (hl : Mem.layX w1 (fun b => wr.heap.size ≤ b) kids v1) (hq1 : wr.heap.size ≤ q1) (hap : Mem.apart w1 q1 kids v1) (hm1 : Mem.ownM w1 q1 L1)
  (own : w4.ownsRow B 106 3 v' (F.len + 1) (xs ++ [.map (some q1), .int .i64 (kids.len : Int), v1])) (gr : ((w1.alloc o1).alloc o2).grownBy w4 v.ownBlock) (far : ∀ g, v'.ownBlock = some g → v.ownBlock = some g ∨ ((w1.alloc o1).alloc o2).heap.size ≤ g) :
  Tk w (w4.setCell ⟨X7, 2, none⟩ v') B X2 X7 q L m v' (F.app (.cons L1 kids .nil)) (xs ++ [.map (some q1), .int .i64 (kids.len : Int), v1]) := by
 have hw1 : wr.heap.size ≤ w1.heap.size := b1.size
 have hs3 : ((w1.alloc o1).alloc o2).heap.size = w1.heap.size + 1 + 1 := by simp
 have b3 : Below wr.heap.size wr ((w1.alloc o1).alloc o2) := (b1.alloc hw1 o1).alloc (by simp; omega) o2
 have b13 : Below w1.heap.size w1 ((w1.alloc o1).alloc o2) := ((Below.refl _ _).alloc (Nat.le_refl _) o1).alloc (by simp) o2
 have e5 : (w4.setCell ⟨X7, 2, none⟩ v').heap.size = w4.heap.size := by simp
 have hv7 : some X7 ≠ v.ownBlock := fun e => by have := (h.row.lt X7 e.symm).1; have := h.l7.2; omega
 have hv2 : some X2 ≠ v.ownBlock := fun e => by have := (h.row.lt X2 e.symm).1; have := h.l2.2; omega
 have hbig := h.big
 have keep : ∀ b, B ≤ b → v.ownBlock ≠ some b → b < w1.heap.size → (w4.setCell ⟨X7, 2, none⟩ v').heap[b]? = w1.heap[b]? := fun b hb hne hlt => by
  rw [heap_setCell_other _ _ _ _ (by show b ≠ X7; have := h.l7.2; omega), gr.block b (by omega) (fun e => hne e.symm)]
  exact b13.block b hlt
 have hsz : ∀ b, b < w1.heap.size → b < (w4.setCell ⟨X7, 2, none⟩ v').heap.size := fun b hb => by have := gr.size; omega
 have hnew : ∀ b, v.ownBlock ≠ some b → b < w1.heap.size → v'.ownBlock ≠ some b := fun b hne hlt e => by
  rcases far b e with h' | h'
  ·exact hne h'
  ·omega
 have hnw : ∀ b, wr.heap.size ≤ b → b < w1.heap.size → v.ownBlock ≠ some b := fun b hb hlt e => by have := (h.row.lt b e).2; omega
 refine ⟨?_, ?_, ?_, ?_, h.l2, h.l7, h.ne, ?_, ?_, h.lq, ?_, ?_⟩
 ·refine Below.setCell ?_ (by show w.heap.size ≤ X7; exact h.l7.1) _
  have bw3 := h.bel.trans (b3.mono h.bel.size)
  refine ⟨gr.os.trans bw3.os, gr.tape.trans bw3.tape, gr.output.trans bw3.output, Nat.le_trans bw3.size gr.size, fun k hk => ?_⟩
  have hk2 := h.bel.size
  rw [gr.block k (by omega) (fun e => by have := (h.row.lt k e.symm).1; have := h.l7; omega)]
  exact bw3.block k hk
 ·have := gr.size; omega
 ·exact ((h.x2.call b3).grown gr hv2).far _ _ h.ne
 ·exact ((h.x7.call b3).grown gr hv7).put 2 v'
 ·rw [Pl.Fx.len_app]
  exact zh2 own _ _ h.l7.2
 ·refine Mem.cellsX_snoc ⟨by omega, hnew q1 (hnw q1 hq1 hm1.lt) hm1.lt⟩ (hm1.same (keep q1 (by omega) (hnw q1 hq1 hm1.lt) hm1.lt)) (Mem.zv3 (fun b hb hlt => ?_) hl) F xs (Mem.ym1 (fun b hb hlt => ?_) F xs h.cells)
  ·exact ⟨⟨by omega, hnew b (hnw b hb hlt) hlt⟩, hsz b hlt, keep b (by omega) (hnw b hb hlt) hlt⟩
  ·exact ⟨⟨hb.1, hnew b hb.2 (by omega)⟩, hsz b (by omega), (keep b hb.1 hb.2 (by omega)).trans (b1.block b hlt)⟩
 ·have hq := h.mq.lt
  refine h.mq.same ?_
  rw [heap_setCell_other _ _ _ _ (show q ≠ X7 from h.lq.2.2.2), gr.block q (by omega) (fun e => by have := (h.row.lt q e.symm).1; have := h.lq.2.1; omega)]
  exact b3.block q hq
 ·have c1 : Mem.zo8 (w4.setCell ⟨X7, 2, none⟩ v') (fun b => B ≤ b) F xs := Mem.ym1 (fun b hb hlt => ⟨hb.1, hsz b (by omega), (keep b hb.1 hb.2 (by omega)).trans (b1.block b hlt)⟩) F xs h.cells
  have e1 : Mem.zp6 (w4.setCell ⟨X7, 2, none⟩ v') F xs = Mem.zp6 wr F xs := Mem.mapsC_same (fun b hb hlt => (keep b hb.1 hb.2 (by omega)).trans (b1.block b hlt)) F xs h.cells
  have e2 : Mem.zn7 (w4.setCell ⟨X7, 2, none⟩ v') kids v1 = Mem.zn7 w1 kids v1 := Mem.zt (fun b hb hlt => keep b (by omega) (hnw b hb hlt) hlt) hl
  rw [Mem.mapsC_snoc L1 kids q1 _ v1 F xs c1, e1, e2, ← List.cons_append, List.pairwise_append]
  refine ⟨h.ord, hap, fun x hx y hy => ?_⟩
  have hxl : x < wr.heap.size := by
   rcases List.mem_cons.1 hx with rfl | hx
   ·exact h.mq.lt
   ·exact (Mem.mapsC_in F xs h.cells x hx).2
  have hyl : wr.heap.size ≤ y := by
   rcases List.mem_cons.1 hy with rfl | hy
   ·exact hq1
   ·exact (Mem.mapsL_in hl y hy).1
  omega
theorem Tk.mid {w wr w1 w4 : World} {B X2 X7 : Nat} {q : Nat} {L : List Pl.Nd} {m : Int} {v : Value} {F : Pl.Fx} {xs : List Value} {o1 o2 : Obj} (h : Tk w wr B X2 X7 q L m v F xs)
  (b1 : Below wr.heap.size wr w1) (gr : ((w1.alloc o1).alloc o2).grownBy w4 v.ownBlock) : Mem.Blk w4 X7 #[.map (some q), .int .i64 m, v] 106 :=
 (((h.x7.call b1).alloc o1).alloc o2).grown gr (fun e => by have := (h.row.lt X7 e.symm).1; have := h.l7.2; omega)
theorem Tk.conc {w wr : World} {B X2 X7 : Nat} {q : Nat} {L : List Pl.Nd} {m : Int} {v : Value} {F : Pl.Fx} {xs : List Value} (h : Tk w wr B X2 X7 q L m v F xs) : ∃ a cap, v = .slice a F.len cap := by
 rcases h.row.2 with ⟨h1, h0⟩ | ⟨g, cap, cur, h1, _⟩
 ·exact ⟨none, 0, by rw [h1, h0]⟩
 ·exact ⟨_, cap, h1⟩
theorem conc {w : World} {B n s : Nat} {T : TypeId} {v : Value} {xs : List Value} (h : w.ownsRow B T s v n xs) : ∃ a cap, v = .slice a n cap := by
 rcases h.2 with ⟨h1, h0⟩ | ⟨g, cap, cur, h1, _⟩
 ·exact ⟨none, 0, by rw [h1, h0]⟩
 ·exact ⟨_, cap, h1⟩
theorem three_new (w : World) (cs : List Value) (T : TypeId) (o : Obj) : ∀ j u, cs[j]? = some u → ((w.alloc o).alloc (.cells cs.toArray T)).cell? ((⟨w.heap.size + 1, 0, none⟩ : Addr).add j) = some u := by
 intro j u hj
 rw [Mem.add_lit]
 have := (Mem.zi5 (w.alloc o) cs T).2 j u hj
 simpa using this
theorem Tk.done {w wr : World} {B X2 X7 : Nat} {q : Nat} {L : List Pl.Nd} {m : Int} {v : Value} {F : Pl.Fx} {xs : List Value} (h : Tk w wr B X2 X7 q L m v F xs) (u0 u1 u2 : Value) :
  Mem.layX (((wr.setCell ⟨X2, 0, none⟩ u0).setCell ⟨X2, 1, none⟩ u1).setCell ⟨X2, 2, none⟩ u2) (fun b => w.heap.size ≤ b) F v := by
 refine Mem.zv3 (fun b hb hlt => ⟨?_, by simpa using hlt, ?_⟩) (Mem.ym9 h.row h.cells (fun b hb => hb.1))
 ·have := h.l2; omega
 ·have := h.l2.2
  rw [heap_setCell_other _ _ _ _ (by show b ≠ X2; omega), heap_setCell_other _ _ _ _ (by show b ≠ X2; omega), heap_setCell_other _ _ _ _ (by show b ≠ X2; omega)]
theorem Tk.own {w wr : World} {B X2 X7 : Nat} {q : Nat} {L : List Pl.Nd} {m : Int} {v : Value} {F : Pl.Fx} {xs : List Value} (h : Tk w wr B X2 X7 q L m v F xs) (u0 u1 u2 : Value) :
  Mem.ownM (((wr.setCell ⟨X2, 0, none⟩ u0).setCell ⟨X2, 1, none⟩ u1).setCell ⟨X2, 2, none⟩ u2) q L :=
 ((h.mq.set _ _ h.lq.2.2.1).set _ _ h.lq.2.2.1).set _ _ h.lq.2.2.1
theorem Tk.apart {w wr : World} {B X2 X7 : Nat} {q : Nat} {L : List Pl.Nd} {m : Int} {v : Value} {F : Pl.Fx} {xs : List Value} (h : Tk w wr B X2 X7 q L m v F xs) (u0 u1 u2 : Value) :
  Mem.apart (((wr.setCell ⟨X2, 0, none⟩ u0).setCell ⟨X2, 1, none⟩ u1).setCell ⟨X2, 2, none⟩ u2) q F v := by
 have e : Mem.zn7 (((wr.setCell ⟨X2, 0, none⟩ u0).setCell ⟨X2, 1, none⟩ u1).setCell ⟨X2, 2, none⟩ u2) F v = Mem.zn7 wr F v := Mem.zt (fun b hb hlt => by
  have := h.l2.2
  rw [heap_setCell_other _ _ _ _ (by show b ≠ X2; omega), heap_setCell_other _ _ _ _ (by show b ≠ X2; omega), heap_setCell_other _ _ _ _ (by show b ≠ X2; omega)]) (Mem.ym9 h.row h.cells (fun b hb => hb.1))
 show (q :: _).Pairwise _
 rw [e, Mem.mapsL_of_row h.row h.cells]
 exact h.ord
end zt8
end Go.Proofs.YtppmlbofhghghaaGreatDoor

namespace Go.Proofs.YtppmlbofhghghaaGreatDoor
open Go.RowKit
namespace zt8
theorem take_here {Is : List Pl.It} {x : Pl.It} (hx : Is[0]? = some x) : Pl.rowO (Is.map Pl.It.r) = Pl.zr5 (x.m, x.t.L) :: Pl.rowO ((Is.drop 1).map Pl.It.r) := by
 have h := Pl.rowO_at (xs := Is.map Pl.It.r) (i := 0) (x := x.r) (by rw [List.getElem?_map, hx]; rfl)
 rw [List.drop_zero, Pl.rowO_drop, ← List.map_drop] at h
 exact h
theorem items_here {Is : List Pl.It} {x : Pl.It} (hx : Is[0]? = some x) : Is.map Pl.It.r = (x.m, x.t.L) :: (Is.drop 1).map Pl.It.r := by
 cases Is with
 | nil => cases hx
 | cons y Is =>
  have e : y = x := by simpa using hx
  subst e
  rfl
theorem item_tree {m : Int} {L : List Pl.Nd} (h : Pl.zk3 m L = true) : Pl.za5 L = true ∧ (m = 0 ∨ L = []) := by
 unfold Pl.zk3 at h
 simp only [Bool.and_eq_true, Bool.or_eq_true, decide_eq_true_eq, List.isEmpty_iff] at h
 exact ⟨h.2, h.1.2⟩
def Took (w : World) (r1 : TypeId) (x1 : Value) (a : Option Addr) (Is : List Pl.It) (TT : Option (Pl.Fo × Pl.Row)) (e : Ending) (w' : World) : Prop :=
 (∃ L kids q v k a' cap', TT = some (.cons kids.shape .nil, Pl.rowO ((Is.drop k).map Pl.It.r)) ∧ e = .returned (.tuple #[.agg #[.map (some q), .int .i64 (kids.len : Int), v], .slice a' (Is.drop k).length cap', .nilIface]) ∧
  0 < k ∧ k ≤ Is.length ∧ (Is.drop k).length ≤ cap' ∧ Mem.shifted a a' k Is ∧ ((w.heap.size ≤ q ∧ Mem.apart w' q kids v) ∧ Mem.ownM w' q L) ∧ ((Pl.Fx.cons L kids .nil).okX ∧ (Pl.Fx.cons L kids .nil).flat ++ (Is.drop k).map Pl.It.r = Is.map Pl.It.r) ∧ Mem.layX w' (fun b => w.heap.size ≤ b) kids v) ∨
 (TT = none ∧ e = .returned (.tuple #[.agg #[.map none, .int .i64 0, .slice none 0 0], .slice none 0 0, .iface r1 x1]))
set_option linter.unusedSimpArgs false in
set_option maxRecDepth 100000 in
set_option maxHeartbeats 2000000 in
theorem take_any (r1 r2 r3 : TypeId) (x1 x2 x3 : Value) (n : Nat) :
  ∀ (Is : List Pl.It) (a : Option Addr) (cap : Nat) (w : World), Is.length ≤ n → Is.length ≤ 12 → Is.length ≤ cap → Mem.zb3 w a Is → (∀ x ∈ Is, x.t.L.length ≤ 1048576 ∧ ∀ n ∈ x.t.L, n.path.size ≤ 1048576 ∧ n.data.size ≤ 1048576) → zc2.Errs w r1 r2 r3 x1 x2 x3 →
  Calls Tryz.prog 113 #[.slice a Is.length cap] w fun e w' => Took w r1 x1 a Is (Pl.take 1 (Pl.rowO (Is.map Pl.It.r))) e w' ∧ Below w.heap.size w w' := by
 obtain ⟨i0, hi, hz0, hz1, hz2⟩ := info_parts zn8
 induction n with
 | zero =>
  intro Is a cap w hn h12 hcap hv hok hE
  have e : Is = [] := List.eq_nil_of_length_eq_zero (by omega)
  subst e
  have b0 : Below w.heap.size w (w.alloc (.cells #[.map none, .int .i64 0, .slice none 0 0] 106)) := (Below.refl _ _).alloc (Nat.le_refl _) _
  have k1 := (hE.call b0).c1
  have HB0 := hide b0
  clear hv hok hE b0
  go_enter Tryz.func113, Tryz.ntmps113
  go_wp2
  go_region
  go_wp2
  refine bodyPost_ret (v := .tuple #[.agg #[.map none, .int .i64 0, .slice none 0 0], .slice none 0 0, .iface r1 x1]) (by simp [results, Tryz.results113, go_sem]) rfl ⟨Or.inr ⟨rfl, rfl⟩, ?_⟩
  exact Mem.below_drewN (za HB0) 1
 | succ n ih =>
  intro Is a cap w hn h12 hcap hv hok hE
  have b0 : Below w.heap.size w (w.alloc (.cells #[.map none, .int .i64 0, .slice none 0 0] 106)) := (Below.refl _ _).alloc (Nat.le_refl _) _
  have A0 := Mem.Blk.new w #[.map none, .int .i64 0, .slice none 0 0] 106
  have hs0 : (w.alloc (.cells #[.map none, .int .i64 0, .slice none 0 0] 106)).heap.size = w.heap.size + 1 := by simp
  by_cases hnil : Is.length = 0
  ·have e : Is = [] := List.eq_nil_of_length_eq_zero hnil
   subst e
   have k1 := (hE.call b0).c1
   have HB0 := hide b0
   clear hv hok hE b0 A0 ih
   go_enter Tryz.func113, Tryz.ntmps113
   go_wp2
   go_region
   go_wp2
   refine bodyPost_ret (v := .tuple #[.agg #[.map none, .int .i64 0, .slice none 0 0], .slice none 0 0, .iface r1 x1]) (by simp [results, Tryz.results113, go_sem]) rfl ⟨Or.inr ⟨rfl, rfl⟩, ?_⟩
   exact Mem.below_drewN (za HB0) 1
  have t0 : ¬ (Is.length : Int) = 0 := by omega
  have t1 : (0 : Int) < (Is.length : Int) := by omega
  have t2 : (1 : Int) ≤ (Is.length : Int) := by omega
  obtain ⟨x, hx⟩ : ∃ x, Is[0]? = some x := ⟨_, List.getElem?_eq_getElem (by omega)⟩
  obtain ⟨⟨b, o, rfl, hb, q0, q0'⟩, q1⟩ := hv 0 x hx
  have c0 := (b0.cell (p := ⟨b, _, none⟩) hb).trans q0
  have c1 := (b0.cell (p := ⟨b, _, none⟩) hb).trans q0'
  simp only [Pl.Tr.val, Nat.zero_mul, Nat.add_zero] at c0 c1
  have hz := hide (item_any x.m x.t.a x.t.cap x.t.L _ (hok x (List.mem_of_getElem? hx)).1 (Mem.za0 q1 b0) (hok x (List.mem_of_getElem? hx)).2 r1 r2 r3 x1 x2 x3 (hE.call b0))
  have hrow := take_here hx
  have HIS : Hid (Is.map Pl.It.r = (x.m, x.t.L) :: (Is.drop 1).map Pl.It.r) := hide (items_here hx)
  have HI : Hid (∀ (k r : Nat) (a' : Option Addr) (cap' : Nat) (W : World), 0 < k → k + r = Is.length → r ≤ cap' → Mem.shifted (some ⟨b, o, none⟩) a' k Is → Below w.heap.size w W →
    Calls Tryz.prog 113 #[.slice a' r cap'] W fun e w' => ((∃ L kids q v k1 r1 a1 cap1, Pl.take 1 (Pl.rowO ((Is.drop k).map Pl.It.r)) = some (.cons kids.shape .nil, Pl.rowO ((Is.drop (k + k1)).map Pl.It.r)) ∧ e = .returned (.tuple #[.agg #[.map (some q), .int .i64 (kids.len : Int), v], .slice a1 r1 cap1, .nilIface]) ∧
     k + k1 + r1 = Is.length ∧ r1 ≤ cap1 ∧ Mem.shifted (some ⟨b, o, none⟩) a1 (k + k1) Is ∧ ((W.heap.size ≤ q ∧ Mem.apart w' q kids v) ∧ Mem.ownM w' q L) ∧ ((Pl.Fx.cons L kids .nil).okX ∧ (Pl.Fx.cons L kids .nil).flat ++ (Is.drop (k + k1)).map Pl.It.r = (Is.drop k).map Pl.It.r) ∧ Mem.layX w' (fun b => W.heap.size ≤ b) kids v) ∨
    (Pl.take 1 (Pl.rowO ((Is.drop k).map Pl.It.r)) = none ∧ e = .returned (.tuple #[.agg #[.map none, .int .i64 0, .slice none 0 0], .slice none 0 0, .iface r1 x1]))) ∧ Below W.heap.size W w') := hide (fun k r a' cap' W hk hr hc hs bb => by
   have hrl : (Is.drop k).length = r := by rw [List.length_drop]; omega
   have h := ih (Is.drop k) a' cap' W (by omega) (by omega) (by omega) (Mem.za6 (Mem.items_shift hv hs) bb) (fun y hy => hok y (List.mem_of_mem_drop hy)) (hE.call bb)
   rw [hrl] at h
   refine h.mono fun e w' ⟨h1, h2⟩ => ⟨?_, h2⟩
   rcases h1 with ⟨L, kids, q, v, k1, a1, cap1, g1, g2, g3, g4, g5, g6, g8, g9, g7⟩ | h1
   ·rw [List.drop_drop] at g1 g2 g5 g9
    exact .inl ⟨L, kids, q, v, k1, (Is.drop (k + k1)).length, a1, cap1, g1, g2, by rw [List.length_drop]; omega, g5, Mem.shifted_trans hs g6, g8, g9, g7⟩
   ·exact .inr h1)
  rw [hrow]
  generalize hTT : Pl.take 1 (Pl.zr5 (x.m, x.t.L) :: Pl.rowO ((Is.drop 1).map Pl.It.r)) = TT
  have HTT := hide hTT
  clear hTT
  clear ih hv hok hE q0 q0' q1 hx hrow
  go_enter Tryz.func113, Tryz.ntmps113
  go_wp2_with fail
  generalize w.alloc (.cells #[.map none, .int .i64 0, .slice none 0 0] 106) = w2 at hz A0 b0 hs0 c0 c1 ⊢
  refine (za hz).mono ?_
  rintro e w1 ⟨h1, b1⟩
  have bw1 := b0.trans (b1.mono b0.size)
  have A1 := A0.call b1
  have hs1 := b1.size
  clear hz c0 c1 b1 A0 b0
  rcases h1 with ⟨hT, B, rfl, hBw, hBm⟩ | ⟨hT, k, rfl⟩
  ·obtain ⟨hm0, hm4⟩ := Pl.yf8 hT
   have HTB := hide (item_tree hT)
   rw [Pl.itemO_yes hT, Pl.yi7] at HTT
   obtain ⟨mm, hmm⟩ : ∃ mm : Nat, x.m = (mm : Int) := ⟨x.m.toNat, by omega⟩
   rw [hmm, Int.toNat_natCast] at HTT
   rw [hmm] at HIS HTB ⊢
   have hm5 : mm ≤ 4 := by omega
   have hBl := hBm.lt
   clear hT hmm hm0 hm4
   have bA : Below w.heap.size w ((w1.alloc (.cells #[.map (some B), .int .i64 (mm : Int)] 103)).alloc (.cells #[.map (some B), .int .i64 (mm : Int), .slice none 0 0] 106)) := (bw1.alloc bw1.size _).alloc (by simp; have := bw1.size; omega) _
   have TK0 : Hid (Tk w ((w1.alloc (.cells #[.map (some B), .int .i64 (mm : Int)] 103)).alloc (.cells #[.map (some B), .int .i64 (mm : Int), .slice none 0 0] 106)) (w1.heap.size + 1 + 1) w.heap.size (w1.heap.size + 1) B x.t.L (mm : Int) (.slice none 0 0) .nil []) :=
    hide ⟨bA, by simp, (A1.alloc _).alloc _, by have := Mem.Blk.new (w1.alloc (.cells #[.map (some B), .int .i64 (mm : Int)] 103)) #[.map (some B), .int .i64 (mm : Int), .slice none 0 0] 106; simpa using this, ⟨Nat.le_refl _, by omega⟩, ⟨by omega, by omega⟩, by omega, World.ownsRow_nil _ _ _ _, rfl, ⟨by omega, by omega, by omega, by omega⟩, (hBm.call ((Below.refl _ _).alloc (Nat.le_refl _) _)).call ((Below.refl _ _).alloc (Nat.le_refl _) _), List.pairwise_singleton _ _⟩
   generalize hT0 : Pl.take mm (Pl.rowO ((Is.drop 1).map Pl.It.r)) = T0 at HTT
   have HT0 : Hid (Pl.went Pl.Fx.nil.shape (Pl.take (mm - Pl.Fx.nil.len) (Pl.rowO ((Is.drop 1).map Pl.It.r))) = T0) := hide (by show Pl.went .nil (Pl.take (mm - Pl.Fo.nil.len) _) = _; rw [Pl.went_start]; exact hT0)
   have HF0 : Hid (Pl.Fx.nil.okX ∧ Pl.Fx.nil.flat ++ (Is.drop 1).map Pl.It.r = (Is.drop 1).map Pl.It.r) := ⟨trivial, rfl⟩
   have S0 : Hid (cap = 1 → Mem.shifted (some ⟨b, o, none⟩) (some ⟨b, o, none⟩) 1 Is) := hide (fun hc => .inl (List.drop_eq_nil_of_le (by omega)))
   have S1 : Hid (Mem.shifted (some ⟨b, o, none⟩) (some ⟨b, o + 2, none⟩) 1 Is) := hide (.inr ⟨b, o, rfl, rfl⟩)
   clear hT0 A1 bw1 bA
   go_wp2
   all_goals
    go_loopw [8, 34] (fun rest i wr => ∃ (k : Nat) (a' : Option Addr) (cap' : Nat) (v : Value) (F : Pl.Fx) (xs : List Value) (r : Nat), rest = .slice a' r cap' ∧ i = .int .i64 (F.len : Int) ∧ F.len ≤ mm ∧ 0 < k ∧ k + r = Is.length ∧ r ≤ cap' ∧ Hid (Mem.shifted (some ⟨b, o, none⟩) a' k Is) ∧ Hid (Tk w wr (w1.heap.size + 1 + 1) w.heap.size (w1.heap.size + 1) B x.t.L (mm : Int) v F xs) ∧ Hid (F.okX ∧ F.flat ++ (Is.drop k).map Pl.It.r = (Is.drop 1).map Pl.It.r) ∧ Hid (Pl.went F.shape (Pl.take (mm - F.len) (Pl.rowO ((Is.drop k).map Pl.It.r))) = T0)) (fun _ i _ => mm - (intOf i).toNat)
    case atStart =>
     refine ⟨1, _, _, _, .nil, [], _, rfl, rfl, Nat.zero_le _, by omega, by omega, by omega, ?_, TK0, HF0, HT0⟩
     first | exact S1 | exact hide (za S0 (by omega))
    case round =>
     obtain ⟨k, a', cap', v, F, xs, r, rfl, rfl, hFm, hk, hkl, hc, HS, TK, HF, HT⟩ := hrel
     clear TK0 HT0 HF0 S0 S1
     by_cases hlt : F.len < mm
     ·have u1 : (F.len : Int) < (mm : Int) := by omega
      have hcall := hide (za HI k r a' cap' wr hk hkl hc (za HS) (za TK).bel)
      go_wp2_with fail
      refine (za hcall).mono ?_
      rintro e wX ⟨h1, bX⟩
      clear hcall
      rcases h1 with ⟨L1, kids, q1, v1, k1, s1, a1, cap1, ht, rfl, hk1', hc1, hs1', ⟨⟨hq1, hap1⟩, hm1⟩, hfl, hlay⟩ | ⟨ht, rfl⟩
      ·obtain ⟨va, vcap, rfl, hrest⟩ := hlay
       have HST := hide (fun (w4 : World) (v' : Value) own gr far => (za TK).step (w1 := wX) (w4 := w4) (kids := kids) (v1 := .slice va kids.len vcap) (q1 := q1) (L1 := L1) (v' := v') (o1 := .cells #[.map (some q1), .int .i64 (kids.len : Int), .slice va kids.len vcap] 106) (o2 := .cells #[.map (some q1), .int .i64 (kids.len : Int), .slice va kids.len vcap] 106) bX ⟨va, vcap, rfl, hrest⟩ hq1 hap1 hm1 own gr far)
       have HMD := hide (fun (w4 : World) gr => (za TK).mid (w1 := wX) (w4 := w4) (o1 := .cells #[.map (some q1), .int .i64 (kids.len : Int), .slice va kids.len vcap] 106) (o2 := .cells #[.map (some q1), .int .i64 (kids.len : Int), .slice va kids.len vcap] 106) bX gr)
       have HR := hide (((zl3 (za TK).row bX).alloc (.cells #[.map (some q1), .int .i64 (kids.len : Int), .slice va kids.len vcap] 106)).alloc (.cells #[.map (some q1), .int .i64 (kids.len : Int), .slice va kids.len vcap] 106))
       have X7a := ((za TK).x7.call bX).alloc (.cells #[.map (some q1), .int .i64 (kids.len : Int), .slice va kids.len vcap] 106)
       have c72 := X7a.cell 2
       simp only [kA0, kA1, kA2] at c72
       have hbig : w1.heap.size + 1 + 1 ≤ wX.heap.size := Nat.le_trans (za TK).big bX.size
       have HS2 : Hid (Mem.shifted (some ⟨b, o, none⟩) a1 (k + k1) Is) := hide hs1'
       obtain ⟨j, hj⟩ : ∃ j, mm - F.len = j + 1 := ⟨mm - F.len - 1, by omega⟩
       have HT2 : Hid (Pl.went (F.app (.cons L1 kids .nil)).shape (Pl.take (mm - (F.app (.cons L1 kids .nil)).len) (Pl.rowO ((Is.drop (k + k1)).map Pl.It.r))) = T0) := hide (by
        have h' := za HT
        rw [hj, Pl.went_step ht] at h'
        rw [Pl.Fx.len_app, Pl.Fx.shape_app, ← h']
        congr 2
        simp only [Pl.Fx.len]
        omega)
       have HF2 : Hid ((F.app (.cons L1 kids .nil)).okX ∧ (F.app (.cons L1 kids .nil)).flat ++ (Is.drop (k + k1)).map Pl.It.r = (Is.drop 1).map Pl.It.r) := hide ⟨Pl.Fx.ok_app (za HF).1 hfl.1, by rw [Pl.Fx.flat_app, List.append_assoc, hfl.2]; exact (za HF).2⟩
       have hlen : (F.app (.cons L1 kids .nil)).len = F.len + 1 := by rw [Pl.Fx.len_app]; rfl
       have HLEN := hide hlen
       clear TK HS HT HF hfl hq1 hap1 hm1 ht bX hs1' hrest X7a hlen
       go_wp2_with (at_builtin; refine Mem.ze6 _ rfl _ _ 104 rfl (w1.heap.size + 1 + 1) 106 i0 (.agg #[.map none, .int .i64 0, .slice none 0 0]) 3 40 Tryz.underlying104 hi hz0 hz1 hz2 rfl (by decide) _ _ _ rfl (za HR) ⟨wX.heap.size + 1, 0, none⟩ 1 1 [.map (some q1), .int .i64 (kids.len : Int), .slice va kids.len vcap] rfl rfl (three_new _ _ _ _) (fun u hu => by simp at hu; rcases hu with rfl | rfl | rfl <;> rfl) (by unfold maxLen; omega) (by omega) (by simp; omega) ?_)
       intro v' w4 own' hgrow hfar
       have M7 := za HMD w4 hgrow
       have c74 := M7.cell 2
       have f74 := M7.fr 2
       simp only [kA0, kA1, kA2] at c74
       have TK2 := hide (za HST w4 v' own' hgrow (by simpa using hfar))
       obtain ⟨vb, vc, rfl⟩ := conc own'
       clear own' hgrow hfar M7 HMD HST HR c72
       go_wp2
       go_roundw
       case rel => exact ⟨k + k1, a1, cap1, _, _, _, s1, rfl, by rw [za HLEN]; go_num, by rw [za HLEN]; omega, by omega, hk1', hc1, HS2, TK2, HF2, HT2⟩
       case measure => simp [intOf]; omega
      ·obtain ⟨j, hj⟩ : ∃ j, mm - F.len = j + 1 := ⟨mm - F.len - 1, by omega⟩
       have hno : TT = none := by
        have h' := za HT
        rw [hj, Pl.went_fail ht] at h'
        rw [← za HTT, ← h']; rfl
       have X2a := ((za TK).x2.call bX).alloc (.cells #[.map none, .int .i64 0, .slice none 0 0] 106)
       have c20 := X2a.cell 0
       have c21 := X2a.cell 1
       have c22 := X2a.cell 2
       have f20 := X2a.fr 0
       have f21 := X2a.fr 1
       have f22 := X2a.fr 2
       simp only [kA0, kA1, kA2] at c20 c21 c22
       have bb : Hid (Below w.heap.size w (wX.alloc (.cells #[.map none, .int .i64 0, .slice none 0 0] 106))) := hide (by
        have b' := (za TK).bel.trans (bX.mono (za TK).bel.size)
        exact b'.alloc b'.size _)
       clear TK HS HT ht bX X2a
       go_wp2
       refine bodyPost_ret (v := .tuple #[.agg #[.map none, .int .i64 0, .slice none 0 0], .slice none 0 0, .iface r1 x1]) (by simp [results, Tryz.results113, go_sem, c20, c21, c22]) rfl ⟨Or.inr ⟨hno, rfl⟩, ?_⟩
       first | exact za bb | exact (((za bb).setCell (Nat.le_refl _) _).setCell (Nat.le_refl _) _).setCell (Nat.le_refl _) _
     ·have u1 : ¬ (F.len : Int) < (mm : Int) := by omega
      have hyes : Hid (TT = some (.cons F.shape .nil, Pl.rowO ((Is.drop k).map Pl.It.r))) := hide <| by
       have h' := za HT
       rw [show mm - F.len = 0 by omega, Pl.went_end] at h'
       rw [← za HTT, ← h']; rfl
      have hFe : F.len = mm := by omega
      have HFI : Hid ((Pl.Fx.cons x.t.L F .nil).okX ∧ (Pl.Fx.cons x.t.L F .nil).flat ++ (Is.drop k).map Pl.It.r = Is.map Pl.It.r) := hide ⟨⟨(za HTB).1, (za HTB).2.imp (fun h => Pl.Fx.yi6 (by omega)) id, by omega, (za HF).1, trivial⟩, by rw [za HIS, ← (za HF).2, Pl.Fx.flat, hFe]; simp [Pl.Fx.flat]⟩
      have HQ := hide (za TK).lq.1
      have HFE := hide hFe
      clear hFe
      obtain ⟨va, vcap, rfl⟩ := (za TK).conc
      have X2a := (za TK).x2
      have X7a := (za TK).x7
      have c20 := X2a.cell 0
      have c21 := X2a.cell 1
      have c22 := X2a.cell 2
      have f20 := X2a.fr 0
      have f21 := X2a.fr 1
      have f22 := X2a.fr 2
      have c70 := X7a.cell 0
      have c71 := X7a.cell 1
      have c72 := X7a.cell 2
      simp only [kA0, kA1, kA2] at c20 c21 c22 c70 c71 c72
      clear X2a X7a HT
      go_wp2
      have hrl : (Is.drop k).length = r := by rw [List.length_drop]; omega
      refine bodyPost_ret (v := .tuple #[.agg #[.map (some B), .int .i64 (mm : Int), .slice va F.len vcap], .slice a' r cap', .nilIface]) (by simp [results, Tryz.results113, go_sem, c20, c21, c22]) rfl ⟨Or.inl ⟨_, F, B, _, k, a', cap', za hyes, by rw [hrl, za HFE], hk, by omega, by rw [hrl]; exact hc, za HS, ⟨⟨za HQ, (za TK).apart _ _ _⟩, (za TK).own _ _ _⟩, za HFI, (za TK).done _ _ _⟩, ?_⟩
      exact (((za TK).bel.setCell (Nat.le_refl _) _).setCell (Nat.le_refl _) _).setCell (Nat.le_refl _) _
  ·rw [Pl.itemO_no hT] at HTT
   have hno : TT = none := (za HTT).symm
   have A2 := A1.alloc (.cells #[.map none, .int .i64 k] 103)
   have c20 := A2.cell 0
   have c21 := A2.cell 1
   have c22 := A2.cell 2
   have f20 := A2.fr 0
   have f21 := A2.fr 1
   have f22 := A2.fr 2
   simp only [kA0, kA1, kA2] at c20 c21 c22
   have bb := hide (bw1.alloc bw1.size (.cells #[.map none, .int .i64 k] 103))
   clear A1 A2 hT HI bw1
   go_wp2
   refine bodyPost_ret (v := .tuple #[.agg #[.map none, .int .i64 0, .slice none 0 0], .slice none 0 0, .iface r1 x1]) (by simp [results, Tryz.results113, go_sem, c20, c21, c22]) rfl ⟨Or.inr ⟨hno, rfl⟩, ?_⟩
   first | exact za bb | exact (((za bb).setCell (Nat.le_refl _) _).setCell (Nat.le_refl _) _).setCell (Nat.le_refl _) _
end zt8
end Go.Proofs.YtppmlbofhghghaaGreatDoor

