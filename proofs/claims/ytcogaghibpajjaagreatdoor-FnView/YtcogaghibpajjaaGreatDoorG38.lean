/- Several texts of one claim in one file: WAsLeaf, WNestD, WNodesJ. -/
import Derived.Test.YtcogaghibpajjaaGreatDoorG23
import Derived.Test.YtcogaghibpajjaaGreatDoorG35
import Derived.Test.YtcogaghibpajjaaGreatDoorPlainCanon
import Derived.Test.YtcogaghibpajjaaGreatDoorG37
import Derived.Test.YtcogaghibpajjaaGreatDoorG01
import Derived.Test.YtcogaghibpajjaaGreatDoorG07
import Derived.Test.YtcogaghibpajjaaGreatDoorG22
import Derived.Test.YtcogaghibpajjaaGreatDoorProg
import Derived.WalkSpells
import Derived.Lib.OthersKept
import Derived.Laws.RangeAny
import Derived.Deep.Draws
import Derived.Deep.QuietTactic
import Derived.BigQuiet
import Derived.Deep.RegionHeld3
import Derived.Test.YtcogaghibpajjaaGreatDoorG03
import Derived.Test.YtcogaghibpajjaaGreatDoorG04
import Derived.Test.YtcogaghibpajjaaGreatDoorG31
import Derived.Test.YtcogaghibpajjaaGreatDoorG24
namespace Go.Proofs.YtcogaghibpajjaaGreatDoor
open Go.RowKit Go.Maps
namespace WAsLeaf
structure Oq (w : World) (S : Nat) (v : Value) (Bs : List Nat) (Ls : List (List Pl.Nd)) : Prop where
 row : w.ownsRow S 128 1 v Bs.length (Bs.map zf7.layV)
 len : Bs.length = Ls.length
 maps : ∀ (j : Nat) b L, Bs[j]? = some b → Ls[j]? = some L → Mem.ownM w b L
theorem Oq.ov {w : World} {S : Nat} {v : Value} {Bs : List Nat} {Ls : List (List Pl.Nd)} (h : Oq w S v Bs Ls) : zf7.Ov w 0 v Bs Ls := by
 refine ⟨⟨h.row.1, ?_⟩, h.len, fun j b L h1 h2 => ⟨Nat.zero_le _, h.maps j b L h1 h2⟩⟩
 rcases h.row.2 with h0 | ⟨g, cap, cur, hv, hb, rest⟩
 ·exact .inl h0
 ·exact .inr ⟨g, cap, cur, hv, Nat.zero_le _, rest⟩
theorem Oq.call {w w' : World} {S : Nat} {v : Value} {Bs : List Nat} {Ls : List (List Pl.Nd)} (h : Oq w S v Bs Ls) (b : Below w.heap.size w w') : Oq w' S v Bs Ls :=
 ⟨zf7.zi6 h.row b, h.len, fun j c L h1 h2 => (h.maps j c L h1 h2).call b⟩
theorem Oq.put {w w' : World} {S b : Nat} {v v' : Value} {Bs : List Nat} {Ls : List (List Pl.Nd)} {L : List Pl.Nd} (h : Oq w S v Bs Ls) (hm : Mem.ownM w b L)
  (hr : w'.ownsRow S 128 1 v' (Bs.length + 1) (Bs.map zf7.layV ++ [zf7.layV b])) (hg : w.grownBy w' v.ownBlock) : Oq w' S v' (Bs ++ [b]) (Ls ++ [L]) := by
 refine ⟨by simpa using hr, by simp [h.len], fun j c M h1 h2 => ?_⟩
 by_cases e : j < Bs.length
 ·rw [List.getElem?_append_left e] at h1
  rw [List.getElem?_append_left (by rw [← h.len]; exact e)] at h2
  have h4 := h.maps j c M h1 h2
  exact h4.grown hg (zf7.map_not h.row h4)
 ·rw [List.getElem?_append_right (by omega)] at h1
  rw [List.getElem?_append_right (by rw [← h.len]; omega)] at h2
  have e0 : j - Bs.length = 0 := by
   have := (List.getElem?_eq_some_iff.1 h1).1
   simp at this; omega
  rw [e0] at h1
  rw [← h.len, e0] at h2
  simp at h1 h2
  subst h1 h2
  exact hm.grown hg (zf7.map_not h.row hm)
def Leafed (w' : World) (x : Nat → Addr) (VV : Option (List Pl.Nd)) (e : Ending) : Prop :=
 (∃ V q m, VV = some V ∧ e = .returned (.tuple #[.agg #[.map (some q), .int .i64 m], .nilIface]) ∧ Mem.ownM w' q V) ∨
 (VV = none ∧ e = .returned (.tuple #[.agg #[.map none, .int .i64 0], .iface 191 (.pointer (some (x 5)))]))
theorem told_map {w : World} {q N : Nat} {Ls : List (List Pl.Nd)} {D : DataW Unit} {C : List Pl.Nd} (h : w.ownsMap Tryz.prog 9 MapN.elem q N D) (g : MapN.Gt Ls D C) (hC : ∀ n, n ∈ C ↔ Pl.zl2 Ls n) (h4 : Ls.length ≤ 4) (htr : ∀ L ∈ Ls, Pl.za2 L = true) (hl : C.length ≤ 40) : Pl.zr1 (some Ls) = some (Pl.allO Ls) ∧ Mem.ownM w q (Pl.allO Ls) := by
 have ha := Pl.yc0 h4 htr
 have hp := Pl.all_perm htr ha g.apart hC
 have hle : (Pl.allO Ls).length ≤ 40 := by rw [hp.length_eq]; exact hl
 have ht := Pl.all_tree h4 htr hle
 have e := MapN.is_mapOf h g (Pl.zt1 ht) (fun n => (hC n).trans (ha.mem n).symm)
 refine ⟨if_pos hle, ?_⟩
 subst e
 exact Mem.tight h (by rw [MapN.yg3 (Pl.zt1 ht)]; exact hle)
theorem told_long {Ls : List (List Pl.Nd)} {C : List Pl.Nd} (ap : C.Pairwise (fun a b => a.path ≠ b.path)) (hC : ∀ n, n ∈ C ↔ Pl.zl2 Ls n) (h4 : Ls.length ≤ 4) (htr : ∀ L ∈ Ls, Pl.za2 L = true) (hl : 40 < C.length) : Pl.zr1 (some Ls) = none := by
 have hp := Pl.all_perm htr (Pl.yc0 h4 htr) ap hC
 exact if_neg (by rw [hp.length_eq]; omega)
set_option linter.unusedSimpArgs false in
set_option maxRecDepth 100000 in
set_option maxHeartbeats 2000000 in
theorem leaf_as (x : Nat → Addr) (n : Nat) (hn : n ≤ 1000) : ∀ (N : Nat → Prop) (K : Pl.Fx) (L : List Pl.Nd) (q : Nat) (m : Int) (v : Value) (w : World), K.sz ≤ n → (Pl.Fx.cons L K .nil).okX → Mem.ownM w q L → Mem.layX w N K v → WIs.Six w x →
  Calls Tryz.prog 16 #[.agg #[.map (some q), .int .i64 m, v]] w fun e w' => Leafed w' x (Pl.ze5 L K) e ∧ Below w.heap.size w w' := by
 obtain ⟨i0, hi, hz0, hz1, hz2⟩ := info_parts zf7.infoL
 have base : ∀ (L : List Pl.Nd) (q : Nat) (m : Int) (a : Option Addr) (cap : Nat) (w : World), Mem.ownM w q L → Calls Tryz.prog 16 #[.agg #[.map (some q), .int .i64 m, .slice a 0 cap]] w fun e w' => Leafed w' x (some L) e ∧ Below w.heap.size w w' := by
  intro L q m a cap w hm
  have b0 : Below w.heap.size w ((w.alloc (.cells #[.map (some q), .int .i64 m, .slice a 0 cap] 46)).alloc (.cells #[.map none, .int .i64 0] 43)) := ((Below.refl _ _).alloc (Nat.le_refl _) _).alloc (by simp) _
  have A0 := (Mem.Blk.new w #[.map (some q), .int .i64 m, .slice a 0 cap] 46).alloc (.cells #[.map none, .int .i64 0] 43)
  have R0 : Mem.Blk ((w.alloc (.cells #[.map (some q), .int .i64 m, .slice a 0 cap] 46)).alloc (.cells #[.map none, .int .i64 0] 43)) (w.heap.size + 1) #[.map none, .int .i64 0] 43 := Mem.zg9 _ _ _
  have hlf := hide (zp2.leaf_any .nil (some q) m a cap)
  simp only [Pl.Fo.len] at hlf
  have HM := hide (hm.call b0)
  have hql := hm.lt
  clear hm
  go_enter Tryz.func16, Tryz.ntmps16
  go_wp2_with fail
  generalize (w.alloc (.cells #[.map (some q), .int .i64 m, .slice a 0 cap] 46)).alloc (.cells #[.map none, .int .i64 0] 43) = w2 at b0 A0 R0 HM ⊢
  refine (za hlf _).mono ?_
  rintro e w1 ⟨rfl, b1⟩
  have bb := b0.trans (b1.mono b0.size)
  have A1 := A0.call b1
  have R1 := R0.call b1
  have M1 := hide (((za HM).call b1).set ⟨w.heap.size + 1, 0, none⟩ (.map (some q)) (by show q ≠ w.heap.size + 1; omega))
  have M2 := hide ((za M1).set ⟨w.heap.size + 1, 1, none⟩ (.int .i64 m) (by show q ≠ w.heap.size + 1; omega))
  have c0 := A1.cell 0
  have c1 := A1.cell 1
  have d0 := R1.cell 0
  have d1 := R1.cell 1
  have f0 := R1.fr 0
  have f1 := R1.fr 1
  simp only [kA0, kA1, kA2] at c0 c1 d0 d1
  have HB := hide bb
  clear hlf A0 R0 A1 R1 HM M1 b0 b1 bb
  go_wp2
  refine bodyPost_ret (v := .tuple #[.agg #[.map (some q), .int .i64 m], .nilIface]) (by simp [results, Tryz.results16, go_sem, d0, d1]) rfl ⟨Or.inl ⟨L, q, m, rfl, rfl, za M2⟩, ?_⟩
  exact ((za HB).setCell (by show w.heap.size ≤ w.heap.size + 1; omega) _).setCell (by show w.heap.size ≤ w.heap.size + 1; omega) _
 induction n with
 | zero =>
  intro N K L q m v w hs hx hm hl hE
  obtain ⟨a, cap, rfl, -⟩ := hl
  cases K with
  | nil => exact base L q m a cap w hm
  | cons L' k' m' => simp [Pl.Fx.sz] at hs
 | succ n ih =>
  intro N K L q m v w hs hx hm hl hE
  obtain ⟨a, cap, rfl, hrow⟩ := hl
  by_cases hK0 : K.len = 0
  ·have e := Pl.Fx.yb7 hK0
   subst e
   exact base L q m a cap w hm
  rcases hrow with h | ⟨g, rfl, -, hrow⟩
  ·rw [h] at hK0; exact absurd rfl hK0
  rw [Pl.zy7 hK0]
  have hK4 : K.len ≤ 4 := hx.2.2.1
  have HKX := hide hx.2.2.2.1
  have b0 : Below w.heap.size w ((w.alloc (.cells #[.map (some q), .int .i64 m, .slice (some ⟨g, 0, none⟩) K.len cap] 46)).alloc (.cells #[.map none, .int .i64 0] 43)) := ((Below.refl _ _).alloc (Nat.le_refl _) _).alloc (by simp) _
  have A0 := (Mem.Blk.new w #[.map (some q), .int .i64 m, .slice (some ⟨g, 0, none⟩) K.len cap] 46).alloc (.cells #[.map none, .int .i64 0] 43)
  have R0 : Mem.Blk ((w.alloc (.cells #[.map (some q), .int .i64 m, .slice (some ⟨g, 0, none⟩) K.len cap] 46)).alloc (.cells #[.map none, .int .i64 0] 43)) (w.heap.size + 1) #[.map none, .int .i64 0] 43 := Mem.zg9 _ _ _
  have HI := hide (ih (by omega))
  have HRW := hide (Mem.zx7 (Mem.zt9 (N' := fun b => b < w.heap.size) (fun b _ hb => ⟨hb, hb, rfl⟩) K g 0 hrow) b0)
  have HE := hide (fun W (b : Below w.heap.size w W) => hE.call b)
  have hlf := hide (zp2.leaf_any K.shape (some q) m (some ⟨g, 0, none⟩) cap)
  rw [Pl.Fx.zy6, show decide (K.len = 0) = false from decide_eq_false hK0] at hlf
  clear ih hrow base hx hm hE
  go_enter Tryz.func16, Tryz.ntmps16
  go_wp2_with fail
  generalize (w.alloc (.cells #[.map (some q), .int .i64 m, .slice (some ⟨g, 0, none⟩) K.len cap] 46)).alloc (.cells #[.map none, .int .i64 0] 43) = w2 at b0 A0 R0 HRW ⊢
  refine (za hlf _).mono ?_
  rintro e w1 ⟨rfl, b1⟩
  have bb := b0.trans (b1.mono b0.size)
  have c02 := (A0.call b1).cell 2
  simp only [kA0, kA1, kA2] at c02
  have RR := hide (R0.call b1)
  have RW : Hid (Mem.rowX w1 (fun b => b < w.heap.size) K g (0 * 3)) := hide (by simpa using Mem.zx7 (za HRW) b1)
  have OQ0 : Hid (Oq w1 (w.heap.size + 2) (.slice none 0 0) [] []) := ⟨⟨by rfl, .inl ⟨rfl, rfl⟩⟩, rfl, fun j b L h => by simp at h⟩
  have SF0 := hide (Pl.yf0 K)
  clear b0 b1 hlf A0 R0 HRW
  go_wp2
  go_loopw [4, 18] (fun v i wr => ∃ (j : Nat) (Bs : List Nat) (Ls : List (List Pl.Nd)) (F : Pl.Fx), i = .int .i64 (j : Int) ∧ j + F.len = K.len ∧ Bs.length = j ∧ F.sz ≤ n + 1 ∧ Below w.heap.size w wr ∧ Hid (Oq wr (w.heap.size + 2) v Bs Ls) ∧ Hid (Mem.rowX wr (fun b => b < w.heap.size) F g (j * 3)) ∧ Hid (Pl.zr7 K F Ls) ∧ Hid F.okX ∧ Hid (Mem.Blk wr (w.heap.size + 1) #[.map none, .int .i64 0] 43)) (fun _ i _ => K.len - (intOf i).toNat)
  case atStart => exact ⟨0, [], [], K, rfl, by omega, rfl, hs, bb, OQ0, RW, SF0, HKX, RR⟩
  case round =>
   obtain ⟨j, Bs, Ls, F, rfl, hj, hBs, hsz, hbel, OQ, HR, SF, FX, RB⟩ := hrel
   clear RW bb c02 OQ0 SF0 RR
   cases F with
   | nil =>
    simp only [Pl.Fx.len] at hj
    have u1 : ¬ (j : Int) < (K.len : Int) := by omega
    have hvs := Pl.seenF_end (za SF)
    obtain ⟨hLl, htr⟩ := Pl.views_ok K Ls (za HKX) hvs
    have hwh := hide (zw2.whole_any 0 _ Bs Ls wr (za OQ).ov (by omega) htr x (za HE _ hbel))
    have HTM := hide (fun W N D C (h : World.ownsMap W Tryz.prog 9 MapN.elem wr.heap.size N D) g hC hl => told_map (w := W) (q := wr.heap.size) (N := N) (D := D) (C := C) h g hC (by omega) htr hl)
    have HTL := hide (fun C ap hC hl => told_long (Ls := Ls) (C := C) ap hC (by omega) htr hl)
    obtain ⟨va, vc, hv⟩ := zh9.zp7 (za OQ).ov
    subst hv
    have hVS : Hid (Pl.zf8 K = some Ls) := hvs
    clear htr hvs OQ HR SF FX hLl
    go_wp2_with fail
    refine (za hwh).mono ?_
    rintro e w3 h3
    clear hwh
    rcases h3 with ⟨N3, D, C, rfl, hC4, -, G, hC⟩ | ⟨C, rfl, hC4, hap, hC, b2⟩
    ·obtain ⟨e1, m1⟩ := za HTM w3 N3 D C G.map G.gt hC hC4
     have E1 : Hid (Pl.zr1 (Pl.zf8 K) = some (Pl.allO Ls)) := hide (by rw [za hVS]; exact e1)
     have hlt := (za RB).lt
     have R3 := (za RB).call G.bel
     have B3 := hide (hbel.trans (G.bel.mono hbel.size))
     have M3 := hide ((m1.set ⟨w.heap.size + 1, 0, none⟩ (.map (some wr.heap.size)) (by show wr.heap.size ≠ w.heap.size + 1; omega)).set ⟨w.heap.size + 1, 1, none⟩ (.int .i64 0) (by show wr.heap.size ≠ w.heap.size + 1; omega))
     have d0 := R3.cell 0
     have d1 := R3.cell 1
     have f0 := R3.fr 0
     have f1 := R3.fr 1
     simp only [kA0, kA1, kA2] at d0 d1
     clear G hC e1 m1 R3 HTM HTL RB hVS HE
     go_wp2
     refine bodyPost_ret (v := .tuple #[.agg #[.map (some wr.heap.size), .int .i64 0], .nilIface]) (by simp [results, Tryz.results16, go_sem, d0, d1]) rfl ⟨Or.inl ⟨_, _, _, za E1, rfl, za M3⟩, ?_⟩
     exact ((za B3).setCell (by show w.heap.size ≤ w.heap.size + 1; omega) _).setCell (by show w.heap.size ≤ w.heap.size + 1; omega) _
    ·have E1 : Hid (Pl.zr1 (Pl.zf8 K) = none) := hide (by rw [za hVS]; exact za HTL C hap hC hC4)
     have R3 := (za RB).call b2
     have B3 := hide (hbel.trans (b2.mono hbel.size))
     have d0 := R3.cell 0
     have d1 := R3.cell 1
     have f0 := R3.fr 0
     have f1 := R3.fr 1
     simp only [kA0, kA1, kA2] at d0 d1
     clear hC hap R3 HTM HTL RB hVS HE b2
     go_wp2
     refine bodyPost_ret (v := .tuple #[.agg #[.map none, .int .i64 0], .iface 191 (.pointer (some (x 5)))]) (by simp [results, Tryz.results16, go_sem, d0, d1]) rfl ⟨Or.inr ⟨za E1, rfl⟩, ?_⟩
     first | exact za B3 | exact ((za B3).setCell (by show w.heap.size ≤ w.heap.size + 1; omega) _).setCell (by show w.heap.size ≤ w.heap.size + 1; omega) _
   | cons L1 k1 m1 =>
    simp only [Pl.Fx.len, Pl.Fx.sz] at hj hsz
    obtain ⟨g1, g2, g3, g5, g6⟩ := za FX
    obtain ⟨⟨q1, a1, cap1, c0, c1, c2, hg, hNg, hNq, hm1, hsub⟩, hrest⟩ := za HR
    have u1 : (j : Int) < (K.len : Int) := by omega
    have u3 : (0 : Int) ≤ (j : Int) := by omega
    have bA : Below wr.heap.size wr (wr.alloc (.cells #[.map (some q1), .int .i64 (k1.len : Int), .slice a1 k1.len cap1] 46)) := (Below.refl _ _).alloc (Nat.le_refl _) _
    have HL : Mem.layX wr (fun b => b < w.heap.size) k1 (.slice a1 k1.len cap1) := ⟨a1, cap1, rfl, hsub⟩
    have bw := hbel.trans (bA.mono hbel.size)
    have hcall := hide (za HI (fun b => b < w.heap.size) k1 L1 q1 (k1.len : Int) _ _ (by omega) ⟨g1, g2, g3, g5, trivial⟩ (hm1.call bA) (Mem.zy1 HL bA) (za HE _ bw))
    have HRR := hide (Mem.zx7 hrest bA)
    have OA := hide ((za OQ).call bA)
    have RA := hide ((za RB).call bA)
    have G6 := hide g6
    have hsw := hbel.size
    clear hsub hrest HL HR OQ RB FX g1 g2 g5 g6 hm1
    go_wp2_with fail
    refine (za hcall).mono ?_
    rintro e wX ⟨hX, bX⟩
    have bw2 := bw.trans (bX.mono bw.size)
    clear hcall
    rcases hX with ⟨V, q2, m2, hV, rfl, hm2⟩ | ⟨hV, rfl⟩
    ·have SF2 := hide (Pl.yg9 (za SF) hV)
     have bA2 : Below wX.heap.size wX ((wX.alloc (.cells #[.map (some q2), .int .i64 m2] 43)).alloc (.cells #[zf7.layV q2] 128)) := ((Below.refl _ _).alloc (Nat.le_refl _) _).alloc (by simp) _
     have bb2 := bX.trans (bA2.mono bX.size)
     have O2 := (za OA).call bb2
     have M2 := hm2.call bA2
     have HP := hide (fun v' w4 h1 h2 => O2.put (v' := v') (w' := w4) M2 h1 h2)
     have HRO := hide O2.row
     have bw3 := bw2.trans (bA2.mono bw2.size)
     have HQ := hide (fun w4 (h2 : ((wX.alloc (.cells #[.map (some q2), .int .i64 m2] 43)).alloc (.cells #[zf7.layV q2] 128)).grownBy w4 _) => bw3.grown h2 bw3.size (fun k hk => by have := (O2.row.lt k hk).1; omega))
     have HGR := hide (fun w4 (h2 : ((wX.alloc (.cells #[.map (some q2), .int .i64 m2] 43)).alloc (.cells #[zf7.layV q2] 128)).grownBy w4 _) => (⟨((za RA).call bb2).grown h2 (fun e => by have := (O2.row.lt _ e.symm).1; omega), Mem.zt9 (fun b hb hlt => ⟨hb, Nat.lt_of_lt_of_le hlt h2.size, h2.block b hlt (fun e => by have := (O2.row.lt b e.symm).1; omega)⟩) _ _ _ (Mem.zx7 (za HRR) bb2)⟩ : Mem.Blk w4 (w.heap.size + 1) #[.map none, .int .i64 0] 43 ∧ Mem.rowX w4 (fun b => b < w.heap.size) m1 g (j * 3 + 3)))
     have HSB := hide (show w.heap.size + 2 ≤ wX.heap.size by have h1 := (za RA).lt; have h2 := bX.size; omega)
     clear bA O2 M2 hm2 hV SF OA RA HRR bA2 bb2 bX bw bw3
     unfold zf7.layV at HP HRO HQ HGR
     go_wp2_with (at_builtin; refine wpList_append_own _ rfl _ _ 76 rfl (w.heap.size + 2) 128 i0 .nilIface 1 16 Tryz.underlying76 hi hz0 hz1 hz2 rfl (by decide) _ _ _ rfl (za HRO) ⟨wX.heap.size + 1, 0, none⟩ 1 1 [.iface 41 (.map (some q2))] rfl rfl (by have := Mem.ze6 (wX.alloc (.cells #[.map (some q2), .int .i64 m2] 43)) (.iface 41 (.map (some q2))) 128; simpa using this) (fun u hu => by simp at hu; subst hu; rfl) (by unfold maxLen; omega) (by omega) (by have := za HSB; simp; omega) ?_)
     intro v' w4 own' hgrow _
     have OV2 := hide (za HP v' w4 (by rw [hBs]; exact own') hgrow)
     have bw4 := za HQ w4 hgrow
     obtain ⟨RB2, HR2⟩ := za HGR w4 hgrow
     have RB3 := hide RB2
     have HR3 := hide HR2
     rw [show j * 3 + 3 = (j + 1) * 3 by omega] at HR3
     have hBl : (Bs ++ [q2]).length = j + 1 := by simp [hBs]
     have HBL := hide hBl
     clear HP HRO HQ HGR own' hgrow HSB RB2 HR2 hBl
     go_wp2
     go_roundw
     case rel => exact ⟨j + 1, Bs ++ [q2], Ls ++ [V], m1, by go_num, by omega, za HBL, by omega, bw4, OV2, HR3, SF2, G6, RB3⟩
     case measure => simp [intOf]; omega
    ·have E1 : Hid (Pl.zr1 (Pl.zf8 K) = none) := hide (by rw [Pl.yf3 (za SF) hV]; rfl)
     have R3 := ((za RA).call bX).alloc (.cells #[.map none, .int .i64 0] 43)
     have B3 := hide (bw2.alloc bw2.size (.cells #[.map none, .int .i64 0] 43))
     have d0 := R3.cell 0
     have d1 := R3.cell 1
     have f0 := R3.fr 0
     have f1 := R3.fr 1
     simp only [kA0, kA1, kA2] at d0 d1
     clear hV SF OA RA HRR bX bw bw2 R3 bA HE HI
     go_wp2
     refine bodyPost_ret (v := .tuple #[.agg #[.map none, .int .i64 0], .iface 191 (.pointer (some (x 5)))]) (by simp [results, Tryz.results16, go_sem, d0, d1]) rfl ⟨Or.inr ⟨za E1, rfl⟩, ?_⟩
     first | exact za B3 | exact ((za B3).setCell (by show w.heap.size ≤ w.heap.size + 1; omega) _).setCell (by show w.heap.size ≤ w.heap.size + 1; omega) _
end WAsLeaf
end Go.Proofs.YtcogaghibpajjaaGreatDoor

namespace Go.Proofs.YtcogaghibpajjaaGreatDoor
open Go.RowKit
namespace zp2
theorem yc4 {w w' : World} {N : Nat → Prop} {F : Pl.Fo} {b i : Nat} (h : Mem.rowF w N F b i) (bb : Below w.heap.size w w') : Mem.rowF w' N F b i := Mem.rowF_mono (fun g hg hl => ⟨hg, Nat.lt_of_lt_of_le hl bb.size, bb.block g hl⟩) F b i h
set_option linter.unusedSimpArgs false in
set_option maxRecDepth 100000 in
set_option maxHeartbeats 1000000 in
theorem depth_any (N : Nat → Prop) (n : Nat) (hn : n ≤ 1000) : ∀ (k : Pl.Fo) (q : Option Nat) (m : Int) (v : Value) (w : World), k.sz ≤ n → Mem.lay w N k v →
  Calls Tryz.prog 30 #[.agg #[.map q, .int .i64 m, v]] w fun e w' => e = .returned (.int .i64 ((k.depth : Int) + 1)) ∧ Below w.heap.size w w' := by
 have base : ∀ (q : Option Nat) (m : Int) (a : Option Addr) (cap : Nat) (w : World), Calls Tryz.prog 30 #[.agg #[.map q, .int .i64 m, .slice a 0 cap]] w fun e w' => e = .returned (.int .i64 1) ∧ Below w.heap.size w w' := by
  intro q m a cap w
  go_enter Tryz.func30, Tryz.ntmps30
  go_wp2
  go_loopw [3, 9] (fun d i wr => d = .int .i64 0 ∧ i = .int .i64 0 ∧ Below w.heap.size w wr) (fun _ _ _ => 0)
  case atStart => exact ⟨rfl, rfl, (Below.refl _ _).alloc (Nat.le_refl _) _⟩
  case round =>
   obtain ⟨rfl, rfl, hbel⟩ := hrel
   go_wp2
   go_ret
   exact ⟨rfl, hbel⟩
 induction n with
 | zero =>
  intro k q m v w hs hl
  obtain ⟨a, cap, rfl, -⟩ := hl
  cases k with
  | nil => exact base q m a cap w
  | cons a b => simp [Pl.Fo.sz] at hs
 | succ n ih =>
  intro k q m v w hs hl
  obtain ⟨a, cap, rfl, hrow⟩ := hl
  cases k with
  | nil => exact base q m a cap w
  | cons k0 m0 =>
   rcases hrow with h | ⟨g, rfl, hrow⟩
   ·cases h
   generalize hK : Pl.Fo.cons k0 m0 = K at *
   have hKl := K.len_le
   have hKd := K.depth_le
   have b0 : Below w.heap.size w (w.alloc (.cells #[.map q, .int .i64 m, .slice (some ⟨g, 0, none⟩) K.len cap] 46)) := (Below.refl _ _).alloc (Nat.le_refl _) _
   have HI := hide (ih (by omega))
   have R0 : Hid (Mem.rowF (w.alloc (.cells #[.map q, .int .i64 m, .slice (some ⟨g, 0, none⟩) K.len cap] 46)) N K g (0 * 3)) := hide (by simpa using yc4 hrow b0)
   clear hK ih hrow base
   go_enter Tryz.func30, Tryz.ntmps30
   go_wp2
   go_loopw [3, 9] (fun d i wr => ∃ (j dd : Nat) (F : Pl.Fo), d = .int .i64 (dd : Int) ∧ i = .int .i64 (j : Int) ∧ j + F.len = K.len ∧ max dd F.depth = K.depth ∧ F.sz ≤ n + 1 ∧ Below w.heap.size w wr ∧ Hid (Mem.rowF wr N F g (j * 3))) (fun _ i _ => K.len - (intOf i).toNat)
   case atStart => exact ⟨0, 0, K, rfl, rfl, by omega, by omega, hs, b0, R0⟩
   case round =>
    obtain ⟨j, dd, F, rfl, rfl, hj, hmax, hsz, hbel, HR⟩ := hrel
    clear R0 b0
    cases F with
    | nil =>
     simp only [Pl.Fo.len, Pl.Fo.depth] at hj hmax
     have u1 : ¬ (j : Int) < (K.len : Int) := by omega
     have hdd : dd = K.depth := by omega
     subst hdd
     go_wp2
     go_ret
     exact ⟨by show Ending.returned (.int .i64 (1 + (K.depth : Int))) = _; rw [Int.add_comm], hbel⟩
    | cons k1 m1 =>
     simp only [Pl.Fo.len, Pl.Fo.depth, Pl.Fo.sz] at hj hmax hsz
     obtain ⟨⟨x, y, a1, cap1, c0, c1, c2, hg, hN, ⟨q1, rfl⟩, ⟨r1, rfl⟩, hsub⟩, hrest⟩ := za HR
     have u1 : (j : Int) < (K.len : Int) := by omega
     have u3 : (0 : Int) ≤ (j : Int) := by omega
     have bA : Below wr.heap.size wr (wr.alloc (.cells #[.map q1, .int .i64 r1, .slice a1 k1.len cap1] 46)) := (Below.refl _ _).alloc (Nat.le_refl _) _
     have HL : Mem.lay wr N k1 (.slice a1 k1.len cap1) := ⟨a1, cap1, rfl, hsub⟩
     have hcall := hide (za HI k1 q1 r1 _ _ (by omega) (Mem.lay_call HL bA))
     have HRR := hide (yc4 hrest bA)
     have bw := hbel.trans (bA.mono hbel.size)
     clear hsub hrest HL HR
     go_wp2_with fail
     refine (za hcall).mono ?_
     rintro e wX ⟨rfl, bX⟩
     have bw2 := bw.trans (bX.mono bw.size)
     have HR2 := hide (yc4 (za HRR) bX)
     rw [show j * 3 + 3 = (j + 1) * 3 by omega] at HR2
     clear hcall HRR bX bw hbel c0 c1 c2 bA
     by_cases hcmp : (dd : Int) ≤ (k1.depth : Int) + 1
     ·have e1 : max (dd : Int) ((k1.depth : Int) + 1) = (k1.depth : Int) + 1 := by omega
      go_wp2
      go_roundw
      case rel => exact ⟨j + 1, k1.depth + 1, m1, by go_num, by go_num, by omega, by omega, by omega, bw2, HR2⟩
      case measure => simp [intOf]; omega
     ·have e1 : max (dd : Int) ((k1.depth : Int) + 1) = (dd : Int) := by omega
      go_wp2
      go_roundw
      case rel => exact ⟨j + 1, dd, m1, by go_num, by go_num, by omega, by omega, by omega, bw2, HR2⟩
      case measure => simp [intOf]; omega
end zp2
end Go.Proofs.YtcogaghibpajjaaGreatDoor

namespace Go.Proofs.YtcogaghibpajjaaGreatDoor
open Go.RowKit Go.Maps
namespace Pl
structure Inv (C : List Nd) (lp : ByteArray) : Prop where
 right : za3 lp = true
 rise : C.Pairwise (fun a b => za6 (names a.path) (names b.path) = true)
 last : ∀ a ∈ C, a.path = lp ∨ za6 (names a.path) (names lp) = true
theorem inv_start : Inv [] ⟨#[]⟩ := ⟨(zf9 rfl).1, List.Pairwise.nil, fun a ha => by cases ha⟩
theorem inv_apart {C : List Nd} {lp : ByteArray} (h : Inv C lp) : C.Pairwise (fun a b => a.path ≠ b.path) :=
 h.rise.imp (fun {a b} hab e => by rw [e, zg3] at hab; cases hab)
theorem inv_step {C : List Nd} {lp : ByteArray} {n : Nd} (h : Inv C lp) (hn : zb n = true) (hl : ltP lp n.path = true) : Inv (C ++ [n]) n.path := by
 have hr := (ze3 hn).1
 rw [zg4 h.right hr] at hl
 have hall : ∀ a ∈ C, za6 (names a.path) (names n.path) = true := fun a ha => by
  rcases h.last a ha with e | e
  ·rw [e]; exact hl
  ·exact zj5 _ _ _ e hl
 refine ⟨hr, ?_, fun a ha => ?_⟩
 ·rw [List.pairwise_append]
  exact ⟨h.rise, List.pairwise_singleton _ _, fun a ha b hb => by simp at hb; subst hb; exact hall a ha⟩
 ·rcases List.mem_append.1 ha with ha | ha
  ·exact .inr (hall a ha)
  ·simp at ha; subst ha; exact .inl rfl
theorem goI_step (L : List Nd) {n : Nd} {k : Nat} (h : L[k]? = some n) (C : List Nd) (lp : ByteArray) : goI C lp (L.drop k) = (zb n && ltP lp n.path && parI C n.path && goI (C ++ [n]) n.path (L.drop (k + 1))) := by
 have h1 := (List.getElem?_eq_some_iff.1 h)
 rw [List.drop_eq_getElem_cons h1.1, h1.2, goI]
theorem take_snoc' (L : List Nd) {n : Nd} {k : Nat} (h : L[k]? = some n) : L.take (k + 1) = L.take k ++ [n] := by
 have h1 := (List.getElem?_eq_some_iff.1 h)
 rw [List.take_succ_eq_append_getElem h1.1, h1.2]
end Pl
namespace zg
set_option maxRecDepth 100000 in
set_option maxHeartbeats 1000000 in
theorem nodes_any (a : Option Addr) (cap : Nat) (L : List Pl.Nd) (w : World) (hl : L.length ≤ 1048576) (hv : Mem.za9 w a L) (hok : ∀ n ∈ L, n.path.size ≤ 1048576 ∧ n.data.size ≤ 1048576)
  (r1 r2 r3 : TypeId) (x1 x2 x3 : Value) (hE : Errs w r1 r2 r3 x1 x2 x3) :
  Calls Tryz.prog 44 #[.agg #[.slice a L.length cap]] w fun e w' => ((Pl.za2 L = true ∧ ∃ B, e = .returned (.tuple #[.map (some B), .nilIface]) ∧ w.heap.size ≤ B ∧ w'.ownsMap Tryz.prog 9 MapN.elem B 40 (MapN.mapOf L)) ∨
   (Pl.za2 L = false ∧ e = .returned (.tuple #[.map none, .iface r1 x1]))) ∧ Below w.heap.size w w' := by
 have b0 : Below w.heap.size w (w.alloc (.cells #[.slice a L.length cap] 27)) := (Below.refl _ _).alloc (Nat.le_refl _) _
 have HV := hide hv
 have HO := hide hok
 have HE := hide hE
 have hvar := hide (Mem.ze7 w [.slice a L.length cap] 27)
 have hmm := @run_makeMap Tryz.prog
 have k1 := (hE.call b0).c1
 clear hv hok hE
 by_cases h40 : 40 < L.length
 ·have F := hide (show Pl.za2 L = false by simp [Pl.za2]; omega)
  go_enter Tryz.func44, Tryz.ntmps44
  go_wp2
  go_region
  go_wp2
  go_ret2
  exact ⟨.inr ⟨za F, rfl⟩, Mem.below_drewN b0 1⟩
 have h41 : Pl.za2 L = Pl.goI [] ⟨#[]⟩ L := by rw [Pl.za2, show decide (L.length ≤ 40) = true by simp; omega]; rfl
 rw [h41]
 clear h41
 generalize hR : Pl.goI [] ⟨#[]⟩ L = R
 have HR := hide hR
 clear hR
 go_enter Tryz.func44, Tryz.ntmps44
 go_wp2
 go_loopw [5, 17] (fun v i wr => ∃ (k : Nat) (lp : ByteArray), k ≤ L.length ∧ i = .int .i64 (k : Int) ∧ v = .string lp ∧ lp.size ≤ 200 ∧ Below w.heap.size w wr ∧ Hid (wr.ownsMap Tryz.prog 9 MapN.elem (w.heap.size + 1) k (MapN.mapOf (L.take k))) ∧ Hid (Pl.Inv (L.take k) lp) ∧ Hid (R = Pl.goI (L.take k) lp (L.drop k))) (fun _ i _ => L.length - (intOf i).toNat)
 case atStart =>
  refine ⟨0, ⟨#[]⟩, Nat.zero_le _, rfl, rfl, Nat.zero_le _, ?_, ?_, Pl.inv_start, (za HR).symm⟩
  ·exact b0.alloc (by simp) _
  ·have h := World.ownsMap_made (w.alloc (.cells #[.slice a L.length cap] 27)) Tryz.prog 9 MapN.elem
   rw [show (w.alloc (.cells #[.slice a L.length cap] 27)).heap.size = w.heap.size + 1 by simp] at h
   exact h
 case round =>
  obtain ⟨k, lp, hk, rfl, rfl, hlp, hbel, HM, HI, HR2⟩ := hrel
  by_cases hlt : k < L.length
  ·obtain ⟨n, hn⟩ : ∃ n, L[k]? = some n := ⟨_, List.getElem?_eq_getElem hlt⟩
   obtain ⟨b, o, rfl, hb, q0, q1, q2, q3, q4⟩ := (Mem.za4 (za HV) hbel) k n hn
   have y1 : (k : Int) < (L.length : Int) := by omega
   have y3 : (0 : Int) ≤ (k : Int) := by omega
   have hBl := (za HM).lt
   have hsn := za HO n (List.mem_of_getElem? hn)
   have hnr := hide (fun W => WNode.zn9 n W hsn.1 hsn.2)
   have hls := hide (fun W => WLess.less_any lp n.path W (by omega) hsn.1)
   change Hid (∀ W, Calls Tryz.prog _ _ W fun e w' => e = .returned (.bool (Pl.ltP lp n.path)) ∧ _) at hls
   have hpf := hide (fun W hE hown hC => fault_any (w.heap.size + 1) k (L.take k) n.path W r1 r2 r3 x1 x2 x3 hE hown hC hsn.1)
   have UG := hide (Pl.goI_step L (n := n) (k := k) hn (L.take k) lp)
   have HN := hide hn
   have hkey := MapN.yb3 (p := n.path) (by have := hsn.1; unfold maxLen; omega)
   have zn := Mem.ze7 wr [.string n.path, .int .i64 n.kind, .string n.data, .int .i64 n.time, .int .i64 n.mark] 62
   have bw1 : Below wr.heap.size wr (wr.alloc (.cells #[.string n.path, .int .i64 n.kind, .string n.data, .int .i64 n.time, .int .i64 n.mark] 62)) := (Below.refl _ _).alloc (Nat.le_refl _) _
   have bw2 := hbel.trans (bw1.mono hbel.size)
   have HM1 := hide (zj9 (za HM) bw1)
   clear hn HM
   simp only [Pl.Nd.val] at hnr
   go_wp2_with fail
   refine (za hnr _).mono ?_
   rintro e wA ⟨rfl, bA⟩
   have znA := Mem.zi3 zn bA
   have bwA := bw2.trans (bA.mono bw2.size)
   have HMA := hide (zj9 (za HM1) bA)
   have kA := ((za HE).call bwA).c1
   clear zn bw1 bw2 bA HM1 q0 q1 q2 q3 q4 hnr
   have c0 := znA.2 0 _ rfl
   cases hnb : Pl.zb n
   ·have F := hide (show R = false by rw [za HR2, za UG, hnb]; rfl)
    clear hnb
    go_wp2
    go_region
    go_wp2
    go_ret2
    exact ⟨.inr ⟨za F, rfl⟩, Mem.below_drewN bwA 1⟩
   have HNB := hide hnb
   clear hnb
   go_wp2_with fail
   refine (za hls _).mono ?_
   rintro e wB ⟨rfl, bB⟩
   have znB := Mem.zi3 znA bB
   have bwB := bwA.trans (bB.mono bwA.size)
   have HMB := hide (zj9 (za HMA) bB)
   have kB := ((za HE).call bwB).c1
   clear znA bwA bB HMA c0 kA hls
   have c0 := znB.2 0 _ rfl
   cases hlb : Pl.ltP lp n.path
   ·have F := hide (show R = false by rw [za HR2, za UG, za HNB, hlb]; rfl)
    clear hlb
    go_wp2
    go_region
    go_wp2
    go_ret2
    exact ⟨.inr ⟨za F, rfl⟩, Mem.below_drewN bwB 1⟩
   have HLB := hide hlb
   clear hlb
   go_wp2_with fail
   refine (za hpf _ ((za HE).call bwB) (za HMB) (Pl.inv_apart (za HI))).mono ?_
   rintro e wC ⟨rfl, bC⟩
   have znC := Mem.zi3 znB bC
   have bwC := bwB.trans (bC.mono bwB.size)
   have HMC := hide (zj9 (za HMB) bC)
   have kC := ((za HE).call bwC).c1
   clear znB bwB bC HMB c0 kB hpf
   rcases Pl.par_ok (p := n.path) (u2 := r2) (u3 := r3) (x2 := x2) (x3 := x3) (Pl.inv_apart (za HI)) with ⟨hp1, hp2⟩ | ⟨hp1, uu, xx, hp2⟩
   rotate_left
   ·have F := hide (show R = false by rw [za HR2, za UG, za HNB, za HLB, hp1]; rfl)
    rw [hp2]
    clear hp1 hp2
    go_wp2
    go_region
    go_wp2
    go_ret2
    exact ⟨.inr ⟨za F, rfl⟩, Mem.below_drewN bwC 1⟩
   have HR3 := hide (show R = Pl.goI (L.take k ++ [n]) n.path (L.drop (k + 1)) by rw [za HR2, za UG, za HNB, za HLB, hp1]; rfl)
   rw [hp2]
   clear hp1 hp2
   have c0 := znC.2 0 _ rfl
   have c1 := znC.2 1 _ rfl
   have c2 := znC.2 2 _ rfl
   have c3 := znC.2 3 _ rfl
   have c4 := znC.2 4 _ rfl
   have hzl := znC.1
   have hne : some wr.heap.size ≠ some (w.heap.size + 1) := fun e => by have := Option.some.inj e; omega
   go_wp2_with (first | (at_mapUpdate; refine wpList_mapUpdate_own _ rfl _ _ _ 41 rfl 9 62 MapN.law Tryz.underlying41 _ (w.heap.size + 1) k _ rfl (za HMC) (by unfold maxLen; omega) _ _ _ rfl rfl hkey _ [] (MapN.zz6 n) ?_; intro wD hownD hgrowD; have cD := hgrowD.cell c0 hne; have HOD := hide hownD; have bwD := bwC.grown hgrowD bwC.size (fun k hk => by cases hk; omega); clear hownD hgrowD) | fail)
   have HI2 := hide (Pl.inv_step (za HI) (za HNB) (za HLB))
   have hnl := Pl.zh1 (Pl.ze3 (za HNB)).1
   have HT := hide (Pl.take_snoc' L (za HN))
   go_wp2
   go_roundw
   case rel =>
    refine ⟨k + 1, n.path, by omega, by go_num, rfl, hnl, bwD, ?_, ?_, ?_⟩
    ·rw [za HT, MapN.mapOf_snoc]; exact HOD
    ·rw [za HT]; exact HI2
    ·rw [za HT]; exact HR3
   case measure => simp [intOf]; omega
  ·obtain rfl : k = L.length := by omega
   have F := hide (show R = true by rw [za HR2, List.drop_length]; rfl)
   rw [List.take_length] at HM
   clear HR2
   go_wp2
   go_ret2
   exact ⟨.inl ⟨za F, w.heap.size + 1, rfl, by omega, (za HM).mono (by omega)⟩, hbel⟩
end zg
end Go.Proofs.YtcogaghibpajjaaGreatDoor

