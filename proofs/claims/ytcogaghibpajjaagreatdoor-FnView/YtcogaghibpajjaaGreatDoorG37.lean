/- Several texts of one claim in one file: WNodesIn, WAtO, WGather, WIs, WCode, WWhole, WNestF. -/
import Derived.Test.YtcogaghibpajjaaGreatDoorG25
import Derived.Test.YtcogaghibpajjaaGreatDoorWSeenI
import Derived.Test.YtcogaghibpajjaaGreatDoorG35
import Derived.Test.YtcogaghibpajjaaGreatDoorG00
import Derived.Below
import Derived.Test.YtcogaghibpajjaaGreatDoorProg
import Derived.WalkKit
import Derived.Laws.IdiomStrings
import Derived.LaidEql
import Derived.Stop.Asserts
import Derived.Test.YtcogaghibpajjaaGreatDoorG24
import Derived.Test.YtcogaghibpajjaaGreatDoorG07
import Derived.Test.YtcogaghibpajjaaGreatDoorG01
import Derived.WalkSpells
import Derived.Lib.OthersKept
import Derived.Laws.RangeAny
import Derived.Deep.Draws
import Derived.Deep.QuietTactic
import Derived.BigQuiet
import Derived.Deep.RegionHeld3
namespace Go.Proofs.YtcogaghibpajjaaGreatDoor
open Go.RowKit
namespace zw2
theorem is_map (b : Nat) (w : World) : (Instr.typeAssert (.iface 41 (.map (some b))) 128 41 true).run Tryz.prog w = .ok (.tuple #[.map (some b), .bool true]) w := by kernel_rfl
theorem no_map (a : Option Addr) (n c : Nat) (w : World) : (Instr.typeAssert (.iface 76 (.slice a n c)) 128 41 true).run Tryz.prog w = .ok (.tuple #[.map none, .bool false]) w := by kernel_rfl
theorem is_over (a : Option Addr) (n c : Nat) (w : World) : (Instr.typeAssert (.iface 76 (.slice a n c)) 128 76 true).run Tryz.prog w = .ok (.tuple #[.slice a n c, .bool true]) w := by kernel_rfl
set_option maxRecDepth 100000 in
theorem in_map (b : Nat) (w : World) : Calls Tryz.prog 50 #[zf7.layV b] w fun e w' => e = .returned (.map (some b)) ∧ w' = w := by
 unfold zf7.layV
 have h1 := is_map b
 go_enter Tryz.func50, Tryz.ntmps50
 go_wp2
 go_ret
 exact ⟨rfl, rfl⟩
end zw2
end Go.Proofs.YtcogaghibpajjaaGreatDoor

namespace Go.Proofs.YtcogaghibpajjaaGreatDoor
open Go.RowKit
namespace zh9
set_option linter.unusedSimpArgs false in
set_option maxRecDepth 100000 in
set_option maxHeartbeats 2000000 in
theorem atO_any (B : Nat) (v : Value) (Bs : List Nat) (Ls : List (List Pl.Nd)) (p : ByteArray) (w : World) (hov : zf7.Ov w B v Bs Ls) (h4 : Ls.length ≤ 4) (htr : ∀ L ∈ Ls, Pl.za2 L = true) (hp : p.size ≤ 1048576) :
  Calls Tryz.prog 97 #[v, .string p] w fun e w' => e = .returned (.tuple #[(Pl.zb1 Ls p).node.val, .bool (Pl.zb1 Ls p).told]) ∧ Below w.heap.size w w' := by
 have b0 : Below w.heap.size w (w.alloc (.cells #[.string ⟨#[]⟩, .int .i64 0, .string ⟨#[]⟩, .int .i64 0, .int .i64 0] 62)) := (Below.refl _ _).alloc (Nat.le_refl _) _
 have hs := hide (seen_any B v Bs Ls p _ (hov.call b0) h4 htr hp)
 have HL : Hid ((Pl.zb1 Ls p).have'.length = 4) := Pl.walk_len Ls Ls.length _
 generalize Pl.zb1 Ls p = S at hs HL ⊢
 obtain ⟨tt, ⟨sp, sk, sd, st, sm⟩, sh⟩ := S
 obtain ⟨e0, e1, e2, e3, rfl⟩ : ∃ h0 h1 h2 h3, sh = [h0, h1, h2, h3] := by
  match sh, za HL with
  | [a, b, c, d], _ => exact ⟨a, b, c, d, rfl⟩
 rw [show (Pl.Sg.cs ⟨tt, ⟨sp, sk, sd, st, sm⟩, [e0, e1, e2, e3]⟩).toArray = #[.bool tt, .string sp, .int .i64 sk, .string sd, .int .i64 st, .int .i64 sm, .bool e0, .bool e1, .bool e2, .bool e3] from rfl] at hs
 have V0 := Mem.Blk.new w #[.string ⟨#[]⟩, .int .i64 0, .string ⟨#[]⟩, .int .i64 0, .int .i64 0] 62
 obtain ⟨a, cap, rfl⟩ := zp7 hov
 clear hov HL
 go_enter Tryz.func97, Tryz.ntmps97
 go_wp2_with fail
 refine (za hs).mono ?_
 rintro e w1 ⟨rfl, b1⟩
 have b2 := b0.trans (b1.mono b0.size)
 have b3 := b2.alloc b2.size (.cells #[.bool tt, .string sp, .int .i64 sk, .string sd, .int .i64 st, .int .i64 sm, .bool e0, .bool e1, .bool e2, .bool e3] 176)
 have V3 := (V0.call b1).alloc (.cells #[.bool tt, .string sp, .int .i64 sk, .string sd, .int .i64 st, .int .i64 sm, .bool e0, .bool e1, .bool e2, .bool e3] 176)
 have S3 := Mem.Blk.new w1 #[.bool tt, .string sp, .int .i64 sk, .string sd, .int .i64 st, .int .i64 sm, .bool e0, .bool e1, .bool e2, .bool e3] 176
 have hlt : w.heap.size < w1.heap.size := (V0.call b1).lt
 have hne : ¬ w.heap.size = w1.heap.size := by omega
 have hne2 : ¬ w1.heap.size = w.heap.size := by omega
 have V1 := V0.call b1
 have k0 := V1.cell 0
 have h0 := V1.fr 0
 have k1 := V1.cell 1
 have h1 := V1.fr 1
 have k2 := V1.cell 2
 have h2 := V1.fr 2
 have k3 := V1.cell 3
 have h3 := V1.fr 3
 have k4 := V1.cell 4
 have h4 := V1.fr 4
 simp only [kA0, kA1, kA2] at k0 k1 k2 k3 k4
 have c0 := V3.cell 0
 have c1 := V3.cell 1
 have c2 := V3.cell 2
 have c3 := V3.cell 3
 have c4 := V3.cell 4
 have f0 := V3.fr 0
 have f1 := V3.fr 1
 have f2 := V3.fr 2
 have f3 := V3.fr 3
 have f4 := V3.fr 4
 have d0 := S3.cell 0
 have d1 := S3.cell 1
 have d2 := S3.cell 2
 have d3 := S3.cell 3
 have d4 := S3.cell 4
 have d5 := S3.cell 5
 simp only [kA0, kA1, kA2] at c0 c1 c2 c3 c4 d0 d1 d2 d3 d4 d5
 have V4 : Mem.Blk ((((((w1.setCell ⟨w.heap.size, 0, none⟩ (.string sp)).setCell ⟨w.heap.size, 1, none⟩ (.int .i64 sk)).setCell ⟨w.heap.size, 2, none⟩ (.string sd)).setCell ⟨w.heap.size, 3, none⟩ (.int .i64 st)).setCell ⟨w.heap.size, 4, none⟩ (.int .i64 sm)).alloc (.cells #[.bool tt, .string sp, .int .i64 sk, .string sd, .int .i64 st, .int .i64 sm, .bool e0, .bool e1, .bool e2, .bool e3] 176)).drew w.heap.size #[.string sp, .int .i64 sk, .string sd, .int .i64 st, .int .i64 sm] 62 := by
  have h := ((((((V1.put 0 (.string sp)).put 1 (.int .i64 sk)).put 2 (.string sd)).put 3 (.int .i64 st)).put 4 (.int .i64 sm))).alloc (.cells #[.bool tt, .string sp, .int .i64 sk, .string sd, .int .i64 st, .int .i64 sm, .bool e0, .bool e1, .bool e2, .bool e3] 176)
  simp only [kB3] at h
  exact h
 have B4 : Below w.heap.size w ((((((w1.setCell ⟨w.heap.size, 0, none⟩ (.string sp)).setCell ⟨w.heap.size, 1, none⟩ (.int .i64 sk)).setCell ⟨w.heap.size, 2, none⟩ (.string sd)).setCell ⟨w.heap.size, 3, none⟩ (.int .i64 st)).setCell ⟨w.heap.size, 4, none⟩ (.int .i64 sm)).alloc (.cells #[.bool tt, .string sp, .int .i64 sk, .string sd, .int .i64 st, .int .i64 sm, .bool e0, .bool e1, .bool e2, .bool e3] 176)).drew := by
  have h : Below w.heap.size w ((((((w1.setCell ⟨w.heap.size, 0, none⟩ (.string sp)).setCell ⟨w.heap.size, 1, none⟩ (.int .i64 sk)).setCell ⟨w.heap.size, 2, none⟩ (.string sd)).setCell ⟨w.heap.size, 3, none⟩ (.int .i64 st)).setCell ⟨w.heap.size, 4, none⟩ (.int .i64 sm)).alloc (.cells #[.bool tt, .string sp, .int .i64 sk, .string sd, .int .i64 st, .int .i64 sm, .bool e0, .bool e1, .bool e2, .bool e3] 176)) := (((((b2.setCell (p := ⟨w.heap.size, 0, none⟩) (Nat.le_refl _) (.string sp)).setCell (p := ⟨w.heap.size, 1, none⟩) (Nat.le_refl _) (.int .i64 sk)).setCell (p := ⟨w.heap.size, 2, none⟩) (Nat.le_refl _) (.string sd)).setCell (p := ⟨w.heap.size, 3, none⟩) (Nat.le_refl _) (.int .i64 st)).setCell (p := ⟨w.heap.size, 4, none⟩) (Nat.le_refl _) (.int .i64 sm)).alloc ((((((b2.setCell (p := ⟨w.heap.size, 0, none⟩) (Nat.le_refl _) (.string sp)).setCell (p := ⟨w.heap.size, 1, none⟩) (Nat.le_refl _) (.int .i64 sk)).setCell (p := ⟨w.heap.size, 2, none⟩) (Nat.le_refl _) (.string sd)).setCell (p := ⟨w.heap.size, 3, none⟩) (Nat.le_refl _) (.int .i64 st)).setCell (p := ⟨w.heap.size, 4, none⟩) (Nat.le_refl _) (.int .i64 sm))).size _
  exact ⟨h.os, h.tape, h.output, h.size, h.block⟩
 have HV := hide V4
 have HB := hide B4
 clear hs b0 b1 b2 b3 V0 V1 V3 V4 S3 B4
 go_wp2_with fail
 go_region
 go_wp2
 have r0 := (za HV).cell 0
 have r1 := (za HV).cell 1
 have r2 := (za HV).cell 2
 have r3 := (za HV).cell 3
 have r4 := (za HV).cell 4
 simp only [kA0, kA1, kA2] at r0 r1 r2 r3 r4
 exact bodyPost_ret (v := .tuple #[.agg #[.string sp, .int .i64 sk, .string sd, .int .i64 st, .int .i64 sm], .bool tt]) (by simp [results, Tryz.results97, go_sem, r0, r1, r2, r3, r4]) rfl ⟨rfl, za HB⟩
end zh9
end Go.Proofs.YtcogaghibpajjaaGreatDoor

namespace Go.Proofs.YtcogaghibpajjaaGreatDoor
open Go.RowKit Go.Maps
namespace zw2
structure Gk (w W : World) (Ls : List (List Pl.Nd)) (M N : Nat) (D : DataW Unit) (C : List Pl.Nd) : Prop where
 bel : Below w.heap.size w W
 map : W.ownsMap Tryz.prog 9 MapN.elem M N D
 gt : MapN.Gt Ls D C
theorem Gk.call {w W W' : World} {Ls : List (List Pl.Nd)} {M N : Nat} {D : DataW Unit} {C : List Pl.Nd} (h : Gk w W Ls M N D C) (b : Below W.heap.size W W') : Gk w W' Ls M N D C :=
 ⟨h.bel.trans (b.mono h.bel.size), zg.zj9 h.map b, h.gt⟩
theorem Gk.grown {w W W' : World} {Ls : List (List Pl.Nd)} {M N : Nat} {D : DataW Unit} {C : List Pl.Nd} {r : Nat} (h : Gk w W Ls M N D C) (g : W.grownBy W' (some r)) (hr : w.heap.size ≤ r) (hM : M ≠ r) : Gk w W' Ls M N D C :=
 ⟨h.bel.grown g h.bel.size (fun q hq => by cases hq; exact hr), h.map.kept g (fun e => hM (Option.some.inj e)), h.gt⟩
theorem Gk.grown0 {w W W' : World} {Ls : List (List Pl.Nd)} {M N : Nat} {D : DataW Unit} {C : List Pl.Nd} (h : Gk w W Ls M N D C) (g : W.grownBy W' none) : Gk w W' Ls M N D C :=
 ⟨h.bel.grown g h.bel.size (fun q hq => by cases hq), h.map.kept g (fun e => by cases e), h.gt⟩
def Whole (w w' : World) (Ls : List (List Pl.Nd)) (M : Nat) : Prop := ∃ N D C, N ≤ 200 ∧ Gk w w' Ls M N D C ∧ ∀ n, n ∈ C ↔ Pl.zl2 Ls n
def Inner (w wr : World) (Ls : List (List Pl.Nd)) (L C : List Pl.Nd) (b r k : Nat) : Prop := ∃ (left : Lit → Bool) (cnt : Nat) (T : List Pl.Nd), wr.ranges Tryz.prog 9 MapN.elem b r 40 (MapN.mapOf L) left cnt ∧ T.length + cnt ≤ Maps.size (MapN.mapOf L) ∧ MapN.Got L T left ∧ r < wr.heap.size ∧ ∃ N1 D1 C1, N1 ≤ 40 * k + T.length ∧ Gk w wr Ls w.heap.size N1 D1 C1 ∧ (∀ n ∈ C, n ∈ C1) ∧ ∀ m ∈ T, (Pl.zb1 Ls m.path).told = true → (Pl.zb1 Ls m.path).node ∈ C1
set_option linter.unusedSimpArgs false in
set_option maxRecDepth 100000 in
set_option maxHeartbeats 2000000 in
theorem gathered_any (B : Nat) (v : Value) (Bs : List Nat) (Ls : List (List Pl.Nd)) (w : World) (hov : zf7.Ov w B v Bs Ls) (h4 : Ls.length ≤ 4) (htr : ∀ L ∈ Ls, Pl.za2 L = true) :
  Calls Tryz.prog 70 #[v] w fun e w' => e = .returned (.map (some w.heap.size)) ∧ Whole w w' Ls w.heap.size := by
 obtain ⟨a, cap, rfl⟩ := zh9.zp7 hov
 have hmm := @run_makeMap Tryz.prog
 have HOV := hide hov
 have HTR := hide htr
 have A0 : Hid (Gk w (w.alloc (.map #[] 0)) Ls w.heap.size 0 (.map []) []) := ⟨(Below.refl _ _).alloc (Nat.le_refl _) _, World.ownsMap_made w Tryz.prog 9 MapN.elem, MapN.Gt.start Ls⟩
 have HSM : Hid (∀ L ∈ Ls, L.length ≤ 40) := fun L hL => by
  have h := htr L hL
  simp only [Pl.za2, Bool.and_eq_true, decide_eq_true_eq] at h
  exact h.1
 clear hov htr
 go_enter Tryz.func70, Tryz.ntmps70
 go_wp2
 go_loopw [11] (fun i wr => ∃ k : Nat, k ≤ Ls.length ∧ i = .int .i64 (k : Int) ∧ Hid (∃ N D C, N ≤ 40 * k ∧ Gk w wr Ls w.heap.size N D C ∧ w.heap.size < wr.heap.size ∧ ∀ (j : Nat) L, j < k → Ls[j]? = some L → ∀ m ∈ L, (Pl.zb1 Ls m.path).told = true → (Pl.zb1 Ls m.path).node ∈ C)) (fun i _ => Ls.length - (intOf i).toNat)
 case atStart => exact ⟨0, Nat.zero_le _, rfl, ⟨0, _, _, Nat.le_refl _, za A0, by simp, fun j L h => absurd h (by omega)⟩⟩
 case round =>
  obtain ⟨k, hk, rfl, HA⟩ := hrel
  clear A0
  obtain ⟨N, D, C, hN, G, hMl, hall⟩ := za HA
  have KG := hide G
  have HAll := hide hall
  clear HA hall
  by_cases hlt : k < Ls.length
  ·obtain ⟨L, hL⟩ : ∃ L, Ls[k]? = some L := ⟨_, List.getElem?_eq_getElem hlt⟩
   obtain ⟨b, hb⟩ : ∃ b, Bs[k]? = some b := ⟨_, List.getElem?_eq_getElem (by rw [(za HOV).len]; exact hlt)⟩
   obtain ⟨g, rfl, c0⟩ := zh9.ov_cell ((za HOV).call G.bel) hb
   have hmap := ((za HOV).maps k b L hb hL).2
   have hbl : b < w.heap.size := hmap.lt
   have HMB := hide (zg.zj9 hmap G.bel)
   have htL := za HTR L (List.mem_of_getElem? hL)
   have hLl := za HSM L (List.mem_of_getElem? hL)
   have HLT := hide htL
   have HCC := hide (Pl.zr3 htL)
   have HSZ := hide (MapN.yg3 (Pl.zr3 htL))
   have HG0 := hide (MapN.got_start (MapN.zz0 (Pl.zr3 htL)))
   have HENT := hide (MapN.zz0 (Pl.zr3 htL)).ent
   have HLk := hide hL
   have y1 : (k : Int) < (Ls.length : Int) := by omega
   have y2 : (0 : Int) ≤ (k : Int) := by omega
   have hin := in_map b
   unfold zf7.layV at hin
   have HIN := hide hin
   clear hin hmap htL hL hb G
   go_wp2_with fail
   refine (za HIN _).mono ?_
   rintro e wI ⟨rfl, hwI⟩
   subst wI
   clear HIN c0
   go_wp2_with (first
    | (at_range; refine wpList_range_own _ rfl _ 41 rfl 9 62 MapN.law Tryz.underlying41 _ b 40 _ rfl (za HMB) ?_; intro w0 hrg0 hg0 hs0)
    | go_in)
   go_frame
   have KG0 := hide ((za KG).grown0 hg0)
   generalize hr : wr.heap.size = r at hrg0 hs0 ⊢
   have hMr : w.heap.size < r := by omega
   have hrl : r < w0.heap.size := by omega
   clear KG hg0 hs0 HMB
   have HAT := hide (fun (c : Pl.Nd) (hc : c ∈ L) (W : World) (bw : Below w.heap.size w W) => zh9.atO_any B (.slice (some ⟨g, 0, none⟩) Ls.length cap) Bs Ls c.path W ((za HOV).call bw) h4 (za HTR) (by have := Pl.zh1 (Pl.zl8 (za HLT) hc).1; omega))
   have HTO := hide (fun (c : Pl.Nd) (hc : c ∈ L) (ht : (Pl.zb1 Ls c.path).told = true) => (⟨⟨L, List.mem_of_getElem? (za HLk), c, hc, ht, rfl⟩, Pl.zn8 (Pl.zl8 (za HLT) hc).1 (Pl.zl8 (za HLT) hc).2 ht, (by have := Pl.zh1 (Pl.zl8 (za HLT) hc).1; unfold maxLen; omega)⟩ : Pl.zl2 Ls (Pl.zb1 Ls c.path).node ∧ (Pl.zb1 Ls c.path).node.path = c.path ∧ c.path.size ≤ maxLen))
   go_loopw [5] (fun _ wr => Inner w wr Ls L C b r k)
    (fun _ wr => wr.rangeLeft b r)
   case atStart => exact ⟨_, _, [], hrg0, by simp, za HG0, hrl, ⟨N, D, C, by simpa using hN, za KG0, fun n hn => hn, fun m hm => by cases hm⟩⟩
   case round =>
    obtain ⟨left, cnt, T, hrg, hcs, HGT0, hrw, HK⟩ := hrel
    have HGT := hide HGT0
    clear HGT0
    clear hrg0 KG0 HG0 hrl
    obtain ⟨N1, D1, C1, hN1, G1, hsub, hvis⟩ := HK
    have KG1 := hide G1
    have HSB := hide hsub
    have HVI := hide hvis
    clear G1 hsub hvis
    go_wp2_with (first
     | (at_next; refine wpList_next_ranges _ rfl _ rfl 9 MapN.law MapN.elem (Value.string) (Pl.Nd.val) (fun key kl hk => Maps.keyOf_string_inv Tryz.underlying9 hk) (fun v y hv => by obtain ⟨d, ps⟩ := y; obtain ⟨n, hn, _⟩ := MapN.ya2 hv; exact ⟨n, hn⟩) b r 40 _ _ _ rfl hrg ?_ ?_)
     | go_in)
    ·intro hc0 hl0
     have hp := MapN.got_end (za HCC) (za HGT) hl0
     have HA2 : Hid (∃ N D C, N ≤ 40 * (k + 1) ∧ Gk w wr Ls w.heap.size N D C ∧ w.heap.size < wr.heap.size ∧ ∀ (j : Nat) L, j < k + 1 → Ls[j]? = some L → ∀ m ∈ L, (Pl.zb1 Ls m.path).told = true → (Pl.zb1 Ls m.path).node ∈ C) := by
      refine ⟨N1, D1, C1, ?_, za KG1, by omega, fun j L' hj hL' m hm ht => ?_⟩
      ·have h1 := hp.length_eq
       omega
      ·by_cases e : j < k
       ·exact za HSB _ (za HAll j L' e hL' m hm ht)
       ·obtain rfl : j = k := by omega
        rw [za HLk] at hL'
        cases hL'
        exact za HVI m (hp.mem_iff.2 hm) ht
     clear hp hc0 hl0 hrg HGT KG1 HSB HVI HAT HTO HENT
     go_wp2
     go_roundw
     case rel => exact ⟨k + 1, by omega, by go_num, HA2⟩
     case measure => simp [intOf]; omega
    ·intro x c kl yd yp w1 cnt1 hkey hlk hR hat hrg1 hlt1 hg1 hs1 hen
     have ek : kl = MapN.key x := MapN.keyOf_inv hkey
     have ey : yd = MapN.dat c := by rw [MapN.zz6] at hR; cases hR; rfl
     subst ek ey
     obtain ⟨hcC, rfl⟩ := za HENT x c hat
     have HG2 := hide (MapN.got_step (za HCC) (za HGT) hcC hlk)
     have KG2 := hide ((za KG1).grown hg1 (by omega) (by omega))
     have HRG1 := hide hrg1
     have HLE := hide (hrg.left_eq)
     have hat2 := hide (za HAT c hcC w1 (za KG2).bel)
     have hto := hide (za HTO c hcC)
     have hr1 : r < w1.heap.size := by omega
     have HVC : Hid (∀ C2 : List Pl.Nd, (∀ n ∈ C1, n ∈ C2) → ((Pl.zb1 Ls c.path).told = true → (Pl.zb1 Ls c.path).node ∈ C2) → ∀ m ∈ T ++ [c], (Pl.zb1 Ls m.path).told = true → (Pl.zb1 Ls m.path).node ∈ C2) := fun C2 h1 h2 m hm ht => by
      rcases List.mem_append.1 hm with h3 | h3
      ·exact h1 _ (za HVI m h3 ht)
      ·simp at h3; subst h3; exact h2 ht
     clear hat hR hkey hlk hcC HGT hg1 hs1 hrg1 hrg HENT KG1 HVI
     obtain ⟨cp, ck, cd, ct, cm⟩ := c
     simp only [Pl.Nd.val] at hen hat2 hto HVC HG2 HRG1 ⊢
     generalize hS : Pl.zb1 Ls cp = S at hat2 hto HVC
     obtain ⟨tt, ⟨sp, sk, sd, st, sm⟩, sh⟩ := S
     simp only at hat2 hto HVC
     go_wp2_with fail
     refine (za hat2).mono ?_
     rintro e w2 ⟨rfl, b2⟩
     simp only [Pl.Nd.val]
     have KG3 := hide ((za KG2).call b2)
     have HRG2 := hide ((za HRG1).kept (Mem.zi4 b2 none) (by simp) (by simp))
     have hr2 : r < w2.heap.size := by have := b2.size; omega
     clear KG2 HRG1 hat2 b2 hen hr1
     have bA : Below w2.heap.size w2 (w2.alloc (.cells #[.string sp, .int .i64 sk, .string sd, .int .i64 st, .int .i64 sm] 62)) := (Below.refl _ _).alloc (Nat.le_refl _) _
     have KG4 := hide ((za KG3).call bA)
     have HRG4 := hide ((za HRG2).alloc (.cells #[.string sp, .int .i64 sk, .string sd, .int .i64 st, .int .i64 sm] 62))
     cases tt
     ·have HK4 : Hid (∃ N1 D1 C1, N1 ≤ 40 * k + (T ++ [(⟨cp, ck, cd, ct, cm⟩ : Pl.Nd)]).length ∧ Gk w (w2.alloc (.cells #[.string sp, .int .i64 sk, .string sd, .int .i64 st, .int .i64 sm] 62)) Ls w.heap.size N1 D1 C1 ∧ (∀ n ∈ C, n ∈ C1) ∧ ∀ m ∈ T ++ [(⟨cp, ck, cd, ct, cm⟩ : Pl.Nd)], (Pl.zb1 Ls m.path).told = true → (Pl.zb1 Ls m.path).node ∈ C1) :=
       ⟨N1, D1, C1, by rw [List.length_append]; omega, za KG4, za HSB, za HVC C1 (fun n hn => hn) (fun h => by cases h)⟩
      have hr4 : r < (w2.alloc (.cells #[.string sp, .int .i64 sk, .string sd, .int .i64 st, .int .i64 sm] 62)).heap.size := by simp; omega
      clear KG3 KG4 HRG2 HSB HVC hto bA HAT HTO
      go_wp2
      go_roundw
      case rel => exact ⟨_, cnt1, T ++ [⟨cp, ck, cd, ct, cm⟩], za HRG4, by simp; omega, za HG2, hr4, za HK4⟩
      case measure => rw [(za HRG4).left_eq, za HLE]; exact hlt1
     ·obtain ⟨hT, hpe, hps⟩ := za hto (by trivial)
      (try simp only at hpe)
      subst hpe
      obtain ⟨hgt, hmem⟩ := (za KG4).gt.put (za HTR) hT
      have HGP := hide hgt
      have HME := hide hmem
      have hkey := MapN.yb3 hps
      have NB := Mem.Blk.new w2 #[.string sp, .int .i64 sk, .string sd, .int .i64 st, .int .i64 sm] 62
      have n0 := NB.cell 0
      have n1 := NB.cell 1
      have n2 := NB.cell 2
      have n3 := NB.cell 3
      have n4 := NB.cell 4
      simp only [kA0, kA1, kA2] at n0 n1 n2 n3 n4
      have hMr2 : ¬ w.heap.size = r := by omega
      have hNl : N1 ≤ 200 := by
       have h1 := hcs
       rw [za HSZ] at h1
       omega
      clear KG3 HRG2 hto bA HAT HTO hgt hmem NB hT
      go_wp2_with (first | (at_mapUpdate; refine wpList_mapUpdate_own _ rfl _ _ _ 41 rfl 9 62 MapN.law Tryz.underlying41 _ w.heap.size N1 _ rfl (za KG4).map (by unfold maxLen; omega) _ _ _ rfl rfl hkey _ [] (MapN.zz6 ⟨sp, sk, sd, st, sm⟩) ?_; intro wZ hownZ hgrowZ) | fail)
      have HRZ := hide ((za HRG4).kept hgrowZ (fun e => by have := Option.some.inj e; omega) (fun e => by have := Option.some.inj e; omega))
      have HK4 : Hid (∃ N1 D1 C1, N1 ≤ 40 * k + (T ++ [(⟨sp, ck, cd, ct, cm⟩ : Pl.Nd)]).length ∧ Gk w wZ Ls w.heap.size N1 D1 C1 ∧ (∀ n ∈ C, n ∈ C1) ∧ ∀ m ∈ T ++ [(⟨sp, ck, cd, ct, cm⟩ : Pl.Nd)], (Pl.zb1 Ls m.path).told = true → (Pl.zb1 Ls m.path).node ∈ C1) :=
       ⟨N1 + 1, _, MapN.putC C1 ⟨sp, sk, sd, st, sm⟩, by rw [List.length_append]; simp; omega, ⟨(za KG4).bel.grown hgrowZ (za KG4).bel.size (fun q hq => by cases hq; exact Nat.le_refl _), hownZ, za HGP⟩, fun n hn => (za HME n).2 (.inl (za HSB n hn)), za HVC _ (fun n hn => (za HME n).2 (.inl hn)) (fun _ => (za HME _).2 (.inr rfl))⟩
      have hr4 : r < wZ.heap.size := by have h1 := hgrowZ.size; simp at h1; omega
      clear KG4 HRG4 HSB HVC HGP HME hownZ hgrowZ n0 n1 n2 n3 n4
      go_wp2
      go_roundw
      case rel => exact ⟨_, cnt1, T ++ [⟨sp, ck, cd, ct, cm⟩], za HRZ, by simp; omega, za HG2, hr4, za HK4⟩
      case measure => rw [(za HRZ).left_eq, za HLE]; exact hlt1
  ·obtain rfl : k = Ls.length := by omega
   have y1 : ¬ ((Ls.length : Int) < (Ls.length : Int)) := by omega
   go_wp2
   go_ret
   refine ⟨rfl, ⟨N, D, C, by omega, za KG, fun n => ⟨(za KG).gt.sub n, fun hn => ?_⟩⟩⟩
   obtain ⟨L, hL, m, hm, h1, h2⟩ := hn
   obtain ⟨j, hj⟩ := List.mem_iff_getElem?.1 hL
   rw [h2]
   exact za HAll j L (List.getElem?_eq_some_iff.1 hj).1 hj m hm h1
end zw2
end Go.Proofs.YtcogaghibpajjaaGreatDoor

namespace Go.Proofs.YtcogaghibpajjaaGreatDoor
open Go.RowKit Go.Extern.Stop Go.Stop Go.Extern
namespace WIs
theorem typeOfE (v : Value) (w : World) : (ReflectliteType.typeOf #[.iface 191 v]).run Tryz.prog w = .ok (.iface 117 (.agg #[.pointer (some ⟨6, 191, none⟩)])) w := by kernel_rfl
theorem ye5 : ∃ F, find Tryz.f147 = some F ∧ ∀ w, (F #[.agg #[.pointer (some ⟨6, 191, none⟩)]]).run Tryz.prog w = .ok (.bool true) w :=
 ⟨ReflectliteType.method fun t => do Rtype.noPackHeld "Comparable" t; pure (.bool (← typeInfo t).comparable), by kernel_rfl, fun w => by kernel_rfl⟩
theorem methodC (v : Value) (w : World) : (Go.method 327 117 v "Comparable").run Tryz.prog w = .ok (147, v) w := by kernel_rfl
theorem compI : (Tryz.prog.info? 191).map (·.comparable) = some true := by kernel_rfl
theorem sizeI : (Tryz.prog.info? 216).map (·.size) = some 1 := by kernel_rfl
theorem noIs (v : Value) (xT : TypeId) (w : World) : (Instr.typeAssert (.iface 191 v) xT 119 true).run Tryz.prog w = .ok (.tuple #[.nilIface, .bool false]) w := run_typeAssert_lacksB Tryz.underlying119 (by kernel_rfl) (by kernel_rfl) v xT w
theorem noUnwrap (v : Value) (xT : TypeId) (w : World) : (Instr.typeAssert (.iface 191 v) xT 122 true).run Tryz.prog w = .ok (.tuple #[.nilIface, .bool false]) w := run_typeAssert_lacksB Tryz.underlying122 (by kernel_rfl) (by kernel_rfl) v xT w
theorem noUnwraps (v : Value) (xT : TypeId) (w : World) : (Instr.typeAssert (.iface 191 v) xT 124 true).run Tryz.prog w = .ok (.tuple #[.nilIface, .bool false]) w := run_typeAssert_lacksB Tryz.underlying124 (by kernel_rfl) (by kernel_rfl) v xT w
theorem same (a : Addr) (w : World) :
  Calls Tryz.prog 31 #[.iface 191 (.pointer (some a)), .iface 191 (.pointer (some a))] w fun e w' => e = .returned (.bool true) ∧ w' = w := by
 obtain ⟨i, hi, hcmp⟩ := Option.map_eq_some_iff.1 compI
 obtain ⟨j, hj, hjs⟩ := Option.map_eq_some_iff.1 sizeI
 have hT := @run_callFunc_extern Tryz.prog 48 _ ReflectliteType.typeOf Tryz.func48 (by kernel_rfl) (by kernel_rfl) (by kernel_rfl) (by kernel_rfl)
 obtain ⟨F, hF, cT⟩ := ye5
 have hC := @run_callFunc_extern Tryz.prog 147 _ F Tryz.func147 (by kernel_rfl) (by kernel_rfl) (by kernel_rfl) hF
 have tT := typeOfE
 have mR := methodC
 have heq := run_eql_iface_ptr_same (P := Tryz.prog) w a Tryz.underlying48 Tryz.underlying191 hi hcmp hj
 go_enter Tryz.func31, Tryz.ntmps31
 go_wp2
 refine wp_loop_rounds 1 ?_
 rw [rounds_succ]
 go_wp2
 go_ret
 exact ⟨rfl, rfl⟩
theorem other (a b : Addr) (ca cb : Array Value) (ta tb : TypeId) (w : World) (hne : a ≠ b) (ha : w.heap[a.block]? = some (.cells ca ta (0, 0))) (hb : w.heap[b.block]? = some (.cells cb tb (0, 0))) :
  Calls Tryz.prog 31 #[.iface 191 (.pointer (some a)), .iface 191 (.pointer (some b))] w fun e w' => e = .returned (.bool false) ∧ w' = w := by
 obtain ⟨i, hi, hcmp⟩ := Option.map_eq_some_iff.1 compI
 obtain ⟨j, hj, hjs⟩ := Option.map_eq_some_iff.1 sizeI
 have hT := @run_callFunc_extern Tryz.prog 48 _ ReflectliteType.typeOf Tryz.func48 (by kernel_rfl) (by kernel_rfl) (by kernel_rfl) (by kernel_rfl)
 obtain ⟨F, hF, cT⟩ := ye5
 have hC := @run_callFunc_extern Tryz.prog 147 _ F Tryz.func147 (by kernel_rfl) (by kernel_rfl) (by kernel_rfl) hF
 have tT := typeOfE
 have mR := methodC
 have nE := noIs
 have uE := noUnwrap
 have vE := noUnwraps
 have heq := run_eql_iface_ptr_other (P := Tryz.prog) w Tryz.underlying48 Tryz.underlying191 hi hcmp hj (by rw [hjs]; decide) hne ha hb
 go_enter Tryz.func31, Tryz.ntmps31
 go_wp2
 refine wp_loop_rounds 1 ?_
 rw [rounds_succ]
 go_wp2
 go_ret
 exact ⟨rfl, rfl⟩
end WIs
end Go.Proofs.YtcogaghibpajjaaGreatDoor

namespace Go.Proofs.YtcogaghibpajjaaGreatDoor
open Go.RowKit
namespace WIs
structure Six (w : World) (x : Nat → Addr) : Prop where
 c0 : w.cell? ⟨0, 0, none⟩ = some (.iface 191 (.pointer (some (x 0))))
 c1 : w.cell? ⟨1, 0, none⟩ = some (.iface 191 (.pointer (some (x 1))))
 c2 : w.cell? ⟨2, 0, none⟩ = some (.iface 191 (.pointer (some (x 2))))
 c3 : w.cell? ⟨3, 0, none⟩ = some (.iface 191 (.pointer (some (x 3))))
 c4 : w.cell? ⟨4, 0, none⟩ = some (.iface 191 (.pointer (some (x 4))))
 c5 : w.cell? ⟨5, 0, none⟩ = some (.iface 191 (.pointer (some (x 5))))
 row : ∀ k, k < 6 → ∃ c t, w.heap[(x k).block]? = some (.cells c t (0, 0))
 apart : ∀ i j, i < 6 → j < 6 → i ≠ j → x i ≠ x j
theorem Six.call {w w' : World} {x : Nat → Addr} (h : Six w x) (b : Below w.heap.size w w') : Six w' x :=
 ⟨(b.cell (p := ⟨_, 0, none⟩) (World.block_lt_of_cell? w ⟨_, 0, none⟩ h.c0)).trans h.c0, (b.cell (p := ⟨_, 0, none⟩) (World.block_lt_of_cell? w ⟨_, 0, none⟩ h.c1)).trans h.c1, (b.cell (p := ⟨_, 0, none⟩) (World.block_lt_of_cell? w ⟨_, 0, none⟩ h.c2)).trans h.c2, (b.cell (p := ⟨_, 0, none⟩) (World.block_lt_of_cell? w ⟨_, 0, none⟩ h.c3)).trans h.c3, (b.cell (p := ⟨_, 0, none⟩) (World.block_lt_of_cell? w ⟨_, 0, none⟩ h.c4)).trans h.c4, (b.cell (p := ⟨_, 0, none⟩) (World.block_lt_of_cell? w ⟨_, 0, none⟩ h.c5)).trans h.c5,
  fun k hk => by
   obtain ⟨c, t, hr⟩ := h.row k hk
   exact ⟨c, t, (b.block _ (Array.getElem?_eq_some_iff.1 hr).1).trans hr⟩, h.apart⟩
theorem Six.errs {w : World} {x : Nat → Addr} (h : Six w x) : zg.Errs w 191 191 191 (.pointer (some (x 1))) (.pointer (some (x 2))) (.pointer (some (x 3))) := ⟨h.c1, h.c2, h.c3⟩
theorem Six.other {w : World} {x : Nat → Addr} (h : Six w x) (i j : Nat) (hi : i < 6) (hj : j < 6) (hij : i ≠ j) :
  Calls Tryz.prog 31 #[.iface 191 (.pointer (some (x i))), .iface 191 (.pointer (some (x j)))] w fun e w' => e = .returned (.bool false) ∧ w' = w := by
 obtain ⟨c1, t1, h1⟩ := h.row i hi
 obtain ⟨c2, t2, h2⟩ := h.row j hj
 exact WIs.other (x i) (x j) c1 c2 t1 t2 w (h.apart i j hi hj hij) h1 h2
set_option maxRecDepth 100000 in
set_option maxHeartbeats 400000 in
theorem code0 (x : Nat → Addr) (w : World) (h : Six w x) :
  Calls Tryz.prog 15 #[.iface 191 (.pointer (some (x 0)))] w fun e w' => e = .returned (.int .i64 2) ∧ w' = w := by
 have k0 := h.c0
 have k2 := h.c2
 have k3 := h.c3
 have k4 := h.c4
 have k5 := h.c5
 have H := hide h
 clear h
 go_enter Tryz.func15, Tryz.ntmps15
 go_wp2_with fail
 refine (WIs.same (x 0) _).mono ?_
 rintro e w1 ⟨rfl, rfl⟩
 go_wp2
 go_ret
 exact ⟨rfl, rfl⟩
set_option maxRecDepth 100000 in
set_option maxHeartbeats 400000 in
theorem code1 (x : Nat → Addr) (w : World) (h : Six w x) :
  Calls Tryz.prog 15 #[.iface 191 (.pointer (some (x 1)))] w fun e w' => e = .returned (.int .i64 1) ∧ w' = w := by
 have k0 := h.c0
 have k2 := h.c2
 have k3 := h.c3
 have k4 := h.c4
 have k5 := h.c5
 have H := hide h
 clear h
 go_enter Tryz.func15, Tryz.ntmps15
 go_wp2_with fail
 refine ((za H).other 1 0 (by decide) (by decide) (by decide)).mono ?_
 rintro e w1 ⟨rfl, rfl⟩
 go_wp2_with fail
 refine ((za H).other 1 2 (by decide) (by decide) (by decide)).mono ?_
 rintro e w3 ⟨rfl, rfl⟩
 go_wp2_with fail
 refine ((za H).other 1 3 (by decide) (by decide) (by decide)).mono ?_
 rintro e w4 ⟨rfl, rfl⟩
 go_wp2_with fail
 refine ((za H).other 1 4 (by decide) (by decide) (by decide)).mono ?_
 rintro e w5 ⟨rfl, rfl⟩
 go_wp2_with fail
 refine ((za H).other 1 5 (by decide) (by decide) (by decide)).mono ?_
 rintro e w6 ⟨rfl, rfl⟩
 go_wp2
 go_ret
 exact ⟨rfl, rfl⟩
set_option maxRecDepth 100000 in
set_option maxHeartbeats 400000 in
theorem code5 (x : Nat → Addr) (w : World) (h : Six w x) :
  Calls Tryz.prog 15 #[.iface 191 (.pointer (some (x 5)))] w fun e w' => e = .returned (.int .i64 9) ∧ w' = w := by
 have k0 := h.c0
 have k2 := h.c2
 have k3 := h.c3
 have k4 := h.c4
 have k5 := h.c5
 have H := hide h
 clear h
 go_enter Tryz.func15, Tryz.ntmps15
 go_wp2_with fail
 refine ((za H).other 5 0 (by decide) (by decide) (by decide)).mono ?_
 rintro e w1 ⟨rfl, rfl⟩
 go_wp2_with fail
 refine ((za H).other 5 2 (by decide) (by decide) (by decide)).mono ?_
 rintro e w3 ⟨rfl, rfl⟩
 go_wp2_with fail
 refine ((za H).other 5 3 (by decide) (by decide) (by decide)).mono ?_
 rintro e w4 ⟨rfl, rfl⟩
 go_wp2_with fail
 refine ((za H).other 5 4 (by decide) (by decide) (by decide)).mono ?_
 rintro e w5 ⟨rfl, rfl⟩
 go_wp2_with fail
 refine (WIs.same (x 5) _).mono ?_
 rintro e w1 ⟨rfl, rfl⟩
 go_wp2
 go_ret
 exact ⟨rfl, rfl⟩
end WIs
end Go.Proofs.YtcogaghibpajjaaGreatDoor

namespace Go.Proofs.YtcogaghibpajjaaGreatDoor
open Go.RowKit Go.Maps
namespace zw2
set_option maxRecDepth 100000 in
theorem in_over (B : Nat) (v : Value) (Bs : List Nat) (Ls : List (List Pl.Nd)) (w : World) (hov : zf7.Ov w B v Bs Ls) (h4 : Ls.length ≤ 4) (htr : ∀ L ∈ Ls, Pl.za2 L = true) :
  Calls Tryz.prog 50 #[.iface 76 v] w fun e w' => e = .returned (.map (some w.heap.size)) ∧ Whole w w' Ls w.heap.size := by
 have hg := hide (gathered_any B v Bs Ls w hov h4 htr)
 obtain ⟨a, cap, rfl⟩ := zh9.zp7 hov
 have h1 := no_map a Ls.length cap
 have h2 := is_over a Ls.length cap
 clear hov
 go_enter Tryz.func50, Tryz.ntmps50
 go_wp2_with fail
 refine (za hg).mono ?_
 rintro e w1 ⟨rfl, h⟩
 clear hg h1 h2
 go_wp2
 go_ret
 exact ⟨rfl, h⟩
def WholeIs (w w' : World) (Ls : List (List Pl.Nd)) (x : Nat → Addr) (e : Ending) : Prop :=
 (∃ N D C, e = .returned (.tuple #[.map (some w.heap.size), .nilIface]) ∧ C.length ≤ 40 ∧ N ≤ 200 ∧ Gk w w' Ls w.heap.size N D C ∧ ∀ n, n ∈ C ↔ Pl.zl2 Ls n) ∨
 (∃ C : List Pl.Nd, e = .returned (.tuple #[.map none, .iface 191 (.pointer (some (x 5)))]) ∧ 40 < C.length ∧ C.Pairwise (fun a b => a.path ≠ b.path) ∧ (∀ n, n ∈ C ↔ Pl.zl2 Ls n) ∧ Below w.heap.size w w')
set_option maxRecDepth 100000 in
set_option maxHeartbeats 400000 in
theorem whole_any (B : Nat) (v : Value) (Bs : List Nat) (Ls : List (List Pl.Nd)) (w : World) (hov : zf7.Ov w B v Bs Ls) (h4 : Ls.length ≤ 4) (htr : ∀ L ∈ Ls, Pl.za2 L = true) (x : Nat → Addr) (hE : WIs.Six w x) :
  Calls Tryz.prog 33 #[v] w fun e w' => WholeIs w w' Ls x e := by
 have hg := hide (in_over B v Bs Ls w hov h4 htr)
 obtain ⟨a, cap, rfl⟩ := zh9.zp7 hov
 have HE := hide hE
 clear hov hE
 go_enter Tryz.func33, Tryz.ntmps33
 go_wp2_with fail
 refine (za hg).mono ?_
 rintro e w1 ⟨rfl, N, D, C, hN, G, hC⟩
 clear hg
 have KG := hide G
 have HC := hide hC
 have hsz := G.gt.size
 have hk := ((za HE).call G.bel).c5
 clear G hC
 by_cases hl : 40 < C.length
 ·have y1 : (40 : Int) < (Maps.size D : Int) := by omega
  go_wp2_with (first
   | (at_len; refine wpList_len_own _ rfl _ 41 rfl 9 62 Tryz.underlying41 _ w.heap.size N D rfl (za KG).map ?_)
   | go_in)
  go_region
  go_wp2
  go_ret2
  exact .inr ⟨C, rfl, hl, (za KG).gt.apart, za HC, Mem.below_drewN (za KG).bel 1⟩
 ·have y1 : ¬ (40 : Int) < (Maps.size D : Int) := by omega
  go_wp2_with (first
   | (at_len; refine wpList_len_own _ rfl _ 41 rfl 9 62 Tryz.underlying41 _ w.heap.size N D rfl (za KG).map ?_)
   | go_in)
  go_ret2
  exact .inl ⟨N, D, C, rfl, by omega, hN, za KG, za HC⟩
end zw2
end Go.Proofs.YtcogaghibpajjaaGreatDoor

namespace Go.Proofs.YtcogaghibpajjaaGreatDoor
open Go.RowKit
namespace zp2
set_option maxRecDepth 100000 in
theorem leaf_any (k : Pl.Fo) (q : Option Nat) (m : Int) (a : Option Addr) (cap : Nat) (w : World) :
  Calls Tryz.prog 32 #[.agg #[.map q, .int .i64 m, .slice a k.len cap]] w fun e w' => e = .returned (.bool (decide (k.len = 0))) ∧ Below w.heap.size w w' := by
 by_cases h : k.len = 0
 ·have t : (k.len : Int) = 0 := by omega
  go_enter Tryz.func32, Tryz.ntmps32
  go_wp2
  go_ret
  exact ⟨by simp [h], (Below.refl _ _).alloc (Nat.le_refl _) _⟩
 ·have t : ¬ (k.len : Int) = 0 := by omega
  go_enter Tryz.func32, Tryz.ntmps32
  go_wp2
  go_ret
  exact ⟨by simp [h], (Below.refl _ _).alloc (Nat.le_refl _) _⟩
end zp2
end Go.Proofs.YtcogaghibpajjaaGreatDoor

