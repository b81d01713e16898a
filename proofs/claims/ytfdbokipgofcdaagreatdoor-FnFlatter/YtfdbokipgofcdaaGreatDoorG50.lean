/- Several texts of one claim in one file: WNodesIn, WAtO, WGather, WWhole, WAsLeaf. -/
import Derived.Test.YtfdbokipgofcdaaGreatDoorG45
import Derived.Test.YtfdbokipgofcdaaGreatDoorWSeenI
import Derived.Test.YtfdbokipgofcdaaGreatDoorG49
import Derived.Test.YtfdbokipgofcdaaGreatDoorG41
import Derived.Test.YtfdbokipgofcdaaGreatDoorG14
import Derived.Test.YtfdbokipgofcdaaGreatDoorG39
namespace Go.Proofs.YtfdbokipgofcdaaGreatDoor
open Go.RowKit
namespace yf7
theorem is_map (b : Nat) (w : World) : (Instr.typeAssert (.iface 69 (.map (some b))) 189 69 true).run Tryz.prog w = .ok (.tuple #[.map (some b), .bool true]) w := by kernel_rfl
theorem no_map (a : Option Addr) (n c : Nat) (w : World) : (Instr.typeAssert (.iface 138 (.slice a n c)) 189 69 true).run Tryz.prog w = .ok (.tuple #[.map none, .bool false]) w := by kernel_rfl
theorem is_over (a : Option Addr) (n c : Nat) (w : World) : (Instr.typeAssert (.iface 138 (.slice a n c)) 189 138 true).run Tryz.prog w = .ok (.tuple #[.slice a n c, .bool true]) w := by kernel_rfl
set_option maxRecDepth 100000 in
theorem in_map (b : Nat) (w : World) : Calls Tryz.prog 115 #[zh6.layV b] w fun e w' => e = .returned (.map (some b)) ∧ w' = w := by
 unfold zh6.layV
 have h1 := is_map b
 go_enter Tryz.func115, Tryz.ntmps115
 go_wp2
 go_ret
 exact ⟨rfl, rfl⟩
end yf7
end Go.Proofs.YtfdbokipgofcdaaGreatDoor

namespace Go.Proofs.YtfdbokipgofcdaaGreatDoor
open Go.RowKit
namespace zl0
set_option linter.unusedSimpArgs false in
set_option maxRecDepth 100000 in
set_option maxHeartbeats 2000000 in
theorem atO_any (B : Nat) (v : Value) (Bs : List Nat) (Ls : List (List Pl.Nd)) (p : ByteArray) (w : World) (hov : zh6.Ov w B v Bs Ls) (h4 : Ls.length ≤ 4) (htr : ∀ L ∈ Ls, Pl.za2 L = true) (hp : p.size ≤ 1048576) :
  Calls Tryz.prog 157 #[v, .string p] w fun e w' => e = .returned (.tuple #[(Pl.zb2 Ls p).node.val, .bool (Pl.zb2 Ls p).told]) ∧ Below w.heap.size w w' := by
 have b0 : Below w.heap.size w (w.alloc (.cells #[.string ⟨#[]⟩, .int .i64 0, .string ⟨#[]⟩, .int .i64 0, .int .i64 0] 89)) := (Below.refl _ _).alloc (Nat.le_refl _) _
 have hs := hide (seen_any B v Bs Ls p _ (hov.call b0) h4 htr hp)
 have HL : Hid ((Pl.zb2 Ls p).have'.length = 4) := Pl.walk_len Ls Ls.length _
 generalize Pl.zb2 Ls p = S at hs HL ⊢
 obtain ⟨tt, ⟨sp, sk, sd, st, sm⟩, sh⟩ := S
 obtain ⟨e0, e1, e2, e3, rfl⟩ : ∃ h0 h1 h2 h3, sh = [h0, h1, h2, h3] := by
  match sh, za HL with
  | [a, b, c, d], _ => exact ⟨a, b, c, d, rfl⟩
 rw [show (Pl.Sg.cs ⟨tt, ⟨sp, sk, sd, st, sm⟩, [e0, e1, e2, e3]⟩).toArray = #[.bool tt, .string sp, .int .i64 sk, .string sd, .int .i64 st, .int .i64 sm, .bool e0, .bool e1, .bool e2, .bool e3] from rfl] at hs
 have V0 := Mem.Blk.new w #[.string ⟨#[]⟩, .int .i64 0, .string ⟨#[]⟩, .int .i64 0, .int .i64 0] 89
 obtain ⟨a, cap, rfl⟩ := zw2 hov
 clear hov HL
 go_enter Tryz.func157, Tryz.ntmps157
 go_wp2_with fail
 refine (za hs).mono ?_
 rintro e w1 ⟨rfl, b1⟩
 have b2 := b0.trans (b1.mono b0.size)
 have b3 := b2.alloc b2.size (.cells #[.bool tt, .string sp, .int .i64 sk, .string sd, .int .i64 st, .int .i64 sm, .bool e0, .bool e1, .bool e2, .bool e3] 208)
 have V3 := (V0.call b1).alloc (.cells #[.bool tt, .string sp, .int .i64 sk, .string sd, .int .i64 st, .int .i64 sm, .bool e0, .bool e1, .bool e2, .bool e3] 208)
 have S3 := Mem.Blk.new w1 #[.bool tt, .string sp, .int .i64 sk, .string sd, .int .i64 st, .int .i64 sm, .bool e0, .bool e1, .bool e2, .bool e3] 208
 have hlt : w.heap.size < w1.heap.size := (V0.call b1).lt
 have hne : ¬ w.heap.size = w1.heap.size := by omega
 have hne2 : ¬ w1.heap.size = w.heap.size := by omega
 have V1 := V0.call b1
 have k0 := V1.cell 0
 have h0 := V1.fr 0
 have k1 := V1.cell 1
 have h1 := V1.fr 1
 have k2 := V1.cell 2
 have h2 := V1.fr 2
 have k3 := V1.cell 3
 have h3 := V1.fr 3
 have k4 := V1.cell 4
 have h4 := V1.fr 4
 simp only [kGs] at k0 k1 k2 k3 k4
 have c0 := V3.cell 0
 have c1 := V3.cell 1
 have c2 := V3.cell 2
 have c3 := V3.cell 3
 have c4 := V3.cell 4
 have f0 := V3.fr 0
 have f1 := V3.fr 1
 have f2 := V3.fr 2
 have f3 := V3.fr 3
 have f4 := V3.fr 4
 have d0 := S3.cell 0
 have d1 := S3.cell 1
 have d2 := S3.cell 2
 have d3 := S3.cell 3
 have d4 := S3.cell 4
 have d5 := S3.cell 5
 simp only [kGs] at c0 c1 c2 c3 c4 d0 d1 d2 d3 d4 d5
 have V4 : Mem.Blk ((((((w1.setCell ⟨w.heap.size, 0, none⟩ (.string sp)).setCell ⟨w.heap.size, 1, none⟩ (.int .i64 sk)).setCell ⟨w.heap.size, 2, none⟩ (.string sd)).setCell ⟨w.heap.size, 3, none⟩ (.int .i64 st)).setCell ⟨w.heap.size, 4, none⟩ (.int .i64 sm)).alloc (.cells #[.bool tt, .string sp, .int .i64 sk, .string sd, .int .i64 st, .int .i64 sm, .bool e0, .bool e1, .bool e2, .bool e3] 208)).drew w.heap.size #[.string sp, .int .i64 sk, .string sd, .int .i64 st, .int .i64 sm] 89 := by
  have h := ((((((V1.put 0 (.string sp)).put 1 (.int .i64 sk)).put 2 (.string sd)).put 3 (.int .i64 st)).put 4 (.int .i64 sm))).alloc (.cells #[.bool tt, .string sp, .int .i64 sk, .string sd, .int .i64 st, .int .i64 sm, .bool e0, .bool e1, .bool e2, .bool e3] 208)
  simp only [kB3] at h
  exact h
 have B4 : Below w.heap.size w ((((((w1.setCell ⟨w.heap.size, 0, none⟩ (.string sp)).setCell ⟨w.heap.size, 1, none⟩ (.int .i64 sk)).setCell ⟨w.heap.size, 2, none⟩ (.string sd)).setCell ⟨w.heap.size, 3, none⟩ (.int .i64 st)).setCell ⟨w.heap.size, 4, none⟩ (.int .i64 sm)).alloc (.cells #[.bool tt, .string sp, .int .i64 sk, .string sd, .int .i64 st, .int .i64 sm, .bool e0, .bool e1, .bool e2, .bool e3] 208)).drew := by
  have h : Below w.heap.size w ((((((w1.setCell ⟨w.heap.size, 0, none⟩ (.string sp)).setCell ⟨w.heap.size, 1, none⟩ (.int .i64 sk)).setCell ⟨w.heap.size, 2, none⟩ (.string sd)).setCell ⟨w.heap.size, 3, none⟩ (.int .i64 st)).setCell ⟨w.heap.size, 4, none⟩ (.int .i64 sm)).alloc (.cells #[.bool tt, .string sp, .int .i64 sk, .string sd, .int .i64 st, .int .i64 sm, .bool e0, .bool e1, .bool e2, .bool e3] 208)) := (((((b2.setCell (p := ⟨w.heap.size, 0, none⟩) (Nat.le_refl _) (.string sp)).setCell (p := ⟨w.heap.size, 1, none⟩) (Nat.le_refl _) (.int .i64 sk)).setCell (p := ⟨w.heap.size, 2, none⟩) (Nat.le_refl _) (.string sd)).setCell (p := ⟨w.heap.size, 3, none⟩) (Nat.le_refl _) (.int .i64 st)).setCell (p := ⟨w.heap.size, 4, none⟩) (Nat.le_refl _) (.int .i64 sm)).alloc ((((((b2.setCell (p := ⟨w.heap.size, 0, none⟩) (Nat.le_refl _) (.string sp)).setCell (p := ⟨w.heap.size, 1, none⟩) (Nat.le_refl _) (.int .i64 sk)).setCell (p := ⟨w.heap.size, 2, none⟩) (Nat.le_refl _) (.string sd)).setCell (p := ⟨w.heap.size, 3, none⟩) (Nat.le_refl _) (.int .i64 st)).setCell (p := ⟨w.heap.size, 4, none⟩) (Nat.le_refl _) (.int .i64 sm))).size _
  exact ⟨h.os, h.tape, h.output, h.size, h.block⟩
 have HV := hide V4
 have HB := hide B4
 clear hs b0 b1 b2 b3 V0 V1 V3 V4 S3 B4
 go_wp2_with fail
 go_region
 go_wp2
 have r0 := (za HV).cell 0
 have r1 := (za HV).cell 1
 have r2 := (za HV).cell 2
 have r3 := (za HV).cell 3
 have r4 := (za HV).cell 4
 simp only [kGs] at r0 r1 r2 r3 r4
 exact bodyPost_ret (v := .tuple #[.agg #[.string sp, .int .i64 sk, .string sd, .int .i64 st, .int .i64 sm], .bool tt]) (by simp [results, Tryz.results157, go_sem, r0, r1, r2, r3, r4]) rfl ⟨rfl, za HB⟩
end zl0
end Go.Proofs.YtfdbokipgofcdaaGreatDoor

namespace Go.Proofs.YtfdbokipgofcdaaGreatDoor
open Go.RowKit Go.Maps
namespace yf7
structure Gk (w W : World) (Ls : List (List Pl.Nd)) (M N : Nat) (D : DataW Unit) (C : List Pl.Nd) : Prop where
 bel : Below w.heap.size w W
 map : W.ownsMap Tryz.prog 9 MapN.elem M N D
 gt : MapN.Gt Ls D C
theorem Gk.call {w W W' : World} {Ls : List (List Pl.Nd)} {M N : Nat} {D : DataW Unit} {C : List Pl.Nd} (h : Gk w W Ls M N D C) (b : Below W.heap.size W W') : Gk w W' Ls M N D C :=
 ⟨h.bel.trans (b.mono h.bel.size), ze7.zn6 h.map b, h.gt⟩
theorem Gk.grown {w W W' : World} {Ls : List (List Pl.Nd)} {M N : Nat} {D : DataW Unit} {C : List Pl.Nd} {r : Nat} (h : Gk w W Ls M N D C) (g : W.grownBy W' (some r)) (hr : w.heap.size ≤ r) (hM : M ≠ r) : Gk w W' Ls M N D C :=
 ⟨h.bel.grown g h.bel.size (fun q hq => by cases hq; exact hr), h.map.kept g (fun e => hM (Option.some.inj e)), h.gt⟩
theorem Gk.grown0 {w W W' : World} {Ls : List (List Pl.Nd)} {M N : Nat} {D : DataW Unit} {C : List Pl.Nd} (h : Gk w W Ls M N D C) (g : W.grownBy W' none) : Gk w W' Ls M N D C :=
 ⟨h.bel.grown g h.bel.size (fun q hq => by cases hq), h.map.kept g (fun e => by cases e), h.gt⟩
def Whole (w w' : World) (Ls : List (List Pl.Nd)) (M : Nat) : Prop := ∃ N D C, N ≤ 200 ∧ Gk w w' Ls M N D C ∧ ∀ n, n ∈ C ↔ Pl.zq Ls n
def Inner (w wr : World) (Ls : List (List Pl.Nd)) (L C : List Pl.Nd) (b r k : Nat) : Prop := ∃ (left : Lit → Bool) (cnt : Nat) (T : List Pl.Nd), wr.ranges Tryz.prog 9 MapN.elem b r 40 (MapN.mapOf L) left cnt ∧ T.length + cnt ≤ Maps.size (MapN.mapOf L) ∧ MapN.Got L T left ∧ r < wr.heap.size ∧ ∃ N1 D1 C1, N1 ≤ 40 * k + T.length ∧ Gk w wr Ls w.heap.size N1 D1 C1 ∧ (∀ n ∈ C, n ∈ C1) ∧ ∀ m ∈ T, (Pl.zb2 Ls m.path).told = true → (Pl.zb2 Ls m.path).node ∈ C1
set_option linter.unusedSimpArgs false in
set_option maxRecDepth 100000 in
set_option maxHeartbeats 2000000 in
theorem gathered_any (B : Nat) (v : Value) (Bs : List Nat) (Ls : List (List Pl.Nd)) (w : World) (hov : zh6.Ov w B v Bs Ls) (h4 : Ls.length ≤ 4) (htr : ∀ L ∈ Ls, Pl.za2 L = true) :
  Calls Tryz.prog 143 #[v] w fun e w' => e = .returned (.map (some w.heap.size)) ∧ Whole w w' Ls w.heap.size := by
 obtain ⟨a, cap, rfl⟩ := zl0.zw2 hov
 have hmm := @run_makeMap Tryz.prog
 have HOV := hide hov
 have HTR := hide htr
 have A0 : Hid (Gk w (w.alloc (.map #[] 0)) Ls w.heap.size 0 (.map []) []) := ⟨(Below.refl _ _).alloc (Nat.le_refl _) _, World.ownsMap_made w Tryz.prog 9 MapN.elem, MapN.Gt.start Ls⟩
 have HSM : Hid (∀ L ∈ Ls, L.length ≤ 40) := fun L hL => by
  have h := htr L hL
  simp only [Pl.za2, Bool.and_eq_true, decide_eq_true_eq] at h
  exact h.1
 clear hov htr
 go_enter Tryz.func143, Tryz.ntmps143
 go_wp2
 go_loopw [11] (fun i wr => ∃ k : Nat, k ≤ Ls.length ∧ i = .int .i64 (k : Int) ∧ Hid (∃ N D C, N ≤ 40 * k ∧ Gk w wr Ls w.heap.size N D C ∧ w.heap.size < wr.heap.size ∧ ∀ (j : Nat) L, j < k → Ls[j]? = some L → ∀ m ∈ L, (Pl.zb2 Ls m.path).told = true → (Pl.zb2 Ls m.path).node ∈ C)) (fun i _ => Ls.length - (intOf i).toNat)
 case atStart => exact ⟨0, Nat.zero_le _, rfl, ⟨0, _, _, Nat.le_refl _, za A0, by simp, fun j L h => absurd h (by omega)⟩⟩
 case round =>
  obtain ⟨k, hk, rfl, HA⟩ := hrel
  clear A0
  obtain ⟨N, D, C, hN, G, hMl, hall⟩ := za HA
  have KG := hide G
  have HAll := hide hall
  clear HA hall
  by_cases hlt : k < Ls.length
  ·obtain ⟨L, hL⟩ : ∃ L, Ls[k]? = some L := ⟨_, List.getElem?_eq_getElem hlt⟩
   obtain ⟨b, hb⟩ : ∃ b, Bs[k]? = some b := ⟨_, List.getElem?_eq_getElem (by rw [(za HOV).len]; exact hlt)⟩
   obtain ⟨g, rfl, c0⟩ := zl0.ov_cell ((za HOV).call G.bel) hb
   have hmap := ((za HOV).maps k b L hb hL).2
   have hbl : b < w.heap.size := hmap.lt
   have HMB := hide (ze7.zn6 hmap G.bel)
   have htL := za HTR L (List.mem_of_getElem? hL)
   have hLl := za HSM L (List.mem_of_getElem? hL)
   have HLT := hide htL
   have HCC := hide (Pl.zy9 htL)
   have HSZ := hide (MapN.yw7 (Pl.zy9 htL))
   have HG0 := hide (MapN.got_start (MapN.yj6 (Pl.zy9 htL)))
   have HENT := hide (MapN.yj6 (Pl.zy9 htL)).ent
   have HLk := hide hL
   have y1 : (k : Int) < (Ls.length : Int) := by omega
   have y2 : (0 : Int) ≤ (k : Int) := by omega
   have hin := in_map b
   unfold zh6.layV at hin
   have HIN := hide hin
   clear hin hmap htL hL hb G
   go_wp2_with fail
   refine (za HIN _).mono ?_
   rintro e wI ⟨rfl, hwI⟩
   subst wI
   clear HIN c0
   go_wp2_with (first
    | (at_range; refine wpList_range_own _ rfl _ 69 rfl 9 89 MapN.law Tryz.underlying69 _ b 40 _ rfl (za HMB) ?_; intro w0 hrg0 hg0 hs0)
    | go_in)
   go_frame
   have KG0 := hide ((za KG).grown0 hg0)
   generalize hr : wr.heap.size = r at hrg0 hs0 ⊢
   have hMr : w.heap.size < r := by omega
   have hrl : r < w0.heap.size := by omega
   clear KG hg0 hs0 HMB
   have HAT := hide (fun (c : Pl.Nd) (hc : c ∈ L) (W : World) (bw : Below w.heap.size w W) => zl0.atO_any B (.slice (some ⟨g, 0, none⟩) Ls.length cap) Bs Ls c.path W ((za HOV).call bw) h4 (za HTR) (by have := Pl.zi7 (Pl.yh2 (za HLT) hc).1; omega))
   have HTO := hide (fun (c : Pl.Nd) (hc : c ∈ L) (ht : (Pl.zb2 Ls c.path).told = true) => (⟨⟨L, List.mem_of_getElem? (za HLk), c, hc, ht, rfl⟩, Pl.zx1 (Pl.yh2 (za HLT) hc).1 (Pl.yh2 (za HLT) hc).2 ht, (by have := Pl.zi7 (Pl.yh2 (za HLT) hc).1; unfold maxLen; omega)⟩ : Pl.zq Ls (Pl.zb2 Ls c.path).node ∧ (Pl.zb2 Ls c.path).node.path = c.path ∧ c.path.size ≤ maxLen))
   go_loopw [5] (fun _ wr => Inner w wr Ls L C b r k)
    (fun _ wr => wr.rangeLeft b r)
   case atStart => exact ⟨_, _, [], hrg0, by simp, za HG0, hrl, ⟨N, D, C, by simpa using hN, za KG0, fun n hn => hn, fun m hm => by cases hm⟩⟩
   case round =>
    obtain ⟨left, cnt, T, hrg, hcs, HGT0, hrw, HK⟩ := hrel
    have HGT := hide HGT0
    clear HGT0
    clear hrg0 KG0 HG0 hrl
    obtain ⟨N1, D1, C1, hN1, G1, hsub, hvis⟩ := HK
    have KG1 := hide G1
    have HSB := hide hsub
    have HVI := hide hvis
    clear G1 hsub hvis
    go_wp2_with (first
     | (at_next; refine wpList_next_ranges _ rfl _ rfl 9 MapN.law MapN.elem (Value.string) (Pl.Nd.val) (fun key kl hk => Maps.keyOf_string_inv Tryz.underlying9 hk) (fun v y hv => by obtain ⟨d, ps⟩ := y; obtain ⟨n, hn, _⟩ := MapN.yo4 hv; exact ⟨n, hn⟩) b r 40 _ _ _ rfl hrg ?_ ?_)
     | go_in)
    ·intro hc0 hl0
     have hp := MapN.got_end (za HCC) (za HGT) hl0
     have HA2 : Hid (∃ N D C, N ≤ 40 * (k + 1) ∧ Gk w wr Ls w.heap.size N D C ∧ w.heap.size < wr.heap.size ∧ ∀ (j : Nat) L, j < k + 1 → Ls[j]? = some L → ∀ m ∈ L, (Pl.zb2 Ls m.path).told = true → (Pl.zb2 Ls m.path).node ∈ C) := by
      refine ⟨N1, D1, C1, ?_, za KG1, by omega, fun j L' hj hL' m hm ht => ?_⟩
      ·have h1 := hp.length_eq
       omega
      ·by_cases e : j < k
       ·exact za HSB _ (za HAll j L' e hL' m hm ht)
       ·obtain rfl : j = k := by omega
        rw [za HLk] at hL'
        cases hL'
        exact za HVI m (hp.mem_iff.2 hm) ht
     clear hp hc0 hl0 hrg HGT KG1 HSB HVI HAT HTO HENT
     go_wp2
     go_roundw
     case rel => exact ⟨k + 1, by omega, by go_num, HA2⟩
     case measure => simp [intOf]; omega
    ·intro x c kl yd yp w1 cnt1 hkey hlk hR hat hrg1 hlt1 hg1 hs1 hen
     have ek : kl = MapN.key x := MapN.keyOf_inv hkey
     have ey : yd = MapN.dat c := by rw [MapN.yk9] at hR; cases hR; rfl
     subst ek ey
     obtain ⟨hcC, rfl⟩ := za HENT x c hat
     have HG2 := hide (MapN.got_step (za HCC) (za HGT) hcC hlk)
     have KG2 := hide ((za KG1).grown hg1 (by omega) (by omega))
     have HRG1 := hide hrg1
     have HLE := hide (hrg.left_eq)
     have hat2 := hide (za HAT c hcC w1 (za KG2).bel)
     have hto := hide (za HTO c hcC)
     have hr1 : r < w1.heap.size := by omega
     have HVC : Hid (∀ C2 : List Pl.Nd, (∀ n ∈ C1, n ∈ C2) → ((Pl.zb2 Ls c.path).told = true → (Pl.zb2 Ls c.path).node ∈ C2) → ∀ m ∈ T ++ [c], (Pl.zb2 Ls m.path).told = true → (Pl.zb2 Ls m.path).node ∈ C2) := fun C2 h1 h2 m hm ht => by
      rcases List.mem_append.1 hm with h3 | h3
      ·exact h1 _ (za HVI m h3 ht)
      ·simp at h3; subst h3; exact h2 ht
     clear hat hR hkey hlk hcC HGT hg1 hs1 hrg1 hrg HENT KG1 HVI
     obtain ⟨cp, ck, cd, ct, cm⟩ := c
     simp only [Pl.Nd.val] at hen hat2 hto HVC HG2 HRG1 ⊢
     generalize hS : Pl.zb2 Ls cp = S at hat2 hto HVC
     obtain ⟨tt, ⟨sp, sk, sd, st, sm⟩, sh⟩ := S
     simp only at hat2 hto HVC
     go_wp2_with fail
     refine (za hat2).mono ?_
     rintro e w2 ⟨rfl, b2⟩
     simp only [Pl.Nd.val]
     have KG3 := hide ((za KG2).call b2)
     have HRG2 := hide ((za HRG1).kept (Mem.zd8 b2 none) (by simp) (by simp))
     have hr2 : r < w2.heap.size := by have := b2.size; omega
     clear KG2 HRG1 hat2 b2 hen hr1
     have bA : Below w2.heap.size w2 (w2.alloc (.cells #[.string sp, .int .i64 sk, .string sd, .int .i64 st, .int .i64 sm] 89)) := (Below.refl _ _).alloc (Nat.le_refl _) _
     have KG4 := hide ((za KG3).call bA)
     have HRG4 := hide ((za HRG2).alloc (.cells #[.string sp, .int .i64 sk, .string sd, .int .i64 st, .int .i64 sm] 89))
     cases tt
     ·have HK4 : Hid (∃ N1 D1 C1, N1 ≤ 40 * k + (T ++ [(⟨cp, ck, cd, ct, cm⟩ : Pl.Nd)]).length ∧ Gk w (w2.alloc (.cells #[.string sp, .int .i64 sk, .string sd, .int .i64 st, .int .i64 sm] 89)) Ls w.heap.size N1 D1 C1 ∧ (∀ n ∈ C, n ∈ C1) ∧ ∀ m ∈ T ++ [(⟨cp, ck, cd, ct, cm⟩ : Pl.Nd)], (Pl.zb2 Ls m.path).told = true → (Pl.zb2 Ls m.path).node ∈ C1) :=
       ⟨N1, D1, C1, by rw [List.length_append]; omega, za KG4, za HSB, za HVC C1 (fun n hn => hn) (fun h => by cases h)⟩
      have hr4 : r < (w2.alloc (.cells #[.string sp, .int .i64 sk, .string sd, .int .i64 st, .int .i64 sm] 89)).heap.size := by simp; omega
      clear KG3 KG4 HRG2 HSB HVC hto bA HAT HTO
      go_wp2
      go_roundw
      case rel => exact ⟨_, cnt1, T ++ [⟨cp, ck, cd, ct, cm⟩], za HRG4, by simp; omega, za HG2, hr4, za HK4⟩
      case measure => rw [(za HRG4).left_eq, za HLE]; exact hlt1
     ·obtain ⟨hT, hpe, hps⟩ := za hto (by trivial)
      (try simp only at hpe)
      subst hpe
      obtain ⟨hgt, hmem⟩ := (za KG4).gt.put (za HTR) hT
      have HGP := hide hgt
      have HME := hide hmem
      have hkey := MapN.yl4 hps
      have NB := Mem.Blk.new w2 #[.string sp, .int .i64 sk, .string sd, .int .i64 st, .int .i64 sm] 89
      have n0 := NB.cell 0
      have n1 := NB.cell 1
      have n2 := NB.cell 2
      have n3 := NB.cell 3
      have n4 := NB.cell 4
      simp only [kGs] at n0 n1 n2 n3 n4
      have hMr2 : ¬ w.heap.size = r := by omega
      have hNl : N1 ≤ 200 := by
       have h1 := hcs
       rw [za HSZ] at h1
       omega
      clear KG3 HRG2 hto bA HAT HTO hgt hmem NB hT
      go_wp2_with (first | (at_mapUpdate; refine wpList_mapUpdate_own _ rfl _ _ _ 69 rfl 9 89 MapN.law Tryz.underlying69 _ w.heap.size N1 _ rfl (za KG4).map (by unfold maxLen; omega) _ _ _ rfl rfl hkey _ [] (MapN.yk9 ⟨sp, sk, sd, st, sm⟩) ?_; intro wZ hownZ hgrowZ) | fail)
      have HRZ := hide ((za HRG4).kept hgrowZ (fun e => by have := Option.some.inj e; omega) (fun e => by have := Option.some.inj e; omega))
      have HK4 : Hid (∃ N1 D1 C1, N1 ≤ 40 * k + (T ++ [(⟨sp, ck, cd, ct, cm⟩ : Pl.Nd)]).length ∧ Gk w wZ Ls w.heap.size N1 D1 C1 ∧ (∀ n ∈ C, n ∈ C1) ∧ ∀ m ∈ T ++ [(⟨sp, ck, cd, ct, cm⟩ : Pl.Nd)], (Pl.zb2 Ls m.path).told = true → (Pl.zb2 Ls m.path).node ∈ C1) :=
       ⟨N1 + 1, _, MapN.putC C1 ⟨sp, sk, sd, st, sm⟩, by rw [List.length_append]; simp; omega, ⟨(za KG4).bel.grown hgrowZ (za KG4).bel.size (fun q hq => by cases hq; exact Nat.le_refl _), hownZ, za HGP⟩, fun n hn => (za HME n).2 (.inl (za HSB n hn)), za HVC _ (fun n hn => (za HME n).2 (.inl hn)) (fun _ => (za HME _).2 (.inr rfl))⟩
      have hr4 : r < wZ.heap.size := by have h1 := hgrowZ.size; simp at h1; omega
      clear KG4 HRG4 HSB HVC HGP HME hownZ hgrowZ n0 n1 n2 n3 n4
      go_wp2
      go_roundw
      case rel => exact ⟨_, cnt1, T ++ [⟨sp, ck, cd, ct, cm⟩], za HRZ, by simp; omega, za HG2, hr4, za HK4⟩
      case measure => rw [(za HRZ).left_eq, za HLE]; exact hlt1
  ·obtain rfl : k = Ls.length := by omega
   have y1 : ¬ ((Ls.length : Int) < (Ls.length : Int)) := by omega
   go_wp2
   go_ret
   refine ⟨rfl, ⟨N, D, C, by omega, za KG, fun n => ⟨(za KG).gt.sub n, fun hn => ?_⟩⟩⟩
   obtain ⟨L, hL, m, hm, h1, h2⟩ := hn
   obtain ⟨j, hj⟩ := List.mem_iff_getElem?.1 hL
   rw [h2]
   exact za HAll j L (List.getElem?_eq_some_iff.1 hj).1 hj m hm h1
end yf7
end Go.Proofs.YtfdbokipgofcdaaGreatDoor

namespace Go.Proofs.YtfdbokipgofcdaaGreatDoor
open Go.RowKit Go.Maps
namespace yf7
set_option maxRecDepth 100000 in
theorem in_over (B : Nat) (v : Value) (Bs : List Nat) (Ls : List (List Pl.Nd)) (w : World) (hov : zh6.Ov w B v Bs Ls) (h4 : Ls.length ≤ 4) (htr : ∀ L ∈ Ls, Pl.za2 L = true) :
  Calls Tryz.prog 115 #[.iface 138 v] w fun e w' => e = .returned (.map (some w.heap.size)) ∧ Whole w w' Ls w.heap.size := by
 have hg := hide (gathered_any B v Bs Ls w hov h4 htr)
 obtain ⟨a, cap, rfl⟩ := zl0.zw2 hov
 have h1 := no_map a Ls.length cap
 have h2 := is_over a Ls.length cap
 clear hov
 go_enter Tryz.func115, Tryz.ntmps115
 go_wp2_with fail
 refine (za hg).mono ?_
 rintro e w1 ⟨rfl, h⟩
 clear hg h1 h2
 go_wp2
 go_ret
 exact ⟨rfl, h⟩
def WholeIs (w w' : World) (Ls : List (List Pl.Nd)) (x : Nat → Addr) (e : Ending) : Prop :=
 (∃ N D C, e = .returned (.tuple #[.map (some w.heap.size), .nilIface]) ∧ C.length ≤ 40 ∧ N ≤ 200 ∧ Gk w w' Ls w.heap.size N D C ∧ ∀ n, n ∈ C ↔ Pl.zq Ls n) ∨
 (∃ C : List Pl.Nd, e = .returned (.tuple #[.map none, .iface 219 (.pointer (some (x 5)))]) ∧ 40 < C.length ∧ C.Pairwise (fun a b => a.path ≠ b.path) ∧ (∀ n, n ∈ C ↔ Pl.zq Ls n) ∧ Below w.heap.size w w')
set_option maxRecDepth 100000 in
set_option maxHeartbeats 400000 in
theorem whole_any (B : Nat) (v : Value) (Bs : List Nat) (Ls : List (List Pl.Nd)) (w : World) (hov : zh6.Ov w B v Bs Ls) (h4 : Ls.length ≤ 4) (htr : ∀ L ∈ Ls, Pl.za2 L = true) (x : Nat → Addr) (hE : WIs.Six w x) :
  Calls Tryz.prog 100 #[v] w fun e w' => WholeIs w w' Ls x e := by
 have hg := hide (in_over B v Bs Ls w hov h4 htr)
 obtain ⟨a, cap, rfl⟩ := zl0.zw2 hov
 have HE := hide hE
 clear hov hE
 go_enter Tryz.func100, Tryz.ntmps100
 go_wp2_with fail
 refine (za hg).mono ?_
 rintro e w1 ⟨rfl, N, D, C, hN, G, hC⟩
 clear hg
 have KG := hide G
 have HC := hide hC
 have hsz := G.gt.size
 have hk := ((za HE).call G.bel).c5
 clear G hC
 by_cases hl : 40 < C.length
 ·have y1 : (40 : Int) < (Maps.size D : Int) := by omega
  go_wp2_with (first
   | (at_len; refine wpList_len_own _ rfl _ 69 rfl 9 89 Tryz.underlying69 _ w.heap.size N D rfl (za KG).map ?_)
   | go_in)
  go_region
  go_wp2
  go_ret2
  exact .inr ⟨C, rfl, hl, (za KG).gt.apart, za HC, Mem.below_drewN (za KG).bel 1⟩
 ·have y1 : ¬ (40 : Int) < (Maps.size D : Int) := by omega
  go_wp2_with (first
   | (at_len; refine wpList_len_own _ rfl _ 69 rfl 9 89 Tryz.underlying69 _ w.heap.size N D rfl (za KG).map ?_)
   | go_in)
  go_ret2
  exact .inl ⟨N, D, C, rfl, by omega, hN, za KG, za HC⟩
end yf7
end Go.Proofs.YtfdbokipgofcdaaGreatDoor

namespace Go.Proofs.YtfdbokipgofcdaaGreatDoor
open Go.RowKit Go.Maps
namespace WAsLeaf
structure Oq (w : World) (S : Nat) (v : Value) (Bs : List Nat) (Ls : List (List Pl.Nd)) : Prop where
 row : w.ownsRow S 189 1 v Bs.length (Bs.map zh6.layV)
 len : Bs.length = Ls.length
 maps : ∀ (j : Nat) b L, Bs[j]? = some b → Ls[j]? = some L → Mem.ownM w b L
theorem Oq.ov {w : World} {S : Nat} {v : Value} {Bs : List Nat} {Ls : List (List Pl.Nd)} (h : Oq w S v Bs Ls) : zh6.Ov w 0 v Bs Ls := by
 refine ⟨⟨h.row.1, ?_⟩, h.len, fun j b L h1 h2 => ⟨Nat.zero_le _, h.maps j b L h1 h2⟩⟩
 rcases h.row.2 with h0 | ⟨g, cap, cur, hv, hb, rest⟩
 ·exact .inl h0
 ·exact .inr ⟨g, cap, cur, hv, Nat.zero_le _, rest⟩
theorem Oq.call {w w' : World} {S : Nat} {v : Value} {Bs : List Nat} {Ls : List (List Pl.Nd)} (h : Oq w S v Bs Ls) (b : Below w.heap.size w w') : Oq w' S v Bs Ls :=
 ⟨zh6.zz6 h.row b, h.len, fun j c L h1 h2 => (h.maps j c L h1 h2).call b⟩
theorem Oq.put {w w' : World} {S b : Nat} {v v' : Value} {Bs : List Nat} {Ls : List (List Pl.Nd)} {L : List Pl.Nd} (h : Oq w S v Bs Ls) (hm : Mem.ownM w b L)
  (hr : w'.ownsRow S 189 1 v' (Bs.length + 1) (Bs.map zh6.layV ++ [zh6.layV b])) (hg : w.grownBy w' v.ownBlock) : Oq w' S v' (Bs ++ [b]) (Ls ++ [L]) := by
 refine ⟨by simpa using hr, by simp [h.len], fun j c M h1 h2 => ?_⟩
 by_cases e : j < Bs.length
 ·rw [List.getElem?_append_left e] at h1
  rw [List.getElem?_append_left (by rw [← h.len]; exact e)] at h2
  have h4 := h.maps j c M h1 h2
  exact h4.grown hg (zh6.map_not h.row h4)
 ·rw [List.getElem?_append_right (by omega)] at h1
  rw [List.getElem?_append_right (by rw [← h.len]; omega)] at h2
  have e0 : j - Bs.length = 0 := by
   have := (List.getElem?_eq_some_iff.1 h1).1
   simp at this; omega
  rw [e0] at h1
  rw [← h.len, e0] at h2
  simp at h1 h2
  subst h1 h2
  exact hm.grown hg (zh6.map_not h.row hm)
def Leafed (w' : World) (x : Nat → Addr) (VV : Option (List Pl.Nd)) (e : Ending) : Prop :=
 (∃ V q m, VV = some V ∧ e = .returned (.tuple #[.agg #[.map (some q), .int .i64 m], .nilIface]) ∧ Mem.ownM w' q V) ∨
 (VV = none ∧ e = .returned (.tuple #[.agg #[.map none, .int .i64 0], .iface 219 (.pointer (some (x 5)))]))
theorem told_map {w : World} {q N : Nat} {Ls : List (List Pl.Nd)} {D : DataW Unit} {C : List Pl.Nd} (h : w.ownsMap Tryz.prog 9 MapN.elem q N D) (g : MapN.Gt Ls D C) (hC : ∀ n, n ∈ C ↔ Pl.zq Ls n) (h4 : Ls.length ≤ 4) (htr : ∀ L ∈ Ls, Pl.za2 L = true) (hl : C.length ≤ 40) : Pl.zq0 (some Ls) = some (Pl.allO Ls) ∧ Mem.ownM w q (Pl.allO Ls) := by
 have ha := Pl.yg5 h4 htr
 have hp := Pl.all_perm htr ha g.apart hC
 have hle : (Pl.allO Ls).length ≤ 40 := by rw [hp.length_eq]; exact hl
 have ht := Pl.yg0 h4 htr hle
 have e := MapN.is_mapOf h g (Pl.ya3 ht) (fun n => (hC n).trans (ha.mem n).symm)
 refine ⟨if_pos hle, ?_⟩
 subst e
 exact Mem.tight h (by rw [MapN.yw7 (Pl.ya3 ht)]; exact hle)
theorem told_long {Ls : List (List Pl.Nd)} {C : List Pl.Nd} (ap : C.Pairwise (fun a b => a.path ≠ b.path)) (hC : ∀ n, n ∈ C ↔ Pl.zq Ls n) (h4 : Ls.length ≤ 4) (htr : ∀ L ∈ Ls, Pl.za2 L = true) (hl : 40 < C.length) : Pl.zq0 (some Ls) = none := by
 have hp := Pl.all_perm htr (Pl.yg5 h4 htr) ap hC
 exact if_neg (by rw [hp.length_eq]; omega)
set_option linter.unusedSimpArgs false in
set_option maxRecDepth 100000 in
set_option maxHeartbeats 2000000 in
theorem leaf_as (x : Nat → Addr) (n : Nat) (hn : n ≤ 1000) : ∀ (N : Nat → Prop) (K : Pl.Fx) (L : List Pl.Nd) (q : Nat) (m : Int) (v : Value) (w : World), K.sz ≤ n → (Pl.Fx.cons L K .nil).okX → Mem.ownM w q L → Mem.layX w N K v → WIs.Six w x →
  Calls Tryz.prog 85 #[.agg #[.map (some q), .int .i64 m, v]] w fun e w' => Leafed w' x (Pl.zl7 L K) e ∧ Below w.heap.size w w' := by
 obtain ⟨i0, hi, hz0, hz1, hz2⟩ := info_parts zh6.infoL
 have base : ∀ (L : List Pl.Nd) (q : Nat) (m : Int) (a : Option Addr) (cap : Nat) (w : World), Mem.ownM w q L → Calls Tryz.prog 85 #[.agg #[.map (some q), .int .i64 m, .slice a 0 cap]] w fun e w' => Leafed w' x (some L) e ∧ Below w.heap.size w w' := by
  intro L q m a cap w hm
  have b0 : Below w.heap.size w ((w.alloc (.cells #[.map (some q), .int .i64 m, .slice a 0 cap] 74)).alloc (.cells #[.map none, .int .i64 0] 71)) := ((Below.refl _ _).alloc (Nat.le_refl _) _).alloc (by simp) _
  have A0 := (Mem.Blk.new w #[.map (some q), .int .i64 m, .slice a 0 cap] 74).alloc (.cells #[.map none, .int .i64 0] 71)
  have R0 : Mem.Blk ((w.alloc (.cells #[.map (some q), .int .i64 m, .slice a 0 cap] 74)).alloc (.cells #[.map none, .int .i64 0] 71)) (w.heap.size + 1) #[.map none, .int .i64 0] 71 := Mem.zh2 _ _ _
  have hlf := hide (zc0.zr1 .nil (some q) m a cap)
  simp only [Pl.Fo.len] at hlf
  have HM := hide (hm.call b0)
  have hql := hm.lt
  clear hm
  go_enter Tryz.func85, Tryz.ntmps85
  go_wp2_with fail
  generalize (w.alloc (.cells #[.map (some q), .int .i64 m, .slice a 0 cap] 74)).alloc (.cells #[.map none, .int .i64 0] 71) = w2 at b0 A0 R0 HM ⊢
  refine (za hlf _).mono ?_
  rintro e w1 ⟨rfl, b1⟩
  have bb := b0.trans (b1.mono b0.size)
  have A1 := A0.call b1
  have R1 := R0.call b1
  have M1 := hide (((za HM).call b1).set ⟨w.heap.size + 1, 0, none⟩ (.map (some q)) (by show q ≠ w.heap.size + 1; omega))
  have M2 := hide ((za M1).set ⟨w.heap.size + 1, 1, none⟩ (.int .i64 m) (by show q ≠ w.heap.size + 1; omega))
  have c0 := A1.cell 0
  have c1 := A1.cell 1
  have d0 := R1.cell 0
  have d1 := R1.cell 1
  have f0 := R1.fr 0
  have f1 := R1.fr 1
  simp only [kGs] at c0 c1 d0 d1
  have HB := hide bb
  clear hlf A0 R0 A1 R1 HM M1 b0 b1 bb
  go_wp2
  refine bodyPost_ret (v := .tuple #[.agg #[.map (some q), .int .i64 m], .nilIface]) (by simp [results, Tryz.results85, go_sem, d0, d1]) rfl ⟨Or.inl ⟨L, q, m, rfl, rfl, za M2⟩, ?_⟩
  exact ((za HB).setCell (by show w.heap.size ≤ w.heap.size + 1; omega) _).setCell (by show w.heap.size ≤ w.heap.size + 1; omega) _
 induction n with
 | zero =>
  intro N K L q m v w hs hx hm hl hE
  obtain ⟨a, cap, rfl, -⟩ := hl
  cases K with
  | nil => exact base L q m a cap w hm
  | cons L' k' m' => simp [Pl.Fx.sz] at hs
 | succ n ih =>
  intro N K L q m v w hs hx hm hl hE
  obtain ⟨a, cap, rfl, hrow⟩ := hl
  by_cases hK0 : K.len = 0
  ·have e := Pl.Fx.ym9 hK0
   subst e
   exact base L q m a cap w hm
  rcases hrow with h | ⟨g, rfl, -, hrow⟩
  ·rw [h] at hK0; exact absurd rfl hK0
  rw [Pl.yc0 hK0]
  have hK4 : K.len ≤ 4 := hx.2.2.1
  have HKX := hide hx.2.2.2.1
  have b0 : Below w.heap.size w ((w.alloc (.cells #[.map (some q), .int .i64 m, .slice (some ⟨g, 0, none⟩) K.len cap] 74)).alloc (.cells #[.map none, .int .i64 0] 71)) := ((Below.refl _ _).alloc (Nat.le_refl _) _).alloc (by simp) _
  have A0 := (Mem.Blk.new w #[.map (some q), .int .i64 m, .slice (some ⟨g, 0, none⟩) K.len cap] 74).alloc (.cells #[.map none, .int .i64 0] 71)
  have R0 : Mem.Blk ((w.alloc (.cells #[.map (some q), .int .i64 m, .slice (some ⟨g, 0, none⟩) K.len cap] 74)).alloc (.cells #[.map none, .int .i64 0] 71)) (w.heap.size + 1) #[.map none, .int .i64 0] 71 := Mem.zh2 _ _ _
  have HI := hide (ih (by omega))
  have HRW := hide (Mem.zl9 (Mem.zt2 (N' := fun b => b < w.heap.size) (fun b _ hb => ⟨hb, hb, rfl⟩) K g 0 hrow) b0)
  have HE := hide (fun W (b : Below w.heap.size w W) => hE.call b)
  have hlf := hide (zc0.zr1 K.shape (some q) m (some ⟨g, 0, none⟩) cap)
  rw [Pl.Fx.zt7, show decide (K.len = 0) = false from decide_eq_false hK0] at hlf
  clear ih hrow base hx hm hE
  go_enter Tryz.func85, Tryz.ntmps85
  go_wp2_with fail
  generalize (w.alloc (.cells #[.map (some q), .int .i64 m, .slice (some ⟨g, 0, none⟩) K.len cap] 74)).alloc (.cells #[.map none, .int .i64 0] 71) = w2 at b0 A0 R0 HRW ⊢
  refine (za hlf _).mono ?_
  rintro e w1 ⟨rfl, b1⟩
  have bb := b0.trans (b1.mono b0.size)
  have c02 := (A0.call b1).cell 2
  simp only [kGs] at c02
  have RR := hide (R0.call b1)
  have RW : Hid (Mem.rowX w1 (fun b => b < w.heap.size) K g (0 * 3)) := hide (by simpa using Mem.zl9 (za HRW) b1)
  have OQ0 : Hid (Oq w1 (w.heap.size + 2) (.slice none 0 0) [] []) := ⟨⟨by rfl, .inl ⟨rfl, rfl⟩⟩, rfl, fun j b L h => by simp at h⟩
  have SF0 := hide (Pl.seenF_start K)
  clear b0 b1 hlf A0 R0 HRW
  go_wp2
  go_loopw [4, 18] (fun v i wr => ∃ (j : Nat) (Bs : List Nat) (Ls : List (List Pl.Nd)) (F : Pl.Fx), i = .int .i64 (j : Int) ∧ j + F.len = K.len ∧ Bs.length = j ∧ F.sz ≤ n + 1 ∧ Below w.heap.size w wr ∧ Hid (Oq wr (w.heap.size + 2) v Bs Ls) ∧ Hid (Mem.rowX wr (fun b => b < w.heap.size) F g (j * 3)) ∧ Hid (Pl.ya9 K F Ls) ∧ Hid F.okX ∧ Hid (Mem.Blk wr (w.heap.size + 1) #[.map none, .int .i64 0] 71)) (fun _ i _ => K.len - (intOf i).toNat)
  case atStart => exact ⟨0, [], [], K, rfl, by omega, rfl, hs, bb, OQ0, RW, SF0, HKX, RR⟩
  case round =>
   obtain ⟨j, Bs, Ls, F, rfl, hj, hBs, hsz, hbel, OQ, HR, SF, FX, RB⟩ := hrel
   clear RW bb c02 OQ0 SF0 RR
   cases F with
   | nil =>
    simp only [Pl.Fx.len] at hj
    have u1 : ¬ (j : Int) < (K.len : Int) := by omega
    have hvs := Pl.seenF_end (za SF)
    obtain ⟨hLl, htr⟩ := Pl.ym2 K Ls (za HKX) hvs
    have hwh := hide (yf7.whole_any 0 _ Bs Ls wr (za OQ).ov (by omega) htr x (za HE _ hbel))
    have HTM := hide (fun W N D C (h : World.ownsMap W Tryz.prog 9 MapN.elem wr.heap.size N D) g hC hl => told_map (w := W) (q := wr.heap.size) (N := N) (D := D) (C := C) h g hC (by omega) htr hl)
    have HTL := hide (fun C ap hC hl => told_long (Ls := Ls) (C := C) ap hC (by omega) htr hl)
    obtain ⟨va, vc, hv⟩ := zl0.zw2 (za OQ).ov
    subst hv
    have hVS : Hid (Pl.ze5 K = some Ls) := hvs
    clear htr hvs OQ HR SF FX hLl
    go_wp2_with fail
    refine (za hwh).mono ?_
    rintro e w3 h3
    clear hwh
    rcases h3 with ⟨N3, D, C, rfl, hC4, -, G, hC⟩ | ⟨C, rfl, hC4, hap, hC, b2⟩
    ·obtain ⟨e1, m1⟩ := za HTM w3 N3 D C G.map G.gt hC hC4
     have E1 : Hid (Pl.zq0 (Pl.ze5 K) = some (Pl.allO Ls)) := hide (by rw [za hVS]; exact e1)
     have hlt := (za RB).lt
     have R3 := (za RB).call G.bel
     have B3 := hide (hbel.trans (G.bel.mono hbel.size))
     have M3 := hide ((m1.set ⟨w.heap.size + 1, 0, none⟩ (.map (some wr.heap.size)) (by show wr.heap.size ≠ w.heap.size + 1; omega)).set ⟨w.heap.size + 1, 1, none⟩ (.int .i64 0) (by show wr.heap.size ≠ w.heap.size + 1; omega))
     have d0 := R3.cell 0
     have d1 := R3.cell 1
     have f0 := R3.fr 0
     have f1 := R3.fr 1
     simp only [kGs] at d0 d1
     clear G hC e1 m1 R3 HTM HTL RB hVS HE
     go_wp2
     refine bodyPost_ret (v := .tuple #[.agg #[.map (some wr.heap.size), .int .i64 0], .nilIface]) (by simp [results, Tryz.results85, go_sem, d0, d1]) rfl ⟨Or.inl ⟨_, _, _, za E1, rfl, za M3⟩, ?_⟩
     exact ((za B3).setCell (by show w.heap.size ≤ w.heap.size + 1; omega) _).setCell (by show w.heap.size ≤ w.heap.size + 1; omega) _
    ·have E1 : Hid (Pl.zq0 (Pl.ze5 K) = none) := hide (by rw [za hVS]; exact za HTL C hap hC hC4)
     have R3 := (za RB).call b2
     have B3 := hide (hbel.trans (b2.mono hbel.size))
     have d0 := R3.cell 0
     have d1 := R3.cell 1
     have f0 := R3.fr 0
     have f1 := R3.fr 1
     simp only [kGs] at d0 d1
     clear hC hap R3 HTM HTL RB hVS HE b2
     go_wp2
     refine bodyPost_ret (v := .tuple #[.agg #[.map none, .int .i64 0], .iface 219 (.pointer (some (x 5)))]) (by simp [results, Tryz.results85, go_sem, d0, d1]) rfl ⟨Or.inr ⟨za E1, rfl⟩, ?_⟩
     first | exact za B3 | exact ((za B3).setCell (by show w.heap.size ≤ w.heap.size + 1; omega) _).setCell (by show w.heap.size ≤ w.heap.size + 1; omega) _
   | cons L1 k1 m1 =>
    simp only [Pl.Fx.len, Pl.Fx.sz] at hj hsz
    obtain ⟨g1, g2, g3, g5, g6⟩ := za FX
    obtain ⟨⟨q1, a1, cap1, c0, c1, c2, hg, hNg, hNq, hm1, hsub⟩, hrest⟩ := za HR
    have u1 : (j : Int) < (K.len : Int) := by omega
    have u3 : (0 : Int) ≤ (j : Int) := by omega
    have bA : Below wr.heap.size wr (wr.alloc (.cells #[.map (some q1), .int .i64 (k1.len : Int), .slice a1 k1.len cap1] 74)) := (Below.refl _ _).alloc (Nat.le_refl _) _
    have HL : Mem.layX wr (fun b => b < w.heap.size) k1 (.slice a1 k1.len cap1) := ⟨a1, cap1, rfl, hsub⟩
    have bw := hbel.trans (bA.mono hbel.size)
    have hcall := hide (za HI (fun b => b < w.heap.size) k1 L1 q1 (k1.len : Int) _ _ (by omega) ⟨g1, g2, g3, g5, trivial⟩ (hm1.call bA) (Mem.zt5 HL bA) (za HE _ bw))
    have HRR := hide (Mem.zl9 hrest bA)
    have OA := hide ((za OQ).call bA)
    have RA := hide ((za RB).call bA)
    have G6 := hide g6
    have hsw := hbel.size
    clear hsub hrest HL HR OQ RB FX g1 g2 g5 g6 hm1
    go_wp2_with fail
    refine (za hcall).mono ?_
    rintro e wX ⟨hX, bX⟩
    have bw2 := bw.trans (bX.mono bw.size)
    clear hcall
    rcases hX with ⟨V, q2, m2, hV, rfl, hm2⟩ | ⟨hV, rfl⟩
    ·have SF2 := hide (Pl.seenF_step (za SF) hV)
     have bA2 : Below wX.heap.size wX ((wX.alloc (.cells #[.map (some q2), .int .i64 m2] 71)).alloc (.cells #[zh6.layV q2] 189)) := ((Below.refl _ _).alloc (Nat.le_refl _) _).alloc (by simp) _
     have bb2 := bX.trans (bA2.mono bX.size)
     have O2 := (za OA).call bb2
     have M2 := hm2.call bA2
     have HP := hide (fun v' w4 h1 h2 => O2.put (v' := v') (w' := w4) M2 h1 h2)
     have HRO := hide O2.row
     have bw3 := bw2.trans (bA2.mono bw2.size)
     have HQ := hide (fun w4 (h2 : ((wX.alloc (.cells #[.map (some q2), .int .i64 m2] 71)).alloc (.cells #[zh6.layV q2] 189)).grownBy w4 _) => bw3.grown h2 bw3.size (fun k hk => by have := (O2.row.lt k hk).1; omega))
     have HGR := hide (fun w4 (h2 : ((wX.alloc (.cells #[.map (some q2), .int .i64 m2] 71)).alloc (.cells #[zh6.layV q2] 189)).grownBy w4 _) => (⟨((za RA).call bb2).grown h2 (fun e => by have := (O2.row.lt _ e.symm).1; omega), Mem.zt2 (fun b hb hlt => ⟨hb, Nat.lt_of_lt_of_le hlt h2.size, h2.block b hlt (fun e => by have := (O2.row.lt b e.symm).1; omega)⟩) _ _ _ (Mem.zl9 (za HRR) bb2)⟩ : Mem.Blk w4 (w.heap.size + 1) #[.map none, .int .i64 0] 71 ∧ Mem.rowX w4 (fun b => b < w.heap.size) m1 g (j * 3 + 3)))
     have HSB := hide (show w.heap.size + 2 ≤ wX.heap.size by have h1 := (za RA).lt; have h2 := bX.size; omega)
     clear bA O2 M2 hm2 hV SF OA RA HRR bA2 bb2 bX bw bw3
     unfold zh6.layV at HP HRO HQ HGR
     go_wp2_with (at_builtin; refine wpList_append_own _ rfl _ _ 138 rfl (w.heap.size + 2) 189 i0 .nilIface 1 16 Tryz.underlying138 hi hz0 hz1 hz2 rfl (by decide) _ _ _ rfl (za HRO) ⟨wX.heap.size + 1, 0, none⟩ 1 1 [.iface 69 (.map (some q2))] rfl rfl (by have := Mem.zq5 (wX.alloc (.cells #[.map (some q2), .int .i64 m2] 71)) (.iface 69 (.map (some q2))) 189; simpa using this) (fun u hu => by simp at hu; subst hu; rfl) (by unfold maxLen; omega) (by omega) (by have := za HSB; simp; omega) ?_)
     intro v' w4 own' hgrow _
     have OV2 := hide (za HP v' w4 (by rw [hBs]; exact own') hgrow)
     have bw4 := za HQ w4 hgrow
     obtain ⟨RB2, HR2⟩ := za HGR w4 hgrow
     have RB3 := hide RB2
     have HR3 := hide HR2
     rw [show j * 3 + 3 = (j + 1) * 3 by omega] at HR3
     have hBl : (Bs ++ [q2]).length = j + 1 := by simp [hBs]
     have HBL := hide hBl
     clear HP HRO HQ HGR own' hgrow HSB RB2 HR2 hBl
     go_wp2
     go_roundw
     case rel => exact ⟨j + 1, Bs ++ [q2], Ls ++ [V], m1, by go_num, by omega, za HBL, by omega, bw4, OV2, HR3, SF2, G6, RB3⟩
     case measure => simp [intOf]; omega
    ·have E1 : Hid (Pl.zq0 (Pl.ze5 K) = none) := hide (by rw [Pl.seenF_fail (za SF) hV]; rfl)
     have R3 := ((za RA).call bX).alloc (.cells #[.map none, .int .i64 0] 71)
     have B3 := hide (bw2.alloc bw2.size (.cells #[.map none, .int .i64 0] 71))
     have d0 := R3.cell 0
     have d1 := R3.cell 1
     have f0 := R3.fr 0
     have f1 := R3.fr 1
     simp only [kGs] at d0 d1
     clear hV SF OA RA HRR bX bw bw2 R3 bA HE HI
     go_wp2
     refine bodyPost_ret (v := .tuple #[.agg #[.map none, .int .i64 0], .iface 219 (.pointer (some (x 5)))]) (by simp [results, Tryz.results85, go_sem, d0, d1]) rfl ⟨Or.inr ⟨za E1, rfl⟩, ?_⟩
     first | exact za B3 | exact ((za B3).setCell (by show w.heap.size ≤ w.heap.size + 1; omega) _).setCell (by show w.heap.size ≤ w.heap.size + 1; omega) _
end WAsLeaf
end Go.Proofs.YtfdbokipgofcdaaGreatDoor

