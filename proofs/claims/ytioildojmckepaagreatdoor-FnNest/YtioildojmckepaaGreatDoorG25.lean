/- Several texts of one claim in one file: WSpoil, WBothI, WLess, MapN, WJoin. -/
import Derived.Test.YtioildojmckepaaGreatDoorG16
import Derived.Laws.OwnMore
import Derived.Test.YtioildojmckepaaGreatDoorG05
import Derived.Test.YtioildojmckepaaGreatDoorG01
import Derived.Deep.QuietTactic
import Derived.BigQuiet
import Derived.Test.YtioildojmckepaaGreatDoorG00
import Derived.Test.YtioildojmckepaaGreatDoorProg
import Derived.Below
import Derived.Maps.OwnSet
import Derived.Test.YtioildojmckepaaGreatDoorG04
import Derived.WalkSpells
namespace Go.Proofs.YtioildojmckepaaGreatDoor
open Go.RowKit
namespace WSrc
theorem zw9 {W : World} {S len cap q : Nat} {a : Option Addr} (h : Src W S a len cap) : Src (W.drewN q) S a len cap := h
set_option linter.unusedSimpArgs false in
set_option maxRecDepth 100000 in
set_option maxHeartbeats 4000000 in
theorem spoil_any (S : Nat) (a : Option Addr) (len cap : Nat) (t : ByteArray) (w : World) (hs : Src w S a len cap) (ht : t.size ≤ 8000) :
  Calls Tryz.prog 30 #[.pointer (some ⟨S, 0, none⟩), .string t] w fun e w' => ∃ u : ByteArray, u.size ≤ 8001 ∧ e = .returned (.string u) ∧ Src w' S a len cap ∧ w.grownBy w' (some S) := by
 have hS := zr7 hs
 have h1 := hide (zc9 S a len cap ((t.size : Int) + 1) w hs (by omega))
 clear hs
 go_enter Tryz.func30, Tryz.ntmps30
 go_wp2_with fail
 refine (za h1).mono ?_
 rintro e w1 ⟨r, rfl, r0, r1, s1, g1⟩
 obtain ⟨k, rfl⟩ : ∃ k : Nat, r = (k : Int) := ⟨r.toNat, by omega⟩
 have hk : k ≤ t.size := by omega
 clear h1 r0 r1
 go_wp2_with fail
 refine (zc9 S a len cap 17 _ s1 (by omega)).mono ?_
 rintro e w2 ⟨r, rfl, r0, r1, s2, g2⟩
 obtain ⟨j, rfl⟩ : ∃ j : Nat, r = (j : Int) := ⟨r.toNat, by omega⟩
 have hj : j < 17 := by omega
 have hj2 : (j : Int) < 17 := by omega
 have g := g1.trans g2
 clear r0 r1 g1 g2 s1
 have hcv : ∀ b : UInt8, (convert 22 9 (.slice (some ⟨w2.heap.size, 0, none⟩) 1 1)).run Tryz.prog (w2.alloc (.cells #[.int .u8 (b.toNat : Int)] 5)) = .ok (.string ⟨#[b]⟩) (w2.alloc (.cells #[.int .u8 (b.toNat : Int)] 5)) := fun b =>
  Mem.zy4 Tryz.underlying22 Tryz.underlying5 Tryz.underlying9 [b] rfl (heap_alloc_new w2 _) (by simp [Pl.zd2])
 have kz : (0 : Int) ≤ (k : Int) := by omega
 have kt : (k : Int) ≤ (t.size : Int) := by omega
 by_cases hkt : k = t.size
 ·have e1 : ((k : Int) == (t.size : Int)) = true := by rw [beq_iff_eq]; omega
  clear hkt
  have SA := zh6 s2
  have GA := fun o => g.trans (World.grownBy_alloc w2 o (some S))
  clear s2 g
  go_wp2
  go_quiet (fail)
  go_wp2
  go_ret
  exact ⟨_, by simp only [ByteArray.size_append, ByteArray.size_extract]; have h1 : ∀ b : UInt8, (⟨#[b]⟩ : ByteArray).size = 1 := fun _ => rfl; (try simp only [h1]); omega, rfl, zw9 (SA _), zl1 (GA _) _⟩
 ·have e1 : ((k : Int) == (t.size : Int)) = false := by rw [beq_eq_false_iff_ne]; omega
  have k1 : (k : Int) + 1 ≤ (t.size : Int) := by omega
  have k2 : (0 : Int) ≤ (k : Int) + 1 := by omega
  clear hkt
  have SA := zh6 s2
  have GA := fun o => g.trans (World.grownBy_alloc w2 o (some S))
  clear s2 g
  go_wp2_with fail
  refine (zh5 S a len cap 3 _ (SA _) (by omega)).mono ?_
  rintro e w3 ⟨r3, rfl, s3, g3⟩
  have G3 := (GA _).trans g3
  clear SA GA g3
  cases r3
  ·go_wp2_with fail
   refine (zh5 S a len cap 2 _ s3 (by omega)).mono ?_
   rintro e w4 ⟨r4, rfl, s4, g4⟩
   have G4 := G3.trans g4
   clear s3 g4 G3
   cases r4
   ·go_wp2
    go_quiet (fail)
    go_wp2
    go_ret
    exact ⟨_, by simp only [ByteArray.size_append, ByteArray.size_extract]; have h1 : ∀ b : UInt8, (⟨#[b]⟩ : ByteArray).size = 1 := fun _ => rfl; (try simp only [h1]); omega, rfl, zw9 s4, zl1 G4 _⟩
   ·go_wp2
    go_quiet (fail)
    go_wp2
    go_ret
    exact ⟨_, by simp only [ByteArray.size_append, ByteArray.size_extract]; have h1 : ∀ b : UInt8, (⟨#[b]⟩ : ByteArray).size = 1 := fun _ => rfl; (try simp only [h1]); omega, rfl, zw9 s4, zl1 G4 _⟩
  ·go_wp2
   go_quiet (fail)
   go_wp2
   go_ret
   exact ⟨_, by simp only [ByteArray.size_append, ByteArray.size_extract]; have h1 : ∀ b : UInt8, (⟨#[b]⟩ : ByteArray).size = 1 := fun _ => rfl; (try simp only [h1]); omega, rfl, zw9 s3, zl1 G3 _⟩
end WSrc
end Go.Proofs.YtioildojmckepaaGreatDoor

namespace Go.Proofs.YtioildojmckepaaGreatDoor
open Go.RowKit
namespace WUnder
set_option maxRecDepth 100000 in
theorem both_any (a b : ByteArray) (w : World) (ha : a.size ≤ 1048576) (hb : b.size ≤ 1048576) :
  Calls Tryz.prog 96 #[.string a, .string b] w fun e w' => ∃ v1 v2 m, e = .returned (.tuple #[v1, v2, .bool (Pl.zb2 a && Pl.zb2 b)]) ∧ w.heap.size ≤ m ∧
   w'.ownsRow w.heap.size 9 1 v1 (Pl.ze5 a).length ((Pl.ze5 a).map Value.string) ∧ (∀ k, v1.ownBlock = some k → k < m) ∧
   w'.ownsRow m 9 1 v2 (Pl.ze5 b).length ((Pl.ze5 b).map Value.string) ∧ Below w.heap.size w w' := by
 have hn1 := hide (fun W => WNames.any a W ha)
 have hn2 := hide (fun W => WNames.any b W hb)
 generalize Pl.zb2 a = r1 at hn1 ⊢
 generalize Pl.zb2 b = r2 at hn2 ⊢
 generalize Pl.ze5 a = A at hn1 ⊢
 generalize Pl.ze5 b = B at hn2 ⊢
 cases r1 <;> cases r2
 all_goals
  go_enter Tryz.func96, Tryz.ntmps96
  go_wp2_with fail
  refine (za hn1 _).mono ?_
  rintro e w1 ⟨v1, rfl, hown1, hb1⟩
  have HO1 := hide hown1
  clear hown1
  go_wp2_with fail
  refine (za hn2 _).mono ?_
  rintro e w2 ⟨v2, rfl, hown2, hb2⟩
  have HO2 := hide hown2
  clear hown2
  have H : Hid (∃ m, w.heap.size ≤ m ∧ w2.ownsRow w.heap.size 9 1 v1 A.length (A.map Value.string) ∧ (∀ k, v1.ownBlock = some k → k < m) ∧
    w2.ownsRow m 9 1 v2 B.length (B.map Value.string) ∧ Below w.heap.size w w2) :=
   ⟨w1.heap.size, hb1.size, Mem.zk3 (za HO1) hb2, fun k hk => ((za HO1).lt k hk).2, za HO2, hb1.trans (hb2.mono hb1.size)⟩
  clear hb1 hb2 HO1 HO2
  go_wp2
  go_ret3
  obtain ⟨m, h1, h2, h3, h4, h5⟩ := H.out
  exact ⟨v1, v2, m, rfl, h1, h2, h3, h4, h5⟩
end WUnder
end Go.Proofs.YtioildojmckepaaGreatDoor

namespace Go.Proofs.YtioildojmckepaaGreatDoor
open Go.RowKit
namespace WLess
set_option maxRecDepth 100000 in
set_option maxHeartbeats 400000 in
theorem ahead_any (v u : Value) (A B : List ByteArray) (w : World) (hA : A.length ≤ 1000) (hB : B.length ≤ 1000) (hv : Mem.zo4 w v A) (hu : Mem.zo4 w u B) :
  Calls Tryz.prog 97 #[v, u] w fun e w' => e = .returned (.bool (Pl.za9 A B)) ∧ Below w.heap.size w w' := by
 have HE : Hid (∀ k, k = A.length ∧ k ≤ B.length ∨ k = B.length ∧ k ≤ A.length → Pl.za9 (A.drop k) (B.drop k) = decide (A.length < B.length)) := fun k h => Pl.less_end h
 by_cases h0 : A = [] ∨ B = []
 ·have E : Hid (Pl.za9 A B = decide (A.length < B.length)) := by
   show _ = _
   have := HE.out 0 (by rcases h0 with rfl | rfl <;> simp)
   simpa using this
  obtain ⟨va, vc, rfl⟩ := Mem.zq2 hv
  obtain ⟨ua, uc, rfl⟩ := Mem.zq2 hu
  clear hv hu HE
  rcases h0 with rfl | rfl
  ·have t0 : (([] : List ByteArray).length : Int) ≤ (B.length : Int) := by simp
   go_enter Tryz.func97, Tryz.ntmps97
   go_wp2
   go_loop [11] (fun i => i = .int .i64 0) (fun _ => 0)
   case atStart => rfl
   case round =>
    subst hrel
    go_wp2
    go_ret
    exact ⟨za2 (by rw [E.out]; simp), Below.refl _ _⟩
  ·by_cases hA0 : A = []
   ·subst hA0
    go_enter Tryz.func97, Tryz.ntmps97
    go_wp2
    go_loop [11] (fun i => i = .int .i64 0) (fun _ => 0)
    case atStart => rfl
    case round =>
     subst hrel
     go_wp2
     go_ret
     exact ⟨za2 (by rw [E.out]; simp), Below.refl _ _⟩
   ·have hp : 0 < A.length := List.length_pos_iff.2 hA0
    have t0 : ¬ (A.length : Int) ≤ 0 := by omega
    have t1 : ¬ (A.length : Int) < 0 := by omega
    have t2 : (0 : Int) < (A.length : Int) := by omega
    go_enter Tryz.func97, Tryz.ntmps97
    go_wp2
    go_loop [11] (fun i => i = .int .i64 0) (fun _ => 0)
    case atStart => rfl
    case round =>
     subst hrel
     go_wp2
     go_ret
     exact ⟨za2 (by rw [E.out]; simp), Below.refl _ _⟩
 ·rcases hu with ⟨_, rfl⟩ | ⟨b, o, cap, rfl, hb, hcb⟩
  ·simp at h0
  rcases hv with ⟨_, rfl⟩ | ⟨b', o', cap', rfl, hb', hca⟩
  ·simp at h0
  have HA := hide hca
  have HB := hide hcb
  clear hca hcb h0
  have HS : Hid (Pl.za9 A B = Pl.za9 (A.drop 0) (B.drop 0)) := rfl
  have HT : Hid (∀ k a b, A[k]? = some a → B[k]? = some b → a = b → Pl.za9 (A.drop k) (B.drop k) = Pl.za9 (A.drop (k + 1)) (B.drop (k + 1))) := fun k a b h1 h2 h3 => Pl.less_same h1 h2 h3
  have HF : Hid (∀ k a b, A[k]? = some a → B[k]? = some b → a ≠ b → Pl.za9 (A.drop k) (B.drop k) = Op.bytesLess a.toList b.toList) := fun k a b h1 h2 h3 => Pl.yd0 h1 h2 h3
  generalize Pl.za9 A B = R at HS ⊢
  by_cases hAB : A.length ≤ B.length
  ·have t0 : (A.length : Int) ≤ (B.length : Int) := by omega
   go_enter Tryz.func97, Tryz.ntmps97
   go_wp2
   go_loopw [11] (fun i wr => ∃ k : Nat, k ≤ A.length ∧ i = .int .i64 (k : Int) ∧ Below w.heap.size w wr ∧ Hid (R = Pl.za9 (A.drop k) (B.drop k))) (fun i _ => A.length - (intOf i).toNat)
   case atStart => exact ⟨0, Nat.zero_le _, rfl, Below.refl _ _, HS⟩
   case round =>
    obtain ⟨k, hk, rfl, hbel, HR⟩ := hrel
    by_cases hlt : k < A.length
    ·obtain ⟨y, hy⟩ : ∃ y, B[k]? = some y := ⟨_, List.getElem?_eq_getElem (by omega)⟩
     obtain ⟨x, hx⟩ : ∃ x, A[k]? = some x := ⟨_, List.getElem?_eq_getElem (by omega)⟩
     have hc1 : wr.cell? ⟨b, o + k, none⟩ = some (.string y) := (hbel.cell (p := ⟨b, o + k, none⟩) hb).trans (HB.out k y hy)
     have hc2 : wr.cell? ⟨b', o' + k, none⟩ = some (.string x) := (hbel.cell (p := ⟨b', o' + k, none⟩) hb').trans (HA.out k x hx)
     have u1 : (k : Int) < (A.length : Int) := by omega
     have u2 : (k : Int) < (B.length : Int) := by omega
     have u3 : (0 : Int) ≤ (k : Int) := by omega
     by_cases hxy : x = y
     ·have t2 := Pl.zu8 hxy
      have HR2 : Hid (R = Pl.za9 (A.drop (k + 1)) (B.drop (k + 1))) := HR.out.trans (HT.out k x y hx hy hxy)
      clear hx hy HR hxy
      go_wp2
      go_quiet (fail)
      go_wp2
      go_roundw
      case rel => exact ⟨k + 1, by omega, by go_num, Mem.below_drewN hbel _, HR2⟩
      case measure => simp [intOf]; omega
     ·have t2 := Pl.zp7 hxy
      have E : Hid (R = Op.bytesLess x.toList y.toList) := HR.out.trans (HF.out k x y hx hy hxy)
      clear hx hy HR hxy
      go_wp2
      go_quiet (fail)
      go_wp2
      go_quiet (fail)
      go_wp2
      go_ret
      exact ⟨za2 E.out.symm, Mem.below_drewN (Mem.below_drewN hbel _) _⟩
    ·obtain rfl : k = A.length := by omega
     have E : Hid (R = decide (A.length < B.length)) := HR.out.trans (HE.out _ (by omega))
     clear HR
     go_wp2
     go_ret
     exact ⟨za2 (by rw [E.out]), hbel⟩
  ·have t0 : ¬ (A.length : Int) ≤ (B.length : Int) := by omega
   have t9 : (B.length : Int) < (A.length : Int) := by omega
   go_enter Tryz.func97, Tryz.ntmps97
   go_wp2
   go_loopw [11] (fun i wr => ∃ k : Nat, k ≤ B.length ∧ i = .int .i64 (k : Int) ∧ Below w.heap.size w wr ∧ Hid (R = Pl.za9 (A.drop k) (B.drop k))) (fun i _ => B.length - (intOf i).toNat)
   case atStart => exact ⟨0, Nat.zero_le _, rfl, Below.refl _ _, HS⟩
   case round =>
    obtain ⟨k, hk, rfl, hbel, HR⟩ := hrel
    by_cases hlt : k < B.length
    ·obtain ⟨y, hy⟩ : ∃ y, B[k]? = some y := ⟨_, List.getElem?_eq_getElem (by omega)⟩
     obtain ⟨x, hx⟩ : ∃ x, A[k]? = some x := ⟨_, List.getElem?_eq_getElem (by omega)⟩
     have hc1 : wr.cell? ⟨b, o + k, none⟩ = some (.string y) := (hbel.cell (p := ⟨b, o + k, none⟩) hb).trans (HB.out k y hy)
     have hc2 : wr.cell? ⟨b', o' + k, none⟩ = some (.string x) := (hbel.cell (p := ⟨b', o' + k, none⟩) hb').trans (HA.out k x hx)
     have u1 : (k : Int) < (A.length : Int) := by omega
     have u2 : (k : Int) < (B.length : Int) := by omega
     have u3 : (0 : Int) ≤ (k : Int) := by omega
     by_cases hxy : x = y
     ·have t2 := Pl.zu8 hxy
      have HR2 : Hid (R = Pl.za9 (A.drop (k + 1)) (B.drop (k + 1))) := HR.out.trans (HT.out k x y hx hy hxy)
      clear hx hy HR hxy
      go_wp2
      go_quiet (fail)
      go_wp2
      go_roundw
      case rel => exact ⟨k + 1, by omega, by go_num, Mem.below_drewN hbel _, HR2⟩
      case measure => simp [intOf]; omega
     ·have t2 := Pl.zp7 hxy
      have E : Hid (R = Op.bytesLess x.toList y.toList) := HR.out.trans (HF.out k x y hx hy hxy)
      clear hx hy HR hxy
      go_wp2
      go_quiet (fail)
      go_wp2
      go_quiet (fail)
      go_wp2
      go_ret
      exact ⟨za2 E.out.symm, Mem.below_drewN (Mem.below_drewN hbel _) _⟩
    ·obtain rfl : k = B.length := by omega
     have E : Hid (R = decide (A.length < B.length)) := HR.out.trans (HE.out _ (by omega))
     clear HR
     go_wp2
     go_ret
     exact ⟨za2 (by rw [E.out]), hbel⟩

set_option maxRecDepth 100000 in
theorem less_any (p t : ByteArray) (w : World) (hp : p.size ≤ 1048576) (ht : t.size ≤ 1048576) :
  Calls Tryz.prog 80 #[.string p, .string t] w fun e w' => e = .returned (.bool (Pl.zb2 p && Pl.zb2 t && Pl.za9 (Pl.ze5 p) (Pl.ze5 t))) ∧ Below w.heap.size w w' := by
 have hn := hide (fun W => WUnder.both_any p t W hp ht)
 have hA := hide (Pl.zs6 p)
 have hB := hide (Pl.zs6 t)
 generalize (Pl.zb2 p && Pl.zb2 t) = r at hn ⊢
 generalize Pl.ze5 p = A at hn hA ⊢
 generalize Pl.ze5 t = B at hn hB ⊢
 cases r
 ·go_enter Tryz.func80, Tryz.ntmps80
  go_wp2_with fail
  refine (za hn _).mono ?_
  rintro e w1 ⟨v1, v2, m, rfl, -, -, -, -, hb⟩
  go_wp2
  go_ret
  exact ⟨rfl, hb⟩
 ·go_enter Tryz.func80, Tryz.ntmps80
  go_wp2_with fail
  refine (za hn _).mono ?_
  rintro e w1 ⟨v1, v2, m, rfl, h1, h2, h3, h4, hb⟩
  have i1 := hide (Mem.zr5 h2)
  have i2 := hide (Mem.zr5 h4)
  clear h2 h4 h3 hn
  go_wp2_with fail
  refine (ahead_any _ _ A B _ (by have := (za hA).2; omega) (by have := (za hB).2; omega) (za i1) (za i2)).mono ?_
  rintro e w2 ⟨rfl, hb2⟩
  have hb3 := hb.trans (hb2.mono hb.size)
  generalize hr : Pl.za9 A B = r2
  have HR := hide hr
  clear hr hb hb2
  go_wp2
  go_ret
  exact ⟨by rw [za HR]; rfl, hb3⟩
end WLess
end Go.Proofs.YtioildojmckepaaGreatDoor

namespace Go.Proofs.YtioildojmckepaaGreatDoor
open Go.RowKit Go.Maps
namespace MapN
def key (p : ByteArray) : Lit := .string p.data.toList
def dat (n : Pl.Nd) : DataW Unit := .agg [.lit (.string n.path.data.toList), .lit (.int .i64 n.kind), .lit (.string n.data.data.toList), .lit (.int .i64 n.time), .lit (.int .i64 n.mark)]
theorem dat_inj {a b : Pl.Nd} (h : dat a = dat b) : a = b := by
 obtain ⟨p, k, d, t, m⟩ := a
 obtain ⟨p', k', d', t', m'⟩ := b
 simp only [dat, DataW.agg.injEq, List.cons.injEq, DataW.lit.injEq, Lit.string.injEq, Lit.int.injEq, and_true, true_and] at h
 obtain ⟨h1, h2, h3, h4, h5⟩ := h
 have e1 : p = p' := Pl.zh h1
 have e2 : d = d' := Pl.zh h3
 subst e1 e2 h2 h4 h5
 rfl
def elem : Value → Option (DataW Unit × List MemPlace)
 | .agg cs => match cs.toList with
  | [.string p, .int .i64 k, .string d, .int .i64 t, .int .i64 m] => some (dat ⟨p, k, d, t, m⟩, [])
  | _ => none
 | _ => none
theorem elem_mk (n : Pl.Nd) : elem n.val = some (dat n, []) := rfl
theorem elem_inv {v : Value} {d : DataW Unit} {ps : List MemPlace} (h : elem v = some (d, ps)) : ∃ n : Pl.Nd, v = n.val ∧ d = dat n := by
 unfold elem at h
 split at h
 ·rename_i cs
  split at h
  ·rename_i p k d' t m hcs
   simp only [Option.some.injEq, Prod.mk.injEq] at h
   refine ⟨⟨p, k, d', t, m⟩, ?_, h.1.symm⟩
   rw [Pl.Nd.val, show cs = cs.toList.toArray by simp, hcs]
  ·cases h
 ·cases h
def mapOf (C : List Pl.Nd) : DataW Unit := C.foldl (fun D n => D.put (key n.path) (dat n)) (.map [])
theorem mapOf_snoc (C : List Pl.Nd) (n : Pl.Nd) : mapOf (C ++ [n]) = (mapOf C).put (key n.path) (dat n) := by simp [mapOf, List.foldl_append]
theorem key_is (p : ByteArray) : WideAt.IsKeyLit (key p) := by simp [key, WideAt.IsKeyLit]
theorem key_ne {a b : ByteArray} (h : a ≠ b) : key a ≠ key b := fun e => h (Pl.zh (Lit.string.inj e))
theorem isMap_fold : ∀ (C : List Pl.Nd) (D : DataW Unit), IsMap D → IsMap (C.foldl (fun D n => D.put (key n.path) (dat n)) D) := by
 intro C
 induction C with
 | nil => intro D h; exact h
 | cons n C ih => intro D h; exact ih _ (h.put _ _)
theorem yc0 (C : List Pl.Nd) : IsMap (mapOf C) := isMap_fold C _ isMap_empty
theorem ye3 (p : ByteArray) : ∀ (C : List Pl.Nd) (D : DataW Unit), (∀ n ∈ C, n.path ≠ p) → Maps.has (C.foldl (fun D n => D.put (key n.path) (dat n)) D) (key p) = Maps.has D (key p) ∧ ∀ z, (C.foldl (fun D n => D.put (key n.path) (dat n)) D).atKey (key p) z = D.atKey (key p) z := by
 intro C
 induction C with
 | nil => intro D _; exact ⟨rfl, fun _ => rfl⟩
 | cons n C ih =>
  intro D h
  have h1 : key p ≠ key n.path := key_ne (fun e => h n List.mem_cons_self e.symm)
  obtain ⟨i1, i2⟩ := ih (D.put (key n.path) (dat n)) (fun m hm => h m (List.mem_cons_of_mem _ hm))
  refine ⟨?_, fun z => ?_⟩
  ·show Maps.has (C.foldl _ (D.put (key n.path) (dat n))) (key p) = _
   rw [i1, has_put_other h1]
  ·show (C.foldl _ (D.put (key n.path) (dat n))).atKey (key p) z = _
   rw [i2, atKey_put_other h1]
theorem has_no {C : List Pl.Nd} {p : ByteArray} (h : ∀ n ∈ C, n.path ≠ p) : Maps.has (mapOf C) (key p) = false := by
 rw [mapOf, (ye3 p C _ h).1]; rfl
theorem at_yes {C : List Pl.Nd} {n : Pl.Nd} (hC : C.Pairwise (fun a b => a.path ≠ b.path)) (hn : n ∈ C) : Maps.has (mapOf C) (key n.path) = true ∧ ∀ z, (mapOf C).atKey (key n.path) z = dat n := by
 obtain ⟨A, B, rfl⟩ := List.append_of_mem hn
 rw [List.pairwise_append] at hC
 have h2 := (List.pairwise_cons.1 hC.2.1).1
 have e : mapOf (A ++ n :: B) = B.foldl (fun D n => D.put (key n.path) (dat n)) ((mapOf A).put (key n.path) (dat n)) := by simp [mapOf, List.foldl_append]
 obtain ⟨i1, i2⟩ := ye3 n.path B ((mapOf A).put (key n.path) (dat n)) (fun m hm e => h2 m hm e.symm)
 rw [e]
 exact ⟨by rw [i1, has_put_same (yc0 A) (key_is _)], fun z => by rw [i2, atKey_put_same (yc0 A) (key_is _)]⟩
theorem law : Keyed Tryz.prog 9 := string_keyed Tryz.underlying9
theorem zeroN (w : World) : (zeroValue 88).run Tryz.prog w = .ok (Pl.Nd.val ⟨⟨#[]⟩, 0, ⟨#[]⟩, 0, 0⟩) w := by kernel_rfl
theorem keyOf_mk {p : ByteArray} (h : p.size ≤ maxLen) : keyOf Tryz.prog 9 (.string p) = some (key p) := WideMaps.keyOf_string_mk Tryz.underlying9 h
end MapN
end Go.Proofs.YtioildojmckepaaGreatDoor

namespace Go.Proofs.YtioildojmckepaaGreatDoor
open Go.RowKit
namespace WJoin
theorem Tryz.one8 (w : World) : (sizeOf 5).run Tryz.prog w = .ok 1 w := by kernel_rfl
theorem Tryz.info8j : (Tryz.prog.info? 5).map (fun i => (i.zero, i.size, i.bytes)) = some (some (.int .u8 0), 1, 1) := by kernel_rfl

set_option maxRecDepth 100000 in
set_option maxHeartbeats 400000 in
theorem any (b o cap : Nat) (ts : List ByteArray) (w : World) (hn : ts.length ≤ 1000000) (ht : Pl.tot ts ≤ 1000000000)
  (hcell : ∀ j t, ts[j]? = some t → w.cell? ⟨b, o + j, none⟩ = some (.string t)) (hb : b < w.heap.size) :
  Calls Tryz.prog 28 #[.slice (some ⟨b, o, none⟩) ts.length cap] w fun e w' => e = .returned (.string ⟨(Pl.cat ts).toArray⟩) ∧ Below w.heap.size w w' := by
 have HC := hide hcell
 clear hcell
 go_enter Tryz.func28, Tryz.ntmps28
 go_wp2
 go_loop [3, 12] (fun n i => ∃ k : Nat, k ≤ ts.length ∧ i = .int .i64 k ∧ n = .int .i64 (Pl.tot (ts.take k) : Nat)) (fun _ i => ts.length - (intOf i).toNat)
 case atStart => exact ⟨0, Nat.zero_le _, rfl, rfl⟩
 case round =>
  obtain ⟨k, hk, rfl, rfl⟩ := hrel
  by_cases hlt : k < ts.length
  ·obtain ⟨t, hkt⟩ : ∃ t, ts[k]? = some t := ⟨_, List.getElem?_eq_getElem hlt⟩
   have hc := za HC k t hkt
   have H1 := hide (Pl.tot_snoc ts k t hkt)
   have h1 := Pl.tot_le ts (k + 1)
   have h2 : Pl.tot (ts.take k) + t.size ≤ 1000000000 := by have := za H1; omega
   clear hkt h1
   go_wp2
   go_round
   case rel => exact ⟨k + 1, by omega, by go_num, by rw [za H1]; go_num⟩
   case measure => simp [intOf]; omega
  ·have HE : Hid (Pl.tot (ts.take k) = Pl.tot ts) := by
    show _ = _
    rw [List.take_of_length_le (by omega)]
   have hmk := Mem.make_bytes (P := Tryz.prog) Tryz.underlying22 Tryz.info8j (Pl.tot ts) ht w
   rw [HE.out]
   go_wp2
   go_loopw [7, 25] (fun p i wr => ∃ (k : Nat) (cur : Array Value), k ≤ ts.length ∧ i = .int .i64 k ∧ p = .int .i64 (Pl.tot (ts.take k) : Nat) ∧ wr.heap[w.heap.size]? = some (.cells cur 5 (0, 0)) ∧ cur.size = Pl.tot ts ∧
     Hid (cur.toList.take (Pl.tot (ts.take k)) = (Pl.cat (ts.take k)).map Pl.zd2) ∧ Below w.heap.size w wr) (fun _ i _ => ts.length - (intOf i).toNat)
   case atStart => exact ⟨0, Mem.zeros (Pl.tot ts), Nat.zero_le _, rfl, rfl, heap_alloc_new w _, Mem.zeros_size _, rfl, (Below.refl _ _).alloc (Nat.le_refl _) _⟩
   case round =>
    obtain ⟨k, cur, hk, rfl, rfl, hrow, hcs, HP, hbel⟩ := hrel
    by_cases hlt : k < ts.length
    ·obtain ⟨t, hkt⟩ : ∃ t, ts[k]? = some t := ⟨_, List.getElem?_eq_getElem hlt⟩
     have hc : wr.cell? ⟨b, o + k, none⟩ = some (.string t) := (hbel.cell (p := ⟨b, o + k, none⟩) hb).trans (za HC k t hkt)
     have H1 := hide (Pl.tot_snoc ts k t hkt)
     have h1 := Pl.tot_le ts (k + 1)
     have h2 : Pl.tot (ts.take k) + t.size ≤ Pl.tot ts := by have := za H1; omega
     have HS := hide (Pl.part_step hkt HP.out)
     obtain ⟨D, w2, hsl, hcp, hrow2, hbel2⟩ := Mem.copy_on (P := Tryz.prog) (sT := 9) Tryz.underlying22 Tryz.one8 wr w.heap.size (Pl.tot (ts.take k)) (Pl.tot ts) cur hrow hcs t h2
     have HROW2 := hide hrow2
     have HB2 := hide (hbel.trans hbel2)
     have hsz : Hid ((cur.toList.take (Pl.tot (ts.take k)) ++ t.data.toList.map Pl.zd2 ++ cur.toList.drop (Pl.tot (ts.take k) + t.size)).toArray.size = Pl.tot ts) := by
      show _ = _
      have : t.data.size = t.size := rfl
      simp [this]
      omega
     clear hkt h1 hrow hrow2 hbel2 hbel
     go_wp2
     go_roundw
     case rel => exact ⟨k + 1, _, by omega, by go_num, by rw [za H1]; go_num, HROW2, hsz, HS, HB2⟩
     case measure => simp [intOf]; omega
    ·have HE2 : Hid (Pl.cat (ts.take k) = Pl.cat ts ∧ Pl.tot (ts.take k) = Pl.tot ts) := by
      show _ ∧ _
      rw [List.take_of_length_le (by omega)]
      exact ⟨rfl, rfl⟩
     have hp : cur.toList.take (Pl.tot ts) = (Pl.cat ts).map Pl.zd2 := by have := HP.out; rwa [HE2.out.1, HE2.out.2] at this
     have hcv := Mem.zy4 (P := Tryz.prog) (cap := Pl.tot ts) Tryz.underlying22 Tryz.underlying5 Tryz.underlying9 (Pl.cat ts) (Pl.zt7 ts) hrow hp
     clear hp hrow
     go_wp2
     go_ret
     exact ⟨rfl, hbel⟩
end WJoin
end Go.Proofs.YtioildojmckepaaGreatDoor

