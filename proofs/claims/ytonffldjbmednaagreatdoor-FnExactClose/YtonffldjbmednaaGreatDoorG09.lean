/- Several texts of one claim in one file: WNames, WBothI, WLess. -/
import Derived.Test.YtonffldjbmednaaGreatDoorG00
import Derived.Test.YtonffldjbmednaaGreatDoorG08
import Derived.Deep.QuietTactic
import Derived.BigQuiet
namespace Go.Proofs.YtonffldjbmednaaGreatDoor
open Go.RowKit
namespace WNames
set_option maxRecDepth 100000 in
set_option maxHeartbeats 400000 in
theorem any (s : ByteArray) (w : World) (hs : s.size ≤ 1048576) :
  Calls Tryz.prog 106 #[.string s] w fun e w' => ∃ v, e = .returned (.tuple #[v, .bool (Pl.za2 s)]) ∧
   w'.ownsRow w.heap.size 9 1 v (Pl.zb7 s).length ((Pl.zb7 s).map Value.string) ∧ Below w.heap.size w w' := by
 by_cases h0 : s.size = 0
 ·have E := hide (Pl.zg4 h0).1
  have E2 := hide ((Pl.zh5 (Pl.zg4 h0).1).trans (Pl.zg4 h0).2)
  obtain rfl : s = ⟨#[]⟩ := by apply ByteArray.ext; exact Array.eq_empty_of_size_eq_zero h0
  go_enter Tryz.func106, Tryz.ntmps106
  go_wp2
  go_ret2
  refine ⟨.slice none 0 0, by rw [za E]; rfl, ?_, Below.refl _ _⟩
  rw [za E2]
  exact World.ownsRow_nil _ _ _ _
 have t0 : s.toList.isEmpty = false := by
  rw [List.isEmpty_eq_false_iff, ByteArray.toList_eq]
  intro h
  have h1 : s.data.toList.length = 0 := by rw [h]; rfl
  rw [Array.length_toList] at h1
  exact h0 h1
 have E1 : Hid (Pl.names s = Pl.cut s 47) := if_neg h0
 by_cases h8 : 8000 < s.size
 ·have E := hide (Pl.zv7 (s := s) (by omega))
  have E2 := hide (Pl.zs6 (za E))
  go_enter Tryz.func106, Tryz.ntmps106
  go_wp2
  go_ret2
  refine ⟨.slice none 0 0, by rw [za E]; rfl, ?_, Below.refl _ _⟩
  rw [za E2]
  exact World.ownsRow_nil _ _ _ _
 have hpos := Pl.cut_pos s
 have hlen := Pl.cut_length s
 have HSZ : Hid (∀ (k : Nat) t, (Pl.cut s 47)[k]? = some t → t.size ≤ maxLen) := fun k t ht => by
  have := Pl.cut_size ht
  unfold maxLen; omega
 have HLONG : Hid (6 < (Pl.cut s 47).length → Pl.za2 s = false) := fun h => by
  rw [Pl.zs9, E1.out]; simp; intro _; omega
 have HBAD : Hid (∀ (k : Nat) t, (Pl.cut s 47)[k]? = some t → Pl.zc8 t = false → Pl.za2 s = false) := fun k t ht hb => Pl.pathB_bad (by rw [E1.out]; exact ht) hb
 have HGOOD : Hid ((Pl.cut s 47).length ≤ 6 → (∀ (j : Nat) t, (Pl.cut s 47)[j]? = some t → Pl.zc8 t = true) → Pl.za2 s = true ∧ Pl.zb7 s = Pl.cut s 47) := fun h6 h => by
  have h1 : Pl.za2 s = true := by
   rw [Pl.zs9, E1.out]
   simp [h6]
   intro t ht
   obtain ⟨j, hj⟩ := List.mem_iff_getElem?.1 ht
   exact h j t hj
  exact ⟨h1, by rw [Pl.zh5 h1, E1.out]⟩
 have hn := hide (WWords.any s w hs)
 generalize Pl.cut s 47 = L at hn hlen HSZ HBAD HGOOD HLONG hpos
 go_enter Tryz.func106, Tryz.ntmps106
 go_wp2_with fail
 refine (za hn).mono ?_
 rintro e w1 ⟨v, rfl, hown, hbel⟩
 have HO := hide hown
 rcases Mem.texts hown with ⟨rfl, rfl⟩ | ⟨g, cap, rfl, hcap, hm, hgb, hgl, hcell⟩
 ·simp at hpos
 have HC := hide hcell
 clear hcell hown hn
 have hm2 := hm
 unfold maxLen at hm2
 by_cases h6 : 6 < L.length
 ·have E := hide (HLONG.out h6)
  have E2 := hide (Pl.zs6 (za E))
  go_wp2
  go_ret2
  refine ⟨.slice none 0 0, by rw [za E]; rfl, ?_, hbel⟩
  rw [za E2]
  exact World.ownsRow_nil _ _ _ _
 go_wp2
 go_loop [19] (fun i => ∃ k : Nat, k ≤ L.length ∧ i = .int .i64 (k : Int) ∧ Hid (∀ (j : Nat) t, j < k → L[j]? = some t → Pl.zc8 t = true)) (fun i => L.length - (intOf i).toNat)
 case atStart => exact ⟨0, Nat.zero_le _, rfl, fun j t h => absurd h (by omega)⟩
 case round =>
  obtain ⟨k, hk, rfl, HA⟩ := hrel
  by_cases hlt : k < L.length
  ·obtain ⟨t, ht⟩ : ∃ t, L[k]? = some t := ⟨_, List.getElem?_eq_getElem hlt⟩
   have hc := HC.out k t ht
   have hts := HSZ.out k t ht
   cases hb : Pl.zc8 t
   ·have E := hide (HBAD.out k t ht hb)
    have E2 := hide (Pl.zs6 (za E))
    have HB := hide hb
    clear ht hb
    go_wp2_with (go_at_call 130; refine (WName.zw2 t _ hts).mono ?_; rw [za HB]; rintro e w' ⟨rfl, hw⟩; obtain rfl := hw.symm)
    go_ret2
    refine ⟨.slice none 0 0, by rw [za E]; rfl, ?_, hbel⟩
    rw [za E2]
    exact World.ownsRow_nil _ _ _ _
   ·have HB := hide hb
    have HA2 : Hid (∀ (j : Nat) t, j < k + 1 → L[j]? = some t → Pl.zc8 t = true) := fun j t' hj h' => by
     rcases Nat.lt_succ_iff_lt_or_eq.1 hj with h'' | rfl
     ·exact HA.out j t' h'' h'
     ·rw [ht] at h'; cases h'; exact hb
    clear ht hb HA
    go_wp2_with (go_at_call 130; refine (WName.zw2 t _ hts).mono ?_; rw [za HB]; rintro e w' ⟨rfl, hw⟩; obtain rfl := hw.symm)
    go_round
    case rel => exact ⟨k + 1, by omega, by go_num, HA2⟩
    case measure => simp [intOf]; omega
  ·have E := hide (HGOOD.out (by omega) (fun j t h => HA.out j t (by have := (List.getElem?_eq_some_iff.1 h).1; omega) h))
   clear HA
   go_wp2
   go_ret2
   exact ⟨.slice (some ⟨g, 0, none⟩) L.length cap, by rw [(za E).1]; rfl, by rw [(za E).2]; exact za HO, hbel⟩
end WNames
end Go.Proofs.YtonffldjbmednaaGreatDoor

namespace Go.Proofs.YtonffldjbmednaaGreatDoor
open Go.RowKit
namespace WUnder
set_option maxRecDepth 100000 in
theorem both_any (a b : ByteArray) (w : World) (ha : a.size ≤ 1048576) (hb : b.size ≤ 1048576) :
  Calls Tryz.prog 115 #[.string a, .string b] w fun e w' => ∃ v1 v2 m, e = .returned (.tuple #[v1, v2, .bool (Pl.za2 a && Pl.za2 b)]) ∧ w.heap.size ≤ m ∧
   w'.ownsRow w.heap.size 9 1 v1 (Pl.zb7 a).length ((Pl.zb7 a).map Value.string) ∧ (∀ k, v1.ownBlock = some k → k < m) ∧
   w'.ownsRow m 9 1 v2 (Pl.zb7 b).length ((Pl.zb7 b).map Value.string) ∧ Below w.heap.size w w' := by
 have hn1 := hide (fun W => WNames.any a W ha)
 have hn2 := hide (fun W => WNames.any b W hb)
 generalize Pl.za2 a = r1 at hn1 ⊢
 generalize Pl.za2 b = r2 at hn2 ⊢
 generalize Pl.zb7 a = A at hn1 ⊢
 generalize Pl.zb7 b = B at hn2 ⊢
 cases r1 <;> cases r2
 all_goals
  go_enter Tryz.func115, Tryz.ntmps115
  go_wp2_with fail
  refine (za hn1 _).mono ?_
  rintro e w1 ⟨v1, rfl, hown1, hb1⟩
  have HO1 := hide hown1
  clear hown1
  go_wp2_with fail
  refine (za hn2 _).mono ?_
  rintro e w2 ⟨v2, rfl, hown2, hb2⟩
  have HO2 := hide hown2
  clear hown2
  have H : Hid (∃ m, w.heap.size ≤ m ∧ w2.ownsRow w.heap.size 9 1 v1 A.length (A.map Value.string) ∧ (∀ k, v1.ownBlock = some k → k < m) ∧
    w2.ownsRow m 9 1 v2 B.length (B.map Value.string) ∧ Below w.heap.size w w2) :=
   ⟨w1.heap.size, hb1.size, Mem.ze8 (za HO1) hb2, fun k hk => ((za HO1).lt k hk).2, za HO2, hb1.trans (hb2.mono hb1.size)⟩
  clear hb1 hb2 HO1 HO2
  go_wp2
  go_ret3
  obtain ⟨m, h1, h2, h3, h4, h5⟩ := H.out
  exact ⟨v1, v2, m, rfl, h1, h2, h3, h4, h5⟩
end WUnder
end Go.Proofs.YtonffldjbmednaaGreatDoor

namespace Go.Proofs.YtonffldjbmednaaGreatDoor
open Go.RowKit
namespace WLess
set_option maxRecDepth 100000 in
set_option maxHeartbeats 400000 in
theorem ahead_any (v u : Value) (A B : List ByteArray) (w : World) (hA : A.length ≤ 1000) (hB : B.length ≤ 1000) (hv : Mem.zm w v A) (hu : Mem.zm w u B) :
  Calls Tryz.prog 144 #[v, u] w fun e w' => e = .returned (.bool (Pl.za3 A B)) ∧ Below w.heap.size w w' := by
 have HE : Hid (∀ k, k = A.length ∧ k ≤ B.length ∨ k = B.length ∧ k ≤ A.length → Pl.za3 (A.drop k) (B.drop k) = decide (A.length < B.length)) := fun k h => Pl.less_end h
 by_cases h0 : A = [] ∨ B = []
 ·have E : Hid (Pl.za3 A B = decide (A.length < B.length)) := by
   show _ = _
   have := HE.out 0 (by rcases h0 with rfl | rfl <;> simp)
   simpa using this
  obtain ⟨va, vc, rfl⟩ := Mem.zo3 hv
  obtain ⟨ua, uc, rfl⟩ := Mem.zo3 hu
  clear hv hu HE
  rcases h0 with rfl | rfl
  ·have t0 : (([] : List ByteArray).length : Int) ≤ (B.length : Int) := by simp
   go_enter Tryz.func144, Tryz.ntmps144
   go_wp2
   go_loop [11] (fun i => i = .int .i64 0) (fun _ => 0)
   case atStart => rfl
   case round =>
    subst hrel
    go_wp2
    go_ret
    exact ⟨za0 (by rw [E.out]; simp), Below.refl _ _⟩
  ·by_cases hA0 : A = []
   ·subst hA0
    go_enter Tryz.func144, Tryz.ntmps144
    go_wp2
    go_loop [11] (fun i => i = .int .i64 0) (fun _ => 0)
    case atStart => rfl
    case round =>
     subst hrel
     go_wp2
     go_ret
     exact ⟨za0 (by rw [E.out]; simp), Below.refl _ _⟩
   ·have hp : 0 < A.length := List.length_pos_iff.2 hA0
    have t0 : ¬ (A.length : Int) ≤ 0 := by omega
    have t1 : ¬ (A.length : Int) < 0 := by omega
    have t2 : (0 : Int) < (A.length : Int) := by omega
    go_enter Tryz.func144, Tryz.ntmps144
    go_wp2
    go_loop [11] (fun i => i = .int .i64 0) (fun _ => 0)
    case atStart => rfl
    case round =>
     subst hrel
     go_wp2
     go_ret
     exact ⟨za0 (by rw [E.out]; simp), Below.refl _ _⟩
 ·rcases hu with ⟨_, rfl⟩ | ⟨b, o, cap, rfl, hb, hcb⟩
  ·simp at h0
  rcases hv with ⟨_, rfl⟩ | ⟨b', o', cap', rfl, hb', hca⟩
  ·simp at h0
  have HA := hide hca
  have HB := hide hcb
  clear hca hcb h0
  have HS : Hid (Pl.za3 A B = Pl.za3 (A.drop 0) (B.drop 0)) := rfl
  have HT : Hid (∀ k a b, A[k]? = some a → B[k]? = some b → a = b → Pl.za3 (A.drop k) (B.drop k) = Pl.za3 (A.drop (k + 1)) (B.drop (k + 1))) := fun k a b h1 h2 h3 => Pl.less_same h1 h2 h3
  have HF : Hid (∀ k a b, A[k]? = some a → B[k]? = some b → a ≠ b → Pl.za3 (A.drop k) (B.drop k) = Op.bytesLess a.toList b.toList) := fun k a b h1 h2 h3 => Pl.ya5 h1 h2 h3
  generalize Pl.za3 A B = R at HS ⊢
  by_cases hAB : A.length ≤ B.length
  ·have t0 : (A.length : Int) ≤ (B.length : Int) := by omega
   go_enter Tryz.func144, Tryz.ntmps144
   go_wp2
   go_loopw [11] (fun i wr => ∃ k : Nat, k ≤ A.length ∧ i = .int .i64 (k : Int) ∧ Below w.heap.size w wr ∧ Hid (R = Pl.za3 (A.drop k) (B.drop k))) (fun i _ => A.length - (intOf i).toNat)
   case atStart => exact ⟨0, Nat.zero_le _, rfl, Below.refl _ _, HS⟩
   case round =>
    obtain ⟨k, hk, rfl, hbel, HR⟩ := hrel
    by_cases hlt : k < A.length
    ·obtain ⟨y, hy⟩ : ∃ y, B[k]? = some y := ⟨_, List.getElem?_eq_getElem (by omega)⟩
     obtain ⟨x, hx⟩ : ∃ x, A[k]? = some x := ⟨_, List.getElem?_eq_getElem (by omega)⟩
     have hc1 : wr.cell? ⟨b, o + k, none⟩ = some (.string y) := (hbel.cell (p := ⟨b, o + k, none⟩) hb).trans (HB.out k y hy)
     have hc2 : wr.cell? ⟨b', o' + k, none⟩ = some (.string x) := (hbel.cell (p := ⟨b', o' + k, none⟩) hb').trans (HA.out k x hx)
     have u1 : (k : Int) < (A.length : Int) := by omega
     have u2 : (k : Int) < (B.length : Int) := by omega
     have u3 : (0 : Int) ≤ (k : Int) := by omega
     by_cases hxy : x = y
     ·have t2 := Pl.zw0 hxy
      have HR2 : Hid (R = Pl.za3 (A.drop (k + 1)) (B.drop (k + 1))) := HR.out.trans (HT.out k x y hx hy hxy)
      clear hx hy HR hxy
      go_wp2
      go_quiet (fail)
      go_wp2
      go_roundw
      case rel => exact ⟨k + 1, by omega, by go_num, Mem.below_drewN hbel _, HR2⟩
      case measure => simp [intOf]; omega
     ·have t2 := Pl.zr4 hxy
      have E : Hid (R = Op.bytesLess x.toList y.toList) := HR.out.trans (HF.out k x y hx hy hxy)
      clear hx hy HR hxy
      go_wp2
      go_quiet (fail)
      go_wp2
      go_quiet (fail)
      go_wp2
      go_ret
      exact ⟨za0 E.out.symm, Mem.below_drewN (Mem.below_drewN hbel _) _⟩
    ·obtain rfl : k = A.length := by omega
     have E : Hid (R = decide (A.length < B.length)) := HR.out.trans (HE.out _ (by omega))
     clear HR
     go_wp2
     go_ret
     exact ⟨za0 (by rw [E.out]), hbel⟩
  ·have t0 : ¬ (A.length : Int) ≤ (B.length : Int) := by omega
   have t9 : (B.length : Int) < (A.length : Int) := by omega
   go_enter Tryz.func144, Tryz.ntmps144
   go_wp2
   go_loopw [11] (fun i wr => ∃ k : Nat, k ≤ B.length ∧ i = .int .i64 (k : Int) ∧ Below w.heap.size w wr ∧ Hid (R = Pl.za3 (A.drop k) (B.drop k))) (fun i _ => B.length - (intOf i).toNat)
   case atStart => exact ⟨0, Nat.zero_le _, rfl, Below.refl _ _, HS⟩
   case round =>
    obtain ⟨k, hk, rfl, hbel, HR⟩ := hrel
    by_cases hlt : k < B.length
    ·obtain ⟨y, hy⟩ : ∃ y, B[k]? = some y := ⟨_, List.getElem?_eq_getElem (by omega)⟩
     obtain ⟨x, hx⟩ : ∃ x, A[k]? = some x := ⟨_, List.getElem?_eq_getElem (by omega)⟩
     have hc1 : wr.cell? ⟨b, o + k, none⟩ = some (.string y) := (hbel.cell (p := ⟨b, o + k, none⟩) hb).trans (HB.out k y hy)
     have hc2 : wr.cell? ⟨b', o' + k, none⟩ = some (.string x) := (hbel.cell (p := ⟨b', o' + k, none⟩) hb').trans (HA.out k x hx)
     have u1 : (k : Int) < (A.length : Int) := by omega
     have u2 : (k : Int) < (B.length : Int) := by omega
     have u3 : (0 : Int) ≤ (k : Int) := by omega
     by_cases hxy : x = y
     ·have t2 := Pl.zw0 hxy
      have HR2 : Hid (R = Pl.za3 (A.drop (k + 1)) (B.drop (k + 1))) := HR.out.trans (HT.out k x y hx hy hxy)
      clear hx hy HR hxy
      go_wp2
      go_quiet (fail)
      go_wp2
      go_roundw
      case rel => exact ⟨k + 1, by omega, by go_num, Mem.below_drewN hbel _, HR2⟩
      case measure => simp [intOf]; omega
     ·have t2 := Pl.zr4 hxy
      have E : Hid (R = Op.bytesLess x.toList y.toList) := HR.out.trans (HF.out k x y hx hy hxy)
      clear hx hy HR hxy
      go_wp2
      go_quiet (fail)
      go_wp2
      go_quiet (fail)
      go_wp2
      go_ret
      exact ⟨za0 E.out.symm, Mem.below_drewN (Mem.below_drewN hbel _) _⟩
    ·obtain rfl : k = B.length := by omega
     have E : Hid (R = decide (A.length < B.length)) := HR.out.trans (HE.out _ (by omega))
     clear HR
     go_wp2
     go_ret
     exact ⟨za0 (by rw [E.out]), hbel⟩

set_option maxRecDepth 100000 in
theorem zw7 (p t : ByteArray) (w : World) (hp : p.size ≤ 1048576) (ht : t.size ≤ 1048576) :
  Calls Tryz.prog 124 #[.string p, .string t] w fun e w' => e = .returned (.bool (Pl.za2 p && Pl.za2 t && Pl.za3 (Pl.zb7 p) (Pl.zb7 t))) ∧ Below w.heap.size w w' := by
 have hn := hide (fun W => WUnder.both_any p t W hp ht)
 have hA := hide (Pl.zq p)
 have hB := hide (Pl.zq t)
 generalize (Pl.za2 p && Pl.za2 t) = r at hn ⊢
 generalize Pl.zb7 p = A at hn hA ⊢
 generalize Pl.zb7 t = B at hn hB ⊢
 cases r
 ·go_enter Tryz.func124, Tryz.ntmps124
  go_wp2_with fail
  refine (za hn _).mono ?_
  rintro e w1 ⟨v1, v2, m, rfl, -, -, -, -, hb⟩
  go_wp2
  go_ret
  exact ⟨rfl, hb⟩
 ·go_enter Tryz.func124, Tryz.ntmps124
  go_wp2_with fail
  refine (za hn _).mono ?_
  rintro e w1 ⟨v1, v2, m, rfl, h1, h2, h3, h4, hb⟩
  have i1 := hide (Mem.zo6 h2)
  have i2 := hide (Mem.zo6 h4)
  clear h2 h4 h3 hn
  go_wp2_with fail
  refine (ahead_any _ _ A B _ (by have := (za hA).2; omega) (by have := (za hB).2; omega) (za i1) (za i2)).mono ?_
  rintro e w2 ⟨rfl, hb2⟩
  have hb3 := hb.trans (hb2.mono hb.size)
  generalize hr : Pl.za3 A B = r2
  have HR := hide hr
  clear hr hb hb2
  go_wp2
  go_ret
  exact ⟨by rw [za HR]; rfl, hb3⟩
end WLess
end Go.Proofs.YtonffldjbmednaaGreatDoor

