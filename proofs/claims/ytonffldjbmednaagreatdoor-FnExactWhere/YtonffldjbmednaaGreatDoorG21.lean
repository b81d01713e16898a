/- Several texts of one claim in one file: WUnder, WFace, MemRes, WFaceB, WSpI11. -/
import Derived.Test.YtonffldjbmednaaGreatDoorG00
import Derived.Test.YtonffldjbmednaaGreatDoorG08
import Derived.Test.YtonffldjbmednaaGreatDoorProg
import Derived.WalkSpells
import Derived.Lib.OthersKept
import Derived.Laws.RangeAny
import Derived.Deep.QuietTactic
import Derived.BigQuiet
import Derived.Test.YtonffldjbmednaaGreatDoorG09
import Derived.Test.YtonffldjbmednaaGreatDoorG02
import Derived.Test.YtonffldjbmednaaGreatDoorG14
import Derived.Laws.AppendOwnNone
import Derived.Test.YtonffldjbmednaaGreatDoorG20
namespace Go.Proofs.YtonffldjbmednaaGreatDoor
open Go.RowKit
namespace WUnder
set_option maxRecDepth 100000 in
set_option maxHeartbeats 400000 in
theorem under_any (v u : Value) (A B : List ByteArray) (w : World) (hA : A.length ≤ 1000) (hB : B.length ≤ 1000) (hv : Mem.zk1 w v A) (hu : Mem.zk1 w u B) :
  Calls Tryz.prog 116 #[v, u] w fun e w' => e = .returned (.bool (Pl.underR A B)) ∧ w' = w := by
 obtain ⟨va, vc, rfl⟩ : ∃ a cap, v = .slice a A.length cap := by
  rcases hv with ⟨rfl, rfl⟩ | ⟨b, o, cap, rfl, _⟩ <;> exact ⟨_, _, rfl⟩
 obtain ⟨ua, uc, rfl⟩ : ∃ a cap, u = .slice a B.length cap := by
  rcases hu with ⟨rfl, rfl⟩ | ⟨b, o, cap, rfl, _⟩ <;> exact ⟨_, _, rfl⟩
 by_cases hlen : A.length < B.length
 ·have E := hide (Pl.underR_short hlen)
  have t1 : (A.length : Int) < (B.length : Int) := by omega
  go_enter Tryz.func116, Tryz.ntmps116
  go_wp2
  go_ret
  exact ⟨za0 (za E).symm, rfl⟩
 have t1 : ¬ (A.length : Int) < (B.length : Int) := by omega
 by_cases h0 : B = []
 ·subst h0
  have E : Hid (Pl.underR A [] = true) := (Pl.underR_iff A []).2 (fun j t h => by simp at h)
  go_enter Tryz.func116, Tryz.ntmps116
  go_wp2
  go_loop [14] (fun i => i = .int .i64 0) (fun _ => 0)
  case atStart => rfl
  case round =>
   subst hrel
   go_wp2
   go_ret
   exact ⟨za0 (za E).symm, rfl⟩
 rcases hu with ⟨_, rfl⟩ | ⟨b, o, cap, hv1, hb, hcb⟩
 ·exact absurd rfl h0
 rcases hv with ⟨_, rfl⟩ | ⟨b', o', cap', hv2, hb', hca⟩
 ·exact absurd (List.length_pos_iff.2 h0) (by simp at hlen; simp [hlen])
 cases hv1
 cases hv2
 have HA := hide hca
 have HB := hide hcb
 clear hca hcb
 have HT : Hid ((∀ (j : Nat) t, B[j]? = some t → A[j]? = some t) → Pl.underR A B = true) := fun h => (Pl.underR_iff A B).2 h
 have HF : Hid (∀ (j : Nat) a b, A[j]? = some a → B[j]? = some b → a ≠ b → Pl.underR A B = false) := fun j a b h1 h2 h3 => Pl.underR_not h1 h2 h3
 generalize Pl.underR A B = R at HT HF ⊢
 go_enter Tryz.func116, Tryz.ntmps116
 go_wp2
 go_loop [14] (fun i => ∃ k : Nat, k ≤ B.length ∧ i = .int .i64 (k : Int) ∧ Hid (∀ (j : Nat) t, j < k → B[j]? = some t → A[j]? = some t)) (fun i => B.length - (intOf i).toNat)
 case atStart => exact ⟨0, Nat.zero_le _, rfl, fun j t h => absurd h (by omega)⟩
 case round =>
  obtain ⟨k, hk, rfl, HS⟩ := hrel
  by_cases hlt : k < B.length
  ·obtain ⟨y, hy⟩ : ∃ y, B[k]? = some y := ⟨_, List.getElem?_eq_getElem hlt⟩
   obtain ⟨x, hx⟩ : ∃ x, A[k]? = some x := ⟨_, List.getElem?_eq_getElem (by omega)⟩
   have hc1 := HB.out k y hy
   have hc2 := HA.out k x hx
   have hkA : k < A.length := by omega
   by_cases hxy : x = y
   ·have t2 := Pl.zr9 hxy
    have HS2 : Hid (∀ (j : Nat) t, j < k + 1 → B[j]? = some t → A[j]? = some t) := fun j t' hj h' => by
     rcases Nat.lt_succ_iff_lt_or_eq.1 hj with h'' | rfl
     ·exact HS.out j t' h'' h'
     ·rw [hy] at h'; cases h'; rw [hx, hxy]
    clear hx hy HS hxy
    go_wp2
    go_round
    case rel => exact ⟨k + 1, by omega, by go_num, HS2⟩
    case measure => simp [intOf]; omega
   ·have t2 := Pl.zo6 hxy
    have E := hide (HF.out k x y hx hy hxy)
    clear hx hy HS hxy
    go_wp2
    go_ret
    exact ⟨za0 (za E).symm, rfl⟩
  ·have E := hide (HT.out (fun j t h => HS.out j t (by have := (List.getElem?_eq_some_iff.1 h).1; omega) h))
   go_wp2
   go_ret
   exact ⟨za0 (za E).symm, rfl⟩
end WUnder
end Go.Proofs.YtonffldjbmednaaGreatDoor

namespace Go.Proofs.YtonffldjbmednaaGreatDoor
open Go.RowKit
namespace zq3
set_option maxRecDepth 100000 in
theorem under_any (p t : ByteArray) (w : World) (hp : p.size ≤ 1048576) (ht : t.size ≤ 1048576) :
  Calls Tryz.prog 81 #[.string p, .string t] w fun e w' => e = .returned (.bool (Pl.za1 p && Pl.za1 t && Pl.underR (Pl.zb1 p) (Pl.zb1 t))) ∧ Below w.heap.size w w' := by
 have hn := hide (fun W => WUnder.both_any p t W hp ht)
 have hA := hide (Pl.zn5 p)
 have hB := hide (Pl.zn5 t)
 generalize (Pl.za1 p && Pl.za1 t) = r at hn ⊢
 generalize Pl.zb1 p = A at hn hA ⊢
 generalize Pl.zb1 t = B at hn hB ⊢
 cases r
 ·go_enter Tryz.func81, Tryz.ntmps81
  go_wp2_with fail
  refine (za hn _).mono ?_
  rintro e w1 ⟨v1, v2, m, rfl, -, -, -, -, hb⟩
  go_wp2
  go_ret
  exact ⟨rfl, hb⟩
 ·go_enter Tryz.func81, Tryz.ntmps81
  go_wp2_with fail
  refine (za hn _).mono ?_
  rintro e w1 ⟨v1, v2, m, rfl, h1, h2, h3, h4, hb⟩
  have i1 := hide (Mem.zl6 h2)
  have i2 := hide (Mem.zl6 h4)
  clear h2 h4 h3 hn
  go_wp2_with fail
  refine (WUnder.under_any _ _ A B _ (by have := (za hA).2; omega) (by have := (za hB).2; omega) (za i1) (za i2)).mono ?_
  rintro e w2 ⟨rfl, hw⟩
  obtain rfl := hw.symm
  generalize hr : Pl.underR A B = r2
  have HR := hide hr
  clear hr
  go_wp2
  go_ret
  exact ⟨by rw [za HR]; rfl, hb⟩
end zq3
end Go.Proofs.YtonffldjbmednaaGreatDoor

namespace Go.Proofs.YtonffldjbmednaaGreatDoor
open Go.RowKit
namespace Mem
structure Res (w w' : World) : Prop where
 heap : w'.heap[w.heap.size]? = some (.cells #[.string ⟨#[]⟩, .int .i64 0, .int .i64 0] 157 (0, 0))
 bel : Below w.heap.size w w'
theorem Res.start (w : World) : Res w (w.alloc (.cells #[.string ⟨#[]⟩, .int .i64 0, .int .i64 0] 157)) := ⟨heap_alloc_new w _, (Below.refl _ _).alloc (Nat.le_refl _) _⟩
theorem Res.lt {w w' : World} (h : Res w w') : w.heap.size < w'.heap.size := (Array.getElem?_eq_some_iff.1 h.heap).1
theorem Res.below {w w1 w2 : World} {B : Nat} (h : Res w w1) (hb : Below B w1 w2) (hB : w.heap.size < B) : Res w w2 :=
 ⟨(hb.block _ hB).trans h.heap, h.bel.trans (hb.mono (Nat.le_of_lt hB))⟩
theorem Res.call {w w1 w2 : World} (h : Res w w1) (hb : Below w1.heap.size w1 w2) : Res w w2 := h.below hb h.lt
theorem Res.cells {w w' : World} (h : Res w w') : (w'.cell? ⟨w.heap.size, 0, none⟩ = some (.string ⟨#[]⟩) ∧ w'.cell? ⟨w.heap.size, 1, none⟩ = some (.int .i64 0) ∧ w'.cell? ⟨w.heap.size, 2, none⟩ = some (.int .i64 0)) ∧
  (w'.frozen? ⟨w.heap.size, 0, none⟩ = false ∧ w'.frozen? ⟨w.heap.size, 1, none⟩ = false ∧ w'.frozen? ⟨w.heap.size, 2, none⟩ = false) := by
 refine ⟨⟨?_, ?_, ?_⟩, ⟨za6 h.heap, za6 h.heap, za6 h.heap⟩⟩
 ·rw [cell_of_row w' _ 0 _ _ (0, 0) h.heap]; rfl
 ·rw [cell_of_row w' _ 1 _ _ (0, 0) h.heap]; rfl
 ·rw [cell_of_row w' _ 2 _ _ (0, 0) h.heap]; rfl
end Mem
end Go.Proofs.YtonffldjbmednaaGreatDoor

namespace Go.Proofs.YtonffldjbmednaaGreatDoor
open Go.RowKit
namespace zq3
set_option maxRecDepth 100000 in
set_option maxHeartbeats 1000000 in
theorem rest_any (p n : ByteArray) (w : World) (hp : p.size ≤ 1048576) (hq : n.size ≤ 1048576) :
  Calls Tryz.prog 107 #[.string p, .string n] w fun e w' => e = .returned (Pl.tOut (Pl.restO p n)) ∧ Below w.heap.size w w' := by
 by_cases h1 : 8000 < p.size ∨ 8000 < n.size
 ·have E : Hid (Pl.tOut (Pl.restO p n) = .agg #[.string ⟨#[]⟩, .int .i64 0, .int .i64 2]) := by show _ = _; rw [Pl.restO, if_pos h1]; rfl
  generalize Pl.tOut (Pl.restO p n) = R at E ⊢
  by_cases h2 : 8000 < p.size
  ·clear h1
   go_enter Tryz.func107, Tryz.ntmps107
   go_wp2
   refine bodyPost_ret (v := .agg #[.string ⟨#[]⟩, .int .i64 0, .int .i64 2]) (by simp [results, Tryz.results107, go_sem]) rfl ⟨by rw [E.out], ?_⟩
   exact (Below.refl _ _).alloc (Nat.le_refl _) _
  ·have h3 : 8000 < n.size := by omega
   clear h1
   go_enter Tryz.func107, Tryz.ntmps107
   go_wp2
   refine bodyPost_ret (v := .agg #[.string ⟨#[]⟩, .int .i64 0, .int .i64 2]) (by simp [results, Tryz.results107, go_sem]) rfl ⟨by rw [E.out], ?_⟩
   exact (Below.refl _ _).alloc (Nat.le_refl _) _
 have h2 : ¬ 8000 < p.size := fun h => h1 (.inl h)
 have h3 : ¬ 8000 < n.size := fun h => h1 (.inr h)
 have hn := hide (fun W => WUnder.both_any p n W hp hq)
 have hA := hide (Pl.zn5 p)
 have hB := hide (Pl.zn5 n)
 have EB : Hid ((Pl.za1 p && Pl.za1 n) = false → Pl.tOut (Pl.restO p n) = .agg #[.string ⟨#[]⟩, .int .i64 0, .int .i64 1]) := fun h => by
  rw [Pl.restO, if_neg h1, if_pos (by rw [← Bool.and_eq_true, h]; simp)]; rfl
 have EN : Hid ((Pl.za1 p && Pl.za1 n) = true → Pl.underR (Pl.zb1 p) (Pl.zb1 n) = false → Pl.tOut (Pl.restO p n) = .agg #[.string ⟨#[]⟩, .int .i64 0, .int .i64 6]) := fun h hu => by
  rw [Pl.restO, if_neg h1, if_neg (by rw [← Bool.and_eq_true, h]; simp), if_pos hu]; rfl
 have EG : Hid ((Pl.za1 p && Pl.za1 n) = true → Pl.underR (Pl.zb1 p) (Pl.zb1 n) = true → Pl.tOut (Pl.restO p n) = .agg #[.string (Pl.glue ((Pl.zb1 p).drop (Pl.zb1 n).length)), .int .i64 0, .int .i64 0]) := fun h hu => by
  rw [Pl.restO, if_neg h1, if_neg (by rw [← Bool.and_eq_true, h]; simp), if_neg (by rw [hu]; simp)]; rfl
 generalize Pl.tOut (Pl.restO p n) = R at EB EN EG ⊢
 generalize (Pl.za1 p && Pl.za1 n) = r at hn EB EN EG
 generalize Pl.zb1 p = A at hn hA EN EG
 generalize Pl.zb1 n = B at hn hB EN EG
 clear h1
 cases r
 ·have E := hide (EB.out rfl)
  clear EB EN EG
  go_enter Tryz.func107, Tryz.ntmps107
  go_wp2_with fail
  refine (za hn _).mono ?_
  rintro e w1 ⟨v1, v2, m, rfl, -, -, -, -, hb⟩
  have hR := (Mem.Res.start w).call hb
  obtain ⟨⟨c0, c1, c2⟩, ⟨f0, f1, f2⟩⟩ := hR.cells
  have hB := hR.bel
  clear hb hR
  go_wp2
  refine bodyPost_ret (v := .agg #[.string ⟨#[]⟩, .int .i64 0, .int .i64 1]) (by simp [results, Tryz.results107, go_sem, c0, c1, c2]) rfl ⟨by rw [za E], ?_⟩
  exact ((hB.setCell (by simp) _).setCell (by simp) _).setCell (by simp) _
 have hlA := (za hA).2
 have hlB := (za hB).2
 have hun := hide (fun v u W (i : Mem.zk1 W v A) (j : Mem.zk1 W u B) => WUnder.under_any v u A B W (by omega) (by omega) i j)
 cases hu : Pl.underR A B
 ·have E := hide (EN.out rfl hu)
  have HU := hide hu
  clear EB EN EG hu
  go_enter Tryz.func107, Tryz.ntmps107
  go_wp2_with fail
  refine (za hn _).mono ?_
  rintro e w1 ⟨v1, v2, m, rfl, g1, g2, g3, g4, hb⟩
  have i1 := hide (Mem.zl6 g2)
  have i2 := hide (Mem.zl6 g4)
  have hR := (Mem.Res.start w).call hb
  obtain ⟨⟨c0, c1, c2⟩, ⟨f0, f1, f2⟩⟩ := hR.cells
  have hB := hR.bel
  clear hb hR g1 g2 g3 g4 hn
  go_wp2_with (go_at_call 116; refine (za hun _ _ _ (za i1) (za i2)).mono ?_; rw [za HU]; rintro e w' ⟨rfl, hw⟩; obtain rfl := hw.symm)
  refine bodyPost_ret (v := .agg #[.string ⟨#[]⟩, .int .i64 0, .int .i64 6]) (by simp [results, Tryz.results107, go_sem, c0, c1, c2]) rfl ⟨by rw [za E], ?_⟩
  exact ((hB.setCell (by simp) _).setCell (by simp) _).setCell (by simp) _
 ·have E := hide (EG.out rfl hu)
  have HU := hide hu
  have hBA := Pl.underR_length hu
  clear EB EN EG hu
  go_enter Tryz.func107, Tryz.ntmps107
  go_wp2_with fail
  refine (za hn _).mono ?_
  rintro e w1 ⟨v1, v2, m, rfl, g1, g2, g3, g4, hb⟩
  have i1 := hide (Mem.zl6 g2)
  have i2 := hide (Mem.zl6 g4)
  have hR := (Mem.Res.start w).call hb
  obtain ⟨ua, uc, rfl⟩ : ∃ a cap, v2 = .slice a B.length cap := by
   rcases Mem.zl6 g4 with ⟨rfl, rfl⟩ | ⟨b, o, cap, rfl, _⟩ <;> exact ⟨_, _, rfl⟩
  have HG : Hid ((Pl.glue (A.drop B.length)).size ≤ 1000000) := Pl.glue_small (Pl.all_drop (za hA).1 _) (by simp; omega)
  have T1 : (B.length : Int) ≤ (A.length : Int) := by omega
  rcases Mem.texts g2 with ⟨rfl, rfl⟩ | ⟨g, cap, rfl, hcap, hm, hgb, hgl, hcell⟩
  ·obtain rfl : B = [] := List.eq_nil_of_length_eq_zero (by simp at hBA; simp [hBA])
   clear hb g1 g2 g3 g4 hn
   go_wp2_with (go_at_call 116; refine (za hun _ _ _ (za i1) (za i2)).mono ?_; rw [za HU]; rintro e w' ⟨rfl, hw⟩; obtain rfl := hw.symm)
   refine (WPathOf.any _ [] _ (by simp) (by decide) (.inl ⟨rfl, rfl⟩)).mono ?_
   rintro e w3 ⟨rfl, hb3⟩
   have hR3 := hR.call hb3
   obtain ⟨⟨c0, c1, c2⟩, ⟨f0, f1, f2⟩⟩ := hR3.cells
   have hB := hR3.bel
   clear hb3 hR hR3
   go_wp2
   refine bodyPost_ret (v := .agg #[.string (Pl.glue []), .int .i64 0, .int .i64 0]) (by simp [results, Tryz.results107, go_sem, c0, c1, c2]) rfl ⟨by rw [za E]; rfl, ?_⟩
   exact ((hB.setCell (by simp) _).setCell (by simp) _).setCell (by simp) _
  ·have HC := hide hcell
   have hm2 := hm
   unfold maxLen at hm2
   clear hcell hb g1 g2 g3 g4 hn
   by_cases hcB : cap = B.length
   ·have HD : Hid (A.drop B.length = []) := List.drop_of_length_le (by omega)
    subst hcB
    go_wp2_with (go_at_call 116; refine (za hun _ _ _ (za i1) (za i2)).mono ?_; rw [za HU]; rintro e w' ⟨rfl, hw⟩; obtain rfl := hw.symm)
    refine (WPathOf.any _ (A.drop B.length) _ (by simp; omega) HG.out (.inr ⟨g, 0, 0, by rw [HD.out]; rfl, hgl, fun j t h => by rw [HD.out] at h; simp at h⟩)).mono ?_
    rintro e w3 ⟨rfl, hb3⟩
    have hR3 := hR.call hb3
    obtain ⟨⟨c0, c1, c2⟩, ⟨f0, f1, f2⟩⟩ := hR3.cells
    have hB := hR3.bel
    clear hb3 hR hR3
    generalize Pl.glue (A.drop B.length) = body at E ⊢
    go_wp2
    refine bodyPost_ret (v := .agg #[.string body, .int .i64 0, .int .i64 0]) (by simp [results, Tryz.results107, go_sem, c0, c1, c2]) rfl ⟨by rw [za E], ?_⟩
    exact ((hB.setCell (by simp) _).setCell (by simp) _).setCell (by simp) _
   ·go_wp2_with (go_at_call 116; refine (za hun _ _ _ (za i1) (za i2)).mono ?_; rw [za HU]; rintro e w' ⟨rfl, hw⟩; obtain rfl := hw.symm)
    refine (WPathOf.any _ (A.drop B.length) _ (by simp; omega) HG.out (Mem.drop_texts hgl (za HC) _)).mono ?_
    rintro e w3 ⟨rfl, hb3⟩
    have hR3 := hR.call hb3
    obtain ⟨⟨c0, c1, c2⟩, ⟨f0, f1, f2⟩⟩ := hR3.cells
    have hB := hR3.bel
    clear hb3 hR hR3
    generalize Pl.glue (A.drop B.length) = body at E ⊢
    go_wp2
    refine bodyPost_ret (v := .agg #[.string body, .int .i64 0, .int .i64 0]) (by simp [results, Tryz.results107, go_sem, c0, c1, c2]) rfl ⟨by rw [za E], ?_⟩
    exact ((hB.setCell (by simp) _).setCell (by simp) _).setCell (by simp) _
end zq3
end Go.Proofs.YtonffldjbmednaaGreatDoor

namespace Go.Proofs.YtonffldjbmednaaGreatDoor
open Go.RowKit
namespace WSpI
def spot (m : Pl.Mn) (r : ByteArray) : Array Value := #[.string m.p, .int .i64 m.i, .bool m.z, .string r]
set_option linter.unusedSimpArgs false in
set_option maxRecDepth 100000 in
set_option maxHeartbeats 4000000 in
theorem lead_any (q : Option Nat) (M : List Pl.Mn) (sa ta : Option Addr) (sc tl tc : Nat) (next : Int) (p : ByteArray) (w : World) (hp : Pl.za1 p = true) (hm : ∀ m ∈ M, Pl.za1 m.p = true) (hM : M.length ≤ 1048576) (hv : Mem.zb4 w sa M) (m : Pl.Mn) (hlm : Pl.leadI (Pl.uR p) M M.length = m) (hmb : m.p.size ≤ 1048576) :
  Calls Tryz.prog 65 #[.agg #[.map q, .slice sa M.length sc, .slice ta tl tc, .int .i64 next], .string p] w fun e w' => e = .returned (.agg (spot m (Pl.restO p m.p).1)) ∧ Below w.heap.size w w' := by
 have q1 : ∀ {s : ByteArray}, Pl.za1 s = true → s.size ≤ 200 := fun {s} hs => Nat.le_of_not_lt fun h => by rw [Pl.zq5 h] at hs; cases hs
 have HUN := hide (fun W (t : Pl.Mn) (ht : t ∈ M) => by
  have := zq3.under_any p t.p W (by have := q1 hp; omega) (by have := q1 (hm t ht); omega)
  rw [Pl.uR_in hp (hm t ht)] at this
  exact this)
 have HRS := hide (fun W => zq3.rest_any p m.p W (by have := q1 hp; omega) hmb)
 have HV := hide hv
 have HLM := hide hlm
 clear hv hp hlm hmb hm q1
 generalize Pl.restO p m.p = RT at HRS ⊢
 obtain ⟨RT, rc⟩ := RT
 unfold spot
 unfold Pl.tOut at HRS
 simp only at HRS ⊢
 have b0 : Below w.heap.size w (((w.alloc (.cells #[.map q, .slice sa M.length sc, .slice ta tl tc, .int .i64 next] 59)).alloc (.cells #[.string ⟨#[]⟩, .int .i64 0, .bool false, .string ⟨#[]⟩] 61)).alloc (.cells #[.string ⟨#[]⟩, .int .i64 0, .bool false, .string ⟨#[]⟩] 61)) := (((Below.refl _ _).alloc (Nat.le_refl _) _).alloc (by simp) _).alloc (by simp; omega) _
 have V0 := hide (((Mem.Blk.new w #[.map q, .slice sa M.length sc, .slice ta tl tc, .int .i64 next] 59).alloc (.cells #[.string ⟨#[]⟩, .int .i64 0, .bool false, .string ⟨#[]⟩] 61)).alloc (.cells #[.string ⟨#[]⟩, .int .i64 0, .bool false, .string ⟨#[]⟩] 61))
 have U0 := hide ((Mem.Blk.new (w.alloc (.cells #[.map q, .slice sa M.length sc, .slice ta tl tc, .int .i64 next] 59)) #[.string ⟨#[]⟩, .int .i64 0, .bool false, .string ⟨#[]⟩] 61).alloc (.cells #[.string ⟨#[]⟩, .int .i64 0, .bool false, .string ⟨#[]⟩] 61))
 have Y0 := hide (Mem.Blk.new ((w.alloc (.cells #[.map q, .slice sa M.length sc, .slice ta tl tc, .int .i64 next] 59)).alloc (.cells #[.string ⟨#[]⟩, .int .i64 0, .bool false, .string ⟨#[]⟩] 61)) #[.string ⟨#[]⟩, .int .i64 0, .bool false, .string ⟨#[]⟩] 61)
 have n1 : (w.alloc (.cells #[.map q, .slice sa M.length sc, .slice ta tl tc, .int .i64 next] 59)).heap.size = w.heap.size + 1 := by simp
 have n2 : ((w.alloc (.cells #[.map q, .slice sa M.length sc, .slice ta tl tc, .int .i64 next] 59)).alloc (.cells #[.string ⟨#[]⟩, .int .i64 0, .bool false, .string ⟨#[]⟩] 61)).heap.size = w.heap.size + 2 := by simp
 rw [n1] at U0
 rw [n2] at Y0
 clear n1 n2
 go_enter Tryz.func65, Tryz.ntmps65
 go_wp2
 go_loopw [11] (fun i wr => ∃ k : Nat, k ≤ M.length ∧ i = .int .i64 (k : Int) ∧ Below w.heap.size w wr ∧ Hid (Mem.Blk wr w.heap.size #[.map q, .slice sa M.length sc, .slice ta tl tc, .int .i64 next] 59) ∧ Hid (Mem.Blk wr (w.heap.size + 1) #[.string ⟨#[]⟩, .int .i64 0, .bool false, .string ⟨#[]⟩] 61) ∧ Hid (Mem.Blk wr (w.heap.size + 2) #[.string (Pl.leadI (Pl.uR p) M k).p, .int .i64 (Pl.leadI (Pl.uR p) M k).i, .bool (Pl.leadI (Pl.uR p) M k).z, .string ⟨#[]⟩] 61)) (fun i _ => M.length - (intOf i).toNat)
 case atStart => exact ⟨0, Nat.zero_le _, rfl, b0, V0, U0, Y0⟩
 case round =>
  obtain ⟨k, hk, rfl, hbel, V2, U2, Y2⟩ := hrel
  clear b0 V0 U0 Y0
  by_cases hlt : k < M.length
  ·obtain ⟨t, ht⟩ : ∃ n, M[k]? = some n := ⟨_, List.getElem?_eq_getElem hlt⟩
   obtain ⟨g, o, rfl, hg, q0, q1, q2⟩ := (za HV) k t ht
   have c0 := (hbel.cell (p := ⟨g, _, none⟩) hg).trans q0
   have c1 := (hbel.cell (p := ⟨g, _, none⟩) hg).trans q1
   have c2 := (hbel.cell (p := ⟨g, _, none⟩) hg).trans q2
   have u1 : (k : Int) < (M.length : Int) := by omega
   have u3 : (0 : Int) ≤ (k : Int) := by omega
   have HC := hide (fun W => za HUN W t (List.mem_of_getElem? ht))
   have L1 := hide (fun h => Pl.leadI_no (u := Pl.uR p) ht h)
   have L2 := hide (fun h => Pl.leadI_yes (u := Pl.uR p) ht h)
   generalize hq : Pl.leadI (Pl.uR p) M k = q at Y2 L1
   generalize Pl.uR p t = b at HC L1 L2
   have b2 : Below wr.heap.size wr (wr.alloc (.cells #[.string t.p, .int .i64 t.i, .bool t.z] 50)) := (Below.refl _ _).alloc (Nat.le_refl _) _
   have hbel2 := hbel.trans (b2.mono hbel.size)
   have X2 := hide (Mem.Blk.new wr #[.string t.p, .int .i64 t.i, .bool t.z] 50)
   have V3 := hide ((za V2).call b2)
   have U3 := hide ((za U2).call b2)
   have Y3 := hide ((za Y2).call b2)
   have hX : w.heap.size + 2 < wr.heap.size := (za Y2).lt
   have x0 := (za X2).cell 0
   have x1 := (za X2).cell 1
   have x2 := (za X2).cell 2
   simp only [kGs] at x0 x1 x2
   clear q0 q1 q2 hg ht hq V2 U2 Y2 b2 hbel
   go_wp2_with fail
   generalize wr.alloc (.cells #[.string t.p, .int .i64 t.i, .bool t.z] 50) = wZ at hbel2 X2 V3 U3 Y3 x0 x1 x2 ⊢
   refine (za HC _).mono ?_
   rintro e w3 ⟨rfl, bX⟩
   have hbel3 := hbel2.trans (bX.mono hbel2.size)
   have VV := hide ((za V3).call bX)
   have UU := hide ((za U3).call bX)
   have YY := hide ((za Y3).call bX)
   have XX := hide ((za X2).call bX)
   clear hbel2 V3 U3 Y3 X2 bX x0 x1 x2 c0 c1 c2 HC
   cases b
   ·have HL : Pl.leadI (Pl.uR p) M (k + 1) = q := za L1 rfl
    clear L1 L2
    go_wp2
    go_roundw
    case rel => exact ⟨k + 1, by omega, by go_num, hbel3, VV, UU, hide (by rw [HL]; exact za YY)⟩
    case measure => simp [intOf]; omega
   ·have HL : Pl.leadI (Pl.uR p) M (k + 1) = t := za L2 rfl
    clear L1 L2
    have x0 := (za XX).cell 0
    have x1 := (za XX).cell 1
    have x2 := (za XX).cell 2
    have y0 := (za YY).cell 0
    have f0 := (za YY).fr 0
    have y1 := (za YY).cell 1
    have f1 := (za YY).fr 1
    have y2 := (za YY).cell 2
    have f2 := (za YY).fr 2
    simp only [kGs] at x0 x1 x2 y0 y1 y2
    have B3 := hide (((hbel3.setCell (p := ⟨w.heap.size + 2, 0, none⟩) (by show w.heap.size ≤ w.heap.size + 2; omega) (.string t.p)).setCell (p := ⟨w.heap.size + 2, 1, none⟩) (by show w.heap.size ≤ w.heap.size + 2; omega) (.int .i64 t.i)).setCell (p := ⟨w.heap.size + 2, 2, none⟩) (by show w.heap.size ≤ w.heap.size + 2; omega) (.bool t.z))
    have V3 := hide ((((za VV).far ⟨w.heap.size + 2, 0, none⟩ (.string t.p) (by show w.heap.size ≠ w.heap.size + 2; omega)).far ⟨w.heap.size + 2, 1, none⟩ (.int .i64 t.i) (by show w.heap.size ≠ w.heap.size + 2; omega)).far ⟨w.heap.size + 2, 2, none⟩ (.bool t.z) (by show w.heap.size ≠ w.heap.size + 2; omega))
    have U3 := hide ((((za UU).far ⟨w.heap.size + 2, 0, none⟩ (.string t.p) (by show w.heap.size + 1 ≠ w.heap.size + 2; omega)).far ⟨w.heap.size + 2, 1, none⟩ (.int .i64 t.i) (by show w.heap.size + 1 ≠ w.heap.size + 2; omega)).far ⟨w.heap.size + 2, 2, none⟩ (.bool t.z) (by show w.heap.size + 1 ≠ w.heap.size + 2; omega))
    have Y3 := hide ((((za YY).put 0 (.string t.p)).put 1 (.int .i64 t.i)).put 2 (.bool t.z))
    clear VV UU YY hbel3
    go_wp2
    go_roundw
    case rel => exact ⟨k + 1, by omega, by go_num, za B3, V3, U3, hide (by rw [HL]; exact za Y3)⟩
    case measure => simp [intOf]; omega
  ·have u1 : ¬ (k : Int) < (M.length : Int) := by omega
   obtain rfl : k = M.length := by omega
   rw [za HLM] at Y2
   have y0 := (za Y2).cell 0
   simp only [kGs] at y0
   go_wp2_with fail
   refine (za HRS _).mono ?_
   rintro e w3 ⟨rfl, bX⟩
   have hbel3 := hbel.trans (bX.mono hbel.size)
   have UU := hide ((za U2).call bX)
   have YY := hide ((za Y2).call bX)
   clear V2 U2 Y2 bX hbel y0 HRS HUN HV HLM
   have y0 := (za YY).cell 0
   have y1 := (za YY).cell 1
   have y2 := (za YY).cell 2
   have y3 := (za YY).cell 3
   have f3 := (za YY).fr 3
   have z0 := (za UU).cell 0
   have z1 := (za UU).cell 1
   have z2 := (za UU).cell 2
   have z3 := (za UU).cell 3
   have g0 := (za UU).fr 0
   have g1 := (za UU).fr 1
   have g2 := (za UU).fr 2
   have g3 := (za UU).fr 3
   simp only [kGs] at y0 y1 y2 y3 z0 z1 z2 z3
   have B4 := (((((hbel3.setCell (p := ⟨w.heap.size + 2, 3, none⟩) (by show w.heap.size ≤ w.heap.size + 2; omega) (.string RT)).setCell (p := ⟨w.heap.size + 1, 0, none⟩) (by show w.heap.size ≤ w.heap.size + 1; omega) (.string m.p)).setCell (p := ⟨w.heap.size + 1, 1, none⟩) (by show w.heap.size ≤ w.heap.size + 1; omega) (.int .i64 m.i)).setCell (p := ⟨w.heap.size + 1, 2, none⟩) (by show w.heap.size ≤ w.heap.size + 1; omega) (.bool m.z)).setCell (p := ⟨w.heap.size + 1, 3, none⟩) (by show w.heap.size ≤ w.heap.size + 1; omega) (.string RT))
   go_wp2
   simp [Instr.field, asAgg, go_sem]
   go_wp2
   refine bodyPost_ret (v := .agg #[.string m.p, .int .i64 m.i, .bool m.z, .string RT]) (by simp [results, Tryz.results65, go_sem, z0, z1, z2, z3]) rfl ⟨rfl, B4⟩
end WSpI
end Go.Proofs.YtonffldjbmednaaGreatDoor

