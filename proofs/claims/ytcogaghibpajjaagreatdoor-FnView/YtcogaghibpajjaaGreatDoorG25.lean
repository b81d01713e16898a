/- Several texts of one claim in one file: WLevelUp, WOvK, WDecide. -/
import Derived.Test.YtcogaghibpajjaaGreatDoorG01
import Derived.Test.YtcogaghibpajjaaGreatDoorG07
import Derived.Test.YtcogaghibpajjaaGreatDoorG02
import Derived.Test.YtcogaghibpajjaaGreatDoorProg
import Derived.Maps.OwnSet
import Derived.WalkSpells
import Derived.Lib.OthersKept
import Derived.Laws.RangeAny
import Derived.Deep.Draws
import Derived.Deep.QuietTactic
import Derived.BigQuiet
import Derived.Deep.RegionHeld3
import Derived.Test.YtcogaghibpajjaaGreatDoorG24
import Derived.Test.YtcogaghibpajjaaGreatDoorG19
namespace Go.Proofs.YtcogaghibpajjaaGreatDoor
open Go.RowKit Go.Maps
namespace zh9
set_option linter.unusedSimpArgs false in
set_option maxRecDepth 100000 in
set_option maxHeartbeats 2000000 in
theorem up_any (s : Pl.Sg) (w : World) (hh : s.have'.length = 4) (hm : 0 ≤ s.node.mark ∧ s.node.mark ≤ 1000) :
  Calls Tryz.prog 124 #[.agg s.cs.toArray] w fun e w' => e = .returned (.agg (Pl.upS s).cs.toArray) ∧ Below w.heap.size w w' := by
 obtain ⟨told, ⟨sp, sk, sd, st, sm⟩, hv⟩ := s
 obtain ⟨h0, h1, h2, h3, rfl⟩ : ∃ h0 h1 h2 h3, hv = [h0, h1, h2, h3] := by
  match hv, hh with
  | [a, b, c, d], _ => exact ⟨a, b, c, d, rfl⟩
 simp only at hm
 have hw : IntKind.i64.wrap (sm - 1) = sm - 1 := by simp only [IntKind.wrap_i64]; omega
 generalize hU : Pl.upS ⟨told, ⟨sp, sk, sd, st, sm⟩, [h0, h1, h2, h3]⟩ = U
 simp only [Pl.upS] at hU
 rw [show (Pl.Sg.cs ⟨told, ⟨sp, sk, sd, st, sm⟩, [h0, h1, h2, h3]⟩).toArray = #[.bool told, .string sp, .int .i64 sk, .string sd, .int .i64 st, .int .i64 sm, .bool h0, .bool h1, .bool h2, .bool h3] from rfl]
 by_cases h5 : sm - 1 < 0
 ·have hM : max (sm - 1) 0 = 0 := by omega
  rw [hM] at hU
  by_cases hk : sk = 0
  ·subst hk
   rw [if_pos ⟨rfl, rfl⟩] at hU
   have EU := hide hU.symm
   clear hU
   go_enter Tryz.func124, Tryz.ntmps124
   go_wp2
   refine bodyPost_ret (v := .agg #[.bool false, .string ⟨#[]⟩, .int .i64 0, .string ⟨#[]⟩, .int .i64 0, .int .i64 0, .bool false, .bool false, .bool false, .bool false]) (by simp [results, Tryz.results124, go_sem]) rfl ⟨by rw [za EU]; rfl, ?_⟩
   repeat first | exact Below.refl _ _ | refine Below.setCell ?_ (by simp) _ | refine Below.alloc ?_ (by simp) _
  ·have t1 : (sk == 0) = false := by simpa using hk
   rw [if_neg (fun h => hk h.1)] at hU
   have EU := hide hU.symm
   clear hU
   go_enter Tryz.func124, Tryz.ntmps124
   go_wp2
   refine bodyPost_ret (v := .agg #[.bool told, .string sp, .int .i64 sk, .string sd, .int .i64 st, .int .i64 (0), .bool h0, .bool h1, .bool h2, .bool h3]) (by simp [results, Tryz.results124, go_sem]) rfl ⟨by rw [za EU]; rfl, ?_⟩
   repeat first | exact Below.refl _ _ | refine Below.setCell ?_ (by simp) _ | refine Below.alloc ?_ (by simp) _
 ·have hM : max (sm - 1) 0 = sm - 1 := by omega
  rw [hM] at hU
  by_cases hk : sk = 0
  ·subst hk
   by_cases h6 : sm = 1
   ·subst h6
    rw [if_pos ⟨rfl, by omega⟩] at hU
    have EU := hide hU.symm
    clear hU
    go_enter Tryz.func124, Tryz.ntmps124
    go_wp2
    refine bodyPost_ret (v := .agg #[.bool false, .string ⟨#[]⟩, .int .i64 0, .string ⟨#[]⟩, .int .i64 0, .int .i64 0, .bool false, .bool false, .bool false, .bool false]) (by simp [results, Tryz.results124, go_sem]) rfl ⟨by rw [za EU]; rfl, ?_⟩
    repeat first | exact Below.refl _ _ | refine Below.setCell ?_ (by simp) _ | refine Below.alloc ?_ (by simp) _
   ·have t2 : (sm - 1 == 0) = false := by simp; omega
    rw [if_neg (fun h => by omega)] at hU
    have EU := hide hU.symm
    clear hU
    go_enter Tryz.func124, Tryz.ntmps124
    go_wp2
    refine bodyPost_ret (v := .agg #[.bool told, .string sp, .int .i64 0, .string sd, .int .i64 st, .int .i64 (sm - 1), .bool h0, .bool h1, .bool h2, .bool h3]) (by simp [results, Tryz.results124, go_sem]) rfl ⟨by rw [za EU]; rfl, ?_⟩
    repeat first | exact Below.refl _ _ | refine Below.setCell ?_ (by simp) _ | refine Below.alloc ?_ (by simp) _
  ·have t1 : (sk == 0) = false := by simpa using hk
   rw [if_neg (fun h => hk h.1)] at hU
   have EU := hide hU.symm
   clear hU
   go_enter Tryz.func124, Tryz.ntmps124
   go_wp2
   refine bodyPost_ret (v := .agg #[.bool told, .string sp, .int .i64 sk, .string sd, .int .i64 st, .int .i64 (sm - 1), .bool h0, .bool h1, .bool h2, .bool h3]) (by simp [results, Tryz.results124, go_sem]) rfl ⟨by rw [za EU]; rfl, ?_⟩
   repeat first | exact Below.refl _ _ | refine Below.setCell ?_ (by simp) _ | refine Below.alloc ?_ (by simp) _
end zh9
end Go.Proofs.YtcogaghibpajjaaGreatDoor

namespace Go.Proofs.YtcogaghibpajjaaGreatDoor
open Go.RowKit Go.Maps
namespace Pl
end Pl
namespace zf7
def layV (b : Nat) : Value := .iface 41 (.map (some b))
theorem zi6 {w w' : World} {B n : Nat} {T : TypeId} {v : Value} {xs : List Value} (h : w.ownsRow B T 1 v n xs) (b : Below w.heap.size w w') : w'.ownsRow B T 1 v n xs := by
 refine ⟨h.1, ?_⟩
 rcases h.2 with h0 | ⟨g, cap, cur, hv, hb, hg, rest⟩
 ·exact .inl h0
 ·exact .inr ⟨g, cap, cur, hv, hb, (b.block g (Array.getElem?_eq_some_iff.1 hg).1).trans hg, rest⟩
structure Ov (w : World) (B : Nat) (v : Value) (Bs : List Nat) (Ls : List (List Pl.Nd)) : Prop where
 row : w.ownsRow B 128 1 v Bs.length (Bs.map layV)
 len : Bs.length = Ls.length
 maps : ∀ (j : Nat) b L, Bs[j]? = some b → Ls[j]? = some L → B ≤ b ∧ w.ownsMap Tryz.prog 9 MapN.elem b 40 (MapN.mapOf L)
theorem Ov.call {w w' : World} {B : Nat} {v : Value} {Bs : List Nat} {Ls : List (List Pl.Nd)} (h : Ov w B v Bs Ls) (b : Below w.heap.size w w') : Ov w' B v Bs Ls :=
 ⟨zi6 h.row b, h.len, fun j c L h1 h2 => ⟨(h.maps j c L h1 h2).1, zg.zj9 (h.maps j c L h1 h2).2 b⟩⟩
theorem map_not {w : World} {B b n m : Nat} {T : TypeId} {v : Value} {xs : List Value} {D : DataW Unit} (h : w.ownsRow B T 1 v n xs) (hm : w.ownsMap Tryz.prog 9 MapN.elem b m D) : some b ≠ v.ownBlock := fun e => by
 obtain ⟨es, clock, h1, _⟩ := hm
 rcases h.2 with ⟨rfl, _⟩ | ⟨g, cap, cur, rfl, _, hg, _⟩
 ·cases e
 ·cases e
  rw [hg] at h1
  cases h1
theorem Ov.put {w w' : World} {B b : Nat} {v v' : Value} {Bs : List Nat} {Ls : List (List Pl.Nd)} {L : List Pl.Nd} (h : Ov w B v Bs Ls) (hm : w.ownsMap Tryz.prog 9 MapN.elem b 40 (MapN.mapOf L)) (hb : B ≤ b)
  (hr : w'.ownsRow B 128 1 v' (Bs.length + 1) (Bs.map layV ++ [layV b])) (hg : w.grownBy w' v.ownBlock) : Ov w' B v' (Bs ++ [b]) (Ls ++ [L]) := by
 refine ⟨by simpa using hr, by simp [h.len], fun j c M h1 h2 => ?_⟩
 by_cases e : j < Bs.length
 ·rw [List.getElem?_append_left e] at h1
  rw [List.getElem?_append_left (by rw [← h.len]; exact e)] at h2
  obtain ⟨h3, h4⟩ := h.maps j c M h1 h2
  exact ⟨h3, h4.kept hg (map_not h.row h4)⟩
 ·rw [List.getElem?_append_right (by omega)] at h1
  rw [List.getElem?_append_right (by rw [← h.len]; omega)] at h2
  have e0 : j - Bs.length = 0 := by
   have := (List.getElem?_eq_some_iff.1 h1).1
   simp at this; omega
  rw [e0] at h1
  rw [← h.len, e0] at h2
  simp at h1 h2
  subst h1 h2
  exact ⟨hb, hm.kept hg (map_not h.row hm)⟩
theorem infoL : (Tryz.prog.info? 128).map (fun i => (i.zero, i.size, i.bytes)) = some (some .nilIface, 1, 16) := by kernel_rfl
end zf7
end Go.Proofs.YtcogaghibpajjaaGreatDoor

namespace Go.Proofs.YtcogaghibpajjaaGreatDoor
open Go.RowKit Go.Maps
namespace zh9
theorem zp7 {w : World} {B : Nat} {v : Value} {Bs : List Nat} {Ls : List (List Pl.Nd)} (h : zf7.Ov w B v Bs Ls) : ∃ a cap, v = .slice a Ls.length cap := by
 rw [← h.len]
 rcases h.row.2 with ⟨rfl, h0⟩ | ⟨g, cap, cur, rfl, _⟩
 ·exact ⟨none, 0, by rw [h0]⟩
 ·exact ⟨_, _, rfl⟩
theorem ov_cell {w : World} {B cap n : Nat} {a : Option Addr} {Bs : List Nat} {Ls : List (List Pl.Nd)} (h : zf7.Ov w B (.slice a n cap) Bs Ls) {k b : Nat} (hk : Bs[k]? = some b) : ∃ g, a = some ⟨g, 0, none⟩ ∧ w.cell? ⟨g, k, none⟩ = some (.iface 41 (.map (some b))) := by
 have hlt := (List.getElem?_eq_some_iff.1 hk).1
 rcases h.row.2 with ⟨hx, h0⟩ | ⟨g, cap', cur, hv, hb, hg, hc, hm, hsz, ht⟩
 ·omega
 ·injection hv with e1 e2 e3
  refine ⟨g, e1, ?_⟩
  rw [cell_of_row w g k cur _ (0, 0) hg, ← Array.getElem?_toList, ← List.getElem?_take_of_lt (show k < Bs.length * 1 by omega), ht, List.getElem?_map, hk]
  rfl
theorem tree_all {L : List Pl.Nd} (h : Pl.za2 L = true) : ∀ n ∈ L, Pl.zb n = true := by
 simp only [Pl.za2, Bool.and_eq_true, decide_eq_true_eq] at h
 exact Pl.zo8 L _ _ h.2
structure At (w wr : World) (a0 a1 a2 a3 : Bool) (ns : List (Option Pl.Nd)) (k : Nat) (s : Pl.Sg) : Prop where
 bel : Below w.heap.size w wr
 box : Mem.Blk wr w.heap.size #[.bool a0, .bool a1, .bool a2, .bool a3] 174
 res : Mem.Blk wr (w.heap.size + 1) Pl.Sg.zero.cs.toArray 176
 seen : Mem.Blk wr (w.heap.size + 1 + 1) s.cs.toArray 176
 len : s.have'.length = 4
 mark : 0 ≤ s.node.mark ∧ s.node.mark ≤ 8
 go : Pl.goD k s (ns.drop k) = Pl.goD 0 Pl.Sg.zero ns
structure EndAt (w wr : World) (s : Pl.Sg) : Prop where
 bel : Below w.heap.size w wr
 res : Mem.Blk wr (w.heap.size + 1) Pl.Sg.zero.cs.toArray 176
 seen : Mem.Blk wr (w.heap.size + 1 + 1) s.cs.toArray 176
 mark : 0 ≤ s.node.mark ∧ s.node.mark ≤ 8
theorem At.call {w wr wr' : World} {a0 a1 a2 a3 : Bool} {ns : List (Option Pl.Nd)} {k : Nat} {s : Pl.Sg} (h : At w wr a0 a1 a2 a3 ns k s) (b : Below wr.heap.size wr wr') : At w wr' a0 a1 a2 a3 ns k s :=
 ⟨h.bel.trans (b.mono h.bel.size), h.box.call b, h.res.call b, h.seen.call b, h.len, h.mark, h.go⟩
set_option linter.unusedSimpArgs false in
set_option maxRecDepth 100000 in
set_option maxHeartbeats 4000000 in
theorem dec_any (q : Addr) (p : ByteArray) (a0 a1 a2 a3 : Bool) (B : Nat) (v : Value) (Bs : List Nat) (Ls : List (List Pl.Nd)) (w : World) (hq : w.cell? q = some v) (hql : q.block < w.heap.size) (hov : zf7.Ov w B v Bs Ls) (h4 : Ls.length ≤ 4) (htr : ∀ L ∈ Ls, Pl.za2 L = true) (hp : p.size ≤ 1048576) :
  Calls Tryz.prog 122 #[.string p, .agg #[.bool a0, .bool a1, .bool a2, .bool a3], .pointer (some q)] w fun e w' => e = .returned (.agg (Pl.decS (Pl.nsOf [a0, a1, a2, a3] Ls p)).cs.toArray) ∧ Below w.heap.size w w' := by
 obtain ⟨a, cap, rfl⟩ := zp7 hov
 have HLE := hide hov.len
 have HOV := hide hov
 have HTR := hide htr
 have HQ : Hid (∀ wr, Below w.heap.size w wr → wr.cell? q = some (.slice a Ls.length cap)) := fun wr b => (b.cell hql).trans hq
 have HNG := hide (fun k a L => Pl.ns_get p [a0, a1, a2, a3] Ls k a L)
 have HNL := hide (Pl.ns_len p [a0, a1, a2, a3] Ls (by simpa using h4))
 have ED : Hid (Pl.decS (Pl.nsOf [a0, a1, a2, a3] Ls p) = Pl.upS (Pl.goD 0 Pl.Sg.zero (Pl.nsOf [a0, a1, a2, a3] Ls p))) := rfl
 generalize Pl.nsOf [a0, a1, a2, a3] Ls p = ns at HNG HNL ED ⊢
 generalize Pl.decS ns = R at ED ⊢
 have hm : ∀ (b : Nat) (w : World), (method 128 41 (.map (some b)) "loop.example/g00449/impl.at").run Tryz.prog w = .ok (142, .map (some b)) w := fun _ _ => by kernel_rfl
 clear hov htr hq
 have b0 : Below w.heap.size w (((w.alloc (.cells #[.bool a0, .bool a1, .bool a2, .bool a3] 174)).alloc (.cells Pl.Sg.zero.cs.toArray 176)).alloc (.cells Pl.Sg.zero.cs.toArray 176)) := (((Below.refl _ _).alloc (Nat.le_refl _) _).alloc (by simp) _).alloc (by simp; omega) _
 have A0 : Hid (At w (((w.alloc (.cells #[.bool a0, .bool a1, .bool a2, .bool a3] 174)).alloc (.cells Pl.Sg.zero.cs.toArray 176)).alloc (.cells Pl.Sg.zero.cs.toArray 176)) a0 a1 a2 a3 ns 0 Pl.Sg.zero) := by
  refine ⟨b0, ((Mem.Blk.new _ _ _).alloc _).alloc _, Mem.Blk.alloc (Mem.zg9 _ _ _) _, ?_, rfl, by decide, rfl⟩
  have h := Mem.zg9 (w.alloc (.cells #[.bool a0, .bool a1, .bool a2, .bool a3] 174)) (.cells Pl.Sg.zero.cs.toArray 176) (.cells Pl.Sg.zero.cs.toArray 176)
  rw [show (w.alloc (.cells #[.bool a0, .bool a1, .bool a2, .bool a3] 174)).heap.size = w.heap.size + 1 by simp] at h
  exact h
 have q0 := za HQ _ b0
 have hR : w.heap.size ≤ w.heap.size + 1 := by omega
 simp only [Pl.Sg.zero, Pl.za8, Pl.Sg.cs, List.map_cons, List.map_nil, List.cons_append, List.nil_append] at A0 q0
 go_enter Tryz.func122, Tryz.ntmps122
 go_wp2
 go_loopw [12] (fun i wr => ∃ k : Nat, k ≤ Ls.length ∧ i = .int .i64 (k : Int) ∧ Hid (∃ s, At w wr a0 a1 a2 a3 ns k s)) (fun i _ => Ls.length - (intOf i).toNat)
 case atStart => exact ⟨0, Nat.zero_le _, rfl, ⟨_, za A0⟩⟩
 case round =>
  obtain ⟨k, hk, rfl, HA⟩ := hrel
  obtain ⟨s, A⟩ := za HA
  clear HA A0
  obtain ⟨tt, ⟨sp, sk, sd, st, sm⟩, sh⟩ := s
  obtain ⟨e0, e1, e2, e3, rfl⟩ : ∃ h0 h1 h2 h3, sh = [h0, h1, h2, h3] := by
   match sh, A.len with
   | [a, b, c, d], _ => exact ⟨a, b, c, d, rfl⟩
  by_cases hlt : k < Ls.length
  ·obtain ⟨L, hL⟩ : ∃ L, Ls[k]? = some L := ⟨_, List.getElem?_eq_getElem hlt⟩
   obtain ⟨b, hb⟩ : ∃ b, Bs[k]? = some b := ⟨_, List.getElem?_eq_getElem (by rw [za HLE]; exact hlt)⟩
   obtain ⟨x, hx⟩ : ∃ x, [a0, a1, a2, a3][k]? = some x := ⟨_, List.getElem?_eq_getElem (by simp; omega)⟩
   have hnk := za HNG k x L hx hL
   have y1 : (k : Int) < (Ls.length : Int) := by omega
   have hix : 0 ≤ (k : Int) ∧ (k : Int) < 4 := by omega
   have hix2 : 0 ≤ (k : Int) ∧ (k : Int) < (Ls.length : Int) := by omega
   have x0 : wr.cell? ⟨w.heap.size, k, none⟩ = some (.bool x) := by
    rw [A.box.cell k, List.getElem?_toArray]
    obtain rfl | rfl | rfl | rfl : k = 0 ∨ k = 1 ∨ k = 2 ∨ k = 3 := by omega
    all_goals (simp at hx; subst hx; rfl)
   cases x
   ·have hgs : Pl.goD k ⟨tt, ⟨sp, sk, sd, st, sm⟩, [e0, e1, e2, e3]⟩ (ns.drop k) = Pl.goD (k + 1) ⟨tt, ⟨sp, sk, sd, st, sm⟩, [e0, e1, e2, e3]⟩ (ns.drop (k + 1)) := Pl.go_step (x := none) hnk k _
    have A2 : Hid (∃ s, At w wr a0 a1 a2 a3 ns (k + 1) s) := ⟨_, A.bel, A.box, A.res, A.seen, A.len, A.mark, by rw [← A.go, hgs]⟩
    clear hnk hgs A hL hb hx
    go_wp2
    go_roundw
    case rel => exact ⟨k + 1, by omega, by go_num, A2⟩
    case measure => simp [intOf]; omega
   ·have q1 := za HQ wr A.bel
    have OV := (za HOV).call A.bel
    obtain ⟨g, rfl, o0⟩ := ov_cell OV hb
    obtain ⟨-, om⟩ := OV.maps k b L hb hL
    have hapL := Pl.zr3 (za HTR L (List.mem_of_getElem? hL))
    have hnodeL := za HTR L (List.mem_of_getElem? hL)
    simp only [if_true] at hnk
    cases hf : Pl.lk L p with
    | none =>
     have hmiss : ∀ n ∈ L, n.path ≠ p := fun n hn => by simpa using List.find?_eq_none.1 hf n hn
     have hat := hide (fun W (bb : Below wr.heap.size wr W) => at_some b 40 (MapN.mapOf L) p ⟨⟨#[]⟩, 0, ⟨#[]⟩, 0, 0⟩ W hp (zg.zj9 om bb) (Maps.atKey_of_not_has (MapN.has_no hmiss) _) false (MapN.has_no hmiss))
     rw [hf] at hnk
     have hgs : Pl.goD k ⟨tt, ⟨sp, sk, sd, st, sm⟩, [e0, e1, e2, e3]⟩ (ns.drop k) = Pl.goD (k + 1) ⟨tt, ⟨sp, sk, sd, st, sm⟩, [e0, e1, e2, e3]⟩ (ns.drop (k + 1)) := Pl.go_step hnk k _
     simp only [Pl.Nd.val] at hat
     have KA := hide A
     have EG := hide hgs
     clear hnk hgs A hL hb hx OV om hapL hnodeL hmiss
     go_wp2_with fail
     refine (za hat _ (Below.refl _ _)).mono ?_
     rintro e w1 ⟨rfl, b2⟩
     have A2 : Hid (∃ s, At w (w1.alloc (.cells #[.string ⟨#[]⟩, .int .i64 0, .string ⟨#[]⟩, .int .i64 0, .int .i64 0] 62)) a0 a1 a2 a3 ns (k + 1) s) := by
      have A3 := ((za KA).call b2).call ((Below.refl _ _).alloc (Nat.le_refl _) (.cells #[.string ⟨#[]⟩, .int .i64 0, .string ⟨#[]⟩, .int .i64 0, .int .i64 0] 62))
      exact ⟨_, A3.bel, A3.box, A3.res, A3.seen, A3.len, A3.mark, by rw [← A3.go, za EG]⟩
     clear KA EG b2 hat
     go_wp2
     go_roundw
     case rel => exact ⟨k + 1, by omega, by go_num, A2⟩
     case measure => simp [intOf]; omega
    | some m =>
     have hm1 := List.mem_of_find?_eq_some hf
     have hm2 : m.path = p := by simpa using List.find?_some hf
     obtain ⟨y2, y3⟩ := MapN.at_yes hapL hm1
     rw [hm2] at y2 y3
     have hmb := (Pl.zh0 (tree_all hnodeL m hm1)).2.2.1
     have hat := hide (fun W (bb : Below wr.heap.size wr W) => at_some b 40 (MapN.mapOf L) p m W hp (zg.zj9 om bb) (y3 _) true y2)
     rw [hf] at hnk
     have hgs : Pl.goD k ⟨tt, ⟨sp, sk, sd, st, sm⟩, [e0, e1, e2, e3]⟩ (ns.drop k) = if Pl.zg1 m then Pl.zc0 ⟨tt, ⟨sp, sk, sd, st, sm⟩, [e0, e1, e2, e3]⟩ k m else Pl.goD (k + 1) (Pl.zc0 ⟨tt, ⟨sp, sk, sd, st, sm⟩, [e0, e1, e2, e3]⟩ k m) (ns.drop (k + 1)) := Pl.go_step hnk k _
     have htk := hide (fun W (hbk : Mem.Blk W (w.heap.size + 1 + 1) (Pl.Sg.cs ⟨tt, ⟨sp, sk, sd, st, sm⟩, [e0, e1, e2, e3]⟩).toArray 176) => take_any (w.heap.size + 1 + 1) k ⟨tt, ⟨sp, sk, sd, st, sm⟩, [e0, e1, e2, e3]⟩ m W (by omega) rfl hbk)
     have TL := hide (Pl.take_len ⟨tt, ⟨sp, sk, sd, st, sm⟩, [e0, e1, e2, e3]⟩ k m)
     have TM := hide (Pl.take_mark (k := k) A.mark hmb)
     have KA := hide A
     have EG := hide hgs
     clear hnk hgs A hL hb hx OV om hapL hnodeL hf hm1 hm2 y2 y3 hmb
     generalize Pl.zc0 ⟨tt, ⟨sp, sk, sd, st, sm⟩, [e0, e1, e2, e3]⟩ k m = s2 at htk TL TM EG
     cases hsb : Pl.zg1 m
     ·rw [hsb] at htk EG
      obtain ⟨mp, mk, md, mt, mm⟩ := m
      simp only [Pl.Nd.val] at hat htk
      go_wp2_with fail
      refine (za hat _ (Below.refl _ _)).mono ?_
      rintro e w1 ⟨rfl, b2⟩
      have A3 := hide (((za KA).call b2).call ((Below.refl _ _).alloc (Nat.le_refl _) (.cells #[.string mp, .int .i64 mk, .string md, .int .i64 mt, .int .i64 mm] 62)))
      clear KA b2 hat
      go_wp2_with fail
      refine (za htk _ (za A3).seen).mono ?_
      rintro e w2 ⟨rfl, hs2, g2⟩
      have A4 : Hid (∃ s, At w w2 a0 a1 a2 a3 ns (k + 1) s) := ⟨s2, (za A3).bel.grown g2 (za A3).bel.size (fun q hq => by cases hq; omega), (za A3).box.grown g2 (fun e => by have := Option.some.inj e; omega), (za A3).res.grown g2 (fun e => by have := Option.some.inj e; omega), hs2, za TL, za TM, by rw [← (za A3).go, za EG]; rfl⟩
      clear A3 hs2 g2 htk EG TL TM
      go_wp2
      go_roundw
      case rel => exact ⟨k + 1, by omega, by go_num, A4⟩
      case measure => simp [intOf]; omega
     ·rw [hsb] at htk EG
      obtain ⟨mp, mk, md, mt, mm⟩ := m
      simp only [Pl.Nd.val] at hat htk
      go_wp2_with fail
      refine (za hat _ (Below.refl _ _)).mono ?_
      rintro e w1 ⟨rfl, b2⟩
      have A3 := hide (((za KA).call b2).call ((Below.refl _ _).alloc (Nat.le_refl _) (.cells #[.string mp, .int .i64 mk, .string md, .int .i64 mt, .int .i64 mm] 62)))
      clear KA b2 hat
      go_wp2_with fail
      refine (za htk _ (za A3).seen).mono ?_
      rintro e w2 ⟨rfl, hs2, g2⟩
      have GO := hide ((za A3).go)
      have A4 : Hid (Mem.Blk w2 (w.heap.size + 1) Pl.Sg.zero.cs.toArray 176 ∧ Below w.heap.size w w2) := ⟨(za A3).res.grown g2 (fun e => by have := Option.some.inj e; omega), (za A3).bel.grown g2 (za A3).bel.size (fun q hq => by cases hq; omega)⟩
      clear A3 g2 htk q1 o0 x0
      obtain ⟨tt2, ⟨sp2, sk2, sd2, st2, sm2⟩, sh2⟩ := s2
      obtain ⟨e4, e5, e6, e7, rfl⟩ : ∃ h0 h1 h2 h3, sh2 = [h0, h1, h2, h3] := by
       match sh2, za TL with
       | [a, b, c, d], _ => exact ⟨a, b, c, d, rfl⟩
      have KA : Hid (EndAt w w2 ⟨tt2, ⟨sp2, sk2, sd2, st2, sm2⟩, [e4, e5, e6, e7]⟩) := ⟨(za A4).2, (za A4).1, hs2, za TM⟩
      have EQ : Hid (R = Pl.upS ⟨tt2, ⟨sp2, sk2, sd2, st2, sm2⟩, [e4, e5, e6, e7]⟩) := by rw [za ED, ← za GO, za EG]; exact rfl
      clear hs2 A4 TL TM EG GO
      have c0 := (za KA).seen.cell 0
      have c1 := (za KA).seen.cell 1
      have c2 := (za KA).seen.cell 2
      have c3 := (za KA).seen.cell 3
      have c4 := (za KA).seen.cell 4
      have c5 := (za KA).seen.cell 5
      have c6 := (za KA).seen.cell 6
      have c7 := (za KA).seen.cell 7
      have c8 := (za KA).seen.cell 8
      have c9 := (za KA).seen.cell 9
      simp only [Pl.Sg.cs, List.map_cons, List.map_nil, List.cons_append, List.nil_append, kA0, kA1, kA2] at c0 c1 c2 c3 c4 c5 c6 c7 c8 c9
      have hup := hide (fun W => up_any ⟨tt2, ⟨sp2, sk2, sd2, st2, sm2⟩, [e4, e5, e6, e7]⟩ W rfl (by have := (za KA).mark; omega))
      have HU4 := hide (Pl.up_len (s := ⟨tt2, ⟨sp2, sk2, sd2, st2, sm2⟩, [e4, e5, e6, e7]⟩) rfl)
      have ER : Hid (R = Pl.upS ⟨tt2, ⟨sp2, sk2, sd2, st2, sm2⟩, [e4, e5, e6, e7]⟩) := za EQ
      generalize Pl.upS ⟨tt2, ⟨sp2, sk2, sd2, st2, sm2⟩, [e4, e5, e6, e7]⟩ = U at hup HU4 ER
      obtain ⟨ut, ⟨up, uk, ud, un, um⟩, uh⟩ := U
      obtain ⟨g0, g1, g2, g3, rfl⟩ : ∃ h0 h1 h2 h3, uh = [h0, h1, h2, h3] := by
       match uh, za HU4 with
       | [a, b, c, d], _ => exact ⟨a, b, c, d, rfl⟩
      rw [show (Pl.Sg.cs ⟨tt2, ⟨sp2, sk2, sd2, st2, sm2⟩, [e4, e5, e6, e7]⟩).toArray = #[.bool tt2, .string sp2, .int .i64 sk2, .string sd2, .int .i64 st2, .int .i64 sm2, .bool e4, .bool e5, .bool e6, .bool e7] from rfl, show (Pl.Sg.cs ⟨ut, ⟨up, uk, ud, un, um⟩, [g0, g1, g2, g3]⟩).toArray = #[.bool ut, .string up, .int .i64 uk, .string ud, .int .i64 un, .int .i64 um, .bool g0, .bool g1, .bool g2, .bool g3] from rfl] at hup
      go_wp2_with fail
      refine (za hup _).mono ?_
      rintro e wU ⟨rfl, bU⟩
      have RU := (za KA).res.call bU
      have BU := (za KA).bel.trans (bU.mono (za KA).bel.size)
      clear c0 c1 c2 c3 c4 c5 c6 c7 c8 c9 hup bU
      have c0 := RU.cell 0
      have c1 := RU.cell 1
      have c2 := RU.cell 2
      have c3 := RU.cell 3
      have c4 := RU.cell 4
      have c5 := RU.cell 5
      have c6 := RU.cell 6
      have c7 := RU.cell 7
      have c8 := RU.cell 8
      have c9 := RU.cell 9
      have f0 := RU.fr 0
      have f1 := RU.fr 1
      have f2 := RU.fr 2
      have f3 := RU.fr 3
      have f4 := RU.fr 4
      have f5 := RU.fr 5
      have f6 := RU.fr 6
      have f7 := RU.fr 7
      have f8 := RU.fr 8
      have f9 := RU.fr 9
      simp only [Pl.Sg.zero, Pl.za8, Pl.Sg.cs, List.map_cons, List.map_nil, List.cons_append, List.nil_append, kA0, kA1, kA2] at c0 c1 c2 c3 c4 c5 c6 c7 c8 c9
      clear RU KA
      go_wp2
      refine bodyPost_ret (v := .agg #[.bool ut, .string up, .int .i64 uk, .string ud, .int .i64 un, .int .i64 um, .bool g0, .bool g1, .bool g2, .bool g3]) (by simp [results, Tryz.results122, go_sem, c0, c1, c2, c3, c4, c5, c6, c7, c8, c9]) rfl ⟨by rw [za ER]; rfl, ?_⟩
      exact ((((((((((BU.setCell (p := ⟨w.heap.size + 1, 0, none⟩) hR _).setCell (p := ⟨w.heap.size + 1, 1, none⟩) hR _).setCell (p := ⟨w.heap.size + 1, 2, none⟩) hR _).setCell (p := ⟨w.heap.size + 1, 3, none⟩) hR _).setCell (p := ⟨w.heap.size + 1, 4, none⟩) hR _).setCell (p := ⟨w.heap.size + 1, 5, none⟩) hR _).setCell (p := ⟨w.heap.size + 1, 6, none⟩) hR _).setCell (p := ⟨w.heap.size + 1, 7, none⟩) hR _).setCell (p := ⟨w.heap.size + 1, 8, none⟩) hR _).setCell (p := ⟨w.heap.size + 1, 9, none⟩) hR _)
  ·obtain rfl : k = Ls.length := by omega
   have y1 : ¬ ((Ls.length : Int) < (Ls.length : Int)) := by omega
   have KA := hide A
   clear A
   have c0 := (za KA).seen.cell 0
   have c1 := (za KA).seen.cell 1
   have c2 := (za KA).seen.cell 2
   have c3 := (za KA).seen.cell 3
   have c4 := (za KA).seen.cell 4
   have c5 := (za KA).seen.cell 5
   have c6 := (za KA).seen.cell 6
   have c7 := (za KA).seen.cell 7
   have c8 := (za KA).seen.cell 8
   have c9 := (za KA).seen.cell 9
   simp only [Pl.Sg.cs, List.map_cons, List.map_nil, List.cons_append, List.nil_append, kA0, kA1, kA2] at c0 c1 c2 c3 c4 c5 c6 c7 c8 c9
   have hup := hide (fun W => up_any ⟨tt, ⟨sp, sk, sd, st, sm⟩, [e0, e1, e2, e3]⟩ W rfl (by have := (za KA).mark; omega))
   have HU4 := hide (Pl.up_len (s := ⟨tt, ⟨sp, sk, sd, st, sm⟩, [e0, e1, e2, e3]⟩) rfl)
   have ER : Hid (R = Pl.upS ⟨tt, ⟨sp, sk, sd, st, sm⟩, [e0, e1, e2, e3]⟩) := by rw [za ED, ← (za KA).go, Pl.go_end (by rw [za HNL]; exact Nat.le_refl _)]; exact rfl
   generalize Pl.upS ⟨tt, ⟨sp, sk, sd, st, sm⟩, [e0, e1, e2, e3]⟩ = U at hup HU4 ER
   obtain ⟨ut, ⟨up, uk, ud, un, um⟩, uh⟩ := U
   obtain ⟨g0, g1, g2, g3, rfl⟩ : ∃ h0 h1 h2 h3, uh = [h0, h1, h2, h3] := by
    match uh, za HU4 with
    | [a, b, c, d], _ => exact ⟨a, b, c, d, rfl⟩
   rw [show (Pl.Sg.cs ⟨tt, ⟨sp, sk, sd, st, sm⟩, [e0, e1, e2, e3]⟩).toArray = #[.bool tt, .string sp, .int .i64 sk, .string sd, .int .i64 st, .int .i64 sm, .bool e0, .bool e1, .bool e2, .bool e3] from rfl, show (Pl.Sg.cs ⟨ut, ⟨up, uk, ud, un, um⟩, [g0, g1, g2, g3]⟩).toArray = #[.bool ut, .string up, .int .i64 uk, .string ud, .int .i64 un, .int .i64 um, .bool g0, .bool g1, .bool g2, .bool g3] from rfl] at hup
   go_wp2_with fail
   refine (za hup _).mono ?_
   rintro e wU ⟨rfl, bU⟩
   have RU := (za KA).res.call bU
   have BU := (za KA).bel.trans (bU.mono (za KA).bel.size)
   clear c0 c1 c2 c3 c4 c5 c6 c7 c8 c9 hup bU
   have c0 := RU.cell 0
   have c1 := RU.cell 1
   have c2 := RU.cell 2
   have c3 := RU.cell 3
   have c4 := RU.cell 4
   have c5 := RU.cell 5
   have c6 := RU.cell 6
   have c7 := RU.cell 7
   have c8 := RU.cell 8
   have c9 := RU.cell 9
   have f0 := RU.fr 0
   have f1 := RU.fr 1
   have f2 := RU.fr 2
   have f3 := RU.fr 3
   have f4 := RU.fr 4
   have f5 := RU.fr 5
   have f6 := RU.fr 6
   have f7 := RU.fr 7
   have f8 := RU.fr 8
   have f9 := RU.fr 9
   simp only [Pl.Sg.zero, Pl.za8, Pl.Sg.cs, List.map_cons, List.map_nil, List.cons_append, List.nil_append, kA0, kA1, kA2] at c0 c1 c2 c3 c4 c5 c6 c7 c8 c9
   clear RU KA
   go_wp2
   refine bodyPost_ret (v := .agg #[.bool ut, .string up, .int .i64 uk, .string ud, .int .i64 un, .int .i64 um, .bool g0, .bool g1, .bool g2, .bool g3]) (by simp [results, Tryz.results122, go_sem, c0, c1, c2, c3, c4, c5, c6, c7, c8, c9]) rfl ⟨by rw [za ER]; rfl, ?_⟩
   exact ((((((((((BU.setCell (p := ⟨w.heap.size + 1, 0, none⟩) hR _).setCell (p := ⟨w.heap.size + 1, 1, none⟩) hR _).setCell (p := ⟨w.heap.size + 1, 2, none⟩) hR _).setCell (p := ⟨w.heap.size + 1, 3, none⟩) hR _).setCell (p := ⟨w.heap.size + 1, 4, none⟩) hR _).setCell (p := ⟨w.heap.size + 1, 5, none⟩) hR _).setCell (p := ⟨w.heap.size + 1, 6, none⟩) hR _).setCell (p := ⟨w.heap.size + 1, 7, none⟩) hR _).setCell (p := ⟨w.heap.size + 1, 8, none⟩) hR _).setCell (p := ⟨w.heap.size + 1, 9, none⟩) hR _)
end zh9
end Go.Proofs.YtcogaghibpajjaaGreatDoor

