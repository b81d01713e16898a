/- Several texts of one claim in one file: WNodeAt, WLevelUp, WOvK, WDecide, WSeenI. -/
import Derived.Test.YtppmlbofhghghaaGreatDoorG04
import Derived.Test.YtppmlbofhghghaaGreatDoorG00
import Derived.Test.YtppmlbofhghghaaGreatDoorG02
import Derived.Test.YtppmlbofhghghaaGreatDoorG01
import Derived.Test.YtppmlbofhghghaaGreatDoorProg
import Derived.Maps.OwnSet
import Derived.WalkSpells
import Derived.Lib.OthersKept
import Derived.Laws.RangeAny
import Derived.Deep.Draws
import Derived.Deep.QuietTactic
import Derived.BigQuiet
import Derived.Deep.RegionHeld3
import Derived.Laws.EntriesVeiled
namespace Go.Proofs.YtppmlbofhghghaaGreatDoor
open Go.RowKit Go.Maps
namespace zk7
set_option linter.unusedSimpArgs false in
set_option maxRecDepth 100000 in
set_option maxHeartbeats 2000000 in
theorem yc3 (B N : Nat) (D : DataW Unit) (p : ByteArray) (m : Pl.Nd) (w : World) (hp : p.size ≤ 1048576) (hown : w.ownsMap Tryz.prog 9 MapN.elem B N D) (h1 : D.atKey (MapN.key p) (MapN.dat ⟨⟨#[]⟩, 0, ⟨#[]⟩, 0, 0⟩) = MapN.dat m) (t : Bool) (h2 : Maps.has D (MapN.key p) = t) :
  Calls Tryz.prog 213 #[.map (some B), .string p] w fun e w' => e = .returned (.tuple #[m.val, .bool t]) ∧ Below w.heap.size w w' := by
 have hkey := MapN.zi9 (p := p) (by unfold maxLen; omega)
 have HM := hide (zc2.zd6 hown ((Below.refl _ _).alloc (Nat.le_refl _) (.cells #[.string ⟨#[]⟩, .int .i64 0, .string ⟨#[]⟩, .int .i64 0, .int .i64 0] 47)))
 have ha := hide h1
 have ha2 := hide h2
 clear h1 h2 hown
 obtain ⟨mp, mk, md, mt, mm⟩ := m
 go_enter Tryz.func213, Tryz.ntmps213
 go_wp2_with (at_lookup; refine MapN.look_ok _ rfl _ _ 101 rfl 9 47 MapN.law Tryz.underlying101 (MapN.za7 _) B N D rfl (za HM) _ _ rfl hkey ⟨mp, mk, md, mt, mm⟩ (za ha) t (za ha2) ?_)
 refine bodyPost_ret (v := .tuple #[.agg #[.string mp, .int .i64 mk, .string md, .int .i64 mt, .int .i64 mm], .bool t]) (by simp [results, Tryz.results213, go_sem]) rfl ⟨rfl, ?_⟩
 repeat first | exact Below.refl _ _ | refine Below.setCell ?_ (by simp) _ | refine Below.alloc ?_ (by simp) _
end zk7
end Go.Proofs.YtppmlbofhghghaaGreatDoor

namespace Go.Proofs.YtppmlbofhghghaaGreatDoor
open Go.RowKit Go.Maps
namespace zk7
set_option linter.unusedSimpArgs false in
set_option maxRecDepth 100000 in
set_option maxHeartbeats 2000000 in
theorem up_any (s : Pl.Sg) (w : World) (hh : s.have'.length = 4) (hm : 0 ≤ s.node.mark ∧ s.node.mark ≤ 1000) :
  Calls Tryz.prog 197 #[.agg s.cs.toArray] w fun e w' => e = .returned (.agg (Pl.upS s).cs.toArray) ∧ Below w.heap.size w w' := by
 obtain ⟨told, ⟨sp, sk, sd, st, sm⟩, hv⟩ := s
 obtain ⟨h0, h1, h2, h3, rfl⟩ : ∃ h0 h1 h2 h3, hv = [h0, h1, h2, h3] := by
  match hv, hh with
  | [a, b, c, d], _ => exact ⟨a, b, c, d, rfl⟩
 simp only at hm
 have hw : IntKind.i64.wrap (sm - 1) = sm - 1 := by simp only [IntKind.wrap_i64]; omega
 generalize hU : Pl.upS ⟨told, ⟨sp, sk, sd, st, sm⟩, [h0, h1, h2, h3]⟩ = U
 simp only [Pl.upS] at hU
 rw [show (Pl.Sg.cs ⟨told, ⟨sp, sk, sd, st, sm⟩, [h0, h1, h2, h3]⟩).toArray = #[.bool told, .string sp, .int .i64 sk, .string sd, .int .i64 st, .int .i64 sm, .bool h0, .bool h1, .bool h2, .bool h3] from rfl]
 by_cases h5 : sm - 1 < 0
 ·have hM : max (sm - 1) 0 = 0 := by omega
  rw [hM] at hU
  by_cases hk : sk = 0
  ·subst hk
   rw [if_pos ⟨rfl, rfl⟩] at hU
   have EU := hide hU.symm
   clear hU
   go_enter Tryz.func197, Tryz.ntmps197
   go_wp2
   refine bodyPost_ret (v := .agg #[.bool false, .string ⟨#[]⟩, .int .i64 0, .string ⟨#[]⟩, .int .i64 0, .int .i64 0, .bool false, .bool false, .bool false, .bool false]) (by simp [results, Tryz.results197, go_sem]) rfl ⟨by rw [za EU]; rfl, ?_⟩
   repeat first | exact Below.refl _ _ | refine Below.setCell ?_ (by simp) _ | refine Below.alloc ?_ (by simp) _
  ·have t1 : (sk == 0) = false := by simpa using hk
   rw [if_neg (fun h => hk h.1)] at hU
   have EU := hide hU.symm
   clear hU
   go_enter Tryz.func197, Tryz.ntmps197
   go_wp2
   refine bodyPost_ret (v := .agg #[.bool told, .string sp, .int .i64 sk, .string sd, .int .i64 st, .int .i64 (0), .bool h0, .bool h1, .bool h2, .bool h3]) (by simp [results, Tryz.results197, go_sem]) rfl ⟨by rw [za EU]; rfl, ?_⟩
   repeat first | exact Below.refl _ _ | refine Below.setCell ?_ (by simp) _ | refine Below.alloc ?_ (by simp) _
 ·have hM : max (sm - 1) 0 = sm - 1 := by omega
  rw [hM] at hU
  by_cases hk : sk = 0
  ·subst hk
   by_cases h6 : sm = 1
   ·subst h6
    rw [if_pos ⟨rfl, by omega⟩] at hU
    have EU := hide hU.symm
    clear hU
    go_enter Tryz.func197, Tryz.ntmps197
    go_wp2
    refine bodyPost_ret (v := .agg #[.bool false, .string ⟨#[]⟩, .int .i64 0, .string ⟨#[]⟩, .int .i64 0, .int .i64 0, .bool false, .bool false, .bool false, .bool false]) (by simp [results, Tryz.results197, go_sem]) rfl ⟨by rw [za EU]; rfl, ?_⟩
    repeat first | exact Below.refl _ _ | refine Below.setCell ?_ (by simp) _ | refine Below.alloc ?_ (by simp) _
   ·have t2 : (sm - 1 == 0) = false := by simp; omega
    rw [if_neg (fun h => by omega)] at hU
    have EU := hide hU.symm
    clear hU
    go_enter Tryz.func197, Tryz.ntmps197
    go_wp2
    refine bodyPost_ret (v := .agg #[.bool told, .string sp, .int .i64 0, .string sd, .int .i64 st, .int .i64 (sm - 1), .bool h0, .bool h1, .bool h2, .bool h3]) (by simp [results, Tryz.results197, go_sem]) rfl ⟨by rw [za EU]; rfl, ?_⟩
    repeat first | exact Below.refl _ _ | refine Below.setCell ?_ (by simp) _ | refine Below.alloc ?_ (by simp) _
  ·have t1 : (sk == 0) = false := by simpa using hk
   rw [if_neg (fun h => hk h.1)] at hU
   have EU := hide hU.symm
   clear hU
   go_enter Tryz.func197, Tryz.ntmps197
   go_wp2
   refine bodyPost_ret (v := .agg #[.bool told, .string sp, .int .i64 sk, .string sd, .int .i64 st, .int .i64 (sm - 1), .bool h0, .bool h1, .bool h2, .bool h3]) (by simp [results, Tryz.results197, go_sem]) rfl ⟨by rw [za EU]; rfl, ?_⟩
   repeat first | exact Below.refl _ _ | refine Below.setCell ?_ (by simp) _ | refine Below.alloc ?_ (by simp) _
end zk7
end Go.Proofs.YtppmlbofhghghaaGreatDoor

namespace Go.Proofs.YtppmlbofhghghaaGreatDoor
open Go.RowKit Go.Maps
namespace Pl
end Pl
namespace zi0
def layV (b : Nat) : Value := .iface 101 (.map (some b))
theorem zl3 {w w' : World} {B n : Nat} {T : TypeId} {v : Value} {xs : List Value} (h : w.ownsRow B T 1 v n xs) (b : Below w.heap.size w w') : w'.ownsRow B T 1 v n xs := by
 refine ⟨h.1, ?_⟩
 rcases h.2 with h0 | ⟨g, cap, cur, hv, hb, hg, rest⟩
 ·exact .inl h0
 ·exact .inr ⟨g, cap, cur, hv, hb, (b.block g (Array.getElem?_eq_some_iff.1 hg).1).trans hg, rest⟩
structure Ov (w : World) (B : Nat) (v : Value) (Bs : List Nat) (Ls : List (List Pl.Nd)) : Prop where
 row : w.ownsRow B 221 1 v Bs.length (Bs.map layV)
 len : Bs.length = Ls.length
 maps : ∀ (j : Nat) b L, Bs[j]? = some b → Ls[j]? = some L → B ≤ b ∧ w.ownsMap Tryz.prog 9 MapN.elem b 40 (MapN.mapOf L)
theorem Ov.call {w w' : World} {B : Nat} {v : Value} {Bs : List Nat} {Ls : List (List Pl.Nd)} (h : Ov w B v Bs Ls) (b : Below w.heap.size w w') : Ov w' B v Bs Ls :=
 ⟨zl3 h.row b, h.len, fun j c L h1 h2 => ⟨(h.maps j c L h1 h2).1, zc2.zd6 (h.maps j c L h1 h2).2 b⟩⟩
theorem map_not {w : World} {B b n m : Nat} {T : TypeId} {v : Value} {xs : List Value} {D : DataW Unit} (h : w.ownsRow B T 1 v n xs) (hm : w.ownsMap Tryz.prog 9 MapN.elem b m D) : some b ≠ v.ownBlock := fun e => by
 obtain ⟨es, clock, h1, _⟩ := hm
 rcases h.2 with ⟨rfl, _⟩ | ⟨g, cap, cur, rfl, _, hg, _⟩
 ·cases e
 ·cases e
  rw [hg] at h1
  cases h1
theorem Ov.put {w w' : World} {B b : Nat} {v v' : Value} {Bs : List Nat} {Ls : List (List Pl.Nd)} {L : List Pl.Nd} (h : Ov w B v Bs Ls) (hm : w.ownsMap Tryz.prog 9 MapN.elem b 40 (MapN.mapOf L)) (hb : B ≤ b)
  (hr : w'.ownsRow B 221 1 v' (Bs.length + 1) (Bs.map layV ++ [layV b])) (hg : w.grownBy w' v.ownBlock) : Ov w' B v' (Bs ++ [b]) (Ls ++ [L]) := by
 refine ⟨by simpa using hr, by simp [h.len], fun j c M h1 h2 => ?_⟩
 by_cases e : j < Bs.length
 ·rw [List.getElem?_append_left e] at h1
  rw [List.getElem?_append_left (by rw [← h.len]; exact e)] at h2
  obtain ⟨h3, h4⟩ := h.maps j c M h1 h2
  exact ⟨h3, h4.kept hg (map_not h.row h4)⟩
 ·rw [List.getElem?_append_right (by omega)] at h1
  rw [List.getElem?_append_right (by rw [← h.len]; omega)] at h2
  have e0 : j - Bs.length = 0 := by
   have := (List.getElem?_eq_some_iff.1 h1).1
   simp at this; omega
  rw [e0] at h1
  rw [← h.len, e0] at h2
  simp at h1 h2
  subst h1 h2
  exact ⟨hb, hm.kept hg (map_not h.row hm)⟩
theorem infoL : (Tryz.prog.info? 221).map (fun i => (i.zero, i.size, i.bytes)) = some (some .nilIface, 1, 16) := by kernel_rfl
end zi0
end Go.Proofs.YtppmlbofhghghaaGreatDoor

namespace Go.Proofs.YtppmlbofhghghaaGreatDoor
open Go.RowKit Go.Maps
namespace zk7
theorem zu3 {w : World} {B : Nat} {v : Value} {Bs : List Nat} {Ls : List (List Pl.Nd)} (h : zi0.Ov w B v Bs Ls) : ∃ a cap, v = .slice a Ls.length cap := by
 rw [← h.len]
 rcases h.row.2 with ⟨rfl, h0⟩ | ⟨g, cap, cur, rfl, _⟩
 ·exact ⟨none, 0, by rw [h0]⟩
 ·exact ⟨_, _, rfl⟩
theorem ov_cell {w : World} {B cap n : Nat} {a : Option Addr} {Bs : List Nat} {Ls : List (List Pl.Nd)} (h : zi0.Ov w B (.slice a n cap) Bs Ls) {k b : Nat} (hk : Bs[k]? = some b) : ∃ g, a = some ⟨g, 0, none⟩ ∧ w.cell? ⟨g, k, none⟩ = some (.iface 101 (.map (some b))) := by
 have hlt := (List.getElem?_eq_some_iff.1 hk).1
 rcases h.row.2 with ⟨hx, h0⟩ | ⟨g, cap', cur, hv, hb, hg, hc, hm, hsz, ht⟩
 ·omega
 ·injection hv with e1 e2 e3
  refine ⟨g, e1, ?_⟩
  rw [cell_of_row w g k cur _ (0, 0) hg, ← Array.getElem?_toList, ← List.getElem?_take_of_lt (show k < Bs.length * 1 by omega), ht, List.getElem?_map, hk]
  rfl
theorem tree_all {L : List Pl.Nd} (h : Pl.za5 L = true) : ∀ n ∈ L, Pl.zb n = true := by
 simp only [Pl.za5, Bool.and_eq_true, decide_eq_true_eq] at h
 exact Pl.zs9 L _ _ h.2
structure At (w wr : World) (a0 a1 a2 a3 : Bool) (ns : List (Option Pl.Nd)) (k : Nat) (s : Pl.Sg) : Prop where
 bel : Below w.heap.size w wr
 box : Mem.Blk wr w.heap.size #[.bool a0, .bool a1, .bool a2, .bool a3] 239
 res : Mem.Blk wr (w.heap.size + 1) Pl.Sg.zero.cs.toArray 241
 seen : Mem.Blk wr (w.heap.size + 1 + 1) s.cs.toArray 241
 len : s.have'.length = 4
 mark : 0 ≤ s.node.mark ∧ s.node.mark ≤ 8
 go : Pl.goD k s (ns.drop k) = Pl.goD 0 Pl.Sg.zero ns
structure EndAt (w wr : World) (s : Pl.Sg) : Prop where
 bel : Below w.heap.size w wr
 res : Mem.Blk wr (w.heap.size + 1) Pl.Sg.zero.cs.toArray 241
 seen : Mem.Blk wr (w.heap.size + 1 + 1) s.cs.toArray 241
 mark : 0 ≤ s.node.mark ∧ s.node.mark ≤ 8
theorem At.call {w wr wr' : World} {a0 a1 a2 a3 : Bool} {ns : List (Option Pl.Nd)} {k : Nat} {s : Pl.Sg} (h : At w wr a0 a1 a2 a3 ns k s) (b : Below wr.heap.size wr wr') : At w wr' a0 a1 a2 a3 ns k s :=
 ⟨h.bel.trans (b.mono h.bel.size), h.box.call b, h.res.call b, h.seen.call b, h.len, h.mark, h.go⟩
set_option linter.unusedSimpArgs false in
set_option maxRecDepth 100000 in
set_option maxHeartbeats 4000000 in
theorem dec_any (q : Addr) (p : ByteArray) (a0 a1 a2 a3 : Bool) (B : Nat) (v : Value) (Bs : List Nat) (Ls : List (List Pl.Nd)) (w : World) (hq : w.cell? q = some v) (hql : q.block < w.heap.size) (hov : zi0.Ov w B v Bs Ls) (h4 : Ls.length ≤ 4) (htr : ∀ L ∈ Ls, Pl.za5 L = true) (hp : p.size ≤ 1048576) :
  Calls Tryz.prog 195 #[.string p, .agg #[.bool a0, .bool a1, .bool a2, .bool a3], .pointer (some q)] w fun e w' => e = .returned (.agg (Pl.decS (Pl.nsOf [a0, a1, a2, a3] Ls p)).cs.toArray) ∧ Below w.heap.size w w' := by
 obtain ⟨a, cap, rfl⟩ := zu3 hov
 have HLE := hide hov.len
 have HOV := hide hov
 have HTR := hide htr
 have HQ : Hid (∀ wr, Below w.heap.size w wr → wr.cell? q = some (.slice a Ls.length cap)) := fun wr b => (b.cell hql).trans hq
 have HNG := hide (fun k a L => Pl.ns_get p [a0, a1, a2, a3] Ls k a L)
 have HNL := hide (Pl.ns_len p [a0, a1, a2, a3] Ls (by simpa using h4))
 have ED : Hid (Pl.decS (Pl.nsOf [a0, a1, a2, a3] Ls p) = Pl.upS (Pl.goD 0 Pl.Sg.zero (Pl.nsOf [a0, a1, a2, a3] Ls p))) := rfl
 generalize Pl.nsOf [a0, a1, a2, a3] Ls p = ns at HNG HNL ED ⊢
 generalize Pl.decS ns = R at ED ⊢
 have hm : ∀ (b : Nat) (w : World), (method 221 101 (.map (some b)) "loop.example/g00449/impl.at").run Tryz.prog w = .ok (213, .map (some b)) w := fun _ _ => by kernel_rfl
 clear hov htr hq
 have b0 : Below w.heap.size w (((w.alloc (.cells #[.bool a0, .bool a1, .bool a2, .bool a3] 239)).alloc (.cells Pl.Sg.zero.cs.toArray 241)).alloc (.cells Pl.Sg.zero.cs.toArray 241)) := (((Below.refl _ _).alloc (Nat.le_refl _) _).alloc (by simp) _).alloc (by simp; omega) _
 have A0 : Hid (At w (((w.alloc (.cells #[.bool a0, .bool a1, .bool a2, .bool a3] 239)).alloc (.cells Pl.Sg.zero.cs.toArray 241)).alloc (.cells Pl.Sg.zero.cs.toArray 241)) a0 a1 a2 a3 ns 0 Pl.Sg.zero) := by
  refine ⟨b0, ((Mem.Blk.new _ _ _).alloc _).alloc _, Mem.Blk.alloc (Mem.zg0 _ _ _) _, ?_, rfl, by decide, rfl⟩
  have h := Mem.zg0 (w.alloc (.cells #[.bool a0, .bool a1, .bool a2, .bool a3] 239)) (.cells Pl.Sg.zero.cs.toArray 241) (.cells Pl.Sg.zero.cs.toArray 241)
  rw [show (w.alloc (.cells #[.bool a0, .bool a1, .bool a2, .bool a3] 239)).heap.size = w.heap.size + 1 by simp] at h
  exact h
 have q0 := za HQ _ b0
 have hR : w.heap.size ≤ w.heap.size + 1 := by omega
 simp only [Pl.Sg.zero, Pl.za7, Pl.Sg.cs, List.map_cons, List.map_nil, List.cons_append, List.nil_append] at A0 q0
 go_enter Tryz.func195, Tryz.ntmps195
 go_wp2
 go_loopw [12] (fun i wr => ∃ k : Nat, k ≤ Ls.length ∧ i = .int .i64 (k : Int) ∧ Hid (∃ s, At w wr a0 a1 a2 a3 ns k s)) (fun i _ => Ls.length - (intOf i).toNat)
 case atStart => exact ⟨0, Nat.zero_le _, rfl, ⟨_, za A0⟩⟩
 case round =>
  obtain ⟨k, hk, rfl, HA⟩ := hrel
  obtain ⟨s, A⟩ := za HA
  clear HA A0
  obtain ⟨tt, ⟨sp, sk, sd, st, sm⟩, sh⟩ := s
  obtain ⟨e0, e1, e2, e3, rfl⟩ : ∃ h0 h1 h2 h3, sh = [h0, h1, h2, h3] := by
   match sh, A.len with
   | [a, b, c, d], _ => exact ⟨a, b, c, d, rfl⟩
  by_cases hlt : k < Ls.length
  ·obtain ⟨L, hL⟩ : ∃ L, Ls[k]? = some L := ⟨_, List.getElem?_eq_getElem hlt⟩
   obtain ⟨b, hb⟩ : ∃ b, Bs[k]? = some b := ⟨_, List.getElem?_eq_getElem (by rw [za HLE]; exact hlt)⟩
   obtain ⟨x, hx⟩ : ∃ x, [a0, a1, a2, a3][k]? = some x := ⟨_, List.getElem?_eq_getElem (by simp; omega)⟩
   have hnk := za HNG k x L hx hL
   have y1 : (k : Int) < (Ls.length : Int) := by omega
   have hix : 0 ≤ (k : Int) ∧ (k : Int) < 4 := by omega
   have hix2 : 0 ≤ (k : Int) ∧ (k : Int) < (Ls.length : Int) := by omega
   have x0 : wr.cell? ⟨w.heap.size, k, none⟩ = some (.bool x) := by
    rw [A.box.cell k, List.getElem?_toArray]
    obtain rfl | rfl | rfl | rfl : k = 0 ∨ k = 1 ∨ k = 2 ∨ k = 3 := by omega
    all_goals (simp at hx; subst hx; rfl)
   cases x
   ·have hgs : Pl.goD k ⟨tt, ⟨sp, sk, sd, st, sm⟩, [e0, e1, e2, e3]⟩ (ns.drop k) = Pl.goD (k + 1) ⟨tt, ⟨sp, sk, sd, st, sm⟩, [e0, e1, e2, e3]⟩ (ns.drop (k + 1)) := Pl.go_step (x := none) hnk k _
    have A2 : Hid (∃ s, At w wr a0 a1 a2 a3 ns (k + 1) s) := ⟨_, A.bel, A.box, A.res, A.seen, A.len, A.mark, by rw [← A.go, hgs]⟩
    clear hnk hgs A hL hb hx
    go_wp2
    go_roundw
    case rel => exact ⟨k + 1, by omega, by go_num, A2⟩
    case measure => simp [intOf]; omega
   ·have q1 := za HQ wr A.bel
    have OV := (za HOV).call A.bel
    obtain ⟨g, rfl, o0⟩ := ov_cell OV hb
    obtain ⟨-, om⟩ := OV.maps k b L hb hL
    have hapL := Pl.zk4 (za HTR L (List.mem_of_getElem? hL))
    have hnodeL := za HTR L (List.mem_of_getElem? hL)
    simp only [if_true] at hnk
    cases hf : Pl.lk L p with
    | none =>
     have hmiss : ∀ n ∈ L, n.path ≠ p := fun n hn => by simpa using List.find?_eq_none.1 hf n hn
     have hat := hide (fun W (bb : Below wr.heap.size wr W) => yc3 b 40 (MapN.mapOf L) p ⟨⟨#[]⟩, 0, ⟨#[]⟩, 0, 0⟩ W hp (zc2.zd6 om bb) (Maps.atKey_of_not_has (MapN.zp7 hmiss) _) false (MapN.zp7 hmiss))
     rw [hf] at hnk
     have hgs : Pl.goD k ⟨tt, ⟨sp, sk, sd, st, sm⟩, [e0, e1, e2, e3]⟩ (ns.drop k) = Pl.goD (k + 1) ⟨tt, ⟨sp, sk, sd, st, sm⟩, [e0, e1, e2, e3]⟩ (ns.drop (k + 1)) := Pl.go_step hnk k _
     simp only [Pl.Nd.val] at hat
     have KA := hide A
     have EG := hide hgs
     clear hnk hgs A hL hb hx OV om hapL hnodeL hmiss
     go_wp2_with fail
     refine (za hat _ (Below.refl _ _)).mono ?_
     rintro e w1 ⟨rfl, b2⟩
     have A2 : Hid (∃ s, At w (w1.alloc (.cells #[.string ⟨#[]⟩, .int .i64 0, .string ⟨#[]⟩, .int .i64 0, .int .i64 0] 47)) a0 a1 a2 a3 ns (k + 1) s) := by
      have A3 := ((za KA).call b2).call ((Below.refl _ _).alloc (Nat.le_refl _) (.cells #[.string ⟨#[]⟩, .int .i64 0, .string ⟨#[]⟩, .int .i64 0, .int .i64 0] 47))
      exact ⟨_, A3.bel, A3.box, A3.res, A3.seen, A3.len, A3.mark, by rw [← A3.go, za EG]⟩
     clear KA EG b2 hat
     go_wp2
     go_roundw
     case rel => exact ⟨k + 1, by omega, by go_num, A2⟩
     case measure => simp [intOf]; omega
    | some m =>
     have hm1 := List.mem_of_find?_eq_some hf
     have hm2 : m.path = p := by simpa using List.find?_some hf
     obtain ⟨y2, y3⟩ := MapN.zn2 hapL hm1
     rw [hm2] at y2 y3
     have hmb := (Pl.zd3 (tree_all hnodeL m hm1)).2.2.1
     have hat := hide (fun W (bb : Below wr.heap.size wr W) => yc3 b 40 (MapN.mapOf L) p m W hp (zc2.zd6 om bb) (y3 _) true y2)
     rw [hf] at hnk
     have hgs : Pl.goD k ⟨tt, ⟨sp, sk, sd, st, sm⟩, [e0, e1, e2, e3]⟩ (ns.drop k) = if Pl.zk0 m then Pl.zh5 ⟨tt, ⟨sp, sk, sd, st, sm⟩, [e0, e1, e2, e3]⟩ k m else Pl.goD (k + 1) (Pl.zh5 ⟨tt, ⟨sp, sk, sd, st, sm⟩, [e0, e1, e2, e3]⟩ k m) (ns.drop (k + 1)) := Pl.go_step hnk k _
     have htk := hide (fun W (hbk : Mem.Blk W (w.heap.size + 1 + 1) (Pl.Sg.cs ⟨tt, ⟨sp, sk, sd, st, sm⟩, [e0, e1, e2, e3]⟩).toArray 241) => take_any (w.heap.size + 1 + 1) k ⟨tt, ⟨sp, sk, sd, st, sm⟩, [e0, e1, e2, e3]⟩ m W (by omega) rfl hbk)
     have TL := hide (Pl.take_len ⟨tt, ⟨sp, sk, sd, st, sm⟩, [e0, e1, e2, e3]⟩ k m)
     have TM := hide (Pl.take_mark (k := k) A.mark hmb)
     have KA := hide A
     have EG := hide hgs
     clear hnk hgs A hL hb hx OV om hapL hnodeL hf hm1 hm2 y2 y3 hmb
     generalize Pl.zh5 ⟨tt, ⟨sp, sk, sd, st, sm⟩, [e0, e1, e2, e3]⟩ k m = s2 at htk TL TM EG
     cases hsb : Pl.zk0 m
     ·rw [hsb] at htk EG
      obtain ⟨mp, mk, md, mt, mm⟩ := m
      simp only [Pl.Nd.val] at hat htk
      go_wp2_with fail
      refine (za hat _ (Below.refl _ _)).mono ?_
      rintro e w1 ⟨rfl, b2⟩
      have A3 := hide (((za KA).call b2).call ((Below.refl _ _).alloc (Nat.le_refl _) (.cells #[.string mp, .int .i64 mk, .string md, .int .i64 mt, .int .i64 mm] 47)))
      clear KA b2 hat
      go_wp2_with fail
      refine (za htk _ (za A3).seen).mono ?_
      rintro e w2 ⟨rfl, hs2, g2⟩
      have A4 : Hid (∃ s, At w w2 a0 a1 a2 a3 ns (k + 1) s) := ⟨s2, (za A3).bel.grown g2 (za A3).bel.size (fun q hq => by cases hq; omega), (za A3).box.grown g2 (fun e => by have := Option.some.inj e; omega), (za A3).res.grown g2 (fun e => by have := Option.some.inj e; omega), hs2, za TL, za TM, by rw [← (za A3).go, za EG]; rfl⟩
      clear A3 hs2 g2 htk EG TL TM
      go_wp2
      go_roundw
      case rel => exact ⟨k + 1, by omega, by go_num, A4⟩
      case measure => simp [intOf]; omega
     ·rw [hsb] at htk EG
      obtain ⟨mp, mk, md, mt, mm⟩ := m
      simp only [Pl.Nd.val] at hat htk
      go_wp2_with fail
      refine (za hat _ (Below.refl _ _)).mono ?_
      rintro e w1 ⟨rfl, b2⟩
      have A3 := hide (((za KA).call b2).call ((Below.refl _ _).alloc (Nat.le_refl _) (.cells #[.string mp, .int .i64 mk, .string md, .int .i64 mt, .int .i64 mm] 47)))
      clear KA b2 hat
      go_wp2_with fail
      refine (za htk _ (za A3).seen).mono ?_
      rintro e w2 ⟨rfl, hs2, g2⟩
      have GO := hide ((za A3).go)
      have A4 : Hid (Mem.Blk w2 (w.heap.size + 1) Pl.Sg.zero.cs.toArray 241 ∧ Below w.heap.size w w2) := ⟨(za A3).res.grown g2 (fun e => by have := Option.some.inj e; omega), (za A3).bel.grown g2 (za A3).bel.size (fun q hq => by cases hq; omega)⟩
      clear A3 g2 htk q1 o0 x0
      obtain ⟨tt2, ⟨sp2, sk2, sd2, st2, sm2⟩, sh2⟩ := s2
      obtain ⟨e4, e5, e6, e7, rfl⟩ : ∃ h0 h1 h2 h3, sh2 = [h0, h1, h2, h3] := by
       match sh2, za TL with
       | [a, b, c, d], _ => exact ⟨a, b, c, d, rfl⟩
      have KA : Hid (EndAt w w2 ⟨tt2, ⟨sp2, sk2, sd2, st2, sm2⟩, [e4, e5, e6, e7]⟩) := ⟨(za A4).2, (za A4).1, hs2, za TM⟩
      have EQ : Hid (R = Pl.upS ⟨tt2, ⟨sp2, sk2, sd2, st2, sm2⟩, [e4, e5, e6, e7]⟩) := by rw [za ED, ← za GO, za EG]; exact rfl
      clear hs2 A4 TL TM EG GO
      have c0 := (za KA).seen.cell 0
      have c1 := (za KA).seen.cell 1
      have c2 := (za KA).seen.cell 2
      have c3 := (za KA).seen.cell 3
      have c4 := (za KA).seen.cell 4
      have c5 := (za KA).seen.cell 5
      have c6 := (za KA).seen.cell 6
      have c7 := (za KA).seen.cell 7
      have c8 := (za KA).seen.cell 8
      have c9 := (za KA).seen.cell 9
      simp only [Pl.Sg.cs, List.map_cons, List.map_nil, List.cons_append, List.nil_append, kA0, kA1, kA2] at c0 c1 c2 c3 c4 c5 c6 c7 c8 c9
      have hup := hide (fun W => up_any ⟨tt2, ⟨sp2, sk2, sd2, st2, sm2⟩, [e4, e5, e6, e7]⟩ W rfl (by have := (za KA).mark; omega))
      have HU4 := hide (Pl.up_len (s := ⟨tt2, ⟨sp2, sk2, sd2, st2, sm2⟩, [e4, e5, e6, e7]⟩) rfl)
      have ER : Hid (R = Pl.upS ⟨tt2, ⟨sp2, sk2, sd2, st2, sm2⟩, [e4, e5, e6, e7]⟩) := za EQ
      generalize Pl.upS ⟨tt2, ⟨sp2, sk2, sd2, st2, sm2⟩, [e4, e5, e6, e7]⟩ = U at hup HU4 ER
      obtain ⟨ut, ⟨up, uk, ud, un, um⟩, uh⟩ := U
      obtain ⟨g0, g1, g2, g3, rfl⟩ : ∃ h0 h1 h2 h3, uh = [h0, h1, h2, h3] := by
       match uh, za HU4 with
       | [a, b, c, d], _ => exact ⟨a, b, c, d, rfl⟩
      rw [show (Pl.Sg.cs ⟨tt2, ⟨sp2, sk2, sd2, st2, sm2⟩, [e4, e5, e6, e7]⟩).toArray = #[.bool tt2, .string sp2, .int .i64 sk2, .string sd2, .int .i64 st2, .int .i64 sm2, .bool e4, .bool e5, .bool e6, .bool e7] from rfl, show (Pl.Sg.cs ⟨ut, ⟨up, uk, ud, un, um⟩, [g0, g1, g2, g3]⟩).toArray = #[.bool ut, .string up, .int .i64 uk, .string ud, .int .i64 un, .int .i64 um, .bool g0, .bool g1, .bool g2, .bool g3] from rfl] at hup
      go_wp2_with fail
      refine (za hup _).mono ?_
      rintro e wU ⟨rfl, bU⟩
      have RU := (za KA).res.call bU
      have BU := (za KA).bel.trans (bU.mono (za KA).bel.size)
      clear c0 c1 c2 c3 c4 c5 c6 c7 c8 c9 hup bU
      have c0 := RU.cell 0
      have c1 := RU.cell 1
      have c2 := RU.cell 2
      have c3 := RU.cell 3
      have c4 := RU.cell 4
      have c5 := RU.cell 5
      have c6 := RU.cell 6
      have c7 := RU.cell 7
      have c8 := RU.cell 8
      have c9 := RU.cell 9
      have f0 := RU.fr 0
      have f1 := RU.fr 1
      have f2 := RU.fr 2
      have f3 := RU.fr 3
      have f4 := RU.fr 4
      have f5 := RU.fr 5
      have f6 := RU.fr 6
      have f7 := RU.fr 7
      have f8 := RU.fr 8
      have f9 := RU.fr 9
      simp only [Pl.Sg.zero, Pl.za7, Pl.Sg.cs, List.map_cons, List.map_nil, List.cons_append, List.nil_append, kA0, kA1, kA2] at c0 c1 c2 c3 c4 c5 c6 c7 c8 c9
      clear RU KA
      go_wp2
      refine bodyPost_ret (v := .agg #[.bool ut, .string up, .int .i64 uk, .string ud, .int .i64 un, .int .i64 um, .bool g0, .bool g1, .bool g2, .bool g3]) (by simp [results, Tryz.results195, go_sem, c0, c1, c2, c3, c4, c5, c6, c7, c8, c9]) rfl ⟨by rw [za ER]; rfl, ?_⟩
      exact ((((((((((BU.setCell (p := ⟨w.heap.size + 1, 0, none⟩) hR _).setCell (p := ⟨w.heap.size + 1, 1, none⟩) hR _).setCell (p := ⟨w.heap.size + 1, 2, none⟩) hR _).setCell (p := ⟨w.heap.size + 1, 3, none⟩) hR _).setCell (p := ⟨w.heap.size + 1, 4, none⟩) hR _).setCell (p := ⟨w.heap.size + 1, 5, none⟩) hR _).setCell (p := ⟨w.heap.size + 1, 6, none⟩) hR _).setCell (p := ⟨w.heap.size + 1, 7, none⟩) hR _).setCell (p := ⟨w.heap.size + 1, 8, none⟩) hR _).setCell (p := ⟨w.heap.size + 1, 9, none⟩) hR _)
  ·obtain rfl : k = Ls.length := by omega
   have y1 : ¬ ((Ls.length : Int) < (Ls.length : Int)) := by omega
   have KA := hide A
   clear A
   have c0 := (za KA).seen.cell 0
   have c1 := (za KA).seen.cell 1
   have c2 := (za KA).seen.cell 2
   have c3 := (za KA).seen.cell 3
   have c4 := (za KA).seen.cell 4
   have c5 := (za KA).seen.cell 5
   have c6 := (za KA).seen.cell 6
   have c7 := (za KA).seen.cell 7
   have c8 := (za KA).seen.cell 8
   have c9 := (za KA).seen.cell 9
   simp only [Pl.Sg.cs, List.map_cons, List.map_nil, List.cons_append, List.nil_append, kA0, kA1, kA2] at c0 c1 c2 c3 c4 c5 c6 c7 c8 c9
   have hup := hide (fun W => up_any ⟨tt, ⟨sp, sk, sd, st, sm⟩, [e0, e1, e2, e3]⟩ W rfl (by have := (za KA).mark; omega))
   have HU4 := hide (Pl.up_len (s := ⟨tt, ⟨sp, sk, sd, st, sm⟩, [e0, e1, e2, e3]⟩) rfl)
   have ER : Hid (R = Pl.upS ⟨tt, ⟨sp, sk, sd, st, sm⟩, [e0, e1, e2, e3]⟩) := by rw [za ED, ← (za KA).go, Pl.go_end (by rw [za HNL]; exact Nat.le_refl _)]; exact rfl
   generalize Pl.upS ⟨tt, ⟨sp, sk, sd, st, sm⟩, [e0, e1, e2, e3]⟩ = U at hup HU4 ER
   obtain ⟨ut, ⟨up, uk, ud, un, um⟩, uh⟩ := U
   obtain ⟨g0, g1, g2, g3, rfl⟩ : ∃ h0 h1 h2 h3, uh = [h0, h1, h2, h3] := by
    match uh, za HU4 with
    | [a, b, c, d], _ => exact ⟨a, b, c, d, rfl⟩
   rw [show (Pl.Sg.cs ⟨tt, ⟨sp, sk, sd, st, sm⟩, [e0, e1, e2, e3]⟩).toArray = #[.bool tt, .string sp, .int .i64 sk, .string sd, .int .i64 st, .int .i64 sm, .bool e0, .bool e1, .bool e2, .bool e3] from rfl, show (Pl.Sg.cs ⟨ut, ⟨up, uk, ud, un, um⟩, [g0, g1, g2, g3]⟩).toArray = #[.bool ut, .string up, .int .i64 uk, .string ud, .int .i64 un, .int .i64 um, .bool g0, .bool g1, .bool g2, .bool g3] from rfl] at hup
   go_wp2_with fail
   refine (za hup _).mono ?_
   rintro e wU ⟨rfl, bU⟩
   have RU := (za KA).res.call bU
   have BU := (za KA).bel.trans (bU.mono (za KA).bel.size)
   clear c0 c1 c2 c3 c4 c5 c6 c7 c8 c9 hup bU
   have c0 := RU.cell 0
   have c1 := RU.cell 1
   have c2 := RU.cell 2
   have c3 := RU.cell 3
   have c4 := RU.cell 4
   have c5 := RU.cell 5
   have c6 := RU.cell 6
   have c7 := RU.cell 7
   have c8 := RU.cell 8
   have c9 := RU.cell 9
   have f0 := RU.fr 0
   have f1 := RU.fr 1
   have f2 := RU.fr 2
   have f3 := RU.fr 3
   have f4 := RU.fr 4
   have f5 := RU.fr 5
   have f6 := RU.fr 6
   have f7 := RU.fr 7
   have f8 := RU.fr 8
   have f9 := RU.fr 9
   simp only [Pl.Sg.zero, Pl.za7, Pl.Sg.cs, List.map_cons, List.map_nil, List.cons_append, List.nil_append, kA0, kA1, kA2] at c0 c1 c2 c3 c4 c5 c6 c7 c8 c9
   clear RU KA
   go_wp2
   refine bodyPost_ret (v := .agg #[.bool ut, .string up, .int .i64 uk, .string ud, .int .i64 un, .int .i64 um, .bool g0, .bool g1, .bool g2, .bool g3]) (by simp [results, Tryz.results195, go_sem, c0, c1, c2, c3, c4, c5, c6, c7, c8, c9]) rfl ⟨by rw [za ER]; rfl, ?_⟩
   exact ((((((((((BU.setCell (p := ⟨w.heap.size + 1, 0, none⟩) hR _).setCell (p := ⟨w.heap.size + 1, 1, none⟩) hR _).setCell (p := ⟨w.heap.size + 1, 2, none⟩) hR _).setCell (p := ⟨w.heap.size + 1, 3, none⟩) hR _).setCell (p := ⟨w.heap.size + 1, 4, none⟩) hR _).setCell (p := ⟨w.heap.size + 1, 5, none⟩) hR _).setCell (p := ⟨w.heap.size + 1, 6, none⟩) hR _).setCell (p := ⟨w.heap.size + 1, 7, none⟩) hR _).setCell (p := ⟨w.heap.size + 1, 8, none⟩) hR _).setCell (p := ⟨w.heap.size + 1, 9, none⟩) hR _)
end zk7
end Go.Proofs.YtppmlbofhghghaaGreatDoor

namespace Go.Proofs.YtppmlbofhghghaaGreatDoor
open Go.RowKit Go.Shelf
attribute [local go_sem] Oper.semAt_some
namespace Pl
def zo4 (Ls : List (List Nd)) (s : Sg) (ps : List ByteArray) : Sg := ps.foldl (fun s p => decS (nsOf s.have' Ls p)) s
def zd0 (Ls : List (List Nd)) (p : ByteArray) : Sg := zo4 Ls (zu0 Ls.length) (ways (zb2 p) (zb2 p).length)
theorem ye2 (Ls : List (List Nd)) (s : Sg) (ps : List ByteArray) (p : ByteArray) : zo4 Ls s (ps ++ [p]) = decS (nsOf (zo4 Ls s ps).have' Ls p) := by simp [zo4]
theorem go_len : ∀ (ns : List (Option Nd)) (k : Nat) (s : Sg), s.have'.length = 4 → (goD k s ns).have'.length = 4 := by
 intro ns
 induction ns with
 | nil => intro k s h; exact h
 | cons x ns ih =>
  intro k s h
  cases x with
  | none => exact ih _ _ h
  | some n =>
   rw [goD]
   split
   ·rw [take_len]; exact h
   ·exact ih _ _ (by rw [take_len]; exact h)
theorem dec_len (ns : List (Option Nd)) : (decS ns).have'.length = 4 := up_len (go_len ns 0 Sg.zero rfl)
theorem walk_len (Ls : List (List Nd)) (n : Nat) : ∀ ps : List ByteArray, (zo4 Ls (zu0 n) ps).have'.length = 4 := by
 intro ps
 rcases List.eq_nil_or_concat ps with rfl | ⟨qs, q, rfl⟩
 ·rfl
 ·rw [List.concat_eq_append, ye2]; exact dec_len _
end Pl
namespace zk7
structure On (w W : World) (X : Nat) (v : Value) (FT : TypeId) (s : Pl.Sg) : Prop where
 bel : Below w.heap.size w W
 res : Mem.Blk W w.heap.size Pl.Sg.zero.cs.toArray 241
 box : Mem.Blk W (w.heap.size + 1) #[v] 194
 fn : Mem.Blk W (w.heap.size + 1 + 1) #[.func (.func 195) #[] #[.pointer (some ⟨w.heap.size + 1, 0, none⟩)]] FT
 seen : Mem.Blk W X s.cs.toArray 241
 len : s.have'.length = 4
 at_ : w.heap.size + 1 + 1 < X
theorem yh1 {W W' : World} {j : Nat} {cs : Array Value} {T : TypeId} {row : Option Nat} (h : Mem.Blk W j cs T) (g : W.grownBy W' row) (hr : ∀ r, row = some r → ∃ o : Obj, W.heap[r]? = some o ∧ o.isCells = false) : Mem.Blk W' j cs T :=
 h.grown g (fun e => by
  obtain ⟨o, ho, hc⟩ := hr j e.symm
  have h2 : W.heap[j]? = some (.cells cs T (0, 0)) := h
  rw [h2] at ho
  cases ho
  cases hc)
theorem On.own {w W W' : World} {X : Nat} {v : Value} {FT : TypeId} {s : Pl.Sg} {row : Option Nat} {B : Nat} (h : On w W X v FT s) (g : W.grownBy W' row) (hB : w.heap.size ≤ B) (hr : ∀ r, row = some r → B ≤ r ∧ ∃ o : Obj, W.heap[r]? = some o ∧ o.isCells = false) : On w W' X v FT s :=
 ⟨h.bel.grown g h.bel.size (fun q hq => Nat.le_trans hB (hr q hq).1), yh1 h.res g (fun r e => (hr r e).2), yh1 h.box g (fun r e => (hr r e).2), yh1 h.fn g (fun r e => (hr r e).2), yh1 h.seen g (fun r e => (hr r e).2), h.len, h.at_⟩
theorem On.call {w W W' : World} {X : Nat} {v : Value} {FT : TypeId} {s : Pl.Sg} (h : On w W X v FT s) (b : Below W.heap.size W W') : On w W' X v FT s :=
 ⟨h.bel.trans (b.mono h.bel.size), h.res.call b, h.box.call b, h.fn.call b, h.seen.call b, h.len, h.at_⟩
set_option maxRecDepth 100000 in
theorem on_step {w W w2 : World} {X : Nat} {v : Value} {FT : TypeId} (st : Bool) (sn : Pl.Nd) (e0 e1 e2 e3 : Bool) (h : On w W X v FT ⟨st, sn, [e0, e1, e2, e3]⟩) (b : Below W.heap.size W w2) (ut : Bool) (up : ByteArray) (uk : Int) (ud : ByteArray) (un um : Int) (v0 v1 v2 v3 : Bool) :
  On w ((((((((((w2.setCell ⟨X, 0, none⟩ (.bool ut)).setCell ⟨X, 1, none⟩ (.string up)).setCell ⟨X, 2, none⟩ (.int .i64 uk)).setCell ⟨X, 3, none⟩ (.string ud)).setCell ⟨X, 4, none⟩ (.int .i64 un)).setCell ⟨X, 5, none⟩ (.int .i64 um)).setCell ⟨X, 6, none⟩ (.bool v0)).setCell ⟨X, 7, none⟩ (.bool v1)).setCell ⟨X, 8, none⟩ (.bool v2)).setCell ⟨X, 9, none⟩ (.bool v3)) X v FT ⟨ut, ⟨up, uk, ud, un, um⟩, [v0, v1, v2, v3]⟩ ∧ KeepsOthers W ((((((((((w2.setCell ⟨X, 0, none⟩ (.bool ut)).setCell ⟨X, 1, none⟩ (.string up)).setCell ⟨X, 2, none⟩ (.int .i64 uk)).setCell ⟨X, 3, none⟩ (.string ud)).setCell ⟨X, 4, none⟩ (.int .i64 un)).setCell ⟨X, 5, none⟩ (.int .i64 um)).setCell ⟨X, 6, none⟩ (.bool v0)).setCell ⟨X, 7, none⟩ (.bool v1)).setCell ⟨X, 8, none⟩ (.bool v2)).setCell ⟨X, 9, none⟩ (.bool v3)) ∧ zk2.KC X W ((((((((((w2.setCell ⟨X, 0, none⟩ (.bool ut)).setCell ⟨X, 1, none⟩ (.string up)).setCell ⟨X, 2, none⟩ (.int .i64 uk)).setCell ⟨X, 3, none⟩ (.string ud)).setCell ⟨X, 4, none⟩ (.int .i64 un)).setCell ⟨X, 5, none⟩ (.int .i64 um)).setCell ⟨X, 6, none⟩ (.bool v0)).setCell ⟨X, 7, none⟩ (.bool v1)).setCell ⟨X, 8, none⟩ (.bool v2)).setCell ⟨X, 9, none⟩ (.bool v3)) := by
 have G : W.grownBy ((((((((((w2.setCell ⟨X, 0, none⟩ (.bool ut)).setCell ⟨X, 1, none⟩ (.string up)).setCell ⟨X, 2, none⟩ (.int .i64 uk)).setCell ⟨X, 3, none⟩ (.string ud)).setCell ⟨X, 4, none⟩ (.int .i64 un)).setCell ⟨X, 5, none⟩ (.int .i64 um)).setCell ⟨X, 6, none⟩ (.bool v0)).setCell ⟨X, 7, none⟩ (.bool v1)).setCell ⟨X, 8, none⟩ (.bool v2)).setCell ⟨X, 9, none⟩ (.bool v3)) (some X) := (zd7 (zd7 (zd7 (zd7 (zd7 (zd7 (zd7 (zd7 (zd7 (zd7 (Mem.zc9 b (some X)) 0 (.bool ut)) 1 (.string up)) 2 (.int .i64 uk)) 3 (.string ud)) 4 (.int .i64 un)) 5 (.int .i64 um)) 6 (.bool v0)) 7 (.bool v1)) 8 (.bool v2)) 9 (.bool v3))
 have S : Mem.Blk ((((((((((w2.setCell ⟨X, 0, none⟩ (.bool ut)).setCell ⟨X, 1, none⟩ (.string up)).setCell ⟨X, 2, none⟩ (.int .i64 uk)).setCell ⟨X, 3, none⟩ (.string ud)).setCell ⟨X, 4, none⟩ (.int .i64 un)).setCell ⟨X, 5, none⟩ (.int .i64 um)).setCell ⟨X, 6, none⟩ (.bool v0)).setCell ⟨X, 7, none⟩ (.bool v1)).setCell ⟨X, 8, none⟩ (.bool v2)).setCell ⟨X, 9, none⟩ (.bool v3)) X (Pl.Sg.cs ⟨ut, ⟨up, uk, ud, un, um⟩, [v0, v1, v2, v3]⟩).toArray 241 := by
  have h2 := (((((((((((h.seen.call b).put 0 (.bool ut)).put 1 (.string up)).put 2 (.int .i64 uk)).put 3 (.string ud)).put 4 (.int .i64 un)).put 5 (.int .i64 um)).put 6 (.bool v0)).put 7 (.bool v1)).put 8 (.bool v2)).put 9 (.bool v3))
  simp only [kB3] at h2
  exact h2
 have hX := h.at_
 have hs : W.heap[X]? = some (.cells (Pl.Sg.cs ⟨st, sn, [e0, e1, e2, e3]⟩).toArray 241 (0, 0)) := h.seen
 generalize ((((((((((w2.setCell ⟨X, 0, none⟩ (.bool ut)).setCell ⟨X, 1, none⟩ (.string up)).setCell ⟨X, 2, none⟩ (.int .i64 uk)).setCell ⟨X, 3, none⟩ (.string ud)).setCell ⟨X, 4, none⟩ (.int .i64 un)).setCell ⟨X, 5, none⟩ (.int .i64 um)).setCell ⟨X, 6, none⟩ (.bool v0)).setCell ⟨X, 7, none⟩ (.bool v1)).setCell ⟨X, 8, none⟩ (.bool v2)).setCell ⟨X, 9, none⟩ (.bool v3)) = W2 at G S ⊢
 refine ⟨⟨h.bel.grown G h.bel.size (fun q hq => by cases hq; omega), h.res.grown G (fun e => by have := Option.some.inj e; omega), h.box.grown G (fun e => by have := Option.some.inj e; omega), h.fn.grown G (fun e => by have := Option.some.inj e; omega), S, rfl, hX⟩, ?_, ?_⟩
 ·exact KeepsOthers.of_grownBy G (fun j o e ho => by cases e; rw [hs] at ho; cases ho; rfl)
 ·exact ⟨G.size, fun j o hj ho _ => (G.block j (Array.getElem?_eq_some_iff.1 ho).1 (fun e => hj (Option.some.inj e))).trans ho⟩
set_option linter.unusedSimpArgs false in
set_option maxRecDepth 100000 in
set_option maxHeartbeats 4000000 in
theorem seen_any (B : Nat) (v : Value) (Bs : List Nat) (Ls : List (List Pl.Nd)) (p : ByteArray) (w : World) (hov : zi0.Ov w B v Bs Ls) (h4 : Ls.length ≤ 4) (htr : ∀ L ∈ Ls, Pl.za5 L = true) (hp : p.size ≤ 1048576) :
  Calls Tryz.prog 192 #[v, .string p] w fun e w' => e = .returned (.agg (Pl.zd0 Ls p).cs.toArray) ∧ Below w.heap.size w w' := by
 obtain ⟨a, cap, rfl⟩ := zu3 hov
 have HDE := hide (fun (W : World) (b : Below w.heap.size w W) (x : ByteArray) (a0 a1 a2 a3 : Bool) (hq : W.cell? ⟨w.heap.size + 1, 0, none⟩ = some (.slice a Ls.length cap)) (hl : w.heap.size + 1 < W.heap.size) (hx : x.size ≤ 1048576) => dec_any ⟨w.heap.size + 1, 0, none⟩ x a0 a1 a2 a3 B (.slice a Ls.length cap) Bs Ls W hq hl (hov.call b) h4 htr hx)
 have ES : Hid (Pl.zd0 Ls p = Pl.zo4 Ls (Pl.zu0 Ls.length) (Pl.ways (Pl.zb2 p) (Pl.zb2 p).length)) := rfl
 generalize Pl.zd0 Ls p = R at ES ⊢
 have HRO := hide (fun W => root_any a Ls.length cap W h4)
 have HWL := hide (fun ps => Pl.walk_len Ls Ls.length ps)
 have HWS := hide (fun ps q => Pl.ye2 Ls (Pl.zu0 Ls.length) ps q)
 obtain ⟨g0, g1, g2, g3, hrt⟩ : ∃ g0 g1 g2 g3, Pl.zu0 Ls.length = ⟨false, Pl.za7, [g0, g1, g2, g3]⟩ := ⟨_, _, _, _, rfl⟩
 rw [hrt] at HRO ES HWL HWS
 have HL0 := hide (za HWL [])
 rw [show (Pl.Sg.cs ⟨false, Pl.za7, [g0, g1, g2, g3]⟩).toArray = #[.bool false, .string ⟨#[]⟩, .int .i64 0, .string ⟨#[]⟩, .int .i64 0, .int .i64 0, .bool g0, .bool g1, .bool g2, .bool g3] from rfl] at HRO
 clear hrt
 refine (callsIn_wide (n := 3)).1 ?_
 refine callsIn_of_wp_marks Tryz.func192 rfl trivial ?_ rfl
 simp only [Tryz.ntmps192, List.size_toArray, List.length_cons, List.length_nil, Nat.reduceAdd, Nat.reduceSub, Array.replicate_succ, Array.replicate_zero, List.push_toArray, List.append_toArray, List.nil_append, List.cons_append]
 gi_wp2_with fail
 refine ⟨trivial, ?_⟩
 refine (callsIn_wide.2 (dec_make a Ls.length cap _)).mono ?_
 rintro e w1 ⟨rfl, hw1⟩
 rw [show (w.alloc (.cells #[.bool false, .string ⟨#[]⟩, .int .i64 0, .string ⟨#[]⟩, .int .i64 0, .int .i64 0, .bool false, .bool false, .bool false, .bool false] 241)).heap.size = w.heap.size + 1 by simp]
 have z1 : w1.heap.size = w.heap.size + 1 + 1 := by rw [hw1]; simp
 have b1 : Below w.heap.size w w1 := by rw [hw1]; exact ((Below.refl _ _).alloc (Nat.le_refl _) _).alloc (by simp) _
 have R1 : Mem.Blk w1 w.heap.size Pl.Sg.zero.cs.toArray 241 := by rw [hw1]; exact (Mem.Blk.new _ _ _).alloc _
 have O1 : Mem.Blk w1 (w.heap.size + 1) #[.slice a Ls.length cap] 194 := by rw [hw1]; exact Mem.zg0 _ _ _
 have Z1 := hide z1
 clear hw1 z1
 gi_wp2_with fail
 refine ⟨trivial, ?_⟩
 have hz1 := za Z1
 have F2 : Mem.Blk (w1.alloc (.cells #[.func (.func 195) #[] #[.pointer (some ⟨w.heap.size + 1, 0, none⟩)]] 243)) w1.heap.size #[.func (.func 195) #[] #[.pointer (some ⟨w.heap.size + 1, 0, none⟩)]] 243 := Mem.Blk.new _ _ _
 have b2 := b1.alloc b1.size (.cells #[.func (.func 195) #[] #[.pointer (some ⟨w.heap.size + 1, 0, none⟩)]] 243)
 have R2 := R1.alloc (.cells #[.func (.func 195) #[] #[.pointer (some ⟨w.heap.size + 1, 0, none⟩)]] 243)
 have O2 := O1.alloc (.cells #[.func (.func 195) #[] #[.pointer (some ⟨w.heap.size + 1, 0, none⟩)]] 243)
 rw [za Z1] at F2
 refine (callsIn_wide.2 (za HRO _)).mono ?_
 rintro e w3 ⟨rfl, b3⟩
 have X3 : w.heap.size + 1 + 1 < w3.heap.size := by have := b3.size; simp at this; omega
 have O3 : Hid (On w (w3.alloc (.cells #[.bool false, .string ⟨#[]⟩, .int .i64 0, .string ⟨#[]⟩, .int .i64 0, .int .i64 0, .bool g0, .bool g1, .bool g2, .bool g3] 241)) w3.heap.size (.slice a Ls.length cap) 243 (Pl.zo4 Ls ⟨false, Pl.za7, [g0, g1, g2, g3]⟩ [])) :=
  ⟨(b2.trans (b3.mono b2.size)).alloc (b2.trans (b3.mono b2.size)).size _, (R2.call b3).alloc _, (O2.call b3).alloc _, (F2.call b3).alloc _, Mem.Blk.new _ _ _, rfl, X3⟩
 clear b1 R1 O1 b2 R2 O2 F2 b3 hz1
 have Z3 : Hid (w1.heap.size = w.heap.size + 1 + 1) := Z1
 gi_wp2_with fail
 refine ⟨trivial, ?_⟩
 refine (callsIn_wide.2 (zk2.paths_any p _)).mono ?_
 rintro e w5 ⟨rfl, hw5⟩
 rw [show (w3.alloc (.cells #[.bool false, .string ⟨#[]⟩, .int .i64 0, .string ⟨#[]⟩, .int .i64 0, .int .i64 0, .bool g0, .bool g1, .bool g2, .bool g3] 241)).heap.size = w3.heap.size + 1 by simp]
 have O5 : Hid (On w w5 w3.heap.size (.slice a Ls.length cap) 243 (Pl.zo4 Ls ⟨false, Pl.za7, [g0, g1, g2, g3]⟩ [])) := by rw [hw5]; exact (za O3).call ((Below.refl _ _).alloc (Nat.le_refl _) _)
 have P5 : Mem.Blk w5 (w3.heap.size + 1) #[.string p] 9 := by rw [hw5]; exact Mem.zg0 _ _ _
 have z5 : w5.heap.size = w3.heap.size + 1 + 1 := by rw [hw5]; simp
 have q5 := P5.cell 0
 simp only [kA0, kA1] at q5
 have Q5 := hide q5
 have Z5 := hide z5
 clear hw5 O3 P5 q5 z5
 generalize w3.heap.size = X at O5 Q5 Z5 X3 ⊢
 gi_wp2_with fail
 rw [za Z1]
 refine wpIn_rangeFunc_ownF rfl (by omega) (gf := 149) (lb := #[.pointer (some ⟨X + 1, 0, none⟩)]) rfl trivial (enters_of Tryz.func149 (by kernel_rfl) rfl)
  (zk2.iter_stops 2 X ⟨X + 1, 0, none⟩ p w5 (by rw [za Z5]; omega) (za Q5) (by show X + 1 < _; rw [za Z5]; omega) hp) zk2.KC.trans (fun W l o o' _ hl ho _ => zk2.KC.put W o o' hl ho) (Below.refl _ _) (fun _ => rfl)
  (fun (pre : List zk2.Small) W => On w W X (.slice a Ls.length cap) 243 (Pl.zo4 Ls ⟨false, Pl.za7, [g0, g1, g2, g3]⟩ (pre.map Subtype.val)))
  (fun _ _ _ => False)
  (fun s A A' row hs hg hr => On.own hs hg (za O5).bel.size hr)
  (fun _ _ _ _ _ hs _ _ => hs)
  (za O5)
  (fun x => { tmps := #[.slice a Ls.length cap, .string p, undef, undef, .pointer (some ⟨w.heap.size, 0, none⟩), .pointer (some ⟨w.heap.size + 1 + 1, 0, none⟩), .pointer (some ⟨X, 0, none⟩), .string x.1, .slice a Ls.length cap, .func (.func 195) #[] #[.pointer (some ⟨w.heap.size + 1, 0, none⟩)], .slice a Ls.length cap, .agg #[.bool false, .string ⟨#[]⟩, .int .i64 0, .string ⟨#[]⟩, .int .i64 0, .int .i64 0, .bool g0, .bool g1, .bool g2, .bool g3], .string p, .func (.func 149) #[] #[.pointer (some ⟨X + 1, 0, none⟩)], .string x.1, undef, undef, undef, undef, undef, undef], defers := [] }) ?assign ?body ?done ?stop
 case assign =>
  intro l x W K hK
  gi_wp2
  exact hK
 case body =>
  rintro l pre ⟨x, hx⟩ W hI _
  have HS := hide (za HWS (pre.map Subtype.val) x)
  have HM : Hid ((pre ++ [(⟨x, hx⟩ : zk2.Small)]).map Subtype.val = pre.map Subtype.val ++ [x]) := by rw [List.map_append]; exact rfl
  generalize Pl.zo4 Ls ⟨false, Pl.za7, [g0, g1, g2, g3]⟩ (pre.map Subtype.val) = s at hI HS
  obtain ⟨tt, sn, sh⟩ := s
  obtain ⟨e0, e1, e2, e3, rfl⟩ : ∃ h0 h1 h2 h3, sh = [h0, h1, h2, h3] := by
   match sh, hI.len with
   | [a, b, c, d], _ => exact ⟨a, b, c, d, rfl⟩
  have hd := hide (za HDE W hI.bel x e0 e1 e2 e3 (by have := hI.box.cell 0; simpa using this) hI.box.lt (by omega))
  have HU4 := hide (Pl.dec_len (Pl.nsOf [e0, e1, e2, e3] Ls x))
  simp only at HS
  generalize Pl.decS (Pl.nsOf [e0, e1, e2, e3] Ls x) = U at hd HU4 HS
  obtain ⟨ut, ⟨up, uk, ud, un, um⟩, uh⟩ := U
  obtain ⟨v0, v1, v2, v3, rfl⟩ : ∃ h0 h1 h2 h3, uh = [h0, h1, h2, h3] := by
   match uh, za HU4 with
   | [a, b, c, d], _ => exact ⟨a, b, c, d, rfl⟩
  rw [show (Pl.Sg.cs ⟨ut, ⟨up, uk, ud, un, um⟩, [v0, v1, v2, v3]⟩).toArray = #[.bool ut, .string up, .int .i64 uk, .string ud, .int .i64 un, .int .i64 um, .bool v0, .bool v1, .bool v2, .bool v3] from rfl] at hd
  have k0 := hI.fn.cell 0
  have c6 := hI.seen.cell 6
  have c7 := hI.seen.cell 7
  have c8 := hI.seen.cell 8
  have c9 := hI.seen.cell 9
  simp only [Pl.Sg.cs, List.map_cons, List.map_nil, List.cons_append, List.nil_append, kA0, kA1, kA2] at k0 c6 c7 c8 c9
  have KI := hide hI
  clear hI HU4
  gi_wp2_with fail
  refine ⟨trivial, ?_⟩
  refine (CallsIn.inRound l (callsIn_wide.2 (za hd))).mono ?_
  rintro e w2 ⟨rfl, b2⟩
  have ST := hide (on_step tt sn e0 e1 e2 e3 (za KI) b2 ut up uk ud un um v0 v1 v2 v3)
  clear hd c6 c7 c8 c9 k0
  have S2 := (za KI).seen.call b2
  have c0 := S2.cell 0
  have f0 := S2.fr 0
  have c1 := S2.cell 1
  have f1 := S2.fr 1
  have c2 := S2.cell 2
  have f2 := S2.fr 2
  have c3 := S2.cell 3
  have f3 := S2.fr 3
  have c4 := S2.cell 4
  have f4 := S2.fr 4
  have c5 := S2.cell 5
  have f5 := S2.fr 5
  have c6 := S2.cell 6
  have f6 := S2.fr 6
  have c7 := S2.cell 7
  have f7 := S2.fr 7
  have c8 := S2.cell 8
  have f8 := S2.fr 8
  have c9 := S2.cell 9
  have f9 := S2.fr 9
  simp only [Pl.Sg.cs, List.map_cons, List.map_nil, List.cons_append, List.nil_append, kA0, kA1, kA2] at c0 c1 c2 c3 c4 c5 c6 c7 c8 c9
  clear S2 KI b2
  gi_wp2
  exact ⟨(za ST).2.1, (za ST).2.2, by
   have h := (za ST).1
   rw [← za HS, ← za HM] at h
   exact h⟩
 case done =>
  rintro D ys W hD hy hI hK
  rw [hy, ← za ES] at hI
  have hlen := hI.len
  obtain ⟨ut, ⟨up, uk, ud, un, um⟩, uh⟩ := R
  obtain ⟨v0, v1, v2, v3, rfl⟩ : ∃ h0 h1 h2 h3, uh = [h0, h1, h2, h3] := by
   match uh, hlen with
   | [a, b, c, d], _ => exact ⟨a, b, c, d, rfl⟩
  have c0 := hI.seen.cell 0
  have d0 := hI.res.cell 0
  have f0 := hI.res.fr 0
  have c1 := hI.seen.cell 1
  have d1 := hI.res.cell 1
  have f1 := hI.res.fr 1
  have c2 := hI.seen.cell 2
  have d2 := hI.res.cell 2
  have f2 := hI.res.fr 2
  have c3 := hI.seen.cell 3
  have d3 := hI.res.cell 3
  have f3 := hI.res.fr 3
  have c4 := hI.seen.cell 4
  have d4 := hI.res.cell 4
  have f4 := hI.res.fr 4
  have c5 := hI.seen.cell 5
  have d5 := hI.res.cell 5
  have f5 := hI.res.fr 5
  have c6 := hI.seen.cell 6
  have d6 := hI.res.cell 6
  have f6 := hI.res.fr 6
  have c7 := hI.seen.cell 7
  have d7 := hI.res.cell 7
  have f7 := hI.res.fr 7
  have c8 := hI.seen.cell 8
  have d8 := hI.res.cell 8
  have f8 := hI.res.fr 8
  have c9 := hI.seen.cell 9
  have d9 := hI.res.cell 9
  have f9 := hI.res.fr 9
  simp only [Pl.Sg.zero, Pl.za7, Pl.Sg.cs, List.map_cons, List.map_nil, List.cons_append, List.nil_append, kA0, kA1, kA2] at c0 c1 c2 c3 c4 c5 c6 c7 c8 c9 d0 d1 d2 d3 d4 d5 d6 d7 d8 d9
  have S9 : Mem.Blk ((((((((((W.setCell ⟨w.heap.size, 0, none⟩ (.bool ut)).setCell ⟨w.heap.size, 1, none⟩ (.string up)).setCell ⟨w.heap.size, 2, none⟩ (.int .i64 uk)).setCell ⟨w.heap.size, 3, none⟩ (.string ud)).setCell ⟨w.heap.size, 4, none⟩ (.int .i64 un)).setCell ⟨w.heap.size, 5, none⟩ (.int .i64 um)).setCell ⟨w.heap.size, 6, none⟩ (.bool v0)).setCell ⟨w.heap.size, 7, none⟩ (.bool v1)).setCell ⟨w.heap.size, 8, none⟩ (.bool v2)).setCell ⟨w.heap.size, 9, none⟩ (.bool v3)) w.heap.size #[.bool ut, .string up, .int .i64 uk, .string ud, .int .i64 un, .int .i64 um, .bool v0, .bool v1, .bool v2, .bool v3] 241 := by
   have h2 := ((((((((((hI.res.put 0 (.bool ut)).put 1 (.string up)).put 2 (.int .i64 uk)).put 3 (.string ud)).put 4 (.int .i64 un)).put 5 (.int .i64 um)).put 6 (.bool v0)).put 7 (.bool v1)).put 8 (.bool v2)).put 9 (.bool v3))
   simp only [kB3] at h2
   exact h2
  have K9 : ((((((((((W.setCell ⟨w.heap.size, 0, none⟩ (.bool ut)).setCell ⟨w.heap.size, 1, none⟩ (.string up)).setCell ⟨w.heap.size, 2, none⟩ (.int .i64 uk)).setCell ⟨w.heap.size, 3, none⟩ (.string ud)).setCell ⟨w.heap.size, 4, none⟩ (.int .i64 un)).setCell ⟨w.heap.size, 5, none⟩ (.int .i64 um)).setCell ⟨w.heap.size, 6, none⟩ (.bool v0)).setCell ⟨w.heap.size, 7, none⟩ (.bool v1)).setCell ⟨w.heap.size, 8, none⟩ (.bool v2)).setCell ⟨w.heap.size, 9, none⟩ (.bool v3)).heap[D]? = some (.deferred (some [])) := (KeepsOthers.trans (KeepsOthers.trans (KeepsOthers.trans (KeepsOthers.trans (KeepsOthers.trans (KeepsOthers.trans (KeepsOthers.trans (KeepsOthers.trans (KeepsOthers.trans (KeepsOthers.trans (KeepsOthers.refl W) (KeepsOthers.setCell _ ⟨w.heap.size, 0, none⟩ (.bool ut))) (KeepsOthers.setCell _ ⟨w.heap.size, 1, none⟩ (.string up))) (KeepsOthers.setCell _ ⟨w.heap.size, 2, none⟩ (.int .i64 uk))) (KeepsOthers.setCell _ ⟨w.heap.size, 3, none⟩ (.string ud))) (KeepsOthers.setCell _ ⟨w.heap.size, 4, none⟩ (.int .i64 un))) (KeepsOthers.setCell _ ⟨w.heap.size, 5, none⟩ (.int .i64 um))) (KeepsOthers.setCell _ ⟨w.heap.size, 6, none⟩ (.bool v0))) (KeepsOthers.setCell _ ⟨w.heap.size, 7, none⟩ (.bool v1))) (KeepsOthers.setCell _ ⟨w.heap.size, 8, none⟩ (.bool v2))) (KeepsOthers.setCell _ ⟨w.heap.size, 9, none⟩ (.bool v3))).same D _ hK rfl
  have B9 : Below w.heap.size w ((((((((((W.setCell ⟨w.heap.size, 0, none⟩ (.bool ut)).setCell ⟨w.heap.size, 1, none⟩ (.string up)).setCell ⟨w.heap.size, 2, none⟩ (.int .i64 uk)).setCell ⟨w.heap.size, 3, none⟩ (.string ud)).setCell ⟨w.heap.size, 4, none⟩ (.int .i64 un)).setCell ⟨w.heap.size, 5, none⟩ (.int .i64 um)).setCell ⟨w.heap.size, 6, none⟩ (.bool v0)).setCell ⟨w.heap.size, 7, none⟩ (.bool v1)).setCell ⟨w.heap.size, 8, none⟩ (.bool v2)).setCell ⟨w.heap.size, 9, none⟩ (.bool v3)) := ((((((((((hI.bel.setCell (p := ⟨w.heap.size, 0, none⟩) (Nat.le_refl _) (.bool ut)).setCell (p := ⟨w.heap.size, 1, none⟩) (Nat.le_refl _) (.string up)).setCell (p := ⟨w.heap.size, 2, none⟩) (Nat.le_refl _) (.int .i64 uk)).setCell (p := ⟨w.heap.size, 3, none⟩) (Nat.le_refl _) (.string ud)).setCell (p := ⟨w.heap.size, 4, none⟩) (Nat.le_refl _) (.int .i64 un)).setCell (p := ⟨w.heap.size, 5, none⟩) (Nat.le_refl _) (.int .i64 um)).setCell (p := ⟨w.heap.size, 6, none⟩) (Nat.le_refl _) (.bool v0)).setCell (p := ⟨w.heap.size, 7, none⟩) (Nat.le_refl _) (.bool v1)).setCell (p := ⟨w.heap.size, 8, none⟩) (Nat.le_refl _) (.bool v2)).setCell (p := ⟨w.heap.size, 9, none⟩) (Nat.le_refl _) (.bool v3))
  have R9 := yh1 S9 (grownBy_putObj' _ D (.deferred none)) (fun r e => by cases e; exact ⟨_, K9, rfl⟩)
  have hDw : w.heap.size ≤ D := Nat.le_trans (za O5).bel.size hD
  have B10 := B9.grown (grownBy_putObj' _ D (.deferred none)) B9.size (fun q hq => by cases hq; exact hDw)
  have r0 := R9.cell 0
  have r1 := R9.cell 1
  have r2 := R9.cell 2
  have r3 := R9.cell 3
  have r4 := R9.cell 4
  have r5 := R9.cell 5
  have r6 := R9.cell 6
  have r7 := R9.cell 7
  have r8 := R9.cell 8
  have r9 := R9.cell 9
  simp only [kA0, kA1, kA2] at r0 r1 r2 r3 r4 r5 r6 r7 r8 r9
  have RR := hide (⟨r0, r1, r2, r3, r4, r5, r6, r7, r8, r9⟩ : _ ∧ _ ∧ _ ∧ _ ∧ _ ∧ _ ∧ _ ∧ _ ∧ _ ∧ _)
  have K10 := hide K9
  have B11 := hide B10
  clear r0 r1 r2 r3 r4 r5 r6 r7 r8 r9 S9 K9 B9 R9 B10
  clear hI hlen hK
  gi_wp2
  refine ⟨by simp, .inl ⟨_, _, rfl, run_takeDeferred (za K10), ?_⟩⟩
  obtain ⟨r0, r1, r2, r3, r4, r5, r6, r7, r8, r9⟩ := za RR
  exact ⟨.agg #[.bool ut, .string up, .int .i64 uk, .string ud, .int .i64 un, .int .i64 um, .bool v0, .bool v1, .bool v2, .bool v3], by simp [results, Tryz.results192, go_sem, r0, r1, r2, r3, r4, r5, r6, r7, r8, r9], rfl, za B11⟩
 case stop =>
  rintro D c pre W _ _ h _
  exact h.elim
end zk7
end Go.Proofs.YtppmlbofhghghaaGreatDoor

