/- Several texts of one claim in one file: WCutI, WL07, WLeafR. -/
import Derived.Test.YtppmlbofhghghaaGreatDoorG04
import Derived.Test.YtppmlbofhghghaaGreatDoorG34
import Derived.Test.YtppmlbofhghghaaGreatDoorWTreeS
import Derived.Test.YtppmlbofhghghaaGreatDoorMapLook
import Derived.Test.YtppmlbofhghghaaGreatDoorG25
import Derived.Test.YtppmlbofhghghaaGreatDoorG36
namespace Go.Proofs.YtppmlbofhghghaaGreatDoor
open Go.RowKit Go.Maps
namespace MapN
theorem reads_del {D : DataW Unit} {C : List Pl.Nd} (h : Reads D C) (q : ByteArray) : Reads (D.del (key q)) (C.filter (fun n => !decide (n.path = q))) := by
 refine ⟨fun n hn => ?_, fun p c hc => ?_⟩
 ·rw [List.mem_filter] at hn
  have hne : n.path ≠ q := by simpa using hn.2
  rw [has_del_other (ya2 hne)]
  exact h.has n hn.1
 ·by_cases e : p = q
  ·exfalso
   subst e
   have a : ∀ z, dat c = z := fun z => by rw [← hc z]; exact atKey_del_same z
   have a2 := zt1 (a (dat ⟨p, c.kind + 1, p, 0, 0⟩))
   have a3 := congrArg Pl.Nd.kind a2
   simp only at a3
   omega
  ·have := h.ent p c (fun z => by rw [← hc z]; exact (atKey_del_other (ya2 e) z).symm)
   exact ⟨List.mem_filter.2 ⟨this.1, by rw [← this.2]; simpa using e⟩, this.2⟩
end MapN
namespace Pl
theorem left_step (L M : List Nd) {k : Nat} {m : Nd} (h : M[k]? = some m) : (L.filter (fun n => (M.take k).all (fun x => !decide (n.path = x.path)))).filter (fun n => !decide (n.path = m.path)) = L.filter (fun n => (M.take (k + 1)).all (fun x => !decide (n.path = x.path))) := by
 have h1 := List.getElem?_eq_some_iff.1 h
 rw [List.filter_filter]
 apply List.filter_congr
 intro n _
 rw [List.take_succ_eq_append_getElem h1.1, h1.2, List.all_append]
 simp [Bool.and_comm]
theorem left_end {L M : List Nd} {p : ByteArray} (hM : M = L.filter (fun n => zc0 n.path p)) : (L.filter (fun n => M.all (fun x => !decide (n.path = x.path)))).filter (fun n => !decide (n.path = p)) = L.filter (fun n => !zc0 n.path p && !decide (n.path = p)) := by
 rw [List.filter_filter]
 apply List.filter_congr
 intro n hn
 rw [Bool.and_comm]
 congr 1
 cases k : zc0 n.path p
 ·rw [Bool.not_false, List.all_eq_true]
  intro x hx
  rw [hM, List.mem_filter] at hx
  have : n.path ≠ x.path := fun e => by rw [e, hx.2] at k; cases k
  simpa using this
 ·rw [Bool.not_true, List.all_eq_false]
  exact ⟨n, by rw [hM]; exact List.mem_filter.2 ⟨hn, k⟩, by simp⟩
end Pl
namespace WCutI
theorem nodes_turn {w w' : World} {B : Nat} {a : Option Addr} {L : List Pl.Nd} {n : Nat} {D : DataW Unit} (h : Mem.za1 w a L) (hown : w.ownsMap Tryz.prog 9 MapN.elem B n D) (hg : w.grownBy w' (some B)) : Mem.za1 w' a L := fun i n hi => by
 obtain ⟨g, o, rfl, h2, h3, h4, h5, h6, h7⟩ := h i n hi
 have hne : some g ≠ some B := fun e => by
  cases e
  obtain ⟨es, clock, hb, _⟩ := hown
  simp [World.cell?, hb] at h3
 exact ⟨g, o, rfl, Nat.lt_of_lt_of_le h2 hg.size, hg.cell h3 hne, hg.cell h4 hne, hg.cell h5 hne, hg.cell h6 hne, hg.cell h7 hne⟩
structure At (w wr : World) (B N : Nat) (a : Option Addr) (L M : List Pl.Nd) (k : Nat) (D : DataW Unit) : Prop where
 grown : w.grownBy wr (some B)
 own : wr.ownsMap Tryz.prog 9 MapN.elem B N D
 reads : MapN.Reads D (L.filter (fun n => (M.take k).all (fun x => !decide (n.path = x.path))))
 nodes : Mem.za1 wr a M
set_option linter.unusedSimpArgs false in
set_option maxRecDepth 100000 in
set_option maxHeartbeats 2000000 in
theorem any (B N : Nat) (L : List Pl.Nd) (D : DataW Unit) (p : ByteArray) (w : World) (hown : w.ownsMap Tryz.prog 9 MapN.elem B N D) (hN : N ≤ 1000) (hR : MapN.Reads D L) (hC : L.Pairwise (fun a b => a.path ≠ b.path)) (hr : L.Pairwise (fun a b => Pl.ltP a.path b.path = true))
  (hok : ∀ n ∈ L, Pl.za3 n.path = true ∧ n.data.size ≤ 1048576) (hl : L.length ≤ 1000) (hp : p.size ≤ 1048576) :
  Calls Tryz.prog 128 #[.map (some B), .string p] w fun e w' => e = .returned (.tuple #[]) ∧ (∃ D', w'.ownsMap Tryz.prog 9 MapN.elem B N D' ∧ MapN.Reads D' (L.filter (fun n => !Pl.zc0 n.path p && !decide (n.path = p)))) ∧ w.grownBy w' (some B) := by
 have hun := hide (WUnderN.any B N L L D p w hown hN hR hC (List.Perm.refl _) hr hok hl hp)
 have HM := hide (Pl.piece_filter p L (fun n hn => (hok n hn).1) hr)
 have HMS : Hid (∀ m ∈ Pl.zg1 L p, m.path.size ≤ 1048576) := fun m hm => by
  rw [za HM, List.mem_filter] at hm
  have := Pl.zb8 (hok m hm.1).1; omega
 have hml : (Pl.zg1 L p).length ≤ 1000 := by rw [za HM]; exact Nat.le_trans (List.length_filter_le _ _) hl
 have hkp := MapN.zi9 (p := p) (by unfold maxLen; omega)
 have HO := hide hown
 have HR := hide hR
 clear hown hR hC hr hok
 generalize Pl.zg1 L p = M at hun HM HMS hml
 go_enter Tryz.func128, Tryz.ntmps128
 go_wp2_with fail
 refine (za hun).mono ?_
 rintro e w1 ⟨a, rfl, hnd, -, b1⟩
 have A0 : Hid (At w w1 B N a L M 0 D) := ⟨Mem.zc9 b1 _, zc2.zd6 (za HO) b1, by rw [List.filter_eq_self.2 (fun _ _ => by simp)]; exact za HR, hnd⟩
 clear hun hnd b1 HO HR
 go_wp2
 go_loopw [10] (fun i wr => ∃ k : Nat, k ≤ M.length ∧ i = .int .i64 (k : Int) ∧ Hid (∃ D', At w wr B N a L M k D')) (fun i _ => M.length - (intOf i).toNat)
 case atStart => exact ⟨0, Nat.zero_le _, rfl, ⟨_, za A0⟩⟩
 case round =>
  obtain ⟨k, hk, rfl, HA⟩ := hrel
  obtain ⟨D1, A⟩ := za HA
  have KA := hide A
  clear HA A A0
  by_cases hlt : k < M.length
  ·obtain ⟨n, hn⟩ : ∃ n, M[k]? = some n := ⟨_, List.getElem?_eq_getElem hlt⟩
   obtain ⟨b, o, rfl, hb, q0, q1, q2, q3, q4⟩ := (za KA).nodes k n hn
   have y1 : (k : Int) < (M.length : Int) := by omega
   have y3 : (0 : Int) ≤ (k : Int) := by omega
   have hkn := MapN.zi9 (p := n.path) (by have := za HMS n (List.mem_of_getElem? hn); unfold maxLen; omega)
   have EST := hide (Pl.left_step L M hn)
   have RD := hide (MapN.reads_del (za KA).reads n.path)
   rw [za EST] at RD
   clear hn EST
   obtain ⟨qp, qk, qd, qt, qm⟩ := n
   simp only at q0 q1 q2 q3 q4 hkn RD
   have OWD := (za KA).own.alloc (.cells #[.string qp, .int .i64 qk, .string qd, .int .i64 qt, .int .i64 qm] 47)
   have GW := (Mem.zj7 (za KA).grown (World.grownBy_alloc wr (.cells #[.string qp, .int .i64 qk, .string qd, .int .i64 qt, .int .i64 qm] 47) (some B)))
   have ND := Mem.za0 (za KA).nodes ((Below.refl _ _).alloc (Nat.le_refl _) (.cells #[.string qp, .int .i64 qk, .string qd, .int .i64 qt, .int .i64 qm] 47))
   clear KA
   go_wp2_with (at_delete; refine wpList_delete_own _ rfl _ _ 101 9 rfl 47 MapN.law Tryz.underlying101 _ B N D1 rfl OWD _ _ rfl hkn ?_)
   intro w2 hown2 hturn2
   have A2 : Hid (At w w2 B N (some ⟨b, o, none⟩) L M (k + 1) (D1.del (MapN.key qp))) := ⟨Mem.zj7 GW hturn2.grown, hown2, za RD, nodes_turn ND OWD hturn2.grown⟩
   clear OWD GW ND hown2 hturn2 RD
   go_wp2
   go_roundw
   case rel => exact ⟨k + 1, by omega, by go_num, ⟨_, za A2⟩⟩
   case measure => simp [intOf]; omega
  ·obtain rfl : k = M.length := by omega
   have y1 : ¬ ((M.length : Int) < (M.length : Int)) := by omega
   have RD := hide (MapN.reads_del (za KA).reads p)
   rw [List.take_length, Pl.left_end (za HM)] at RD
   go_wp2_with (at_delete; refine wpList_delete_own _ rfl _ _ 101 9 rfl 47 MapN.law Tryz.underlying101 _ B N D1 rfl (za KA).own _ _ rfl hkp ?_)
   intro w2 hown2 hturn2
   have FIN := hide (show (∃ D', w2.ownsMap Tryz.prog 9 MapN.elem B N D' ∧ MapN.Reads D' (L.filter (fun n => !Pl.zc0 n.path p && !decide (n.path = p)))) ∧ w.grownBy w2 (some B) from ⟨⟨_, hown2, za RD⟩, Mem.zj7 (za KA).grown hturn2.grown⟩)
   clear KA hown2 hturn2 RD HM HMS
   go_wp2
   go_end0
   exact ⟨rfl, za FIN⟩
end WCutI
end Go.Proofs.YtppmlbofhghghaaGreatDoor

namespace Go.Proofs.YtppmlbofhghghaaGreatDoor
open Go.RowKit
namespace Pl
def wayB (p : ByteArray) : Bool := decide (p.size ≠ 0) && za3 p
end Pl
namespace zc3
theorem at_none {L : List Pl.Nd} {p : ByteArray} {r : Int} (h : zk5.AtIs L p r) (hr : r < 0) : L.find? (fun m => decide (m.path = p)) = none := by
 rcases h.out with ⟨k, n, h1, _, _⟩ | ⟨_, h2⟩
 ·omega
 ·exact h2
theorem yc3 {L : List Pl.Nd} {p : ByteArray} {r : Int} (h : zk5.AtIs L p r) (hr : ¬ r < 0) : L.find? (fun m => decide (m.path = p)) ≠ none := by
 rcases h.out with ⟨k, n, _, _, h3⟩ | ⟨h1, _⟩
 ·rw [h3]; simp
 ·omega
set_option linter.unusedSimpArgs false in
set_option maxRecDepth 100000 in
theorem yn (p : ByteArray) (w : World) (hp : p.size ≤ 1048576) :
  Calls Tryz.prog 53 #[.string p] w fun e w' => e = .returned (.bool (Pl.wayB p)) ∧ Below w.heap.size w w' := by
 have hr := hide (fun W => zh1.right_one p W hp)
 by_cases hs : p.size = 0
 ·have t1 : p.toList.isEmpty = true := by rw [Pl.zf7]; simpa [Pl.zj6] using hs
  rw [show Pl.wayB p = false by simp [Pl.wayB, hs]]
  go_enter Tryz.func53, Tryz.ntmps53
  go_wp2
  go_ret
  exact ⟨rfl, Below.refl _ _⟩
 ·have t1 : p.toList.isEmpty = false := by rw [Pl.zf7]; simpa [Pl.zj6] using hs
  rw [show Pl.wayB p = Pl.za3 p by simp [Pl.wayB, hs]]
  go_enter Tryz.func53, Tryz.ntmps53
  go_wp2_with fail
  refine (za hr _).mono ?_
  rintro e w1 ⟨rfl, b1⟩
  go_wp2
  go_ret
  exact ⟨rfl, b1⟩
end zc3
end Go.Proofs.YtppmlbofhghghaaGreatDoor

namespace Go.Proofs.YtppmlbofhghghaaGreatDoor
open Go.RowKit Go.Maps
namespace Pl
def remL (L : List Nd) (p : ByteArray) (lev : Int) : List Nd := if 0 < lev then putL (offL p L) ⟨p, 0, ⟨#[]⟩, 0, lev⟩ else offL p L
def touN (S L : List Nd) (p : ByteArray) (t : Int) : Nd :=
 let d := (lk S p).getD za7
 ⟨d.path, d.kind, d.data, t, if d.kind = 1 then ((lk L p).getD za7).mark else d.mark⟩
end Pl
namespace zv7
theorem yo7 : (⟨#[]⟩ : ByteArray).size ≤ 1048576 := by decide
set_option linter.unusedSimpArgs false in
set_option maxRecDepth 100000 in
set_option maxHeartbeats 1000000 in
theorem remove_any (qf qs N : Nat) (lev : Int) (L : List Pl.Nd) (n : Pl.Nd) (w : World) (hL : Pl.zd9 L) (hn : Pl.za3 n.path = true) (hN : N ≤ 900) (hll : L.length ≤ 900) (hown : w.ownsMap Tryz.prog 9 MapN.elem qf N (MapN.mapOf L)) :
  Calls Tryz.prog 93 #[.agg #[.map (some qf), .map (some qs), .int .i64 lev], n.val] w fun e w' => Done w w' e qf (Pl.remL L n.path lev) := by
 have hp8 : n.path.size ≤ 8000 := by have := Pl.zb8 hn; omega
 obtain ⟨np, nk, nd, nt, nm⟩ := n
 simp only at hn hp8 ⊢
 have b0 : Below w.heap.size w ((w.alloc (.cells #[.map (some qf), .map (some qs), .int .i64 lev] 118)).alloc (.cells #[.string np, .int .i64 nk, .string nd, .int .i64 nt, .int .i64 nm] 47)) := ((Below.refl _ _).alloc (Nat.le_refl _) _).alloc (by simp) _
 have G0 := (Mem.Blk.new w #[.map (some qf), .map (some qs), .int .i64 lev] 118).alloc (.cells #[.string np, .int .i64 nk, .string nd, .int .i64 nt, .int .i64 nm] 47)
 have N0 : Mem.Blk ((w.alloc (.cells #[.map (some qf), .map (some qs), .int .i64 lev] 118)).alloc (.cells #[.string np, .int .i64 nk, .string nd, .int .i64 nt, .int .i64 nm] 47)) (w.heap.size + 1) #[.string np, .int .i64 nk, .string nd, .int .i64 nt, .int .i64 nm] 47 := Mem.zg0 _ _ _
 have hql := World.ownsMap.lt hown
 have HCU := hide (WCutI.any qf N L (MapN.mapOf L) np _ (zc2.zd6 hown b0) (by omega) (MapN.zj5 hL.apart) hL.apart hL.rise hL.path (by omega) (by omega))
 rw [Pl.off_below (fun n hn => (hL.path n hn).1) hn] at HCU
 have hkey := MapN.zi9 (p := np) (by unfold maxLen; omega)
 have HRI := hide (hL.off np)
 have EO : Hid (Pl.remL L np lev = if 0 < lev then Pl.putL (Pl.offL np L) ⟨np, 0, ⟨#[]⟩, 0, lev⟩ else Pl.offL np L) := rfl
 generalize Pl.remL L np lev = O at EO ⊢
 generalize Pl.offL np L = C at HCU HRI EO
 clear hown hL
 simp only [Pl.Nd.val]
 go_enter Tryz.func93, Tryz.ntmps93
 go_wp2_with fail
 generalize (w.alloc (.cells #[.map (some qf), .map (some qs), .int .i64 lev] 118)).alloc (.cells #[.string np, .int .i64 nk, .string nd, .int .i64 nt, .int .i64 nm] 47) = w1 at b0 G0 N0 HCU ⊢
 refine (za HCU).mono ?_
 rintro e w2 ⟨rfl, ⟨D', hD, hR⟩, g2⟩
 have eD := MapN.yk5 hD hR (za HRI).apart (fun m => Iff.rfl)
 subst eD
 have G2 := G0.grown g2 (fun e => by have := Option.some.inj e; omega)
 have N2 := N0.grown g2 (fun e => by have := Option.some.inj e; omega)
 have gw2 := zy2 b0 g2
 have c0 := G2.cell 0
 have c2 := G2.cell 2
 have d0 := N2.cell 0
 simp only [kA0, kA1, kA2] at c0 c2 d0
 have HM := hide hD
 clear HCU hD hR G0 N0 G2 N2 b0 g2
 by_cases hlv : 0 < lev
 ·have eO : O = Pl.putL C ⟨np, 0, ⟨#[]⟩, 0, lev⟩ := by have := za EO; rw [if_pos hlv] at this; exact this
  have HE : Hid (∀ W5 : World, w2.grownBy W5 (some qf) → W5.ownsMap Tryz.prog 9 MapN.elem qf (N + 1) ((MapN.mapOf C).put (MapN.key np) (MapN.dat ⟨np, 0, ⟨#[]⟩, 0, lev⟩)) → Done w W5 (.returned (.tuple #[])) qf O) := fun W5 g5 m5 => by
   rw [eO]
   refine ⟨rfl, ?_, N + 1, by omega, MapN.zv2 (za HRI) (n := ⟨np, 0, ⟨#[]⟩, 0, lev⟩) hn yo7 m5⟩
   exact ⟨g5.os.trans gw2.os, g5.tape.trans gw2.tape, g5.output.trans gw2.output, Nat.le_trans gw2.size g5.size, fun k hk hne => (g5.block k (Nat.lt_of_lt_of_le hk gw2.size) hne).trans (gw2.block k hk hne)⟩
  clear eO EO gw2
  go_wp2_with (at_mapUpdate; refine wpList_mapUpdate_own _ rfl _ _ _ 101 rfl 9 47 MapN.law Tryz.underlying101 _ qf N _ rfl (za HM) (by unfold maxLen; omega) _ _ _ rfl rfl hkey _ [] (MapN.zi6 ⟨np, 0, ⟨#[]⟩, 0, lev⟩) ?_; intro W5 own5 g5)
  have K := hide (za HE W5 g5 own5)
  clear own5 g5 HE HM
  go_wp2
  go_end0
  exact za K
 ·have eO : O = C := by have := za EO; rw [if_neg hlv] at this; exact this
  subst eO
  go_wp2
  go_end0
  exact ⟨rfl, gw2, N, by omega, za HM⟩
set_option linter.unusedSimpArgs false in
set_option maxRecDepth 100000 in
set_option maxHeartbeats 1000000 in
theorem touch_any (qf qs N : Nat) (lev : Int) (L S : List Pl.Nd) (n : Pl.Nd) (w : World) (hL : Pl.zd9 L) (hS : Pl.zd9 S) (hn : Pl.za3 n.path = true) (hd : ∃ d, Pl.lk S n.path = some d) (hN : N ≤ 900) (hown : w.ownsMap Tryz.prog 9 MapN.elem qf N (MapN.mapOf L)) (hsown : w.ownsMap Tryz.prog 9 MapN.elem qs 40 (MapN.mapOf S)) :
  Calls Tryz.prog 96 #[.agg #[.map (some qf), .map (some qs), .int .i64 lev], n.val] w fun e w' => Done w w' e qf (Pl.putL L (Pl.touN S L n.path n.time)) := by
 have hp8 : n.path.size ≤ 8000 := by have := Pl.zb8 hn; omega
 obtain ⟨np, nk, nd, nt, nm⟩ := n
 simp only at hn hp8 hd ⊢
 obtain ⟨d, hd⟩ := hd
 have hd1 := List.mem_of_find?_eq_some hd
 have hd2 : d.path = np := by simpa using List.find?_some hd
 have hSL := MapN.zn2 hS.apart hd1
 have hdz := (hS.path d hd1).2
 obtain ⟨dp, dk, dd, dt, dm⟩ := d
 simp only at hd2 hSL hdz
 have hd3 : np = dp := hd2.symm
 subst hd3
 have HT : Hid (∀ m : Int, (if dk = 1 then ((Pl.lk L np).getD Pl.za7).mark else dm) = m → Pl.touN S L np nt = ⟨np, dk, dd, nt, m⟩) := fun m h => by unfold Pl.touN; rw [hd]; simp only [Option.getD_some]; rw [h]
 obtain ⟨lm, hlm, hla⟩ : ∃ x : Pl.Nd, x = (Pl.lk L np).getD Pl.za7 ∧ (MapN.mapOf L).atKey (MapN.key np) (MapN.dat ⟨⟨#[]⟩, 0, ⟨#[]⟩, 0, 0⟩) = MapN.dat x := by
  cases hf : Pl.lk L np with
  | none =>
   have hmiss : ∀ n ∈ L, n.path ≠ np := fun n hn => by simpa using List.find?_eq_none.1 hf n hn
   exact ⟨_, rfl, Maps.atKey_of_not_has (MapN.zp7 hmiss) _⟩
  | some x =>
   have hx1 := List.mem_of_find?_eq_some hf
   have hx2 : x.path = np := by simpa using List.find?_some hf
   have h := MapN.zn2 hL.apart hx1
   rw [hx2] at h
   exact ⟨_, rfl, h.2 _⟩
 rw [← hlm] at HT
 obtain ⟨lp, lk_, ld, lt_, lmk⟩ := lm
 simp only at HT
 have b0 : Below w.heap.size w ((w.alloc (.cells #[.map (some qf), .map (some qs), .int .i64 lev] 118)).alloc (.cells #[.string np, .int .i64 nk, .string nd, .int .i64 nt, .int .i64 nm] 47)) := ((Below.refl _ _).alloc (Nat.le_refl _) _).alloc (by simp) _
 have hkey := MapN.zi9 (p := np) (by unfold maxLen; omega)
 have HS0 := hide (zc2.zd6 hsown b0)
 have hfld := hide (fun W => (by kernel_rfl : (Instr.field 47 (.agg #[.string lp, .int .i64 lk_, .string ld, .int .i64 lt_, .int .i64 lmk]) 4).run Tryz.prog W = .ok (.int .i64 lmk) W))
 have hfld' := za hfld
 have HLA := hide hla
 have key : ∀ m : Int, (if dk = 1 then lmk else dm) = m → ∀ W5 : World, (((w.alloc (.cells #[.map (some qf), .map (some qs), .int .i64 lev] 118)).alloc (.cells #[.string np, .int .i64 nk, .string nd, .int .i64 nt, .int .i64 nm] 47)).alloc (.cells #[.string np, .int .i64 dk, .string dd, .int .i64 nt, .int .i64 m] 47)).grownBy W5 (some qf) → W5.ownsMap Tryz.prog 9 MapN.elem qf (N + 1) ((MapN.mapOf L).put (MapN.key np) (MapN.dat ⟨np, dk, dd, nt, m⟩)) → Done w W5 (.returned (.tuple #[])) qf (Pl.putL L (Pl.touN S L np nt)) := fun m hm W5 g5 m5 => by
  rw [za HT m hm]
  exact ⟨rfl, zy2 (b0.alloc b0.size _) g5, N + 1, by omega, MapN.zv2 hL (n := ⟨np, dk, dd, nt, m⟩) hn hdz m5⟩
 have KEY := hide key
 have HM1 := hide (fun o => zc2.zd6 hown (b0.alloc b0.size o))
 clear key hown hsown hL hS hd hd1 hla HT hlm
 simp only [Pl.Nd.val]
 generalize Pl.putL L (Pl.touN S L np nt) = O at KEY ⊢
 by_cases hk : dk = 1
 ·subst hk
  have KE := hide (za KEY lmk (if_pos rfl))
  clear KEY
  have HM2 := hide (za HM1 (.cells #[.string np, .int .i64 1, .string dd, .int .i64 nt, .int .i64 dm] 47))
  have HM3 := hide (za HM1 (.cells #[.string np, .int .i64 1, .string dd, .int .i64 nt, .int .i64 lmk] 47))
  clear b0 HM1
  go_enter Tryz.func96, Tryz.ntmps96
  go_wp2_with (first | (at_lookup; refine MapN.yg3 _ rfl _ _ 101 rfl 9 47 MapN.law Tryz.underlying101 (MapN.za7 _) qs 40 (MapN.mapOf S) rfl (za HS0) _ _ rfl hkey ⟨np, 1, dd, dt, dm⟩ (hSL.2 _) ?_) | (at_lookup; refine MapN.yg3 _ rfl _ _ 101 rfl 9 47 MapN.law Tryz.underlying101 (MapN.za7 _) qf N (MapN.mapOf L) rfl (za HM2) _ _ rfl hkey ⟨lp, lk_, ld, lt_, lmk⟩ (za HLA) ?_) | (at_mapUpdate; refine wpList_mapUpdate_own _ rfl _ _ _ 101 rfl 9 47 MapN.law Tryz.underlying101 _ qf N _ rfl (za HM3) (by unfold maxLen; omega) _ _ _ rfl rfl hkey _ [] (MapN.zi6 ⟨np, 1, dd, nt, lmk⟩) ?_; intro W5 own5 g5))
  have K := hide (za KE W5 g5 own5)
  clear own5 g5 KE HM2 HM3
  go_wp2
  go_end0
  exact za K
 ·have t1 : (dk == 1) = false := by simpa using hk
  have KE := hide (za KEY dm (if_neg hk))
  clear KEY
  have HM3 := hide (za HM1 (.cells #[.string np, .int .i64 dk, .string dd, .int .i64 nt, .int .i64 dm] 47))
  clear b0 HM1
  go_enter Tryz.func96, Tryz.ntmps96
  go_wp2_with (first | (at_lookup; refine MapN.yg3 _ rfl _ _ 101 rfl 9 47 MapN.law Tryz.underlying101 (MapN.za7 _) qs 40 (MapN.mapOf S) rfl (za HS0) _ _ rfl hkey ⟨np, dk, dd, dt, dm⟩ (hSL.2 _) ?_) | (at_mapUpdate; refine wpList_mapUpdate_own _ rfl _ _ _ 101 rfl 9 47 MapN.law Tryz.underlying101 _ qf N _ rfl (za HM3) (by unfold maxLen; omega) _ _ _ rfl rfl hkey _ [] (MapN.zi6 ⟨np, dk, dd, nt, dm⟩) ?_; intro W5 own5 g5))
  have K := hide (za KE W5 g5 own5)
  clear own5 g5 KE HM3
  go_wp2
  go_end0
  exact za K
end zv7
end Go.Proofs.YtppmlbofhghghaaGreatDoor

