/- Several texts of one claim in one file: WTg7, WTouchP, WTouchS, WTouchG. -/
import Derived.Test.YtppmlbofhghghaaGreatDoorPlainWay
import Derived.Test.YtppmlbofhghghaaGreatDoorG34
import Derived.Test.YtppmlbofhghghaaGreatDoorG45
import Derived.Test.YtppmlbofhghghaaGreatDoorG01
import Derived.Test.YtppmlbofhghghaaGreatDoorG10
import Derived.Test.YtppmlbofhghghaaGreatDoorPlainCut
import Derived.Test.YtppmlbofhghghaaGreatDoorG03
import Derived.Test.YtppmlbofhghghaaGreatDoorG18
namespace Go.Proofs.YtppmlbofhghghaaGreatDoor
open Go.RowKit
namespace zh3
structure Tg (w W : World) (X : Nat) (va : Option Addr) (vc : Nat) (T : List Pl.Nd) (Y : Nat) (a1 : Option Addr) (c1 : Nat) (R : List Pl.Nd) (Z : Nat) (cs : Array Value) : Prop where
 sg : Sg w W X va vc T
 lv : Mem.Blk W Y #[.slice a1 R.length c1] 50
 ok : zb1.okA W a1 c1 R
 nd : Mem.za1 W a1 R
 nv : Mem.Blk W Z cs 47
 lo : w.heap.size < Z ∧ X < Z ∧ Y < Z
 fr : ∀ g o, a1 = some ⟨g, o, none⟩ → g < Z
 fs : ∀ g, (Value.slice va T.length vc).ownBlock = some g → g < Z
theorem Tg.call {w W W' : World} {X : Nat} {va : Option Addr} {vc : Nat} {T : List Pl.Nd} {Y : Nat} {a1 : Option Addr} {c1 : Nat} {R : List Pl.Nd} {Z : Nat} {cs : Array Value} (h : Tg w W X va vc T Y a1 c1 R Z cs) (b : Below W.heap.size W W') : Tg w W' X va vc T Y a1 c1 R Z cs :=
 ⟨h.sg.call b, h.lv.call b, zb1.zg3 h.ok b.size, Mem.za0 h.nd b, h.nv.call b, h.lo, h.fr, h.fs⟩
theorem Tg.put {w W : World} {X : Nat} {va : Option Addr} {vc : Nat} {T : List Pl.Nd} {Y : Nat} {a1 : Option Addr} {c1 : Nat} {R : List Pl.Nd} {Z : Nat} {cs : Array Value} (h : Tg w W X va vc T Y a1 c1 R Z cs) (k : Nat) (v : Value) : Tg w (W.setCell ⟨Z, k, none⟩ v) X va vc T Y a1 c1 R Z (cs.setIfInBounds k v) := by
 obtain ⟨l1, l2, l3⟩ := h.lo
 refine ⟨⟨h.sg.bel.setCell (by show w.heap.size ≤ Z; omega) _, h.sg.out.far _ _ (by show w.heap.size ≠ Z; omega), h.sg.sig.far _ _ (by show X ≠ Z; omega), ⟨h.sg.own.1, ?_⟩, h.sg.lo⟩, h.lv.far _ _ (by show Y ≠ Z; omega), zb1.zg3 h.ok (by simp), ?_, h.nv.put k v, h.lo, h.fr, h.fs⟩
 ·rcases h.sg.own.2 with h0 | ⟨g, cp, cur, hv, hb, hg, rest⟩
  ·exact .inl h0
  ·refine .inr ⟨g, cp, cur, hv, hb, (heap_setCell_other _ _ _ _ ?_).trans hg, rest⟩
   have := h.fs g (by rw [hv]; rfl)
   show g ≠ Z
   omega
 ·intro i m hi
  obtain ⟨g, o, e, -⟩ := h.nd i m hi
  subst e
  exact Mem.zg5 h.nd ⟨Z, k, none⟩ v (by have := h.fr g o rfl; show Z ≠ g; omega) i m hi
theorem Tg.new {w W : World} {X : Nat} {va : Option Addr} {vc : Nat} {T : List Pl.Nd} {Y : Nat} {a1 : Option Addr} {c1 : Nat} {R : List Pl.Nd} (h : Sg w W X va vc T) (lv : Mem.Blk W Y #[.slice a1 R.length c1] 50) (ok : zb1.okA W a1 c1 R) (nd : Mem.za1 W a1 R) (cs : Array Value) : Tg w (W.alloc (.cells cs 47)) X va vc T Y a1 c1 R W.heap.size cs := by
 have b : Below W.heap.size W (W.alloc (.cells cs 47)) := (Below.refl _ _).alloc (Nat.le_refl _) _
 refine ⟨h.call b, lv.call b, zb1.zg3 ok b.size, Mem.za0 nd b, Mem.Blk.new _ _ _, ⟨h.out.lt, h.sig.lt, lv.lt⟩, fun g o e => ?_, fun g hg => (Mem.ze2 h.own g hg).2⟩
 rcases ok with ⟨h1, _⟩ | ⟨g', o', h1, h2, _⟩
 ·rw [h1] at e; cases e
 ·rw [h1] at e; cases e; exact h2
theorem yn6 {W : World} {g o k : Nat} {S : List Pl.Nd} {m : Pl.Nd} (h : Mem.za1 W (some ⟨g, o, none⟩) S) (hk : S[k]? = some m) : W.cell? ⟨g, o + k * 5, none⟩ = some (.string m.path) ∧ W.cell? ⟨g, o + k * 5 + 1, none⟩ = some (.int .i64 m.kind) ∧ W.cell? ⟨g, o + k * 5 + 2, none⟩ = some (.string m.data) ∧ W.cell? ⟨g, o + k * 5 + 3, none⟩ = some (.int .i64 m.time) ∧ W.cell? ⟨g, o + k * 5 + 4, none⟩ = some (.int .i64 m.mark) := by
 obtain ⟨g', o', e, _, h0, h1, h2, h3, h4⟩ := h k m hk
 injection e with e; injection e with e1 e2
 subst e1 e2
 exact ⟨h0, h1, h2, h3, h4⟩
end zh3
namespace Pl
theorem tou_dir {T R : List Nd} {p : ByteArray} {t : Int} {m : Nd} (hm : lk T p = some m) (hk : m.kind = 1) (hd : m.data.size = 0) : touN T R p t = dirN R p t := by
 have hp := (zp9 hm).2
 have e : m.data = ⟨#[]⟩ := by
  apply zi3
  rw [zj6.2 hd]
  rfl
 unfold touN dirN
 rw [hm]
 simp only [Option.getD_some]
 rw [if_pos hk, hk, e, hp]
theorem tou_file {T R : List Nd} {p : ByteArray} {t : Int} {m : Nd} (hm : lk T p = some m) (hk : m.kind ≠ 1) : touN T R p t = ⟨m.path, m.kind, m.data, t, m.mark⟩ := by
 unfold touN
 rw [hm]
 simp only [Option.getD_some]
 rw [if_neg hk]
theorem dir_nodata {T : List Nd} (ht : za5 T = true) {p : ByteArray} {m : Nd} (hm : lk T p = some m) (hk : m.kind = 1) : m.data.size = 0 := by
 have h2 := (((zd2 T).1 ht).2.1 m (zp9 hm).1).1
 have h3 := (zd3 h2).2.2.2
 unfold zk1 at h3
 rw [if_neg (by rw [hk]; decide), if_pos hk] at h3
 exact of_decide_eq_true h3
end Pl
end Go.Proofs.YtppmlbofhghghaaGreatDoor

namespace Go.Proofs.YtppmlbofhghghaaGreatDoor
open Go.RowKit Go.Maps
namespace Pl
def tchC (L : List Nd) (p : ByteArray) : Int := if L.find? (fun m => decide (m.path = p)) = none then 6 else 0
def tchN (p : ByteArray) (t : Int) (m : Nd) : Nd := if m.path = p then ⟨m.path, m.kind, m.data, t, m.mark⟩ else m
def tchL (L : List Nd) (p : ByteArray) (t : Int) : List Nd := L.map (tchN p t)
theorem yc6 (p : ByteArray) (t : Int) (m : Nd) : (tchN p t m).path = m.path := by unfold tchN; split <;> rfl
theorem tch_data (p : ByteArray) (t : Int) (m : Nd) : (tchN p t m).data = m.data := by unfold tchN; split <;> rfl
theorem tch_off {L : List Nd} {p : ByteArray} {t : Int} (h : ∀ n ∈ L, n.path ≠ p) : tchL L p t = L := by
 unfold tchL
 rw [List.map_congr_left (g := id) (fun n hn => by simp [tchN, h n hn])]
 simp
theorem tch_perm {p : ByteArray} {t : Int} {m : Nd} (hp : m.path = p) : ∀ {L : List Nd}, L.Pairwise (fun a b => a.path ≠ b.path) → m ∈ L → (tchL L p t).Perm (L.filter (fun n => !decide (n.path = p)) ++ [⟨m.path, m.kind, m.data, t, m.mark⟩]) := by
 intro L
 induction L with
 | nil => intro _ h; cases h
 | cons n L ih =>
  intro hw hm
  have hw' := List.pairwise_cons.1 hw
  rcases List.mem_cons.1 hm with rfl | hm
  ·have hoff : ∀ x ∈ L, x.path ≠ p := fun x hx e => hw'.1 x hx (hp.trans e.symm)
   have hf : (m :: L).filter (fun n => !decide (n.path = p)) = L := by
    rw [List.filter_cons_of_neg (by simp [hp])]
    exact List.filter_eq_self.2 (fun x hx => by simp [hoff x hx])
   rw [hf, tchL, List.map_cons, show tchN p t m = ⟨m.path, m.kind, m.data, t, m.mark⟩ by simp [tchN, hp]]
   have := tch_off (t := t) hoff
   unfold tchL at this
   rw [this]
   exact (List.perm_append_singleton _ _).symm
  ·have hne : n.path ≠ p := fun e => hw'.1 m hm (e.trans hp.symm)
   rw [List.filter_cons_of_pos (by simp [hne]), tchL, List.map_cons, show tchN p t n = n by simp [tchN, hne], List.cons_append]
   exact (ih hw'.2 hm).cons n
end Pl
namespace zc3
set_option linter.unusedSimpArgs false in
set_option maxRecDepth 100000 in
set_option maxHeartbeats 2000000 in
theorem touchP_any (B : Nat) (L : List Pl.Nd) (n : Pl.Nd) (w : World) (ht : Pl.za5 L = true) (hp : Pl.za3 n.path = true) (hown : w.ownsMap Tryz.prog 9 MapN.elem B 40 (MapN.mapOf L)) :
  Calls Tryz.prog 95 #[.map (some B), n.val] w fun e w' => Did w w' e B (Pl.tchC L n.path) (Pl.tchL L n.path n.time) := by
 obtain ⟨hr, hokn, h40⟩ := Pl.zf9 ht
 have hC := Pl.zk4 ht
 have hp8 : n.path.size ≤ 8000 := by have := Pl.zb8 hp; omega
 have HM := hide hown
 have HAP := hide hC
 have EC : Hid (Pl.tchC L n.path = if L.find? (fun m => decide (m.path = n.path)) = none then 6 else 0) := rfl
 have HFIN : Hid (∀ m ∈ L, m.path = n.path → ∀ (N : Nat) (D' : DataW Unit) (w' : World), N ≤ 1000 → w'.ownsMap Tryz.prog 9 MapN.elem B N D' → MapN.Reads D' (L.filter (fun x => !decide (x.path = n.path)) ++ [⟨m.path, m.kind, m.data, n.time, m.mark⟩]) → ∃ N D' C, N ≤ 1000 ∧ w'.ownsMap Tryz.prog 9 MapN.elem B N D' ∧ MapN.Reads D' C ∧ C.Pairwise (fun a b => a.path ≠ b.path) ∧ (Pl.tchL L n.path n.time).Perm C ∧ (Pl.tchL L n.path n.time).Pairwise (fun a b => Pl.ltP a.path b.path = true) ∧ (∀ n ∈ C, Pl.za3 n.path = true ∧ n.data.size ≤ 1048576)) := by
  intro m hm hmp N D' w' hN h1 h2
  have hpe := Pl.tch_perm (t := n.time) hmp hC hm
  have hap : (Pl.tchL L n.path n.time).Pairwise (fun a b => a.path ≠ b.path) := by
   unfold Pl.tchL
   rw [List.pairwise_map]
   exact hC.imp (fun {a b} h => by rw [Pl.yc6, Pl.yc6]; exact h)
  refine ⟨N, D', _, hN, h1, h2, (hpe.pairwise_iff (fun h => fun e => h e.symm)).1 hap, hpe, ?_, fun x hx => ?_⟩
  ·unfold Pl.tchL
   rw [List.pairwise_map]
   exact hr.imp (fun {a b} h => by rw [Pl.yc6, Pl.yc6]; exact h)
  ·have := hpe.mem_iff.2 hx
   unfold Pl.tchL at this
   obtain ⟨y, hy, rfl⟩ := List.mem_map.1 this
   rw [Pl.yc6, Pl.tch_data]
   exact hokn y hy
 generalize Pl.tchC L n.path = c at EC ⊢
 obtain ⟨np, nk, nd, nt, nm⟩ := n
 simp only [Pl.Nd.val] at hp8 HFIN EC ⊢
 generalize Pl.tchL L np nt = O at HFIN ⊢
 clear hr hokn hown
 have b0 : Below w.heap.size w (w.alloc (.cells #[.string np, .int .i64 nk, .string nd, .int .i64 nt, .int .i64 nm] 47)) := (Below.refl _ _).alloc (Nat.le_refl _) _
 have V0 := Mem.Blk.new w #[.string np, .int .i64 nk, .string nd, .int .i64 nt, .int .i64 nm] 47
 have HM0 := hide (zc2.zd6 (za HM) b0)
 have hkey := MapN.zi9 (p := np) (by unfold maxLen; omega)
 have HRN := hide zk
 have HRY := hide zk6
 have hg : ∀ {W : World}, Below w.heap.size w W → w.grownBy W (some B) := fun b => ⟨b.os, b.tape, b.output, b.size, fun j hj _ => b.block j hj⟩
 cases hf : L.find? (fun m => decide (m.path = np)) with
 | none =>
  have hmiss : ∀ n ∈ L, n.path ≠ np := fun n hn => by simpa using List.find?_eq_none.1 hf n hn
  have ha := hide (MapN.zp7 hmiss)
  have ha2 := hide (Maps.atKey_of_not_has (za ha) (MapN.dat ⟨⟨#[]⟩, 0, ⟨#[]⟩, 0, 0⟩))
  have hc : c = 6 := by have := za EC; rw [hf, if_pos rfl] at this; exact this
  subst hc
  clear EC HFIN hmiss hf HRN hC
  go_enter Tryz.func95, Tryz.ntmps95
  go_wp2_with (at_lookup; refine MapN.look_ok _ rfl _ _ 101 rfl 9 47 MapN.law Tryz.underlying101 (MapN.za7 _) B 40 (MapN.mapOf L) rfl (za HM0) _ _ rfl hkey ⟨⟨#[]⟩, 0, ⟨#[]⟩, 0, 0⟩ (za ha2) false (za ha) ?_)
  refine (za HRY 6 _).mono ?_
  rintro e w1 ⟨rfl, rfl⟩
  go_wp2_with fail
  exact ⟨rfl, ⟨.inr ⟨by decide, rfl⟩, hg (b0.alloc b0.size _)⟩⟩
 | some m =>
  have hm1 := List.mem_of_find?_eq_some hf
  have hm2 : m.path = np := by simpa using List.find?_some hf
  subst hm2
  obtain ⟨y1, y2⟩ := MapN.zn2 (za HAP) hm1
  have ha := hide y1
  have ha2 := hide (y2 (MapN.dat ⟨⟨#[]⟩, 0, ⟨#[]⟩, 0, 0⟩))
  have hc : c = 0 := by have := za EC; rw [hf, if_neg (by simp)] at this; exact this
  subst hc
  have HF := hide (za HFIN m hm1 rfl)
  have RP := hide (MapN.zs3 (MapN.zj5 hC) (MapN.zp2 L) ⟨m.path, m.kind, m.data, nt, m.mark⟩)
  have b1 := b0.alloc b0.size (.cells #[.string m.path, .int .i64 m.kind, .string m.data, .int .i64 nt, .int .i64 m.mark] 47)
  have HM1 := hide (zc2.zd6 (za HM) b1)
  clear EC HFIN hf hm1 y1 y2 hC HRY
  go_enter Tryz.func95, Tryz.ntmps95
  go_wp2_with (at_lookup; refine MapN.look_ok _ rfl _ _ 101 rfl 9 47 MapN.law Tryz.underlying101 (MapN.za7 _) B 40 (MapN.mapOf L) rfl (za HM0) _ _ rfl hkey m (za ha2) true (za ha) ?_)
  refine (za HRN 6 _).mono ?_
  rintro e w1 ⟨rfl, rfl⟩
  have V1 := V0.alloc (.cells m.cs.toArray 47)
  have M1 : Mem.Blk ((w.alloc (.cells #[.string m.path, .int .i64 nk, .string nd, .int .i64 nt, .int .i64 nm] 47)).alloc (.cells m.cs.toArray 47)) (w.heap.size + 1) m.cs.toArray 47 := Mem.zg0 _ _ _
  simp only [Pl.Nd.cs] at V1 M1
  have p0 := V1.cell 0
  have p3 := V1.cell 3
  have q0 := M1.cell 0
  have q1 := M1.cell 1
  have q2 := M1.cell 2
  have q3 := M1.cell 3
  have q4 := M1.cell 4
  have g3 := M1.fr 3
  simp only [kA0, kA1, kA2] at p0 p3 q0 q1 q2 q3 q4
  go_wp2_with (at_mapUpdate; refine wpList_mapUpdate_own _ rfl _ _ _ 101 rfl 9 47 MapN.law Tryz.underlying101 _ B 40 _ rfl (za HM1) (by unfold maxLen; omega) _ _ _ rfl rfl hkey _ [] (MapN.zi6 ⟨m.path, m.kind, m.data, nt, m.mark⟩) ?_)
  intro wZ hownZ hgrowZ
  have FZ := hide (za HF 41 _ wZ (by omega) hownZ (za RP))
  have GZ := hide (Mem.zj7 (Mem.zc9 b1 (some B)) hgrowZ)
  clear hownZ hgrowZ RP HM1 HM0 ha ha2 HF
  go_wp2
  go_end0
  exact ⟨.inl ⟨rfl, rfl, za FZ⟩, za GZ⟩
end zc3
end Go.Proofs.YtppmlbofhghghaaGreatDoor

namespace Go.Proofs.YtppmlbofhghghaaGreatDoor
open Go.RowKit Go.Maps
namespace Pl
theorem node_dirT (p : ByteArray) (t : Int) : zb ⟨p, 1, ⟨#[]⟩, t, 0⟩ = (wayB p && (decide (0 ≤ t) && decide (t ≤ 1000000))) := by
 have e : (⟨#[]⟩ : ByteArray).size = 0 := rfl
 simp [zb, wayB, zk1, e]
theorem tch_long {L : List Nd} {p : ByteArray} {t c : Int} (h : 8000 < p.size) : chgC L ⟨p, 1, ⟨#[]⟩, t, 0⟩ c = 2 := by rw [chgC, if_neg (by simp; omega)]
theorem tch_size {p : ByteArray} (h : p.size ≤ 8000) : p.size ≤ 8000 ∧ (⟨#[]⟩ : ByteArray).size ≤ 8000 := ⟨h, by decide⟩
theorem tch_form {L : List Nd} {p : ByteArray} {t c : Int} (h : p.size ≤ 8000) (h2 : zd1 L = false ∨ wayB p = false ∨ (decide (0 ≤ t) && decide (t ≤ 1000000)) = false) : chgC L ⟨p, 1, ⟨#[]⟩, t, 0⟩ c = 1 := by
 rw [chgC, if_pos (tch_size h), if_neg]
 rw [node_dirT]
 rcases h2 with h2 | h2 | h2
 ·simp [h2]
 ·simp [h2]
 ·rw [h2]; simp
theorem tch_go {L : List Nd} {p : ByteArray} {t c : Int} (h : p.size ≤ 8000) (h2 : zd1 L = true) (h3 : wayB p = true) (h4 : (decide (0 ≤ t) && decide (t ≤ 1000000)) = true) : chgC L ⟨p, 1, ⟨#[]⟩, t, 0⟩ c = c := by
 rw [chgC, if_pos (tch_size h), if_pos ⟨h2, by rw [node_dirT, h3, h4]; rfl⟩]
theorem tch_none {L : List Nd} {p : ByteArray} {t : Int} (h : p.size ≤ 8000) (h2 : zd1 L = true) (h3 : wayB p = true) (h4 : (decide (0 ≤ t) && decide (t ≤ 1000000)) = true) (h5 : L.find? (fun m => decide (m.path = p)) = none) : chgC L ⟨p, 1, ⟨#[]⟩, t, 0⟩ (tchC L p) = 6 := by rw [tch_go h h2 h3 h4, tchC, if_pos h5]
theorem tch_ok {L : List Nd} {p : ByteArray} {t : Int} (h : p.size ≤ 8000) (h2 : zd1 L = true) (h3 : wayB p = true) (h4 : (decide (0 ≤ t) && decide (t ≤ 1000000)) = true) (h5 : L.find? (fun m => decide (m.path = p)) ≠ none) : chgC L ⟨p, 1, ⟨#[]⟩, t, 0⟩ (tchC L p) = 0 := by rw [tch_go h h2 h3 h4, tchC, if_neg h5]
theorem tch_set {p : ByteArray} {t : Int} {m : Nd} : ∀ {L : List Nd} {k : Nat}, L.Pairwise (fun a b => a.path ≠ b.path) → L[k]? = some m → m.path = p → L.set k ⟨m.path, m.kind, m.data, t, m.mark⟩ = tchL L p t := by
 intro L
 induction L with
 | nil => intro k _ h _; simp at h
 | cons n L ih =>
  intro k hw hk hp
  have hw' := List.pairwise_cons.1 hw
  cases k with
  | zero =>
   simp at hk; subst hk
   have hoff : ∀ x ∈ L, x.path ≠ p := fun x hx e => hw'.1 x hx (hp.trans e.symm)
   have := tch_off (t := t) hoff
   unfold tchL at this ⊢
   rw [List.set_cons_zero, List.map_cons, this]
   simp [tchN, hp]
  | succ k =>
   have hk' : L[k]? = some m := by simpa using hk
   have hne : n.path ≠ p := fun e => hw'.1 m (List.mem_of_getElem? hk') (e.trans hp.symm)
   have := ih hw'.2 hk' hp
   unfold tchL at this ⊢
   rw [List.set_cons_succ, List.map_cons, this]
   simp [tchN, hne]
theorem cells_time {t : Int} {m : Nd} : ∀ {L : List Nd} {k : Nat}, L[k]? = some m → zc4 (L.set k ⟨m.path, m.kind, m.data, t, m.mark⟩) = (zc4 L).set (k * 5 + 3) (.int .i64 t) := by
 intro L
 induction L with
 | nil => intro k h; simp at h
 | cons n L ih =>
  intro k hk
  cases k with
  | zero =>
   simp at hk; subst hk
   rw [List.set_cons_zero, zu, zu]
   rfl
  | succ k =>
   rw [List.set_cons_succ, zu, zu, ih (by simpa using hk), List.set_append_right _ _ (by show 5 ≤ _; omega)]
   congr 2
   show k * 5 + 3 = (k + 1) * 5 + 3 - 5
   omega
end Pl
namespace Mem
theorem own_some {w : World} {B n : Nat} {v : Value} {L : List Pl.Nd} (h : ownN w B v L) (hn : n < L.length) : ∃ g cap, v = .slice (some ⟨g, 0, none⟩) L.length cap := by
 rcases h.2 with ⟨_, h0⟩ | ⟨g, cap, cur, hv, _⟩
 ·omega
 ·exact ⟨g, cap, hv⟩
theorem own_fr {w : World} {B g n cap : Nat} {L : List Pl.Nd} (h : ownN w B (.slice (some ⟨g, 0, none⟩) n cap) L) (j : Nat) : w.frozen? ⟨g, j, none⟩ = false := by
 rcases h.2 with ⟨hx, _⟩ | ⟨g', cap', cur, hv, hb, hg, _⟩
 ·cases hx
 ·cases hv; exact zg6 hg
theorem own_time_cell {w : World} {B g n cap k : Nat} {L : List Pl.Nd} {m : Pl.Nd} (h : ownN w B (.slice (some ⟨g, 0, none⟩) n cap) L) (hk : L[k]? = some m) : w.cell? ⟨g, k * 5 + 3, none⟩ = some (.int .i64 m.time) := by
 obtain ⟨b', o', e, h1, h2, h3, h4, h5, h6⟩ := (zc7 h).2 k m hk
 cases e
 rw [Nat.zero_add] at h5
 exact h5
theorem own_time {w : World} {B g n cap k : Nat} {L : List Pl.Nd} {m : Pl.Nd} (h : ownN w B (.slice (some ⟨g, 0, none⟩) n cap) L) (hk : L[k]? = some m) (t : Int) : ownN (w.setCell ⟨g, k * 5 + 3, none⟩ (.int .i64 t)) B (.slice (some ⟨g, 0, none⟩) n cap) (L.set k ⟨m.path, m.kind, m.data, t, m.mark⟩) := by
 have hlt : k < L.length := (List.getElem?_eq_some_iff.1 hk).1
 rcases h.2 with ⟨hx, _⟩ | ⟨g', cap', cur, hv, hb, hg, hc, hm, hsz, htk⟩
 ·cases hx
 ·cases hv
  unfold ownN
  rw [Pl.cells_time hk, List.length_set]
  refine ⟨by rw [List.length_set, Pl.zj8], .inr ⟨g, cap, cur.setIfInBounds (k * 5 + 3) (.int .i64 t), rfl, hb, heap_setCell_same _ _ _ _ _ _ hg, hc, hm, by rw [Array.size_setIfInBounds]; exact hsz, ?_⟩⟩
  rw [Array.toList_setIfInBounds, List.take_set, htk]
end Mem
namespace zc3
end zc3
end Go.Proofs.YtppmlbofhghghaaGreatDoor

namespace Go.Proofs.YtppmlbofhghghaaGreatDoor
open Go.RowKit Go.Maps
namespace zc3
set_option linter.unusedSimpArgs false in
set_option maxRecDepth 100000 in
set_option maxHeartbeats 2000000 in
theorem touch_specG (a : Option Addr) (cap : Nat) (L : List Pl.Nd) (p : ByteArray) (t : Int) (w : World) (hl : L.length ≤ 1048576) (hA : Mem.okR a cap L) (hv : Mem.za1 w a L) (hok : ∀ n ∈ L, n.path.size ≤ 1048576 ∧ n.data.size ≤ 1048576) (hp : p.size ≤ 1048576) :
  Calls Tryz.prog 48 #[.agg #[.slice a L.length cap], .string p, .int .i64 t] w fun e w' => ∃ v, e = .returned (.agg #[v, .int .i64 (Pl.chgC L (⟨p, 1, ⟨#[]⟩, t, 0⟩ : Pl.Nd) (Pl.tchC L p))]) ∧ Mem.ownN w' w.heap.size v (Pl.chgO L ⟨p, 1, ⟨#[]⟩, t, 0⟩ (Pl.tchC L p) (Pl.tchL L p t)) ∧ Below w.heap.size w w' := by
 have b0 : Below w.heap.size w ((w.alloc (.cells #[.slice a L.length cap] 50)).alloc (.cells #[.slice none 0 0, .int .i64 0] 55)) := ((Below.refl _ _).alloc (Nat.le_refl _) _).alloc (by simp) _
 have T0 := (Mem.Blk.new w #[.slice a L.length cap] 50).alloc (.cells #[.slice none 0 0, .int .i64 0] 55)
 have R0 : Mem.Blk ((w.alloc (.cells #[.slice a L.length cap] 50)).alloc (.cells #[.slice none 0 0, .int .i64 0] 55)) (w.heap.size + 1) #[.slice none 0 0, .int .i64 0] 55 := Mem.zg0 _ _ _
 have HPL := hide (fun W (b : Below w.heap.size w W) => yc2.zm3 a cap L W hl (Mem.za0 hv b) hok)
 have HPA := hide (fun W => yn p W hp)
 have HTI := hide (fun W => zv9.time_any t W)
 have HAT := hide (fun W (b : Below w.heap.size w W) => zk5.zr1 a cap L p W hl (Mem.za0 hv b))
 have HCO := hide (fun W (b : Below w.heap.size w W) (h : L.length ≤ 1000) => WCopyV.zx4 a cap L W h hA (Mem.za0 hv b))
 clear hv hok
 by_cases hz : 8000 < p.size
 ·have t0 : (8000 : Int) < (p.size : Int) := by omega
  go_enter Tryz.func48, Tryz.ntmps48
  have EC : Hid (Pl.chgC L (⟨p, 1, ⟨#[]⟩, t, 0⟩ : Pl.Nd) (Pl.tchC L p) = 2) := hide (Pl.tch_long hz)
  go_wp2_with fail
  refine (zg7.zc1 2 _).mono ?_
  rintro e wI ⟨rfl, bI⟩
  have bJ := b0.trans (bI.mono b0.size)
  have RJ := R0.call bI
  have d0 := RJ.cell 0
  have f0 := RJ.fr 0
  have d1 := RJ.cell 1
  have f1 := RJ.fr 1
  simp only [kA0, kA1, kA2] at d0 d1
  go_wp2
  refine bodyPost_ret (v := .agg #[.slice none 0 0, .int .i64 2]) (by simp [results, Tryz.results48, go_sem, d0, d1]) rfl ⟨.slice none 0 0, by rw [za EC], by rw [Pl.chgO, za EC]; exact Mem.zb6 _ _, ?_⟩
  exact (bJ.setCell (by show w.heap.size ≤ w.heap.size + 1; omega) _).setCell (by show w.heap.size ≤ w.heap.size + 1; omega) _
 have t0 : ¬ (8000 : Int) < (p.size : Int) := by omega
 have hz' : p.size ≤ 8000 := by omega
 have c0 := T0.cell 0
 simp only [kA0, kA1] at c0
 go_enter Tryz.func48, Tryz.ntmps48
 go_wp2_with fail
 refine (za HPL _ b0).mono ?_
 rintro e w1 ⟨rfl, b1⟩
 have bw1 := b0.trans (b1.mono b0.size)
 have T1 := T0.call b1
 have R1 := R0.call b1
 clear b0 b1 T0 R0 c0
 cases hP : Pl.zd1 L
 ·skip
  have EC : Hid (Pl.chgC L (⟨p, 1, ⟨#[]⟩, t, 0⟩ : Pl.Nd) (Pl.tchC L p) = 1) := hide (Pl.tch_form hz' (.inl hP))
  go_wp2_with fail
  refine (zg7.zc1 1 _).mono ?_
  rintro e wI ⟨rfl, bI⟩
  have bJ := bw1.trans (bI.mono bw1.size)
  have RJ := R1.call bI
  have d0 := RJ.cell 0
  have f0 := RJ.fr 0
  have d1 := RJ.cell 1
  have f1 := RJ.fr 1
  simp only [kA0, kA1, kA2] at d0 d1
  go_wp2
  refine bodyPost_ret (v := .agg #[.slice none 0 0, .int .i64 1]) (by simp [results, Tryz.results48, go_sem, d0, d1]) rfl ⟨.slice none 0 0, by rw [za EC], by rw [Pl.chgO, za EC]; exact Mem.zb6 _ _, ?_⟩
  exact (bJ.setCell (by show w.heap.size ≤ w.heap.size + 1; omega) _).setCell (by show w.heap.size ≤ w.heap.size + 1; omega) _
 go_wp2_with fail
 refine (za HPA _).mono ?_
 rintro e w2 ⟨rfl, b2⟩
 have bw2 := bw1.trans (b2.mono bw1.size)
 have T2 := T1.call b2
 have R2 := R1.call b2
 have c0 := T2.cell 0
 simp only [kA0, kA1] at c0
 clear bw1 b2 T1 R1
 cases hQ : Pl.wayB p
 ·skip
  have EC : Hid (Pl.chgC L (⟨p, 1, ⟨#[]⟩, t, 0⟩ : Pl.Nd) (Pl.tchC L p) = 1) := hide (Pl.tch_form hz' (.inr (.inl hQ)))
  go_wp2_with fail
  refine (zg7.zc1 1 _).mono ?_
  rintro e wI ⟨rfl, bI⟩
  have bJ := bw2.trans (bI.mono bw2.size)
  have RJ := R2.call bI
  have d0 := RJ.cell 0
  have f0 := RJ.fr 0
  have d1 := RJ.cell 1
  have f1 := RJ.fr 1
  simp only [kA0, kA1, kA2] at d0 d1
  go_wp2
  refine bodyPost_ret (v := .agg #[.slice none 0 0, .int .i64 1]) (by simp [results, Tryz.results48, go_sem, d0, d1]) rfl ⟨.slice none 0 0, by rw [za EC], by rw [Pl.chgO, za EC]; exact Mem.zb6 _ _, ?_⟩
  exact (bJ.setCell (by show w.heap.size ≤ w.heap.size + 1; omega) _).setCell (by show w.heap.size ≤ w.heap.size + 1; omega) _
 go_wp2_with fail
 refine (za HTI _).mono ?_
 rintro e w2' ⟨rfl, rfl⟩
 cases hT : (decide (0 ≤ t) && decide (t ≤ 1000000))
 ·skip
  have EC : Hid (Pl.chgC L (⟨p, 1, ⟨#[]⟩, t, 0⟩ : Pl.Nd) (Pl.tchC L p) = 1) := hide (Pl.tch_form hz' (.inr (.inr hT)))
  go_wp2_with fail
  refine (zg7.zc1 1 _).mono ?_
  rintro e wI ⟨rfl, bI⟩
  have bJ := bw2.trans (bI.mono bw2.size)
  have RJ := R2.call bI
  have d0 := RJ.cell 0
  have f0 := RJ.fr 0
  have d1 := RJ.cell 1
  have f1 := RJ.fr 1
  simp only [kA0, kA1, kA2] at d0 d1
  go_wp2
  refine bodyPost_ret (v := .agg #[.slice none 0 0, .int .i64 1]) (by simp [results, Tryz.results48, go_sem, d0, d1]) rfl ⟨.slice none 0 0, by rw [za EC], by rw [Pl.chgO, za EC]; exact Mem.zb6 _ _, ?_⟩
  exact (bJ.setCell (by show w.heap.size ≤ w.heap.size + 1; omega) _).setCell (by show w.heap.size ≤ w.heap.size + 1; omega) _
 go_wp2_with fail
 refine (za HAT _ bw2).mono ?_
 rintro e w3 ⟨⟨r, rfl, hr⟩, b3⟩
 have bw3 := bw2.trans (b3.mono bw2.size)
 have T3 := T2.call b3
 have R3 := R2.call b3
 have c0 := T3.cell 0
 simp only [kA0, kA1] at c0
 clear bw2 b3 T2 R2
 by_cases h0 : r < 0
 ·skip
  have EC : Hid (Pl.chgC L (⟨p, 1, ⟨#[]⟩, t, 0⟩ : Pl.Nd) (Pl.tchC L p) = 6) := hide (Pl.tch_none hz' hP hQ hT (at_none hr h0))
  go_wp2_with fail
  refine (zg7.zc1 6 _).mono ?_
  rintro e wI ⟨rfl, bI⟩
  have bJ := bw3.trans (bI.mono bw3.size)
  have RJ := R3.call bI
  have d0 := RJ.cell 0
  have f0 := RJ.fr 0
  have d1 := RJ.cell 1
  have f1 := RJ.fr 1
  simp only [kA0, kA1, kA2] at d0 d1
  go_wp2
  refine bodyPost_ret (v := .agg #[.slice none 0 0, .int .i64 6]) (by simp [results, Tryz.results48, go_sem, d0, d1]) rfl ⟨.slice none 0 0, by rw [za EC], by rw [Pl.chgO, za EC]; exact Mem.zb6 _ _, ?_⟩
  exact (bJ.setCell (by show w.heap.size ≤ w.heap.size + 1; omega) _).setCell (by show w.heap.size ≤ w.heap.size + 1; omega) _
 have EC : Hid (Pl.chgC L (⟨p, 1, ⟨#[]⟩, t, 0⟩ : Pl.Nd) (Pl.tchC L p) = 0) := hide (Pl.tch_ok hz' hP hQ hT (yc3 hr (by omega)))
 rcases hr.out with ⟨k, m, rfl, hk, hf⟩ | ⟨h1, _⟩
 rotate_left
 ·omega
 have hmp : m.path = p := by simpa using List.find?_some hf
 have hlk : k < L.length := (List.getElem?_eq_some_iff.1 hk).1
 have HTC := hide (Pl.tch_set (t := t) (Pl.zk4 (Pl.ze7 hP)) hk hmp)
 have h40 : L.length ≤ 40 := (Pl.zf9 (Pl.ze7 hP)).2.2
 have HK := hide hk
 clear hr hf hk hmp
 go_wp2_with fail
 refine (za HCO _ bw3 (by omega)).mono ?_
 rintro e w5 ⟨v, rfl, own, b5⟩
 obtain ⟨g5, cap5, rfl⟩ := Mem.own_some own (by omega)
 have hg5 := Mem.ze2 own g5 rfl
 have b6 : Below w5.heap.size w5 (w5.alloc (.cells #[.slice (some ⟨g5, 0, none⟩) L.length cap5] 50)) := (Below.refl _ _).alloc (Nat.le_refl _) _
 have own6 := Mem.ze3 own b6
 have HS := hide R3.lt
 have bw6 := (bw3.trans (b5.mono bw3.size)).trans (b6.mono (bw3.trans (b5.mono bw3.size)).size)
 have R6 := (R3.call b5).call b6
 have V6 : Mem.Blk (w5.alloc (.cells #[.slice (some ⟨g5, 0, none⟩) L.length cap5] 50)) w5.heap.size #[.slice (some ⟨g5, 0, none⟩) L.length cap5] 50 := Mem.Blk.new _ _ _
 have q3 := Mem.own_time_cell own6 (za HK)
 have q4 := Mem.own_fr own6 (k * 5 + 3)
 have own7 := Mem.own_time own6 (za HK) t
 rw [za HTC] at own7
 have bw7 := bw6.setCell (p := ⟨g5, k * 5 + 3, none⟩) (by show w.heap.size ≤ g5; have := bw3.size; omega) (.int .i64 t)
 have hne : w.heap.size + 1 ≠ g5 := by have := za HS; omega
 have hne2 : w5.heap.size ≠ g5 := by omega
 have R7 := R6.far ⟨g5, k * 5 + 3, none⟩ (.int .i64 t) hne
 have V7 := V6.far ⟨g5, k * 5 + 3, none⟩ (.int .i64 t) hne2
 have v0 := V6.cell 0
 have v1 := V7.cell 0
 have d0 := R7.cell 0
 have f0 := R7.fr 0
 have d1 := R7.cell 1
 have f1 := R7.fr 1
 simp only [kA0, kA1, kA2] at d0 d1
 simp only [kA0, kA1] at v0 v1
 have hix : 0 ≤ (k : Int) ∧ (k : Int) < (L.length : Int) := by omega
 have OW := hide own7
 have BW := hide bw7
 clear bw3 b5 b6 T3 R3 own own6 HCO bw6 R6 V6 own7 bw7 R7 V7 HTC HK hg5
 go_wp2
 refine bodyPost_ret (v := .agg #[.slice (some ⟨g5, 0, none⟩) L.length cap5, .int .i64 0]) (by simp [results, Tryz.results48, go_sem, d0, d1]) rfl ⟨.slice (some ⟨g5, 0, none⟩) L.length cap5, by rw [za EC], ?_, ?_⟩
 ·rw [Pl.chgO, za EC, if_pos rfl]
  exact Mem.zb4 (Mem.za8 (Mem.za8 (za OW) _ _ (za HS)) _ _ (za HS)) (by have := za HS; omega)
 ·exact ((za BW).setCell (by show w.heap.size ≤ w.heap.size + 1; omega) _).setCell (by show w.heap.size ≤ w.heap.size + 1; omega) _
end zc3
end Go.Proofs.YtppmlbofhghghaaGreatDoor

