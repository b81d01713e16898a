/- Several texts of one claim in one file: WNodesI, WNodesJ, WNodesR, TakeK, WNum, WText, WBytesT. -/
import Derived.Test.YtfdbokipgofcdaaGreatDoorG00
import Derived.Test.YtfdbokipgofcdaaGreatDoorG03
import Derived.Deep.QuietTactic
import Derived.BigQuiet
import Derived.Deep.RegionHeld3
import Derived.Test.YtfdbokipgofcdaaGreatDoorG02
import Derived.Below
import Derived.WalkKit
import Derived.Test.YtfdbokipgofcdaaGreatDoorProg
import Derived.WalkSpells
import Derived.Lib.OthersKept
import Derived.Laws.RangeAny
import Derived.Deep.Draws
import Derived.Maps.OwnSet
import Derived.Outline
namespace Go.Proofs.YtfdbokipgofcdaaGreatDoor
open Go.RowKit Go.Maps
namespace Pl
def parV (e2 e3 : Value) (C : List Nd) (p : ByteArray) : Value :=
 if (zd4 p).size = 0 then .nilIface else match C.find? (fun m => decide (m.path = zd4 p)) with | none => e2 | some m => if m.kind = 1 then .nilIface else e3
theorem par_ok {C : List Nd} {p : ByteArray} {u2 u3 : TypeId} {x2 x3 : Value} (hC : C.Pairwise (fun a b => a.path ≠ b.path)) :
  (parI C p = true ∧ parV (.iface u2 x2) (.iface u3 x3) C p = .nilIface) ∨ (parI C p = false ∧ ∃ u x, parV (.iface u2 x2) (.iface u3 x3) C p = .iface u x) := by
 unfold parV parI
 by_cases h0 : (zd4 p).size = 0
 ·left; simp [h0]
 simp only [h0, decide_false, Bool.false_or, if_false]
 cases hf : C.find? (fun m => decide (m.path = zd4 p)) with
 | none =>
  right
  refine ⟨?_, u2, x2, rfl⟩
  rw [List.any_eq_false]
  intro m hm
  have := List.find?_eq_none.1 hf m hm
  simp at this
  simp [this]
 | some m =>
  have h1 := List.mem_of_find?_eq_some hf
  have h2 : m.path = zd4 p := by simpa using List.find?_some hf
  by_cases hk : m.kind = 1
  ·left
   refine ⟨?_, by simp [hk]⟩
   rw [List.any_eq_true]
   exact ⟨m, h1, by simp [h2, hk]⟩
  ·right
   refine ⟨?_, u3, x3, by simp [hk]⟩
   rw [List.any_eq_false]
   intro x hx
   simp only [Bool.and_eq_true, decide_eq_true_eq, not_and]
   intro hxp
   have : x = m := by
    have hp : ∀ {A : List Nd}, A.Pairwise (fun a b => a.path ≠ b.path) → ∀ {a b : Nd}, a ∈ A → b ∈ A → a.path = b.path → a = b := by
     intro A hA
     induction hA with
     | nil => intro a b ha; cases ha
     | cons hx' _ ih =>
      intro a b ha hb e
      rcases List.mem_cons.1 ha with e1 | h1
      ·rcases List.mem_cons.1 hb with e2 | h2
       ·rw [e1, e2]
       ·exact absurd (e1 ▸ e) (hx' _ h2)
      ·rcases List.mem_cons.1 hb with e2 | h2
       ·exact absurd (e2 ▸ e).symm (hx' _ h1)
       ·exact ih h1 h2 e
    exact hp hC hx h1 (hxp.trans h2.symm)
   rw [this]; exact hk
end Pl
namespace MapN
section
variable {P : Program} (w : World) {ops : Array Oper} {rest : List Oper} {o : Oper} {a : Act} {Q : Exit → Act → World → Prop}
theorem look_ok (hg : o.guard = none) (m x : Operand) (t : TypeId) (hop : o.op = Op.lookup t m x true)
  (k e : TypeId) (K : Keyed P k) (ht : P.underlying t = some (.map k e)) (hz : (zeroValue e).run P w = .ok (Pl.Nd.val ⟨⟨#[]⟩, 0, ⟨#[]⟩, 0, 0⟩) w) (b n : Nat) (D : DataW Unit)
  (hm : a.eval m = .map (some b)) (hown : w.ownsMap P k elem b n D) (kv : Value) (kl : Lit) (hx : a.eval x = kv) (hkey : keyOf P k kv = some kl) (nd : Pl.Nd) (hat : D.atKey kl (dat ⟨⟨#[]⟩, 0, ⟨#[]⟩, 0, 0⟩) = dat nd) (r : Bool) (hr : Maps.has D kl = r)
  (hK : wpList P ops Q rest (a.put o.dst (.tuple #[.agg #[.string nd.path, .int .i64 nd.kind, .string nd.data, .int .i64 nd.time, .int .i64 nd.mark], .bool r])) w) :
  wpList P ops Q (o :: rest) a w :=
 wpList_lookup_own_ok w hg m x t hop k e K ht elem hz _ [] (yk9 _) b n D hm hown kv kl hx hkey (fun v ps hv => by
  obtain ⟨n1, rfl, hd⟩ := yo4 hv
  obtain rfl := yk2 (hat.symm.trans hd)
  rw [hr]
  exact hK)
end
end MapN
namespace ze7
structure Errs (w : World) (u1 u2 u3 : TypeId) (x1 x2 x3 : Value) : Prop where
 c1 : w.cell? ⟨1, 0, none⟩ = some (.iface u1 x1)
 c2 : w.cell? ⟨2, 0, none⟩ = some (.iface u2 x2)
 c3 : w.cell? ⟨3, 0, none⟩ = some (.iface u3 x3)
theorem Errs.call {w w' : World} {u1 u2 u3 : TypeId} {x1 x2 x3 : Value} (h : Errs w u1 u2 u3 x1 x2 x3) (b : Below w.heap.size w w') : Errs w' u1 u2 u3 x1 x2 x3 :=
 ⟨(b.cell (p := ⟨_, 0, none⟩) (World.block_lt_of_cell? w ⟨_, 0, none⟩ h.c1)).trans h.c1, (b.cell (p := ⟨_, 0, none⟩) (World.block_lt_of_cell? w ⟨_, 0, none⟩ h.c2)).trans h.c2, (b.cell (p := ⟨_, 0, none⟩) (World.block_lt_of_cell? w ⟨_, 0, none⟩ h.c3)).trans h.c3⟩
theorem zn6 {w w' : World} {B n : Nat} {D : DataW Unit} (h : w.ownsMap Tryz.prog 9 MapN.elem B n D) (b : Below w.heap.size w w') : w'.ownsMap Tryz.prog 9 MapN.elem B n D :=
 h.kept (row := none) ⟨b.os, b.tape, b.output, b.size, fun k hk _ => b.block k hk⟩ (by simp)
set_option maxRecDepth 100000 in
set_option maxHeartbeats 400000 in
theorem fault_any (B N : Nat) (C : List Pl.Nd) (p : ByteArray) (w : World) (u1 u2 u3 : TypeId) (x1 x2 x3 : Value) (hE : Errs w u1 u2 u3 x1 x2 x3) (hown : w.ownsMap Tryz.prog 9 MapN.elem B N (MapN.mapOf C)) (hC : C.Pairwise (fun a b => a.path ≠ b.path)) (hp : p.size ≤ 1048576) :
  Calls Tryz.prog 108 #[.map (some B), .string p] w fun e w' => e = .returned (Pl.parV (.iface u2 x2) (.iface u3 x3) C p) ∧ Below w.heap.size w w' := by
 have hpa := hide (WPathI.yf0 p w hp)
 have hz := hide (show (Pl.zd4 p).size ≤ 1048576 from by
  have h1 := Pl.zp8 p
  have h2 := Pl.yb4 (Pl.zc8 p).dropLast (fun t ht => (Pl.zu0 (h1.1 t (List.dropLast_subset _ ht))).2.2.2)
  rw [List.length_dropLast] at h2
  show (Pl.glue (Pl.zc8 p).dropLast).size ≤ 1048576
  omega)
 change Hid (Calls Tryz.prog _ _ w fun e w' => e = .returned (.string (Pl.zd4 p)) ∧ _) at hpa
 have E1 : Hid ((Pl.zd4 p).size = 0 → Pl.parV (.iface u2 x2) (.iface u3 x3) C p = .nilIface) := fun h => by simp [Pl.parV, h]
 have E2 : Hid ((Pl.zd4 p).size ≠ 0 → C.find? (fun m => decide (m.path = Pl.zd4 p)) = none → Pl.parV (.iface u2 x2) (.iface u3 x3) C p = .iface u2 x2) := fun h hf => by simp [Pl.parV, h, hf]
 have E3 : Hid ((Pl.zd4 p).size ≠ 0 → ∀ m, C.find? (fun m => decide (m.path = Pl.zd4 p)) = some m → Pl.parV (.iface u2 x2) (.iface u3 x3) C p = if m.kind = 1 then .nilIface else .iface u3 x3) := fun h m hf => by simp [Pl.parV, h, hf]
 generalize Pl.parV (.iface u2 x2) (.iface u3 x3) C p = R at E1 E2 E3 ⊢
 generalize Pl.zd4 p = q at hpa hz E1 E2 E3
 have HE := hide hE
 have HM := hide hown
 clear hE hown
 go_enter Tryz.func108, Tryz.ntmps108
 go_wp2_with fail
 refine (za hpa).mono ?_
 rintro e w1 ⟨rfl, b1⟩
 have hE1 := (za HE).call b1
 have hM1 := hide (zn6 (za HM) b1)
 have k2 : ∀ o, (w1.alloc o).cell? ⟨2, 0, none⟩ = some (.iface u2 x2) := fun o => (World.cell?_alloc_some _ _ _ (by rw [hE1.c2]; rfl)).trans hE1.c2
 have k3 : ∀ o, (w1.alloc o).cell? ⟨3, 0, none⟩ = some (.iface u3 x3) := fun o => (World.cell?_alloc_some _ _ _ (by rw [hE1.c3]; rfl)).trans hE1.c3
 clear HE HM hpa hE1
 by_cases h0 : q.size = 0
 ·have t0 : q.toList.isEmpty = true := by rw [Pl.ze]; simpa [Pl.zj1] using h0
  have E := hide (za E1 h0)
  go_wp2
  go_ret
  exact ⟨by rw [za E]; rfl, b1⟩
 have t0 : q.toList.isEmpty = false := by rw [Pl.ze]; simpa [Pl.zj1] using h0
 have hkey := MapN.yl4 (p := q) (by have := za hz; unfold maxLen; omega)
 cases hf : C.find? (fun m => decide (m.path = q)) with
 | none =>
  have E := hide (za E2 h0 hf)
  have hmiss : ∀ n ∈ C, n.path ≠ q := fun n hn => by simpa using List.find?_eq_none.1 hf n hn
  have ha := hide (MapN.has_no hmiss)
  have ha2 := hide (Maps.atKey_of_not_has (za ha) (MapN.dat ⟨⟨#[]⟩, 0, ⟨#[]⟩, 0, 0⟩))
  clear E1 E2 E3 hf hmiss
  go_wp2_with (at_lookup; refine MapN.look_ok _ rfl _ _ 69 rfl 9 89 MapN.law Tryz.underlying69 (MapN.zi1 _) B N (MapN.mapOf C) rfl (za hM1) _ _ rfl hkey ⟨⟨#[]⟩, 0, ⟨#[]⟩, 0, 0⟩ (za ha2) false (za ha) ?_)
  go_ret
  exact ⟨by rw [za E]; rfl, b1.alloc b1.size _⟩
 | some m =>
  have E := hide (za E3 h0 m hf)
  have hm1 := List.mem_of_find?_eq_some hf
  have hm2 : m.path = q := by simpa using List.find?_some hf
  obtain ⟨y1, y2⟩ := MapN.at_yes hC hm1
  rw [hm2] at y1 y2
  have ha := hide y1
  have ha2 := hide (y2 (MapN.dat ⟨⟨#[]⟩, 0, ⟨#[]⟩, 0, 0⟩))
  clear E1 E2 E3 hf y1 y2 hm1 hm2
  by_cases hk : m.kind = 1
  ·have E' := hide (show R = .nilIface by rw [za E, if_pos hk])
   have t1 : (m.kind == 1) = true := by simpa using hk
   clear E hk
   go_wp2_with (at_lookup; refine MapN.look_ok _ rfl _ _ 69 rfl 9 89 MapN.law Tryz.underlying69 (MapN.zi1 _) B N (MapN.mapOf C) rfl (za hM1) _ _ rfl hkey m (za ha2) true (za ha) ?_)
   go_ret
   exact ⟨by rw [za E']; rfl, b1.alloc b1.size _⟩
  ·have E' := hide (show R = .iface u3 x3 by rw [za E, if_neg hk])
   have t1 : (m.kind == 1) = false := by simpa using hk
   clear E hk
   go_wp2_with (at_lookup; refine MapN.look_ok _ rfl _ _ 69 rfl 9 89 MapN.law Tryz.underlying69 (MapN.zi1 _) B N (MapN.mapOf C) rfl (za hM1) _ _ rfl hkey m (za ha2) true (za ha) ?_)
   go_ret
   exact ⟨by rw [za E']; rfl, b1.alloc b1.size _⟩
end ze7
end Go.Proofs.YtfdbokipgofcdaaGreatDoor

namespace Go.Proofs.YtfdbokipgofcdaaGreatDoor
open Go.RowKit Go.Maps
namespace Pl
structure Inv (C : List Nd) (lp : ByteArray) : Prop where
 right : za5 lp = true
 rise : C.Pairwise (fun a b => za9 (names a.path) (names b.path) = true)
 last : ∀ a ∈ C, a.path = lp ∨ za9 (names a.path) (names lp) = true
theorem inv_start : Inv [] ⟨#[]⟩ := ⟨(zi9 rfl).1, List.Pairwise.nil, fun a ha => by cases ha⟩
theorem inv_apart {C : List Nd} {lp : ByteArray} (h : Inv C lp) : C.Pairwise (fun a b => a.path ≠ b.path) :=
 h.rise.imp (fun {a b} hab e => by rw [e, zl6] at hab; cases hab)
theorem inv_step {C : List Nd} {lp : ByteArray} {n : Nd} (h : Inv C lp) (hn : zb6 n = true) (hl : ltP lp n.path = true) : Inv (C ++ [n]) n.path := by
 have hr := (ze2 hn).1
 rw [zi6 h.right hr] at hl
 have hall : ∀ a ∈ C, za9 (names a.path) (names n.path) = true := fun a ha => by
  rcases h.last a ha with e | e
  ·rw [e]; exact hl
  ·exact zm9 _ _ _ e hl
 refine ⟨hr, ?_, fun a ha => ?_⟩
 ·rw [List.pairwise_append]
  exact ⟨h.rise, List.pairwise_singleton _ _, fun a ha b hb => by simp at hb; subst hb; exact hall a ha⟩
 ·rcases List.mem_append.1 ha with ha | ha
  ·exact .inr (hall a ha)
  ·simp at ha; subst ha; exact .inl rfl
theorem goI_step (L : List Nd) {n : Nd} {k : Nat} (h : L[k]? = some n) (C : List Nd) (lp : ByteArray) : goI C lp (L.drop k) = (zb6 n && ltP lp n.path && parI C n.path && goI (C ++ [n]) n.path (L.drop (k + 1))) := by
 have h1 := (List.getElem?_eq_some_iff.1 h)
 rw [List.drop_eq_getElem_cons h1.1, h1.2, goI]
theorem take_snoc' (L : List Nd) {n : Nd} {k : Nat} (h : L[k]? = some n) : L.take (k + 1) = L.take k ++ [n] := by
 have h1 := (List.getElem?_eq_some_iff.1 h)
 rw [List.take_succ_eq_append_getElem h1.1, h1.2]
end Pl
namespace ze7
set_option maxRecDepth 100000 in
set_option maxHeartbeats 1000000 in
theorem yq7 (a : Option Addr) (cap : Nat) (L : List Pl.Nd) (w : World) (hl : L.length ≤ 1048576) (hv : Mem.zc2 w a L) (hok : ∀ n ∈ L, n.path.size ≤ 1048576 ∧ n.data.size ≤ 1048576)
  (r1 r2 r3 : TypeId) (x1 x2 x3 : Value) (hE : Errs w r1 r2 r3 x1 x2 x3) :
  Calls Tryz.prog 88 #[.agg #[.slice a L.length cap]] w fun e w' => ((Pl.za2 L = true ∧ ∃ B, e = .returned (.tuple #[.map (some B), .nilIface]) ∧ w.heap.size ≤ B ∧ w'.ownsMap Tryz.prog 9 MapN.elem B 40 (MapN.mapOf L)) ∨
   (Pl.za2 L = false ∧ e = .returned (.tuple #[.map none, .iface r1 x1]))) ∧ Below w.heap.size w w' := by
 have b0 : Below w.heap.size w (w.alloc (.cells #[.slice a L.length cap] 36)) := (Below.refl _ _).alloc (Nat.le_refl _) _
 have HV := hide hv
 have HO := hide hok
 have HE := hide hE
 have hvar := hide (Mem.ze0 w [.slice a L.length cap] 36)
 have hmm := @run_makeMap Tryz.prog
 have k1 := (hE.call b0).c1
 clear hv hok hE
 by_cases h40 : 40 < L.length
 ·have F := hide (show Pl.za2 L = false by simp [Pl.za2]; omega)
  go_enter Tryz.func88, Tryz.ntmps88
  go_wp2
  go_region
  go_wp2
  go_ret2
  exact ⟨.inr ⟨za F, rfl⟩, Mem.below_drewN b0 1⟩
 have h41 : Pl.za2 L = Pl.goI [] ⟨#[]⟩ L := by rw [Pl.za2, show decide (L.length ≤ 40) = true by simp; omega]; rfl
 rw [h41]
 clear h41
 generalize hR : Pl.goI [] ⟨#[]⟩ L = R
 have HR := hide hR
 clear hR
 go_enter Tryz.func88, Tryz.ntmps88
 go_wp2
 go_loopw [5, 17] (fun v i wr => ∃ (k : Nat) (lp : ByteArray), k ≤ L.length ∧ i = .int .i64 (k : Int) ∧ v = .string lp ∧ lp.size ≤ 200 ∧ Below w.heap.size w wr ∧ Hid (wr.ownsMap Tryz.prog 9 MapN.elem (w.heap.size + 1) k (MapN.mapOf (L.take k))) ∧ Hid (Pl.Inv (L.take k) lp) ∧ Hid (R = Pl.goI (L.take k) lp (L.drop k))) (fun _ i _ => L.length - (intOf i).toNat)
 case atStart =>
  refine ⟨0, ⟨#[]⟩, Nat.zero_le _, rfl, rfl, Nat.zero_le _, ?_, ?_, Pl.inv_start, (za HR).symm⟩
  ·exact b0.alloc (by simp) _
  ·have h := World.ownsMap_made (w.alloc (.cells #[.slice a L.length cap] 36)) Tryz.prog 9 MapN.elem
   rw [show (w.alloc (.cells #[.slice a L.length cap] 36)).heap.size = w.heap.size + 1 by simp] at h
   exact h
 case round =>
  obtain ⟨k, lp, hk, rfl, rfl, hlp, hbel, HM, HI, HR2⟩ := hrel
  by_cases hlt : k < L.length
  ·obtain ⟨n, hn⟩ : ∃ n, L[k]? = some n := ⟨_, List.getElem?_eq_getElem hlt⟩
   obtain ⟨b, o, rfl, hb, q0, q1, q2, q3, q4⟩ := (Mem.za8 (za HV) hbel) k n hn
   have y1 : (k : Int) < (L.length : Int) := by omega
   have y3 : (0 : Int) ≤ (k : Int) := by omega
   have hBl := (za HM).lt
   have hsn := za HO n (List.mem_of_getElem? hn)
   have hnr := hide (fun W => WNode.zg5 n W hsn.1 hsn.2)
   have hls := hide (fun W => WLess.less_any lp n.path W (by omega) hsn.1)
   change Hid (∀ W, Calls Tryz.prog _ _ W fun e w' => e = .returned (.bool (Pl.ltP lp n.path)) ∧ _) at hls
   have hpf := hide (fun W hE hown hC => fault_any (w.heap.size + 1) k (L.take k) n.path W r1 r2 r3 x1 x2 x3 hE hown hC hsn.1)
   have UG := hide (Pl.goI_step L (n := n) (k := k) hn (L.take k) lp)
   have HN := hide hn
   have hkey := MapN.yl4 (p := n.path) (by have := hsn.1; unfold maxLen; omega)
   have zn := Mem.ze0 wr [.string n.path, .int .i64 n.kind, .string n.data, .int .i64 n.time, .int .i64 n.mark] 89
   have bw1 : Below wr.heap.size wr (wr.alloc (.cells #[.string n.path, .int .i64 n.kind, .string n.data, .int .i64 n.time, .int .i64 n.mark] 89)) := (Below.refl _ _).alloc (Nat.le_refl _) _
   have bw2 := hbel.trans (bw1.mono hbel.size)
   have HM1 := hide (zn6 (za HM) bw1)
   clear hn HM
   simp only [Pl.Nd.val] at hnr
   go_wp2_with fail
   refine (za hnr _).mono ?_
   rintro e wA ⟨rfl, bA⟩
   have znA := Mem.zg9 zn bA
   have bwA := bw2.trans (bA.mono bw2.size)
   have HMA := hide (zn6 (za HM1) bA)
   have kA := ((za HE).call bwA).c1
   clear zn bw1 bw2 bA HM1 q0 q1 q2 q3 q4 hnr
   have c0 := znA.2 0 _ rfl
   cases hnb : Pl.zb6 n
   ·have F := hide (show R = false by rw [za HR2, za UG, hnb]; rfl)
    clear hnb
    go_wp2
    go_region
    go_wp2
    go_ret2
    exact ⟨.inr ⟨za F, rfl⟩, Mem.below_drewN bwA 1⟩
   have HNB := hide hnb
   clear hnb
   go_wp2_with fail
   refine (za hls _).mono ?_
   rintro e wB ⟨rfl, bB⟩
   have znB := Mem.zg9 znA bB
   have bwB := bwA.trans (bB.mono bwA.size)
   have HMB := hide (zn6 (za HMA) bB)
   have kB := ((za HE).call bwB).c1
   clear znA bwA bB HMA c0 kA hls
   have c0 := znB.2 0 _ rfl
   cases hlb : Pl.ltP lp n.path
   ·have F := hide (show R = false by rw [za HR2, za UG, za HNB, hlb]; rfl)
    clear hlb
    go_wp2
    go_region
    go_wp2
    go_ret2
    exact ⟨.inr ⟨za F, rfl⟩, Mem.below_drewN bwB 1⟩
   have HLB := hide hlb
   clear hlb
   go_wp2_with fail
   refine (za hpf _ ((za HE).call bwB) (za HMB) (Pl.inv_apart (za HI))).mono ?_
   rintro e wC ⟨rfl, bC⟩
   have znC := Mem.zg9 znB bC
   have bwC := bwB.trans (bC.mono bwB.size)
   have HMC := hide (zn6 (za HMB) bC)
   have kC := ((za HE).call bwC).c1
   clear znB bwB bC HMB c0 kB hpf
   rcases Pl.par_ok (p := n.path) (u2 := r2) (u3 := r3) (x2 := x2) (x3 := x3) (Pl.inv_apart (za HI)) with ⟨hp1, hp2⟩ | ⟨hp1, uu, xx, hp2⟩
   rotate_left
   ·have F := hide (show R = false by rw [za HR2, za UG, za HNB, za HLB, hp1]; rfl)
    rw [hp2]
    clear hp1 hp2
    go_wp2
    go_region
    go_wp2
    go_ret2
    exact ⟨.inr ⟨za F, rfl⟩, Mem.below_drewN bwC 1⟩
   have HR3 := hide (show R = Pl.goI (L.take k ++ [n]) n.path (L.drop (k + 1)) by rw [za HR2, za UG, za HNB, za HLB, hp1]; rfl)
   rw [hp2]
   clear hp1 hp2
   have c0 := znC.2 0 _ rfl
   have c1 := znC.2 1 _ rfl
   have c2 := znC.2 2 _ rfl
   have c3 := znC.2 3 _ rfl
   have c4 := znC.2 4 _ rfl
   have hzl := znC.1
   have hne : some wr.heap.size ≠ some (w.heap.size + 1) := fun e => by have := Option.some.inj e; omega
   go_wp2_with (first | (at_mapUpdate; refine wpList_mapUpdate_own _ rfl _ _ _ 69 rfl 9 89 MapN.law Tryz.underlying69 _ (w.heap.size + 1) k _ rfl (za HMC) (by unfold maxLen; omega) _ _ _ rfl rfl hkey _ [] (MapN.yk9 n) ?_; intro wD hownD hgrowD; have cD := hgrowD.cell c0 hne; have HOD := hide hownD; have bwD := bwC.grown hgrowD bwC.size (fun k hk => by cases hk; omega); clear hownD hgrowD) | fail)
   have HI2 := hide (Pl.inv_step (za HI) (za HNB) (za HLB))
   have hnl := Pl.zi7 (Pl.ze2 (za HNB)).1
   have HT := hide (Pl.take_snoc' L (za HN))
   go_wp2
   go_roundw
   case rel =>
    refine ⟨k + 1, n.path, by omega, by go_num, rfl, hnl, bwD, ?_, ?_, ?_⟩
    ·rw [za HT, MapN.mapOf_snoc]; exact HOD
    ·rw [za HT]; exact HI2
    ·rw [za HT]; exact HR3
   case measure => simp [intOf]; omega
  ·obtain rfl : k = L.length := by omega
   have F := hide (show R = true by rw [za HR2, List.drop_length]; rfl)
   rw [List.take_length] at HM
   clear HR2
   go_wp2
   go_ret2
   exact ⟨.inl ⟨za F, w.heap.size + 1, rfl, by omega, (za HM).mono (by omega)⟩, hbel⟩
end ze7
end Go.Proofs.YtfdbokipgofcdaaGreatDoor

namespace Go.Proofs.YtfdbokipgofcdaaGreatDoor
open Go.RowKit Go.Maps
namespace ze7
set_option maxRecDepth 100000 in
theorem yd5 (a : Option Addr) (cap : Nat) (L : List Pl.Nd) (w : World) (hl : L.length ≤ 1048576) (hv : Mem.zc2 w a L) (hok : ∀ n ∈ L, n.path.size ≤ 1048576 ∧ n.data.size ≤ 1048576)
  (r1 r2 r3 : TypeId) (x1 x2 x3 : Value) (hE : Errs w r1 r2 r3 x1 x2 x3) :
  Calls Tryz.prog 65 #[.agg #[.slice a L.length cap]] w fun e w' => e = .returned (.bool (Pl.za2 L)) ∧ Below w.heap.size w w' := by
 have b0 : Below w.heap.size w (w.alloc (.cells #[.slice a L.length cap] 36)) := (Below.refl _ _).alloc (Nat.le_refl _) _
 have hn := hide (yq7 a cap L _ hl (Mem.za8 hv b0) hok r1 r2 r3 x1 x2 x3 (hE.call b0))
 clear hv hok hE
 generalize Pl.za2 L = R at hn ⊢
 go_enter Tryz.func65, Tryz.ntmps65
 go_wp2_with fail
 refine (za hn).mono ?_
 rintro e w1 ⟨h1, b1⟩
 have b2 := b0.trans (b1.mono b0.size)
 clear hn b0 b1
 rcases h1 with ⟨rfl, B, rfl, -, -⟩ | ⟨rfl, rfl⟩
 ·go_wp2
  go_ret
  exact ⟨rfl, b2⟩
 ·go_wp2
  go_ret
  exact ⟨rfl, b2⟩
end ze7
end Go.Proofs.YtfdbokipgofcdaaGreatDoor

namespace Go.Proofs.YtfdbokipgofcdaaGreatDoor
open Go.RowKit
theorem tka {P : Program} {md : Region.Mode} {ops : Array Oper} {Q : Exit → Act → World → Prop} {S : World → Prop} {i : Nat} {oi : Oper} {v : Value} {fuel : Nat} {listed : Array Bool} {a : Act} {w : World} (hi : ops[i]? = some oi)
  (h : wpAnyH P md ops Q S fuel (listed.setIfInBounds i true) (a.put oi.dst v) w)
  (hs : Region.noSelect ops = true := by kernel_rfl) (hf : Region.free md ops listed i = true := by kernel_rfl) (hr : (Region.ready md ops listed).contains i = true := by kernel_rfl)
  (hw : Region.wanted oi (yielded ops a.tmps) = true := by first | kernel_rfl | rfl)
  (hy : ∀ w, S w → (execOp a.eval oi).run P w = .ok (.value v) w := by (intro w hSw; (try dsimp only at hSw); go_simp; (try with_reducible rfl)))
  (hQ : ∀ c a w, Q (.panic c) (a.put oi.dst v) w → Q (.panic c) a w := by first | exact fun _ _ _ h => h | exact fun _ _ _ h => nomatch h.1) (hS : S w := by assumption) : wpAnyH P md ops Q S (fuel + 1) listed a w :=
 wpAnyH_take hi hs hf hr hQ (Or.inl ⟨hw, hy⟩) hS h
theorem tkc {P : Program} {md : Region.Mode} {ops : Array Oper} {Q : Exit → Act → World → Prop} {S : World → Prop} {i : Nat} {oi : Oper} {fuel : Nat} {listed : Array Bool} {a : Act} {w : World} (hi : ops[i]? = some oi)
  (h : wpAnyH P md ops Q S fuel (listed.setIfInBounds i true) (a.put oi.dst undef) w)
  (hs : Region.noSelect ops = true := by kernel_rfl) (hf : Region.free md ops listed i = true := by kernel_rfl) (hr : (Region.ready md ops listed).contains i = true := by kernel_rfl)
  (hw : Region.wanted oi (yielded ops a.tmps) = false := by first | kernel_rfl | rfl)
  (hQ : ∀ c a w, Q (.panic c) (a.put oi.dst undef) w → Q (.panic c) a w := by first | exact fun _ _ _ h => h | exact fun _ _ _ h => nomatch h.1) (hS : S w := by assumption) : wpAnyH P md ops Q S (fuel + 1) listed a w :=
 wpAnyH_take hi hs hf hr hQ (Or.inr ⟨hw, rfl⟩) hS h
theorem kBs {α : Type} : (∀ (xs : List α) (i : Nat) (h : i < xs.toArray.size), xs.toArray[i] = xs[i]'(by simpa using h)) ∧ (∀ (a : α) (as' : List α) (h : 0 < (a :: as').length), (a :: as')[0] = a) ∧ (∀ (a : α) (as' : List α) (i : Nat) (h : i + 1 < (a :: as').length), (a :: as')[i + 1] = as'[i]'(by simpa using h)) ∧
  (∀ (l : List α) (i : Nat) (a : α), l.toArray.setIfInBounds i a = (l.set i a).toArray) ∧ (∀ (x a : α) (xs : List α), (x :: xs).set 0 a = a :: xs) ∧ (∀ (x a : α) (xs : List α) (n : Nat), (x :: xs).set (n + 1) a = x :: xs.set n a) :=
 ⟨fun _ _ _ => rfl, fun _ _ _ => rfl, fun _ _ _ _ => rfl, fun _ _ _ => List.setIfInBounds_toArray .., fun _ _ _ => rfl, fun _ _ _ _ => rfl⟩
theorem kGs {α : Type} : (∀ (l : List α) (i : Nat), l.toArray[i]? = l[i]?) ∧ (∀ (a : α) (l : List α), (a :: l)[0]? = some a) ∧ (∀ (a : α) (l : List α) (i : Nat), (a :: l)[i + 1]? = l[i]?) :=
 ⟨fun _ _ => List.getElem?_toArray .., fun _ _ => List.getElem?_cons_zero .., fun _ _ _ => List.getElem?_cons_succ ..⟩
end Go.Proofs.YtfdbokipgofcdaaGreatDoor

namespace Go.Proofs.YtfdbokipgofcdaaGreatDoor
open Go.RowKit
namespace WNum

theorem specFold (n : Int) (w : World) (h1 : -9223372036854775808 ≤ n) (h2 : n ≤ 9223372036854775807) :
  Calls Tryz.prog 92 #[.int .i64 n] w fun e w' => e = .returned (.int .u64 (Pl.fold n : Nat)) ∧ w' = w := by
 by_cases h : n < 0
 ·have E := hide (Pl.fold_neg h)
  go_enter Tryz.func92, Tryz.ntmps92
  go_wp2
  go_ret
  exact ⟨yf2 (by rw [za E]; omega), rfl⟩
 ·have E := hide (Pl.zq9 (Int.not_lt.1 h))
  go_enter Tryz.func92, Tryz.ntmps92
  go_wp2
  go_ret
  exact ⟨yf2 (by rw [za E]), rfl⟩

theorem implFold (n : Int) (w : World) (h1 : -9223372036854775808 ≤ n) (h2 : n ≤ 9223372036854775807) :
  Calls Tryz.prog 64 #[.int .i64 n] w fun e w' => e = .returned (.int .u64 (Pl.fold n : Nat)) ∧ w' = w := by
 by_cases h : n < 0
 ·have E := hide (Pl.foldNot_form n h1 h)
  go_enter Tryz.func64, Tryz.ntmps64
  go_wp2
  go_ret
  exact ⟨yf2 (by rw [← za E]), rfl⟩
 ·have E := hide (Pl.zq9 (Int.not_lt.1 h))
  go_enter Tryz.func64, Tryz.ntmps64
  go_wp2
  go_ret
  exact ⟨yf2 (by rw [za E]; omega), rfl⟩

theorem Tryz.len10 : Tryz.prog.arrayLen 94 = 10 := by kernel_rfl
theorem Tryz.arr10 : Tryz.prog.underlying 94 = some (.array (Tryz.prog.arrayLen 94) (Tryz.prog.elem 94)) := by kernel_rfl
theorem Tryz.size1 (w : World) : (sizeOf (Tryz.prog.elem 94)).run Tryz.prog w = .ok 1 w := by kernel_rfl
theorem head_slice (k : Nat) (hk : k ≤ 9) (B : Nat) (w : World) :
  (Instr.sliceAt 94 (.pointer (some ⟨B, 0, none⟩)) none (some (.int .i64 ((k : Int) + 1))) none).run Tryz.prog w = .ok (.slice (some ⟨B, 0, none⟩) (k + 1) 10) w := by
 have h := run_sliceAt_array_h (P := Tryz.prog) w 94 ⟨B, 0, none⟩ Tryz.arr10 .i64 ((k : Int) + 1) (by omega) (by rw [Tryz.len10]; omega)
 rw [h, Tryz.size1]
 simp only [Result.andThen, slicedAt, Tryz.len10]
 simp [Addr.add]
theorem head_text {u k X : Nat} {C : Array Value} {w : World} (h : Pl.zp2 u k X C) (hX : X < 128) (hk : k < C.size) :
  (convert 22 9 (.slice (some ⟨w.heap.size, 0, none⟩) (k + 1) 10)).run Tryz.prog (w.alloc (.cells (C.setIfInBounds k (.int .u8 (X : Int))) 94))
   = .ok (.string ⟨(Pl.enc u).toArray⟩) (w.alloc (.cells (C.setIfInBounds k (.int .u8 (X : Int))) 94)) := by
 have e := run_convert_bytes_back (P := Tryz.prog) (w.alloc (.cells (C.setIfInBounds k (.int .u8 (X : Int))) 94)) 22 9 5 ⟨w.heap.size, 0, none⟩ 10 (Pl.enc u) Tryz.underlying22 Tryz.underlying5 Tryz.underlying9
  (fun j hj => by
   have hb := h.bytes hX hk j hj
   have ha : (⟨w.heap.size, 0, none⟩ : Addr).add j = ⟨w.heap.size, j, none⟩ := by unfold Addr.add; split <;> simp_all
   rw [ha, World.cell?_alloc_mark]
   exact hb)
 rw [h.length hX] at e
 exact e

set_option maxRecDepth 100000 in
set_option maxHeartbeats 400000 in
theorem zz7 (n : Int) (w : World) (h1 : -9223372036854775808 ≤ n) (h2 : n ≤ 9223372036854775807) :
  Calls Tryz.prog 32 #[.int .i64 n] w fun e w' => e = .returned (.string ⟨(Pl.enc (Pl.fold n)).toArray⟩) ∧ Below w.heap.size w w' := by
 have hu := Pl.yf9 h1 h2
 go_enter Tryz.func32, Tryz.ntmps32
 go_wp2_with (go_at_call 64; refine (implFold n _ h1 h2).mono ?_; rintro e w' ⟨rfl, rfl⟩)
 go_loopw [4, 5] (fun c x wr => ∃ (k X : Nat) (C : Array Value), k ≤ 9 ∧ C.size = 10 ∧ c = .int .i64 k ∧ x = .int .u64 (X : Int) ∧ wr = w.alloc (.cells C 94) ∧ X < 18446744073709551616 ∧
   Hid (Pl.zp2 (Pl.fold n) k X C)) (fun c _ _ => 10 - (intOf c).toNat)
 case atStart => exact ⟨0, Pl.fold n, _, by omega, rfl, rfl, rfl, rfl, hu, Pl.zp2.start _ _⟩
 case round =>
  obtain ⟨k, X, C, hk, hC, rfl, rfl, rfl, hX, HP⟩ := hrel
  by_cases h128 : 128 ≤ X
  ·have hk8 : k < 9 := Pl.zp2.lt HP.out h128 hu
   have hl := Pl.low7_form X hX
   go_wp2
   go_roundw
   case rel => exact ⟨k + 1, X / 128, _, by omega, by simp [hC], by go_num, by go_num, rfl, by omega, HP.out.step h128 (by omega)⟩
   case measure => simp [intOf]; omega
  ·obtain ⟨v0, hv0⟩ : ∃ v, C[k]? = some v := ⟨C[k], Array.getElem?_eq_getElem (by omega)⟩
   have hX' : X < 128 := by omega
   have hsl := head_slice k hk w.heap.size
   have hcv := head_text (w := w) HP.out hX' (by omega)
   go_wp2
   go_ret
   exact ⟨rfl, (Below.refl _ _).alloc (Nat.le_refl _) _⟩

theorem Tryz.info8 : (Tryz.prog.info? 5).map (fun i => (i.zero, i.size, i.bytes)) = some (some (.int .u8 0), 1, 1) := by kernel_rfl

set_option maxRecDepth 100000 in
set_option maxHeartbeats 400000 in
theorem zz8 (n : Int) (w : World) (h1 : -9223372036854775808 ≤ n) (h2 : n ≤ 9223372036854775807) :
  Calls Tryz.prog 69 #[.int .i64 n] w fun e w' => e = .returned (.string ⟨(Pl.enc (Pl.fold n)).toArray⟩) ∧ Below w.heap.size w w' := by
 have hu := Pl.yf9 h1 h2
 go_enter Tryz.func69, Tryz.ntmps69
 go_wp2_with (go_at_call 92; refine (specFold n _ h1 h2).mono ?_; rintro e w' ⟨rfl, hw⟩; obtain rfl := hw.symm)
 obtain ⟨i0, hi, hz0, hz1, hz2⟩ := info_parts Tryz.info8
 go_loopw [3, 4] (fun x v wr => ∃ (k X : Nat), k ≤ 9 ∧ x = .int .u64 (X : Int) ∧ X < 18446744073709551616 ∧
   wr.ownsRow w.heap.size 5 1 v k ((Pl.zr5 (Pl.fold n) k).map Pl.ze6) ∧ Below w.heap.size w wr ∧ Hid (Pl.zo (Pl.fold n) k X)) (fun x _ _ => (intOf x).toNat)
 case atStart => exact ⟨0, Pl.fold n, by omega, rfl, hu, World.ownsRow_made _ _ 0 (Nat.le_refl _) (Nat.zero_le _) rfl, (Below.refl _ _).alloc (Nat.le_refl _) _, Pl.zo.start _⟩
 case round =>
  obtain ⟨k, X, hk, rfl, hX, hown, hbel, HP⟩ := hrel
  by_cases h128 : 128 ≤ X
  ·have hk8 : k < 9 := Pl.zo.lt HP.out h128 hu
   have HC := hide HP.out.cells
   have hlow := hown.lt
   have hb1 := hbel.size
   go_wp2_with (at_builtin; refine wpList_append_own _ rfl _ _ 22 rfl w.heap.size 5 i0 (.int .u8 0) 1 1 Tryz.underlying22 hi hz0 hz1 hz2 rfl (by decide) _ _ _ rfl (hown.alloc _) ⟨wr.heap.size, 0, none⟩ 1 1 [.int .u8 ((X : Int) % 128 + 128)] rfl rfl ?c1 ?c2 ?c3 ?c4 ?c5 ?_)
   case c1 => exact Mem.zq5 _ _ _
   case c2 => exact Mem.one_cell _ _
   case c3 => unfold maxLen; omega
   case c4 => omega
   case c5 => simp; omega
   ·intro v' w1 hown' hgrow _
    have hbel' := Mem.zj6 hbel (Nat.le_refl _) hown hgrow
    rw [za HC] at hown'
    clear hgrow hown hbel hlow
    go_wp2
    go_roundw
    case rel => exact ⟨k + 1, X / 128, by omega, by go_num, by omega, hown', hbel', HP.out.step h128⟩
    case measure => simp [intOf]; omega
  ·have hX' : X < 128 := by omega
   have HC := hide (HP.out.last hX')
   have HL := hide (HP.out.length hX')
   have hb1 := hbel.size
   go_wp2_with (at_builtin; refine wpList_append_own _ rfl _ _ 22 rfl w.heap.size 5 i0 (.int .u8 0) 1 1 Tryz.underlying22 hi hz0 hz1 hz2 rfl (by decide) _ _ _ rfl (hown.alloc _) ⟨wr.heap.size, 0, none⟩ 1 1 [.int .u8 (X : Int)] rfl rfl ?c1 ?c2 ?c3 ?c4 ?c5 ?_)
   case c1 => exact Mem.zq5 _ _ _
   case c2 => exact Mem.one_cell _ _
   case c3 => unfold maxLen; omega
   case c4 => omega
   case c5 => simp; omega
   ·intro v' w1 hown' hgrow _
    have hbel' := Mem.zj6 hbel (Nat.le_refl _) hown hgrow
    rw [za HC] at hown'
    have hcv := Mem.own_text Tryz.underlying22 Tryz.underlying5 Tryz.underlying9 (Pl.enc (Pl.fold n)) (za HL) (by omega) hown'
    clear hgrow hown hbel hown'
    go_wp2
    go_ret
    exact ⟨rfl, hbel'⟩
end WNum
end Go.Proofs.YtfdbokipgofcdaaGreatDoor

namespace Go.Proofs.YtfdbokipgofcdaaGreatDoor
open Go.RowKit
namespace zd6
def put (s : ByteArray) : ByteArray := if 8000 < s.size then ⟨#[]⟩ else ⟨(Pl.enc (Pl.fold s.size) ++ s.data.toList).toArray⟩
theorem put_long {s : ByteArray} (h : 8000 < s.size) : put s = ⟨#[]⟩ := if_pos h
theorem zt1 {s : ByteArray} (h : ¬ 8000 < s.size) : put s = ⟨(Pl.enc (Pl.fold s.size) ++ s.data.toList).toArray⟩ := if_neg h

theorem zd0 (s : ByteArray) (w : World) (hs : s.size ≤ maxLen) :
  Calls Tryz.prog 70 #[.string s] w fun e w' => e = .returned (.string (put s)) ∧ Below w.heap.size w w' := by
 unfold maxLen at hs
 by_cases h : 8000 < s.size
 ·have E := hide (put_long h)
  go_enter Tryz.func70, Tryz.ntmps70
  go_wp2
  go_ret
  exact ⟨zf2 (za E).symm, Below.refl _ _⟩
 ·have E := hide (zt1 h)
  have hle := Pl.zo1 9 (Pl.fold s.size) (by have := Pl.zq9 (n := s.size) (by omega); omega)
  go_enter Tryz.func70, Tryz.ntmps70
  go_wp2_with fail
  refine (WNum.zz8 _ _ (by omega) (by omega)).mono ?_
  rintro e w1 ⟨rfl, b1⟩
  go_wp2
  go_ret
  exact ⟨zf2 (by rw [za E, Pl.yu]), b1⟩

theorem zg5 (s : ByteArray) (w : World) (hs : s.size ≤ maxLen) :
  Calls Tryz.prog 33 #[.string s] w fun e w' => e = .returned (.string (put s)) ∧ Below w.heap.size w w' := by
 unfold maxLen at hs
 by_cases h : 8000 < s.size
 ·have E := hide (put_long h)
  go_enter Tryz.func33, Tryz.ntmps33
  go_wp2
  go_ret
  exact ⟨zf2 (za E).symm, Below.refl _ _⟩
 ·have E := hide (zt1 h)
  have hle := Pl.zo1 9 (Pl.fold s.size) (by have := Pl.zq9 (n := s.size) (by omega); omega)
  go_enter Tryz.func33, Tryz.ntmps33
  go_wp2_with fail
  refine (WNum.zz7 _ _ (by omega) (by omega)).mono ?_
  rintro e w1 ⟨rfl, b1⟩
  go_wp2_with fail
  refine (WJoin.any w1.heap.size 0 2 [⟨(Pl.enc (Pl.fold s.size)).toArray⟩, s] _ (by simp) (by rw [Pl.tot_two]; simp only [ByteArray.size, List.size_toArray] at *; omega) (Mem.two_texts _ _ _ _) (by simp)).mono ?_
  rintro e w2 ⟨rfl, b2⟩
  have b3 := (b1.alloc b1.size _).trans (b2.mono (by simp; have := b1.size; omega))
  clear b1 b2
  go_wp2
  go_ret
  exact ⟨zf2 (by rw [za E, Pl.cat_two]), b3⟩
end zd6
end Go.Proofs.YtfdbokipgofcdaaGreatDoor

namespace Go.Proofs.YtfdbokipgofcdaaGreatDoor
open Go.RowKit
namespace Pl
def num (n : Int) : ByteArray := ⟨(enc (fold n)).toArray⟩
def zd5 (n : Nd) : List ByteArray := [zd6.put n.path, num n.kind, zd6.put n.data, num n.time, num n.mark]
def zn2 (L : List Nd) : List ByteArray := num L.length :: L.flatMap zd5
def zc6 (L : List Nd) : ByteArray := ⟨(cat (zn2 L)).toArray⟩
def zf7 (L : List Nd) : ByteArray := if za2 L then (if 8000 < (zc6 L).size then ⟨#[]⟩ else zc6 L) else ⟨#[]⟩
end Pl
namespace Pl
theorem zm6 {n : Int} (h1 : -9223372036854775808 ≤ n) (h2 : n ≤ 9223372036854775807) : (num n).size ≤ 11 := by
 have h := zo1 10 (fold n) (Nat.lt_of_lt_of_le (yf9 h1 h2) (by decide))
 show (enc (fold n)).toArray.size ≤ 11
 simpa using h
theorem yh5 {s : ByteArray} (h : s.size ≤ 8000) : (zd6.put s).size ≤ s.size + 11 := by
 rw [zd6.zt1 (by omega)]
 have h := zo1 10 (fold s.size) (Nat.lt_of_lt_of_le (yf9 (by omega) (by omega)) (by decide))
 show (enc (fold s.size) ++ s.data.toList).toArray.size ≤ s.size + 11
 have e : s.data.toList.length = s.size := Array.length_toList
 simp only [List.size_toArray, List.length_append, e]
 omega
def upTo (L : List Nd) (k : Nat) : ByteArray := ⟨(cat (num L.length :: (L.take k).flatMap zd5)).toArray⟩
theorem zx7 (A B : List ByteArray) : cat (A ++ B) = cat A ++ cat B := by simp [cat]
theorem upTo_step (L : List Nd) {n : Nd} {k : Nat} (h : L[k]? = some n) : upTo L (k + 1) = upTo L k ++ zd6.put n.path ++ num n.kind ++ zd6.put n.data ++ num n.time ++ num n.mark := by
 have h1 := (List.getElem?_eq_some_iff.1 h)
 apply ByteArray.ext
 apply Array.toList_inj.1
 have e : L.take (k + 1) = L.take k ++ [n] := by rw [List.take_succ_eq_append_getElem h1.1, h1.2]
 have h2 : (num L.length :: (L.take (k + 1)).flatMap zd5) = (num L.length :: (L.take k).flatMap zd5) ++ zd5 n := by rw [e, List.flatMap_append]; simp
 simp only [upTo, h2, zx7]
 simp [zd5, cat]
theorem yd9 {n : Nd} (h : zm5 n = true) : 0 ≤ n.kind ∧ n.kind ≤ 2 := by
 unfold zm5 at h
 split at h
 ·omega
 split at h
 ·omega
 split at h
 ·omega
 ·cases h
theorem upTo_zero (L : List Nd) : upTo L 0 = num L.length := by
 apply ByteArray.ext; apply Array.toList_inj.1; simp [upTo, cat]
theorem upTo_end (L : List Nd) : upTo L L.length = zc6 L := by simp [upTo, zc6, zn2]
end Pl
namespace zy
set_option linter.unusedSimpArgs false in
set_option maxRecDepth 100000 in
set_option maxHeartbeats 2000000 in
theorem yi0 (a : Option Addr) (cap : Nat) (L : List Pl.Nd) (w : World) (h40 : L.length ≤ 40) (hv : Mem.zc2 w a L) (hok : ∀ n ∈ L, Pl.zb6 n = true) :
  Calls Tryz.prog 71 #[.agg #[.slice a L.length cap]] w fun e w' => e = .returned (.string (Pl.zc6 L)) ∧ Below w.heap.size w w' := by
 have b0 : Below w.heap.size w (w.alloc (.cells #[.slice a L.length cap] 36)) := (Below.refl _ _).alloc (Nat.le_refl _) _
 have hvar := Mem.ze0 w [.slice a L.length cap] 36
 have HV := hide hv
 have HO := hide hok
 have hp := hide (WNum.zz8 (L.length : Int) (w.alloc (.cells #[.slice a L.length cap] 36)) (by omega) (by omega))
 clear hv hok
 go_enter Tryz.func71, Tryz.ntmps71
 go_wp2_with fail
 refine (za hp).mono ?_
 rintro e w1 ⟨rfl, b1⟩
 have b2 := b0.trans (b1.mono b0.size)
 have HVAR := hide (Mem.zg9 hvar b1)
 clear hvar b0 b1 hp
 go_wp2
 go_loopw [3, 4] (fun v i wr => ∃ (k : Nat) (B : ByteArray), k ≤ L.length ∧ i = .int .i64 (k : Int) ∧ v = .string B ∧ B.size ≤ 11 + k * 400 ∧ Below w.heap.size w wr ∧ Hid (Mem.Var wr w.heap.size [.slice a L.length cap]) ∧ Hid (B = Pl.upTo L k)) (fun _ i _ => L.length - (intOf i).toNat)
 case atStart => exact ⟨0, _, Nat.zero_le _, rfl, rfl, by have := Pl.zm6 (n := (L.length : Int)) (by omega) (by omega); exact this, b2, HVAR, hide (Pl.upTo_zero L).symm⟩
 case round =>
  obtain ⟨k, B, hk, rfl, rfl, hBs, hbel, HVAR2, HBE⟩ := hrel
  have cv := (za HVAR2).2 0 _ rfl
  by_cases hlt : k < L.length
  ·obtain ⟨n, hn⟩ : ∃ n, L[k]? = some n := ⟨_, List.getElem?_eq_getElem hlt⟩
   obtain ⟨b, o, rfl, hb, q0, q1, q2, q3, q4⟩ := (Mem.za8 (za HV) hbel) k n hn
   have hnb := za HO n (List.mem_of_getElem? hn)
   have hnr := Pl.zi7 (Pl.ze2 hnb).1
   obtain ⟨hnd, hnt, hnm, hnk⟩ := Pl.zh3 hnb
   have hkk := Pl.yd9 hnk
   have HST := hide (Pl.upTo_step L hn)
   have y1 : (k : Int) < (L.length : Int) := by omega
   have y3 : (0 : Int) ≤ (k : Int) := by omega
   obtain ⟨p, k0, d, t, m⟩ := n
   simp only at q0 q1 q2 q3 q4 hnr hnd hnt hnm hkk HST
   have cp := hide (fun W => zd6.zd0 p W (by unfold maxLen; omega))
   have cd := hide (fun W => zd6.zd0 d W (by unfold maxLen; omega))
   have ck := hide (fun W => WNum.zz8 k0 W (by omega) (by omega))
   have ct := hide (fun W => WNum.zz8 t W (by omega) (by omega))
   have cm := hide (fun W => WNum.zz8 m W (by omega) (by omega))
   have zp := Pl.yh5 (s := p) (by omega)
   have zd := Pl.yh5 (s := d) (by omega)
   have zk := Pl.zm6 (n := k0) (by omega) (by omega)
   have zt := Pl.zm6 (n := t) (by omega) (by omega)
   have zm := Pl.zm6 (n := m) (by omega) (by omega)
   change Hid (∀ W, Calls Tryz.prog _ _ W fun e w' => e = .returned (.string (Pl.num k0)) ∧ _) at ck
   change Hid (∀ W, Calls Tryz.prog _ _ W fun e w' => e = .returned (.string (Pl.num t)) ∧ _) at ct
   change Hid (∀ W, Calls Tryz.prog _ _ W fun e w' => e = .returned (.string (Pl.num m)) ∧ _) at cm
   generalize zd6.put p = P1 at cp zp HST
   generalize zd6.put d = D1 at cd zd HST
   generalize Pl.num k0 = K1 at ck zk HST
   generalize Pl.num t = T1 at ct zt HST
   generalize Pl.num m = M1 at cm zm HST
   go_wp2_with fail
   have zn := Mem.ze0 wr [.string p, .int .i64 k0, .string d, .int .i64 t, .int .i64 m] 89
   have bw1 : Below wr.heap.size wr (wr.alloc (.cells #[.string p, .int .i64 k0, .string d, .int .i64 t, .int .i64 m] 89)) := (Below.refl _ _).alloc (Nat.le_refl _) _
   have hsz : (wr.alloc (.cells #[.string p, .int .i64 k0, .string d, .int .i64 t, .int .i64 m] 89)).heap.size = wr.heap.size + 1 := by simp
   generalize hW0 : wr.alloc (.cells #[.string p, .int .i64 k0, .string d, .int .i64 t, .int .i64 m] 89) = W0
   rw [hW0] at bw1 hsz
   have zn : Mem.Var W0 wr.heap.size [.string p, .int .i64 k0, .string d, .int .i64 t, .int .i64 m] := hW0 ▸ Mem.ze0 wr [.string p, .int .i64 k0, .string d, .int .i64 t, .int .i64 m] 89
   have z2 : wr.heap.size < W0.heap.size := by omega
   have bw0 : Below w.heap.size w W0 := hbel.trans (bw1.mono hbel.size)
   have VW0 := hide (Mem.zg9 (za HVAR2) bw1)
   have MK : Hid (∀ W', Below W0.heap.size W0 W' → (Below W0.heap.size W0 W' ∧ W'.cell? ⟨wr.heap.size, 0, none⟩ = some (.string p) ∧ W'.cell? ⟨wr.heap.size, 1, none⟩ = some (.int .i64 k0) ∧ W'.cell? ⟨wr.heap.size, 2, none⟩ = some (.string d) ∧ W'.cell? ⟨wr.heap.size, 3, none⟩ = some (.int .i64 t) ∧ W'.cell? ⟨wr.heap.size, 4, none⟩ = some (.int .i64 m))) := fun W' hb' => ⟨hb', (hb'.cell (p := ⟨wr.heap.size, 0, none⟩) z2).trans (zn.2 0 _ rfl), (hb'.cell (p := ⟨wr.heap.size, 1, none⟩) z2).trans (zn.2 1 _ rfl), (hb'.cell (p := ⟨wr.heap.size, 2, none⟩) z2).trans (zn.2 2 _ rfl), (hb'.cell (p := ⟨wr.heap.size, 3, none⟩) z2).trans (zn.2 3 _ rfl), (hb'.cell (p := ⟨wr.heap.size, 4, none⟩) z2).trans (zn.2 4 _ rfl)⟩
   have a1 : ¬ 9223372036854775807 < B.size + P1.size := by omega
   have a2 : ¬ 9223372036854775807 < B.size + P1.size + K1.size := by omega
   have a3 : ¬ 9223372036854775807 < B.size + P1.size + K1.size + D1.size := by omega
   have a4 : ¬ 9223372036854775807 < B.size + P1.size + K1.size + D1.size + T1.size := by omega
   have a5 : ¬ 9223372036854775807 < B.size + P1.size + K1.size + D1.size + T1.size + M1.size := by omega
   clear hW0 q0 q1 q2 q3 q4 cv hn hnb hnk
   refine wp_region_held_drew (S := fun W' => Below W0.heap.size W0 W' ∧ W'.cell? ⟨wr.heap.size, 0, none⟩ = some (.string p) ∧ W'.cell? ⟨wr.heap.size, 1, none⟩ = some (.int .i64 k0) ∧ W'.cell? ⟨wr.heap.size, 2, none⟩ = some (.string d) ∧ W'.cell? ⟨wr.heap.size, 3, none⟩ = some (.int .i64 t) ∧ W'.cell? ⟨wr.heap.size, 4, none⟩ = some (.int .i64 m)) (by kernel_rfl) ?_ (fun hHeld => ?_)
   ·exact za MK _ ((Below.refl _ _).trans ⟨rfl, rfl, rfl, Nat.le_refl _, fun _ _ => rfl⟩)
   refine tka (i := 0) rfl ?_
   try simp only [Act.put, kBs]
   refine tka (i := 1) rfl ?_
   try simp only [Act.put, kBs]
   refine tka (i := 2) rfl ?_
   try simp only [Act.put, kBs]
   refine tka (i := 5) rfl ?_
   try simp only [Act.put, kBs]
   refine tka (i := 6) rfl ?_
   try simp only [Act.put, kBs]
   refine tka (i := 9) rfl ?_
   try simp only [Act.put, kBs]
   refine tka (i := 10) rfl ?_
   try simp only [Act.put, kBs]
   refine tka (i := 13) rfl ?_
   try simp only [Act.put, kBs]
   refine tka (i := 14) rfl ?_
   try simp only [Act.put, kBs]
   refine tka (i := 17) rfl ?_
   try simp only [Act.put, kBs]
   refine tka (i := 18) rfl ?_
   try simp only [Act.put, kBs]
   refine wpAnyH_ready (rs := [3]) (by kernel_rfl) (by simp) ?_
   refine AllReadyH.cons rfl (fun K hK => ?_) AllReadyH.nil
   go_simp
   refine (za cp _).mono ?_
   rintro e wX ⟨rfl, bX⟩
   refine hK.out _ _ ?_ (fun hHeld => ?_)
   ·exact za MK _ (hHeld.1.trans (bX.mono hHeld.1.size))
   clear hK K
   try simp only [Act.put, kBs]
   refine tka (i := 4) rfl ?_
   try simp only [Act.put, kBs]
   refine wpAnyH_ready (rs := [7]) (by kernel_rfl) (by simp) ?_
   refine AllReadyH.cons rfl (fun K hK => ?_) AllReadyH.nil
   go_simp
   refine (za ck _).mono ?_
   rintro e wX ⟨rfl, bX⟩
   refine hK.out _ _ ?_ (fun hHeld => ?_)
   ·exact za MK _ (hHeld.1.trans (bX.mono hHeld.1.size))
   clear hK K
   try simp only [Act.put, kBs]
   refine tka (i := 8) rfl ?_
   try simp only [Act.put, kBs]
   refine wpAnyH_ready (rs := [11]) (by kernel_rfl) (by simp) ?_
   refine AllReadyH.cons rfl (fun K hK => ?_) AllReadyH.nil
   go_simp
   refine (za cd _).mono ?_
   rintro e wX ⟨rfl, bX⟩
   refine hK.out _ _ ?_ (fun hHeld => ?_)
   ·exact za MK _ (hHeld.1.trans (bX.mono hHeld.1.size))
   clear hK K
   try simp only [Act.put, kBs]
   refine tka (i := 12) rfl ?_
   try simp only [Act.put, kBs]
   refine wpAnyH_ready (rs := [15]) (by kernel_rfl) (by simp) ?_
   refine AllReadyH.cons rfl (fun K hK => ?_) AllReadyH.nil
   go_simp
   refine (za ct _).mono ?_
   rintro e wX ⟨rfl, bX⟩
   refine hK.out _ _ ?_ (fun hHeld => ?_)
   ·exact za MK _ (hHeld.1.trans (bX.mono hHeld.1.size))
   clear hK K
   try simp only [Act.put, kBs]
   refine tka (i := 16) rfl ?_
   try simp only [Act.put, kBs]
   refine wpAnyH_ready (rs := [19]) (by kernel_rfl) (by simp) ?_
   refine AllReadyH.cons rfl (fun K hK => ?_) AllReadyH.nil
   go_simp
   refine (za cm _).mono ?_
   rintro e wX ⟨rfl, bX⟩
   refine hK.out _ _ ?_ (fun hHeld => ?_)
   ·exact za MK _ (hHeld.1.trans (bX.mono hHeld.1.size))
   clear hK K
   try simp only [Act.put, kBs]
   refine tka (i := 20) rfl ?_
   try simp only [Act.put, kBs]
   refine tka (i := 21) rfl ?_
   try simp only [Act.put, kBs]
   refine wpAnyH_done (by kernel_rfl) ?_ _
   have bfin := hide (bw0.trans (hHeld.1.mono bw0.size))
   have HV3 := hide (Mem.zg9 (za VW0) hHeld.1)
   have HBE2 := hide (show B ++ P1 ++ K1 ++ D1 ++ T1 ++ M1 = Pl.upTo L (k + 1) by rw [za HST, za HBE])
   have hz5 : (B ++ P1 ++ K1 ++ D1 ++ T1 ++ M1).size ≤ 11 + (k + 1) * 400 := by simp only [ByteArray.size_append]; omega
   clear hHeld MK a1 a2 a3 a4 a5
   go_wp2
   go_roundw
   case rel => exact ⟨k + 1, _, by omega, by go_num, rfl, hz5, za bfin, HV3, HBE2⟩
   case measure => simp [intOf]; omega
  ·obtain rfl : k = L.length := by omega
   have E := hide ((za HBE).trans (Pl.upTo_end L))
   go_wp2
   go_ret
   exact ⟨zf2 (za E), hbel⟩
end zy
end Go.Proofs.YtfdbokipgofcdaaGreatDoor

