import Derived.Test.YtpggbphcbcogdaaGreatDoorPlainTree
import Derived.Test.YtpggbphcbcogdaaGreatDoorMapN
import Derived.Test.YtpggbphcbcogdaaGreatDoorWParentI
import Derived.Deep.QuietTactic
import Derived.BigQuiet
import Derived.Deep.RegionHeld3
namespace Go.Proofs.YtpggbphcbcogdaaGreatDoor
open Go.RowKit Go.Maps
namespace Pl
def parV (e2 e3:Value) (C:List Nd) (p:ByteArray):Value:=
 if (zb6 p).size=0 then .nilIface else match C.find? (fun m=>decide (m.path=zb6 p)) with |none=>e2|some m=>if m.kind=1 then .nilIface else e3
theorem par_ok {C:List Nd} {p:ByteArray} {u2 u3:TypeId} {x2 x3:Value} (hC:C.Pairwise (fun a b=>a.path≠b.path)):
  (parI C p=true∧parV (.iface u2 x2) (.iface u3 x3) C p= .nilIface)∨(parI C p=false∧∃u x,parV (.iface u2 x2) (.iface u3 x3) C p= .iface u x):=by
 unfold parV parI;by_cases h0:(zb6 p).size=0
 ·left;simp [h0]
 simp only [h0,decide_false,Bool.false_or,if_false];cases hf:C.find? (fun m=>decide (m.path=zb6 p)) with
 |none=>
  right
  refine ⟨?_,u2,x2,rfl⟩;rw [List.any_eq_false];intro m hm;have :=List.find?_eq_none.1 hf m hm;simp at this
  simp [this]
 |some m=>
  have h1:=List.mem_of_find?_eq_some hf;have h2:m.path=zb6 p:=by simpa using List.find?_some hf
  by_cases hk:m.kind=1
  ·left
   refine ⟨?_,by simp [hk]⟩;rw [List.any_eq_true];exact ⟨m,h1,by simp [h2,hk]⟩
  ·right
   refine ⟨?_,u3,x3,by simp [hk]⟩;rw [List.any_eq_false];intro x hx;simp only [Bool.and_eq_true,decide_eq_true_eq,not_and];intro hxp
   have :x=m:=by
    have hp:∀ {A:List Nd},A.Pairwise (fun a b=>a.path≠b.path)→∀ {a b:Nd},a∈A→b∈A→a.path=b.path→a=b:=by
     intro A hA
     induction hA with
     |nil=>intro a b ha;cases ha
     |cons hx' _ ih=>
      intro a b ha hb e
      rcases List.mem_cons.1 ha with e1|h1
      ·rcases List.mem_cons.1 hb with e2|h2
       ·rw [e1,e2]
       ·exact absurd (e1 ▸ e) (hx' _ h2)
      ·rcases List.mem_cons.1 hb with e2|h2
       ·exact absurd (e2 ▸ e).symm (hx' _ h1)
       ·exact ih h1 h2 e
    exact hp hC hx h1 (hxp.trans h2.symm)
   rw [this];exact hk
end Pl
namespace MapN
section
variable {P:Program} (w:World) {ops:Array Oper} {rest:List Oper} {o:Oper} {a:Act} {Q:Exit→Act→World→Prop}
theorem look_ok (hg:o.guard=none) (m x:Operand) (t:TypeId) (hop:o.op=Op.lookup t m x true)
  (k e:TypeId) (K:Keyed P k) (ht:P.underlying t=some (.map k e)) (hz:(zeroValue e).run P w= .ok (Pl.Nd.val ⟨⟨#[]⟩,0,⟨#[]⟩,0,0⟩) w) (b n:Nat) (D:DataW Unit)
  (hm:a.eval m= .map (some b)) (hown:w.ownsMap P k elem b n D) (kv:Value) (kl:Lit) (hx:a.eval x=kv) (hkey:keyOf P k kv=some kl) (nd:Pl.Nd) (hat:D.atKey kl (dat ⟨⟨#[]⟩,0,⟨#[]⟩,0,0⟩)=dat nd) (r:Bool) (hr:Maps.has D kl=r)
  (hK:wpList P ops Q rest (a.put o.dst (.tuple #[.agg #[.string nd.path, .int .i64 nd.kind, .string nd.data, .int .i64 nd.time, .int .i64 nd.mark], .bool r])) w):
  wpList P ops Q (o::rest) a w:=
 wpList_lookup_own_ok w hg m x t hop k e K ht elem hz _ [] (elem_mk _) b n D hm hown kv kl hx hkey (fun v ps hv=>by
  obtain ⟨n1,rfl,hd⟩:=elem_inv hv;obtain rfl:=dat_inj (hat.symm.trans hd);rw [hr]
  exact hK)
end
end MapN
namespace zk2
structure Errs (w:World) (u1 u2 u3:TypeId) (x1 x2 x3:Value):Prop where
 c1:w.cell? ⟨1,0,none⟩=some (.iface u1 x1)
 c2:w.cell? ⟨2,0,none⟩=some (.iface u2 x2)
 c3:w.cell? ⟨3,0,none⟩=some (.iface u3 x3)
theorem Errs.call {w w':World} {u1 u2 u3:TypeId} {x1 x2 x3:Value} (h:Errs w u1 u2 u3 x1 x2 x3) (b:Below w.heap.size w w'):Errs w' u1 u2 u3 x1 x2 x3:=
 ⟨(b.cell (p:=⟨_,0,none⟩) (World.block_lt_of_cell? w ⟨_,0,none⟩ h.c1)).trans h.c1,(b.cell (p:=⟨_,0,none⟩) (World.block_lt_of_cell? w ⟨_,0,none⟩ h.c2)).trans h.c2,(b.cell (p:=⟨_,0,none⟩) (World.block_lt_of_cell? w ⟨_,0,none⟩ h.c3)).trans h.c3⟩
theorem zk8 {w w':World} {B n:Nat} {D:DataW Unit} (h:w.ownsMap Tryz.prog 9 MapN.elem B n D) (b:Below w.heap.size w w'):w'.ownsMap Tryz.prog 9 MapN.elem B n D:=
 h.kept (row:=none) ⟨b.os,b.tape,b.output,b.size,fun k hk _=>b.block k hk⟩ (by simp)
set_option maxRecDepth 100000 in
set_option maxHeartbeats 400000 in
theorem fault_any (B N:Nat) (C:List Pl.Nd) (p:ByteArray) (w:World) (u1 u2 u3:TypeId) (x1 x2 x3:Value) (hE:Errs w u1 u2 u3 x1 x2 x3) (hown:w.ownsMap Tryz.prog 9 MapN.elem B N (MapN.mapOf C)) (hC:C.Pairwise (fun a b=>a.path≠b.path)) (hp:p.size≤1048576):
  Calls Tryz.prog 87 #[.map (some B), .string p] w fun e w'=>e= .returned (Pl.parV (.iface u2 x2) (.iface u3 x3) C p)∧Below w.heap.size w w':=by
 have hpa:=hide (zh3.zl2 p w hp)
 have hz:=hide (show (Pl.zb6 p).size≤1048576 from by
  have h1:=Pl.ze2 p;have h2:=Pl.zp8 (Pl.zb0 p).dropLast (fun t ht=>(Pl.zj4 (h1.1 t (List.dropLast_subset _ ht))).2.2.2);rw [List.length_dropLast] at h2;show (Pl.glue (Pl.zb0 p).dropLast).size≤1048576
  omega)
 change Hid (Calls Tryz.prog _ _ w fun e w'=>e= .returned (.string (Pl.zb6 p))∧_) at hpa
 have E1:Hid ((Pl.zb6 p).size=0→Pl.parV (.iface u2 x2) (.iface u3 x3) C p= .nilIface):=fun h=>by simp [Pl.parV,h]
 have E2:Hid ((Pl.zb6 p).size≠0→C.find? (fun m=>decide (m.path=Pl.zb6 p))=none→Pl.parV (.iface u2 x2) (.iface u3 x3) C p= .iface u2 x2):=fun h hf=>by simp [Pl.parV,h,hf]
 have E3:Hid ((Pl.zb6 p).size≠0→∀m,C.find? (fun m=>decide (m.path=Pl.zb6 p))=some m→Pl.parV (.iface u2 x2) (.iface u3 x3) C p=if m.kind=1 then .nilIface else .iface u3 x3):=fun h m hf=>by simp [Pl.parV,h,hf]
 generalize Pl.parV (.iface u2 x2) (.iface u3 x3) C p=R at E1 E2 E3 ⊢;generalize Pl.zb6 p=q at hpa hz E1 E2 E3;have HE:=hide hE;have HM:=hide hown;clear hE hown;go_enter Tryz.func87,Tryz.ntmps87
 go_wp2_with fail
 refine (za hpa).mono ?_;rintro e w1 ⟨rfl,b1⟩;have hE1:=(za HE).call b1;have hM1:=hide (zk8 (za HM) b1);have k2:∀o,(w1.alloc o).cell? ⟨2,0,none⟩=some (.iface u2 x2):=fun o=>(World.cell?_alloc_some _ _ _ (by rw [hE1.c2];rfl)).trans hE1.c2;have k3:∀o,(w1.alloc o).cell? ⟨3,0,none⟩=some (.iface u3 x3):=fun o=>(World.cell?_alloc_some _ _ _ (by rw [hE1.c3];rfl)).trans hE1.c3;clear HE HM hpa hE1;by_cases h0:q.size=0
 ·have t0:q.toList.isEmpty=true:=by rw [Pl.zd7];simpa [Pl.zf7] using h0
  have E:=hide (za E1 h0);go_wp2
  go_ret
  exact ⟨by rw [za E];rfl,b1⟩
 have t0:q.toList.isEmpty=false:=by rw [Pl.zd7];simpa [Pl.zf7] using h0
 have hkey:=MapN.keyOf_mk (p:=q) (by have :=za hz;unfold maxLen;omega);cases hf:C.find? (fun m=>decide (m.path=q)) with
 |none=>
  have E:=hide (za E2 h0 hf);have hmiss:∀n∈C,n.path≠q:=fun n hn=>by simpa using List.find?_eq_none.1 hf n hn
  have ha:=hide (MapN.has_no hmiss);have ha2:=hide (Maps.atKey_of_not_has (za ha) (MapN.dat ⟨⟨#[]⟩,0,⟨#[]⟩,0,0⟩));clear E1 E2 E3 hf hmiss;go_wp2_with (at_lookup;refine MapN.look_ok _ rfl _ _ 57 rfl 9 42 MapN.law Tryz.underlying57 (MapN.za3 _) B N (MapN.mapOf C) rfl (za hM1) _ _ rfl hkey ⟨⟨#[]⟩,0,⟨#[]⟩,0,0⟩ (za ha2) false (za ha) ?_)
  go_ret
  exact ⟨by rw [za E];rfl,b1.alloc b1.size _⟩
 |some m=>
  have E:=hide (za E3 h0 m hf);have hm1:=List.mem_of_find?_eq_some hf;have hm2:m.path=q:=by simpa using List.find?_some hf
  obtain ⟨y1,y2⟩:=MapN.at_yes hC hm1;rw [hm2] at y1 y2;have ha:=hide y1;have ha2:=hide (y2 (MapN.dat ⟨⟨#[]⟩,0,⟨#[]⟩,0,0⟩));clear E1 E2 E3 hf y1 y2 hm1 hm2;by_cases hk:m.kind=1
  ·have E':=hide (show R= .nilIface by rw [za E,if_pos hk]);have t1:(m.kind==1)=true:=by simpa using hk
   clear E hk;go_wp2_with (at_lookup;refine MapN.look_ok _ rfl _ _ 57 rfl 9 42 MapN.law Tryz.underlying57 (MapN.za3 _) B N (MapN.mapOf C) rfl (za hM1) _ _ rfl hkey m (za ha2) true (za ha) ?_)
   go_ret
   exact ⟨by rw [za E'];rfl,b1.alloc b1.size _⟩
  ·have E':=hide (show R= .iface u3 x3 by rw [za E,if_neg hk]);have t1:(m.kind==1)=false:=by simpa using hk
   clear E hk;go_wp2_with (at_lookup;refine MapN.look_ok _ rfl _ _ 57 rfl 9 42 MapN.law Tryz.underlying57 (MapN.za3 _) B N (MapN.mapOf C) rfl (za hM1) _ _ rfl hkey m (za ha2) true (za ha) ?_)
   go_ret
   exact ⟨by rw [za E'];rfl,b1.alloc b1.size _⟩
end zk2
end Go.Proofs.YtpggbphcbcogdaaGreatDoor
