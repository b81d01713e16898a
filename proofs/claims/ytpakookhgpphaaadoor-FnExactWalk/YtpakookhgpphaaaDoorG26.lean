/- Several texts of one claim in one file: WNodesI, WNodeAt, WLevelUp, MemBand. -/
import Derived.Test.YtpakookhgpphaaaDoorG02
import Derived.Test.YtpakookhgpphaaaDoorG25
import Derived.Deep.QuietTactic
import Derived.BigQuiet
import Derived.Deep.RegionHeld3
import Derived.Test.YtpakookhgpphaaaDoorG00
import Derived.Test.YtpakookhgpphaaaDoorG09
import Derived.Test.YtpakookhgpphaaaDoorG06
import Derived.Test.YtpakookhgpphaaaDoorProg
import Derived.Maps.OwnSet
import Derived.WalkSpells
import Derived.Lib.OthersKept
import Derived.Laws.RangeAny
import Derived.Deep.Draws
namespace Go.Proofs.YtpakookhgpphaaaDoor
section
open Go.RowKit Go.Maps
namespace Pl
def parV (e2 e3:Value) (C:List Nd) (p:ByteArray):Value:=
 if (zb4 p).size=0 then .nilIface else match C.find? (fun m=>decide (m.path=zb4 p)) with |none=>e2|some m=>if m.kind=1 then .nilIface else e3
theorem par_ok {C:List Nd} {p:ByteArray} {u2 u3:TypeId} {x2 x3:Value} (hC:C.Pairwise (fun a b=>a.path≠b.path)):
  (parI C p=true∧parV (.iface u2 x2) (.iface u3 x3) C p= .nilIface)∨(parI C p=false∧∃u x,parV (.iface u2 x2) (.iface u3 x3) C p= .iface u x):=by
 unfold parV parI;by_cases h0:(zb4 p).size=0
 ·left;simp [h0]
 simp only [h0,decide_false,Bool.false_or,if_false];cases hf:C.find? (fun m=>decide (m.path=zb4 p)) with
 |none=>
  right
  refine ⟨?_,u2,x2,rfl⟩;rw [List.any_eq_false];intro m hm;have :=List.find?_eq_none.1 hf m hm;simp at this
  simp [this]
 |some m=>
  have h1:=List.mem_of_find?_eq_some hf;have h2:m.path=zb4 p:=by simpa using List.find?_some hf
  by_cases hk:m.kind=1
  ·left
   refine ⟨?_,by simp [hk]⟩;rw [List.any_eq_true];exact ⟨m,h1,by simp [h2,hk]⟩
  ·right
   refine ⟨?_,u3,x3,by simp [hk]⟩;rw [List.any_eq_false];intro x hx;simp only [Bool.and_eq_true,decide_eq_true_eq,not_and];intro hxp
   have :x=m:=by
    have hp:∀ {A:List Nd},A.Pairwise (fun a b=>a.path≠b.path)→∀ {a b:Nd},a∈A→b∈A→a.path=b.path→a=b:=by
     intro A hA
     induction hA with
     |nil=>intro a b ha;cases ha
     |cons hx' _ ih=>
      intro a b ha hb e
      rcases List.mem_cons.1 ha with e1|h1
      ·rcases List.mem_cons.1 hb with e2|h2
       ·rw [e1,e2]
       ·exact absurd (e1 ▸ e) (hx' _ h2)
      ·rcases List.mem_cons.1 hb with e2|h2
       ·exact absurd (e2 ▸ e).symm (hx' _ h1)
       ·exact ih h1 h2 e
    exact hp hC hx h1 (hxp.trans h2.symm)
   rw [this];exact hk
end Pl
namespace MapN
section
variable {P:Program} (w:World) {ops:Array Oper} {rest:List Oper} {o:Oper} {a:Act} {Q:Exit→Act→World→Prop}
theorem look_ok (hg:o.guard=none) (m x:Operand) (t:TypeId) (hop:o.op=Op.lookup t m x true)
  (k e:TypeId) (K:Keyed P k) (ht:P.underlying t=some (.map k e)) (hz:(zeroValue e).run P w= .ok (Pl.Nd.val ⟨⟨#[]⟩,0,⟨#[]⟩,0,0⟩) w) (b n:Nat) (D:DataW Unit)
  (hm:a.eval m= .map (some b)) (hown:w.ownsMap P k elem b n D) (kv:Value) (kl:Lit) (hx:a.eval x=kv) (hkey:keyOf P k kv=some kl) (nd:Pl.Nd) (hat:D.atKey kl (dat ⟨⟨#[]⟩,0,⟨#[]⟩,0,0⟩)=dat nd) (r:Bool) (hr:Maps.has D kl=r)
  (hK:wpList P ops Q rest (a.put o.dst (.tuple #[.agg #[.string nd.path, .int .i64 nd.kind, .string nd.data, .int .i64 nd.time, .int .i64 nd.mark], .bool r])) w):
  wpList P ops Q (o::rest) a w:=
 wpList_lookup_own_ok w hg m x t hop k e K ht elem hz _ [] (zn8 _) b n D hm hown kv kl hx hkey (fun v ps hv=>by
  obtain ⟨n1,rfl,hd⟩:=elem_inv hv;obtain rfl:=zo (hat.symm.trans hd);rw [hr]
  exact hK)
end
end MapN
namespace zn7
structure Errs (w:World) (u1 u2 u3:TypeId) (x1 x2 x3:Value):Prop where
 c1:w.cell? ⟨1,0,none⟩=some (.iface u1 x1)
 c2:w.cell? ⟨2,0,none⟩=some (.iface u2 x2)
 c3:w.cell? ⟨3,0,none⟩=some (.iface u3 x3)
theorem Errs.call {w w':World} {u1 u2 u3:TypeId} {x1 x2 x3:Value} (h:Errs w u1 u2 u3 x1 x2 x3) (b:Below w.heap.size w w'):Errs w' u1 u2 u3 x1 x2 x3:=
 ⟨(b.cell (p:=⟨_,0,none⟩) (World.block_lt_of_cell? w ⟨_,0,none⟩ h.c1)).trans h.c1,(b.cell (p:=⟨_,0,none⟩) (World.block_lt_of_cell? w ⟨_,0,none⟩ h.c2)).trans h.c2,(b.cell (p:=⟨_,0,none⟩) (World.block_lt_of_cell? w ⟨_,0,none⟩ h.c3)).trans h.c3⟩
theorem ze3 {w w':World} {B n:Nat} {D:DataW Unit} (h:w.ownsMap Tryd.prog 9 MapN.elem B n D) (b:Below w.heap.size w w'):w'.ownsMap Tryd.prog 9 MapN.elem B n D:=
 h.kept (row:=none) ⟨b.os,b.tape,b.output,b.size,fun k hk _=>b.block k hk⟩ (by simp)
set_option maxRecDepth 100000 in
set_option maxHeartbeats 400000 in
theorem fault_any (B N:Nat) (C:List Pl.Nd) (p:ByteArray) (w:World) (u1 u2 u3:TypeId) (x1 x2 x3:Value) (hE:Errs w u1 u2 u3 x1 x2 x3) (hown:w.ownsMap Tryd.prog 9 MapN.elem B N (MapN.mapOf C)) (hC:C.Pairwise (fun a b=>a.path≠b.path)) (hp:p.size≤1048576):
  Calls Tryd.prog 73 #[.map (some B), .string p] w fun e w'=>e= .returned (Pl.parV (.iface u2 x2) (.iface u3 x3) C p)∧Below w.heap.size w w':=by
 have hpa:=hide (zt4.zv3 p w hp)
 have hz:=hide (show (Pl.zb4 p).size≤1048576 from by
  have h1:=Pl.zq p;have h2:=Pl.zy2 (Pl.zb7 p).dropLast (fun t ht=>(Pl.zp6 (h1.1 t (List.dropLast_subset _ ht))).2.2.2);rw [List.length_dropLast] at h2;show (Pl.glue (Pl.zb7 p).dropLast).size≤1048576
  omega)
 change Hid (Calls Tryd.prog _ _ w fun e w'=>e= .returned (.string (Pl.zb4 p))∧_) at hpa
 have E1:Hid ((Pl.zb4 p).size=0→Pl.parV (.iface u2 x2) (.iface u3 x3) C p= .nilIface):=fun h=>by simp [Pl.parV,h]
 have E2:Hid ((Pl.zb4 p).size≠0→C.find? (fun m=>decide (m.path=Pl.zb4 p))=none→Pl.parV (.iface u2 x2) (.iface u3 x3) C p= .iface u2 x2):=fun h hf=>by simp [Pl.parV,h,hf]
 have E3:Hid ((Pl.zb4 p).size≠0→∀m,C.find? (fun m=>decide (m.path=Pl.zb4 p))=some m→Pl.parV (.iface u2 x2) (.iface u3 x3) C p=if m.kind=1 then .nilIface else .iface u3 x3):=fun h m hf=>by simp [Pl.parV,h,hf]
 generalize Pl.parV (.iface u2 x2) (.iface u3 x3) C p=R at E1 E2 E3 ⊢;generalize Pl.zb4 p=q at hpa hz E1 E2 E3;have HE:=hide hE;have HM:=hide hown;clear hE hown;go_enter Tryd.func73,Tryd.ntmps73
 go_wp2_with fail
 refine (za hpa).mono ?_;rintro e w1 ⟨rfl,b1⟩;have hE1:=(za HE).call b1;have hM1:=hide (ze3 (za HM) b1);have k2:∀o,(w1.alloc o).cell? ⟨2,0,none⟩=some (.iface u2 x2):=fun o=>(World.cell?_alloc_some _ _ _ (by rw [hE1.c2];rfl)).trans hE1.c2;have k3:∀o,(w1.alloc o).cell? ⟨3,0,none⟩=some (.iface u3 x3):=fun o=>(World.cell?_alloc_some _ _ _ (by rw [hE1.c3];rfl)).trans hE1.c3;clear HE HM hpa hE1;by_cases h0:q.size=0
 ·have t0:q.toList.isEmpty=true:=by rw [Pl.zd2];simpa [Pl.zg0] using h0
  have E:=hide (za E1 h0);go_wp2
  go_ret
  exact ⟨by rw [za E];rfl,b1⟩
 have t0:q.toList.isEmpty=false:=by rw [Pl.zd2];simpa [Pl.zg0] using h0
 have hkey:=MapN.zk1 (p:=q) (by have :=za hz;unfold maxLen;omega);cases hf:C.find? (fun m=>decide (m.path=q)) with
 |none=>
  have E:=hide (za E2 h0 hf);have hmiss:∀n∈C,n.path≠q:=fun n hn=>by simpa using List.find?_eq_none.1 hf n hn
  have ha:=hide (MapN.has_no hmiss);have ha2:=hide (Maps.atKey_of_not_has (za ha) (MapN.dat ⟨⟨#[]⟩,0,⟨#[]⟩,0,0⟩));clear E1 E2 E3 hf hmiss;go_wp2_with (at_lookup;refine MapN.look_ok _ rfl _ _ 49 rfl 9 25 MapN.law Tryd.underlying49 (MapN.zeroN _) B N (MapN.mapOf C) rfl (za hM1) _ _ rfl hkey ⟨⟨#[]⟩,0,⟨#[]⟩,0,0⟩ (za ha2) false (za ha) ?_)
  go_ret
  exact ⟨by rw [za E];rfl,b1.alloc b1.size _⟩
 |some m=>
  have E:=hide (za E3 h0 m hf);have hm1:=List.mem_of_find?_eq_some hf;have hm2:m.path=q:=by simpa using List.find?_some hf
  obtain ⟨y1,y2⟩:=MapN.zr6 hC hm1;rw [hm2] at y1 y2;have ha:=hide y1;have ha2:=hide (y2 (MapN.dat ⟨⟨#[]⟩,0,⟨#[]⟩,0,0⟩));clear E1 E2 E3 hf y1 y2 hm1 hm2;by_cases hk:m.kind=1
  ·have E':=hide (show R= .nilIface by rw [za E,if_pos hk]);have t1:(m.kind==1)=true:=by simpa using hk
   clear E hk;go_wp2_with (at_lookup;refine MapN.look_ok _ rfl _ _ 49 rfl 9 25 MapN.law Tryd.underlying49 (MapN.zeroN _) B N (MapN.mapOf C) rfl (za hM1) _ _ rfl hkey m (za ha2) true (za ha) ?_)
   go_ret
   exact ⟨by rw [za E'];rfl,b1.alloc b1.size _⟩
  ·have E':=hide (show R= .iface u3 x3 by rw [za E,if_neg hk]);have t1:(m.kind==1)=false:=by simpa using hk
   clear E hk;go_wp2_with (at_lookup;refine MapN.look_ok _ rfl _ _ 49 rfl 9 25 MapN.law Tryd.underlying49 (MapN.zeroN _) B N (MapN.mapOf C) rfl (za hM1) _ _ rfl hkey m (za ha2) true (za ha) ?_)
   go_ret
   exact ⟨by rw [za E'];rfl,b1.alloc b1.size _⟩
end zn7
end
section
open Go.RowKit Go.Maps
namespace WSight
set_option linter.unusedSimpArgs false in
set_option maxRecDepth 100000 in
set_option maxHeartbeats 2000000 in
theorem at_some (B N:Nat) (D:DataW Unit) (p:ByteArray) (m:Pl.Nd) (w:World) (hp:p.size≤1048576) (hown:w.ownsMap Tryd.prog 9 MapN.elem B N D) (h1:D.atKey (MapN.key p) (MapN.dat ⟨⟨#[]⟩,0,⟨#[]⟩,0,0⟩)=MapN.dat m) (t:Bool) (h2:Maps.has D (MapN.key p)=t):
  Calls Tryd.prog 96 #[.map (some B), .string p] w fun e w'=>e= .returned (.tuple #[m.val, .bool t])∧Below w.heap.size w w':=by
 have hkey:=MapN.zk1 (p:=p) (by unfold maxLen;omega);have HM:=hide (zn7.ze3 hown ((Below.refl _ _).alloc (Nat.le_refl _) (.cells #[.string ⟨#[]⟩, .int .i64 0, .string ⟨#[]⟩, .int .i64 0, .int .i64 0] 25)));have ha:=hide h1;have ha2:=hide h2;clear h1 h2 hown;obtain ⟨mp,mk,md,mt,mm⟩:=m;go_enter Tryd.func96,Tryd.ntmps96
 go_wp2_with (at_lookup;refine MapN.look_ok _ rfl _ _ 49 rfl 9 25 MapN.law Tryd.underlying49 (MapN.zeroN _) B N D rfl (za HM) _ _ rfl hkey ⟨mp,mk,md,mt,mm⟩ (za ha) t (za ha2) ?_)
 refine bodyPost_ret (v:= .tuple #[.agg #[.string mp, .int .i64 mk, .string md, .int .i64 mt, .int .i64 mm], .bool t]) (by simp [results,Tryd.results96,go_sem]) rfl ⟨rfl,?_⟩
 repeat first |exact Below.refl _ _|refine Below.setCell ?_ (by simp) _|refine Below.alloc ?_ (by simp) _
end WSight
end
section
open Go.RowKit Go.Maps
namespace WSight
set_option linter.unusedSimpArgs false in
set_option maxRecDepth 100000 in
set_option maxHeartbeats 2000000 in
theorem up_any (s:Pl.Sg) (w:World) (hh:s.have'.length=4) (hm:0≤s.node.mark∧s.node.mark≤1000):
  Calls Tryd.prog 66 #[.agg s.cs.toArray] w fun e w'=>e= .returned (.agg (Pl.upS s).cs.toArray)∧Below w.heap.size w w':=by
 obtain ⟨told,⟨sp,sk,sd,st,sm⟩,hv⟩:=s
 obtain ⟨h0,h1,h2,h3,rfl⟩:∃h0 h1 h2 h3,hv=[h0,h1,h2,h3]:=by
  match hv,hh with
  | [a,b,c,d],_=>exact ⟨a,b,c,d,rfl⟩
 simp only at hm;have hw:IntKind.i64.wrap (sm - 1)=sm - 1:=by simp only [IntKind.wrap_i64];omega
 generalize hU:Pl.upS ⟨told,⟨sp,sk,sd,st,sm⟩,[h0,h1,h2,h3]⟩=U;simp only [Pl.upS] at hU;rw [show (Pl.Sg.cs ⟨told,⟨sp,sk,sd,st,sm⟩,[h0,h1,h2,h3]⟩).toArray=#[.bool told, .string sp, .int .i64 sk, .string sd, .int .i64 st, .int .i64 sm, .bool h0, .bool h1, .bool h2, .bool h3] from rfl];by_cases h5:sm - 1<0
 ·have hM:max (sm - 1) 0=0:=by omega
  rw [hM] at hU;by_cases hk:sk=0
  ·subst hk;rw [if_pos ⟨rfl,rfl⟩] at hU;have EU:=hide hU.symm;clear hU;go_enter Tryd.func66,Tryd.ntmps66
   go_wp2
   refine bodyPost_ret (v:= .agg #[.bool false, .string ⟨#[]⟩, .int .i64 0, .string ⟨#[]⟩, .int .i64 0, .int .i64 0, .bool false, .bool false, .bool false, .bool false]) (by simp [results,Tryd.results66,go_sem]) rfl ⟨by rw [za EU];rfl,?_⟩
   repeat first |exact Below.refl _ _|refine Below.setCell ?_ (by simp) _|refine Below.alloc ?_ (by simp) _
  ·have t1:(sk==0)=false:=by simpa using hk
   rw [if_neg (fun h=>hk h.1)] at hU;have EU:=hide hU.symm;clear hU;go_enter Tryd.func66,Tryd.ntmps66
   go_wp2
   refine bodyPost_ret (v:= .agg #[.bool told, .string sp, .int .i64 sk, .string sd, .int .i64 st, .int .i64 (0), .bool h0, .bool h1, .bool h2, .bool h3]) (by simp [results,Tryd.results66,go_sem]) rfl ⟨by rw [za EU];rfl,?_⟩
   repeat first |exact Below.refl _ _|refine Below.setCell ?_ (by simp) _|refine Below.alloc ?_ (by simp) _
 ·have hM:max (sm - 1) 0=sm - 1:=by omega
  rw [hM] at hU;by_cases hk:sk=0
  ·subst hk;by_cases h6:sm=1
   ·subst h6;rw [if_pos ⟨rfl,by omega⟩] at hU;have EU:=hide hU.symm;clear hU;go_enter Tryd.func66,Tryd.ntmps66
    go_wp2
    refine bodyPost_ret (v:= .agg #[.bool false, .string ⟨#[]⟩, .int .i64 0, .string ⟨#[]⟩, .int .i64 0, .int .i64 0, .bool false, .bool false, .bool false, .bool false]) (by simp [results,Tryd.results66,go_sem]) rfl ⟨by rw [za EU];rfl,?_⟩
    repeat first |exact Below.refl _ _|refine Below.setCell ?_ (by simp) _|refine Below.alloc ?_ (by simp) _
   ·have t2:(sm - 1==0)=false:=by simp;omega
    rw [if_neg (fun h=>by omega)] at hU;have EU:=hide hU.symm;clear hU;go_enter Tryd.func66,Tryd.ntmps66
    go_wp2
    refine bodyPost_ret (v:= .agg #[.bool told, .string sp, .int .i64 0, .string sd, .int .i64 st, .int .i64 (sm - 1), .bool h0, .bool h1, .bool h2, .bool h3]) (by simp [results,Tryd.results66,go_sem]) rfl ⟨by rw [za EU];rfl,?_⟩
    repeat first |exact Below.refl _ _|refine Below.setCell ?_ (by simp) _|refine Below.alloc ?_ (by simp) _
  ·have t1:(sk==0)=false:=by simpa using hk
   rw [if_neg (fun h=>hk h.1)] at hU;have EU:=hide hU.symm;clear hU;go_enter Tryd.func66,Tryd.ntmps66
   go_wp2
   refine bodyPost_ret (v:= .agg #[.bool told, .string sp, .int .i64 sk, .string sd, .int .i64 st, .int .i64 (sm - 1), .bool h0, .bool h1, .bool h2, .bool h3]) (by simp [results,Tryd.results66,go_sem]) rfl ⟨by rw [za EU];rfl,?_⟩
   repeat first |exact Below.refl _ _|refine Below.setCell ?_ (by simp) _|refine Below.alloc ?_ (by simp) _
end WSight
end
section
open Go.RowKit
namespace Mem
structure Band (Y X:Nat) (w w':World):Prop where
 os:w'.os=w.os
 tape:w'.tape=w.tape
 output:w'.output=w.output
 size:w.heap.size≤w'.heap.size
 block:∀j,j<w.heap.size→(j<Y∨X≤j)→w'.heap[j]? =w.heap[j]?
theorem Band.refl (Y X:Nat) (w:World):Band Y X w w:=⟨rfl,rfl,rfl,Nat.le_refl _,fun _ _ _=>rfl⟩
theorem Band.of_below {Y X:Nat} {w w':World} (b:Below w.heap.size w w'):Band Y X w w':=⟨b.os,b.tape,b.output,b.size,fun j hj _=>b.block j hj⟩
theorem Band.zw4 {Y X g:Nat} {w w':World} (b:w.grownBy w' (some g)) (h1:Y≤g) (h2:g<X):Band Y X w w':=⟨b.os,b.tape,b.output,b.size,fun j hj hh=>b.block j hj (fun e=>by cases e;omega)⟩
theorem Band.trans {Y X:Nat} {w v v':World} (h:Band Y X w v) (h':Band Y X v v'):Band Y X w v':=
 ⟨h'.os.trans h.os,h'.tape.trans h.tape,h'.output.trans h.output,Nat.le_trans h.size h'.size,fun j hj hh=>(h'.block j (Nat.lt_of_lt_of_le hj h.size) hh).trans (h.block j hj hh)⟩
theorem Band.below {Y X B:Nat} {w v v':World} (h:Band Y X v v') (b:Below B w v) (hB:B≤Y) (hs:B≤v.heap.size):Below B w v':=
 ⟨h.os.trans b.os,h.tape.trans b.tape,h.output.trans b.output,Nat.le_trans b.size h.size,fun j hj=>(h.block j (by omega) (.inl (by omega))).trans (b.block j hj)⟩
theorem Band.blk {Y X g:Nat} {w w':World} {cs:Array Value} {T:TypeId} (h:Band Y X w w') (hb:Blk w g cs T) (hg:g<Y∨X≤g):Blk w' g cs T:=(h.block g hb.lt hg).trans hb
theorem Band.row {Y X B e size n:Nat} {w w':World} {v:Value} {xs:List Value} (h:Band Y X w w') (o:w.ownsRow B e size v n xs) (hg:∀g,v.ownBlock=some g→g<Y∨X≤g):w'.ownsRow B e size v n xs:=by
 refine ⟨o.1,?_⟩
 rcases o.2 with h0|⟨g,cap,cur,rfl,hb,hh,rest⟩
 ·exact .inl h0
 ·exact .inr ⟨g,cap,cur,rfl,hb,(h.block g (Array.getElem?_eq_some_iff.1 hh).1 (hg g rfl)).trans hh,rest⟩
end Mem
end
end Go.Proofs.YtpakookhgpphaaaDoor
