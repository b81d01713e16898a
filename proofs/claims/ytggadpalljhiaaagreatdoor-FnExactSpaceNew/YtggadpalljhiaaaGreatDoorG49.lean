/- Several texts of one claim in one file: WMkJ, OkNode, OkItems, OpenNode, OpenTree, OpenItems. -/
import Derived.Test.YtggadpalljhiaaaGreatDoorG29
import Derived.Test.YtggadpalljhiaaaGreatDoorG33
import Derived.Test.YtggadpalljhiaaaGreatDoorG36
import Derived.Test.YtggadpalljhiaaaGreatDoorG00
import Derived.Below
import Derived.Test.YtggadpalljhiaaaGreatDoorG04
import Derived.Test.YtggadpalljhiaaaGreatDoorRows
import Derived.ProofKit
import Derived.OpenShut
import Derived.ShutString
import Derived.ChangeOld
namespace Go.Proofs.YtggadpalljhiaaaGreatDoor
section
open Go.RowKit
namespace WMkJ
set_option linter.unusedSimpArgs false in
set_option maxRecDepth 100000 in
set_option maxHeartbeats 1000000 in
theorem mark_from (K0 g X cap:Nat) (D:List Pl.It) (w:World) (hK0:0<K0) (hK1:K0+5242881*D.length≤8000000000000000000) (hl:D.length≤1048576) (hok:∀t∈D,t.t.L.length≤1048576) (hv:Has w g X D):
  Calls Tryz.prog 10 #[.slice (some ⟨g,0,none⟩) D.length cap, .int .i64 (K0:Int)] w fun e w'=>(∃K:Nat,e= .returned (.int .i64 (K:Int))∧K0≤K∧K≤K0+5242881*D.length)∧Mem.Band g X w w':=by
 have HO:=hide hok;have HV:=hide hv;clear hok hv;go_enter Tryz.func10,Tryz.ntmps10
 go_wp2
 go_loopw [1,5] (fun a i wr=>∃ (j K:Nat),j≤D.length∧i= .int .i64 (j:Int)∧a= .int .i64 (K:Int)∧(K0≤K∧K≤K0+5242881*j)∧Hid (Has wr g X D∧Mem.Band g X w wr)) (fun _ i _=>D.length - (intOf i).toNat)
 case atStart=>exact ⟨0,K0,Nat.zero_le _,rfl,rfl,by omega,⟨za HV,Mem.Band.refl _ _ _⟩⟩
 case round=>
  obtain ⟨j,K,hj,rfl,rfl,hK,HA⟩:=hrel;by_cases hlt:j<D.length
  ·obtain ⟨t,ht⟩:∃t,D[j]? =some t:=⟨_,List.getElem?_eq_getElem hlt⟩;have htl:=za HO t (List.mem_of_getElem? ht);have HS:=hide ((za HA).1.many (i:=j) (.int .i64 (K:Int)));have BS:=hide ((za HA).2.trans (Mem.Band.of_set (w:=wr) ⟨g,j*2,none⟩ (.int .i64 (K:Int)) (Nat.le_refl _) (za HA).1.gx));have c1:=(za HS).cell j t ht;obtain ⟨q,h1,h2,h3,cs,h4,h5⟩:=(za HS).each j t ht;obtain ⟨cur,hb1,hb2⟩:=(za HA).1.blk;obtain ⟨x0,s0⟩:∃x,wr.cell? ⟨g,j*2,none⟩=some x:=⟨_,(cell_of_row wr _ (j*2) _ _ (0,0) hb1).trans (Array.getElem?_eq_getElem (by omega))⟩;have f0:wr.frozen? ⟨g,j*2,none⟩=false:=Mem.zb1 hb1;obtain ⟨tm,ta,tc,tL⟩:=t;simp only at h1 h5 htl;subst h1;simp only [Pl.Tr.val] at c1;have hm:=hide (zh6.lay_any q tL.length tc (K+1) cs (wr.setCell ⟨g,j*2,none⟩ (.int .i64 (K:Int))) htl (by omega) (by omega) h4 h5);have H4:=hide h4;have u1:(j:Int)<(D.length:Int):=by omega
   have u3:(0:Int)≤(j:Int):=by omega
   have eK:((K+1:Nat):Int)=(K:Int)+1:=by omega
   rw [eK] at hm;clear h4 h5 ht HA hb1 hb2;go_wp2_with fail
   refine (za hm).mono ?_;rintro e w2 ⟨rfl,⟨cur',hr',hs'⟩, -,hg⟩;have HB:Hid (Has w2 g X D∧Mem.Band g X w w2):=⟨(za HS).marked h2 (za H4) hr' hs' hg,(za BS).trans (Mem.Band.zw4 hg (by omega) h3)⟩;clear HS BS hm H4 hr' hs' hg c1 s0 f0;generalize hK2:K+1+5*tL.length=K2;have hK3:K0≤K2∧K2≤K0+5242881*(j+1):=by omega
   clear hK2 hK htl;go_wp2
   go_roundw
   case rel=>exact ⟨j+1,K2,by omega,by go_num,rfl,hK3,HB⟩
   case measure=>simp [intOf];omega
  ·have u1:¬ (j:Int)<(D.length:Int):=by omega
   go_wp2
   go_ret
   exact ⟨⟨K,rfl,by omega,by omega⟩,(za HA).2⟩
theorem zd8 (g X cap:Nat) (D:List Pl.It) (w:World) (hl:D.length≤1048576) (hok:∀t∈D,t.t.L.length≤1048576) (hv:Has w g X D):
  Calls Tryz.prog 10 #[.slice (some ⟨g,0,none⟩) D.length cap, .int .i64 1] w fun e w'=>(∃K:Nat,e= .returned (.int .i64 (K:Int))∧K≤10000000000000000)∧Mem.Band g X w w':=
 (mark_from 1 g X cap D w (by omega) (by omega) hl hok hv).mono fun _ _ ⟨⟨K,h1,h2,h3⟩,h4⟩=>⟨⟨K,h1,by omega⟩,h4⟩
end WMkJ
end
section
open Go.RowKit
namespace zi9
def Ok (n:Pl.Nd):Prop:=n.path.size≤maxLen∧n.data.size≤maxLen∧(-9223372036854775808≤n.kind∧n.kind≤9223372036854775807)∧(-9223372036854775808≤n.time∧n.time≤9223372036854775807)∧(-9223372036854775808≤n.mark∧n.mark≤9223372036854775807)
end zi9
end
section
open Go.RowKit
namespace zn2
structure OkI (w:World) (a:Option Addr) (Is:List Pl.It):Prop where
 len:Is.length≤maxLen
 items:Mem.zb0 w a Is
 ok:∀x∈Is,x.t.L.length≤maxLen∧∀n∈x.t.L,zi9.Ok n
end zn2
end
section
open Go.ChangeShapes Go.WideShapes Go.ChangeAt Go.RowKit
namespace zi9
theorem five {α:Type} {l:List α} (h:l.length=5):∃a b c d e,l=[a,b,c,d,e]:=by
 match l,h with
 | [a,b,c,d,e],_=>exact ⟨a,b,c,d,e,rfl⟩
theorem cells5:Tryz.prog.cellsOf 134=5:=by kernel_rfl
theorem cellsS:Tryz.prog.cellsOf 9=1:=by kernel_rfl
theorem zb3:Tryz.prog.cellsOf 2=1:=by kernel_rfl
set_option maxRecDepth 100000 in
theorem node {H:Type} {enc:TypeId × Value→H} {w:World} {base fuel:Nat} {spare:Nat→Bool} {held:Bool} {cs:List Value} {x:DataW H × List MemPlace}
  (h:DataW.trod enc Tryz.prog w base spare held fuel 134 cs=some x):∃n:Pl.Nd,cs=n.cells∧Ok n:=by
 obtain ⟨xs,m,rfl, -,hlen,hxl,hf⟩:=DataW.trod_struct Tryz.underlying134 h;obtain ⟨c0,c1,c2,c3,c4,rfl⟩:=five (hlen.trans cells5);obtain ⟨y0,y1,y2,y3,y4,rfl⟩:=five hxl;have h0:=hf 0 _ rfl;have h1:=hf 1 _ rfl;have h2:=hf 2 _ rfl;have h3:=hf 3 _ rfl;have h4:=hf 4 _ rfl
 change DataW.trod enc Tryz.prog w base spare held m 9 (([c0,c1,c2,c3,c4].drop 0).take (Tryz.prog.cellsOf 9))=some y0 at h0
 rw [cellsS] at h0
 change DataW.trod enc Tryz.prog w base spare held m 2 (([c0,c1,c2,c3,c4].drop 1).take (Tryz.prog.cellsOf 2))=some y1 at h1
 rw [zb3] at h1
 change DataW.trod enc Tryz.prog w base spare held m 9 (([c0,c1,c2,c3,c4].drop 2).take (Tryz.prog.cellsOf 9))=some y2 at h2
 rw [cellsS] at h2
 change DataW.trod enc Tryz.prog w base spare held m 2 (([c0,c1,c2,c3,c4].drop 3).take (Tryz.prog.cellsOf 2))=some y3 at h3
 rw [zb3] at h3
 change DataW.trod enc Tryz.prog w base spare held m 2 (([c0,c1,c2,c3,c4].drop 4).take (Tryz.prog.cellsOf 2))=some y4 at h4
 rw [zb3] at h4;obtain ⟨p,e0, -,wp⟩:=DataW.trod_string Tryz.underlying9 h0;obtain ⟨k,e1, -,wk⟩:=DataW.trod_int Tryz.underlying2 h1;obtain ⟨d,e2, -,wd⟩:=DataW.trod_string Tryz.underlying9 h2;obtain ⟨t,e3, -,wt⟩:=DataW.trod_int Tryz.underlying2 h3;obtain ⟨q,e4, -,wq⟩:=DataW.trod_int Tryz.underlying2 h4;simp at e0 e1 e2 e3 e4
 subst e0 e1 e2 e3 e4;exact ⟨⟨p,k,d,t,q⟩,rfl,wp,wd,zp4 wk,zp4 wt,zp4 wq⟩
end zi9
end
section
open Go.ChangeShapes Go.WideShapes Go.ChangeAt Go.RowKit
namespace zm3
theorem cells1:Tryz.prog.cellsOf 42=1:=by kernel_rfl
theorem cellsL:Tryz.prog.cellsOf 40=1:=by kernel_rfl
structure OkT (w:World) (a:Option Addr) (L:List Pl.Nd):Prop where
 len:L.length≤maxLen
 nodes:Mem.za7 w a L
 ok:∀n∈L,zi9.Ok n
theorem one {α:Type} {l:List α} (h:l.length=1):∃a,l=[a]:=by
 match l,h with
 | [a],_=>exact ⟨a,rfl⟩
theorem mapM5 {f:Nat→Option Value} {c0 c1 c2 c3 c4:Value} (h:(List.range 5).mapM f=some [c0,c1,c2,c3,c4]):f 0=some c0∧f 1=some c1∧f 2=some c2∧f 3=some c3∧f 4=some c4:=by
 have e:List.range 5=[0,1,2,3,4]:=rfl;rw [e] at h;simp only [List.mapM_cons,List.mapM_nil,Option.pure_def,Option.bind_eq_bind] at h;cases h0:f 0 with
 |none=>rw [h0] at h;simp at h
 |some a0=>
  cases h1:f 1 with
  |none=>rw [h0,h1] at h;simp at h
  |some a1=>
   cases h2:f 2 with
   |none=>rw [h0,h1,h2] at h;simp at h
   |some a2=>
    cases h3:f 3 with
    |none=>rw [h0,h1,h2,h3] at h;simp at h
    |some a3=>
     cases h4:f 4 with
     |none=>rw [h0,h1,h2,h3,h4] at h;simp at h
     |some a4=>
      rw [h0,h1,h2,h3,h4] at h;simp at h
      obtain ⟨rfl,rfl,rfl,rfl,rfl⟩:=h;exact ⟨rfl,rfl,rfl,rfl,rfl⟩
end zm3
end
section
open Go.ChangeShapes Go.WideShapes Go.ChangeAt Go.RowKit
namespace zn2
theorem cells2:Tryz.prog.cellsOf 44=2:=by kernel_rfl
theorem zb3:Tryz.prog.cellsOf 2=1:=by kernel_rfl
theorem mapM2 {f:Nat→Option Value} {c0 c1:Value} (h:(List.range 2).mapM f=some [c0,c1]):f 0=some c0∧f 1=some c1:=by
 have e:List.range 2=[0,1]:=rfl;rw [e] at h;simp only [List.mapM_cons,List.mapM_nil,Option.pure_def,Option.bind_eq_bind] at h;cases h0:f 0 with
 |none=>rw [h0] at h;simp at h
 |some a0=>
  cases h1:f 1 with
  |none=>rw [h0,h1] at h;simp at h
  |some a1=>rw [h0,h1] at h;simp at h;exact ⟨by rw [h.1],by rw [h.2]⟩
theorem two {α:Type} {l:List α} (h:l.length=2):∃a b,l=[a,b]:=by
 match l,h with
 | [a,b],_=>exact ⟨a,b,rfl⟩
set_option maxRecDepth 100000 in
theorem tree {H:Type} {enc:TypeId × Value→H} {w:World} {base fuel:Nat} {spare:Nat→Bool} {held:Bool} {cs:List Value} {x:DataW H × List MemPlace}
  (hf:DataW.trod enc Tryz.prog w base spare held fuel 42 cs=some x):∃t:Pl.Tr,cs=[t.val]∧zm3.OkT w t.a t.L:=by
 obtain ⟨xs,m,rfl, -,hlen,hxl,hfl⟩:=DataW.trod_struct Tryz.underlying42 hf;obtain ⟨c,rfl⟩:=zm3.one (hlen.trans zm3.cells1);obtain ⟨y,rfl⟩:=zm3.one hxl;have h0:=hfl 0 _ rfl
 change DataW.trod enc Tryz.prog w base spare held m 40 (([c].drop 0).take (Tryz.prog.cellsOf 40))=some y at h0
 rw [zm3.cellsL] at h0
 rcases DataW.trod_slice Tryz.underlying40 h0 with ⟨e, -⟩|⟨a,len,cap,elems,rest,k, -,e, -,hb,hl,hm,hel,hE, -, -⟩
 ·simp at e
  subst e;exact ⟨⟨none,0,[]⟩,rfl,⟨Nat.zero_le _,Mem.zy1 _ _,fun n hn=>by cases hn⟩⟩
 ·simp at e
  subst e
  have each:∀i,i<len→∃n:Pl.Nd,zi9.Ok n∧(∃b o,some a=some ⟨b,o,none⟩∧b<w.heap.size∧
    w.cell? ⟨b,o+i*5,none⟩=some (.string n.path)∧w.cell? ⟨b,o+i*5+1,none⟩=some (.int .i64 n.kind)∧w.cell? ⟨b,o+i*5+2,none⟩=some (.string n.data)∧
    w.cell? ⟨b,o+i*5+3,none⟩=some (.int .i64 n.time)∧w.cell? ⟨b,o+i*5+4,none⟩=some (.int .i64 n.mark)):=by
   intro i hi;have h1:=hE i hi;rw [List.getElem?_eq_getElem (by omega),zi9.cells5] at h1;simp only [Option.bind_eq_some_iff] at h1;obtain ⟨ds,h2,h3⟩:=h1;obtain ⟨n,rfl,ok⟩:=zi9.node h3;unfold World.cells? at h2
   split at h2
   rotate_left
   ·cases h2
   obtain ⟨g0,g1,g2,g3,g4⟩:=zm3.mapM5 h2;obtain ⟨b,o,spot⟩:=a
   have hspot:spot=none:=by
    have h1:=hE 0 (by omega);rw [List.getElem?_eq_getElem (by omega),zi9.cells5] at h1;simp only [Option.bind_eq_some_iff] at h1;obtain ⟨ds,h2,h3⟩:=h1;obtain ⟨n,rfl,ok⟩:=zi9.node h3;unfold World.cells? at h2
    split at h2
    rotate_left
    ·cases h2
    simpa [Addr.add] using World.cell?_spot (zm3.mapM5 h2).1
   subst hspot;have add:∀j,((⟨b,o,none⟩:Addr).add (i*5)).add j=⟨b,o+i*5+j,none⟩:=fun j=>by rw [Mem.zn5,Mem.zn5]
   rw [add] at g0 g1 g2 g3 g4;exact ⟨n,ok,b,o,rfl,World.block_lt_of_cell? w ⟨b,o+i*5+0,none⟩ g0,g0,g1,g2,g3,g4⟩
  refine ⟨⟨some a,cap,List.ofFn (fun i:Fin len=>Classical.choose (each i i.2))⟩,by simp [Pl.Tr.val],⟨by simp;omega,fun i n hn=>?_,fun n hn=>?_⟩⟩
  ·rw [List.getElem?_ofFn] at hn
   split at hn
   ·cases hn;exact (Classical.choose_spec (each i (by assumption))).2
   ·cases hn
  ·obtain ⟨i,rfl⟩:=List.mem_ofFn.1 hn;exact (Classical.choose_spec (each i i.2)).1
set_option maxRecDepth 100000 in
theorem item {H:Type} {enc:TypeId × Value→H} {w:World} {base fuel:Nat} {spare:Nat→Bool} {held:Bool} {cs:List Value} {x:DataW H × List MemPlace}
  (hf:DataW.trod enc Tryz.prog w base spare held fuel 44 cs=some x):∃y:Pl.It,cs=[.int .i64 y.m,y.t.val]∧zm3.OkT w y.t.a y.t.L:=by
 obtain ⟨xs,m,rfl, -,hlen,hxl,hfl⟩:=DataW.trod_struct Tryz.underlying44 hf;obtain ⟨c,d,rfl⟩:=two (hlen.trans cells2);obtain ⟨y,z,rfl⟩:=two hxl;have h0:=hfl 0 _ rfl;have h1:=hfl 1 _ rfl
 change DataW.trod enc Tryz.prog w base spare held m 2 (([c,d].drop 0).take (Tryz.prog.cellsOf 2))=some y at h0
 change DataW.trod enc Tryz.prog w base spare held m 42 (([c,d].drop 1).take (Tryz.prog.cellsOf 42))=some z at h1
 rw [zb3] at h0;rw [zm3.cells1] at h1;obtain ⟨t,e,ok⟩:=tree h1;obtain ⟨n,e0, -, -⟩:=DataW.trod_int Tryz.underlying2 h0;simp at e e0
 subst e e0;exact ⟨⟨n,t⟩,rfl,ok⟩
set_option maxRecDepth 100000 in
theorem items_arg {H:Type} {enc:TypeId × Value→H} {w:World} {base b0:Nat} {spare:Nat→Bool} {held:Bool} {r:Reach} {v:Value} {d:DataW H} {ps:List MemPlace}
  (hv:Value.okWide Tryz.prog w r b0 22 v) (h:DataW.Trod enc Tryz.prog w base spare held 22 v d ps):∃ (a:Option Addr) (Is:List Pl.It) (cap:Nat),v= .slice a Is.length cap∧OkI w a Is:=by
 obtain ⟨a',l',c',rfl⟩:=okWide_slice Tryz.underlying22 hv;obtain ⟨fuel,h0⟩:=h
 rcases DataW.trod_slice Tryz.underlying22 h0 with ⟨e, -⟩|⟨a,len,cap,elems,rest,k, -,e, -,hb,hl,hm,hel,hE, -, -⟩
 ·simp [Value.cells] at e
  obtain ⟨rfl,rfl,rfl⟩:=e;exact ⟨none,[],0,rfl,⟨Nat.zero_le _,Mem.items_nil _ _,fun n hn=>by cases hn⟩⟩
 ·simp [Value.cells] at e
  obtain ⟨rfl,rfl,rfl⟩:=e
  have each:∀i,i<l'→∃y:Pl.It,zm3.OkT w y.t.a y.t.L∧(∃b o,some a=some ⟨b,o,none⟩∧b<w.heap.size∧w.cell? ⟨b,o+i*2,none⟩=some (.int .i64 y.m)∧w.cell? ⟨b,o+i*2+1,none⟩=some y.t.val):=by
   intro i hi;have h1:=hE i hi;rw [List.getElem?_eq_getElem (by omega),cells2] at h1;simp only [Option.bind_eq_some_iff] at h1;obtain ⟨ds,h2,h3⟩:=h1;obtain ⟨y,rfl,ok⟩:=item h3;unfold World.cells? at h2
   split at h2
   rotate_left
   ·cases h2
   obtain ⟨g0,g1⟩:=mapM2 h2;obtain ⟨b,o,spot⟩:=a
   have hspot:spot=none:=by
    have h1:=hE 0 (by omega);rw [List.getElem?_eq_getElem (by omega),cells2] at h1;simp only [Option.bind_eq_some_iff] at h1;obtain ⟨ds,h2,h3⟩:=h1;obtain ⟨t,rfl,ok⟩:=item h3;unfold World.cells? at h2
    split at h2
    rotate_left
    ·cases h2
    simpa [Addr.add] using World.cell?_spot (mapM2 h2).1
   subst hspot;have add:∀j,((⟨b,o,none⟩:Addr).add (i*2)).add j=⟨b,o+i*2+j,none⟩:=fun j=>by rw [Mem.zn5,Mem.zn5]
   rw [add] at g0 g1;exact ⟨y,ok,b,o,rfl,World.block_lt_of_cell? w ⟨b,o+i*2+0,none⟩ g0,g0,g1⟩
  refine ⟨some a,List.ofFn (fun i:Fin l'=>Classical.choose (each i i.2)),c',by simp,⟨by simp;omega,fun i n hn=>?_,fun n hn=>?_⟩⟩
  ·rw [List.getElem?_ofFn] at hn
   split at hn
   ·cases hn
    have :=Classical.choose_spec (each i (by assumption));exact ⟨this.2,this.1.nodes⟩
   ·cases hn
  ·obtain ⟨i,rfl⟩:=List.mem_ofFn.1 hn;have :=Classical.choose_spec (each i i.2);exact ⟨this.1.len,this.1.ok⟩
end zn2
end
end Go.Proofs.YtggadpalljhiaaaGreatDoor
