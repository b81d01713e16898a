import Derived.Test.YtgdjjncmocppeaaGreatDoorG02
import Derived.Test.YtgdjjncmocppeaaGreatDoorG34
import Derived.Test.YtgdjjncmocppeaaGreatDoorOkItems
import Derived.Test.YtgdjjncmocppeaaGreatDoorOpenItems
namespace Go.Proofs.YtgdjjncmocppeaaGreatDoor
open Go.ChangeShapes Go.WideShapes Go.ChangeAt Go.RowKit
namespace OpenSp
theorem rows {α:Type} {H:Type} {enc:TypeId × Value→H} {w:World} {base fuel:Nat} {spare:Nat→Bool} {held:Bool} {T E:TypeId} {c:Nat} (hu:Tryz.prog.underlying T=some (.slice E)) (hc:Tryz.prog.cellsOf E=c) (hc0:0<c) (cs:α→List Value) (R:α→Prop)
  (hone:∀ (m:Nat) (ds:List Value) (y:DataW H × List MemPlace),DataW.trod enc Tryz.prog w base spare held m E ds=some y→∃t:α,ds=cs t∧R t)
  {v:Value} {x:DataW H × List MemPlace} (h:DataW.trod enc Tryz.prog w base spare held fuel T [v]=some x):
  ∃ (a:Option Addr) (L:List α) (cap:Nat),v= .slice a L.length cap∧L.length≤maxLen∧(∀ (i:Nat) t,L[i]? =some t→∃b o,a=some ⟨b,o,none⟩∧b<w.heap.size∧∀j u,(cs t)[j]? =some u→w.cell? ⟨b,o+i*c+j,none⟩=some u)∧∀t∈L,R t:=by
 rcases DataW.trod_slice hu h with ⟨e, -⟩|⟨a,len,cap,elems,rest,k, -,e, -,hb,hl,hm,hel,hE, -, -⟩
 ·obtain rfl:v= .slice none 0 0:=by simpa using e
  exact ⟨none,[],0,rfl,Nat.zero_le _,fun i t hi=>by simp at hi,fun t ht=>by cases ht⟩
 ·obtain rfl:v= .slice (some a) len cap:=by simpa using e
  have hsp:0<len→a.spot=none:=by
   intro h0;have h1:=hE 0 h0;rw [List.getElem?_eq_getElem (by omega),hc] at h1;simp only [Option.bind_eq_some_iff] at h1;obtain ⟨ds,h2, -⟩:=h1;unfold World.cells? at h2
   split at h2
   rotate_left
   ·cases h2
   have hlen:=mapM_some_length h2;rw [List.length_range] at hlen;have hg:=mapM_some_get h2 0 0 (by rw [List.getElem?_range hc0]);rw [List.getElem?_eq_getElem (by omega)] at hg
   simpa [Addr.add] using World.cell?_spot hg
  have each:∀i,i<len→∃t:α,R t∧∃b o,some a=some (⟨b,o,none⟩:Addr)∧b<w.heap.size∧∀j u,(cs t)[j]? =some u→w.cell? ⟨b,o+i*c+j,none⟩=some u:=by
   intro i hi;have h1:=hE i hi;rw [List.getElem?_eq_getElem (by omega),hc] at h1;simp only [Option.bind_eq_some_iff] at h1;obtain ⟨ds,h2,h3⟩:=h1;obtain ⟨t,rfl,ok⟩:=hone _ _ _ h3;unfold World.cells? at h2
   split at h2
   rotate_left
   ·cases h2
   have hlen:=mapM_some_length h2;rw [List.length_range] at hlen;have hget:∀j,j<c→w.cell? ((a.add (i*c)).add j)=(cs t)[j]?:=fun j hj=>mapM_some_get h2 j j (by rw [List.getElem?_range hj]);obtain ⟨b,o,spot⟩:=a;have g0:w.cell? (((⟨b,o,spot⟩:Addr).add (i*c)).add 0)=some ((cs t)[0]'(by omega)):=by rw [hget 0 hc0];exact List.getElem?_eq_getElem (by omega)
   have hspot:spot=none:=hsp (by omega);subst hspot;have add:∀j,((⟨b,o,none⟩:Addr).add (i*c)).add j=⟨b,o+i*c+j,none⟩:=fun j=>by rw [Mem.zx8,Mem.zx8]
   rw [add] at g0;refine ⟨t,ok,b,o,rfl,World.block_lt_of_cell? w ⟨b,o+i*c+0,none⟩ g0,fun j u hj=>?_⟩;have hjl:=(List.getElem?_eq_some_iff.1 hj).1;rw [←add,hget j (by omega)];exact hj
  refine ⟨some a,List.ofFn (fun i:Fin len=>Classical.choose (each i i.2)),cap,by simp,by simp;omega,fun i t ht=>?_,fun t ht=>?_⟩
  ·rw [List.getElem?_ofFn] at ht
   split at ht
   ·cases ht
    exact (Classical.choose_spec (each i (by assumption))).2
   ·cases ht
  ·obtain ⟨i,rfl⟩:=List.mem_ofFn.1 ht;exact (Classical.choose_spec (each i i.2)).1
theorem cellsB:Tryz.prog.cellsOf 4=1:=by kernel_rfl
theorem zh0:Tryz.prog.cellsOf 92=2:=by kernel_rfl
theorem cellsM:Tryz.prog.cellsOf 94=3:=by kernel_rfl
theorem cellsH:Tryz.prog.cellsOf 96=3:=by kernel_rfl
theorem cellsP:Tryz.prog.cellsOf 26=4:=by kernel_rfl
theorem cellsNs:Tryz.prog.cellsOf 22=1:=by kernel_rfl
theorem cellsMs:Tryz.prog.cellsOf 23=1:=by kernel_rfl
theorem cellsHs:Tryz.prog.cellsOf 24=1:=by kernel_rfl
theorem cellsIs:Tryz.prog.cellsOf 90=1:=by kernel_rfl
theorem three {α:Type} {l:List α} (h:l.length=3):∃a b c,l=[a,b,c]:=by
 match l,h with
 | [a,b,c],_=>exact ⟨a,b,c,rfl⟩
theorem four {α:Type} {l:List α} (h:l.length=4):∃a b c d,l=[a,b,c,d]:=by
 match l,h with
 | [a,b,c,d],_=>exact ⟨a,b,c,d,rfl⟩
section
variable {H:Type} {enc:TypeId × Value→H} {w:World} {base fuel:Nat} {spare:Nat→Bool} {held:Bool}
set_option maxRecDepth 100000 in
theorem items {v:Value} {x:DataW H × List MemPlace} (h:DataW.trod enc Tryz.prog w base spare held fuel 90 [v]=some x):∃ (a:Option Addr) (Is:List Pl.It) (cap:Nat),v= .slice a Is.length cap∧zq1.OkI w a Is:=by
 obtain ⟨a,L,cap,e,hl,hr,hR⟩:=rows (α:=Pl.It) Tryz.underlying90 zq1.cells2 (by omega) (fun y=>[.int .i64 y.m,y.t.val]) (fun y=>zp2.OkT w y.t.a y.t.L) (fun m ds y hy=>zq1.item hy) h;refine ⟨a,L,cap,e,hl,fun i t hi=>?_,fun t ht=>⟨(hR t ht).len,(hR t ht).ok⟩⟩;obtain ⟨b,o,h1,h2,h3⟩:=hr i t hi;exact ⟨⟨b,o,h1,h2,h3 0 _ rfl,h3 1 _ rfl⟩,(hR t (List.mem_of_getElem? hi)).nodes⟩
set_option maxRecDepth 100000 in
theorem inst {cs:List Value} {x:DataW H × List MemPlace} (h:DataW.trod enc Tryz.prog w base spare held fuel 92 cs=some x):∃y:Pl.Ns,cs=[.int .i64 y.d, .slice y.a y.Is.length y.cap]∧zq1.OkI w y.a y.Is:=by
 obtain ⟨xs,m,rfl, -,hlen,hxl,hf⟩:=DataW.trod_struct Tryz.underlying92 h;obtain ⟨c,d,rfl⟩:=zq1.two (hlen.trans zh0);obtain ⟨y,z,rfl⟩:=zq1.two hxl;have h0:=hf 0 _ rfl;have h1:=hf 1 _ rfl
 change DataW.trod enc Tryz.prog w base spare held m 2 (([c,d].drop 0).take (Tryz.prog.cellsOf 2))=some y at h0
 change DataW.trod enc Tryz.prog w base spare held m 90 (([c,d].drop 1).take (Tryz.prog.cellsOf 90))=some z at h1
 rw [zq1.zc4] at h0;rw [cellsIs] at h1;obtain ⟨n,e0, -, -⟩:=DataW.trod_int Tryz.underlying2 h0;obtain ⟨a,Is,cap,e1,ok⟩:=items (v:=d) h1;simp at e0
 subst e0 e1;exact ⟨⟨n,a,cap,Is⟩,rfl,ok⟩
set_option maxRecDepth 100000 in
theorem mount {cs:List Value} {x:DataW H × List MemPlace} (h:DataW.trod enc Tryz.prog w base spare held fuel 94 cs=some x):∃y:Pl.Mn,cs=[.string y.p, .int .i64 y.i, .bool y.z]∧y.p.size≤maxLen∧MapI.i64 y.i:=by
 obtain ⟨xs,m,rfl, -,hlen,hxl,hf⟩:=DataW.trod_struct Tryz.underlying94 h;obtain ⟨c0,c1,c2,rfl⟩:=three (hlen.trans cellsM);obtain ⟨y0,y1,y2,rfl⟩:=three hxl;have h0:=hf 0 _ rfl;have h1:=hf 1 _ rfl;have h2:=hf 2 _ rfl
 change DataW.trod enc Tryz.prog w base spare held m 9 (([c0,c1,c2].drop 0).take (Tryz.prog.cellsOf 9))=some y0 at h0
 change DataW.trod enc Tryz.prog w base spare held m 2 (([c0,c1,c2].drop 1).take (Tryz.prog.cellsOf 2))=some y1 at h1
 change DataW.trod enc Tryz.prog w base spare held m 4 (([c0,c1,c2].drop 2).take (Tryz.prog.cellsOf 4))=some y2 at h2
 rw [zk5.cellsS] at h0;rw [zk5.zc4] at h1;rw [cellsB] at h2;obtain ⟨p,e0, -,wp⟩:=DataW.trod_string Tryz.underlying9 h0;obtain ⟨k,e1, -,wk⟩:=DataW.trod_int Tryz.underlying2 h1;obtain ⟨b,e2, -⟩:=DataW.trod_bool Tryz.underlying4 h2;simp at e0 e1 e2
 subst e0 e1 e2;exact ⟨⟨p,k,b⟩,rfl,wp,zs2 wk⟩
set_option maxRecDepth 100000 in
theorem handle {cs:List Value} {x:DataW H × List MemPlace} (h:DataW.trod enc Tryz.prog w base spare held fuel 96 cs=some x):∃y:Pl.Hn,cs=[.int .i64 y.d, .int .i64 y.i, .string y.p]∧y.p.size≤maxLen∧MapI.i64 y.i:=by
 obtain ⟨xs,m,rfl, -,hlen,hxl,hf⟩:=DataW.trod_struct Tryz.underlying96 h;obtain ⟨c0,c1,c2,rfl⟩:=three (hlen.trans cellsH);obtain ⟨y0,y1,y2,rfl⟩:=three hxl;have h0:=hf 0 _ rfl;have h1:=hf 1 _ rfl;have h2:=hf 2 _ rfl
 change DataW.trod enc Tryz.prog w base spare held m 2 (([c0,c1,c2].drop 0).take (Tryz.prog.cellsOf 2))=some y0 at h0
 change DataW.trod enc Tryz.prog w base spare held m 2 (([c0,c1,c2].drop 1).take (Tryz.prog.cellsOf 2))=some y1 at h1
 change DataW.trod enc Tryz.prog w base spare held m 9 (([c0,c1,c2].drop 2).take (Tryz.prog.cellsOf 9))=some y2 at h2
 rw [zk5.zc4] at h0 h1;rw [zk5.cellsS] at h2;obtain ⟨d,e0, -,wd⟩:=DataW.trod_int Tryz.underlying2 h0;obtain ⟨k,e1, -,wk⟩:=DataW.trod_int Tryz.underlying2 h1;obtain ⟨p,e2, -,wp⟩:=DataW.trod_string Tryz.underlying9 h2;simp at e0 e1 e2
 subst e0 e1 e2;exact ⟨⟨d,k,p⟩,rfl,wp,zs2 wk⟩
set_option maxRecDepth 100000 in
theorem space {cs:List Value} {x:DataW H × List MemPlace} (h:DataW.trod enc Tryz.prog w base spare held fuel 26 cs=some x):∃s:Pl.Sp,cs=s.cs.toList∧OkP w s:=by
 obtain ⟨xs,m,rfl, -,hlen,hxl,hf⟩:=DataW.trod_struct Tryz.underlying26 h;obtain ⟨c0,c1,c2,c3,rfl⟩:=four (hlen.trans cellsP);obtain ⟨y0,y1,y2,y3,rfl⟩:=four hxl;have h0:=hf 0 _ rfl;have h1:=hf 1 _ rfl;have h2:=hf 2 _ rfl;have h3:=hf 3 _ rfl
 change DataW.trod enc Tryz.prog w base spare held m 22 (([c0,c1,c2,c3].drop 0).take (Tryz.prog.cellsOf 22))=some y0 at h0
 change DataW.trod enc Tryz.prog w base spare held m 23 (([c0,c1,c2,c3].drop 1).take (Tryz.prog.cellsOf 23))=some y1 at h1
 change DataW.trod enc Tryz.prog w base spare held m 24 (([c0,c1,c2,c3].drop 2).take (Tryz.prog.cellsOf 24))=some y2 at h2
 change DataW.trod enc Tryz.prog w base spare held m 2 (([c0,c1,c2,c3].drop 3).take (Tryz.prog.cellsOf 2))=some y3 at h3
 rw [cellsNs] at h0;rw [cellsMs] at h1;rw [cellsHs] at h2;rw [zk5.zc4] at h3;obtain ⟨ia,N,ic,e0,ln,rn,on⟩:=rows (α:=Pl.Ns) (v:=c0) Tryz.underlying22 zh0 (by omega) (fun y=>[.int .i64 y.d, .slice y.a y.Is.length y.cap]) (fun y=>zq1.OkI w y.a y.Is) (fun _ _ _ hy=>inst hy) h0;obtain ⟨ma,M,mc,e1,lm,rm,om⟩:=rows (α:=Pl.Mn) (v:=c1) Tryz.underlying23 cellsM (by omega) (fun y=>[.string y.p, .int .i64 y.i, .bool y.z]) (fun y=>y.p.size≤maxLen∧MapI.i64 y.i) (fun _ _ _ hy=>mount hy) h1;obtain ⟨ha,Hs,hc,e2,lh,rh,oh⟩:=rows (α:=Pl.Hn) (v:=c2) Tryz.underlying24 cellsH (by omega) (fun y=>[.int .i64 y.d, .int .i64 y.i, .string y.p]) (fun y=>y.p.size≤maxLen∧MapI.i64 y.i) (fun _ _ _ hy=>handle hy) h2;obtain ⟨n,e3, -, -⟩:=DataW.trod_int Tryz.underlying2 h3;simp at e3
 subst e0 e1 e2 e3;refine ⟨⟨ia,ic,N,ma,mc,M,ha,hc,Hs,n⟩,rfl,⟨fun i t hi=>?_,fun i t hi=>?_,fun i t hi=>?_⟩,⟨ln,lm,lh,fun t ht=>?_,fun t ht=>(om t ht).1,fun t ht=>(oh t ht).1⟩,⟨fun t ht=>(om t ht).2,fun t ht=>(oh t ht).2⟩⟩
 ·obtain ⟨b,o,k1,k2,k3⟩:=rn i t hi;exact ⟨⟨b,o,k1,k2,k3 0 _ rfl,k3 1 _ rfl⟩,(on t (List.mem_of_getElem? hi)).items⟩
 ·obtain ⟨b,o,k1,k2,k3⟩:=rm i t hi;exact ⟨b,o,k1,k2,k3 0 _ rfl,k3 1 _ rfl,k3 2 _ rfl⟩
 ·obtain ⟨b,o,k1,k2,k3⟩:=rh i t hi;exact ⟨b,o,k1,k2,k3 0 _ rfl,k3 1 _ rfl,k3 2 _ rfl⟩
 ·have h:=on t ht;exact ⟨h.len,fun u hu=>⟨(h.ok u hu).1,fun n hn=>⟨((h.ok u hu).2 n hn).1,((h.ok u hu).2 n hn).2.1⟩⟩⟩
set_option maxRecDepth 100000 in
theorem space_arg {b0:Nat} {r:Reach} {v:Value} {d:DataW H} {ps:List MemPlace}
  (hv:Value.okWide Tryz.prog w r b0 26 v) (h:DataW.Trod enc Tryz.prog w base spare held 26 v d ps):∃s:Pl.Sp,v= .agg s.cs∧OkP w s:=by
 obtain ⟨cs,rfl,hsz⟩:=okWide_struct Tryz.underlying26 hv;obtain ⟨fuel,hf⟩:=h;obtain ⟨s,hs,ok⟩:=space hf;refine ⟨s,?_,ok⟩;simp only [Value.cells] at hs;rw [show cs=s.cs from Array.ext' hs]
end
end OpenSp
end Go.Proofs.YtgdjjncmocppeaaGreatDoor
