import Derived.Test.YtpggbphcbcogdaaGreatDoorG46
namespace Go.Proofs.YtpggbphcbcogdaaGreatDoor
open Go.ChangeShapes Go.WideShapes Go.ChangeAt Go.RowKit
namespace OpenI
theorem cells2:Tryz.prog.cellsOf 38=2:=by kernel_rfl
theorem cellsI:Tryz.prog.cellsOf 2=1:=by kernel_rfl
theorem mapM2 {f:Nat→Option Value} {c0 c1:Value} (h:(List.range 2).mapM f=some [c0,c1]):f 0=some c0∧f 1=some c1:=by
 have e:List.range 2=[0,1]:=rfl;rw [e] at h;simp only [List.mapM_cons,List.mapM_nil,Option.pure_def,Option.bind_eq_bind] at h;cases h0:f 0 with
 |none=>rw [h0] at h;simp at h
 |some a0=>
  cases h1:f 1 with
  |none=>rw [h0,h1] at h;simp at h
  |some a1=>rw [h0,h1] at h;simp at h;exact ⟨by rw [h.1],by rw [h.2]⟩
theorem two {α:Type} {l:List α} (h:l.length=2):∃a b,l=[a,b]:=by
 match l,h with
 | [a,b],_=>exact ⟨a,b,rfl⟩
set_option maxRecDepth 100000 in
theorem tree {H:Type} {enc:TypeId × Value→H} {w:World} {base fuel:Nat} {spare:Nat→Bool} {held:Bool} {cs:List Value} {x:DataW H × List MemPlace}
  (hf:DataW.trod enc Tryz.prog w base spare held fuel 36 cs=some x):∃t:Pl.Tr,cs=[t.val]∧zl6.OkT w t.a t.L:=by
 obtain ⟨xs,m,rfl, -,hlen,hxl,hfl⟩:=DataW.trod_struct Tryz.underlying36 hf;obtain ⟨c,rfl⟩:=zl6.one (hlen.trans zl6.cells1);obtain ⟨y,rfl⟩:=zl6.one hxl;have h0:=hfl 0 _ rfl
 change DataW.trod enc Tryz.prog w base spare held m 34 (([c].drop 0).take (Tryz.prog.cellsOf 34))=some y at h0
 rw [zl6.cellsL] at h0
 rcases DataW.trod_slice Tryz.underlying34 h0 with ⟨e, -⟩|⟨a,len,cap,elems,rest,k, -,e, -,hb,hl,hm,hel,hE, -, -⟩
 ·simp at e
  subst e;exact ⟨⟨none,0,[]⟩,rfl,⟨Nat.zero_le _,Mem.nodes_nil _ _,fun n hn=>by cases hn⟩⟩
 ·simp at e
  subst e
  have each:∀i,i<len→∃n:Pl.Nd,zn3.Ok n∧(∃b o,some a=some ⟨b,o,none⟩∧b<w.heap.size∧
    w.cell? ⟨b,o+i*5,none⟩=some (.string n.path)∧w.cell? ⟨b,o+i*5+1,none⟩=some (.int .i64 n.kind)∧w.cell? ⟨b,o+i*5+2,none⟩=some (.string n.data)∧
    w.cell? ⟨b,o+i*5+3,none⟩=some (.int .i64 n.time)∧w.cell? ⟨b,o+i*5+4,none⟩=some (.int .i64 n.mark)):=by
   intro i hi;have h1:=hE i hi;rw [List.getElem?_eq_getElem (by omega),zn3.cells5] at h1;simp only [Option.bind_eq_some_iff] at h1;obtain ⟨ds,h2,h3⟩:=h1;obtain ⟨n,rfl,ok⟩:=zn3.node h3;unfold World.cells? at h2
   split at h2
   rotate_left
   ·cases h2
   obtain ⟨g0,g1,g2,g3,g4⟩:=zl6.mapM5 h2;obtain ⟨b,o,spot⟩:=a
   have hspot:spot=none:=by
    have h1:=hE 0 (by omega);rw [List.getElem?_eq_getElem (by omega),zn3.cells5] at h1;simp only [Option.bind_eq_some_iff] at h1;obtain ⟨ds,h2,h3⟩:=h1;obtain ⟨n,rfl,ok⟩:=zn3.node h3;unfold World.cells? at h2
    split at h2
    rotate_left
    ·cases h2
    simpa [Addr.add] using World.cell?_spot (zl6.mapM5 h2).1
   subst hspot;have add:∀j,((⟨b,o,none⟩:Addr).add (i*5)).add j=⟨b,o+i*5+j,none⟩:=fun j=>by rw [Mem.zm1,Mem.zm1]
   rw [add] at g0 g1 g2 g3 g4;exact ⟨n,ok,b,o,rfl,World.block_lt_of_cell? w ⟨b,o+i*5+0,none⟩ g0,g0,g1,g2,g3,g4⟩
  refine ⟨⟨some a,cap,List.ofFn (fun i:Fin len=>Classical.choose (each i i.2))⟩,by simp [Pl.Tr.val],⟨by simp;omega,fun i n hn=>?_,fun n hn=>?_⟩⟩
  ·rw [List.getElem?_ofFn] at hn
   split at hn
   ·cases hn;exact (Classical.choose_spec (each i (by assumption))).2
   ·cases hn
  ·obtain ⟨i,rfl⟩:=List.mem_ofFn.1 hn;exact (Classical.choose_spec (each i i.2)).1
set_option maxRecDepth 100000 in
theorem item {H:Type} {enc:TypeId × Value→H} {w:World} {base fuel:Nat} {spare:Nat→Bool} {held:Bool} {cs:List Value} {x:DataW H × List MemPlace}
  (hf:DataW.trod enc Tryz.prog w base spare held fuel 38 cs=some x):∃y:Pl.It,cs=[.int .i64 y.m,y.t.val]∧zl6.OkT w y.t.a y.t.L:=by
 obtain ⟨xs,m,rfl, -,hlen,hxl,hfl⟩:=DataW.trod_struct Tryz.underlying38 hf;obtain ⟨c,d,rfl⟩:=two (hlen.trans cells2);obtain ⟨y,z,rfl⟩:=two hxl;have h0:=hfl 0 _ rfl;have h1:=hfl 1 _ rfl
 change DataW.trod enc Tryz.prog w base spare held m 2 (([c,d].drop 0).take (Tryz.prog.cellsOf 2))=some y at h0
 change DataW.trod enc Tryz.prog w base spare held m 36 (([c,d].drop 1).take (Tryz.prog.cellsOf 36))=some z at h1
 rw [cellsI] at h0;rw [zl6.cells1] at h1;obtain ⟨t,e,ok⟩:=tree h1;obtain ⟨n,e0, -, -⟩:=DataW.trod_int Tryz.underlying2 h0;simp at e e0
 subst e e0;exact ⟨⟨n,t⟩,rfl,ok⟩
set_option maxRecDepth 100000 in
theorem items_arg {H:Type} {enc:TypeId × Value→H} {w:World} {base b0:Nat} {spare:Nat→Bool} {held:Bool} {r:Reach} {v:Value} {d:DataW H} {ps:List MemPlace}
  (hv:Value.okWide Tryz.prog w r b0 22 v) (h:DataW.Trod enc Tryz.prog w base spare held 22 v d ps):∃ (a:Option Addr) (Is:List Pl.It) (cap:Nat),v= .slice a Is.length cap∧OkI w a Is:=by
 obtain ⟨a',l',c',rfl⟩:=okWide_slice Tryz.underlying22 hv;obtain ⟨fuel,h0⟩:=h
 rcases DataW.trod_slice Tryz.underlying22 h0 with ⟨e, -⟩|⟨a,len,cap,elems,rest,k, -,e, -,hb,hl,hm,hel,hE, -, -⟩
 ·simp [Value.cells] at e
  obtain ⟨rfl,rfl,rfl⟩:=e;exact ⟨none,[],0,rfl,⟨Nat.zero_le _,Mem.items_nil _ _,fun n hn=>by cases hn⟩⟩
 ·simp [Value.cells] at e
  obtain ⟨rfl,rfl,rfl⟩:=e
  have each:∀i,i<l'→∃y:Pl.It,zl6.OkT w y.t.a y.t.L∧(∃b o,some a=some ⟨b,o,none⟩∧b<w.heap.size∧w.cell? ⟨b,o+i*2,none⟩=some (.int .i64 y.m)∧w.cell? ⟨b,o+i*2+1,none⟩=some y.t.val):=by
   intro i hi;have h1:=hE i hi;rw [List.getElem?_eq_getElem (by omega),cells2] at h1;simp only [Option.bind_eq_some_iff] at h1;obtain ⟨ds,h2,h3⟩:=h1;obtain ⟨y,rfl,ok⟩:=item h3;unfold World.cells? at h2
   split at h2
   rotate_left
   ·cases h2
   obtain ⟨g0,g1⟩:=mapM2 h2;obtain ⟨b,o,spot⟩:=a
   have hspot:spot=none:=by
    have h1:=hE 0 (by omega);rw [List.getElem?_eq_getElem (by omega),cells2] at h1;simp only [Option.bind_eq_some_iff] at h1;obtain ⟨ds,h2,h3⟩:=h1;obtain ⟨t,rfl,ok⟩:=item h3;unfold World.cells? at h2
    split at h2
    rotate_left
    ·cases h2
    simpa [Addr.add] using World.cell?_spot (mapM2 h2).1
   subst hspot;have add:∀j,((⟨b,o,none⟩:Addr).add (i*2)).add j=⟨b,o+i*2+j,none⟩:=fun j=>by rw [Mem.zm1,Mem.zm1]
   rw [add] at g0 g1;exact ⟨y,ok,b,o,rfl,World.block_lt_of_cell? w ⟨b,o+i*2+0,none⟩ g0,g0,g1⟩
  refine ⟨some a,List.ofFn (fun i:Fin l'=>Classical.choose (each i i.2)),c',by simp,⟨by simp;omega,fun i n hn=>?_,fun n hn=>?_⟩⟩
  ·rw [List.getElem?_ofFn] at hn
   split at hn
   ·cases hn
    have :=Classical.choose_spec (each i (by assumption));exact ⟨this.2,this.1.nodes⟩
   ·cases hn
  ·obtain ⟨i,rfl⟩:=List.mem_ofFn.1 hn;have :=Classical.choose_spec (each i i.2);exact ⟨this.1.len,this.1.ok⟩
end OpenI
end Go.Proofs.YtpggbphcbcogdaaGreatDoor
