import Derived.Test.YtgdjjncmocppeaaGreatDoorG02
import Derived.Test.YtgdjjncmocppeaaGreatDoorOpenNode
import Derived.Test.YtgdjjncmocppeaaGreatDoorOpenTree
namespace Go.Proofs.YtgdjjncmocppeaaGreatDoor
open Go.ChangeShapes Go.WideShapes Go.ChangeAt Go.RowKit
namespace zq1
theorem cells2:Tryz.prog.cellsOf 195=2:=by kernel_rfl
theorem zc4:Tryz.prog.cellsOf 2=1:=by kernel_rfl
theorem two {α:Type} {l:List α} (h:l.length=2):∃a b,l=[a,b]:=by
 match l,h with
 | [a,b],_=>exact ⟨a,b,rfl⟩
set_option maxRecDepth 100000 in
theorem tree {H:Type} {enc:TypeId × Value→H} {w:World} {base fuel:Nat} {spare:Nat→Bool} {held:Bool} {cs:List Value} {x:DataW H × List MemPlace}
  (hf:DataW.trod enc Tryz.prog w base spare held fuel 193 cs=some x):∃t:Pl.Tr,cs=[t.val]∧zp2.OkT w t.a t.L:=by
 obtain ⟨xs,m,rfl, -,hlen,hxl,hfl⟩:=DataW.trod_struct Tryz.underlying193 hf;obtain ⟨c,rfl⟩:=zp2.one (hlen.trans zp2.cells1);obtain ⟨y,rfl⟩:=zp2.one hxl;have h0:=hfl 0 _ rfl
 change DataW.trod enc Tryz.prog w base spare held m 191 (([c].drop 0).take (Tryz.prog.cellsOf 191))=some y at h0
 rw [zp2.cellsL] at h0
 rcases DataW.trod_slice Tryz.underlying191 h0 with ⟨e, -⟩|⟨a,len,cap,elems,rest,k, -,e, -,hb,hl,hm,hel,hE, -, -⟩
 ·simp at e
  subst e;exact ⟨⟨none,0,[]⟩,rfl,⟨Nat.zero_le _,Mem.ya5 _ _,fun n hn=>by cases hn⟩⟩
 ·simp at e
  subst e
  have each:∀i,i<len→∃n:Pl.Nd,zk5.Ok n∧(∃b o,some a=some ⟨b,o,none⟩∧b<w.heap.size∧
    w.cell? ⟨b,o+i*5,none⟩=some (.string n.path)∧w.cell? ⟨b,o+i*5+1,none⟩=some (.int .i64 n.kind)∧w.cell? ⟨b,o+i*5+2,none⟩=some (.string n.data)∧
    w.cell? ⟨b,o+i*5+3,none⟩=some (.int .i64 n.time)∧w.cell? ⟨b,o+i*5+4,none⟩=some (.int .i64 n.mark)):=by
   intro i hi;have h1:=hE i hi;rw [List.getElem?_eq_getElem (by omega),zk5.cells5] at h1;simp only [Option.bind_eq_some_iff] at h1;obtain ⟨ds,h2,h3⟩:=h1;obtain ⟨n,rfl,ok⟩:=zk5.node h3;unfold World.cells? at h2
   split at h2
   rotate_left
   ·cases h2
   obtain ⟨g0,g1,g2,g3,g4⟩:=zp2.mapM5 h2;obtain ⟨b,o,spot⟩:=a
   have hspot:spot=none:=by
    have h1:=hE 0 (by omega);rw [List.getElem?_eq_getElem (by omega),zk5.cells5] at h1;simp only [Option.bind_eq_some_iff] at h1;obtain ⟨ds,h2,h3⟩:=h1;obtain ⟨n,rfl,ok⟩:=zk5.node h3;unfold World.cells? at h2
    split at h2
    rotate_left
    ·cases h2
    simpa [Addr.add] using World.cell?_spot (zp2.mapM5 h2).1
   subst hspot;have add:∀j,((⟨b,o,none⟩:Addr).add (i*5)).add j=⟨b,o+i*5+j,none⟩:=fun j=>by rw [Mem.zx8,Mem.zx8]
   rw [add] at g0 g1 g2 g3 g4;exact ⟨n,ok,b,o,rfl,World.block_lt_of_cell? w ⟨b,o+i*5+0,none⟩ g0,g0,g1,g2,g3,g4⟩
  refine ⟨⟨some a,cap,List.ofFn (fun i:Fin len=>Classical.choose (each i i.2))⟩,by simp [Pl.Tr.val],⟨by simp;omega,fun i n hn=>?_,fun n hn=>?_⟩⟩
  ·rw [List.getElem?_ofFn] at hn
   split at hn
   ·cases hn;exact (Classical.choose_spec (each i (by assumption))).2
   ·cases hn
  ·obtain ⟨i,rfl⟩:=List.mem_ofFn.1 hn;exact (Classical.choose_spec (each i i.2)).1
set_option maxRecDepth 100000 in
theorem item {H:Type} {enc:TypeId × Value→H} {w:World} {base fuel:Nat} {spare:Nat→Bool} {held:Bool} {cs:List Value} {x:DataW H × List MemPlace}
  (hf:DataW.trod enc Tryz.prog w base spare held fuel 195 cs=some x):∃y:Pl.It,cs=[.int .i64 y.m,y.t.val]∧zp2.OkT w y.t.a y.t.L:=by
 obtain ⟨xs,m,rfl, -,hlen,hxl,hfl⟩:=DataW.trod_struct Tryz.underlying195 hf;obtain ⟨c,d,rfl⟩:=two (hlen.trans cells2);obtain ⟨y,z,rfl⟩:=two hxl;have h0:=hfl 0 _ rfl;have h1:=hfl 1 _ rfl
 change DataW.trod enc Tryz.prog w base spare held m 2 (([c,d].drop 0).take (Tryz.prog.cellsOf 2))=some y at h0
 change DataW.trod enc Tryz.prog w base spare held m 193 (([c,d].drop 1).take (Tryz.prog.cellsOf 193))=some z at h1
 rw [zc4] at h0;rw [zp2.cells1] at h1;obtain ⟨t,e,ok⟩:=tree h1;obtain ⟨n,e0, -, -⟩:=DataW.trod_int Tryz.underlying2 h0;simp at e e0
 subst e e0;exact ⟨⟨n,t⟩,rfl,ok⟩
end zq1
end Go.Proofs.YtgdjjncmocppeaaGreatDoor
