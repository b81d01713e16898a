/- Several texts of one claim in one file: WJoinS, WChildA, WAtQ, WDropX, WStA, WLay6. -/
import Derived.Test.YtkighhofjmginaaGreatDoorG45
import Derived.Test.YtkighhofjmginaaGreatDoorG18
import Derived.Test.YtkighhofjmginaaGreatDoorG38
namespace Go.Proofs.YtkighhofjmginaaGreatDoor
section
open Go.RowKit
namespace zf3
theorem join1_any (p n:ByteArray) (w:World) (hp:p.size≤1048576) (hq:n.size≤1048576):
  Calls Tryz.prog 103 #[.string p, .string n] w fun e w'=>e= .returned (.string (Pl.joinN p n))∧w'=w:=by
 by_cases h0:Pl.by_ p=[]
 ·have E:=hide (Pl.joinN_root (n:=n) h0);have d1:p.toList.isEmpty=true:=by rw [Pl.zc0];simp [h0]
  clear h0;go_enter Tryz.func103,Tryz.ntmps103
  go_wp2
  go_ret
  exact ⟨zt3 (za E).symm,rfl⟩
 ·have E:Hid (p++⟨#[47]⟩++n=Pl.joinN p n):=by
   show _=_
   apply Pl.zf5
   rw [Pl.joinN_two h0];simp [Pl.by_]
  have d1:p.toList.isEmpty=false:=by rw [Pl.zc0];simp [h0]
  clear h0;generalize Pl.joinN p n=R at E ⊢;go_enter Tryz.func103,Tryz.ntmps103
  go_wp2
  go_ret
  exact ⟨by rw [←za E];rfl,rfl⟩

end zf3
end
section
open Go.RowKit
namespace zi2
theorem sz_alloc (w:World) (o:Obj):(w.alloc o).heap.size=w.heap.size+1:=by simp
def zw7 (H:List Bool):List Value:=H.map Value.bool
theorem infoB:(Tryz.prog.info? 4).map (fun i=>(i.zero,i.size,i.bytes))=some (some (.bool false),1,1):=by kernel_rfl
theorem zu7:(Tryz.prog.info? 60).map (fun i=>(i.zero,i.size,i.bytes))=some (some (.agg #[.string ⟨#[]⟩, .int .i64 0, .string ⟨#[]⟩, .int .i64 0, .int .i64 0]),5,56):=by kernel_rfl
theorem zh3 {w w':World} {B e size n:Nat} {v:Value} {xs:List Value} (h:w.ownsRow B e size v n xs) (b:Below w.heap.size w w'):w'.ownsRow B e size v n xs:=by
 refine ⟨h.1,?_⟩
 rcases h.2 with h0|⟨g,cap,cur,hv,hb,hg,rest⟩
 ·exact .inl h0
 ·exact .inr ⟨g,cap,cur,hv,hb,(b.block g (Array.getElem?_eq_some_iff.1 hg).1).trans hg,rest⟩
theorem zz9 {w w':World} {B e size n:Nat} {v:Value} {xs:List Value} {r:Option Nat} (h:w.ownsRow B e size v n xs) (hg:w.grownBy w' r) (hr:∀g,v.ownBlock=some g→some g≠r):w'.ownsRow B e size v n xs:=by
 refine ⟨h.1,?_⟩
 rcases h.2 with h0|⟨g,cap,cur,rfl,hb,hh,rest⟩
 ·exact .inl h0
 ·exact .inr ⟨g,cap,cur,rfl,hb,(hg.block g (Array.getElem?_eq_some_iff.1 hh).1 (hr g rfl)).trans hh,rest⟩
structure ChP (w W:World) (vN vH:Value) (N:List Pl.Nd) (H:List Bool):Prop where
 bel:Below w.heap.size w W
 res:Mem.Blk W w.heap.size (za5 ⟨false,Pl.za3,[]⟩ (.slice none 0 0)).toArray 133
 nodes:Mem.ownN W (w.heap.size+1) vN N
 has:W.ownsRow (w.heap.size+1) 4 1 vH H.length (zw7 H)
 apart:∀g,vN.ownBlock=some g→vH.ownBlock≠some g
theorem ChP.call {w W W':World} {vN vH:Value} {N:List Pl.Nd} {H:List Bool} (h:ChP w W vN vH N H) (b:Below W.heap.size W W'):ChP w W' vN vH N H:=
 ⟨h.bel.trans (b.mono h.bel.size),h.res.call b,zh3 h.nodes b,zh3 h.has b,h.apart⟩
theorem ChP.moreN {w W W':World} {vN vH v':Value} {N:List Pl.Nd} {H:List Bool} {n:Pl.Nd} (h:ChP w W vN vH N H) (own:W'.ownsRow (w.heap.size+1) 60 5 v' (N.length+1) (Pl.zd6 N++n.cs)) (g:W.grownBy W' vN.ownBlock)
  (far:∀g,v'.ownBlock=some g→vN.ownBlock=some g∨W.heap.size≤g):ChP w W' v' vH (N++[n]) H:=by
 have hlt:∀q,vN.ownBlock=some q→w.heap.size+1≤q:=fun q hq=>(World.ownsRow.lt h.nodes q hq).1;refine ⟨h.bel.grown g h.bel.size (fun q hq=>by have :=hlt q hq;omega),h.res.grown g (fun e=>by have :=hlt _ e.symm;omega),Mem.yg own,zz9 h.has g (fun q hq e=>h.apart q e.symm hq),fun q hq e=>?_⟩
 rcases far q hq with h1|h1
 ·exact h.apart q h1 e
 ·have :=(World.ownsRow.lt h.has q e).2;omega
theorem ChP.moreH {w W W':World} {vN vH v':Value} {N:List Pl.Nd} {H:List Bool} {x:Bool} (h:ChP w W vN vH N H) (own:W'.ownsRow (w.heap.size+1) 4 1 v' (H.length+1) (zw7 H++[.bool x])) (g:W.grownBy W' vH.ownBlock)
  (far:∀g,v'.ownBlock=some g→vH.ownBlock=some g∨W.heap.size≤g):ChP w W' vN v' N (H++[x]):=by
 have hlt:∀q,vH.ownBlock=some q→w.heap.size+1≤q:=fun q hq=>(World.ownsRow.lt h.has q hq).1;refine ⟨h.bel.grown g h.bel.size (fun q hq=>by have :=hlt q hq;omega),h.res.grown g (fun e=>by have :=hlt _ e.symm;omega),zz9 h.nodes g (fun q hq e=>h.apart q hq e.symm),?_,fun q hq e=>?_⟩
 ·unfold zw7;rw [List.map_append,List.length_append];exact own
 ·rcases far q e with h1|h1
  ·exact h.apart q hq h1
  ·have :=(World.ownsRow.lt h.nodes q hq).2;omega
def ze5 (xs:List (Nat × Option Pl.Nd)):List Pl.Nd:=xs.map (fun x=>x.2.getD Pl.za3)
def zk2 (xs:List (Nat × Option Pl.Nd)):List Bool:=xs.map (fun x=>x.2.isSome)
theorem take_more {α β:Type} (f:α→β) {xs:List α} {j:Nat} {x:α} (h:xs[j]? =some x):(xs.take (j+1)).map f=(xs.take j).map f++[f x]:=by
 have h1:=List.getElem?_eq_some_iff.1 h;rw [List.take_succ_eq_append_getElem h1.1,List.map_append,h1.2];rfl
theorem ChP.asked {w W:World} {vN vH:Value} {xs:List (Nat × Option Pl.Nd)} (h:ChP w W vN vH (ze5 xs) (zk2 xs)) (hx:xs≠[]):
  ∃gn cn gh ch,vN= .slice (some ⟨gn,0,none⟩) xs.length cn∧vH= .slice (some ⟨gh,0,none⟩) xs.length ch∧gn<W.heap.size∧gh<W.heap.size∧
   (∀ (i:Nat) x,xs[i]? =some x→W.cell? ⟨gh,i,none⟩=some (.bool x.2.isSome))∧
   (∀ (i k:Nat) n,xs[i]? =some (k,some n)→W.cell? ⟨gn,i*5,none⟩=some (.string n.path)∧W.cell? ⟨gn,i*5+1,none⟩=some (.int .i64 n.kind)∧W.cell? ⟨gn,i*5+2,none⟩=some (.string n.data)∧W.cell? ⟨gn,i*5+3,none⟩=some (.int .i64 n.time)∧W.cell? ⟨gn,i*5+4,none⟩=some (.int .i64 n.mark)):=by
 have hp:=List.length_pos_iff.2 hx;have e1:(ze5 xs).length=xs.length:=by simp [ze5]
 have e2:(zk2 xs).length=xs.length:=by simp [zk2]
 have hn:=h.nodes;have hh:=h.has;unfold Mem.ownN at hn;rw [e1] at hn;rw [e2] at hh
 rcases hn.2 with ⟨_,h0⟩|⟨gn,cn,curN,hvN, -,hgN, -⟩
 ·omega
 rcases hh.2 with ⟨_,h0⟩|⟨gh,ch,curH,hvH, -,hgH, -⟩
 ·omega
 subst hvN hvH;refine ⟨gn,cn,gh,ch,rfl,rfl,(Array.getElem?_eq_some_iff.1 hgN).1,(Array.getElem?_eq_some_iff.1 hgH).1,fun i x hi=>?_,fun i k n hi=>?_⟩
 ·have :=hh.cells (g:=gh) rfl i (.bool x.2.isSome) (by simp [zw7,zk2,hi]);rw [Mem.add_lit] at this;exact this
 ·have hg:(ze5 xs)[i]? =some n:=by simp [ze5,hi]
  have c:∀j,j<5→W.cell? ⟨gn,i*5+j,none⟩=n.cs[j]?:=fun j hj=>by
   have h1:=Pl.zs9 _ i n hg j hj;have h2:∃u,n.cs[j]? =some u:=⟨_,List.getElem?_eq_getElem (by show j<5;exact hj)⟩;obtain ⟨u,hu⟩:=h2;have :=hn.cells (g:=gn) rfl (i*5+j) u (by rw [h1,hu]);rw [Mem.add_lit] at this;rw [this,hu]
  exact ⟨c 0 (by omega),c 1 (by omega),c 2 (by omega),c 3 (by omega),c 4 (by omega)⟩
theorem ret7 {w W:World} {v:Value} {ks:List Nat} {cs:List Value} (hb:Below w.heap.size w W) (hr:Mem.Blk W w.heap.size cs.toArray 133) (hc:cs.length=7) (ho:ownI W (w.heap.size+1) v ks) (x:Bool) (p:ByteArray) (k:Int) (d:ByteArray) (t m:Int) (u:Value):
  Mem.Blk (((((((W.setCell ⟨w.heap.size,0,none⟩ (.bool x)).setCell ⟨w.heap.size,1,none⟩ (.string p)).setCell ⟨w.heap.size,2,none⟩ (.int .i64 k)).setCell ⟨w.heap.size,3,none⟩ (.string d)).setCell ⟨w.heap.size,4,none⟩ (.int .i64 t)).setCell ⟨w.heap.size,5,none⟩ (.int .i64 m)).setCell ⟨w.heap.size,6,none⟩ u) w.heap.size #[.bool x, .string p, .int .i64 k, .string d, .int .i64 t, .int .i64 m,u] 133∧
  Below w.heap.size w (((((((W.setCell ⟨w.heap.size,0,none⟩ (.bool x)).setCell ⟨w.heap.size,1,none⟩ (.string p)).setCell ⟨w.heap.size,2,none⟩ (.int .i64 k)).setCell ⟨w.heap.size,3,none⟩ (.string d)).setCell ⟨w.heap.size,4,none⟩ (.int .i64 t)).setCell ⟨w.heap.size,5,none⟩ (.int .i64 m)).setCell ⟨w.heap.size,6,none⟩ u)∧
  ownI (((((((W.setCell ⟨w.heap.size,0,none⟩ (.bool x)).setCell ⟨w.heap.size,1,none⟩ (.string p)).setCell ⟨w.heap.size,2,none⟩ (.int .i64 k)).setCell ⟨w.heap.size,3,none⟩ (.string d)).setCell ⟨w.heap.size,4,none⟩ (.int .i64 t)).setCell ⟨w.heap.size,5,none⟩ (.int .i64 m)).setCell ⟨w.heap.size,6,none⟩ u) w.heap.size v ks:=by
 have hr':w.heap.size<w.heap.size+1:=by omega
 refine ⟨?_,((((((hb.setCell (p:=⟨w.heap.size,0,none⟩) (Nat.le_refl _) _).setCell (p:=⟨w.heap.size,1,none⟩) (Nat.le_refl _) _).setCell (p:=⟨w.heap.size,2,none⟩) (Nat.le_refl _) _).setCell (p:=⟨w.heap.size,3,none⟩) (Nat.le_refl _) _).setCell (p:=⟨w.heap.size,4,none⟩) (Nat.le_refl _) _).setCell (p:=⟨w.heap.size,5,none⟩) (Nat.le_refl _) _).setCell (p:=⟨w.heap.size,6,none⟩) (Nat.le_refl _) _,?_⟩
 ·match cs,hc,hr with
  | [c0,c1,c2,c3,c4,c5,c6],_,hr=>
   have h2:=((((((hr.put 0 (.bool x)).put 1 (.string p)).put 2 (.int .i64 k)).put 3 (.string d)).put 4 (.int .i64 t)).put 5 (.int .i64 m)).put 6 u;simp only [List.setIfInBounds_toArray] at h2;exact h2
 ·exact zz4 (zg2 (zg2 (zg2 (zg2 (zg2 (zg2 (zg2 ho _ _ hr') _ _ hr') _ _ hr') _ _ hr') _ _ hr') _ _ hr') _ _ hr') (by omega)
end zi2
end
section
open Go.RowKit
namespace zi2
structure AtQ (w W:World) (X:Nat) (vk:Value) (ks:List Nat) (o:Pl.Ot) (v vl:Value) (L:List ByteArray):Prop where
 lt:w.heap.size+1≤X
 bel:Below w.heap.size w W
 res:Mem.Blk W w.heap.size (za5 ⟨false,Pl.za3,[]⟩ (.slice none 0 0)).toArray 133
 out:Mem.Blk W X (za5 o v).toArray 133
 ownK:ownI W (w.heap.size+1) vk ks
 own:ownI W (w.heap.size+1) v o.parts
 txt:W.ownsRow (w.heap.size+1) 9 1 vl L.length (L.map Value.string)
 farK:vk.ownBlock≠some X
 far:v.ownBlock≠some X
 farT:vl.ownBlock≠some X
theorem AtQ.call {w W W':World} {X:Nat} {vk:Value} {ks:List Nat} {o:Pl.Ot} {v vl:Value} {L:List ByteArray} (h:AtQ w W X vk ks o v vl L) (b:Below W.heap.size W W'):AtQ w W' X vk ks o v vl L:=
 ⟨h.lt,h.bel.trans (b.mono h.bel.size),h.res.call b,h.out.call b,zh3 h.ownK b,zh3 h.own b,zh3 h.txt b,h.farK,h.far,h.farT⟩
theorem ze4 {w:World} {B e size n:Nat} {v:Value} {xs:List Value} (h:w.ownsRow B e size v n xs) (a:Addr) (u:Value) (ha:v.ownBlock≠some a.block):(w.setCell a u).ownsRow B e size v n xs:=by
 refine ⟨h.1,?_⟩
 rcases h.2 with h0|⟨g,cap,cur,rfl,hb,hg,rest⟩
 ·exact .inl h0
 ·exact .inr ⟨g,cap,cur,rfl,hb,(heap_setCell_other w a g u (fun e=>ha (by rw [←e];rfl))).trans hg,rest⟩
theorem AtQ.put {w W:World} {X:Nat} {vk:Value} {ks:List Nat} {o:Pl.Ot} {v vl:Value} {L:List ByteArray} (h:AtQ w W X vk ks o v vl L) {o':Pl.Ot} {v':Value} (own':ownI W (w.heap.size+1) v' o'.parts) (far':v'.ownBlock≠some X):
  AtQ w (((((((W.setCell ⟨X,0,none⟩ (.bool o'.ok)).setCell ⟨X,1,none⟩ (.string o'.node.path)).setCell ⟨X,2,none⟩ (.int .i64 o'.node.kind)).setCell ⟨X,3,none⟩ (.string o'.node.data)).setCell ⟨X,4,none⟩ (.int .i64 o'.node.time)).setCell ⟨X,5,none⟩ (.int .i64 o'.node.mark)).setCell ⟨X,6,none⟩ v') X vk ks o' v' vl L:=by
 have hx:w.heap.size≤X:=by have :=h.lt;omega
 have hne:w.heap.size≠X:=by have :=h.lt;omega
 refine ⟨h.lt,((((((h.bel.setCell (p:=⟨X,0,none⟩) hx _).setCell (p:=⟨X,1,none⟩) hx _).setCell (p:=⟨X,2,none⟩) hx _).setCell (p:=⟨X,3,none⟩) hx _).setCell (p:=⟨X,4,none⟩) hx _).setCell (p:=⟨X,5,none⟩) hx _).setCell (p:=⟨X,6,none⟩) hx _,((((((h.res.far ⟨X,0,none⟩ _ hne).far ⟨X,1,none⟩ _ hne).far ⟨X,2,none⟩ _ hne).far ⟨X,3,none⟩ _ hne).far ⟨X,4,none⟩ _ hne).far ⟨X,5,none⟩ _ hne).far ⟨X,6,none⟩ _ hne,?_,?_,?_,?_,h.farK,far',h.farT⟩
 ·have h2:=((((((h.out.put 0 (.bool o'.ok)).put 1 (.string o'.node.path)).put 2 (.int .i64 o'.node.kind)).put 3 (.string o'.node.data)).put 4 (.int .i64 o'.node.time)).put 5 (.int .i64 o'.node.mark)).put 6 v';simp only [List.setIfInBounds_toArray] at h2;exact h2
 ·exact ze4 (ze4 (ze4 (ze4 (ze4 (ze4 (ze4 h.ownK _ _ h.farK) _ _ h.farK) _ _ h.farK) _ _ h.farK) _ _ h.farK) _ _ h.farK) _ _ h.farK
 ·exact ze4 (ze4 (ze4 (ze4 (ze4 (ze4 (ze4 own' _ _ far') _ _ far') _ _ far') _ _ far') _ _ far') _ _ far') _ _ far'
 ·exact ze4 (ze4 (ze4 (ze4 (ze4 (ze4 (ze4 h.txt _ _ h.farT) _ _ h.farT) _ _ h.farT) _ _ h.farT) _ _ h.farT) _ _ h.farT) _ _ h.farT
theorem AtQ.next {w W:World} {X:Nat} {vk:Value} {ks:List Nat} {o:Pl.Ot} {v vl:Value} {L:List ByteArray} (h:AtQ w W X vk ks o v vl L):AtQ w W X v o.parts o v vl L:=
 ⟨h.lt,h.bel,h.res,h.out,h.own,h.own,h.txt,h.far,h.far,h.farT⟩
theorem yk6 {W:World} {B:Nat} {v:Value} {ks:List Nat} (h:ownI W B v ks) (hk:ks≠[]):∃g cap,v= .slice (some ⟨g,0,none⟩) ks.length cap∧B≤g∧g<W.heap.size∧∀ (i k:Nat),ks[i]? =some k→W.cell? ⟨g,i,none⟩=some (.int .i64 (k:Int)):=by
 have hp:=List.length_pos_iff.2 hk
 rcases h.2 with ⟨_,h0⟩|⟨g,cap,cur,hv,hb,hg, -⟩
 ·omega
 subst hv;refine ⟨g,cap,rfl,hb,(Array.getElem?_eq_some_iff.1 hg).1,fun i k hi=>?_⟩;have :=World.ownsRow.cells h (g:=g) rfl i (.int .i64 (k:Int)) (by simp [intsV,hi]);rw [Mem.add_lit] at this;exact this
theorem ownI_new {W:World} {B:Nat} {v:Value} {ks:List Nat} (h:ownI W B v ks) {X:Nat} (hX:X<B):v.ownBlock≠some X:=fun e=>by have :=(World.ownsRow.lt h X e).1;omega
end zi2
namespace Pl
theorem way_get {L:List ByteArray} {j:Nat} (h:j<L.length):(ways L L.length)[j]? =some (glue (L.take (j+1))):=by simp [ways,h]
theorem way_join {L:List ByteArray} {j:Nat} {t:ByteArray} (hL:∀t∈L,zc8 t=true) (h:L[j]? =some t):joinN (glue (L.take j)) t=glue (L.take (j+1)):=by
 have h1:=List.getElem?_eq_some_iff.1 h;rw [joinN,zm8 (fun t ht=>hL t (List.mem_of_mem_take ht)),List.take_succ_eq_append_getElem h1.1,h1.2]
end Pl
end
section
namespace zv6
theorem zv3 {Is:List Pl.It} {p:Nat} {L:List Pl.Nd} {k m:Pl.Fx} {R:List (Int × List Pl.Nd)} (h:(Is.drop p).map Pl.It.r=(Pl.Fx.cons L k m).flat++R):∃x,Is[p]? =some x∧x.m=(k.len:Int)∧x.t.L=L∧(Is.drop (p+1)).map Pl.It.r=k.flat++(m.flat++R):=by
 rw [Pl.Fx.flat,List.cons_append] at h;cases hd:Is.drop p with
 |nil=>rw [hd] at h;cases h
 |cons x T=>
  rw [hd] at h;simp only [List.map_cons,List.cons.injEq] at h
  have hx:Is[p]? =some x:=by
   have :=List.getElem?_drop (xs:=Is) (i:=p) (j:=0);rw [hd] at this
   simpa using this.symm
  have hT:Is.drop (p+1)=T:=by rw [←List.drop_drop,hd];rfl
  refine ⟨x,hx,congrArg Prod.fst h.1,congrArg Prod.snd h.1,?_⟩;rw [hT,h.2,List.append_assoc]
theorem drop_more {Is:List Pl.It} {k:Pl.Fx}:∀ {p:Nat} {R:List (Int × List Pl.Nd)},(Is.drop p).map Pl.It.r=k.flat++R→(Is.drop (p+k.sz)).map Pl.It.r=R:=by
 intro p R h;rw [←List.drop_drop,List.map_drop,h,←Pl.Fx.zy,List.drop_left]
end zv6
end
section
open Go.RowKit
namespace zi2
structure ChS (w W:World) (vN vH:Value) (N:List Pl.Nd) (H:List Bool):Prop where
 bel:Below w.heap.size w W
 nodes:Mem.ownN W w.heap.size vN N
 has:W.ownsRow w.heap.size 4 1 vH H.length (zw7 H)
 apart:∀g,vN.ownBlock=some g→vH.ownBlock≠some g
theorem ChS.call {w W W':World} {vN vH:Value} {N:List Pl.Nd} {H:List Bool} (h:ChS w W vN vH N H) (b:Below W.heap.size W W'):ChS w W' vN vH N H:=
 ⟨h.bel.trans (b.mono h.bel.size),zh3 h.nodes b,zh3 h.has b,h.apart⟩
theorem ChS.moreN {w W W':World} {vN vH v':Value} {N:List Pl.Nd} {H:List Bool} {n:Pl.Nd} (h:ChS w W vN vH N H) (own:W'.ownsRow w.heap.size 60 5 v' (N.length+1) (Pl.zd6 N++n.cs)) (g:W.grownBy W' vN.ownBlock)
  (far:∀g,v'.ownBlock=some g→vN.ownBlock=some g∨W.heap.size≤g):ChS w W' v' vH (N++[n]) H:=by
 have hlt:∀q,vN.ownBlock=some q→w.heap.size≤q:=fun q hq=>(World.ownsRow.lt h.nodes q hq).1;refine ⟨h.bel.grown g h.bel.size hlt,Mem.yg own,zz9 h.has g (fun q hq e=>h.apart q e.symm hq),fun q hq e=>?_⟩
 rcases far q hq with h1|h1
 ·exact h.apart q h1 e
 ·have :=(World.ownsRow.lt h.has q e).2;omega
theorem ChS.moreH {w W W':World} {vN vH v':Value} {N:List Pl.Nd} {H:List Bool} {x:Bool} (h:ChS w W vN vH N H) (own:W'.ownsRow w.heap.size 4 1 v' (H.length+1) (zw7 H++[.bool x])) (g:W.grownBy W' vH.ownBlock)
  (far:∀g,v'.ownBlock=some g→vH.ownBlock=some g∨W.heap.size≤g):ChS w W' vN v' N (H++[x]):=by
 have hlt:∀q,vH.ownBlock=some q→w.heap.size≤q:=fun q hq=>(World.ownsRow.lt h.has q hq).1;refine ⟨h.bel.grown g h.bel.size hlt,zz9 h.nodes g (fun q hq e=>h.apart q hq e.symm),?_,fun q hq e=>?_⟩
 ·unfold zw7;rw [List.map_append,List.length_append];exact own
 ·rcases far q e with h1|h1
  ·exact h.apart q hq h1
  ·have :=(World.ownsRow.lt h.nodes q hq).2;omega
theorem ChS.asked {w W:World} {vN vH:Value} {xs:List (Nat × Option Pl.Nd)} (h:ChS w W vN vH (ze5 xs) (zk2 xs)) (hx:xs≠[]):
  ∃gn cn gh ch,vN= .slice (some ⟨gn,0,none⟩) xs.length cn∧vH= .slice (some ⟨gh,0,none⟩) xs.length ch∧gn<W.heap.size∧gh<W.heap.size∧
   (∀ (i:Nat) x,xs[i]? =some x→W.cell? ⟨gh,i,none⟩=some (.bool x.2.isSome))∧
   (∀ (i k:Nat) n,xs[i]? =some (k,some n)→W.cell? ⟨gn,i*5,none⟩=some (.string n.path)∧W.cell? ⟨gn,i*5+1,none⟩=some (.int .i64 n.kind)∧W.cell? ⟨gn,i*5+2,none⟩=some (.string n.data)∧W.cell? ⟨gn,i*5+3,none⟩=some (.int .i64 n.time)∧W.cell? ⟨gn,i*5+4,none⟩=some (.int .i64 n.mark)):=by
 have hp:=List.length_pos_iff.2 hx;have e1:(ze5 xs).length=xs.length:=by simp [ze5]
 have e2:(zk2 xs).length=xs.length:=by simp [zk2]
 have hn:=h.nodes;have hh:=h.has;unfold Mem.ownN at hn;rw [e1] at hn;rw [e2] at hh
 rcases hn.2 with ⟨_,h0⟩|⟨gn,cn,curN,hvN, -,hgN, -⟩
 ·omega
 rcases hh.2 with ⟨_,h0⟩|⟨gh,ch,curH,hvH, -,hgH, -⟩
 ·omega
 subst hvN hvH;refine ⟨gn,cn,gh,ch,rfl,rfl,(Array.getElem?_eq_some_iff.1 hgN).1,(Array.getElem?_eq_some_iff.1 hgH).1,fun i x hi=>?_,fun i k n hi=>?_⟩
 ·have :=hh.cells (g:=gh) rfl i (.bool x.2.isSome) (by simp [zw7,zk2,hi]);rw [Mem.add_lit] at this;exact this
 ·have hg:(ze5 xs)[i]? =some n:=by simp [ze5,hi]
  have c:∀j,j<5→W.cell? ⟨gn,i*5+j,none⟩=n.cs[j]?:=fun j hj=>by
   have h1:=Pl.zs9 _ i n hg j hj;have h2:∃u,n.cs[j]? =some u:=⟨_,List.getElem?_eq_getElem (by show j<5;exact hj)⟩;obtain ⟨u,hu⟩:=h2;have :=hn.cells (g:=gn) rfl (i*5+j) u (by rw [h1,hu]);rw [Mem.add_lit] at this;rw [this,hu]
  exact ⟨c 0 (by omega),c 1 (by omega),c 2 (by omega),c 3 (by omega),c 4 (by omega)⟩
theorem ChS.new (w:World):ChS w ((w.alloc (.cells #[] 60)).alloc (.cells #[] 4)) (.slice (some ⟨w.heap.size,0,none⟩) 0 0) (.slice (some ⟨w.heap.size+1,0,none⟩) 0 0) [] []:=by
 refine ⟨((Below.refl _ _).alloc (Nat.le_refl _) _).alloc (by simp) _,⟨rfl, .inr ⟨w.heap.size,0,#[],rfl,Nat.le_refl _,?_,Nat.le_refl _,Nat.zero_le _,rfl,rfl⟩⟩,⟨rfl, .inr ⟨w.heap.size+1,0,#[],rfl,Nat.le_succ _,?_,Nat.le_refl _,Nat.zero_le _,rfl,rfl⟩⟩,fun g h1 h2=>by have e1:w.heap.size=g:=Option.some.inj h1;have e2:w.heap.size+1=g:=Option.some.inj h2;omega⟩
 ·exact Mem.Blk.alloc (cs:=#[]) (T:=60) (Mem.Blk.new w _ _) _
 ·exact Mem.zi w _ _
end zi2
namespace Pl
theorem atF_last {fs:List Fq} {ks:List Nat} {L:List ByteArray} {j:Nat} {o:Ot} (hj:j+1=L.length) (ho:ze3 fs ks (glue (L.take (j+1)))=o):atF fs ks ((ways L L.length).drop j)=if o.ok=true then o else zk3:=by
 have h1:=List.getElem?_eq_some_iff.1 (way_get (L:=L) (j:=j) (by omega));rw [List.drop_eq_getElem_cons h1.1,h1.2,List.drop_eq_nil_of_le (by rw [zo6];omega),atF,ho]
theorem atF_more {fs:List Fq} {ks:List Nat} {L:List ByteArray} {j:Nat} {o:Ot} (hj:j+1<L.length) (ho:ze3 fs ks (glue (L.take (j+1)))=o):atF fs ks ((ways L L.length).drop j)=if o.ok=true∧o.node.kind=1 then atF fs o.parts ((ways L L.length).drop (j+1)) else zk3:=by
 have h1:=List.getElem?_eq_some_iff.1 (way_get (L:=L) (j:=j) (by omega));have h2:=List.getElem?_eq_some_iff.1 (way_get (L:=L) (j:=j+1) (by omega));rw [List.drop_eq_getElem_cons h1.1,h1.2,List.drop_eq_getElem_cons h2.1,h2.2,atF,ho]
theorem starts_kid {Is:List It}:∀ (K:Fx) (p i:Nat) (L:List Nd) (k:Fx) (R:List (Int × List Nd)),kid K i=some (L,k)→(Is.drop p).map It.r=K.flat++R→∃pk,(starts K p)[i]? =some pk∧∃R',(Is.drop pk).map It.r=(Fx.cons L k .nil).flat++R':=by
 intro K
 induction K with
 |nil=>intro p i L k R h;cases h
 |cons L' k' m _ ih=>
  intro p i L k R h hd;obtain ⟨x,h1,h2,h3,h4⟩:=zv6.zv3 hd;cases i with
  |zero=>
   cases h
   refine ⟨p,rfl,m.flat++R,?_⟩;rw [hd];simp [Fx.flat]
  |succ i=>
   obtain ⟨pk,e1,e2⟩:=ih (p+1+k'.sz) i L k R h (zv6.drop_more h4);exact ⟨pk,by rw [starts,List.getElem?_cons_succ];exact e1,e2⟩
end Pl
end
section
open Go.RowKit
namespace WFlatS
open zi2
set_option linter.unusedSimpArgs false in
set_option maxRecDepth 100000 in
set_option maxHeartbeats 1000000 in
theorem layers_any (a:Option Addr) (cap:Nat) (Is:List Pl.It) (hl:Is.length≤12) (hok:∀x∈Is,x.t.L.length≤1048576∧∀n∈x.t.L,n.path.size≤1048576∧n.data.size≤1048576) (L:List Pl.Nd) (K:Pl.Fx) (p:Nat) (w:World) (hx:(Pl.Fx.cons L K .nil).okX) (hd:K.shape.depth≤3) (hfl:∃R,(Is.drop p).map Pl.It.r=(Pl.Fx.cons L K .nil).flat++R) (hv:Mem.zb3 w a Is):
  Calls Tryz.prog 101 #[.slice a Is.length cap, .int .i64 (p:Int)] w fun e w'=>∃v,e= .returned v∧ownI w' w.heap.size v (Pl.starts K (p+1))∧Below w.heap.size w w':=by
 obtain ⟨i0,hi,hz0,hz1,hz2⟩:=info_parts infoI;obtain ⟨R0,hfl⟩:=hfl;obtain ⟨x,hxp,hxm,hxL,hrest⟩:=zv6.zv3 hfl;have hplt:p<Is.length:=(List.getElem?_eq_some_iff.1 hxp).1;obtain ⟨⟨b,o,rfl,hb,q0, -⟩, -⟩:=hv p x hxp;have b0:Below w.heap.size w (w.alloc (.cells #[] 3)):=bE0;have c0:=(b0.cell (p:=⟨b,_,none⟩) hb).trans q0;rw [hxm] at c0;have hK4:K.len≤4:=hx.2.2.1;have t1:(p:Int)<(Is.length:Int):=by omega
 have t3:(0:Int)≤(p:Int):=by omega
 have HEN:=hide (fun (j:Nat) W (hj:j≤Is.length) (bb:Below w.heap.size w W)=>WNestS.end_any (some ⟨b,o,none⟩) cap Is hl hok 4 1 j W rfl hj (Mem.zb9 hv bb));have HKX:=hide hx.2.2.2.1;have HDP:=hide hd;have O0:Hid (ownI (w.alloc (.cells #[] 3)) w.heap.size (.slice (some ⟨w.heap.size,0,none⟩) 0 0) []):=⟨rfl, .inr ⟨w.heap.size,0,#[],rfl,Nat.le_refl _,heap_alloc_new _ _,Nat.le_refl _,Nat.zero_le _,rfl,rfl⟩⟩;have HFL:Hid (∃R,(Is.drop (p+1)).map Pl.It.r=K.flat++R):=⟨_,hrest⟩;have HST:Hid ([]++Pl.starts K (p+1)=Pl.starts K (p+1)):=rfl;clear hv hok hfl hrest hxp hxm q0 hx hd hxL;go_enter Tryz.func101,Tryz.ntmps101
 go_wp2
 go_loopw [1,5,6] (fun at' v kk wr=>∃ (j:Nat) (ps:List Nat) (F:Pl.Fx),at'= .int .i64 (j:Int)∧kk= .int .i64 (F.len:Int)∧Hid (ps.length+F.len=K.len)∧Below w.heap.size w wr∧Hid (ownI wr w.heap.size v ps)∧Hid (ps++Pl.starts F j=Pl.starts K (p+1))∧Hid F.okX∧Hid (F.shape.depth≤3)∧Hid (∃R,(Is.drop j).map Pl.It.r=F.flat++R)) (fun _ _ kk _=>(intOf kk).toNat)
 case atStart=>exact ⟨p+1,[],K,by go_num,rfl,hide (by simp),b0,O0,HST,HKX,HDP,HFL⟩
 case round=>
  obtain ⟨j,ps,F,rfl,rfl,HPL,hbel,OW,ST,FX,FD,FL⟩:=hrel;clear O0 HST HKX HDP HFL b0 c0;cases F with
  |nil=>
   have E:Hid (ps=Pl.starts K (p+1)):=hide (by have :=za ST;rw [Pl.starts,List.append_nil] at this;exact this);have u1:¬ (0:Int)<((Pl.Fx.nil.len:Nat):Int):=by decide
   clear ST FX FD FL HPL;go_wp2
   go_ret
   exact ⟨_,rfl,by rw [←za E];exact za OW,hbel⟩
  |cons L1 k1 m1=>
   obtain ⟨R2,hfl2⟩:=za FL;obtain ⟨x2,hx2, -, -,hr2⟩:=zv6.zv3 hfl2;have hjl:j<Is.length:=(List.getElem?_eq_some_iff.1 hx2).1;have hdd:=za FD;rw [Pl.depth_cons] at hdd;have hend:=hide (fun W bb=>za HEN j W (by omega) bb);have hef:=Pl.end_flat (xs:=Is.map Pl.It.r) (by rw [←List.map_drop];exact hfl2) (za FX) (by omega) (by rw [List.length_map];omega);rw [List.length_map] at hef;rw [hef] at hend;have FL2:Hid (∃R,(Is.drop (j+1+k1.sz)).map Pl.It.r=m1.flat++R):=⟨R2,zv6.drop_more hr2⟩;have FX2:Hid m1.okX:=(za FX).2.2.2.2;have FD2:Hid (m1.shape.depth≤3):=hide (by omega);have ST2:Hid ((ps++[j])++Pl.starts m1 (j+1+k1.sz)=Pl.starts K (p+1)):=hide (by have :=za ST;rw [Pl.starts] at this;rw [←this];simp);obtain ⟨f,hf⟩:∃f,f=(Pl.Fx.cons L1 k1 m1).len:=⟨_,rfl⟩;rw [←hf];have hpl:=za HPL;rw [←hf] at hpl;have u1:(0:Int)<(f:Int):=by rw [hf];simp only [Pl.Fx.len];omega
   have HF:Hid (f=m1.len+1):=hf;have HWF:Hid (wrap64 ((f:Int) - 1)=(f:Int) - 1):=hide (by unfold wrap64;omega);have HPL2:Hid ((ps++[j]).length+m1.len=K.len):=hide (by have :=za HF;simp;omega);have hps:ps.length≤4:=by omega
   have bA:Below wr.heap.size wr (wr.alloc (.cells #[.int .i64 (j:Int)] 3)):=bE0;have HR:=hide (zv4 (za OW) bA);have HQ:=hide (fun w2 h2=>Mem.zh2 (o:= .cells #[.int .i64 (j:Int)] 3) (w1:=w2) hbel (Nat.le_refl _) (za OW) h2);have HSB:=hide hbel.size;unfold ownI at HR;clear OW bA ST FX FD FL hfl2 hr2 hdd hef hf HPL hpl hx2 hbel;go_wp2_with (at_builtin;refine wpList_append_own _ rfl _ _ 131 rfl w.heap.size 3 i0 (.int .i64 0) 1 8 Tryz.underlying131 hi hz0 hz1 hz2 rfl (by decide) _ _ _ rfl (za HR) ⟨wr.heap.size,0,none⟩ 1 1 [.int .i64 (j:Int)] rfl rfl (Mem.zi1 _ _ _) (fun u hu=>by simp at hu;subst hu;rfl) (by unfold maxLen;omega) (by omega) (by have :=za HSB;simp;omega) ?_)
   intro v' w2 own' hgrow _;have O2:=hide (yg1 own');have bw2:=za HQ w2 hgrow;clear HR HQ own' hgrow HSB;go_wp2_with fail
   refine (za hend _ bw2).mono ?_;rintro e w3 ⟨rfl,b3⟩;have O3:=hide (zv4 (za O2) b3);have bw3:=bw2.trans (b3.mono bw2.size);clear hend O2 b3 bw2;go_wp2
   go_roundw
   case rel=>exact ⟨j+1+k1.sz,ps++[j],m1,rfl,by have h:=za HF;have hw:=za HWF;first |go_num|(rw [hw];congr 1;omega),HPL2,bw3,O3,ST2,FX2,FD2,FL2⟩
   case measure=>(have h:=za HF;have hw:=za HWF;simp [intOf];omega)
end WFlatS
end
end Go.Proofs.YtkighhofjmginaaGreatDoor
