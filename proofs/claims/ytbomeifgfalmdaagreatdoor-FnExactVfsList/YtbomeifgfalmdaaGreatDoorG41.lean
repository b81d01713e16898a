/- Several texts of one claim in one file: WJoinS, WChildA, WAtQ, WDropX, WStA, WLess1S. -/
import Derived.Test.YtbomeifgfalmdaaGreatDoorG39
set_option maxRecDepth 100000
set_option maxHeartbeats 1000000
namespace Go.Proofs.YtbomeifgfalmdaaGreatDoor
section
open Go.RowKit
namespace zd1
theorem join1_any (p n:ByteArray) (w:World) (hp:p.size≤1048576) (hq:n.size≤1048576):
  Calls Tryz.prog 50 #[.string p, .string n] w fun e w'=>e= .returned (.string (Pl.zh5 p n))∧w'=w:=by
 by_cases h0:Pl.by_ p=[]
 ·have E:=hide (Pl.joinN_root (n:=n) h0);have d1:p.toList.isEmpty=true:=by rw [Pl.zb7];simp [h0]
  clear h0;go_enter Tryz.func50,Tryz.ntmps50
  go_wp2
  go_ret
  exact ⟨zq2 (za E).symm,rfl⟩
 ·have E:Hid (p++⟨#[47]⟩++n=Pl.zh5 p n):=by
   show _=_
   apply Pl.ze4
   rw [Pl.joinN_two h0];simp [Pl.by_]
  have d1:p.toList.isEmpty=false:=by rw [Pl.zb7];simp [h0]
  clear h0;generalize Pl.zh5 p n=R at E ⊢;go_enter Tryz.func50,Tryz.ntmps50
  go_wp2
  go_ret
  exact ⟨by rw [←za E];rfl,rfl⟩

end zd1
end
section
open Go.RowKit
namespace zh8
theorem sz_alloc (w:World) (o:Obj):(w.alloc o).heap.size=w.heap.size+1:=by simp
def zv0 (H:List Bool):List Value:=H.map Value.bool
theorem infoB:(Tryz.prog.info? 4).map (fun i=>(i.zero,i.size,i.bytes))=some (some (.bool false),1,1):=by kernel_rfl
theorem infoN:(Tryz.prog.info? 55).map (fun i=>(i.zero,i.size,i.bytes))=some (some (.agg #[.string ⟨#[]⟩, .int .i64 0, .string ⟨#[]⟩, .int .i64 0, .int .i64 0]),5,56):=by kernel_rfl
theorem zh6 {w w':World} {B e size n:Nat} {v:Value} {xs:List Value} (h:w.ownsRow B e size v n xs) (b:Below w.heap.size w w'):w'.ownsRow B e size v n xs:=by
 refine ⟨h.1,?_⟩
 rcases h.2 with h0|⟨g,cap,cur,hv,hb,hg,rest⟩
 ·exact .inl h0
 ·exact .inr ⟨g,cap,cur,hv,hb,(b.block g (Array.getElem?_eq_some_iff.1 hg).1).trans hg,rest⟩
theorem zy0 {w w':World} {B e size n:Nat} {v:Value} {xs:List Value} {r:Option Nat} (h:w.ownsRow B e size v n xs) (hg:w.grownBy w' r) (hr:∀g,v.ownBlock=some g→some g≠r):w'.ownsRow B e size v n xs:=by
 refine ⟨h.1,?_⟩
 rcases h.2 with h0|⟨g,cap,cur,rfl,hb,hh,rest⟩
 ·exact .inl h0
 ·exact .inr ⟨g,cap,cur,rfl,hb,(hg.block g (Array.getElem?_eq_some_iff.1 hh).1 (hr g rfl)).trans hh,rest⟩
structure ChP (w W:World) (vN vH:Value) (N:List Pl.Nd) (H:List Bool):Prop where
 bel:Below w.heap.size w W
 res:Mem.Blk W w.heap.size (za5 ⟨false,Pl.za3,[]⟩ (.slice none 0 0)).toArray 100
 nodes:Mem.ownN W (w.heap.size+1) vN N
 has:W.ownsRow (w.heap.size+1) 4 1 vH H.length (zv0 H)
 apart:∀g,vN.ownBlock=some g→vH.ownBlock≠some g
theorem ChP.call {w W W':World} {vN vH:Value} {N:List Pl.Nd} {H:List Bool} (h:ChP w W vN vH N H) (b:Below W.heap.size W W'):ChP w W' vN vH N H:=
 ⟨h.bel.trans (b.mono h.bel.size),h.res.call b,zh6 h.nodes b,zh6 h.has b,h.apart⟩
theorem ChP.moreN {w W W':World} {vN vH v':Value} {N:List Pl.Nd} {H:List Bool} {n:Pl.Nd} (h:ChP w W vN vH N H) (own:W'.ownsRow (w.heap.size+1) 55 5 v' (N.length+1) (Pl.zi0 N++n.cs)) (g:W.grownBy W' vN.ownBlock)
  (far:∀g,v'.ownBlock=some g→vN.ownBlock=some g∨W.heap.size≤g):ChP w W' v' vH (N++[n]) H:=by
 have hlt:∀q,vN.ownBlock=some q→w.heap.size+1≤q:=fun q hq=>(World.ownsRow.lt h.nodes q hq).1;refine ⟨h.bel.grown g h.bel.size (fun q hq=>by have :=hlt q hq;omega),h.res.grown g (fun e=>by have :=hlt _ e.symm;omega),Mem.ownN_snoc own,zy0 h.has g (fun q hq e=>h.apart q e.symm hq),fun q hq e=>?_⟩
 rcases far q hq with h1|h1
 ·exact h.apart q h1 e
 ·have :=(World.ownsRow.lt h.has q e).2;omega
theorem ChP.moreH {w W W':World} {vN vH v':Value} {N:List Pl.Nd} {H:List Bool} {x:Bool} (h:ChP w W vN vH N H) (own:W'.ownsRow (w.heap.size+1) 4 1 v' (H.length+1) (zv0 H++[.bool x])) (g:W.grownBy W' vH.ownBlock)
  (far:∀g,v'.ownBlock=some g→vH.ownBlock=some g∨W.heap.size≤g):ChP w W' vN v' N (H++[x]):=by
 have hlt:∀q,vH.ownBlock=some q→w.heap.size+1≤q:=fun q hq=>(World.ownsRow.lt h.has q hq).1;refine ⟨h.bel.grown g h.bel.size (fun q hq=>by have :=hlt q hq;omega),h.res.grown g (fun e=>by have :=hlt _ e.symm;omega),zy0 h.nodes g (fun q hq e=>h.apart q hq e.symm),?_,fun q hq e=>?_⟩
 ·unfold zv0;rw [List.map_append,List.length_append];exact own
 ·rcases far q e with h1|h1
  ·exact h.apart q hq h1
  ·have :=(World.ownsRow.lt h.nodes q hq).2;omega
def ze7 (xs:List (Nat × Option Pl.Nd)):List Pl.Nd:=xs.map (fun x=>x.2.getD Pl.za3)
def zk7 (xs:List (Nat × Option Pl.Nd)):List Bool:=xs.map (fun x=>x.2.isSome)
theorem take_more {α β:Type} (f:α→β) {xs:List α} {j:Nat} {x:α} (h:xs[j]? =some x):(xs.take (j+1)).map f=(xs.take j).map f++[f x]:=by
 have h1:=List.getElem?_eq_some_iff.1 h;rw [List.take_succ_eq_append_getElem h1.1,List.map_append,h1.2];rfl
theorem ChP.asked {w W:World} {vN vH:Value} {xs:List (Nat × Option Pl.Nd)} (h:ChP w W vN vH (ze7 xs) (zk7 xs)) (hx:xs≠[]):
  ∃gn cn gh ch,vN= .slice (some ⟨gn,0,none⟩) xs.length cn∧vH= .slice (some ⟨gh,0,none⟩) xs.length ch∧gn<W.heap.size∧gh<W.heap.size∧
   (∀ (i:Nat) x,xs[i]? =some x→W.cell? ⟨gh,i,none⟩=some (.bool x.2.isSome))∧
   (∀ (i k:Nat) n,xs[i]? =some (k,some n)→W.cell? ⟨gn,i*5,none⟩=some (.string n.path)∧W.cell? ⟨gn,i*5+1,none⟩=some (.int .i64 n.kind)∧W.cell? ⟨gn,i*5+2,none⟩=some (.string n.data)∧W.cell? ⟨gn,i*5+3,none⟩=some (.int .i64 n.time)∧W.cell? ⟨gn,i*5+4,none⟩=some (.int .i64 n.mark)):=by
 have hp:=List.length_pos_iff.2 hx;have e1:(ze7 xs).length=xs.length:=by simp [ze7]
 have e2:(zk7 xs).length=xs.length:=by simp [zk7]
 have hn:=h.nodes;have hh:=h.has;unfold Mem.ownN at hn;rw [e1] at hn;rw [e2] at hh
 rcases hn.2 with ⟨_,h0⟩|⟨gn,cn,curN,hvN, -,hgN, -⟩
 ·omega
 rcases hh.2 with ⟨_,h0⟩|⟨gh,ch,curH,hvH, -,hgH, -⟩
 ·omega
 subst hvN hvH;refine ⟨gn,cn,gh,ch,rfl,rfl,(Array.getElem?_eq_some_iff.1 hgN).1,(Array.getElem?_eq_some_iff.1 hgH).1,fun i x hi=>?_,fun i k n hi=>?_⟩
 ·have :=hh.cells (g:=gh) rfl i (.bool x.2.isSome) (by simp [zv0,zk7,hi]);rw [Mem.add_lit] at this;exact this
 ·have hg:(ze7 xs)[i]? =some n:=by simp [ze7,hi]
  have c:∀j,j<5→W.cell? ⟨gn,i*5+j,none⟩=n.cs[j]?:=fun j hj=>by
   have h1:=Pl.yb6 _ i n hg j hj;have h2:∃u,n.cs[j]? =some u:=⟨_,List.getElem?_eq_getElem (by show j<5;exact hj)⟩;obtain ⟨u,hu⟩:=h2;have :=hn.cells (g:=gn) rfl (i*5+j) u (by rw [h1,hu]);rw [Mem.add_lit] at this;rw [this,hu]
  exact ⟨c 0 (by omega),c 1 (by omega),c 2 (by omega),c 3 (by omega),c 4 (by omega)⟩
theorem ret7 {w W:World} {v:Value} {ks:List Nat} {cs:List Value} (hb:Below w.heap.size w W) (hr:Mem.Blk W w.heap.size cs.toArray 100) (hc:cs.length=7) (ho:ownI W (w.heap.size+1) v ks) (x:Bool) (p:ByteArray) (k:Int) (d:ByteArray) (t m:Int) (u:Value):
  Mem.Blk (((((((W.setCell ⟨w.heap.size,0,none⟩ (.bool x)).setCell ⟨w.heap.size,1,none⟩ (.string p)).setCell ⟨w.heap.size,2,none⟩ (.int .i64 k)).setCell ⟨w.heap.size,3,none⟩ (.string d)).setCell ⟨w.heap.size,4,none⟩ (.int .i64 t)).setCell ⟨w.heap.size,5,none⟩ (.int .i64 m)).setCell ⟨w.heap.size,6,none⟩ u) w.heap.size #[.bool x, .string p, .int .i64 k, .string d, .int .i64 t, .int .i64 m,u] 100∧
  Below w.heap.size w (((((((W.setCell ⟨w.heap.size,0,none⟩ (.bool x)).setCell ⟨w.heap.size,1,none⟩ (.string p)).setCell ⟨w.heap.size,2,none⟩ (.int .i64 k)).setCell ⟨w.heap.size,3,none⟩ (.string d)).setCell ⟨w.heap.size,4,none⟩ (.int .i64 t)).setCell ⟨w.heap.size,5,none⟩ (.int .i64 m)).setCell ⟨w.heap.size,6,none⟩ u)∧
  ownI (((((((W.setCell ⟨w.heap.size,0,none⟩ (.bool x)).setCell ⟨w.heap.size,1,none⟩ (.string p)).setCell ⟨w.heap.size,2,none⟩ (.int .i64 k)).setCell ⟨w.heap.size,3,none⟩ (.string d)).setCell ⟨w.heap.size,4,none⟩ (.int .i64 t)).setCell ⟨w.heap.size,5,none⟩ (.int .i64 m)).setCell ⟨w.heap.size,6,none⟩ u) w.heap.size v ks:=by
 have hr':w.heap.size<w.heap.size+1:=by omega
 refine ⟨?_,((((((hb.setCell (p:=⟨w.heap.size,0,none⟩) (Nat.le_refl _) _).setCell (p:=⟨w.heap.size,1,none⟩) (Nat.le_refl _) _).setCell (p:=⟨w.heap.size,2,none⟩) (Nat.le_refl _) _).setCell (p:=⟨w.heap.size,3,none⟩) (Nat.le_refl _) _).setCell (p:=⟨w.heap.size,4,none⟩) (Nat.le_refl _) _).setCell (p:=⟨w.heap.size,5,none⟩) (Nat.le_refl _) _).setCell (p:=⟨w.heap.size,6,none⟩) (Nat.le_refl _) _,?_⟩
 ·match cs,hc,hr with
  | [c0,c1,c2,c3,c4,c5,c6],_,hr=>
   have h2:=((((((hr.put 0 (.bool x)).put 1 (.string p)).put 2 (.int .i64 k)).put 3 (.string d)).put 4 (.int .i64 t)).put 5 (.int .i64 m)).put 6 u;simp only [List.setIfInBounds_toArray] at h2;exact h2
 ·exact zy6 (zg3 (zg3 (zg3 (zg3 (zg3 (zg3 (zg3 ho _ _ hr') _ _ hr') _ _ hr') _ _ hr') _ _ hr') _ _ hr') _ _ hr') (by omega)
end zh8
end
section
open Go.RowKit
namespace zh8
structure AtQ (w W:World) (X:Nat) (vk:Value) (ks:List Nat) (o:Pl.Ot) (v vl:Value) (L:List ByteArray):Prop where
 lt:w.heap.size+1≤X
 bel:Below w.heap.size w W
 res:Mem.Blk W w.heap.size (za5 ⟨false,Pl.za3,[]⟩ (.slice none 0 0)).toArray 100
 out:Mem.Blk W X (za5 o v).toArray 100
 ownK:ownI W (w.heap.size+1) vk ks
 own:ownI W (w.heap.size+1) v o.parts
 txt:W.ownsRow (w.heap.size+1) 9 1 vl L.length (L.map Value.string)
 farK:vk.ownBlock≠some X
 far:v.ownBlock≠some X
 farT:vl.ownBlock≠some X
theorem AtQ.call {w W W':World} {X:Nat} {vk:Value} {ks:List Nat} {o:Pl.Ot} {v vl:Value} {L:List ByteArray} (h:AtQ w W X vk ks o v vl L) (b:Below W.heap.size W W'):AtQ w W' X vk ks o v vl L:=
 ⟨h.lt,h.bel.trans (b.mono h.bel.size),h.res.call b,h.out.call b,zh6 h.ownK b,zh6 h.own b,zh6 h.txt b,h.farK,h.far,h.farT⟩
theorem ze1 {w:World} {B e size n:Nat} {v:Value} {xs:List Value} (h:w.ownsRow B e size v n xs) (a:Addr) (u:Value) (ha:v.ownBlock≠some a.block):(w.setCell a u).ownsRow B e size v n xs:=by
 refine ⟨h.1,?_⟩
 rcases h.2 with h0|⟨g,cap,cur,rfl,hb,hg,rest⟩
 ·exact .inl h0
 ·exact .inr ⟨g,cap,cur,rfl,hb,(heap_setCell_other w a g u (fun e=>ha (by rw [←e];rfl))).trans hg,rest⟩
theorem AtQ.put {w W:World} {X:Nat} {vk:Value} {ks:List Nat} {o:Pl.Ot} {v vl:Value} {L:List ByteArray} (h:AtQ w W X vk ks o v vl L) {o':Pl.Ot} {v':Value} (own':ownI W (w.heap.size+1) v' o'.parts) (far':v'.ownBlock≠some X):
  AtQ w (((((((W.setCell ⟨X,0,none⟩ (.bool o'.ok)).setCell ⟨X,1,none⟩ (.string o'.node.path)).setCell ⟨X,2,none⟩ (.int .i64 o'.node.kind)).setCell ⟨X,3,none⟩ (.string o'.node.data)).setCell ⟨X,4,none⟩ (.int .i64 o'.node.time)).setCell ⟨X,5,none⟩ (.int .i64 o'.node.mark)).setCell ⟨X,6,none⟩ v') X vk ks o' v' vl L:=by
 have hx:w.heap.size≤X:=by have :=h.lt;omega
 have hne:w.heap.size≠X:=by have :=h.lt;omega
 refine ⟨h.lt,((((((h.bel.setCell (p:=⟨X,0,none⟩) hx _).setCell (p:=⟨X,1,none⟩) hx _).setCell (p:=⟨X,2,none⟩) hx _).setCell (p:=⟨X,3,none⟩) hx _).setCell (p:=⟨X,4,none⟩) hx _).setCell (p:=⟨X,5,none⟩) hx _).setCell (p:=⟨X,6,none⟩) hx _,((((((h.res.far ⟨X,0,none⟩ _ hne).far ⟨X,1,none⟩ _ hne).far ⟨X,2,none⟩ _ hne).far ⟨X,3,none⟩ _ hne).far ⟨X,4,none⟩ _ hne).far ⟨X,5,none⟩ _ hne).far ⟨X,6,none⟩ _ hne,?_,?_,?_,?_,h.farK,far',h.farT⟩
 ·have h2:=((((((h.out.put 0 (.bool o'.ok)).put 1 (.string o'.node.path)).put 2 (.int .i64 o'.node.kind)).put 3 (.string o'.node.data)).put 4 (.int .i64 o'.node.time)).put 5 (.int .i64 o'.node.mark)).put 6 v';simp only [List.setIfInBounds_toArray] at h2;exact h2
 ·exact ze1 (ze1 (ze1 (ze1 (ze1 (ze1 (ze1 h.ownK _ _ h.farK) _ _ h.farK) _ _ h.farK) _ _ h.farK) _ _ h.farK) _ _ h.farK) _ _ h.farK
 ·exact ze1 (ze1 (ze1 (ze1 (ze1 (ze1 (ze1 own' _ _ far') _ _ far') _ _ far') _ _ far') _ _ far') _ _ far') _ _ far'
 ·exact ze1 (ze1 (ze1 (ze1 (ze1 (ze1 (ze1 h.txt _ _ h.farT) _ _ h.farT) _ _ h.farT) _ _ h.farT) _ _ h.farT) _ _ h.farT) _ _ h.farT
theorem AtQ.next {w W:World} {X:Nat} {vk:Value} {ks:List Nat} {o:Pl.Ot} {v vl:Value} {L:List ByteArray} (h:AtQ w W X vk ks o v vl L):AtQ w W X v o.parts o v vl L:=
 ⟨h.lt,h.bel,h.res,h.out,h.own,h.own,h.txt,h.far,h.far,h.farT⟩
theorem yk5 {W:World} {B:Nat} {v:Value} {ks:List Nat} (h:ownI W B v ks) (hk:ks≠[]):∃g cap,v= .slice (some ⟨g,0,none⟩) ks.length cap∧B≤g∧g<W.heap.size∧∀ (i k:Nat),ks[i]? =some k→W.cell? ⟨g,i,none⟩=some (.int .i64 (k:Int)):=by
 have hp:=List.length_pos_iff.2 hk
 rcases h.2 with ⟨_,h0⟩|⟨g,cap,cur,hv,hb,hg, -⟩
 ·omega
 subst hv;refine ⟨g,cap,rfl,hb,(Array.getElem?_eq_some_iff.1 hg).1,fun i k hi=>?_⟩;have :=World.ownsRow.cells h (g:=g) rfl i (.int .i64 (k:Int)) (by simp [intsV,hi]);rw [Mem.add_lit] at this;exact this
theorem ownI_new {W:World} {B:Nat} {v:Value} {ks:List Nat} (h:ownI W B v ks) {X:Nat} (hX:X<B):v.ownBlock≠some X:=fun e=>by have :=(World.ownsRow.lt h X e).1;omega
end zh8
namespace Pl
theorem way_get {L:List ByteArray} {j:Nat} (h:j<L.length):(ways L L.length)[j]? =some (glue (L.take (j+1))):=by simp [ways,h]
theorem way_join {L:List ByteArray} {j:Nat} {t:ByteArray} (hL:∀t∈L,zb8 t=true) (h:L[j]? =some t):zh5 (glue (L.take j)) t=glue (L.take (j+1)):=by
 have h1:=List.getElem?_eq_some_iff.1 h;rw [zh5,zn0 (fun t ht=>hL t (List.mem_of_mem_take ht)),List.take_succ_eq_append_getElem h1.1,h1.2]
end Pl
end
section
namespace zv2
theorem zw {Is:List Pl.It} {p:Nat} {L:List Pl.Nd} {k m:Pl.Fx} {R:List (Int × List Pl.Nd)} (h:(Is.drop p).map Pl.It.r=(Pl.Fx.cons L k m).flat++R):∃x,Is[p]? =some x∧x.m=(k.len:Int)∧x.t.L=L∧(Is.drop (p+1)).map Pl.It.r=k.flat++(m.flat++R):=by
 rw [Pl.Fx.flat,List.cons_append] at h;cases hd:Is.drop p with
 |nil=>rw [hd] at h;cases h
 |cons x T=>
  rw [hd] at h;simp only [List.map_cons,List.cons.injEq] at h
  have hx:Is[p]? =some x:=by
   have :=List.getElem?_drop (xs:=Is) (i:=p) (j:=0);rw [hd] at this
   simpa using this.symm
  have hT:Is.drop (p+1)=T:=by rw [←List.drop_drop,hd];rfl
  refine ⟨x,hx,congrArg Prod.fst h.1,congrArg Prod.snd h.1,?_⟩;rw [hT,h.2,List.append_assoc]
theorem drop_more {Is:List Pl.It} {k:Pl.Fx}:∀ {p:Nat} {R:List (Int × List Pl.Nd)},(Is.drop p).map Pl.It.r=k.flat++R→(Is.drop (p+k.sz)).map Pl.It.r=R:=by
 intro p R h;rw [←List.drop_drop,List.map_drop,h,←Pl.Fx.yc5,List.drop_left]
end zv2
end
section
open Go.RowKit
namespace zh8
structure ChS (w W:World) (vN vH:Value) (N:List Pl.Nd) (H:List Bool):Prop where
 bel:Below w.heap.size w W
 nodes:Mem.ownN W w.heap.size vN N
 has:W.ownsRow w.heap.size 4 1 vH H.length (zv0 H)
 apart:∀g,vN.ownBlock=some g→vH.ownBlock≠some g
theorem ChS.call {w W W':World} {vN vH:Value} {N:List Pl.Nd} {H:List Bool} (h:ChS w W vN vH N H) (b:Below W.heap.size W W'):ChS w W' vN vH N H:=
 ⟨h.bel.trans (b.mono h.bel.size),zh6 h.nodes b,zh6 h.has b,h.apart⟩
theorem ChS.moreN {w W W':World} {vN vH v':Value} {N:List Pl.Nd} {H:List Bool} {n:Pl.Nd} (h:ChS w W vN vH N H) (own:W'.ownsRow w.heap.size 55 5 v' (N.length+1) (Pl.zi0 N++n.cs)) (g:W.grownBy W' vN.ownBlock)
  (far:∀g,v'.ownBlock=some g→vN.ownBlock=some g∨W.heap.size≤g):ChS w W' v' vH (N++[n]) H:=by
 have hlt:∀q,vN.ownBlock=some q→w.heap.size≤q:=fun q hq=>(World.ownsRow.lt h.nodes q hq).1;refine ⟨h.bel.grown g h.bel.size hlt,Mem.ownN_snoc own,zy0 h.has g (fun q hq e=>h.apart q e.symm hq),fun q hq e=>?_⟩
 rcases far q hq with h1|h1
 ·exact h.apart q h1 e
 ·have :=(World.ownsRow.lt h.has q e).2;omega
theorem ChS.moreH {w W W':World} {vN vH v':Value} {N:List Pl.Nd} {H:List Bool} {x:Bool} (h:ChS w W vN vH N H) (own:W'.ownsRow w.heap.size 4 1 v' (H.length+1) (zv0 H++[.bool x])) (g:W.grownBy W' vH.ownBlock)
  (far:∀g,v'.ownBlock=some g→vH.ownBlock=some g∨W.heap.size≤g):ChS w W' vN v' N (H++[x]):=by
 have hlt:∀q,vH.ownBlock=some q→w.heap.size≤q:=fun q hq=>(World.ownsRow.lt h.has q hq).1;refine ⟨h.bel.grown g h.bel.size hlt,zy0 h.nodes g (fun q hq e=>h.apart q hq e.symm),?_,fun q hq e=>?_⟩
 ·unfold zv0;rw [List.map_append,List.length_append];exact own
 ·rcases far q e with h1|h1
  ·exact h.apart q hq h1
  ·have :=(World.ownsRow.lt h.nodes q hq).2;omega
theorem ChS.asked {w W:World} {vN vH:Value} {xs:List (Nat × Option Pl.Nd)} (h:ChS w W vN vH (ze7 xs) (zk7 xs)) (hx:xs≠[]):
  ∃gn cn gh ch,vN= .slice (some ⟨gn,0,none⟩) xs.length cn∧vH= .slice (some ⟨gh,0,none⟩) xs.length ch∧gn<W.heap.size∧gh<W.heap.size∧
   (∀ (i:Nat) x,xs[i]? =some x→W.cell? ⟨gh,i,none⟩=some (.bool x.2.isSome))∧
   (∀ (i k:Nat) n,xs[i]? =some (k,some n)→W.cell? ⟨gn,i*5,none⟩=some (.string n.path)∧W.cell? ⟨gn,i*5+1,none⟩=some (.int .i64 n.kind)∧W.cell? ⟨gn,i*5+2,none⟩=some (.string n.data)∧W.cell? ⟨gn,i*5+3,none⟩=some (.int .i64 n.time)∧W.cell? ⟨gn,i*5+4,none⟩=some (.int .i64 n.mark)):=by
 have hp:=List.length_pos_iff.2 hx;have e1:(ze7 xs).length=xs.length:=by simp [ze7]
 have e2:(zk7 xs).length=xs.length:=by simp [zk7]
 have hn:=h.nodes;have hh:=h.has;unfold Mem.ownN at hn;rw [e1] at hn;rw [e2] at hh
 rcases hn.2 with ⟨_,h0⟩|⟨gn,cn,curN,hvN, -,hgN, -⟩
 ·omega
 rcases hh.2 with ⟨_,h0⟩|⟨gh,ch,curH,hvH, -,hgH, -⟩
 ·omega
 subst hvN hvH;refine ⟨gn,cn,gh,ch,rfl,rfl,(Array.getElem?_eq_some_iff.1 hgN).1,(Array.getElem?_eq_some_iff.1 hgH).1,fun i x hi=>?_,fun i k n hi=>?_⟩
 ·have :=hh.cells (g:=gh) rfl i (.bool x.2.isSome) (by simp [zv0,zk7,hi]);rw [Mem.add_lit] at this;exact this
 ·have hg:(ze7 xs)[i]? =some n:=by simp [ze7,hi]
  have c:∀j,j<5→W.cell? ⟨gn,i*5+j,none⟩=n.cs[j]?:=fun j hj=>by
   have h1:=Pl.yb6 _ i n hg j hj;have h2:∃u,n.cs[j]? =some u:=⟨_,List.getElem?_eq_getElem (by show j<5;exact hj)⟩;obtain ⟨u,hu⟩:=h2;have :=hn.cells (g:=gn) rfl (i*5+j) u (by rw [h1,hu]);rw [Mem.add_lit] at this;rw [this,hu]
  exact ⟨c 0 (by omega),c 1 (by omega),c 2 (by omega),c 3 (by omega),c 4 (by omega)⟩
theorem ChS.new (w:World):ChS w ((w.alloc (.cells #[] 55)).alloc (.cells #[] 4)) (.slice (some ⟨w.heap.size,0,none⟩) 0 0) (.slice (some ⟨w.heap.size+1,0,none⟩) 0 0) [] []:=by
 refine ⟨((Below.refl _ _).alloc (Nat.le_refl _) _).alloc (by simp) _,⟨rfl, .inr ⟨w.heap.size,0,#[],rfl,Nat.le_refl _,?_,Nat.le_refl _,Nat.zero_le _,rfl,rfl⟩⟩,⟨rfl, .inr ⟨w.heap.size+1,0,#[],rfl,Nat.le_succ _,?_,Nat.le_refl _,Nat.zero_le _,rfl,rfl⟩⟩,fun g h1 h2=>by have e1:w.heap.size=g:=Option.some.inj h1;have e2:w.heap.size+1=g:=Option.some.inj h2;omega⟩
 ·exact Mem.Blk.alloc (cs:=#[]) (T:=55) (Mem.Blk.new w _ _) _
 ·exact Mem.zh9 w _ _
end zh8
namespace Pl
theorem atF_last {fs:List Fq} {ks:List Nat} {L:List ByteArray} {j:Nat} {o:Ot} (hj:j+1=L.length) (ho:ze0 fs ks (glue (L.take (j+1)))=o):atF fs ks ((ways L L.length).drop j)=if o.ok=true then o else zk5:=by
 have h1:=List.getElem?_eq_some_iff.1 (way_get (L:=L) (j:=j) (by omega));rw [List.drop_eq_getElem_cons h1.1,h1.2,List.drop_eq_nil_of_le (by rw [zm7];omega),atF,ho]
theorem atF_more {fs:List Fq} {ks:List Nat} {L:List ByteArray} {j:Nat} {o:Ot} (hj:j+1<L.length) (ho:ze0 fs ks (glue (L.take (j+1)))=o):atF fs ks ((ways L L.length).drop j)=if o.ok=true∧o.node.kind=1 then atF fs o.parts ((ways L L.length).drop (j+1)) else zk5:=by
 have h1:=List.getElem?_eq_some_iff.1 (way_get (L:=L) (j:=j) (by omega));have h2:=List.getElem?_eq_some_iff.1 (way_get (L:=L) (j:=j+1) (by omega));rw [List.drop_eq_getElem_cons h1.1,h1.2,List.drop_eq_getElem_cons h2.1,h2.2,atF,ho]
theorem starts_kid {Is:List It}:∀ (K:Fx) (p i:Nat) (L:List Nd) (k:Fx) (R:List (Int × List Nd)),kid K i=some (L,k)→(Is.drop p).map It.r=K.flat++R→∃pk,(starts K p)[i]? =some pk∧∃R',(Is.drop pk).map It.r=(Fx.cons L k .nil).flat++R':=by
 intro K
 induction K with
 |nil=>intro p i L k R h;cases h
 |cons L' k' m _ ih=>
  intro p i L k R h hd;obtain ⟨x,h1,h2,h3,h4⟩:=zv2.zw hd;cases i with
  |zero=>
   cases h
   refine ⟨p,rfl,m.flat++R,?_⟩;rw [hd];simp [Fx.flat]
  |succ i=>
   obtain ⟨pk,e1,e2⟩:=ih (p+1+k'.sz) i L k R h (zv2.drop_more h4);exact ⟨pk,by rw [starts,List.getElem?_cons_succ];exact e1,e2⟩
end Pl
end
section
open Go.RowKit
namespace zd1
theorem less1_any (p t:ByteArray) (w:World) (hp:p.size≤8000) (ht:t.size≤8000):
  Calls Tryz.prog 101 #[.string p, .string t] w fun e w'=>e= .returned (.bool (Pl.za7 (Pl.names p) (Pl.names t)))∧Below w.heap.size w w':=by
 have hn1:=hide (fun W=>zu8 p W (by omega));have hn2:=hide (fun W=>zu8 t W (by omega));have hA:=Pl.zx7 p;have hB:=Pl.zx7 t;generalize Pl.names p=A at hn1 hA ⊢;generalize Pl.names t=B at hn2 hB ⊢;have HE:Hid (∀k,k=A.length∧k≤B.length∨k=B.length∧k≤A.length→Pl.za7 (A.drop k) (B.drop k)=decide (A.length<B.length)):=fun k h=>Pl.less_end h;have HS:Hid (Pl.za7 A B=Pl.za7 (A.drop 0) (B.drop 0)):=rfl;have HT:Hid (∀k a b,A[k]? =some a→B[k]? =some b→a=b→Pl.za7 (A.drop k) (B.drop k)=Pl.za7 (A.drop (k+1)) (B.drop (k+1))):=fun k a b h1 h2 h3=>Pl.less_same h1 h2 h3;have HF:Hid (∀k a b,A[k]? =some a→B[k]? =some b→a≠b→Pl.za7 (A.drop k) (B.drop k)=Op.bytesLess a.toList b.toList):=fun k a b h1 h2 h3=>Pl.yi7 h1 h2 h3;generalize Pl.za7 A B=R at HS ⊢;go_enter Tryz.func101,Tryz.ntmps101
 go_wp2_with fail
 refine (za hn1 _).mono ?_;rintro e w1 ⟨v,rfl,hown1,b1⟩;have HO1:=hide hown1;clear hown1;go_wp2_with fail
 refine (za hn2 _).mono ?_;rintro e w2 ⟨u,rfl,hown2,b2⟩;have hv:=hide (Mem.zs9 (Mem.zd7 (za HO1)) b2);have hu:=hide (Mem.zd7 hown2);have b3:=b1.trans (b2.mono b1.size);have hs3:=b3.size;clear b1 b2 hown2 HO1 hn1 hn2;obtain ⟨va,vc,rfl⟩:=Mem.zj4 (za hv);obtain ⟨ua,uc,rfl⟩:=Mem.zj4 (za hu)
 have HCA:Hid (∀ (k:Nat) x,A[k]? =some x→∃b o,va=some ⟨b,o,none⟩∧b<w2.heap.size∧w2.cell? ⟨b,o+k,none⟩=some (.string x)):=fun k x hx=>by
  rcases za hv with ⟨_,rfl⟩|⟨b,o,cap,h1,h2,h3⟩
  ·simp at hx
  ·cases h1;exact ⟨b,o,rfl,h2,h3 k x hx⟩
 have HCB:Hid (∀ (k:Nat) x,B[k]? =some x→∃b o,ua=some ⟨b,o,none⟩∧b<w2.heap.size∧w2.cell? ⟨b,o+k,none⟩=some (.string x)):=fun k x hx=>by
  rcases za hu with ⟨_,rfl⟩|⟨b,o,cap,h1,h2,h3⟩
  ·simp at hx
  ·cases h1;exact ⟨b,o,rfl,h2,h3 k x hx⟩
 clear hv hu;go_wp2
 go_loopw [7] (fun i wr=>∃k:Nat,k≤A.length∧k≤B.length∧i= .int .i64 (k:Int)∧Below w2.heap.size w2 wr∧Hid (R=Pl.za7 (A.drop k) (B.drop k))) (fun i _=>A.length - (intOf i).toNat)
 case atStart=>exact ⟨0,Nat.zero_le _,Nat.zero_le _,rfl,Below.refl _ _,HS⟩
 case round=>
  obtain ⟨k,hk,hk2,rfl,hbel,HR⟩:=hrel;by_cases hlt:k<A.length∧k<B.length
  ·obtain ⟨l1,l2⟩:=hlt;obtain ⟨y,hy⟩:∃y,B[k]? =some y:=⟨_,List.getElem?_eq_getElem (by omega)⟩;obtain ⟨x,hx⟩:∃x,A[k]? =some x:=⟨_,List.getElem?_eq_getElem (by omega)⟩;obtain ⟨b,o,rfl,hb,hcb⟩:=HCB.out k y hy;obtain ⟨b',o',rfl,hb',hca⟩:=HCA.out k x hx;have hc1:wr.cell? ⟨b,o+k,none⟩=some (.string y):=(hbel.cell (p:=⟨b,o+k,none⟩) hb).trans hcb;have hc2:wr.cell? ⟨b',o'+k,none⟩=some (.string x):=(hbel.cell (p:=⟨b',o'+k,none⟩) hb').trans hca;have u1:(k:Int)<(A.length:Int):=by omega
   have u2:(k:Int)<(B.length:Int):=by omega
   have u3:(0:Int)≤(k:Int):=by omega
   clear hcb hca;by_cases hxy:x=y
   ·have t2:=Pl.zr0 hxy;have HR2:Hid (R=Pl.za7 (A.drop (k+1)) (B.drop (k+1))):=HR.out.trans (HT.out k x y hx hy hxy);clear hx hy HR hxy;go_wp2
    go_quiet (fail)
    go_wp2
    go_roundw
    case rel=>exact ⟨k+1,by omega,by omega,by go_num,Mem.below_drewN hbel _,HR2⟩
    case measure=>simp [intOf];omega
   ·have t2:=Pl.zj8 hxy;have E:Hid (R=Op.bytesLess x.toList y.toList):=HR.out.trans (HF.out k x y hx hy hxy);clear hx hy HR hxy;go_wp2
    go_quiet (fail)
    go_wp2
    go_quiet (fail)
    go_wp2
    go_ret
    exact ⟨za1 E.out.symm,b3.trans ((Mem.below_drewN (Mem.below_drewN hbel _) _).mono hs3)⟩
  ·have E:Hid (R=decide (A.length<B.length)):=HR.out.trans (HE.out _ (by omega));clear HR;by_cases l1:k<A.length
   ·have u1:(k:Int)<(A.length:Int):=by omega
    have u2:¬ (k:Int)<(B.length:Int):=by omega
    clear hlt;go_wp2
    go_ret
    exact ⟨za1 (by rw [E.out]),b3.trans (hbel.mono hs3)⟩
   ·have u1:¬ (k:Int)<(A.length:Int):=by omega
    clear hlt;go_wp2
    go_ret
    exact ⟨za1 (by rw [E.out]),b3.trans (hbel.mono hs3)⟩
end zd1
end
end Go.Proofs.YtbomeifgfalmdaaGreatDoor
