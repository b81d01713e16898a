/- Several texts of one claim in one file: MemNodes, MemTrees, MemItems, WDropX, WStA. -/
import Derived.Test.YtpakookhgpphaaaDoorG00
import Derived.Below
import Derived.Test.YtpakookhgpphaaaDoorG04
import Derived.Test.YtpakookhgpphaaaDoorG10
import Derived.Test.YtpakookhgpphaaaDoorG13
namespace Go.Proofs.YtpakookhgpphaaaDoor
section
open Go.RowKit
namespace Mem
def za7 (w:World) (a:Option Addr) (L:List Pl.Nd):Prop:=
 ∀ (i:Nat) n,L[i]? =some n→∃b o,a=some ⟨b,o,none⟩∧b<w.heap.size∧
  w.cell? ⟨b,o+i*5,none⟩=some (.string n.path)∧w.cell? ⟨b,o+i*5+1,none⟩=some (.int .i64 n.kind)∧w.cell? ⟨b,o+i*5+2,none⟩=some (.string n.data)∧
  w.cell? ⟨b,o+i*5+3,none⟩=some (.int .i64 n.time)∧w.cell? ⟨b,o+i*5+4,none⟩=some (.int .i64 n.mark)
theorem za8 {w w':World} {a:Option Addr} {L:List Pl.Nd} (h:za7 w a L) (b:Below w.heap.size w w'):za7 w' a L:=fun i n hi=>by
 obtain ⟨g,o,h1,h2,h3,h4,h5,h6,h7⟩:=h i n hi;exact ⟨g,o,h1,Nat.lt_of_lt_of_le h2 b.size,(b.cell (p:=⟨g,_,none⟩) h2).trans h3,(b.cell (p:=⟨g,_,none⟩) h2).trans h4,(b.cell (p:=⟨g,_,none⟩) h2).trans h5,(b.cell (p:=⟨g,_,none⟩) h2).trans h6,(b.cell (p:=⟨g,_,none⟩) h2).trans h7⟩
theorem zn5 (b o j:Nat):(⟨b,o,none⟩:Addr).add j=⟨b,o+j,none⟩:=by unfold Addr.add;split <;> simp_all
theorem zy1 (w:World) (a:Option Addr):za7 w a []:=fun i n hi=>by simp at hi
end Mem
end
section
open Go.RowKit
namespace Pl
structure Tr where
 a:Option Addr
 cap:Nat
 L:List Nd
def Tr.val (t:Tr):Value:= .slice t.a t.L.length t.cap
end Pl
namespace Mem
end Mem
end
section
open Go.RowKit
namespace Pl
structure It where
 m:Int
 t:Tr
def It.r (x:It):Int × List Nd:=(x.m,x.t.L)
end Pl
namespace Mem
def zb0 (w:World) (a:Option Addr) (Is:List Pl.It):Prop:=
 ∀ (i:Nat) x,Is[i]? =some x→(∃b o,a=some ⟨b,o,none⟩∧b<w.heap.size∧w.cell? ⟨b,o+i*2,none⟩=some (.int .i64 x.m)∧w.cell? ⟨b,o+i*2+1,none⟩=some x.t.val)∧za7 w x.t.a x.t.L
theorem zc2 {w w':World} {a:Option Addr} {Is:List Pl.It} (h:zb0 w a Is) (b:Below w.heap.size w w'):zb0 w' a Is:=fun i t hi=>by
 obtain ⟨⟨g,o,h1,h2,h3,h5⟩,h4⟩:=h i t hi;exact ⟨⟨g,o,h1,Nat.lt_of_lt_of_le h2 b.size,(b.cell (p:=⟨g,_,none⟩) h2).trans h3,(b.cell (p:=⟨g,_,none⟩) h2).trans h5⟩,za8 h4 b⟩
theorem items_nil (w:World) (a:Option Addr):zb0 w a []:=fun i n hi=>by simp at hi
theorem items_drop {w:World} {b o:Nat} {Is:List Pl.It} (k:Nat) (h:zb0 w (some ⟨b,o,none⟩) Is):zb0 w (some ⟨b,o+k*2,none⟩) (Is.drop k):=fun i t hi=>by
 rw [List.getElem?_drop] at hi;obtain ⟨⟨g,o',h1,h2,h3,h5⟩,h4⟩:=h _ t hi;cases h1
 refine ⟨⟨b,_,rfl,h2,?_,?_⟩,h4⟩
 ·rw [show o+k*2+i*2=o+(k+i)*2 by omega];exact h3
 ·rw [show o+k*2+i*2+1=o+(k+i)*2+1 by omega];exact h5
def shifted (a a':Option Addr) (k:Nat) (Is:List Pl.It):Prop:=Is.drop k=[]∨∃b o,a=some ⟨b,o,none⟩∧a'=some ⟨b,o+k*2,none⟩
theorem items_shift {w:World} {a a':Option Addr} {k:Nat} {Is:List Pl.It} (h:zb0 w a Is) (hs:shifted a a' k Is):zb0 w a' (Is.drop k):=by
 rcases hs with hs|⟨b,o,rfl,rfl⟩
 ·rw [hs];exact items_nil _ _
 ·exact items_drop k h
theorem shifted_trans {a a' a'':Option Addr} {k j:Nat} {Is:List Pl.It} (h:shifted a a' k Is) (h':shifted a' a'' j (Is.drop k)):shifted a a'' (k+j) Is:=by
 rcases h' with h'|⟨b,o,e1,e2⟩
 ·rw [List.drop_drop] at h';exact .inl h'
 ·rcases h with h|⟨b1,o1,e3,e4⟩
  ·left;rw [←List.drop_drop,h,List.drop_nil]
  ·rw [e4] at e1;cases e1
   exact .inr ⟨_,o1,e3,by rw [e2];congr 2;omega⟩
end Mem
end
section
namespace WView5
theorem drop_cons {Is:List Pl.It} {p:Nat} {L:List Pl.Nd} {k m:Pl.Fx} {R:List (Int × List Pl.Nd)} (h:(Is.drop p).map Pl.It.r=(Pl.Fx.cons L k m).flat++R):∃x,Is[p]? =some x∧x.m=(k.len:Int)∧x.t.L=L∧(Is.drop (p+1)).map Pl.It.r=k.flat++(m.flat++R):=by
 rw [Pl.Fx.flat,List.cons_append] at h;cases hd:Is.drop p with
 |nil=>rw [hd] at h;cases h
 |cons x T=>
  rw [hd] at h;simp only [List.map_cons,List.cons.injEq] at h
  have hx:Is[p]? =some x:=by
   have :=List.getElem?_drop (xs:=Is) (i:=p) (j:=0);rw [hd] at this
   simpa using this.symm
  have hT:Is.drop (p+1)=T:=by rw [←List.drop_drop,hd];rfl
  refine ⟨x,hx,congrArg Prod.fst h.1,congrArg Prod.snd h.1,?_⟩;rw [hT,h.2,List.append_assoc]
theorem drop_more {Is:List Pl.It} {k:Pl.Fx}:∀ {p:Nat} {R:List (Int × List Pl.Nd)},(Is.drop p).map Pl.It.r=k.flat++R→(Is.drop (p+k.sz)).map Pl.It.r=R:=by
 intro p R h;rw [←List.drop_drop,List.map_drop,h,←Pl.Fx.flat_len,List.drop_left]
end WView5
end
section
open Go.RowKit
namespace WPick
structure ChS (w W:World) (vN vH:Value) (N:List Pl.Nd) (H:List Bool):Prop where
 bel:Below w.heap.size w W
 nodes:Mem.ownN W w.heap.size vN N
 has:W.ownsRow w.heap.size 4 1 vH H.length (boolsV H)
 apart:∀g,vN.ownBlock=some g→vH.ownBlock≠some g
theorem ChS.call {w W W':World} {vN vH:Value} {N:List Pl.Nd} {H:List Bool} (h:ChS w W vN vH N H) (b:Below W.heap.size W W'):ChS w W' vN vH N H:=
 ⟨h.bel.trans (b.mono h.bel.size),row_call h.nodes b,row_call h.has b,h.apart⟩
theorem ChS.moreN {w W W':World} {vN vH v':Value} {N:List Pl.Nd} {H:List Bool} {n:Pl.Nd} (h:ChS w W vN vH N H) (own:W'.ownsRow w.heap.size 25 5 v' (N.length+1) (Pl.zd1 N++n.cs)) (g:W.grownBy W' vN.ownBlock)
  (far:∀g,v'.ownBlock=some g→vN.ownBlock=some g∨W.heap.size≤g):ChS w W' v' vH (N++[n]) H:=by
 have hlt:∀q,vN.ownBlock=some q→w.heap.size≤q:=fun q hq=>(World.ownsRow.lt h.nodes q hq).1;refine ⟨h.bel.grown g h.bel.size hlt,Mem.ownN_snoc own,row_grown h.has g (fun q hq e=>h.apart q e.symm hq),fun q hq e=>?_⟩
 rcases far q hq with h1|h1
 ·exact h.apart q h1 e
 ·have :=(World.ownsRow.lt h.has q e).2;omega
theorem ChS.moreH {w W W':World} {vN vH v':Value} {N:List Pl.Nd} {H:List Bool} {x:Bool} (h:ChS w W vN vH N H) (own:W'.ownsRow w.heap.size 4 1 v' (H.length+1) (boolsV H++[.bool x])) (g:W.grownBy W' vH.ownBlock)
  (far:∀g,v'.ownBlock=some g→vH.ownBlock=some g∨W.heap.size≤g):ChS w W' vN v' N (H++[x]):=by
 have hlt:∀q,vH.ownBlock=some q→w.heap.size≤q:=fun q hq=>(World.ownsRow.lt h.has q hq).1;refine ⟨h.bel.grown g h.bel.size hlt,row_grown h.nodes g (fun q hq e=>h.apart q hq e.symm),?_,fun q hq e=>?_⟩
 ·unfold boolsV;rw [List.map_append,List.length_append];exact own
 ·rcases far q e with h1|h1
  ·exact h.apart q hq h1
  ·have :=(World.ownsRow.lt h.nodes q hq).2;omega
theorem ChS.asked {w W:World} {vN vH:Value} {xs:List (Nat × Option Pl.Nd)} (h:ChS w W vN vH (nodesOf' xs) (hasOf xs)) (hx:xs≠[]):
  ∃gn cn gh ch,vN= .slice (some ⟨gn,0,none⟩) xs.length cn∧vH= .slice (some ⟨gh,0,none⟩) xs.length ch∧gn<W.heap.size∧gh<W.heap.size∧
   (∀ (i:Nat) x,xs[i]? =some x→W.cell? ⟨gh,i,none⟩=some (.bool x.2.isSome))∧
   (∀ (i k:Nat) n,xs[i]? =some (k,some n)→W.cell? ⟨gn,i*5,none⟩=some (.string n.path)∧W.cell? ⟨gn,i*5+1,none⟩=some (.int .i64 n.kind)∧W.cell? ⟨gn,i*5+2,none⟩=some (.string n.data)∧W.cell? ⟨gn,i*5+3,none⟩=some (.int .i64 n.time)∧W.cell? ⟨gn,i*5+4,none⟩=some (.int .i64 n.mark)):=by
 have hp:=List.length_pos_iff.2 hx;have e1:(nodesOf' xs).length=xs.length:=by simp [nodesOf']
 have e2:(hasOf xs).length=xs.length:=by simp [hasOf]
 have hn:=h.nodes;have hh:=h.has;unfold Mem.ownN at hn;rw [e1] at hn;rw [e2] at hh
 rcases hn.2 with ⟨_,h0⟩|⟨gn,cn,curN,hvN, -,hgN, -⟩
 ·omega
 rcases hh.2 with ⟨_,h0⟩|⟨gh,ch,curH,hvH, -,hgH, -⟩
 ·omega
 subst hvN hvH;refine ⟨gn,cn,gh,ch,rfl,rfl,(Array.getElem?_eq_some_iff.1 hgN).1,(Array.getElem?_eq_some_iff.1 hgH).1,fun i x hi=>?_,fun i k n hi=>?_⟩
 ·have :=hh.cells (g:=gh) rfl i (.bool x.2.isSome) (by simp [boolsV,hasOf,hi]);rw [Mem.add_lit] at this;exact this
 ·have hg:(nodesOf' xs)[i]? =some n:=by simp [nodesOf',hi]
  have c:∀j,j<5→W.cell? ⟨gn,i*5+j,none⟩=n.cs[j]?:=fun j hj=>by
   have h1:=Pl.zw1 _ i n hg j hj;have h2:∃u,n.cs[j]? =some u:=⟨_,List.getElem?_eq_getElem (by show j<5;exact hj)⟩;obtain ⟨u,hu⟩:=h2;have :=hn.cells (g:=gn) rfl (i*5+j) u (by rw [h1,hu]);rw [Mem.add_lit] at this;rw [this,hu]
  exact ⟨c 0 (by omega),c 1 (by omega),c 2 (by omega),c 3 (by omega),c 4 (by omega)⟩
theorem ChS.new (w:World):ChS w ((w.alloc (.cells #[] 25)).alloc (.cells #[] 4)) (.slice (some ⟨w.heap.size,0,none⟩) 0 0) (.slice (some ⟨w.heap.size+1,0,none⟩) 0 0) [] []:=by
 refine ⟨((Below.refl _ _).alloc (Nat.le_refl _) _).alloc (by simp) _,⟨rfl, .inr ⟨w.heap.size,0,#[],rfl,Nat.le_refl _,?_,Nat.le_refl _,Nat.zero_le _,rfl,rfl⟩⟩,⟨rfl, .inr ⟨w.heap.size+1,0,#[],rfl,Nat.le_succ _,?_,Nat.le_refl _,Nat.zero_le _,rfl,rfl⟩⟩,fun g h1 h2=>by have e1:w.heap.size=g:=Option.some.inj h1;have e2:w.heap.size+1=g:=Option.some.inj h2;omega⟩
 ·exact Mem.Blk.alloc (cs:=#[]) (T:=25) (Mem.Blk.new w _ _) _
 ·exact Mem.zl8 w _ _
end WPick
namespace Pl
theorem atF_last {fs:List Fq} {ks:List Nat} {L:List ByteArray} {j:Nat} {o:Ot} (hj:j+1=L.length) (ho:childF fs ks (glue (L.take (j+1)))=o):atF fs ks ((ways L L.length).drop j)=if o.ok=true then o else zeroO:=by
 have h1:=List.getElem?_eq_some_iff.1 (way_get (L:=L) (j:=j) (by omega));rw [List.drop_eq_getElem_cons h1.1,h1.2,List.drop_eq_nil_of_le (by rw [ways_len];omega),atF,ho]
theorem atF_more {fs:List Fq} {ks:List Nat} {L:List ByteArray} {j:Nat} {o:Ot} (hj:j+1<L.length) (ho:childF fs ks (glue (L.take (j+1)))=o):atF fs ks ((ways L L.length).drop j)=if o.ok=true∧o.node.kind=1 then atF fs o.parts ((ways L L.length).drop (j+1)) else zeroO:=by
 have h1:=List.getElem?_eq_some_iff.1 (way_get (L:=L) (j:=j) (by omega));have h2:=List.getElem?_eq_some_iff.1 (way_get (L:=L) (j:=j+1) (by omega));rw [List.drop_eq_getElem_cons h1.1,h1.2,List.drop_eq_getElem_cons h2.1,h2.2,atF,ho]
theorem starts_kid {Is:List It}:∀ (K:Fx) (p i:Nat) (L:List Nd) (k:Fx) (R:List (Int × List Nd)),kid K i=some (L,k)→(Is.drop p).map It.r=K.flat++R→∃pk,(starts K p)[i]? =some pk∧∃R',(Is.drop pk).map It.r=(Fx.cons L k .nil).flat++R':=by
 intro K
 induction K with
 |nil=>intro p i L k R h;cases h
 |cons L' k' m _ ih=>
  intro p i L k R h hd;obtain ⟨x,h1,h2,h3,h4⟩:=WView5.drop_cons hd;cases i with
  |zero=>
   cases h
   refine ⟨p,rfl,m.flat++R,?_⟩;rw [hd];simp [Fx.flat]
  |succ i=>
   obtain ⟨pk,e1,e2⟩:=ih (p+1+k'.sz) i L k R h (WView5.drop_more h4);exact ⟨pk,by rw [starts,List.getElem?_cons_succ];exact e1,e2⟩
end Pl
end
end Go.Proofs.YtpakookhgpphaaaDoor
