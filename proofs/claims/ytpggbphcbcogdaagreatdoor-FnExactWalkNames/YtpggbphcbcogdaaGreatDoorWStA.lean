import Derived.Test.YtpggbphcbcogdaaGreatDoorPlainState
import Derived.Test.YtpggbphcbcogdaaGreatDoorWAtQ
import Derived.Test.YtpggbphcbcogdaaGreatDoorPlainEnds
import Derived.Test.YtpggbphcbcogdaaGreatDoorWDropX
namespace Go.Proofs.YtpggbphcbcogdaaGreatDoor
open Go.RowKit
namespace zf3
structure ChS (w W:World) (vN vH:Value) (N:List Pl.Nd) (H:List Bool):Prop where
 bel:Below w.heap.size w W
 nodes:Mem.ownN W w.heap.size vN N
 has:W.ownsRow w.heap.size 4 1 vH H.length (zo4 H)
 apart:∀g,vN.ownBlock=some g→vH.ownBlock≠some g
theorem ChS.call {w W W':World} {vN vH:Value} {N:List Pl.Nd} {H:List Bool} (h:ChS w W vN vH N H) (b:Below W.heap.size W W'):ChS w W' vN vH N H:=
 ⟨h.bel.trans (b.mono h.bel.size),ze7 h.nodes b,ze7 h.has b,h.apart⟩
theorem ChS.moreN {w W W':World} {vN vH v':Value} {N:List Pl.Nd} {H:List Bool} {n:Pl.Nd} (h:ChS w W vN vH N H) (own:W'.ownsRow w.heap.size 42 5 v' (N.length+1) (Pl.zg7 N++n.cs)) (g:W.grownBy W' vN.ownBlock)
  (far:∀g,v'.ownBlock=some g→vN.ownBlock=some g∨W.heap.size≤g):ChS w W' v' vH (N++[n]) H:=by
 have hlt:∀q,vN.ownBlock=some q→w.heap.size≤q:=fun q hq=>(World.ownsRow.lt h.nodes q hq).1;refine ⟨h.bel.grown g h.bel.size hlt,Mem.ownN_snoc own,zq0 h.has g (fun q hq e=>h.apart q e.symm hq),fun q hq e=>?_⟩
 rcases far q hq with h1|h1
 ·exact h.apart q h1 e
 ·have :=(World.ownsRow.lt h.has q e).2;omega
theorem ChS.moreH {w W W':World} {vN vH v':Value} {N:List Pl.Nd} {H:List Bool} {x:Bool} (h:ChS w W vN vH N H) (own:W'.ownsRow w.heap.size 4 1 v' (H.length+1) (zo4 H++[.bool x])) (g:W.grownBy W' vH.ownBlock)
  (far:∀g,v'.ownBlock=some g→vH.ownBlock=some g∨W.heap.size≤g):ChS w W' vN v' N (H++[x]):=by
 have hlt:∀q,vH.ownBlock=some q→w.heap.size≤q:=fun q hq=>(World.ownsRow.lt h.has q hq).1;refine ⟨h.bel.grown g h.bel.size hlt,zq0 h.nodes g (fun q hq e=>h.apart q hq e.symm),?_,fun q hq e=>?_⟩
 ·unfold zo4;rw [List.map_append,List.length_append];exact own
 ·rcases far q e with h1|h1
  ·exact h.apart q hq h1
  ·have :=(World.ownsRow.lt h.nodes q hq).2;omega
theorem ChS.asked {w W:World} {vN vH:Value} {xs:List (Nat × Option Pl.Nd)} (h:ChS w W vN vH (zd1 xs) (zg6 xs)) (hx:xs≠[]):
  ∃gn cn gh ch,vN= .slice (some ⟨gn,0,none⟩) xs.length cn∧vH= .slice (some ⟨gh,0,none⟩) xs.length ch∧gn<W.heap.size∧gh<W.heap.size∧
   (∀ (i:Nat) x,xs[i]? =some x→W.cell? ⟨gh,i,none⟩=some (.bool x.2.isSome))∧
   (∀ (i k:Nat) n,xs[i]? =some (k,some n)→W.cell? ⟨gn,i*5,none⟩=some (.string n.path)∧W.cell? ⟨gn,i*5+1,none⟩=some (.int .i64 n.kind)∧W.cell? ⟨gn,i*5+2,none⟩=some (.string n.data)∧W.cell? ⟨gn,i*5+3,none⟩=some (.int .i64 n.time)∧W.cell? ⟨gn,i*5+4,none⟩=some (.int .i64 n.mark)):=by
 have hp:=List.length_pos_iff.2 hx;have e1:(zd1 xs).length=xs.length:=by simp [zd1]
 have e2:(zg6 xs).length=xs.length:=by simp [zg6]
 have hn:=h.nodes;have hh:=h.has;unfold Mem.ownN at hn;rw [e1] at hn;rw [e2] at hh
 rcases hn.2 with ⟨_,h0⟩|⟨gn,cn,curN,hvN, -,hgN, -⟩
 ·omega
 rcases hh.2 with ⟨_,h0⟩|⟨gh,ch,curH,hvH, -,hgH, -⟩
 ·omega
 subst hvN hvH;refine ⟨gn,cn,gh,ch,rfl,rfl,(Array.getElem?_eq_some_iff.1 hgN).1,(Array.getElem?_eq_some_iff.1 hgH).1,fun i x hi=>?_,fun i k n hi=>?_⟩
 ·have :=hh.cells (g:=gh) rfl i (.bool x.2.isSome) (by simp [zo4,zg6,hi]);rw [Mem.add_lit] at this;exact this
 ·have hg:(zd1 xs)[i]? =some n:=by simp [zd1,hi]
  have c:∀j,j<5→W.cell? ⟨gn,i*5+j,none⟩=n.cs[j]?:=fun j hj=>by
   have h1:=Pl.zx1 _ i n hg j hj;have h2:∃u,n.cs[j]? =some u:=⟨_,List.getElem?_eq_getElem (by show j<5;exact hj)⟩;obtain ⟨u,hu⟩:=h2;have :=hn.cells (g:=gn) rfl (i*5+j) u (by rw [h1,hu]);rw [Mem.add_lit] at this;rw [this,hu]
  exact ⟨c 0 (by omega),c 1 (by omega),c 2 (by omega),c 3 (by omega),c 4 (by omega)⟩
theorem ChS.new (w:World):ChS w ((w.alloc (.cells #[] 42)).alloc (.cells #[] 4)) (.slice (some ⟨w.heap.size,0,none⟩) 0 0) (.slice (some ⟨w.heap.size+1,0,none⟩) 0 0) [] []:=by
 refine ⟨((Below.refl _ _).alloc (Nat.le_refl _) _).alloc (by simp) _,⟨rfl, .inr ⟨w.heap.size,0,#[],rfl,Nat.le_refl _,?_,Nat.le_refl _,Nat.zero_le _,rfl,rfl⟩⟩,⟨rfl, .inr ⟨w.heap.size+1,0,#[],rfl,Nat.le_succ _,?_,Nat.le_refl _,Nat.zero_le _,rfl,rfl⟩⟩,fun g h1 h2=>by have e1:w.heap.size=g:=Option.some.inj h1;have e2:w.heap.size+1=g:=Option.some.inj h2;omega⟩
 ·exact Mem.Blk.alloc (cs:=#[]) (T:=42) (Mem.Blk.new w _ _) _
 ·exact Mem.zi9 w _ _
end zf3
namespace Pl
theorem atF_last {fs:List Fq} {ks:List Nat} {L:List ByteArray} {j:Nat} {o:Ot} (hj:j+1=L.length) (ho:zc7 fs ks (glue (L.take (j+1)))=o):atF fs ks ((ways L L.length).drop j)=if o.ok=true then o else zg9:=by
 have h1:=List.getElem?_eq_some_iff.1 (way_get (L:=L) (j:=j) (by omega));rw [List.drop_eq_getElem_cons h1.1,h1.2,List.drop_eq_nil_of_le (by rw [zi0];omega),atF,ho]
theorem atF_more {fs:List Fq} {ks:List Nat} {L:List ByteArray} {j:Nat} {o:Ot} (hj:j+1<L.length) (ho:zc7 fs ks (glue (L.take (j+1)))=o):atF fs ks ((ways L L.length).drop j)=if o.ok=true∧o.node.kind=1 then atF fs o.parts ((ways L L.length).drop (j+1)) else zg9:=by
 have h1:=List.getElem?_eq_some_iff.1 (way_get (L:=L) (j:=j) (by omega));have h2:=List.getElem?_eq_some_iff.1 (way_get (L:=L) (j:=j+1) (by omega));rw [List.drop_eq_getElem_cons h1.1,h1.2,List.drop_eq_getElem_cons h2.1,h2.2,atF,ho]
theorem starts_kid {Is:List It}:∀ (K:Fx) (p i:Nat) (L:List Nd) (k:Fx) (R:List (Int × List Nd)),kid K i=some (L,k)→(Is.drop p).map It.r=K.flat++R→∃pk,(starts K p)[i]? =some pk∧∃R',(Is.drop pk).map It.r=(Fx.cons L k .nil).flat++R':=by
 intro K
 induction K with
 |nil=>intro p i L k R h;cases h
 |cons L' k' m _ ih=>
  intro p i L k R h hd;obtain ⟨x,h1,h2,h3,h4⟩:=zn8.zo hd;cases i with
  |zero=>
   cases h
   refine ⟨p,rfl,m.flat++R,?_⟩;rw [hd];simp [Fx.flat]
  |succ i=>
   obtain ⟨pk,e1,e2⟩:=ih (p+1+k'.sz) i L k R h (zn8.drop_more h4);exact ⟨pk,by rw [starts,List.getElem?_cons_succ];exact e1,e2⟩
end Pl
end Go.Proofs.YtpggbphcbcogdaaGreatDoor
