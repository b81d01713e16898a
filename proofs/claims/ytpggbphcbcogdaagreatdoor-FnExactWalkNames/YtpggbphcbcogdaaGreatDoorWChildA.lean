import Derived.Test.YtpggbphcbcogdaaGreatDoorMemOwnN
import Derived.Test.YtpggbphcbcogdaaGreatDoorWPickA
import Derived.Deep.Cut
import Derived.Lib.OthersKept
import Derived.Laws.RangeAny
import Derived.Deep.Draws
import Derived.Deep.QuietTactic
import Derived.BigQuiet
namespace Go.Proofs.YtpggbphcbcogdaaGreatDoor
open Go.RowKit
namespace zf3
theorem sz_alloc (w:World) (o:Obj):(w.alloc o).heap.size=w.heap.size+1:=by simp
def zo4 (H:List Bool):List Value:=H.map Value.bool
theorem infoB:(Tryz.prog.info? 4).map (fun i=>(i.zero,i.size,i.bytes))=some (some (.bool false),1,1):=by kernel_rfl
theorem infoN:(Tryz.prog.info? 42).map (fun i=>(i.zero,i.size,i.bytes))=some (some (.agg #[.string ⟨#[]⟩, .int .i64 0, .string ⟨#[]⟩, .int .i64 0, .int .i64 0]),5,56):=by kernel_rfl
theorem ze7 {w w':World} {B e size n:Nat} {v:Value} {xs:List Value} (h:w.ownsRow B e size v n xs) (b:Below w.heap.size w w'):w'.ownsRow B e size v n xs:=by
 refine ⟨h.1,?_⟩
 rcases h.2 with h0|⟨g,cap,cur,hv,hb,hg,rest⟩
 ·exact .inl h0
 ·exact .inr ⟨g,cap,cur,hv,hb,(b.block g (Array.getElem?_eq_some_iff.1 hg).1).trans hg,rest⟩
theorem zq0 {w w':World} {B e size n:Nat} {v:Value} {xs:List Value} {r:Option Nat} (h:w.ownsRow B e size v n xs) (hg:w.grownBy w' r) (hr:∀g,v.ownBlock=some g→some g≠r):w'.ownsRow B e size v n xs:=by
 refine ⟨h.1,?_⟩
 rcases h.2 with h0|⟨g,cap,cur,rfl,hb,hh,rest⟩
 ·exact .inl h0
 ·exact .inr ⟨g,cap,cur,rfl,hb,(hg.block g (Array.getElem?_eq_some_iff.1 hh).1 (hr g rfl)).trans hh,rest⟩
structure ChP (w W:World) (vN vH:Value) (N:List Pl.Nd) (H:List Bool):Prop where
 bel:Below w.heap.size w W
 res:Mem.Blk W w.heap.size (za5 ⟨false,Pl.za3,[]⟩ (.slice none 0 0)).toArray 75
 nodes:Mem.ownN W (w.heap.size+1) vN N
 has:W.ownsRow (w.heap.size+1) 4 1 vH H.length (zo4 H)
 apart:∀g,vN.ownBlock=some g→vH.ownBlock≠some g
theorem ChP.call {w W W':World} {vN vH:Value} {N:List Pl.Nd} {H:List Bool} (h:ChP w W vN vH N H) (b:Below W.heap.size W W'):ChP w W' vN vH N H:=
 ⟨h.bel.trans (b.mono h.bel.size),h.res.call b,ze7 h.nodes b,ze7 h.has b,h.apart⟩
theorem ChP.moreN {w W W':World} {vN vH v':Value} {N:List Pl.Nd} {H:List Bool} {n:Pl.Nd} (h:ChP w W vN vH N H) (own:W'.ownsRow (w.heap.size+1) 42 5 v' (N.length+1) (Pl.zg7 N++n.cs)) (g:W.grownBy W' vN.ownBlock)
  (far:∀g,v'.ownBlock=some g→vN.ownBlock=some g∨W.heap.size≤g):ChP w W' v' vH (N++[n]) H:=by
 have hlt:∀q,vN.ownBlock=some q→w.heap.size+1≤q:=fun q hq=>(World.ownsRow.lt h.nodes q hq).1;refine ⟨h.bel.grown g h.bel.size (fun q hq=>by have :=hlt q hq;omega),h.res.grown g (fun e=>by have :=hlt _ e.symm;omega),Mem.ownN_snoc own,zq0 h.has g (fun q hq e=>h.apart q e.symm hq),fun q hq e=>?_⟩
 rcases far q hq with h1|h1
 ·exact h.apart q h1 e
 ·have :=(World.ownsRow.lt h.has q e).2;omega
theorem ChP.moreH {w W W':World} {vN vH v':Value} {N:List Pl.Nd} {H:List Bool} {x:Bool} (h:ChP w W vN vH N H) (own:W'.ownsRow (w.heap.size+1) 4 1 v' (H.length+1) (zo4 H++[.bool x])) (g:W.grownBy W' vH.ownBlock)
  (far:∀g,v'.ownBlock=some g→vH.ownBlock=some g∨W.heap.size≤g):ChP w W' vN v' N (H++[x]):=by
 have hlt:∀q,vH.ownBlock=some q→w.heap.size+1≤q:=fun q hq=>(World.ownsRow.lt h.has q hq).1;refine ⟨h.bel.grown g h.bel.size (fun q hq=>by have :=hlt q hq;omega),h.res.grown g (fun e=>by have :=hlt _ e.symm;omega),zq0 h.nodes g (fun q hq e=>h.apart q hq e.symm),?_,fun q hq e=>?_⟩
 ·unfold zo4;rw [List.map_append,List.length_append];exact own
 ·rcases far q e with h1|h1
  ·exact h.apart q hq h1
  ·have :=(World.ownsRow.lt h.nodes q hq).2;omega
def zd1 (xs:List (Nat × Option Pl.Nd)):List Pl.Nd:=xs.map (fun x=>x.2.getD Pl.za3)
def zg6 (xs:List (Nat × Option Pl.Nd)):List Bool:=xs.map (fun x=>x.2.isSome)
theorem take_more {α β:Type} (f:α→β) {xs:List α} {j:Nat} {x:α} (h:xs[j]? =some x):(xs.take (j+1)).map f=(xs.take j).map f++[f x]:=by
 have h1:=List.getElem?_eq_some_iff.1 h;rw [List.take_succ_eq_append_getElem h1.1,List.map_append,h1.2];rfl
theorem ChP.asked {w W:World} {vN vH:Value} {xs:List (Nat × Option Pl.Nd)} (h:ChP w W vN vH (zd1 xs) (zg6 xs)) (hx:xs≠[]):
  ∃gn cn gh ch,vN= .slice (some ⟨gn,0,none⟩) xs.length cn∧vH= .slice (some ⟨gh,0,none⟩) xs.length ch∧gn<W.heap.size∧gh<W.heap.size∧
   (∀ (i:Nat) x,xs[i]? =some x→W.cell? ⟨gh,i,none⟩=some (.bool x.2.isSome))∧
   (∀ (i k:Nat) n,xs[i]? =some (k,some n)→W.cell? ⟨gn,i*5,none⟩=some (.string n.path)∧W.cell? ⟨gn,i*5+1,none⟩=some (.int .i64 n.kind)∧W.cell? ⟨gn,i*5+2,none⟩=some (.string n.data)∧W.cell? ⟨gn,i*5+3,none⟩=some (.int .i64 n.time)∧W.cell? ⟨gn,i*5+4,none⟩=some (.int .i64 n.mark)):=by
 have hp:=List.length_pos_iff.2 hx;have e1:(zd1 xs).length=xs.length:=by simp [zd1]
 have e2:(zg6 xs).length=xs.length:=by simp [zg6]
 have hn:=h.nodes;have hh:=h.has;unfold Mem.ownN at hn;rw [e1] at hn;rw [e2] at hh
 rcases hn.2 with ⟨_,h0⟩|⟨gn,cn,curN,hvN, -,hgN, -⟩
 ·omega
 rcases hh.2 with ⟨_,h0⟩|⟨gh,ch,curH,hvH, -,hgH, -⟩
 ·omega
 subst hvN hvH;refine ⟨gn,cn,gh,ch,rfl,rfl,(Array.getElem?_eq_some_iff.1 hgN).1,(Array.getElem?_eq_some_iff.1 hgH).1,fun i x hi=>?_,fun i k n hi=>?_⟩
 ·have :=hh.cells (g:=gh) rfl i (.bool x.2.isSome) (by simp [zo4,zg6,hi]);rw [Mem.add_lit] at this;exact this
 ·have hg:(zd1 xs)[i]? =some n:=by simp [zd1,hi]
  have c:∀j,j<5→W.cell? ⟨gn,i*5+j,none⟩=n.cs[j]?:=fun j hj=>by
   have h1:=Pl.zx1 _ i n hg j hj;have h2:∃u,n.cs[j]? =some u:=⟨_,List.getElem?_eq_getElem (by show j<5;exact hj)⟩;obtain ⟨u,hu⟩:=h2;have :=hn.cells (g:=gn) rfl (i*5+j) u (by rw [h1,hu]);rw [Mem.add_lit] at this;rw [this,hu]
  exact ⟨c 0 (by omega),c 1 (by omega),c 2 (by omega),c 3 (by omega),c 4 (by omega)⟩
theorem ret7 {w W:World} {v:Value} {ks:List Nat} {cs:List Value} (hb:Below w.heap.size w W) (hr:Mem.Blk W w.heap.size cs.toArray 75) (hc:cs.length=7) (ho:ownI W (w.heap.size+1) v ks) (x:Bool) (p:ByteArray) (k:Int) (d:ByteArray) (t m:Int) (u:Value):
  Mem.Blk (((((((W.setCell ⟨w.heap.size,0,none⟩ (.bool x)).setCell ⟨w.heap.size,1,none⟩ (.string p)).setCell ⟨w.heap.size,2,none⟩ (.int .i64 k)).setCell ⟨w.heap.size,3,none⟩ (.string d)).setCell ⟨w.heap.size,4,none⟩ (.int .i64 t)).setCell ⟨w.heap.size,5,none⟩ (.int .i64 m)).setCell ⟨w.heap.size,6,none⟩ u) w.heap.size #[.bool x, .string p, .int .i64 k, .string d, .int .i64 t, .int .i64 m,u] 75∧
  Below w.heap.size w (((((((W.setCell ⟨w.heap.size,0,none⟩ (.bool x)).setCell ⟨w.heap.size,1,none⟩ (.string p)).setCell ⟨w.heap.size,2,none⟩ (.int .i64 k)).setCell ⟨w.heap.size,3,none⟩ (.string d)).setCell ⟨w.heap.size,4,none⟩ (.int .i64 t)).setCell ⟨w.heap.size,5,none⟩ (.int .i64 m)).setCell ⟨w.heap.size,6,none⟩ u)∧
  ownI (((((((W.setCell ⟨w.heap.size,0,none⟩ (.bool x)).setCell ⟨w.heap.size,1,none⟩ (.string p)).setCell ⟨w.heap.size,2,none⟩ (.int .i64 k)).setCell ⟨w.heap.size,3,none⟩ (.string d)).setCell ⟨w.heap.size,4,none⟩ (.int .i64 t)).setCell ⟨w.heap.size,5,none⟩ (.int .i64 m)).setCell ⟨w.heap.size,6,none⟩ u) w.heap.size v ks:=by
 have hr':w.heap.size<w.heap.size+1:=by omega
 refine ⟨?_,((((((hb.setCell (p:=⟨w.heap.size,0,none⟩) (Nat.le_refl _) _).setCell (p:=⟨w.heap.size,1,none⟩) (Nat.le_refl _) _).setCell (p:=⟨w.heap.size,2,none⟩) (Nat.le_refl _) _).setCell (p:=⟨w.heap.size,3,none⟩) (Nat.le_refl _) _).setCell (p:=⟨w.heap.size,4,none⟩) (Nat.le_refl _) _).setCell (p:=⟨w.heap.size,5,none⟩) (Nat.le_refl _) _).setCell (p:=⟨w.heap.size,6,none⟩) (Nat.le_refl _) _,?_⟩
 ·match cs,hc,hr with
  | [c0,c1,c2,c3,c4,c5,c6],_,hr=>
   have h2:=((((((hr.put 0 (.bool x)).put 1 (.string p)).put 2 (.int .i64 k)).put 3 (.string d)).put 4 (.int .i64 t)).put 5 (.int .i64 m)).put 6 u;simp only [List.setIfInBounds_toArray] at h2;exact h2
 ·exact zq4 (zd9 (zd9 (zd9 (zd9 (zd9 (zd9 (zd9 ho _ _ hr') _ _ hr') _ _ hr') _ _ hr') _ _ hr') _ _ hr') _ _ hr') (by omega)
end zf3
end Go.Proofs.YtpggbphcbcogdaaGreatDoor
