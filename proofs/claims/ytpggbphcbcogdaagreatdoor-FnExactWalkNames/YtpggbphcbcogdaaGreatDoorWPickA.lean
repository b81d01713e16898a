import Derived.Test.YtpggbphcbcogdaaGreatDoorPlainPick
import Derived.Test.YtpggbphcbcogdaaGreatDoorMemBlk
import Derived.Test.YtpggbphcbcogdaaGreatDoorWOwnI
namespace Go.Proofs.YtpggbphcbcogdaaGreatDoor
open Go.RowKit
namespace zf3
def za5 (o:Pl.Ot) (v:Value):List Value:=[.bool o.ok, .string o.node.path, .int .i64 o.node.kind, .string o.node.data, .int .i64 o.node.time, .int .i64 o.node.mark,v]
structure AtP (w W:World) (o:Pl.Ot) (v:Value):Prop where
 bel:Below w.heap.size w W
 res:Mem.Blk W w.heap.size (za5 ⟨false,Pl.za3,[]⟩ (.slice none 0 0)).toArray 75
 out:Mem.Blk W (w.heap.size+1) (za5 o v).toArray 75
 own:ownI W (w.heap.size+2) v o.parts
theorem AtP.call {w W W':World} {o:Pl.Ot} {v:Value} (h:AtP w W o v) (b:Below W.heap.size W W'):AtP w W' o v:=⟨h.bel.trans (b.mono h.bel.size),h.res.call b,h.out.call b,zo6 h.own b⟩
theorem AtP.alloc {w W:World} {o:Pl.Ot} {v:Value} (h:AtP w W o v) (x:Obj):AtP w (W.alloc x) o v:=h.call ((Below.refl _ _).alloc (Nat.le_refl _) x)
theorem zd9 {w:World} {B:Nat} {v:Value} {ks:List Nat} (h:ownI w B v ks) (a:Addr) (u:Value) (ha:a.block<B):ownI (w.setCell a u) B v ks:=by
 refine ⟨h.1,?_⟩
 rcases h.2 with h0|⟨g,cap,cur,hv,hb,hg,rest⟩
 ·exact .inl h0
 ·exact .inr ⟨g,cap,cur,hv,hb,(heap_setCell_other w a g u (by omega)).trans hg,rest⟩
theorem zq4 {w:World} {B B':Nat} {v:Value} {ks:List Nat} (h:ownI w B v ks) (hb:B'≤B):ownI w B' v ks:=by
 refine ⟨h.1,?_⟩
 rcases h.2 with h0|⟨g,cap,cur,hv,hb2,rest⟩
 ·exact .inl h0
 ·exact .inr ⟨g,cap,cur,hv,Nat.le_trans hb hb2,rest⟩
theorem zl7 {w:World} {B:Nat} {v:Value} {ks:List Nat} (h:ownI w B v ks):∃a cap,v= .slice a ks.length cap:=Mem.zh8 h
theorem AtP.put {w W:World} {o o':Pl.Ot} {v:Value} (h:AtP w W o v) (k:Nat) (u:Value) (e:(za5 o v).set k u=za5 o' v) (hp:o'.parts=o.parts):AtP w (W.setCell ⟨w.heap.size+1,k,none⟩ u) o' v:=by
 refine ⟨h.bel.setCell (by show w.heap.size≤w.heap.size+1;omega) _,h.res.far _ _ (by show w.heap.size≠w.heap.size+1;omega),?_,?_⟩
 ·have h2:=h.out.put k u;rw [List.setIfInBounds_toArray,e] at h2;exact h2
 ·rw [hp];exact zd9 h.own _ _ (by show w.heap.size+1<w.heap.size+2;omega)
theorem AtP.ok {w W:World} {o:Pl.Ot} {v:Value} (h:AtP w W o v) (x:Bool):AtP w (W.setCell ⟨w.heap.size+1,0,none⟩ (.bool x)) ⟨x,o.node,o.parts⟩ v:=h.put 0 _ rfl rfl
theorem AtP.mark {w W:World} {o:Pl.Ot} {v:Value} (h:AtP w W o v) (m:Int):AtP w (W.setCell ⟨w.heap.size+1,5,none⟩ (.int .i64 m)) ⟨o.ok,⟨o.node.path,o.node.kind,o.node.data,o.node.time,m⟩,o.parts⟩ v:=h.put 5 _ rfl rfl
theorem AtP.node {w W:World} {o:Pl.Ot} {v:Value} (h:AtP w W o v) (p:ByteArray) (k:Int) (d:ByteArray) (t m:Int):AtP w (((((W.setCell ⟨w.heap.size+1,1,none⟩ (.string p)).setCell ⟨w.heap.size+1,2,none⟩ (.int .i64 k)).setCell ⟨w.heap.size+1,3,none⟩ (.string d)).setCell ⟨w.heap.size+1,4,none⟩ (.int .i64 t)).setCell ⟨w.heap.size+1,5,none⟩ (.int .i64 m)) ⟨o.ok,⟨p,k,d,t,m⟩,o.parts⟩ v:=
 ((((h.put (o':=⟨o.ok,⟨p,o.node.kind,o.node.data,o.node.time,o.node.mark⟩,o.parts⟩) 1 _ rfl rfl).put (o':=⟨o.ok,⟨p,k,o.node.data,o.node.time,o.node.mark⟩,o.parts⟩) 2 _ rfl rfl).put (o':=⟨o.ok,⟨p,k,d,o.node.time,o.node.mark⟩,o.parts⟩) 3 _ rfl rfl).put (o':=⟨o.ok,⟨p,k,d,t,o.node.mark⟩,o.parts⟩) 4 _ rfl rfl).put 5 _ rfl rfl
theorem AtP.more {w W W':World} {o:Pl.Ot} {v v':Value} {k:Nat} (h:AtP w W o v) (own':W'.ownsRow (w.heap.size+2) 3 1 v' (o.parts.length+1) (intsV o.parts++[.int .i64 (k:Int)])) (g:W.grownBy W' v.ownBlock):AtP w (W'.setCell ⟨w.heap.size+1,6,none⟩ v') ⟨o.ok,o.node,o.parts++[k]⟩ v':=by
 have hlt:∀q,v.ownBlock=some q→w.heap.size+2≤q:=fun q hq=>(World.ownsRow.lt h.own q hq).1;refine ⟨(h.bel.grown g h.bel.size (fun q hq=>by have :=hlt q hq;omega)).setCell (by show w.heap.size≤w.heap.size+1;omega) _,(h.res.grown g (fun e=>by have :=hlt _ e.symm;omega)).far _ _ (by show w.heap.size≠w.heap.size+1;omega),?_,?_⟩
 ·have h2:=(h.out.grown g (fun e=>by have :=hlt _ e.symm;omega)).put 6 v';rw [List.setIfInBounds_toArray] at h2;exact h2
 ·exact zd9 (zu9 own') _ _ (by show w.heap.size+1<w.heap.size+2;omega)
theorem AtP.ret {w W:World} {o:Pl.Ot} {v:Value} (h:AtP w W o v) (x:Bool) (p:ByteArray) (k:Int) (d:ByteArray) (t m:Int) (u:Value):
  Mem.Blk (((((((W.setCell ⟨w.heap.size,0,none⟩ (.bool x)).setCell ⟨w.heap.size,1,none⟩ (.string p)).setCell ⟨w.heap.size,2,none⟩ (.int .i64 k)).setCell ⟨w.heap.size,3,none⟩ (.string d)).setCell ⟨w.heap.size,4,none⟩ (.int .i64 t)).setCell ⟨w.heap.size,5,none⟩ (.int .i64 m)).setCell ⟨w.heap.size,6,none⟩ u) w.heap.size #[.bool x, .string p, .int .i64 k, .string d, .int .i64 t, .int .i64 m,u] 75∧
  Below w.heap.size w (((((((W.setCell ⟨w.heap.size,0,none⟩ (.bool x)).setCell ⟨w.heap.size,1,none⟩ (.string p)).setCell ⟨w.heap.size,2,none⟩ (.int .i64 k)).setCell ⟨w.heap.size,3,none⟩ (.string d)).setCell ⟨w.heap.size,4,none⟩ (.int .i64 t)).setCell ⟨w.heap.size,5,none⟩ (.int .i64 m)).setCell ⟨w.heap.size,6,none⟩ u)∧
  ownI (((((((W.setCell ⟨w.heap.size,0,none⟩ (.bool x)).setCell ⟨w.heap.size,1,none⟩ (.string p)).setCell ⟨w.heap.size,2,none⟩ (.int .i64 k)).setCell ⟨w.heap.size,3,none⟩ (.string d)).setCell ⟨w.heap.size,4,none⟩ (.int .i64 t)).setCell ⟨w.heap.size,5,none⟩ (.int .i64 m)).setCell ⟨w.heap.size,6,none⟩ u) w.heap.size v o.parts:=by
 have hr:w.heap.size<w.heap.size+2:=by omega
 refine ⟨?_,((((((h.bel.setCell (p:=⟨w.heap.size,0,none⟩) (Nat.le_refl _) _).setCell (p:=⟨w.heap.size,1,none⟩) (Nat.le_refl _) _).setCell (p:=⟨w.heap.size,2,none⟩) (Nat.le_refl _) _).setCell (p:=⟨w.heap.size,3,none⟩) (Nat.le_refl _) _).setCell (p:=⟨w.heap.size,4,none⟩) (Nat.le_refl _) _).setCell (p:=⟨w.heap.size,5,none⟩) (Nat.le_refl _) _).setCell (p:=⟨w.heap.size,6,none⟩) (Nat.le_refl _) _,?_⟩
 ·have h2:=((((((h.res.put 0 (.bool x)).put 1 (.string p)).put 2 (.int .i64 k)).put 3 (.string d)).put 4 (.int .i64 t)).put 5 (.int .i64 m)).put 6 u;simp only [List.setIfInBounds_toArray] at h2;exact h2
 ·exact zq4 (zd9 (zd9 (zd9 (zd9 (zd9 (zd9 (zd9 h.own _ _ hr) _ _ hr) _ _ hr) _ _ hr) _ _ hr) _ _ hr) _ _ hr) (by omega)
end zf3
end Go.Proofs.YtpggbphcbcogdaaGreatDoor
