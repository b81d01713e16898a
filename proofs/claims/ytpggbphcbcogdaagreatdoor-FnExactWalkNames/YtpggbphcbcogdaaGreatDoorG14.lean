/- Several texts of one claim in one file: WAllS, TakeB, MemAppend, WMaxS, WPickA. -/
import Derived.Test.YtpggbphcbcogdaaGreatDoorG13
namespace Go.Proofs.YtpggbphcbcogdaaGreatDoor
section
open Go.RowKit
namespace zf3
set_option linter.unusedSimpArgs false in
set_option maxRecDepth 100000 in
set_option maxHeartbeats 1000000 in
theorem all_any (n:Nat) (w:World) (hn:n≤4):
  Calls Tryz.prog 48 #[.int .i64 (n:Int)] w fun e w'=>∃v,e= .returned v∧ownI w' w.heap.size v (List.range n)∧Below w.heap.size w w':=by
 obtain ⟨i0,hi,hz0,hz1,hz2⟩:=info_parts infoI;have A0:Hid (Below w.heap.size w (w.alloc (.cells #[] 3))∧ownI (w.alloc (.cells #[] 3)) w.heap.size (.slice (some ⟨w.heap.size,0,none⟩) 0 0) (List.range 0)):=⟨bE0,⟨rfl, .inr ⟨w.heap.size,0,#[],rfl,Nat.le_refl _,heap_alloc_new _ _,Nat.le_refl _,Nat.zero_le _,rfl,rfl⟩⟩⟩;go_enter Tryz.func48,Tryz.ntmps48
 go_wp2
 go_loopw [3,4] (fun v i wr=>∃k:Nat,k≤n∧i= .int .i64 (k:Int)∧Hid (Below w.heap.size w wr∧ownI wr w.heap.size v (List.range k))) (fun _ i _=>n - (intOf i).toNat)
 case atStart=>exact ⟨0,Nat.zero_le _,rfl,A0⟩
 case round=>
  obtain ⟨k,hk,rfl,HA⟩:=hrel;clear A0;by_cases hlt:k<n
  ·have y1:(k:Int)<(n:Int):=by omega
   have bA:Below wr.heap.size wr (wr.alloc (.cells #[.int .i64 (k:Int)] 3)):=bE0;have HR:=hide (zo6 (za HA).2 bA);have HQ:=hide (fun w2 h2=>Mem.ze0 (o:= .cells #[.int .i64 (k:Int)] 3) (w1:=w2) (za HA).1 (Nat.le_refl _) (za HA).2 h2);have HSB:=hide (za HA).1.size;unfold ownI at HR;rw [List.length_range] at HR;clear HA bA;go_wp2_with (at_builtin;refine wpList_append_own _ rfl _ _ 73 rfl w.heap.size 3 i0 (.int .i64 0) 1 8 Tryz.underlying73 hi hz0 hz1 hz2 rfl (by decide) _ _ _ rfl (za HR) ⟨wr.heap.size,0,none⟩ 1 1 [.int .i64 (k:Int)] rfl rfl (Mem.zd0 _ _ _) (fun u hu=>by simp at hu;subst hu;rfl) (by unfold maxLen;omega) (by omega) (by have :=za HSB;simp;omega) ?_)
   intro v' w2 own' hgrow _;have A2:Hid (Below w.heap.size w w2∧ownI w2 w.heap.size v' (List.range (k+1))):=⟨za HQ w2 hgrow,by rw [List.range_succ];exact zu9 (by rw [List.length_range];exact own')⟩;clear HR HQ own' hgrow HSB;go_wp2
   go_roundw
   case rel=>exact ⟨k+1,by omega,by go_num,A2⟩
   case measure=>simp [intOf];omega
  ·obtain rfl:k=n:=by omega
   have y1:¬ ((k:Int)<(k:Int)):=by omega
   go_wp2
   go_ret
   exact ⟨_,rfl,(za HA).2,(za HA).1⟩
end zf3
end
section
open Go.RowKit
theorem TB {P:Program} {md:Region.Mode} {ops:Array Oper} {Q:Exit→Act→World→Prop} {S:World→Prop} {oi:Oper} {v:Value} {fuel:Nat} {listed l2:Array Bool} {a a2:Act} {w:World} (i:Nat)
  (h:wpAnyH P md ops Q S fuel l2 a2 w) (hi:ops[i]? =some oi:=by exact rfl)
  (hs:Region.noSelect ops=true:=by kernel_rfl) (hf:Region.free md ops listed i=true:=by kernel_rfl) (hr:(Region.ready md ops listed).contains i=true:=by kernel_rfl)
  (hw:Region.wanted oi (yielded ops a.tmps)=true:=by first |kernel_rfl|rfl)
  (hy:∀w,S w→(execOp a.eval oi).run P w= .ok (.value v) w:=by (intro w hSw;(try dsimp only at hSw);go_simp;(try with_reducible rfl)))
  (hl:listed.setIfInBounds i true=l2:=by ((try simp only [kBs]);exact rfl)) (hp:a.put oi.dst v=a2:=by ((try simp only [Act.put,kBs]);exact rfl))
  (hQ:∀c a w,Q (.panic c) (a.put oi.dst v) w→Q (.panic c) a w:=by first |exact fun _ _ _ h=>h|exact fun _ _ _ h=>nomatch h.1) (hS:S w:=by assumption):wpAnyH P md ops Q S (fuel+1) listed a w:=by
 subst hl;subst hp;exact wpAnyH_take hi hs hf hr hQ (Or.inl ⟨hw,hy⟩) hS h
theorem TC {P:Program} {md:Region.Mode} {ops:Array Oper} {Q:Exit→Act→World→Prop} {S:World→Prop} {oi:Oper} {fuel:Nat} {listed l2:Array Bool} {a a2:Act} {w:World} (i:Nat)
  (h:wpAnyH P md ops Q S fuel l2 a2 w) (hi:ops[i]? =some oi:=by exact rfl)
  (hs:Region.noSelect ops=true:=by kernel_rfl) (hf:Region.free md ops listed i=true:=by kernel_rfl) (hr:(Region.ready md ops listed).contains i=true:=by kernel_rfl)
  (hw:Region.wanted oi (yielded ops a.tmps)=false:=by first |kernel_rfl|rfl)
  (hl:listed.setIfInBounds i true=l2:=by ((try simp only [kBs]);exact rfl)) (hp:a.put oi.dst undef=a2:=by ((try simp only [Act.put,kBs]);exact rfl))
  (hQ:∀c a w,Q (.panic c) (a.put oi.dst undef) w→Q (.panic c) a w:=by first |exact fun _ _ _ h=>h|exact fun _ _ _ h=>nomatch h.1) (hS:S w:=by assumption):wpAnyH P md ops Q S (fuel+1) listed a w:=by
 subst hl;subst hp;exact wpAnyH_take hi hs hf hr hQ (Or.inr ⟨hw,rfl⟩) hS h
theorem bD {n:Nat} (w:World):Below n w w.drew:=⟨rfl,rfl,rfl,Nat.le_refl _,fun _ _=>rfl⟩
theorem RN {P:Program} {md:Region.Mode} {ops:Array Oper} {Q:Exit→Act→World→Prop} {S:World→Prop} {o:Oper} {fuel:Nat} {listed:Array Bool} {a:Act} {w:World} (i:Nat)
  (h:∀K':Act→World→Prop,Shut (∀a w,S w→(S w→wpAnyH P md ops Q S fuel (listed.setIfInBounds i true) a w)→K' a w)→if Region.wanted o (yielded ops a.tmps)=true then Oper.wp P o a w K' Q else K' (a.put o.dst undef) w)
  (ho:ops[i]? =some o:=by exact rfl) (hr:Region.ready md ops listed=[i]:=by kernel_rfl):wpAnyH P md ops Q S (fuel+1) listed a w:=
 wpAnyH_ready hr (by simp) (AllReadyH.cons ho h AllReadyH.nil)
theorem RG {P:Program} {ops:Array Oper} {Q:Exit→Act→World→Prop} {S:World→Prop} {id B:Nat} {a:Act} {w w0:World} (MK:Hid (∀W',Below B w0 W'→S W')) (b:Below B w0 w.drew)
  (h:S w.drew→wpAnyH P .any ops Q S ops.size (Array.replicate ops.size false) a w.drew) (hm:P.follows .mixedOrders=true:=by kernel_rfl):(Code.region id ops true).wp P Q a w:=
 wp_region_held_drew hm (MK _ b) h
end
section
open Go.RowKit
namespace Mem
theorem zj2 {P:Program} {ops:Array Oper} {o:Oper} {a:Act} {w:World} {K:Act→World→Prop} {Q:Exit→Act→World→Prop} {E:Prop}
  (hg:o.guard=none) (s x:Operand) (t:TypeId) (hop:o.op=Op.call { callee:=Callee.builtin Builtin.append,args:=#[s,x],argTypes:=#[t,t] })
  (base:Nat) (e:TypeId) (i:TypeInfo) (z:Value) (size bytes:Nat) (h1:P.underlying t=some (.slice e)) (h2:P.info? e=some i) (h3:i.zero=some z) (h4:i.size=size) (h5:i.bytes=bytes) (h6:z.cells.size=size) (h7:0<size)
  (v:Value) (n:Nat) (xs:List Value) (hs:a.eval s=v) (hown:w.ownsRow base e size v n xs)
  (ad:Addr) (m c:Nat) (news:List Value) (hx:a.eval x= .slice (some ad) m c) (hn:news.length=m*size) (hc:∀j u,news[j]? =some u→w.cell? (ad.add j)=some u) (h1c:∀u∈news,u.oneCell'=true)
  (b1:n+m≤maxLen) (b2:(n+m)*bytes≤140737488355328) (hbase:base≤w.heap.size)
  (hK:∀v' w',w'.ownsRow base e size v' (n+m) (xs++news)→w.grownBy w' v.ownBlock→K (a.put o.dst v') w'):
  if Region.wanted o (yielded ops a.tmps)=true then Oper.wp P o a w K Q else E:=by
 have hw:Region.wanted o (yielded ops a.tmps)=true:=by simp [Region.wanted,hg]
 rw [if_pos hw];obtain ⟨v',w',hrun,r1,r2,_⟩:=run_append_own (P:=P) w base t o.type e i z size bytes h1 h2 h3 h4 h5 h6 h7 v n xs hown ad m c news hn hc h1c b1 b2 hbase;unfold Oper.wp;simp [execOp,hop,resolve,invoke,builtin,hs,hx,hrun,Result.andThen]
 exact hK v' w' r1 r2
end Mem
end
section
open Go.RowKit
namespace zf3
set_option maxRecDepth 100000 in
theorem zk4 (x y:Int) (w:World):Calls Tryz.prog 68 #[.int .i64 x, .int .i64 y] w fun e w'=>e= .returned (.int .i64 (max x y))∧w'=w:=by
 by_cases h:y<x
 ·go_enter Tryz.func68,Tryz.ntmps68
  go_wp2
  go_ret
  exact ⟨by rw [show max x y=x by omega];rfl,rfl⟩
 ·go_enter Tryz.func68,Tryz.ntmps68
  go_wp2
  go_ret
  exact ⟨by rw [show max x y=y by omega];rfl,rfl⟩
end zf3
end
section
open Go.RowKit
namespace zf3
def za5 (o:Pl.Ot) (v:Value):List Value:=[.bool o.ok, .string o.node.path, .int .i64 o.node.kind, .string o.node.data, .int .i64 o.node.time, .int .i64 o.node.mark,v]
structure AtP (w W:World) (o:Pl.Ot) (v:Value):Prop where
 bel:Below w.heap.size w W
 res:Mem.Blk W w.heap.size (za5 ⟨false,Pl.za3,[]⟩ (.slice none 0 0)).toArray 75
 out:Mem.Blk W (w.heap.size+1) (za5 o v).toArray 75
 own:ownI W (w.heap.size+2) v o.parts
theorem AtP.call {w W W':World} {o:Pl.Ot} {v:Value} (h:AtP w W o v) (b:Below W.heap.size W W'):AtP w W' o v:=⟨h.bel.trans (b.mono h.bel.size),h.res.call b,h.out.call b,zo6 h.own b⟩
theorem AtP.alloc {w W:World} {o:Pl.Ot} {v:Value} (h:AtP w W o v) (x:Obj):AtP w (W.alloc x) o v:=h.call ((Below.refl _ _).alloc (Nat.le_refl _) x)
theorem zd9 {w:World} {B:Nat} {v:Value} {ks:List Nat} (h:ownI w B v ks) (a:Addr) (u:Value) (ha:a.block<B):ownI (w.setCell a u) B v ks:=by
 refine ⟨h.1,?_⟩
 rcases h.2 with h0|⟨g,cap,cur,hv,hb,hg,rest⟩
 ·exact .inl h0
 ·exact .inr ⟨g,cap,cur,hv,hb,(heap_setCell_other w a g u (by omega)).trans hg,rest⟩
theorem zq4 {w:World} {B B':Nat} {v:Value} {ks:List Nat} (h:ownI w B v ks) (hb:B'≤B):ownI w B' v ks:=by
 refine ⟨h.1,?_⟩
 rcases h.2 with h0|⟨g,cap,cur,hv,hb2,rest⟩
 ·exact .inl h0
 ·exact .inr ⟨g,cap,cur,hv,Nat.le_trans hb hb2,rest⟩
theorem zl7 {w:World} {B:Nat} {v:Value} {ks:List Nat} (h:ownI w B v ks):∃a cap,v= .slice a ks.length cap:=Mem.zh8 h
theorem AtP.put {w W:World} {o o':Pl.Ot} {v:Value} (h:AtP w W o v) (k:Nat) (u:Value) (e:(za5 o v).set k u=za5 o' v) (hp:o'.parts=o.parts):AtP w (W.setCell ⟨w.heap.size+1,k,none⟩ u) o' v:=by
 refine ⟨h.bel.setCell (by show w.heap.size≤w.heap.size+1;omega) _,h.res.far _ _ (by show w.heap.size≠w.heap.size+1;omega),?_,?_⟩
 ·have h2:=h.out.put k u;rw [List.setIfInBounds_toArray,e] at h2;exact h2
 ·rw [hp];exact zd9 h.own _ _ (by show w.heap.size+1<w.heap.size+2;omega)
theorem AtP.ok {w W:World} {o:Pl.Ot} {v:Value} (h:AtP w W o v) (x:Bool):AtP w (W.setCell ⟨w.heap.size+1,0,none⟩ (.bool x)) ⟨x,o.node,o.parts⟩ v:=h.put 0 _ rfl rfl
theorem AtP.mark {w W:World} {o:Pl.Ot} {v:Value} (h:AtP w W o v) (m:Int):AtP w (W.setCell ⟨w.heap.size+1,5,none⟩ (.int .i64 m)) ⟨o.ok,⟨o.node.path,o.node.kind,o.node.data,o.node.time,m⟩,o.parts⟩ v:=h.put 5 _ rfl rfl
theorem AtP.node {w W:World} {o:Pl.Ot} {v:Value} (h:AtP w W o v) (p:ByteArray) (k:Int) (d:ByteArray) (t m:Int):AtP w (((((W.setCell ⟨w.heap.size+1,1,none⟩ (.string p)).setCell ⟨w.heap.size+1,2,none⟩ (.int .i64 k)).setCell ⟨w.heap.size+1,3,none⟩ (.string d)).setCell ⟨w.heap.size+1,4,none⟩ (.int .i64 t)).setCell ⟨w.heap.size+1,5,none⟩ (.int .i64 m)) ⟨o.ok,⟨p,k,d,t,m⟩,o.parts⟩ v:=
 ((((h.put (o':=⟨o.ok,⟨p,o.node.kind,o.node.data,o.node.time,o.node.mark⟩,o.parts⟩) 1 _ rfl rfl).put (o':=⟨o.ok,⟨p,k,o.node.data,o.node.time,o.node.mark⟩,o.parts⟩) 2 _ rfl rfl).put (o':=⟨o.ok,⟨p,k,d,o.node.time,o.node.mark⟩,o.parts⟩) 3 _ rfl rfl).put (o':=⟨o.ok,⟨p,k,d,t,o.node.mark⟩,o.parts⟩) 4 _ rfl rfl).put 5 _ rfl rfl
theorem AtP.more {w W W':World} {o:Pl.Ot} {v v':Value} {k:Nat} (h:AtP w W o v) (own':W'.ownsRow (w.heap.size+2) 3 1 v' (o.parts.length+1) (intsV o.parts++[.int .i64 (k:Int)])) (g:W.grownBy W' v.ownBlock):AtP w (W'.setCell ⟨w.heap.size+1,6,none⟩ v') ⟨o.ok,o.node,o.parts++[k]⟩ v':=by
 have hlt:∀q,v.ownBlock=some q→w.heap.size+2≤q:=fun q hq=>(World.ownsRow.lt h.own q hq).1;refine ⟨(h.bel.grown g h.bel.size (fun q hq=>by have :=hlt q hq;omega)).setCell (by show w.heap.size≤w.heap.size+1;omega) _,(h.res.grown g (fun e=>by have :=hlt _ e.symm;omega)).far _ _ (by show w.heap.size≠w.heap.size+1;omega),?_,?_⟩
 ·have h2:=(h.out.grown g (fun e=>by have :=hlt _ e.symm;omega)).put 6 v';rw [List.setIfInBounds_toArray] at h2;exact h2
 ·exact zd9 (zu9 own') _ _ (by show w.heap.size+1<w.heap.size+2;omega)
theorem AtP.ret {w W:World} {o:Pl.Ot} {v:Value} (h:AtP w W o v) (x:Bool) (p:ByteArray) (k:Int) (d:ByteArray) (t m:Int) (u:Value):
  Mem.Blk (((((((W.setCell ⟨w.heap.size,0,none⟩ (.bool x)).setCell ⟨w.heap.size,1,none⟩ (.string p)).setCell ⟨w.heap.size,2,none⟩ (.int .i64 k)).setCell ⟨w.heap.size,3,none⟩ (.string d)).setCell ⟨w.heap.size,4,none⟩ (.int .i64 t)).setCell ⟨w.heap.size,5,none⟩ (.int .i64 m)).setCell ⟨w.heap.size,6,none⟩ u) w.heap.size #[.bool x, .string p, .int .i64 k, .string d, .int .i64 t, .int .i64 m,u] 75∧
  Below w.heap.size w (((((((W.setCell ⟨w.heap.size,0,none⟩ (.bool x)).setCell ⟨w.heap.size,1,none⟩ (.string p)).setCell ⟨w.heap.size,2,none⟩ (.int .i64 k)).setCell ⟨w.heap.size,3,none⟩ (.string d)).setCell ⟨w.heap.size,4,none⟩ (.int .i64 t)).setCell ⟨w.heap.size,5,none⟩ (.int .i64 m)).setCell ⟨w.heap.size,6,none⟩ u)∧
  ownI (((((((W.setCell ⟨w.heap.size,0,none⟩ (.bool x)).setCell ⟨w.heap.size,1,none⟩ (.string p)).setCell ⟨w.heap.size,2,none⟩ (.int .i64 k)).setCell ⟨w.heap.size,3,none⟩ (.string d)).setCell ⟨w.heap.size,4,none⟩ (.int .i64 t)).setCell ⟨w.heap.size,5,none⟩ (.int .i64 m)).setCell ⟨w.heap.size,6,none⟩ u) w.heap.size v o.parts:=by
 have hr:w.heap.size<w.heap.size+2:=by omega
 refine ⟨?_,((((((h.bel.setCell (p:=⟨w.heap.size,0,none⟩) (Nat.le_refl _) _).setCell (p:=⟨w.heap.size,1,none⟩) (Nat.le_refl _) _).setCell (p:=⟨w.heap.size,2,none⟩) (Nat.le_refl _) _).setCell (p:=⟨w.heap.size,3,none⟩) (Nat.le_refl _) _).setCell (p:=⟨w.heap.size,4,none⟩) (Nat.le_refl _) _).setCell (p:=⟨w.heap.size,5,none⟩) (Nat.le_refl _) _).setCell (p:=⟨w.heap.size,6,none⟩) (Nat.le_refl _) _,?_⟩
 ·have h2:=((((((h.res.put 0 (.bool x)).put 1 (.string p)).put 2 (.int .i64 k)).put 3 (.string d)).put 4 (.int .i64 t)).put 5 (.int .i64 m)).put 6 u;simp only [List.setIfInBounds_toArray] at h2;exact h2
 ·exact zq4 (zd9 (zd9 (zd9 (zd9 (zd9 (zd9 (zd9 h.own _ _ hr) _ _ hr) _ _ hr) _ _ hr) _ _ hr) _ _ hr) _ _ hr) (by omega)
end zf3
end
end Go.Proofs.YtpggbphcbcogdaaGreatDoor
