/- Several texts of one claim in one file: MemApp2, WJoinS, MemOwnN, WChildA, MemTexts. -/
import Derived.Test.YtpakookhgpphaaaDoorG06
import Derived.Test.YtpakookhgpphaaaDoorG00
import Derived.Test.YtpakookhgpphaaaDoorG01
import Derived.Test.YtpakookhgpphaaaDoorProg
import Derived.WalkSpells
import Derived.Laws.AppendOwn
import Derived.Test.YtpakookhgpphaaaDoorWPickA
import Derived.Deep.Cut
import Derived.Lib.OthersKept
import Derived.Laws.RangeAny
import Derived.Deep.Draws
import Derived.Deep.QuietTactic
import Derived.BigQuiet
import Derived.Below
import Derived.WalkKit
import Derived.Laws.IdiomStrings
namespace Go.Proofs.YtpakookhgpphaaaDoor
section
open Go.RowKit
namespace Mem
theorem zt8 {P:Program} (w:World) (base:Nat) (t ty e:TypeId) (i:TypeInfo) (z:Value) (size bytes:Nat) (ht:P.underlying t=some (.slice e)) (hi:P.info? e=some i) (hz:i.zero=some z)
  (hsize:i.size=size) (hby:i.bytes=bytes) (hzs:z.cells.size=size) (hsz:0<size)
  (v:Value) (n:Nat) (xs:List Value) (hown:w.ownsRow base e size v n xs)
  (a:Addr) (m c:Nat) (news:List Value) (hl:news.length=m*size) (hnews:∀j u,news[j]? =some u→w.cell? (a.add j)=some u) (h1:∀u∈news,u.oneCell'=true)
  (h63:n+m≤maxLen) (hbytes:(n+m)*bytes≤140737488355328) (hbase:base≤w.heap.size):
  ∃v' w',(Builtin.append_ #[t,t] ty #[v, .slice (some a) m c]).run P w= .ok v' w'∧w'.ownsRow base e size v' (n+m) (xs++news)∧w.grownBy w' v.ownBlock∧∀g,v'.ownBlock=some g→v.ownBlock=some g∨w.heap.size≤g:=by
 obtain ⟨v',w',hr,h2,h3, -⟩:=run_append_own (P:=P) w base t ty e i z size bytes ht hi hz hsize hby hzs hsz v n xs hown a m c news hl hnews h1 h63 hbytes hbase;refine ⟨v',w',hr,h2,h3,?_⟩
 rcases hown.2 with ⟨rfl,rfl⟩|⟨g,cap,cur,rfl,hbg,hg,hnc,hcm,hcs,htake⟩
 ·have hx:xs=[]:=List.eq_nil_of_length_eq_zero (by simpa using hown.1);subst hx;obtain ⟨v2,w2,hr2,k2, -, -⟩:=run_append_own (P:=P) w w.heap.size t ty e i z size bytes ht hi hz hsize hby hzs hsz _ 0 [] (World.ownsRow_nil w w.heap.size e size) a m c news hl hnews h1 h63 hbytes (Nat.le_refl _);rw [hr] at hr2;cases hr2
  exact fun g hg=> .inr (k2.lt g hg).1
 ·subst hsize hby
  by_cases hroom:n+m≤cap
  ·have hfit:n*i.size+news.length≤cur.size:=by rw [hl,hcs,←Nat.add_mul];exact Nat.mul_le_mul_right _ hroom
   rw [run_append_room (P:=P) w t ty e i ht hi g n cap cur hg a m c news hl hnews h1 hroom hfit] at hr;cases hr
   exact fun g hg=> .inl hg
  ·have holds:∀j u,xs[j]? =some u→w.cell? ((⟨g,0,none⟩:Addr).add j)=some u:=hown.cells (g:=g) rfl;have hsmall:n+m≤9223372036854775807:=by simp only [maxLen] at h63;omega
   rw [run_append_grow (P:=P) w t ty e i z ht hi hz ⟨g,0,none⟩ n cap xs hown.1 holds a m c news hl hnews (by omega) (by omega) (growslice_fits (by omega) hbytes)] at hr;cases hr
   intro g' hg';cases hg'
   exact .inr (Nat.le_refl _)
theorem zg1 {P:Program} (w:World) {ops:Array Oper} {rest:List Oper} {o:Oper} {a:Act} {Q:Exit→Act→World→Prop} (hgd:o.guard=none) (s x:Operand) (t:TypeId)
  (ho:o.op= .call { callee:= .builtin .append,args:=#[s,x],argTypes:=#[t,t] })
  (base:Nat) (e:TypeId) (i:TypeInfo) (z:Value) (size bytes:Nat) (ht:P.underlying t=some (.slice e)) (hi:P.info? e=some i) (hz:i.zero=some z)
  (hsize:i.size=size) (hby:i.bytes=bytes) (hzs:z.cells.size=size) (hsz:0<size)
  (v:Value) (n:Nat) (xs:List Value) (hs:a.eval s=v) (hown:w.ownsRow base e size v n xs)
  (ad:Addr) (m c:Nat) (news:List Value) (hx:a.eval x= .slice (some ad) m c) (hl:news.length=m*size) (hnews:∀j u,news[j]? =some u→w.cell? (ad.add j)=some u) (h1:∀u∈news,u.oneCell'=true)
  (h63:n+m≤maxLen) (hbytes:(n+m)*bytes≤140737488355328) (hbase:base≤w.heap.size)
  (h:∀v' w',w'.ownsRow base e size v' (n+m) (xs++news)→w.grownBy w' v.ownBlock→(∀g,v'.ownBlock=some g→v.ownBlock=some g∨w.heap.size≤g)→wpList P ops Q rest (a.put o.dst v') w'):wpList P ops Q (o::rest) a w:=
 wpList_plain hgd fun _ hK=>by
  obtain ⟨v',w',hr,h2,h3,h4⟩:=zt8 (P:=P) w base t o.type e i z size bytes ht hi hz hsize hby hzs hsz v n xs hown ad m c news hl hnews h1 h63 hbytes hbase;unfold Oper.wp execOp;simp only [ho,resolve,invoke,builtin,Sem.run_bind,Sem.run_pure,Result.andThen_ok,List.map_toArray,List.map_cons,List.map_nil,hs,hx,hr];exact hK _ _ (h v' w' h2 h3 h4)
end Mem
end
section
open Go.RowKit
namespace zi5
theorem join1_any (p n:ByteArray) (w:World) (hp:p.size≤1048576) (hq:n.size≤1048576):
  Calls Tryd.prog 42 #[.string p, .string n] w fun e w'=>e= .returned (.string (Pl.joinN p n))∧w'=w:=by
 by_cases h0:Pl.by_ p=[]
 ·have E:=hide (Pl.joinN_root (n:=n) h0);have d1:p.toList.isEmpty=true:=by rw [Pl.zd2];simp [h0]
  clear h0;go_enter Tryd.func42,Tryd.ntmps42
  go_wp2
  go_ret
  exact ⟨yb7 (za E).symm,rfl⟩
 ·have E:Hid (p++⟨#[47]⟩++n=Pl.joinN p n):=by
   show _=_
   apply Pl.zh4
   rw [Pl.joinN_two h0];simp [Pl.by_]
  have d1:p.toList.isEmpty=false:=by rw [Pl.zd2];simp [h0]
  clear h0;generalize Pl.joinN p n=R at E ⊢;go_enter Tryd.func42,Tryd.ntmps42
  go_wp2
  go_ret
  exact ⟨by rw [←za E];rfl,rfl⟩

end zi5
end
section
open Go.RowKit
namespace Pl
def Nd.cs (n:Nd):List Value:=[.string n.path, .int .i64 n.kind, .string n.data, .int .i64 n.time, .int .i64 n.mark]
def zd1 (L:List Nd):List Value:=L.flatMap Nd.cs
theorem cellsN_cons (n:Nd) (L:List Nd):zd1 (n::L)=n.cs++zd1 L:=by simp [zd1]
theorem yb1 (L M:List Nd):zd1 (L++M)=zd1 L++zd1 M:=by simp [zd1]
theorem zw1 (L:List Nd) (i:Nat) (n:Nd) (h:L[i]? =some n) (j:Nat) (hj:j<5):(zd1 L)[i*5+j]? =n.cs[j]?:=by
 induction L generalizing i with
 |nil=>simp at h
 |cons m L ih=>
  rw [cellsN_cons];have hl:m.cs.length=5:=rfl
  match i,h with
  |0,h=>
   simp at h;subst h
   rw [List.getElem?_append_left (by rw [hl];omega)];simp
  |i+1,h=>
   rw [List.getElem?_append_right (by rw [hl];omega),hl,show (i+1)*5+j - 5=i*5+j by omega];exact ih i (by simpa using h)
end Pl
namespace Mem
def ownN (w:World) (B:Nat) (v:Value) (L:List Pl.Nd):Prop:=w.ownsRow B 25 5 v L.length (Pl.zd1 L)
theorem cs_one (n:Pl.Nd):∀u∈n.cs,u.oneCell'=true:=by
 intro u hu;simp only [Pl.Nd.cs,List.mem_cons,List.not_mem_nil,or_false] at hu
 rcases hu with rfl |rfl |rfl |rfl |rfl <;> rfl
theorem cs_new (w:World) (n:Pl.Nd) (T:TypeId):∀j u,n.cs[j]? =some u→(w.alloc (.cells n.cs.toArray T)).cell? ((⟨w.heap.size,0,none⟩:Addr).add j)=some u:=by
 intro j u hj;rw [Mem.add_lit];exact (Mem.ze5 w n.cs T).2 j u hj
theorem ownN_snoc {w:World} {B:Nat} {v:Value} {L:List Pl.Nd} {n:Pl.Nd} (h:w.ownsRow B 25 5 v (L.length+1) (Pl.zd1 L++n.cs)):ownN w B v (L++[n]):=by
 unfold ownN;rw [Pl.yb1,List.length_append];have e:Pl.zd1 [n]=n.cs:=by simp [Pl.zd1]
 rw [e];exact h
end Mem
end
section
open Go.RowKit
namespace WPick
theorem sz_alloc (w:World) (o:Obj):(w.alloc o).heap.size=w.heap.size+1:=by simp
def boolsV (H:List Bool):List Value:=H.map Value.bool
theorem infoB:(Tryd.prog.info? 4).map (fun i=>(i.zero,i.size,i.bytes))=some (some (.bool false),1,1):=by kernel_rfl
theorem infoN:(Tryd.prog.info? 25).map (fun i=>(i.zero,i.size,i.bytes))=some (some (.agg #[.string ⟨#[]⟩, .int .i64 0, .string ⟨#[]⟩, .int .i64 0, .int .i64 0]),5,56):=by kernel_rfl
theorem row_call {w w':World} {B e size n:Nat} {v:Value} {xs:List Value} (h:w.ownsRow B e size v n xs) (b:Below w.heap.size w w'):w'.ownsRow B e size v n xs:=by
 refine ⟨h.1,?_⟩
 rcases h.2 with h0|⟨g,cap,cur,hv,hb,hg,rest⟩
 ·exact .inl h0
 ·exact .inr ⟨g,cap,cur,hv,hb,(b.block g (Array.getElem?_eq_some_iff.1 hg).1).trans hg,rest⟩
theorem row_grown {w w':World} {B e size n:Nat} {v:Value} {xs:List Value} {r:Option Nat} (h:w.ownsRow B e size v n xs) (hg:w.grownBy w' r) (hr:∀g,v.ownBlock=some g→some g≠r):w'.ownsRow B e size v n xs:=by
 refine ⟨h.1,?_⟩
 rcases h.2 with h0|⟨g,cap,cur,rfl,hb,hh,rest⟩
 ·exact .inl h0
 ·exact .inr ⟨g,cap,cur,rfl,hb,(hg.block g (Array.getElem?_eq_some_iff.1 hh).1 (hr g rfl)).trans hh,rest⟩
structure ChP (w W:World) (vN vH:Value) (N:List Pl.Nd) (H:List Bool):Prop where
 bel:Below w.heap.size w W
 res:Mem.Blk W w.heap.size (cellsO ⟨false,Pl.zeroN,[]⟩ (.slice none 0 0)).toArray 71
 nodes:Mem.ownN W (w.heap.size+1) vN N
 has:W.ownsRow (w.heap.size+1) 4 1 vH H.length (boolsV H)
 apart:∀g,vN.ownBlock=some g→vH.ownBlock≠some g
theorem ChP.call {w W W':World} {vN vH:Value} {N:List Pl.Nd} {H:List Bool} (h:ChP w W vN vH N H) (b:Below W.heap.size W W'):ChP w W' vN vH N H:=
 ⟨h.bel.trans (b.mono h.bel.size),h.res.call b,row_call h.nodes b,row_call h.has b,h.apart⟩
theorem ChP.moreN {w W W':World} {vN vH v':Value} {N:List Pl.Nd} {H:List Bool} {n:Pl.Nd} (h:ChP w W vN vH N H) (own:W'.ownsRow (w.heap.size+1) 25 5 v' (N.length+1) (Pl.zd1 N++n.cs)) (g:W.grownBy W' vN.ownBlock)
  (far:∀g,v'.ownBlock=some g→vN.ownBlock=some g∨W.heap.size≤g):ChP w W' v' vH (N++[n]) H:=by
 have hlt:∀q,vN.ownBlock=some q→w.heap.size+1≤q:=fun q hq=>(World.ownsRow.lt h.nodes q hq).1;refine ⟨h.bel.grown g h.bel.size (fun q hq=>by have :=hlt q hq;omega),h.res.grown g (fun e=>by have :=hlt _ e.symm;omega),Mem.ownN_snoc own,row_grown h.has g (fun q hq e=>h.apart q e.symm hq),fun q hq e=>?_⟩
 rcases far q hq with h1|h1
 ·exact h.apart q h1 e
 ·have :=(World.ownsRow.lt h.has q e).2;omega
theorem ChP.moreH {w W W':World} {vN vH v':Value} {N:List Pl.Nd} {H:List Bool} {x:Bool} (h:ChP w W vN vH N H) (own:W'.ownsRow (w.heap.size+1) 4 1 v' (H.length+1) (boolsV H++[.bool x])) (g:W.grownBy W' vH.ownBlock)
  (far:∀g,v'.ownBlock=some g→vH.ownBlock=some g∨W.heap.size≤g):ChP w W' vN v' N (H++[x]):=by
 have hlt:∀q,vH.ownBlock=some q→w.heap.size+1≤q:=fun q hq=>(World.ownsRow.lt h.has q hq).1;refine ⟨h.bel.grown g h.bel.size (fun q hq=>by have :=hlt q hq;omega),h.res.grown g (fun e=>by have :=hlt _ e.symm;omega),row_grown h.nodes g (fun q hq e=>h.apart q hq e.symm),?_,fun q hq e=>?_⟩
 ·unfold boolsV;rw [List.map_append,List.length_append];exact own
 ·rcases far q e with h1|h1
  ·exact h.apart q hq h1
  ·have :=(World.ownsRow.lt h.nodes q hq).2;omega
def nodesOf' (xs:List (Nat × Option Pl.Nd)):List Pl.Nd:=xs.map (fun x=>x.2.getD Pl.zeroN)
def hasOf (xs:List (Nat × Option Pl.Nd)):List Bool:=xs.map (fun x=>x.2.isSome)
theorem take_more {α β:Type} (f:α→β) {xs:List α} {j:Nat} {x:α} (h:xs[j]? =some x):(xs.take (j+1)).map f=(xs.take j).map f++[f x]:=by
 have h1:=List.getElem?_eq_some_iff.1 h;rw [List.take_succ_eq_append_getElem h1.1,List.map_append,h1.2];rfl
theorem ChP.asked {w W:World} {vN vH:Value} {xs:List (Nat × Option Pl.Nd)} (h:ChP w W vN vH (nodesOf' xs) (hasOf xs)) (hx:xs≠[]):
  ∃gn cn gh ch,vN= .slice (some ⟨gn,0,none⟩) xs.length cn∧vH= .slice (some ⟨gh,0,none⟩) xs.length ch∧gn<W.heap.size∧gh<W.heap.size∧
   (∀ (i:Nat) x,xs[i]? =some x→W.cell? ⟨gh,i,none⟩=some (.bool x.2.isSome))∧
   (∀ (i k:Nat) n,xs[i]? =some (k,some n)→W.cell? ⟨gn,i*5,none⟩=some (.string n.path)∧W.cell? ⟨gn,i*5+1,none⟩=some (.int .i64 n.kind)∧W.cell? ⟨gn,i*5+2,none⟩=some (.string n.data)∧W.cell? ⟨gn,i*5+3,none⟩=some (.int .i64 n.time)∧W.cell? ⟨gn,i*5+4,none⟩=some (.int .i64 n.mark)):=by
 have hp:=List.length_pos_iff.2 hx;have e1:(nodesOf' xs).length=xs.length:=by simp [nodesOf']
 have e2:(hasOf xs).length=xs.length:=by simp [hasOf]
 have hn:=h.nodes;have hh:=h.has;unfold Mem.ownN at hn;rw [e1] at hn;rw [e2] at hh
 rcases hn.2 with ⟨_,h0⟩|⟨gn,cn,curN,hvN, -,hgN, -⟩
 ·omega
 rcases hh.2 with ⟨_,h0⟩|⟨gh,ch,curH,hvH, -,hgH, -⟩
 ·omega
 subst hvN hvH;refine ⟨gn,cn,gh,ch,rfl,rfl,(Array.getElem?_eq_some_iff.1 hgN).1,(Array.getElem?_eq_some_iff.1 hgH).1,fun i x hi=>?_,fun i k n hi=>?_⟩
 ·have :=hh.cells (g:=gh) rfl i (.bool x.2.isSome) (by simp [boolsV,hasOf,hi]);rw [Mem.add_lit] at this;exact this
 ·have hg:(nodesOf' xs)[i]? =some n:=by simp [nodesOf',hi]
  have c:∀j,j<5→W.cell? ⟨gn,i*5+j,none⟩=n.cs[j]?:=fun j hj=>by
   have h1:=Pl.zw1 _ i n hg j hj;have h2:∃u,n.cs[j]? =some u:=⟨_,List.getElem?_eq_getElem (by show j<5;exact hj)⟩;obtain ⟨u,hu⟩:=h2;have :=hn.cells (g:=gn) rfl (i*5+j) u (by rw [h1,hu]);rw [Mem.add_lit] at this;rw [this,hu]
  exact ⟨c 0 (by omega),c 1 (by omega),c 2 (by omega),c 3 (by omega),c 4 (by omega)⟩
theorem ret7 {w W:World} {v:Value} {ks:List Nat} {cs:List Value} (hb:Below w.heap.size w W) (hr:Mem.Blk W w.heap.size cs.toArray 71) (hc:cs.length=7) (ho:ownI W (w.heap.size+1) v ks) (x:Bool) (p:ByteArray) (k:Int) (d:ByteArray) (t m:Int) (u:Value):
  Mem.Blk (((((((W.setCell ⟨w.heap.size,0,none⟩ (.bool x)).setCell ⟨w.heap.size,1,none⟩ (.string p)).setCell ⟨w.heap.size,2,none⟩ (.int .i64 k)).setCell ⟨w.heap.size,3,none⟩ (.string d)).setCell ⟨w.heap.size,4,none⟩ (.int .i64 t)).setCell ⟨w.heap.size,5,none⟩ (.int .i64 m)).setCell ⟨w.heap.size,6,none⟩ u) w.heap.size #[.bool x, .string p, .int .i64 k, .string d, .int .i64 t, .int .i64 m,u] 71∧
  Below w.heap.size w (((((((W.setCell ⟨w.heap.size,0,none⟩ (.bool x)).setCell ⟨w.heap.size,1,none⟩ (.string p)).setCell ⟨w.heap.size,2,none⟩ (.int .i64 k)).setCell ⟨w.heap.size,3,none⟩ (.string d)).setCell ⟨w.heap.size,4,none⟩ (.int .i64 t)).setCell ⟨w.heap.size,5,none⟩ (.int .i64 m)).setCell ⟨w.heap.size,6,none⟩ u)∧
  ownI (((((((W.setCell ⟨w.heap.size,0,none⟩ (.bool x)).setCell ⟨w.heap.size,1,none⟩ (.string p)).setCell ⟨w.heap.size,2,none⟩ (.int .i64 k)).setCell ⟨w.heap.size,3,none⟩ (.string d)).setCell ⟨w.heap.size,4,none⟩ (.int .i64 t)).setCell ⟨w.heap.size,5,none⟩ (.int .i64 m)).setCell ⟨w.heap.size,6,none⟩ u) w.heap.size v ks:=by
 have hr':w.heap.size<w.heap.size+1:=by omega
 refine ⟨?_,((((((hb.setCell (p:=⟨w.heap.size,0,none⟩) (Nat.le_refl _) _).setCell (p:=⟨w.heap.size,1,none⟩) (Nat.le_refl _) _).setCell (p:=⟨w.heap.size,2,none⟩) (Nat.le_refl _) _).setCell (p:=⟨w.heap.size,3,none⟩) (Nat.le_refl _) _).setCell (p:=⟨w.heap.size,4,none⟩) (Nat.le_refl _) _).setCell (p:=⟨w.heap.size,5,none⟩) (Nat.le_refl _) _).setCell (p:=⟨w.heap.size,6,none⟩) (Nat.le_refl _) _,?_⟩
 ·match cs,hc,hr with
  | [c0,c1,c2,c3,c4,c5,c6],_,hr=>
   have h2:=((((((hr.put 0 (.bool x)).put 1 (.string p)).put 2 (.int .i64 k)).put 3 (.string d)).put 4 (.int .i64 t)).put 5 (.int .i64 m)).put 6 u;simp only [List.setIfInBounds_toArray] at h2;exact h2
 ·exact ownI_mono (ownI_set (ownI_set (ownI_set (ownI_set (ownI_set (ownI_set (ownI_set ho _ _ hr') _ _ hr') _ _ hr') _ _ hr') _ _ hr') _ _ hr') _ _ hr') (by omega)
end WPick
end
section
open Go.RowKit
namespace Mem
theorem texts {w:World} {B T:Nat} {v:Value} {L:List ByteArray} (h:w.ownsRow B T 1 v L.length (L.map Value.string)):
  (v= .slice none 0 0∧L=[])∨∃g cap,v= .slice (some ⟨g,0,none⟩) L.length cap∧L.length≤cap∧cap≤maxLen∧B≤g∧g<w.heap.size∧∀ (k:Nat) t,L[k]? =some t→w.cell? ⟨g,k,none⟩=some (.string t):=by
 rcases h.2 with ⟨rfl,h0⟩|⟨g,cap,cur,rfl,hgb,hg,hcap,hm,hsz,htk⟩
 ·exact .inl ⟨rfl,List.eq_nil_of_length_eq_zero h0⟩
 ·refine .inr ⟨g,cap,rfl,hcap,hm,hgb,(Array.getElem?_eq_some_iff.1 hg).1,fun k t ht=>?_⟩;have hk:=(List.getElem?_eq_some_iff.1 ht).1;rw [cell_of_row w g k cur T (0,0) hg];have h1:(cur.toList.take (L.length*1))[k]? =(L.map Value.string)[k]?:=by rw [htk]
  rw [List.getElem?_take_of_lt (by omega),List.getElem?_map,ht] at h1
  simpa using h1
theorem one_str (t:ByteArray):∀u∈[Value.string t],u.oneCell'=true:=by
 intro u hu;simp at hu;subst hu;rfl
def zm (w:World) (v:Value) (ts:List ByteArray):Prop:=
 (v= .slice none 0 0∧ts=[])∨∃b o cap,v= .slice (some ⟨b,o,none⟩) ts.length cap∧b<w.heap.size∧∀ (j:Nat) t,ts[j]? =some t→w.cell? ⟨b,o+j,none⟩=some (.string t)
theorem zo6 {w:World} {B T:Nat} {v:Value} {L:List ByteArray} (h:w.ownsRow B T 1 v L.length (L.map Value.string)):zm w v L:=by
 rcases texts h with h|⟨g,cap,h1,h2,h3,h4,h5,h6⟩
 ·exact .inl h
 ·exact .inr ⟨g,0,cap,h1,h5,fun j t ht=>by rw [Nat.zero_add];exact h6 j t ht⟩
theorem take_texts {w:World} {g cap:Nat} {L:List ByteArray} (hg:g<w.heap.size) (hc:∀ (k:Nat) t,L[k]? =some t→w.cell? ⟨g,k,none⟩=some (.string t)) (n:Nat) (hn:n≤L.length):
  zm w (.slice (some ⟨g,0,none⟩) n cap) (L.take n):=by
 refine .inr ⟨g,0,cap,by rw [List.length_take,Nat.min_eq_left hn],hg,fun j t ht=>?_⟩;rw [Nat.zero_add];refine hc j t ?_;have hj:j<n:=by have :=(List.getElem?_eq_some_iff.1 ht).1;rw [List.length_take] at this;omega
 rwa [List.getElem?_take_of_lt hj] at ht
theorem own_below {w w':World} {B B' e size n:Nat} {v:Value} {xs:List Value} (h:w.ownsRow B e size v n xs) (hb:Below B' w w') (hB:∀k,v.ownBlock=some k→k<B'):w'.ownsRow B e size v n xs:=by
 refine ⟨h.1,?_⟩
 rcases h.2 with h0|⟨g,cap,cur,rfl,hgb,hg,rest⟩
 ·exact .inl h0
 ·exact .inr ⟨g,cap,cur,rfl,hgb,(hb.block g (hB g rfl)).trans hg,rest⟩
theorem ze8 {w w':World} {B e size n:Nat} {v:Value} {xs:List Value} (h:w.ownsRow B e size v n xs) (hb:Below w.heap.size w w'):w'.ownsRow B e size v n xs:=
 own_below h hb (fun k hk=>(h.lt k hk).2)
theorem texts_call {w w':World} {v:Value} {ts:List ByteArray} (h:zm w v ts) (hb:Below w.heap.size w w'):zm w' v ts:=by
 rcases h with h|⟨b,o,cap,rfl,hlt,hc⟩
 ·exact .inl h
 ·exact .inr ⟨b,o,cap,rfl,Nat.lt_of_lt_of_le hlt hb.size,fun j t ht=>(hb.cell (p:=⟨b,o+j,none⟩) hlt).trans (hc j t ht)⟩
theorem below_drewN {B:Nat} {a w:World} (h:Below B a w) (q:Nat):Below B a (w.drewN q):=h.trans ⟨rfl,rfl,rfl,Nat.le_refl _,fun _ _=>rfl⟩
theorem zo3 {w:World} {v:Value} {ts:List ByteArray} (h:zm w v ts):∃a cap,v= .slice a ts.length cap:=by
 rcases h with ⟨rfl,rfl⟩|⟨b,o,cap,rfl,_⟩ <;> exact ⟨_,_,rfl⟩
end Mem
end
end Go.Proofs.YtpakookhgpphaaaDoor
