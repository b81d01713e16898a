/- Several texts of one claim in one file: MemApp2, WNodesIn, WAtO, WGather, MemItems. -/
import Derived.Test.YthdhhcgopfgcbaaGreatDoorG04
namespace Go.Proofs.YthdhhcgopfgcbaaGreatDoor
section
open Go.RowKit
namespace Mem
theorem yo5 {P:Program} (w:World) (base:Nat) (t ty e:TypeId) (i:TypeInfo) (z:Value) (size bytes:Nat) (ht:P.underlying t=some (.slice e)) (hi:P.info? e=some i) (hz:i.zero=some z)
  (hsize:i.size=size) (hby:i.bytes=bytes) (hzs:z.cells.size=size) (hsz:0<size)
  (v:Value) (n:Nat) (xs:List Value) (hown:w.ownsRow base e size v n xs)
  (a:Addr) (m c:Nat) (news:List Value) (hl:news.length=m*size) (hnews:∀j u,news[j]? =some u→w.cell? (a.add j)=some u) (h1:∀u∈news,u.oneCell'=true)
  (h63:n+m≤maxLen) (hbytes:(n+m)*bytes≤140737488355328) (hbase:base≤w.heap.size):
  ∃v' w',(Builtin.append_ #[t,t] ty #[v, .slice (some a) m c]).run P w= .ok v' w'∧w'.ownsRow base e size v' (n+m) (xs++news)∧w.grownBy w' v.ownBlock∧∀g,v'.ownBlock=some g→v.ownBlock=some g∨w.heap.size≤g:=by
 obtain ⟨v',w',hr,h2,h3, -⟩:=run_append_own (P:=P) w base t ty e i z size bytes ht hi hz hsize hby hzs hsz v n xs hown a m c news hl hnews h1 h63 hbytes hbase;refine ⟨v',w',hr,h2,h3,?_⟩
 rcases hown.2 with ⟨rfl,rfl⟩|⟨g,cap,cur,rfl,hbg,hg,hnc,hcm,hcs,htake⟩
 ·have hx:xs=[]:=List.eq_nil_of_length_eq_zero (by simpa using hown.1);subst hx;obtain ⟨v2,w2,hr2,k2, -, -⟩:=run_append_own (P:=P) w w.heap.size t ty e i z size bytes ht hi hz hsize hby hzs hsz _ 0 [] (World.ownsRow_nil w w.heap.size e size) a m c news hl hnews h1 h63 hbytes (Nat.le_refl _);rw [hr] at hr2;cases hr2
  exact fun g hg=> .inr (k2.lt g hg).1
 ·subst hsize hby
  by_cases hroom:n+m≤cap
  ·have hfit:n*i.size+news.length≤cur.size:=by rw [hl,hcs,←Nat.add_mul];exact Nat.mul_le_mul_right _ hroom
   rw [run_append_room (P:=P) w t ty e i ht hi g n cap cur hg a m c news hl hnews h1 hroom hfit] at hr;cases hr
   exact fun g hg=> .inl hg
  ·have holds:∀j u,xs[j]? =some u→w.cell? ((⟨g,0,none⟩:Addr).add j)=some u:=hown.cells (g:=g) rfl;have hsmall:n+m≤9223372036854775807:=by simp only [maxLen] at h63;omega
   rw [run_append_grow (P:=P) w t ty e i z ht hi hz ⟨g,0,none⟩ n cap xs hown.1 holds a m c news hl hnews (by omega) (by omega) (growslice_fits (by omega) hbytes)] at hr;cases hr
   intro g' hg';cases hg'
   exact .inr (Nat.le_refl _)
theorem ze1 {P:Program} (w:World) {ops:Array Oper} {rest:List Oper} {o:Oper} {a:Act} {Q:Exit→Act→World→Prop} (hgd:o.guard=none) (s x:Operand) (t:TypeId)
  (ho:o.op= .call { callee:= .builtin .append,args:=#[s,x],argTypes:=#[t,t] })
  (base:Nat) (e:TypeId) (i:TypeInfo) (z:Value) (size bytes:Nat) (ht:P.underlying t=some (.slice e)) (hi:P.info? e=some i) (hz:i.zero=some z)
  (hsize:i.size=size) (hby:i.bytes=bytes) (hzs:z.cells.size=size) (hsz:0<size)
  (v:Value) (n:Nat) (xs:List Value) (hs:a.eval s=v) (hown:w.ownsRow base e size v n xs)
  (ad:Addr) (m c:Nat) (news:List Value) (hx:a.eval x= .slice (some ad) m c) (hl:news.length=m*size) (hnews:∀j u,news[j]? =some u→w.cell? (ad.add j)=some u) (h1:∀u∈news,u.oneCell'=true)
  (h63:n+m≤maxLen) (hbytes:(n+m)*bytes≤140737488355328) (hbase:base≤w.heap.size)
  (h:∀v' w',w'.ownsRow base e size v' (n+m) (xs++news)→w.grownBy w' v.ownBlock→(∀g,v'.ownBlock=some g→v.ownBlock=some g∨w.heap.size≤g)→wpList P ops Q rest (a.put o.dst v') w'):wpList P ops Q (o::rest) a w:=
 wpList_plain hgd fun _ hK=>by
  obtain ⟨v',w',hr,h2,h3,h4⟩:=yo5 (P:=P) w base t o.type e i z size bytes ht hi hz hsize hby hzs hsz v n xs hown ad m c news hl hnews h1 h63 hbytes hbase;unfold Oper.wp execOp;simp only [ho,resolve,invoke,builtin,Sem.run_bind,Sem.run_pure,Result.andThen_ok,List.map_toArray,List.map_cons,List.map_nil,hs,hx,hr];exact hK _ _ (h v' w' h2 h3 h4)
end Mem
end
section
open Go.RowKit
namespace ya9
theorem is_map (b:Nat) (w:World):(Instr.typeAssert (.iface 78 (.map (some b))) 203 78 true).run Tryz.prog w= .ok (.tuple #[.map (some b), .bool true]) w:=by kernel_rfl
theorem no_map (a:Option Addr) (n c:Nat) (w:World):(Instr.typeAssert (.iface 182 (.slice a n c)) 203 78 true).run Tryz.prog w= .ok (.tuple #[.map none, .bool false]) w:=by kernel_rfl
theorem is_over (a:Option Addr) (n c:Nat) (w:World):(Instr.typeAssert (.iface 182 (.slice a n c)) 203 182 true).run Tryz.prog w= .ok (.tuple #[.slice a n c, .bool true]) w:=by kernel_rfl
set_option maxRecDepth 100000 in
theorem in_map (b:Nat) (w:World):Calls Tryz.prog 140 #[zh9.layV b] w fun e w'=>e= .returned (.map (some b))∧w'=w:=by
 unfold zh9.layV;have h1:=is_map b;go_enter Tryz.func140,Tryz.ntmps140
 go_wp2
 go_ret
 exact ⟨rfl,rfl⟩
end ya9
end
section
open Go.RowKit
namespace zk1
set_option linter.unusedSimpArgs false in
set_option maxRecDepth 100000 in
set_option maxHeartbeats 2000000 in
theorem atO_any (B:Nat) (v:Value) (Bs:List Nat) (Ls:List (List Pl.Nd)) (p:ByteArray) (w:World) (hov:zh9.Ov w B v Bs Ls) (h4:Ls.length≤4) (htr:∀L∈Ls,Pl.za5 L=true) (hp:p.size≤1048576):
  Calls Tryz.prog 161 #[v, .string p] w fun e w'=>e= .returned (.tuple #[(Pl.zc3 Ls p).node.val, .bool (Pl.zc3 Ls p).told])∧Below w.heap.size w w':=by
 have b0:Below w.heap.size w (w.alloc (.cells #[.string ⟨#[]⟩, .int .i64 0, .string ⟨#[]⟩, .int .i64 0, .int .i64 0] 47)):=bE0;have hs:=hide (seen_any B v Bs Ls p _ (hov.call b0) h4 htr hp);have HL:Hid ((Pl.zc3 Ls p).have'.length=4):=Pl.walk_len Ls Ls.length _;generalize Pl.zc3 Ls p=S at hs HL ⊢;obtain ⟨tt,⟨sp,sk,sd,st,sm⟩,sh⟩:=S
 obtain ⟨e0,e1,e2,e3,rfl⟩:∃h0 h1 h2 h3,sh=[h0,h1,h2,h3]:=by
  match sh,za HL with
  | [a,b,c,d],_=>exact ⟨a,b,c,d,rfl⟩
 rw [show (Pl.Sg.cs ⟨tt,⟨sp,sk,sd,st,sm⟩,[e0,e1,e2,e3]⟩).toArray=#[.bool tt, .string sp, .int .i64 sk, .string sd, .int .i64 st, .int .i64 sm, .bool e0, .bool e1, .bool e2, .bool e3] from rfl] at hs;have V0:=Mem.Blk.new w #[.string ⟨#[]⟩, .int .i64 0, .string ⟨#[]⟩, .int .i64 0, .int .i64 0] 47;obtain ⟨a,cap,rfl⟩:=zt6 hov;clear hov HL;go_enter Tryz.func161,Tryz.ntmps161
 go_wp2_with fail
 refine (za hs).mono ?_;rintro e w1 ⟨rfl,b1⟩;have b2:=b0.trans (b1.mono b0.size);have b3:=b2.alloc b2.size (.cells #[.bool tt, .string sp, .int .i64 sk, .string sd, .int .i64 st, .int .i64 sm, .bool e0, .bool e1, .bool e2, .bool e3] 232);have V3:=(V0.call b1).alloc (.cells #[.bool tt, .string sp, .int .i64 sk, .string sd, .int .i64 st, .int .i64 sm, .bool e0, .bool e1, .bool e2, .bool e3] 232);have S3:=Mem.Blk.new w1 #[.bool tt, .string sp, .int .i64 sk, .string sd, .int .i64 st, .int .i64 sm, .bool e0, .bool e1, .bool e2, .bool e3] 232;have hlt:w.heap.size<w1.heap.size:=(V0.call b1).lt;have hne:¬w.heap.size=w1.heap.size:=by omega
 have hne2:¬w1.heap.size=w.heap.size:=by omega
 have V1:=V0.call b1;obtain ⟨⟨k0,k1,k2,k3,k4⟩,h0,h1,h2,h3,h4⟩:=jf5 V1;obtain ⟨⟨c0,c1,c2,c3,c4⟩,f0,f1,f2,f3,f4⟩:=jf5 V3;obtain ⟨d0,d1,d2,d3,d4,d5⟩:=jc6 S3
 have V4:Mem.Blk ((((((w1.setCell ⟨w.heap.size,0,none⟩ (.string sp)).setCell ⟨w.heap.size,1,none⟩ (.int .i64 sk)).setCell ⟨w.heap.size,2,none⟩ (.string sd)).setCell ⟨w.heap.size,3,none⟩ (.int .i64 st)).setCell ⟨w.heap.size,4,none⟩ (.int .i64 sm)).alloc (.cells #[.bool tt, .string sp, .int .i64 sk, .string sd, .int .i64 st, .int .i64 sm, .bool e0, .bool e1, .bool e2, .bool e3] 232)).drew w.heap.size #[.string sp, .int .i64 sk, .string sd, .int .i64 st, .int .i64 sm] 47:=by
  have h:=((((((V1.put 0 (.string sp)).put 1 (.int .i64 sk)).put 2 (.string sd)).put 3 (.int .i64 st)).put 4 (.int .i64 sm))).alloc (.cells #[.bool tt, .string sp, .int .i64 sk, .string sd, .int .i64 st, .int .i64 sm, .bool e0, .bool e1, .bool e2, .bool e3] 232);simp only [kB3] at h;exact h
 have B4:Below w.heap.size w ((((((w1.setCell ⟨w.heap.size,0,none⟩ (.string sp)).setCell ⟨w.heap.size,1,none⟩ (.int .i64 sk)).setCell ⟨w.heap.size,2,none⟩ (.string sd)).setCell ⟨w.heap.size,3,none⟩ (.int .i64 st)).setCell ⟨w.heap.size,4,none⟩ (.int .i64 sm)).alloc (.cells #[.bool tt, .string sp, .int .i64 sk, .string sd, .int .i64 st, .int .i64 sm, .bool e0, .bool e1, .bool e2, .bool e3] 232)).drew:=by
  have h:Below w.heap.size w ((((((w1.setCell ⟨w.heap.size,0,none⟩ (.string sp)).setCell ⟨w.heap.size,1,none⟩ (.int .i64 sk)).setCell ⟨w.heap.size,2,none⟩ (.string sd)).setCell ⟨w.heap.size,3,none⟩ (.int .i64 st)).setCell ⟨w.heap.size,4,none⟩ (.int .i64 sm)).alloc (.cells #[.bool tt, .string sp, .int .i64 sk, .string sd, .int .i64 st, .int .i64 sm, .bool e0, .bool e1, .bool e2, .bool e3] 232)):=(((((b2.setCell (p:=⟨w.heap.size,0,none⟩) (Nat.le_refl _) (.string sp)).setCell (p:=⟨w.heap.size,1,none⟩) (Nat.le_refl _) (.int .i64 sk)).setCell (p:=⟨w.heap.size,2,none⟩) (Nat.le_refl _) (.string sd)).setCell (p:=⟨w.heap.size,3,none⟩) (Nat.le_refl _) (.int .i64 st)).setCell (p:=⟨w.heap.size,4,none⟩) (Nat.le_refl _) (.int .i64 sm)).alloc ((((((b2.setCell (p:=⟨w.heap.size,0,none⟩) (Nat.le_refl _) (.string sp)).setCell (p:=⟨w.heap.size,1,none⟩) (Nat.le_refl _) (.int .i64 sk)).setCell (p:=⟨w.heap.size,2,none⟩) (Nat.le_refl _) (.string sd)).setCell (p:=⟨w.heap.size,3,none⟩) (Nat.le_refl _) (.int .i64 st)).setCell (p:=⟨w.heap.size,4,none⟩) (Nat.le_refl _) (.int .i64 sm))).size _
  exact ⟨h.os,h.tape,h.output,h.size,h.block⟩
 have HV:=hide V4;have HB:=hide B4;clear hs b0 b1 b2 b3 V0 V1 V3 V4 S3 B4;go_wp2_with fail
 go_region
 go_wp2
 obtain ⟨r0,r1,r2,r3,r4⟩:=jc5 (za HV);exact bodyPost_ret (v:= .tuple #[.agg #[.string sp, .int .i64 sk, .string sd, .int .i64 st, .int .i64 sm], .bool tt]) (by simp [results,Tryz.results161,go_sem,r0,r1,r2,r3,r4]) rfl ⟨rfl,za HB⟩
end zk1
end
section
open Go.RowKit Go.Maps
namespace ya9
structure Gk (w W:World) (Ls:List (List Pl.Nd)) (M N:Nat) (D:DataW Unit) (C:List Pl.Nd):Prop where
 bel:Below w.heap.size w W
 map:W.ownsMap Tryz.prog 9 MapN.elem M N D
 gt:MapN.Gt Ls D C
theorem Gk.call {w W W':World} {Ls:List (List Pl.Nd)} {M N:Nat} {D:DataW Unit} {C:List Pl.Nd} (h:Gk w W Ls M N D C) (b:Below W.heap.size W W'):Gk w W' Ls M N D C:=
 ⟨h.bel.trans (b.mono h.bel.size),zc2.zd9 h.map b,h.gt⟩
theorem Gk.grown {w W W':World} {Ls:List (List Pl.Nd)} {M N:Nat} {D:DataW Unit} {C:List Pl.Nd} {r:Nat} (h:Gk w W Ls M N D C) (g:W.grownBy W' (some r)) (hr:w.heap.size≤r) (hM:M≠r):Gk w W' Ls M N D C:=
 ⟨h.bel.grown g h.bel.size (fun q hq=>by cases hq;exact hr),h.map.kept g (fun e=>hM (Option.some.inj e)),h.gt⟩
theorem Gk.grown0 {w W W':World} {Ls:List (List Pl.Nd)} {M N:Nat} {D:DataW Unit} {C:List Pl.Nd} (h:Gk w W Ls M N D C) (g:W.grownBy W' none):Gk w W' Ls M N D C:=
 ⟨h.bel.grown g h.bel.size (fun q hq=>by cases hq),h.map.kept g (fun e=>by cases e),h.gt⟩
def Whole (w w':World) (Ls:List (List Pl.Nd)) (M:Nat):Prop:=∃N D C,N≤200∧Gk w w' Ls M N D C∧∀n,n∈C↔Pl.zo9 Ls n
def Inner (w wr:World) (Ls:List (List Pl.Nd)) (L C:List Pl.Nd) (b r k:Nat):Prop:=∃ (left:Lit→Bool) (cnt:Nat) (T:List Pl.Nd),wr.ranges Tryz.prog 9 MapN.elem b r 40 (MapN.mapOf L) left cnt∧T.length+cnt≤Maps.size (MapN.mapOf L)∧MapN.Got L T left∧r<wr.heap.size∧∃N1 D1 C1,N1≤40*k+T.length∧Gk w wr Ls w.heap.size N1 D1 C1∧(∀n∈C,n∈C1)∧∀m∈T,(Pl.zc3 Ls m.path).told=true→(Pl.zc3 Ls m.path).node∈C1
set_option linter.unusedSimpArgs false in
set_option maxRecDepth 100000 in
set_option maxHeartbeats 2000000 in
theorem gathered_any (B:Nat) (v:Value) (Bs:List Nat) (Ls:List (List Pl.Nd)) (w:World) (hov:zh9.Ov w B v Bs Ls) (h4:Ls.length≤4) (htr:∀L∈Ls,Pl.za5 L=true):
  Calls Tryz.prog 146 #[v] w fun e w'=>e= .returned (.map (some w.heap.size))∧Whole w w' Ls w.heap.size:=by
 obtain ⟨a,cap,rfl⟩:=zk1.zt6 hov;have hmm:=@run_makeMap Tryz.prog;have HOV:=hide hov;have HTR:=hide htr;have A0:Hid (Gk w (w.alloc (.map #[] 0)) Ls w.heap.size 0 (.map []) []):=⟨bE0,World.ownsMap_made w Tryz.prog 9 MapN.elem,MapN.Gt.start Ls⟩
 have HSM:Hid (∀L∈Ls,L.length≤40):=fun L hL=>by
  have h:=htr L hL;simp only [Pl.za5,Bool.and_eq_true,decide_eq_true_eq] at h;exact h.1
 clear hov htr;go_enter Tryz.func146,Tryz.ntmps146
 go_wp2
 go_loopw [11] (fun i wr=>∃k:Nat,k≤Ls.length∧i= .int .i64 (k:Int)∧Hid (∃N D C,N≤40*k∧Gk w wr Ls w.heap.size N D C∧w.heap.size<wr.heap.size∧∀ (j:Nat) L,j<k→Ls[j]? =some L→∀m∈L,(Pl.zc3 Ls m.path).told=true→(Pl.zc3 Ls m.path).node∈C)) (fun i _=>Ls.length - (intOf i).toNat)
 case atStart=>exact ⟨0,Nat.zero_le _,rfl,⟨0,_,_,Nat.le_refl _,za A0,by simp,fun j L h=>absurd h (by omega)⟩⟩
 case round=>
  obtain ⟨k,hk,rfl,HA⟩:=hrel;clear A0;obtain ⟨N,D,C,hN,G,hMl,hall⟩:=za HA;have KG:=hide G;have HAll:=hide hall;clear HA hall;by_cases hlt:k<Ls.length
  ·obtain ⟨L,hL⟩:∃L,Ls[k]? =some L:=⟨_,List.getElem?_eq_getElem hlt⟩;obtain ⟨b,hb⟩:∃b,Bs[k]? =some b:=⟨_,List.getElem?_eq_getElem (by rw [(za HOV).len];exact hlt)⟩;obtain ⟨g,rfl,c0⟩:=zk1.ov_cell ((za HOV).call G.bel) hb;have hmap:=((za HOV).maps k b L hb hL).2;have hbl:b<w.heap.size:=hmap.lt;have HMB:=hide (zc2.zd9 hmap G.bel);have htL:=za HTR L (List.mem_of_getElem? hL);have hLl:=za HSM L (List.mem_of_getElem? hL);have HLT:=hide htL;have HCC:=hide (Pl.zl1 htL);have HSZ:=hide (MapN.zv8 (Pl.zl1 htL));have HG0:=hide (MapN.got_start (MapN.zj6 (Pl.zl1 htL)));have HENT:=hide (MapN.zj6 (Pl.zl1 htL)).ent;have HLk:=hide hL;have y1:(k:Int)<(Ls.length:Int):=by omega
   have y2:(0:Int)≤(k:Int):=by omega
   have hin:=in_map b;unfold zh9.layV at hin;have HIN:=hide hin;clear hin hmap htL hL hb G;go_wp2_with fail
   refine (za HIN _).mono ?_;rintro e wI ⟨rfl,hwI⟩;subst wI;clear HIN c0
   go_wp2_with (first
    |(at_range;refine wpList_range_own _ rfl _ 78 rfl 9 47 MapN.law Tryz.underlying78 _ b 40 _ rfl (za HMB) ?_;intro w0 hrg0 hg0 hs0)
    |go_in)
   go_frame
   have KG0:=hide ((za KG).grown0 hg0);generalize hr:wr.heap.size=r at hrg0 hs0 ⊢;have hMr:w.heap.size<r:=by omega
   have hrl:r<w0.heap.size:=by omega
   clear KG hg0 hs0 HMB;have HAT:=hide (fun (c:Pl.Nd) (hc:c∈L) (W:World) (bw:Below w.heap.size w W)=>zk1.atO_any B (.slice (some ⟨g,0,none⟩) Ls.length cap) Bs Ls c.path W ((za HOV).call bw) h4 (za HTR) (by have :=Pl.zd1 (Pl.zw4 (za HLT) hc).1;omega));have HTO:=hide (fun (c:Pl.Nd) (hc:c∈L) (ht:(Pl.zc3 Ls c.path).told=true)=>(⟨⟨L,List.mem_of_getElem? (za HLk),c,hc,ht,rfl⟩,Pl.zu5 (Pl.zw4 (za HLT) hc).1 (Pl.zw4 (za HLT) hc).2 ht,(by have :=Pl.zd1 (Pl.zw4 (za HLT) hc).1;unfold maxLen;omega)⟩:Pl.zo9 Ls (Pl.zc3 Ls c.path).node∧(Pl.zc3 Ls c.path).node.path=c.path∧c.path.size≤maxLen))
   go_loopw [5] (fun _ wr=>Inner w wr Ls L C b r k)
    (fun _ wr=>wr.rangeLeft b r)
   case atStart=>exact ⟨_,_,[],hrg0,by simp,za HG0,hrl,⟨N,D,C,by simpa using hN,za KG0,fun n hn=>hn,fun m hm=>by cases hm⟩⟩
   case round=>
    obtain ⟨left,cnt,T,hrg,hcs,HGT0,hrw,HK⟩:=hrel;have HGT:=hide HGT0;clear HGT0;clear hrg0 KG0 HG0 hrl;obtain ⟨N1,D1,C1,hN1,G1,hsub,hvis⟩:=HK;have KG1:=hide G1;have HSB:=hide hsub;have HVI:=hide hvis;clear G1 hsub hvis
    go_wp2_with (first
     |(at_next;refine wpList_next_ranges _ rfl _ rfl 9 MapN.law MapN.elem (Value.string) (Pl.Nd.val) (fun key kl hk=>Maps.keyOf_string_inv Tryz.underlying9 hk) (fun v y hv=>by obtain ⟨d,ps⟩:=y;obtain ⟨n,hn,_⟩:=MapN.zt8 hv;exact ⟨n,hn⟩) b r 40 _ _ _ rfl hrg ?_ ?_)
     |go_in)
    ·intro hc0 hl0;have hp:=MapN.got_end (za HCC) (za HGT) hl0
     have HA2:Hid (∃N D C,N≤40*(k+1)∧Gk w wr Ls w.heap.size N D C∧w.heap.size<wr.heap.size∧∀ (j:Nat) L,j<k+1→Ls[j]? =some L→∀m∈L,(Pl.zc3 Ls m.path).told=true→(Pl.zc3 Ls m.path).node∈C):=by
      refine ⟨N1,D1,C1,?_,za KG1,by omega,fun j L' hj hL' m hm ht=>?_⟩
      ·have h1:=hp.length_eq;omega
      ·by_cases e:j<k
       ·exact za HSB _ (za HAll j L' e hL' m hm ht)
       ·obtain rfl:j=k:=by omega
        rw [za HLk] at hL';cases hL'
        exact za HVI m (hp.mem_iff.2 hm) ht
     clear hp hc0 hl0 hrg HGT KG1 HSB HVI HAT HTO HENT;go_wp2
     go_roundw
     case rel=>exact ⟨k+1,by omega,by go_num,HA2⟩
     case measure=>simp [intOf];omega
    ·intro x c kl yd yp w1 cnt1 hkey hlk hR hat hrg1 hlt1 hg1 hs1 hen;have ek:kl=MapN.key x:=MapN.keyOf_inv hkey;have ey:yd=MapN.dat c:=by rw [MapN.zk3] at hR;cases hR;rfl
     subst ek ey;obtain ⟨hcC,rfl⟩:=za HENT x c hat;have HG2:=hide (MapN.got_step (za HCC) (za HGT) hcC hlk);have KG2:=hide ((za KG1).grown hg1 (by omega) (by omega));have HRG1:=hide hrg1;have HLE:=hide (hrg.left_eq);have hat2:=hide (za HAT c hcC w1 (za KG2).bel);have hto:=hide (za HTO c hcC);have hr1:r<w1.heap.size:=by omega
     have HVC:Hid (∀C2:List Pl.Nd,(∀n∈C1,n∈C2)→((Pl.zc3 Ls c.path).told=true→(Pl.zc3 Ls c.path).node∈C2)→∀m∈T++[c],(Pl.zc3 Ls m.path).told=true→(Pl.zc3 Ls m.path).node∈C2):=fun C2 h1 h2 m hm ht=>by
      rcases List.mem_append.1 hm with h3|h3
      ·exact h1 _ (za HVI m h3 ht)
      ·simp at h3;subst h3;exact h2 ht
     clear hat hR hkey hlk hcC HGT hg1 hs1 hrg1 hrg HENT KG1 HVI;obtain ⟨cp,ck,cd,ct,cm⟩:=c;simp only [Pl.Nd.val] at hen hat2 hto HVC HG2 HRG1 ⊢;generalize hS:Pl.zc3 Ls cp=S at hat2 hto HVC;obtain ⟨tt,⟨sp,sk,sd,st,sm⟩,sh⟩:=S;simp only at hat2 hto HVC;go_wp2_with fail
     refine (za hat2).mono ?_;rintro e w2 ⟨rfl,b2⟩;simp only [Pl.Nd.val];have KG3:=hide ((za KG2).call b2);have HRG2:=hide ((za HRG1).kept (Mem.zc7 b2 none) (by simp) (by simp));have hr2:r<w2.heap.size:=by have :=b2.size;omega
     clear KG2 HRG1 hat2 b2 hen hr1;have bA:Below w2.heap.size w2 (w2.alloc (.cells #[.string sp, .int .i64 sk, .string sd, .int .i64 st, .int .i64 sm] 47)):=bE0;have KG4:=hide ((za KG3).call bA);have HRG4:=hide ((za HRG2).alloc (.cells #[.string sp, .int .i64 sk, .string sd, .int .i64 st, .int .i64 sm] 47));cases tt
     ·have HK4:Hid (∃N1 D1 C1,N1≤40*k+(T++[(⟨cp,ck,cd,ct,cm⟩:Pl.Nd)]).length∧Gk w (w2.alloc (.cells #[.string sp, .int .i64 sk, .string sd, .int .i64 st, .int .i64 sm] 47)) Ls w.heap.size N1 D1 C1∧(∀n∈C,n∈C1)∧∀m∈T++[(⟨cp,ck,cd,ct,cm⟩:Pl.Nd)],(Pl.zc3 Ls m.path).told=true→(Pl.zc3 Ls m.path).node∈C1):=
       ⟨N1,D1,C1,by rw [List.length_append];omega,za KG4,za HSB,za HVC C1 (fun n hn=>hn) (fun h=>by cases h)⟩
      have hr4:r<(w2.alloc (.cells #[.string sp, .int .i64 sk, .string sd, .int .i64 st, .int .i64 sm] 47)).heap.size:=by simp;omega
      clear KG3 KG4 HRG2 HSB HVC hto bA HAT HTO;go_wp2
      go_roundw
      case rel=>exact ⟨_,cnt1,T++[⟨cp,ck,cd,ct,cm⟩],za HRG4,by simp;omega,za HG2,hr4,za HK4⟩
      case measure=>rw [(za HRG4).left_eq,za HLE];exact hlt1
     ·obtain ⟨hT,hpe,hps⟩:=za hto (by trivial)
      (try simp only at hpe)
      subst hpe;obtain ⟨hgt,hmem⟩:=(za KG4).gt.put (za HTR) hT;have HGP:=hide hgt;have HME:=hide hmem;have hkey:=MapN.zj3 hps;have NB:=Mem.Blk.new w2 #[.string sp, .int .i64 sk, .string sd, .int .i64 st, .int .i64 sm] 47;obtain ⟨n0,n1,n2,n3,n4⟩:=jc5 NB;have hMr2:¬w.heap.size=r:=by omega
      have hNl:N1≤200:=by
       have h1:=hcs;rw [za HSZ] at h1;omega
      clear KG3 HRG2 hto bA HAT HTO hgt hmem NB hT;go_wp2_with (first |(at_mapUpdate;refine wpList_mapUpdate_own _ rfl _ _ _ 78 rfl 9 47 MapN.law Tryz.underlying78 _ w.heap.size N1 _ rfl (za KG4).map (by unfold maxLen;omega) _ _ _ rfl rfl hkey _ [] (MapN.zk3 ⟨sp,sk,sd,st,sm⟩) ?_;intro wZ hownZ hgrowZ)|fail)
      have HRZ:=hide ((za HRG4).kept hgrowZ (fun e=>by have :=Option.some.inj e;omega) (fun e=>by have :=Option.some.inj e;omega))
      have HK4:Hid (∃N1 D1 C1,N1≤40*k+(T++[(⟨sp,ck,cd,ct,cm⟩:Pl.Nd)]).length∧Gk w wZ Ls w.heap.size N1 D1 C1∧(∀n∈C,n∈C1)∧∀m∈T++[(⟨sp,ck,cd,ct,cm⟩:Pl.Nd)],(Pl.zc3 Ls m.path).told=true→(Pl.zc3 Ls m.path).node∈C1):=
       ⟨N1+1,_,MapN.putC C1 ⟨sp,sk,sd,st,sm⟩,by rw [List.length_append];simp;omega,⟨(za KG4).bel.grown hgrowZ (za KG4).bel.size (fun q hq=>by cases hq;exact Nat.le_refl _),hownZ,za HGP⟩,fun n hn=>(za HME n).2 (.inl (za HSB n hn)),za HVC _ (fun n hn=>(za HME n).2 (.inl hn)) (fun _=>(za HME _).2 (.inr rfl))⟩
      have hr4:r<wZ.heap.size:=by have h1:=hgrowZ.size;simp at h1;omega
      clear KG4 HRG4 HSB HVC HGP HME hownZ hgrowZ n0 n1 n2 n3 n4;go_wp2
      go_roundw
      case rel=>exact ⟨_,cnt1,T++[⟨sp,ck,cd,ct,cm⟩],za HRZ,by simp;omega,za HG2,hr4,za HK4⟩
      case measure=>rw [(za HRZ).left_eq,za HLE];exact hlt1
  ·obtain rfl:k=Ls.length:=by omega
   have y1:¬ ((Ls.length:Int)<(Ls.length:Int)):=by omega
   go_wp2
   go_ret
   refine ⟨rfl,⟨N,D,C,by omega,za KG,fun n=>⟨(za KG).gt.sub n,fun hn=>?_⟩⟩⟩;obtain ⟨L,hL,m,hm,h1,h2⟩:=hn;obtain ⟨j,hj⟩:=List.mem_iff_getElem?.1 hL;rw [h2];exact za HAll j L (List.getElem?_eq_some_iff.1 hj).1 hj m hm h1
end ya9
end
section
open Go.RowKit
namespace Pl
structure It where
 m:Int
 t:Tr
def It.r (x:It):Int × List Nd:=(x.m,x.t.L)
end Pl
namespace Mem
def zb0 (w:World) (a:Option Addr) (Is:List Pl.It):Prop:=
 ∀ (i:Nat) x,Is[i]? =some x→(∃b o,a=some ⟨b,o,none⟩∧b<w.heap.size∧w.cell? ⟨b,o+i*2,none⟩=some (.int .i64 x.m)∧w.cell? ⟨b,o+i*2+1,none⟩=some x.t.val)∧za2 w x.t.a x.t.L
theorem zb2 {w w':World} {a:Option Addr} {Is:List Pl.It} (h:zb0 w a Is) (b:Below w.heap.size w w'):zb0 w' a Is:=fun i t hi=>by
 obtain ⟨⟨g,o,h1,h2,h3,h5⟩,h4⟩:=h i t hi;exact ⟨⟨g,o,h1,Nat.lt_of_lt_of_le h2 b.size,(b.cell (p:=⟨g,_,none⟩) h2).trans h3,(b.cell (p:=⟨g,_,none⟩) h2).trans h5⟩,za0 h4 b⟩
theorem yc8 (w:World) (a:Option Addr):zb0 w a []:=fun i n hi=>by simp at hi
theorem items_drop {w:World} {b o:Nat} {Is:List Pl.It} (k:Nat) (h:zb0 w (some ⟨b,o,none⟩) Is):zb0 w (some ⟨b,o+k*2,none⟩) (Is.drop k):=fun i t hi=>by
 rw [List.getElem?_drop] at hi;obtain ⟨⟨g,o',h1,h2,h3,h5⟩,h4⟩:=h _ t hi;cases h1
 refine ⟨⟨b,_,rfl,h2,?_,?_⟩,h4⟩
 ·rw [show o+k*2+i*2=o+(k+i)*2 by omega];exact h3
 ·rw [show o+k*2+i*2+1=o+(k+i)*2+1 by omega];exact h5
def shifted (a a':Option Addr) (k:Nat) (Is:List Pl.It):Prop:=Is.drop k=[]∨∃b o,a=some ⟨b,o,none⟩∧a'=some ⟨b,o+k*2,none⟩
theorem items_shift {w:World} {a a':Option Addr} {k:Nat} {Is:List Pl.It} (h:zb0 w a Is) (hs:shifted a a' k Is):zb0 w a' (Is.drop k):=by
 rcases hs with hs|⟨b,o,rfl,rfl⟩
 ·rw [hs];exact yc8 _ _
 ·exact items_drop k h
theorem shifted_trans {a a' a'':Option Addr} {k j:Nat} {Is:List Pl.It} (h:shifted a a' k Is) (h':shifted a' a'' j (Is.drop k)):shifted a a'' (k+j) Is:=by
 rcases h' with h'|⟨b,o,e1,e2⟩
 ·rw [List.drop_drop] at h';exact .inl h'
 ·rcases h with h|⟨b1,o1,e3,e4⟩
  ·left;rw [←List.drop_drop,h,List.drop_nil]
  ·rw [e4] at e1;cases e1
   exact .inr ⟨_,o1,e3,by rw [e2];congr 2;omega⟩
end Mem
end
end Go.Proofs.YthdhhcgopfgcbaaGreatDoor
