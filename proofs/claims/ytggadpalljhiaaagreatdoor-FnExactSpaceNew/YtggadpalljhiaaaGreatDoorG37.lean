/- Several texts of one claim in one file: WMkB, WMkY, WMkM. -/
import Derived.Test.YtggadpalljhiaaaGreatDoorG36
import Derived.Test.YtggadpalljhiaaaGreatDoorG33
import Derived.Test.YtggadpalljhiaaaGreatDoorMemOwnB
import Derived.Test.YtggadpalljhiaaaGreatDoorPlainMkZ
import Derived.Deep.Cut
import Derived.Test.YtggadpalljhiaaaGreatDoorG05
namespace Go.Proofs.YtggadpalljhiaaaGreatDoor
section
open Go.RowKit
namespace WMkB
theorem lay_one {w:World} {B g i K:Nat} {Js:List Pl.It} {x:Pl.It} (o:Mem.OwnI w B g Js) (hx:Js[i]? =some x) (hn:x.t.L.length≤1048576) (hK:0<K) (hK2:K≤1000000):
  Calls Tryz.prog 24 #[.slice x.t.a x.t.L.length x.t.cap, .int .i64 (K:Int)] w fun e w'=>e= .returned (.int .i64 ((K+5*x.t.L.length:Nat):Int))∧Mem.OwnI w' B g (Js.set i ⟨x.m,⟨x.t.a,x.t.cap,Pl.zl6 K x.t.L.length⟩⟩)∧(∀G,(∀h,x.t.a=some ⟨h,0,none⟩→h<G)→Mem.Band B G w w'):=by
 rcases o.own i x hx with ⟨e1,e2,e3⟩|⟨h,c,k1,k2,k3,k4,k5⟩
 ·rw [e1,e2,e3];refine (WMarkI.layNil K w).mono fun e w' ⟨he,b⟩=>⟨he,?_,fun _ _=>Mem.Band.of_below b⟩
  have :Js.set i ⟨x.m,⟨none,0,Pl.zl6 K 0⟩⟩=Js:=by
   apply List.ext_getElem?
   intro j;rw [List.getElem?_set];by_cases e:i=j
   ·subst e;rw [if_pos rfl,if_pos (List.getElem?_eq_some_iff.1 hx).1,hx];obtain ⟨m,a,cap,L⟩:=x;simp only at e1 e2 e3;subst e1 e2 e3;rfl
   ·rw [if_neg e]
  simp only [List.length_nil];rw [this];exact o.call b
 ·rw [k1];refine (zh6.lay_any h x.t.L.length x.t.cap K c w hn hK (Nat.le_trans hK2 (by decide)) k4 k5).mono fun e w' ⟨he,⟨c',r1,r2⟩,hnd,gr⟩=>⟨he,?_,fun G hb=>?_⟩
  ·have :=o.nodes hx k1 gr ⟨c',r1,by omega⟩ hnd (Pl.zx6 _ _);rw [k1] at this;exact this
  ·exact Mem.Band.zw4 gr k2 (hb h rfl)
set_option linter.unusedSimpArgs false in
set_option maxRecDepth 100000 in
set_option maxHeartbeats 1000000 in
theorem zd8 (B g cap K G:Nat) (Is:List Pl.It) (w:World) (hn:Is.length≤1000) (hL:∀x∈Is,x.t.L.length≤1048576) (hK:0<K) (hK2:∀i,i≤Is.length→Pl.kAt K Is i≤100000) (o:Mem.OwnI w B g Is) (hgG:g<G) (hG:∀x∈Is,∀h,x.t.a=some ⟨h,0,none⟩→h<G):
  Calls Tryz.prog 10 #[.slice (some ⟨g,0,none⟩) Is.length cap, .int .i64 (K:Int)] w fun e w'=>e= .returned (.int .i64 (Pl.kAt K Is Is.length:Int))∧Mem.OwnI w' B g (Pl.mkTo K Is Is.length)∧Mem.Band B G w w':=by
 have HO0:Hid (Mem.OwnI w B g (Pl.mkTo K Is 0)):=hide (by rw [Pl.mkTo_zero];exact o);have HL:=hide hL;have HG:=hide hG;have HK2:=hide hK2;have HKG:Hid (∀i,0<Pl.kAt K Is i):=hide (fun i=>Nat.lt_of_lt_of_le hK (Pl.kAt_ge K Is i));have HKS:Hid (∀ (i:Nat) x,Is[i]? =some x→Pl.kAt K Is (i+1)=Pl.kAt K Is i+1+5*x.t.L.length):=hide (fun i x h=>Pl.kAt_succ h);have HMG:Hid (∀ (i:Nat) x,Is[i]? =some x→(Pl.mkTo K Is i)[i]? =some x):=hide (fun i x h=>by rw [Pl.zq8,h];simp);have HMS:Hid (∀ (i:Nat) x,Is[i]? =some x→((Pl.mkTo K Is i).set i ⟨((Pl.kAt K Is i:Nat):Int),x.t⟩).set i ⟨((Pl.kAt K Is i:Nat):Int),⟨x.t.a,x.t.cap,Pl.zl6 (Pl.kAt K Is i+1) x.t.L.length⟩⟩=Pl.mkTo K Is (i+1)):=hide (fun i x h=>by rw [List.set_set];exact Pl.mkTo_succ K h);have HML:Hid (∀i,(Pl.mkTo K Is i).length=Is.length):=hide (fun i=>Pl.zq9 K Is i);have HK0:Hid (Pl.kAt K Is 0=K):=hide rfl
 generalize Pl.mkTo K Is=MT at HO0 HMG HMS HML ⊢;generalize Pl.kAt K Is=KA at HK2 HKG HKS HMS HK0 ⊢;have hK3:=za HK2 Is.length (Nat.le_refl _);clear hL hK2 o hG;go_enter Tryz.func10,Tryz.ntmps10
 go_wp2
 go_loopw [1,5] (fun q i wr=>∃j:Nat,j≤Is.length∧i= .int .i64 (j:Int)∧q= .int .i64 (KA j:Int)∧Hid (Mem.OwnI wr B g (MT j))∧Hid (Mem.Band B G w wr)) (fun _ i _=>Is.length - (intOf i).toNat)
 case atStart=>exact ⟨0,Nat.zero_le _,rfl,by rw [za HK0],HO0,Mem.Band.refl _ _ _⟩
 case round=>
  obtain ⟨j,hj,rfl,rfl,HO,hbel⟩:=hrel;clear HO0;by_cases hlt:j<Is.length
  ·obtain ⟨x,hx⟩:∃x,Is[j]? =some x:=⟨_,List.getElem?_eq_getElem hlt⟩;have hmx:=za HMG j x hx;have u1:(j:Int)<(Is.length:Int):=by omega
   have u3:(0:Int)≤(j:Int):=by omega
   have hkj:=za HK2 j hj;have hks:=za HKS j x hx;have hkk:=za HKG j;obtain ⟨cur,r1,r2⟩:=(za HO).row;rw [za HML] at r2;obtain ⟨x0,s0⟩:∃x,wr.cell? ⟨g,j*2,none⟩=some x:=⟨_,(cell_of_row wr _ (j*2) _ _ (0,0) r1).trans (Array.getElem?_eq_getElem (by omega))⟩;have f0:wr.frozen? ⟨g,j*2,none⟩=false:=Mem.zb1 r1;have O1:=(za HO).many hmx ((KA j:Nat):Int)
   have hx1:((MT j).set j ⟨((KA j:Nat):Int),x.t⟩)[j]? =some ⟨((KA j:Nat):Int),x.t⟩:=by
    rw [List.getElem?_set,if_pos rfl,if_pos (by rw [za HML];exact hlt)]
   obtain ⟨⟨b',o',e', -, -,c1⟩, -⟩:=O1.items j _ hx1;cases e'
   simp only [Pl.Tr.val,Nat.zero_add] at c1;have hcall:=hide (lay_one (K:=KA j+1) O1 hx1 (za HL x (List.mem_of_getElem? hx)) (by omega) (by omega));have HST:=hide (za HMS j x hx);have hb1:Mem.Band B G w (wr.setCell ⟨g,j*2,none⟩ (.int .i64 ((KA j:Nat):Int))):=(za hbel).trans (Mem.Band.of_set _ _ (za HO).lo hgG);have HGX:=hide (za HG x (List.mem_of_getElem? hx));have hs1:(wr.setCell ⟨g,j*2,none⟩ (.int .i64 ((KA j:Nat):Int))).heap.size=wr.heap.size:=by simp
   have HB1:=hide hb1;have HKS2:=hide hks;clear hx hmx r1 r2 O1 hx1 HO hbel hks hb1;simp only [Int.natCast_add,Int.cast_ofNat_Int] at hcall;go_wp2_with fail
   refine (za hcall).mono ?_;rintro e w2 ⟨rfl,o2,b2⟩;have hb2:=hide ((za HB1).trans (b2 G (za HGX)));rw [za HST] at o2;have HO2:=hide o2;clear hcall o2 b2 s0 f0 c1 HB1;go_wp2
   go_roundw
   case rel=>exact ⟨j+1,by omega,by go_num,by rw [za HKS2];go_num,HO2,hb2⟩
   case measure=>simp [intOf];omega
  ·have u1:¬ (j:Int)<(Is.length:Int):=by omega
   obtain rfl:j=Is.length:=by omega
   go_wp2
   go_ret
   exact ⟨rfl,za HO,za hbel⟩
end WMkB
end
section
open Go.RowKit
namespace WMkY
structure Mz (W:World) (S:Nat) (a:Option Addr) (cap K:Nat) (N:List Pl.Ns) (lo hi:Nat→Nat) (j:Nat):Prop where
 row:W.ownsRow S 49 2 (.slice a N.length cap) N.length (Pl.zd5 (Pl.mkZ K N j))
 each:∀ (i:Nat) x,N[i]? =some x→S≤lo i∧hi i≤W.heap.size∧(∀g,(Value.slice a N.length cap).ownBlock=some g→g<lo i∨hi i≤g)∧∃g,x.a=some ⟨g,0,none⟩∧Mem.OwnB W (lo i) (hi i) g (if i<j then Pl.mkTo (Pl.kZ K N i+1) x.Is x.Is.length else x.Is)
 rise:∀i k,i<k→k<N.length→hi i≤lo k
theorem Mz.start {W:World} {S cap:Nat} {a:Option Addr} {N:List Pl.Ns} {lo hi:Nat→Nat} (K:Nat) (h:Mem.Iz W S (.slice a N.length cap) N lo hi) (hn:∀x∈N,x.Is.length≠0):Mz W S a cap K N lo hi 0:=
 ⟨by rw [Pl.mkZ_zero];exact h.row,fun i x hx=>by
  obtain ⟨h1,h2,h3,h4,h5⟩:=h.each i x hx;obtain ⟨g,e,o⟩:=h1.own (hn x (List.mem_of_getElem? hx))
  exact ⟨h2,h4,h5,g,e,by rw [if_neg (by omega)];exact o⟩,h.rise⟩
theorem Mz.call {W W':World} {S cap K j:Nat} {a:Option Addr} {N:List Pl.Ns} {lo hi:Nat→Nat} (h:Mz W S a cap K N lo hi j) (b:Below W.heap.size W W'):Mz W' S a cap K N lo hi j:=
 ⟨Mem.ze8 h.row b,fun i x hx=>by
  obtain ⟨h1,h2,h3,g,h4,h5⟩:=h.each i x hx
  exact ⟨h1,Nat.le_trans h2 b.size,h3,g,h4,h5.same b.size (fun q _ _ hq=>b.block q hq)⟩,h.rise⟩
theorem Mz.zf9 {W:World} {S cap K:Nat} {a:Option Addr} {N:List Pl.Ns} {lo hi:Nat→Nat} (h:Mz W S a cap K N lo hi N.length):Mem.ze4 W a (Pl.mkZ K N N.length):=fun i y hy=>by
 rw [Pl.zm2,Option.map_eq_some_iff] at hy;obtain ⟨x,hx,e⟩:=hy;have hl:=(List.getElem?_eq_some_iff.1 hx).1;rw [if_pos hl] at e;subst e;obtain ⟨h1,h2,h3,g,h4,h5⟩:=h.each i x hx;rw [if_pos hl] at h5
 rcases h.row.2 with ⟨e,h0⟩|⟨g0,c,cur,e,hb,hg,rest⟩
 ·rw [h0] at hl;omega
 ·cases e
  have hy2:(Pl.mkZ K N N.length)[i]? =some (Pl.mkN1 (Pl.kZ K N i) x):=by rw [Pl.zm2,hx,Option.map_some,if_pos hl]
  have hcl:=Pl.zk5 _ i _ hy2;refine ⟨⟨g0,0,rfl,(Array.getElem?_eq_some_iff.1 hg).1,?_,?_⟩,?_⟩
  ·rw [Nat.zero_add];exact (Mem.zg h.row hcl.1).1
  ·rw [Nat.zero_add];exact (Mem.zg h.row hcl.2).1
  ·show Mem.zb0 W x.a _;rw [h4];exact h5.o.items
theorem Mz.id {W:World} {S g0 cap K j:Nat} {N:List Pl.Ns} {lo hi:Nat→Nat} {x:Pl.Ns} (h:Mz W S (some ⟨g0,0,none⟩) cap K N lo hi j) (hx:N[j]? =some x):
  (W.setCell ⟨g0,j*2,none⟩ (.int .i64 (Pl.kZ K N j:Int))).ownsRow S 49 2 (.slice (some ⟨g0,0,none⟩) N.length cap) N.length (Pl.zd5 (Pl.mkZ K N (j+1)))∧
  ∀ (i:Nat) y,N[i]? =some y→∃g,y.a=some ⟨g,0,none⟩∧Mem.OwnB (W.setCell ⟨g0,j*2,none⟩ (.int .i64 (Pl.kZ K N j:Int))) (lo i) (hi i) g (if i<j then Pl.mkTo (Pl.kZ K N i+1) y.Is y.Is.length else y.Is):=by
 have hy:(Pl.mkZ K N j)[j]? =some x:=by rw [Pl.zm2,hx,Option.map_some,if_neg (by omega)]
 refine ⟨?_,fun i y hi=>?_⟩
 ·have h1:=Mem.zq5 h.row (j*2) (.int .i64 (Pl.kZ K N j:Int));have h2:=Pl.cellsZ_set (Pl.mkZ K N j) j x (Pl.mkN1 (Pl.kZ K N j) x) hy rfl rfl (Pl.zq9 _ _ _);rw [Pl.mkZ_succ K hx] at h2;rw [←h2];exact h1
 ·obtain ⟨-, -,h3,g,h4,h5⟩:=h.each i y hi;have :=h3 g0 rfl;exact ⟨g,h4,h5.same (by rw [World.size_setCell];exact Nat.le_refl _) (fun b h1 h2 _=>heap_setCell_other _ _ _ _ (by show b≠g0;omega))⟩
theorem Mz.fin {W W2:World} {S g0 g cap K j:Nat} {N:List Pl.Ns} {lo hi:Nat→Nat} {x:Pl.Ns} (h:Mz W S (some ⟨g0,0,none⟩) cap K N lo hi j) (hx:N[j]? =some x) (hg:x.a=some ⟨g,0,none⟩)
  (o:Mem.OwnI W2 (lo j) g (Pl.mkTo (Pl.kZ K N j+1) x.Is x.Is.length)) (b:Mem.Band (lo j) (hi j) (W.setCell ⟨g0,j*2,none⟩ (.int .i64 (Pl.kZ K N j:Int))) W2):Mz W2 S (some ⟨g0,0,none⟩) cap K N lo hi (j+1):=by
 obtain ⟨h1,h2⟩:=h.id hx;have hlj:=(List.getElem?_eq_some_iff.1 hx).1;have hgj:=(h.each j x hx).2.2.1 g0 rfl;have hsz:=b.size;have hs0:(W.setCell ⟨g0,j*2,none⟩ (.int .i64 (Pl.kZ K N j:Int))).heap.size=W.heap.size:=World.size_setCell _ _ _;refine ⟨Mem.zc9 h1 (fun q hq=>b.block q (World.ownsRow.lt h1 q hq).2 (by cases hq;omega)),fun i y hy=>?_,h.rise⟩;obtain ⟨e1,e2,e3, -⟩:=h.each i y hy;obtain ⟨g',k1,k2⟩:=h2 i y hy;refine ⟨e1,by omega,e3,?_⟩;have hli:=(List.getElem?_eq_some_iff.1 hy).1;by_cases e:i=j
 ·subst e;rw [hx] at hy;cases hy
  rw [hg] at k1;cases k1
  rw [if_neg (by omega)] at k2;exact ⟨g,hg,by rw [if_pos (by omega)];exact Mem.OwnB.marks o k2.gH k2.hH⟩
 ·refine ⟨g',k1,?_⟩
  have hd:hi i≤lo j∨hi j≤lo i:=by
   rcases Nat.lt_or_ge i j with h3|h3
   ·exact .inl (h.rise i j h3 hlj)
   ·exact .inr (h.rise j i (by omega) hli)
  have h3:=k2.same hsz (fun q q1 q2 q3=>b.block q q3 (by omega));by_cases e2:i<j
  ·rw [if_pos e2] at h3;rw [if_pos (by omega)];exact h3
  ·rw [if_neg e2] at h3;rw [if_neg (by omega)];exact h3
set_option linter.unusedSimpArgs false in
set_option maxRecDepth 100000 in
set_option maxHeartbeats 2000000 in
theorem zk2 (S g0 cap:Nat) (N:List Pl.Ns) (lo hi:Nat→Nat) (H:Nat) (w:World) (hn:N.length≤12) (hI:∀x∈N,x.Is.length≤12∧∀t∈x.Is,t.t.L.length≤40) (hv:Mz w S (some ⟨g0,0,none⟩) cap 1 N lo hi 0) (hg0:g0<H) (hH:∀i,i<N.length→hi i≤H):
  Calls Tryz.prog 47 #[.slice (some ⟨g0,0,none⟩) N.length cap, .int .i64 1] w fun e w'=>e= .returned (.int .i64 (Pl.kZ 1 N N.length:Int))∧Mz w' S (some ⟨g0,0,none⟩) cap 1 N lo hi N.length∧Mem.Band S H w w':=by
 have hS0:S≤g0:=(World.ownsRow.lt hv.row g0 rfl).1;have HI:=hide hI;have HV:=hide hv;have HH:=hide hH;clear hI hv hH;go_enter Tryz.func47,Tryz.ntmps47
 go_wp2
 go_loopw [1,5] (fun a i wr=>∃j:Nat,j≤N.length∧i= .int .i64 (j:Int)∧a= .int .i64 (Pl.kZ 1 N j:Int)∧Hid (Mz wr S (some ⟨g0,0,none⟩) cap 1 N lo hi j∧Mem.Band S H w wr)) (fun _ i _=>N.length - (intOf i).toNat)
 case atStart=>exact ⟨0,Nat.zero_le _,rfl,rfl,⟨za HV,Mem.Band.refl _ _ _⟩⟩
 case round=>
  obtain ⟨j,hj,rfl,rfl,HA⟩:=hrel;by_cases hlt:j<N.length
  ·obtain ⟨x,hx⟩:∃x,N[j]? =some x:=⟨_,List.getElem?_eq_getElem hlt⟩;obtain ⟨hI1,hI2⟩:=za HI x (List.mem_of_getElem? hx);have hk1:=Pl.kZ_le 1 N (za HI) j (by omega);have hk0:=Pl.kZ_ge 1 N j;have HKS:Hid (Pl.kZ 1 N (j+1)=Pl.kAt (Pl.kZ 1 N j+1) x.Is x.Is.length):=hide (Pl.kZ_succ hx);obtain ⟨e1,e2,e3,g,e4,e5⟩:=(za HA).1.each j x hx;rw [if_neg (by omega)] at e5;have hy:(Pl.mkZ 1 N j)[j]? =some x:=by rw [Pl.zm2,hx,Option.map_some,if_neg (by omega)]
   have hcl:=Pl.zk5 _ j _ hy;obtain ⟨c0,f0⟩:=Mem.zg (za HA).1.row hcl.1;obtain ⟨r1,r2⟩:=(za HA).1.id hx;have hy2:(Pl.mkZ 1 N (j+1))[j]? =some (Pl.mkN1 (Pl.kZ 1 N j) x):=by rw [Pl.zm2,hx,Option.map_some,if_pos (by omega)]
   have c1:=(Mem.zg r1 (Pl.zk5 _ j _ hy2).2).1;obtain ⟨g',k1,k2⟩:=r2 j x hx;rw [if_neg (by omega)] at k2
   have hk3:∀i,i≤x.Is.length→Pl.kAt (Pl.kZ 1 N j+1) x.Is i≤100000:=fun i hi=>by
    have :=Pl.kAt_le (Pl.kZ 1 N j+1) x.Is hI2 i hi;omega
   have hml:=hide (WMkB.zd8 (lo j) g' x.cap (Pl.kZ 1 N j+1) (hi j) x.Is _ (by omega) (fun t ht=>by have :=hI2 t ht;omega) (by omega) hk3 k2.o k2.gH k2.hH);have HFIN:=hide (fun W2 o b=>(za HA).1.fin (W2:=W2) hx k1 o b);have hg0w:g0<wr.heap.size:=(World.ownsRow.lt (za HA).1.row g0 rfl).2;have hB1:=hide ((za HA).2.trans (Mem.Band.of_set (w:=wr) ⟨g0,j*2,none⟩ (.int .i64 (Pl.kZ 1 N j:Int)) hS0 hg0));have hhj:=za HH j hlt;simp only [Pl.mkN1,Pl.zq9] at c1;obtain ⟨xd,xa,xc,xI⟩:=x;simp only at k1 c1 hml HFIN HKS c0;subst k1;generalize Pl.kZ 1 N j=KJ at hk1 hk0 HKS hml HFIN hB1 c1 ⊢;have eK:((KJ+1:Nat):Int)=(KJ:Int)+1:=by omega
   rw [eK] at hml;have u1:(j:Int)<(N.length:Int):=by omega
   have u3:(0:Int)≤(j:Int):=by omega
   have hkb:KJ≤100000:=by omega
   clear r1 r2 k2 hk3 hx hy hcl hy2 eK HA e3 e4 e5 hI1 hI2 hk1;go_wp2_with fail
   refine (za hml).mono ?_;rintro e w2 ⟨rfl,ho,hb⟩;have HA2:Hid (Mz w2 S (some ⟨g0,0,none⟩) cap 1 N lo hi (j+1)∧Mem.Band S H w w2):=⟨za HFIN _ ho hb,(za hB1).trans ⟨hb.os,hb.tape,hb.output,hb.size,fun q hq hh=>hb.block q hq (by omega)⟩⟩;clear ho hb hml HFIN hB1 c1 c0 f0;go_wp2
   go_roundw
   case rel=>exact ⟨j+1,by omega,by go_num,by rw [za HKS],HA2⟩
   case measure=>simp [intOf];omega
  ·have u1:¬ (j:Int)<(N.length:Int):=by omega
   have hje:j=N.length:=by omega
   subst hje;go_wp2
   go_ret
   exact ⟨rfl,za HA⟩
end WMkY
end
section
open Go.RowKit
namespace Pl
def third (k:Nat):Bool:=decide (k % 3=0)
theorem third_is (q:Nat):(((q:Int)+1+1) % 3==0)=third (q+2):=by
 unfold third;rw [Bool.eq_iff_iff];simp only [beq_iff_eq,decide_eq_true_eq];omega
def mkMn (K j:Nat):Pl.Mn:=⟨mark (K+3*j),((K+3*j+1:Nat):Int),third (K+3*j+2)⟩
def zo4 (K n:Nat):List Pl.Mn:=(List.range n).map (mkMn K)
theorem mkMns_len (K n:Nat):(zo4 K n).length=n:=by simp [zo4]
theorem mkMns_get (K n j:Nat) (h:j<n):(zo4 K n)[j]? =some (mkMn K j):=by
 unfold zo4;rw [List.getElem?_map,List.getElem?_range h];rfl
end Pl
namespace WMkM
def rowAt (cv:Array Value) (K j:Nat):Prop:=cv[j*3]? =some (.string (Pl.mark (K+3*j)))∧cv[j*3+1]? =some (.int .i64 ((K+3*j+1:Nat):Int))∧cv[j*3+2]? =some (.bool (Pl.third (K+3*j+2)))
theorem row_is {w:World} {g K n:Nat} {cv:Array Value} (h:w.heap[g]? =some (.cells cv 51 (0,0))) (hA:∀j,j<n→rowAt cv K j):Mem.zb2 w (some ⟨g,0,none⟩) (Pl.zo4 K n):=fun i x hi=>by
 have hl:=(List.getElem?_eq_some_iff.1 hi).1;rw [Pl.mkMns_len] at hl;rw [Pl.mkMns_get K n i hl] at hi;cases hi
 obtain ⟨h0,h1,h2⟩:=hA i hl;refine ⟨g,0,rfl,(Array.getElem?_eq_some_iff.1 h).1,?_,?_,?_⟩
 ·rw [cell_of_row w _ _ _ _ (0,0) h,Nat.zero_add];exact h0
 ·rw [cell_of_row w _ _ _ _ (0,0) h,Nat.zero_add];exact h1
 ·rw [cell_of_row w _ _ _ _ (0,0) h,Nat.zero_add];exact h2

set_option linter.unusedSimpArgs false in
set_option maxRecDepth 100000 in
set_option maxHeartbeats 1000000 in
theorem zd8 (g n cap K:Nat) (cur:Array Value) (w:World) (hn:n≤1048576) (hK:0<K) (hK2:K≤8500000000000000000) (hrow:w.heap[g]? =some (.cells cur 51 (0,0))) (hsz:n*3≤cur.size):
  Calls Tryz.prog 48 #[.slice (some ⟨g,0,none⟩) n cap, .int .i64 (K:Int)] w fun e w'=>e= .returned (.int .i64 ((K+3*n:Nat):Int))∧
   (∃cur',w'.heap[g]? =some (.cells cur' 51 (0,0))∧cur'.size=cur.size)∧Mem.zb2 w' (some ⟨g,0,none⟩) (Pl.zo4 K n)∧w.grownBy w' (some g):=by
 have HR0:=hide hrow;have HS0:=hide hsz;clear hrow hsz;go_enter Tryz.func48,Tryz.ntmps48
 go_wp2
 go_loopw [1,5] (fun a i wr=>∃ (k q:Nat) (cv:Array Value),k≤n∧q=K+3*k∧i= .int .i64 (k:Int)∧a= .int .i64 (q:Int)∧Hid (wr.heap[g]? =some (.cells cv 51 (0,0)))∧Hid (cv.size=cur.size)∧Hid (w.grownBy wr (some g))∧
   Hid (∀j,j<k→rowAt cv K j)) (fun _ i _=>n - (intOf i).toNat)
 case atStart=>exact ⟨0,K,cur,Nat.zero_le _,rfl,rfl,rfl,HR0,rfl,⟨rfl,rfl,rfl,Nat.le_refl _,fun _ _ _=>rfl⟩,fun j h=>absurd h (by omega)⟩
 case round=>
  obtain ⟨k,q,cv,hk,hq,rfl,rfl,HR,HS,HG,HA⟩:=hrel;by_cases hlt:k<n
  ·have y1:(k:Int)<(n:Int):=by omega
   have y3:(0:Int)≤(k:Int):=by omega
   have HM:=hide (fun W=>zm4.zd8 q W (by omega) (by omega));have HQ:=hide hq;have q1:(q:Int)≤9000000000000000000:=by omega
   clear hq;have hcz:n*3≤cv.size:=by rw [za HS];exact za HS0
   have HCZ:=hide hcz;clear hcz;go_wp2_with fail
   refine (za HM _).mono ?_;rintro e w2 ⟨rfl,b2⟩;have hg:g<wr.heap.size:=(Array.getElem?_eq_some_iff.1 (za HR)).1;have HR2:=hide ((b2.block _ hg).trans (za HR));have hcz:=za HCZ;have s0:∃x,w2.cell? ⟨g,k*3,none⟩=some x:=⟨_,(cell_of_row w2 _ (k*3) _ _ (0,0) (za HR2)).trans (Array.getElem?_eq_getElem (by omega))⟩;have s1:∃x,w2.cell? ⟨g,k*3+1,none⟩=some x:=⟨_,(cell_of_row w2 _ (k*3+1) _ _ (0,0) (za HR2)).trans (Array.getElem?_eq_getElem (by omega))⟩;have s2:∃x,w2.cell? ⟨g,k*3+2,none⟩=some x:=⟨_,(cell_of_row w2 _ (k*3+2) _ _ (0,0) (za HR2)).trans (Array.getElem?_eq_getElem (by omega))⟩;obtain ⟨x0,s0⟩:=s0;obtain ⟨x1,s1⟩:=s1;obtain ⟨x2,s2⟩:=s2;have f0:∀j,w2.frozen? ⟨g,j,none⟩=false:=fun j=>Mem.zb1 (za HR2);have HG2:=hide (zh6.zp9 (za HG) b2);clear b2 HR HG hcz hg HM;go_wp2
   go_roundw
   case rel=>
    refine ⟨k+1,q+3,_,by omega,by have :=za HQ;omega,by go_num,by go_num,hide (heap_setCell_same _ _ (k*3+2) _ _ _ (heap_setCell_same _ _ (k*3+1) _ _ _ (heap_setCell_same _ _ (k*3) _ _ _ (za HR2)))),?_,hide (zh6.zc4 (zh6.zc4 (zh6.zc4 (za HG2)))),?_⟩
    ·exact hide (by simpa using za HS)
    ·intro j hj;have hcz:=za HCZ
     rcases Nat.lt_succ_iff_lt_or_eq.1 hj with h''|rfl
     ·obtain ⟨i0,i1,i2⟩:=HA.out j h'';simp only [rowAt,Array.getElem?_setIfInBounds];refine ⟨?_,?_,?_⟩ <;> (repeat (rw [if_neg (by omega)])) <;> assumption
     ·have hq:=za HQ;simp only [rowAt,Array.getElem?_setIfInBounds,Array.size_setIfInBounds,←hq];refine ⟨by simp;omega,by simp;omega,?_⟩;simp
      exact ⟨by omega,Pl.third_is q⟩
   case measure=>simp [intOf];omega
  ·obtain rfl:k=n:=by omega
   have y1:¬ (k:Int)<(k:Int):=by omega
   have hq2:(q:Int)=((K+3*k:Nat):Int):=by omega
   have HQ:=hide hq2;have HI:=hide (row_is (za HR) (za HA));clear hq hq2;go_wp2
   go_ret
   exact ⟨(by rw [za HQ];first |done|rfl),⟨cv,za HR,za HS⟩,za HI,za HG⟩
end WMkM
end
end Go.Proofs.YtggadpalljhiaaaGreatDoor
