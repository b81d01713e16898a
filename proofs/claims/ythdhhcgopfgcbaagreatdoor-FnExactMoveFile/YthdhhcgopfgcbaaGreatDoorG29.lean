/- Several texts of one claim in one file: WChildA, WChildS, WBase1S, WNames3, WName4, WNames4, WJoinS, WAtQ, WWalk4, WOver4. -/
import Derived.Test.YthdhhcgopfgcbaaGreatDoorWPickS
import Derived.Test.YthdhhcgopfgcbaaGreatDoorG10
namespace Go.Proofs.YthdhhcgopfgcbaaGreatDoor
section
open Go.RowKit
namespace zn6
theorem zk7 (w:World) (o:Obj):(w.alloc o).heap.size=w.heap.size+1:=by simp
def boolsV (H:List Bool):List Value:=H.map Value.bool
theorem infoB:(Tryz.prog.info? 4).map (fun i=>(i.zero,i.size,i.bytes))=some (some (.bool false),1,1):=by kernel_rfl
theorem zn2:(Tryz.prog.info? 47).map (fun i=>(i.zero,i.size,i.bytes))=some (some (.agg #[.string ⟨#[]⟩, .int .i64 0, .string ⟨#[]⟩, .int .i64 0, .int .i64 0]),5,56):=by kernel_rfl
theorem zk9 {w w':World} {B e size n:Nat} {v:Value} {xs:List Value} (h:w.ownsRow B e size v n xs) (b:Below w.heap.size w w'):w'.ownsRow B e size v n xs:=by
 refine ⟨h.1,?_⟩
 rcases h.2 with h0|⟨g,cap,cur,hv,hb,hg,rest⟩
 ·exact .inl h0
 ·exact .inr ⟨g,cap,cur,hv,hb,(b.block g (Array.getElem?_eq_some_iff.1 hg).1).trans hg,rest⟩
theorem zy6 {w w':World} {B e size n:Nat} {v:Value} {xs:List Value} {r:Option Nat} (h:w.ownsRow B e size v n xs) (hg:w.grownBy w' r) (hr:∀g,v.ownBlock=some g→some g≠r):w'.ownsRow B e size v n xs:=by
 refine ⟨h.1,?_⟩
 rcases h.2 with h0|⟨g,cap,cur,rfl,hb,hh,rest⟩
 ·exact .inl h0
 ·exact .inr ⟨g,cap,cur,rfl,hb,(hg.block g (Array.getElem?_eq_some_iff.1 hh).1 (hr g rfl)).trans hh,rest⟩
structure ChP (w W:World) (vN vH:Value) (N:List Pl.Nd) (H:List Bool):Prop where
 bel:Below w.heap.size w W
 res:Mem.Blk W w.heap.size (zb6 ⟨false,Pl.za6,[]⟩ (.slice none 0 0)).toArray 200
 nodes:Mem.ownN W (w.heap.size+1) vN N
 has:W.ownsRow (w.heap.size+1) 4 1 vH H.length (boolsV H)
 apart:∀g,vN.ownBlock=some g→vH.ownBlock≠some g
theorem ChP.call {w W W':World} {vN vH:Value} {N:List Pl.Nd} {H:List Bool} (h:ChP w W vN vH N H) (b:Below W.heap.size W W'):ChP w W' vN vH N H:=
 ⟨h.bel.trans (b.mono h.bel.size),h.res.call b,zk9 h.nodes b,zk9 h.has b,h.apart⟩
theorem ChP.moreN {w W W':World} {vN vH v':Value} {N:List Pl.Nd} {H:List Bool} {n:Pl.Nd} (h:ChP w W vN vH N H) (own:W'.ownsRow (w.heap.size+1) 47 5 v' (N.length+1) (Pl.zc4 N++n.cs)) (g:W.grownBy W' vN.ownBlock)
  (far:∀g,v'.ownBlock=some g→vN.ownBlock=some g∨W.heap.size≤g):ChP w W' v' vH (N++[n]) H:=by
 have hlt:∀q,vN.ownBlock=some q→w.heap.size+1≤q:=fun q hq=>(World.ownsRow.lt h.nodes q hq).1;refine ⟨h.bel.grown g h.bel.size (fun q hq=>by have :=hlt q hq;omega),h.res.grown g (fun e=>by have :=hlt _ e.symm;omega),Mem.zk5 own,zy6 h.has g (fun q hq e=>h.apart q e.symm hq),fun q hq e=>?_⟩
 rcases far q hq with h1|h1
 ·exact h.apart q h1 e
 ·have :=(World.ownsRow.lt h.has q e).2;omega
theorem ChP.moreH {w W W':World} {vN vH v':Value} {N:List Pl.Nd} {H:List Bool} {x:Bool} (h:ChP w W vN vH N H) (own:W'.ownsRow (w.heap.size+1) 4 1 v' (H.length+1) (boolsV H++[.bool x])) (g:W.grownBy W' vH.ownBlock)
  (far:∀g,v'.ownBlock=some g→vH.ownBlock=some g∨W.heap.size≤g):ChP w W' vN v' N (H++[x]):=by
 have hlt:∀q,vH.ownBlock=some q→w.heap.size+1≤q:=fun q hq=>(World.ownsRow.lt h.has q hq).1;refine ⟨h.bel.grown g h.bel.size (fun q hq=>by have :=hlt q hq;omega),h.res.grown g (fun e=>by have :=hlt _ e.symm;omega),zy6 h.nodes g (fun q hq e=>h.apart q hq e.symm),?_,fun q hq e=>?_⟩
 ·unfold boolsV;rw [List.map_append,List.length_append];exact own
 ·rcases far q e with h1|h1
  ·exact h.apart q hq h1
  ·have :=(World.ownsRow.lt h.nodes q hq).2;omega
def zi7 (xs:List (Nat × Option Pl.Nd)):List Pl.Nd:=xs.map (fun x=>x.2.getD Pl.za6)
def zp7 (xs:List (Nat × Option Pl.Nd)):List Bool:=xs.map (fun x=>x.2.isSome)
theorem yd4 {α β:Type} (f:α→β) {xs:List α} {j:Nat} {x:α} (h:xs[j]? =some x):(xs.take (j+1)).map f=(xs.take j).map f++[f x]:=by
 have h1:=List.getElem?_eq_some_iff.1 h;rw [List.take_succ_eq_append_getElem h1.1,List.map_append,h1.2];rfl
theorem ask_get {Ls:List (List Pl.Nd)} {ks:List Nat} {q:ByteArray} {j k:Nat} {L:List Pl.Nd} (h:ks[j]? =some k) (hL:Ls[k]? =some L):(Pl.askO Ls ks q)[j]? =some (k,Pl.lk L q):=by
 unfold Pl.askO;rw [List.getElem?_map,h,Option.map_some];simp [hL]
theorem ChP.asked {w W:World} {vN vH:Value} {xs:List (Nat × Option Pl.Nd)} (h:ChP w W vN vH (zi7 xs) (zp7 xs)) (hx:xs≠[]):
  ∃gn cn gh ch,vN= .slice (some ⟨gn,0,none⟩) xs.length cn∧vH= .slice (some ⟨gh,0,none⟩) xs.length ch∧gn<W.heap.size∧gh<W.heap.size∧
   (∀ (i:Nat) x,xs[i]? =some x→W.cell? ⟨gh,i,none⟩=some (.bool x.2.isSome))∧
   (∀ (i k:Nat) n,xs[i]? =some (k,some n)→W.cell? ⟨gn,i*5,none⟩=some (.string n.path)∧W.cell? ⟨gn,i*5+1,none⟩=some (.int .i64 n.kind)∧W.cell? ⟨gn,i*5+2,none⟩=some (.string n.data)∧W.cell? ⟨gn,i*5+3,none⟩=some (.int .i64 n.time)∧W.cell? ⟨gn,i*5+4,none⟩=some (.int .i64 n.mark)):=by
 have hp:=List.length_pos_iff.2 hx;have e1:(zi7 xs).length=xs.length:=by simp [zi7]
 have e2:(zp7 xs).length=xs.length:=by simp [zp7]
 have hn:=h.nodes;have hh:=h.has;unfold Mem.ownN at hn;rw [e1] at hn;rw [e2] at hh
 rcases hn.2 with ⟨_,h0⟩|⟨gn,cn,curN,hvN, -,hgN, -⟩
 ·omega
 rcases hh.2 with ⟨_,h0⟩|⟨gh,ch,curH,hvH, -,hgH, -⟩
 ·omega
 subst hvN hvH;refine ⟨gn,cn,gh,ch,rfl,rfl,(Array.getElem?_eq_some_iff.1 hgN).1,(Array.getElem?_eq_some_iff.1 hgH).1,fun i x hi=>?_,fun i k n hi=>?_⟩
 ·have :=hh.cells (g:=gh) rfl i (.bool x.2.isSome) (by simp [boolsV,zp7,hi]);rw [Mem.add_lit] at this;exact this
 ·have hg:(zi7 xs)[i]? =some n:=by simp [zi7,hi]
  have c:∀j,j<5→W.cell? ⟨gn,i*5+j,none⟩=n.cs[j]?:=fun j hj=>by
   have h1:=Pl.zz7 _ i n hg j hj;have h2:∃u,n.cs[j]? =some u:=⟨_,List.getElem?_eq_getElem (by show j<5;exact hj)⟩;obtain ⟨u,hu⟩:=h2;have :=hn.cells (g:=gn) rfl (i*5+j) u (by rw [h1,hu]);rw [Mem.add_lit] at this;rw [this,hu]
  exact ⟨c 0 (by omega),c 1 (by omega),c 2 (by omega),c 3 (by omega),c 4 (by omega)⟩
theorem ret7 {w W:World} {v:Value} {ks:List Nat} {cs:List Value} (hb:Below w.heap.size w W) (hr:Mem.Blk W w.heap.size cs.toArray 200) (hc:cs.length=7) (ho:ownI W (w.heap.size+1) v ks) (x:Bool) (p:ByteArray) (k:Int) (d:ByteArray) (t m:Int) (u:Value):
  Mem.Blk (((((((W.setCell ⟨w.heap.size,0,none⟩ (.bool x)).setCell ⟨w.heap.size,1,none⟩ (.string p)).setCell ⟨w.heap.size,2,none⟩ (.int .i64 k)).setCell ⟨w.heap.size,3,none⟩ (.string d)).setCell ⟨w.heap.size,4,none⟩ (.int .i64 t)).setCell ⟨w.heap.size,5,none⟩ (.int .i64 m)).setCell ⟨w.heap.size,6,none⟩ u) w.heap.size #[.bool x, .string p, .int .i64 k, .string d, .int .i64 t, .int .i64 m,u] 200∧
  Below w.heap.size w (((((((W.setCell ⟨w.heap.size,0,none⟩ (.bool x)).setCell ⟨w.heap.size,1,none⟩ (.string p)).setCell ⟨w.heap.size,2,none⟩ (.int .i64 k)).setCell ⟨w.heap.size,3,none⟩ (.string d)).setCell ⟨w.heap.size,4,none⟩ (.int .i64 t)).setCell ⟨w.heap.size,5,none⟩ (.int .i64 m)).setCell ⟨w.heap.size,6,none⟩ u)∧
  ownI (((((((W.setCell ⟨w.heap.size,0,none⟩ (.bool x)).setCell ⟨w.heap.size,1,none⟩ (.string p)).setCell ⟨w.heap.size,2,none⟩ (.int .i64 k)).setCell ⟨w.heap.size,3,none⟩ (.string d)).setCell ⟨w.heap.size,4,none⟩ (.int .i64 t)).setCell ⟨w.heap.size,5,none⟩ (.int .i64 m)).setCell ⟨w.heap.size,6,none⟩ u) w.heap.size v ks:=by
 have hr':w.heap.size<w.heap.size+1:=by omega
 refine ⟨?_,((((((hb.setCell (p:=⟨w.heap.size,0,none⟩) (Nat.le_refl _) _).setCell (p:=⟨w.heap.size,1,none⟩) (Nat.le_refl _) _).setCell (p:=⟨w.heap.size,2,none⟩) (Nat.le_refl _) _).setCell (p:=⟨w.heap.size,3,none⟩) (Nat.le_refl _) _).setCell (p:=⟨w.heap.size,4,none⟩) (Nat.le_refl _) _).setCell (p:=⟨w.heap.size,5,none⟩) (Nat.le_refl _) _).setCell (p:=⟨w.heap.size,6,none⟩) (Nat.le_refl _) _,?_⟩
 ·match cs,hc,hr with
  | [c0,c1,c2,c3,c4,c5,c6],_,hr=>
   have h2:=((((((hr.put 0 (.bool x)).put 1 (.string p)).put 2 (.int .i64 k)).put 3 (.string d)).put 4 (.int .i64 t)).put 5 (.int .i64 m)).put 6 u;simp only [List.setIfInBounds_toArray] at h2;exact h2
 ·exact yh8 (zi8 (zi8 (zi8 (zi8 (zi8 (zi8 (zi8 ho _ _ hr') _ _ hr') _ _ hr') _ _ hr') _ _ hr') _ _ hr') _ _ hr') (by omega)
end zn6
end
section
open Go.RowKit
namespace zn6
set_option linter.unusedSimpArgs false in
set_option maxRecDepth 100000 in
set_option maxHeartbeats 3000000 in
theorem child_any (q:ByteArray) (Ts:List Pl.Tr) (ks:List Nat) (ad:Option Addr) (capt gp cp:Nat) (w:World) (hT:Mem.zx1 w ad Ts) (hn:Ts.length≤4) (hks:ks≠[]) (hk4:ks.length≤4) (hkl:∀k∈ks,k<Ts.length) (hgp:gp<w.heap.size)
  (hP:∀ (i k:Nat),ks[i]? =some k→w.cell? ⟨gp,i,none⟩=some (.int .i64 (k:Int))) (hL:∀t∈Ts,t.L.length≤1048576∧∀n∈t.L,0≤n.mark∧n.mark≤8):
  Calls Tryz.prog 145 #[.slice ad Ts.length capt, .slice (some ⟨gp,0,none⟩) ks.length cp, .string q] w fun e w'=>∃v,e= .returned (.agg (zb6 (Pl.zi5 (Ts.map (·.L)) ks q) v).toArray)∧ownI w' w.heap.size v (Pl.zi5 (Ts.map (·.L)) ks q).parts∧Below w.heap.size w w':=by
 obtain ⟨iN,hiN,hN0,hN1,hN2⟩:=info_parts zn2;obtain ⟨iB,hiB,hB0,hB1,hB2⟩:=info_parts infoB;obtain ⟨k0,hk0⟩:=List.exists_mem_of_ne_nil ks hks;have hl0:=hkl k0 hk0;obtain ⟨bt,ot,rfl,hbt, -⟩:=(hT 0 _ (List.getElem?_eq_getElem (show 0<Ts.length by omega))).1
 have hxI:∀ (i:Nat) x,(Pl.askO (Ts.map (·.L)) ks q)[i]? =some x→∃ (k:Nat) (t:Pl.Tr),ks[i]? =some k∧Ts[k]? =some t∧x=(k,Pl.lk t.L q):=by
  intro i x hi;unfold Pl.askO at hi;rw [List.getElem?_map] at hi;cases hk:ks[i]? with
  |none=>rw [hk] at hi;simp at hi
  |some k=>
   have hlt:=hkl k (List.mem_of_getElem? hk);refine ⟨k,Ts[k],rfl,List.getElem?_eq_getElem hlt,?_⟩;rw [hk] at hi;simp [List.getElem?_eq_getElem hlt] at hi
   exact hi.symm
 have HXL:Hid ((Pl.askO (Ts.map (·.L)) ks q).length=ks.length):=by show List.length _=_;unfold Pl.askO;rw [List.length_map]
 have HXA:Hid (∀ (j k:Nat) (t:Pl.Tr),ks[j]? =some k→Ts[k]? =some t→(Pl.askO (Ts.map (·.L)) ks q)[j]? =some (k,Pl.lk t.L q)):=fun j k t h1 h2=>ask_get h1 (by rw [List.getElem?_map,h2];rfl);have HXI:=hide hxI
 have HXM:Hid (∀ (k:Nat) n,(k,some n)∈Pl.askO (Ts.map (·.L)) ks q→0≤n.mark∧n.mark≤8):=by
  intro k n hm;obtain ⟨i,hi⟩:=List.mem_iff_getElem?.1 hm;obtain ⟨k',t,h1,h2,h3⟩:=hxI i _ hi
  injection h3 with h4 h5
  exact (hL t (List.mem_of_getElem? h2)).2 n (List.mem_of_find?_eq_some h5.symm)
 have HRR:Hid (Pl.zf9 q ⟨false,Pl.za6,[]⟩ 0 (Pl.askO (Ts.map (·.L)) ks q)=Pl.zi5 (Ts.map (·.L)) ks q):=rfl;generalize Pl.zi5 (Ts.map (·.L)) ks q=RR at HRR ⊢;generalize Pl.askO (Ts.map (·.L)) ks q=xs at HXL HXA HXI HXM HRR;clear hxI
 have A0:Hid (ChP w (((w.alloc (.cells (zb6 ⟨false,Pl.za6,[]⟩ (.slice none 0 0)).toArray 200)).alloc (.cells #[] 47)).alloc (.cells #[] 4)) (.slice (some ⟨w.heap.size+1,0,none⟩) 0 0) (.slice (some ⟨w.heap.size+1+1,0,none⟩) 0 0) (zi7 (xs.take 0)) (zp7 (xs.take 0))):=by
  refine ⟨((bE0).alloc (by simp) _).alloc (by simp;omega) _,((Mem.Blk.new _ _ _).alloc _).alloc _,⟨rfl, .inr ⟨w.heap.size+1,0,#[],rfl,Nat.le_refl _,?_,Nat.le_refl _,Nat.zero_le _,rfl,rfl⟩⟩,⟨rfl, .inr ⟨w.heap.size+1+1,0,#[],rfl,Nat.le_succ _,?_,Nat.le_refl _,Nat.zero_le _,rfl,rfl⟩⟩,fun g h1 h2=>by have e1:w.heap.size+1=g:=Option.some.inj h1;have e2:w.heap.size+1+1=g:=Option.some.inj h2;omega⟩
  ·exact Mem.Blk.alloc (cs:=#[]) (T:=47) (Mem.zg4 w _ _) _
  ·have h:=Mem.Blk.new ((w.alloc (.cells (zb6 ⟨false,Pl.za6,[]⟩ (.slice none 0 0)).toArray 200)).alloc (.cells #[] 47)) #[] 4;simp only [zk7] at h;exact h
 have HT:=hide hT;have HP:=hide hP;have HKS:=hide hks;have HBT:=hide hbt;have HL:=hide hL;clear hT hP hks hL hk0 hl0 hbt k0;go_enter Tryz.func145,Tryz.ntmps145
 go_wp2
 go_loopw [7,8,9] (fun vN vH i wr=>∃j:Nat,j≤ks.length∧i= .int .i64 (j:Int)∧Hid (ChP w wr vN vH (zi7 (xs.take j)) (zp7 (xs.take j)))) (fun _ _ i _=>ks.length - (intOf i).toNat)
 case atStart=>exact ⟨0,Nat.zero_le _,rfl,A0⟩
 case round=>
  obtain ⟨j,hj,rfl,HA⟩:=hrel;clear A0;by_cases hlt:j<ks.length
  ·obtain ⟨k,hk⟩:∃k,ks[j]? =some k:=⟨_,List.getElem?_eq_getElem hlt⟩;have hkT:=hkl k (List.mem_of_getElem? hk);obtain ⟨⟨ta,tc,tL⟩,ht⟩:∃t,Ts[k]? =some t:=⟨_,List.getElem?_eq_getElem hkT⟩;have HXG:=hide (za HXA j k _ hk ht);have htL:=za HL _ (List.mem_of_getElem? ht);have hb:=(za HA).bel;obtain ⟨⟨b',o',he,hb',cT⟩,hnd⟩:=Mem.zv6 (za HT) (hb.mono (Nat.le_refl _)) k _ ht;cases he
   simp only [Pl.Tr.val] at cT hnd htL;simp only at HXG;have cP:=(hb.cell (p:=⟨gp,j,none⟩) hgp).trans (za HP j k hk);have y1:(j:Int)<(ks.length:Int):=by omega
   have y2:(0:Int)≤(j:Int):=by omega
   have y3:(k:Int)<(Ts.length:Int):=by omega
   have y4:(0:Int)≤(k:Int):=by omega
   have hat:=hide (zl8.zt2 ta tc tL q wr htL.1 hnd);have HND:=hide hnd;have HNL:Hid ((zi7 (xs.take j)).length≤4):=by show List.length _≤_;unfold zi7;rw [List.length_map,List.length_take];omega
   have HHL:Hid ((zp7 (xs.take j)).length≤4):=by show List.length _≤_;unfold zp7;rw [List.length_map,List.length_take];omega
   obtain ⟨N,hNE⟩:∃N,N=zi7 (xs.take j):=⟨_,rfl⟩;obtain ⟨H,hHE⟩:∃H,H=zp7 (xs.take j):=⟨_,rfl⟩;rw [←hNE] at HA HNL;rw [←hHE] at HA HHL;have HNE:=hide hNE;have HHE:=hide hHE;clear hNE hHE;have KA:=hide (za HA);clear hnd htL HA hb;go_wp2_with fail
   refine (za hat).mono ?_;rintro e w1 ⟨⟨r,rfl,hr⟩,b1⟩;have KC:=hide ((za KA).call b1);have HT1:=hide (Mem.za0 (za HND) b1);have cP1:=(b1.cell (p:=⟨gp,j,none⟩) (by have :=(za KA).bel.size;show gp<_;omega)).trans cP;have cT1:=(b1.cell (p:=⟨bt,ot+k,none⟩) hb').trans cT;clear KA cP cT hat HND b1 hk ht
   rcases hr.out with ⟨i,n,rfl,hi,hf⟩|⟨rfl,hf⟩
   ·obtain ⟨np,nk,nd,nt,nm⟩:=n
    have HNX:Hid (∀vN' vH' W' (n':Pl.Nd),n'=⟨np,nk,nd,nt,nm⟩→ChP w W' vN' vH' (N++[n']) (H++[true])→Hid (ChP w W' vN' vH' (zi7 (xs.take (j+1))) (zp7 (xs.take (j+1))))):=by
     intro vN' vH' W' n' e h;subst e;have hg:=za HXG;rw [show Pl.lk tL q=some ⟨np,nk,nd,nt,nm⟩ from hf] at hg;unfold zi7 zp7;rw [yd4 _ hg,yd4 _ hg];rw [za HNE,za HHE] at h;exact h
    have yi:(i:Int)<(tL.length:Int):=by have :=(List.getElem?_eq_some_iff.1 hi).1;omega
    have yi0:(0:Int)≤(i:Int):=by omega
    obtain ⟨gN,oN,rfl,hNlt,d0,d1,d2,d3,d4⟩:=(za HT1) i _ hi;simp only at d0 d1 d2 d3 d4;go_upto_region 8 with fail
    have bA:Below w1.heap.size w1 (w1.alloc (.cells #[.string ⟨#[]⟩, .int .i64 0, .string ⟨#[]⟩, .int .i64 0, .int .i64 0] 47)):=bE0;have NB0:=hide (Mem.Blk.new w1 #[.string ⟨#[]⟩, .int .i64 0, .string ⟨#[]⟩, .int .i64 0, .int .i64 0] 47);have e0:=(bA.cell (p:=⟨gN,oN+i*5,none⟩) hNlt).trans d0;have e1:=(bA.cell (p:=⟨gN,oN+i*5+1,none⟩) hNlt).trans d1;have e2:=(bA.cell (p:=⟨gN,oN+i*5+2,none⟩) hNlt).trans d2;have e3:=(bA.cell (p:=⟨gN,oN+i*5+3,none⟩) hNlt).trans d3;have e4:=(bA.cell (p:=⟨gN,oN+i*5+4,none⟩) hNlt).trans d4;have eP:=(bA.cell (p:=⟨gp,j,none⟩) (by have :=(za KC).bel.size;show gp<_;omega)).trans cP1;have eT:=(bA.cell (p:=⟨bt,ot+k,none⟩) (by have :=(za KC).bel.size;have :=za HBT;show bt<_;omega)).trans cT1;have KC1:=hide (fun W' (h:Below w1.heap.size w1 W')=>(za KC).call h);have BA:=hide bA
    clear d0 d1 d2 d3 d4 cP1 cT1 KC bA hi hf;generalize hW1:w1.alloc (.cells #[.string ⟨#[]⟩, .int .i64 0, .string ⟨#[]⟩, .int .i64 0, .int .i64 0] 47)=W1 at NB0 e0 e1 e2 e3 e4 eP eT BA ⊢;clear hW1;generalize hX:w1.heap.size=X at NB0 KC1 BA ⊢;obtain ⟨⟨z0,z1,z2,z3,z4⟩,zf0,zf1,zf2,zf3,zf4⟩:=jf5 (za NB0);go_upto_region 10 with fail
    have NB:Hid (Mem.Blk (((((W1.setCell ⟨X,0,none⟩ (.string np)).setCell ⟨X,1,none⟩ (.int .i64 nk)).setCell ⟨X,2,none⟩ (.string nd)).setCell ⟨X,3,none⟩ (.int .i64 nt)).setCell ⟨X,4,none⟩ (.int .i64 nm)) X #[.string np, .int .i64 nk, .string nd, .int .i64 nt, .int .i64 nm] 47):=by
     have h:=(((((za NB0).put 0 (.string np)).put 1 (.int .i64 nk)).put 2 (.string nd)).put 3 (.int .i64 nt)).put 4 (.int .i64 nm);simp only [kB3] at h;exact h
    have KC:=hide (za KC1 (((((W1.setCell ⟨X,0,none⟩ (.string np)).setCell ⟨X,1,none⟩ (.int .i64 nk)).setCell ⟨X,2,none⟩ (.string nd)).setCell ⟨X,3,none⟩ (.int .i64 nt)).setCell ⟨X,4,none⟩ (.int .i64 nm)) ((((((za BA).setCell (p:=⟨X,0,none⟩) (Nat.le_refl _) _).setCell (p:=⟨X,1,none⟩) (Nat.le_refl _) _).setCell (p:=⟨X,2,none⟩) (Nat.le_refl _) _).setCell (p:=⟨X,3,none⟩) (Nat.le_refl _) _).setCell (p:=⟨X,4,none⟩) (Nat.le_refl _) _));clear z0 z1 z2 z3 z4 zf0 zf1 zf2 zf3 zf4 e0 e1 e2 e3 e4 eP eT NB0 KC1 BA;generalize (((((W1.setCell ⟨X,0,none⟩ (.string np)).setCell ⟨X,1,none⟩ (.int .i64 nk)).setCell ⟨X,2,none⟩ (.string nd)).setCell ⟨X,3,none⟩ (.int .i64 nt)).setCell ⟨X,4,none⟩ (.int .i64 nm))=W2 at NB KC ⊢;replace HNX:Hid (∀vN' vH' W',ChP w W' vN' vH' (N++[⟨np,nk,nd,nt,nm⟩]) (H++[true])→Hid (ChP w W' vN' vH' (zi7 (xs.take (j+1))) (zp7 (xs.take (j+1))))):=fun a b c h=>za HNX a b c _ rfl h
    obtain ⟨n0,n1,n2,n3,n4⟩:=jc5 (za NB);have KD:=hide ((za KC).call ((Below.refl _ _).alloc (Nat.le_refl _) (.cells #[.string np, .int .i64 nk, .string nd, .int .i64 nt, .int .i64 nm] 47)));have HSB:=hide (za KC).bel.size;clear KC;go_wp2_with (at_builtin;refine Mem.ze1 _ rfl _ _ 41 rfl (w.heap.size+1) 47 iN _ 5 56 Tryz.underlying41 hiN hN0 hN1 hN2 rfl (by decide) _ _ _ rfl (za KD).nodes ⟨W2.heap.size,0,none⟩ 1 1 [.string np, .int .i64 nk, .string nd, .int .i64 nt, .int .i64 nm] rfl rfl (Mem.zp1 W2 ⟨np,nk,nd,nt,nm⟩ 47) (Mem.zm9 ⟨np,nk,nd,nt,nm⟩) (by have h:=za HNL;unfold maxLen;omega) (by have h:=za HNL;omega) (by have h1:=za HSB;have h2:=(za KD).res.lt;simp at h2 ⊢;omega) ?_)
    intro vN' w3 ownN' growN farN;have KE:=hide ((za KD).moreN (n:=⟨np,nk,nd,nt,nm⟩) ownN' growN (fun g hg=>(farN g hg).imp_right (fun h=>by rw [zk7];exact h)));have KF:=hide ((za KE).call ((Below.refl _ _).alloc (Nat.le_refl _) (.cells #[.bool true] 4)));have HSF:=hide (za KE).res.lt;clear ownN' growN farN KD KE n0 n1 n2 n3 n4 NB;go_wp2_with (at_builtin;refine Mem.ze1 _ rfl _ _ 219 rfl (w.heap.size+1) 4 iB _ 1 1 Tryz.underlying219 hiB hB0 hB1 hB2 rfl (by decide) _ _ _ rfl (za KF).has ⟨w3.heap.size,0,none⟩ 1 1 [.bool true] rfl rfl (Mem.zh5 _ _ _) (fun u hu=>by simp at hu;subst hu;rfl) (by have h:=za HHL;unfold maxLen;omega) (by have h:=za HHL;omega) (by have h2:=za HSF;simp at h2 ⊢;omega) ?_)
    intro vH' w4 ownH' growH farH;have KG:=hide ((za KF).moreH (x:=true) ownH' growH (fun g hg=>(farH g hg).imp_right (fun h=>by rw [zk7];exact h)));clear ownH' growH farH KF;have KZ:=za HNX _ _ _ (za KG);clear KG;go_wp2
    go_roundw
    case rel=>exact ⟨j+1,by omega,by go_num,KZ⟩
    case measure=>simp [intOf];omega
   ·have HNX:Hid (∀vN' vH' W',ChP w W' vN' vH' (N++[Pl.za6]) (H++[false])→Hid (ChP w W' vN' vH' (zi7 (xs.take (j+1))) (zp7 (xs.take (j+1))))):=by
     intro vN' vH' W' h;have hg:=za HXG;rw [show Pl.lk tL q=none from hf] at hg;unfold zi7 zp7;rw [yd4 _ hg,yd4 _ hg];rw [za HNE,za HHE] at h;exact h
    go_upto_region 8 with fail
    have NB:=hide (Mem.Blk.new w1 #[.string ⟨#[]⟩, .int .i64 0, .string ⟨#[]⟩, .int .i64 0, .int .i64 0] 47);have KC2:=hide ((za KC).call ((Below.refl _ _).alloc (Nat.le_refl _) (.cells #[.string ⟨#[]⟩, .int .i64 0, .string ⟨#[]⟩, .int .i64 0, .int .i64 0] 47)));clear KC cP1 cT1 hf HT1;have KC:=KC2;clear KC2;generalize w1.alloc (.cells #[.string ⟨#[]⟩, .int .i64 0, .string ⟨#[]⟩, .int .i64 0, .int .i64 0] 47)=W2 at NB KC ⊢;generalize w1.heap.size=X at NB ⊢;go_upto_region 10 with fail
    obtain ⟨n0,n1,n2,n3,n4⟩:=jc5 (za NB);have KD:=hide ((za KC).call ((Below.refl _ _).alloc (Nat.le_refl _) (.cells #[.string ⟨#[]⟩, .int .i64 0, .string ⟨#[]⟩, .int .i64 0, .int .i64 0] 47)));have HSB:=hide (za KC).bel.size;clear KC;go_wp2_with (at_builtin;refine Mem.ze1 _ rfl _ _ 41 rfl (w.heap.size+1) 47 iN _ 5 56 Tryz.underlying41 hiN hN0 hN1 hN2 rfl (by decide) _ _ _ rfl (za KD).nodes ⟨W2.heap.size,0,none⟩ 1 1 [.string ⟨#[]⟩, .int .i64 0, .string ⟨#[]⟩, .int .i64 0, .int .i64 0] rfl rfl (Mem.zp1 W2 Pl.za6 47) (Mem.zm9 Pl.za6) (by have h:=za HNL;unfold maxLen;omega) (by have h:=za HNL;omega) (by have h1:=za HSB;have h2:=(za KD).res.lt;simp at h2 ⊢;omega) ?_)
    intro vN' w3 ownN' growN farN;have KE:=hide ((za KD).moreN (n:=Pl.za6) ownN' growN (fun g hg=>(farN g hg).imp_right (fun h=>by rw [zk7];exact h)));have KF:=hide ((za KE).call ((Below.refl _ _).alloc (Nat.le_refl _) (.cells #[.bool false] 4)));have HSF:=hide (za KE).res.lt;clear ownN' growN farN KD KE n0 n1 n2 n3 n4 NB;go_wp2_with (at_builtin;refine Mem.ze1 _ rfl _ _ 219 rfl (w.heap.size+1) 4 iB _ 1 1 Tryz.underlying219 hiB hB0 hB1 hB2 rfl (by decide) _ _ _ rfl (za KF).has ⟨w3.heap.size,0,none⟩ 1 1 [.bool false] rfl rfl (Mem.zh5 _ _ _) (fun u hu=>by simp at hu;subst hu;rfl) (by have h:=za HHL;unfold maxLen;omega) (by have h:=za HHL;omega) (by have h2:=za HSF;simp at h2 ⊢;omega) ?_)
    intro vH' w4 ownH' growH farH;have KG:=hide ((za KF).moreH (x:=false) ownH' growH (fun g hg=>(farH g hg).imp_right (fun h=>by rw [zk7];exact h)));clear ownH' growH farH KF;have KZ:=za HNX _ _ _ (za KG);clear KG;go_wp2
    go_roundw
    case rel=>exact ⟨j+1,by omega,by go_num,KZ⟩
    case measure=>simp [intOf];omega
  ·obtain rfl:j=ks.length:=by omega
   have KX:ChP w wr u7 u8 (zi7 xs) (zp7 xs):=by
    have h:=za HA;rw [List.take_of_length_le (by have :=za HXL;omega)] at h;exact h
   obtain ⟨gn,cn,gh,ch,rfl,rfl,hgn,hgh,hH,hN⟩:=KX.asked (by intro e;have h:=za HXL;rw [e] at h;simp at h;exact za HKS (List.length_eq_zero_iff.1 h.symm))
   have hpick:=pick_any q xs gp cp gn cn gh ch wr (by have :=za HXL;omega) (by have :=KX.bel.size;omega) hgn hgh (fun i x hi=>⟨by
     obtain ⟨k',t',h1,h2,h3⟩:=za HXI i x hi;rw [h3]
     exact (KX.bel.cell (p:=⟨gp,i,none⟩) hgp).trans (za HP i k' h1),hH i x hi⟩) hN (fun k n hm=>za HXM k n hm)
   rw [za HXL] at hpick;have y2:¬ (ks.length:Int)<(ks.length:Int):=by omega
   rw [za HXL];have HPK:=hide hpick;have KC:=hide KX;clear hpick KX HA hH hN hgn hgh;go_wp2_with fail
   refine (za HPK).mono ?_;rintro e w6 ⟨v,rfl,hown,b6⟩;have hsz:=(za KC).bel.size;have hlt:=(za KC).res.lt;have b7:=hide ((za KC).bel.trans (b6.mono hsz));have hres:=hide ((za KC).res.call b6);have hown7:=hide (yh8 hown (show w.heap.size+1≤wr.heap.size by omega));clear KC HPK b6 hown hlt hsz;have HR:=hide (za HRR);generalize Pl.zf9 q ⟨false,Pl.za6,[]⟩ 0 xs=R at HR hown7 ⊢;clear HRR;obtain ⟨rok,⟨rp,rk,rd,rt,rm⟩,rks⟩:=R;obtain ⟨va,vc,rfl⟩:=yg4 (za hown7);simp only [zb6];have RT:=hide (ret7 (za b7) (za hres) rfl (za hown7) rok rp rk rd rt rm (.slice va rks.length vc));have c0:=(za hres).cell 0;have cf0:=(za hres).fr 0;have c1:=(za hres).cell 1;have cf1:=(za hres).fr 1;have c2:=(za hres).cell 2;have cf2:=(za hres).fr 2;have c3:=(za hres).cell 3;have cf3:=(za hres).fr 3;have c4:=(za hres).cell 4;have cf4:=(za hres).fr 4;have c5:=(za hres).cell 5;have cf5:=(za hres).fr 5
   have c6:=(za hres).cell 6;have cf6:=(za hres).fr 6;simp only [zb6,Pl.za6,kGs] at c0 c1 c2 c3 c4 c5 c6;clear hown7 hres b7;go_wp2
   generalize (((((((w6.setCell ⟨w.heap.size,0,none⟩ (.bool rok)).setCell ⟨w.heap.size,1,none⟩ (.string rp)).setCell ⟨w.heap.size,2,none⟩ (.int .i64 rk)).setCell ⟨w.heap.size,3,none⟩ (.string rd)).setCell ⟨w.heap.size,4,none⟩ (.int .i64 rt)).setCell ⟨w.heap.size,5,none⟩ (.int .i64 rm)).setCell ⟨w.heap.size,6,none⟩ (.slice va rks.length vc))=WR at RT ⊢;have q0:=(za RT).1.cell 0;have q1:=(za RT).1.cell 1;have q2:=(za RT).1.cell 2;have q3:=(za RT).1.cell 3;have q4:=(za RT).1.cell 4;have q5:=(za RT).1.cell 5;have q6:=(za RT).1.cell 6;simp only [kGs] at q0 q1 q2 q3 q4 q5 q6;exact bodyPost_ret (v:= .agg #[.bool rok, .string rp, .int .i64 rk, .string rd, .int .i64 rt, .int .i64 rm, .slice va rks.length vc]) (by simp [results,Tryz.results145,go_sem,q0,q1,q2,q3,q4,q5,q6]) rfl ⟨.slice va rks.length vc,by rw [←za HR];rfl,by rw [←za HR];exact (za RT).2.2,(za RT).2.1⟩

end zn6
end
section
open Go.RowKit
namespace zg9
theorem base1_any (s:ByteArray) (w:World) (hs:s.size≤maxLen):
  Calls Tryz.prog 167 #[.string s] w fun e w'=>e= .returned (.string (Pl.base s))∧w'=w:=by
 have hb:=Pl.slash_lt s s.size;have hc:=hide (fun W=>cut_any s W hs);unfold maxLen at hs;have E:Hid (Pl.base s=s.extract (Pl.zf7 s s.size+1).toNat s.size):=rfl;generalize Pl.base s=R at E ⊢;generalize Pl.zf7 s s.size=k at hc hb E;have t1:0≤k+1:=by omega
 have t2:k+1≤(s.size:Int):=by omega
 go_enter Tryz.func167,Tryz.ntmps167
 go_wp2_with (go_at_call 125;refine (za hc _).mono ?_;rintro e w' ⟨rfl,hw⟩;obtain rfl:=hw.symm)
 go_ret
 exact ⟨zz4 (za E).symm,rfl⟩
end zg9
end
section
open Go.RowKit
namespace ya3
theorem infoS:(Tryz.prog.info? 9).map (fun i=>(i.zero,i.size,i.bytes))=some (some (.string ⟨#[]⟩),1,16):=by kernel_rfl
theorem own_snoc {w:World} {B:Nat} {v:Value} {K:List ByteArray} {t:ByteArray} (h:w.ownsRow B 9 1 v (K.length+1) (K.map Value.string++[.string t])):w.ownsRow B 9 1 v (K++[t]).length ((K++[t]).map Value.string):=by
 rw [List.map_append,List.length_append];exact h
set_option linter.unusedSimpArgs false in
set_option maxRecDepth 100000 in
set_option maxHeartbeats 2000000 in
theorem l03_any (a:Option Addr) (cap:Nat) (L:List Pl.Nd) (p:ByteArray) (w:World) (hl:L.length≤1048576) (hv:Mem.za2 w a L) (hok:∀n∈L,n.path.size≤1048576∧n.data.size≤1048576):
  Calls Tryz.prog 158 #[.agg #[.slice a L.length cap], .string p] w fun e w'=>∃v,e= .returned v∧w'.ownsRow w.heap.size 9 1 v (Pl.zh0 p L).length ((Pl.zh0 p L).map Value.string)∧Below w.heap.size w w':=by
 obtain ⟨i0,hi,hz0,hz1,hz2⟩:=info_parts infoS;have HV:=hide hv;have HO:=hide hok;have b0:Below w.heap.size w ((w.alloc (.cells #[.slice a L.length cap] 43)).alloc (.cells #[] 9)):=((Below.refl _ _).alloc (Nat.le_refl _) _).alloc (by simp) _;have V0:=(Mem.Blk.new w #[.slice a L.length cap] 43).alloc (.cells #[] 9)
 have O0:((w.alloc (.cells #[.slice a L.length cap] 43)).alloc (.cells #[] 9)).ownsRow (w.heap.size+1) 9 1 (.slice (some ⟨w.heap.size+1,0,none⟩) 0 0) (Pl.zh0 p (L.take 0)).length ((Pl.zh0 p (L.take 0)).map Value.string):=
  ⟨rfl, .inr ⟨w.heap.size+1,0,#[],rfl,Nat.le_refl _,Mem.zg4 _ _ _,Nat.le_refl _,Nat.zero_le _,rfl,rfl⟩⟩
 have HB0:=hide b0;have HV0:=hide V0;have HO0:=hide O0;clear hv hok b0 V0 O0;go_enter Tryz.func158,Tryz.ntmps158
 go_wp2
 go_loopw [5,6] (fun v i wr=>∃k:Nat,k≤L.length∧i= .int .i64 (k:Int)∧Hid (Below w.heap.size w wr)∧Hid (Mem.Blk wr w.heap.size #[.slice a L.length cap] 43)∧Hid (wr.ownsRow (w.heap.size+1) 9 1 v (Pl.zh0 p (L.take k)).length ((Pl.zh0 p (L.take k)).map Value.string))) (fun _ i _=>L.length - (intOf i).toNat)
 case atStart=>exact ⟨0,Nat.zero_le _,rfl,HB0,HV0,HO0⟩
 case round=>
  obtain ⟨k,hk,rfl,HB,HO1,HW⟩:=hrel;clear HB0 HV0 HO0;have c1:=(za HO1).cell 0;simp only [kA0,kA1] at c1;by_cases hlt:k<L.length
  ·obtain ⟨n,hn⟩:∃n,L[k]? =some n:=⟨_,List.getElem?_eq_getElem hlt⟩;obtain ⟨b,o,rfl,hb,q0,q1,q2,q3,q4⟩:=(Mem.za0 (za HV) (za HB)) k n hn;have y1:(k:Int)<(L.length:Int):=by omega
   have y3:(0:Int)≤(k:Int):=by omega
   have hno:=(za HO n (List.mem_of_getElem? hn)).1;have hpa:=hide (fun W=>zg9.zs3 n.path W (by unfold maxLen;omega));have hba:=hide (fun W=>zg9.base1_any n.path W (by unfold maxLen;omega));have HLEN:=hide (Pl.kids_len p L k);by_cases hk0:Pl.parent n.path=p
   ·have HK:=hide (Pl.kids_in hn hk0);rw [hk0] at hpa;generalize Pl.base n.path=BB at hba HK;clear hn hk0 hno;obtain ⟨qp,qk,qd,qt,qm⟩:=n;simp only at q0 q1 q2 q3 q4 hpa hba;have HSZ:=hide (za HO1).lt;have HLT:=hide ((za HW).lt);go_wp2_with (first |(go_at_call 101;refine (za hpa _).mono ?_;rintro e w' ⟨rfl,hw⟩;obtain rfl:=hw.symm)|(go_at_call 167;refine (za hba _).mono ?_;rintro e w' ⟨rfl,hw⟩;obtain rfl:=hw.symm)|(at_builtin;refine wpList_append_own _ rfl _ _ 108 rfl (w.heap.size+1) 9 i0 (.string ⟨#[]⟩) 1 16 Tryz.underlying108 hi hz0 hz1 hz2 rfl (by decide) _ _ _ rfl ((za HW).alloc _) ⟨wr.heap.size,0,none⟩ 1 1 [.string BB] rfl rfl (Mem.zh5 _ _ _) (fun u hu=>by simp at hu;subst hu;rfl) (by have :=za HLEN;unfold maxLen;omega) (by have :=za HLEN;omega) (by have :=za HSZ;simp;omega) ?_))
    intro v' wZ hownZ hgrow _;have OW:=hide (show wZ.ownsRow (w.heap.size+1) 9 1 v' (Pl.zh0 p (L.take (k+1))).length ((Pl.zh0 p (L.take (k+1))).map Value.string) by rw [za HK];exact own_snoc hownZ);have BZ:=hide (((za HB).alloc (za HB).size (.cells #[.string BB] 9)).grown hgrow (by have :=(za HB).size;simp;omega) (fun q hq=>by have :=(za HLT q hq).1;omega));have VZ:=hide (((za HO1).alloc (.cells #[.string BB] 9)).grown hgrow (fun e=>by have :=(za HLT _ e.symm).1;omega));clear hownZ hgrow HB HO1 HW hpa hba q0 q1 q2 q3 q4;go_wp2
    go_roundw
    case rel=>exact ⟨k+1,by omega,by go_num,BZ,VZ,OW⟩
    case measure=>simp [intOf];omega
   ·have HK:=hide (Pl.kids_out hn hk0);have t1:=tl_eq hk0;generalize Pl.parent n.path=PP at hpa t1;clear hn hk0 hno hba;obtain ⟨qp,qk,qd,qt,qm⟩:=n;simp only at q0 q1 q2 q3 q4 hpa;rw [←za HK] at HW;go_wp2_with (go_at_call 101;refine (za hpa _).mono ?_;rintro e w' ⟨rfl,hw⟩;obtain rfl:=hw.symm)
    go_roundw
    case rel=>exact ⟨k+1,by omega,by go_num,HB,HO1,HW⟩
    case measure=>simp [intOf];omega
  ·obtain rfl:k=L.length:=by omega
   rw [List.take_length] at HW;have y1:¬ ((L.length:Int)<(L.length:Int)):=by omega
   go_wp2
   go_ret
   exact ⟨_,rfl,Mem.zr5 (za HW) (by omega),za HB⟩
end ya3
end
section
open Go.RowKit
namespace WName4
theorem infoS:(Tryz.prog.info? 9).map (fun i=>(i.zero,i.size,i.bytes))=some (some (.string ⟨#[]⟩),1,16):=by kernel_rfl
def Txt (w:World) (B:Nat) (v:Value) (l:List ByteArray):Prop:=w.ownsRow B 9 1 v l.length (l.map Value.string)
theorem Txt.cell {w:World} {B g n cap:Nat} {l:List ByteArray} (h:Txt w B (.slice (some ⟨g,0,none⟩) n cap) l) {k:Nat} {x:ByteArray} (hk:l[k]? =some x):w.cell? ⟨g,k,none⟩=some (.string x):=by
 have :=World.ownsRow.cells h (g:=g) rfl k (.string x) (by simp [hk]);rw [Mem.add_lit] at this;exact this
set_option linter.unusedSimpArgs false in
set_option maxRecDepth 100000 in
set_option maxHeartbeats 1000000 in
theorem any (B g cap:Nat) (l:List ByteArray) (t:ByteArray) (w:World) (hl:l.length≤1000) (hB:B≤w.heap.size) (hown:Txt w B (.slice (some ⟨g,0,none⟩) l.length cap) l):
  Calls Tryz.prog 159 #[.slice (some ⟨g,0,none⟩) l.length cap, .string t] w fun e w'=>∃g' cap',e= .returned (.slice (some ⟨g',0,none⟩) (Pl.insN t l).length cap')∧Txt w' B (.slice (some ⟨g',0,none⟩) (Pl.insN t l).length cap') (Pl.insN t l)∧Below w.heap.size w w':=by
 obtain ⟨i0,hi,hz0,hz1,hz2⟩:=info_parts infoS;have HO:=hide hown;have HIN:=hide (Pl.ins_at t l)
 have hcap:l.length≤cap:=by
  rcases hown.2 with ⟨h,_⟩|⟨g',cap',cur,h,_,_,h2,_⟩
  ·cases h
  ·injection h with _ _ h3;omega
 clear hown;go_enter Tryz.func159,Tryz.ntmps159
 go_wp2
 go_loop [5] (fun i=>∃k:Nat,k≤l.length∧i= .int .i64 (k:Int)∧Hid (∀ (j:Nat) x,j<k→l[j]? =some x→Pl.zp5 x t=true)) (fun i=>l.length - (intOf i).toNat)
 case atStart=>exact ⟨0,Nat.zero_le _,rfl,fun j x h=>absurd h (by omega)⟩
 case round=>
  obtain ⟨k,hk,rfl,HK⟩:=hrel;have y3:(0:Int)≤(k:Int):=by omega
  by_cases hlt:k<l.length
  ·obtain ⟨x,hx⟩:∃x,l[k]? =some x:=⟨_,List.getElem?_eq_getElem hlt⟩;have c0:=(za HO).cell hx;have y1:(k:Int)<(l.length:Int):=by omega
   cases hle:Pl.zp5 x t
   ·have t1:Op.bytesLess x.toList t.toList=false:=hle;by_cases e:x=t
    ·have t2:(x.toList==t.toList)=true:=by rw [e];simp
     have EI:Hid (Pl.insN t l=l):=by
      show _=_;rw [za HIN k (za HK) (fun y hy=>by rw [hx] at hy;cases hy;exact hle) hk,if_pos (by rw [hx,e])]
     clear hle e hx HK HIN;go_wp2
     go_ret
     exact ⟨g,cap,by rw [za EI];rfl,by rw [za EI];exact za HO,Below.refl _ _⟩
    ·have t2:(x.toList==t.toList)=false:=ya3.tl_eq e
     have EI:Hid (Pl.insN t l=l.take k++[t]++l.drop k):=by
      show _=_;rw [za HIN k (za HK) (fun y hy=>by rw [hx] at hy;cases hy;exact hle) hk,if_neg (by rw [hx];intro h;cases h;exact e rfl)]
     have HL0:=hide (fun W' (b:Below w.heap.size w W')=>Mem.zj2 (za HO) b);have OA0:Hid (Txt (w.alloc (.cells #[] 9)) w.heap.size (.slice (some ⟨w.heap.size,0,none⟩) 0 0) []):=⟨rfl, .inr ⟨w.heap.size,0,#[],rfl,Nat.le_refl _,heap_alloc_new _ _,Nat.le_refl _,Nat.zero_le _,rfl,rfl⟩⟩;have BA0:=hide ((Below.refl w.heap.size w).alloc (Nat.le_refl _) (.cells #[] 9));have s1:(k:Int)≤(cap:Int):=by omega
     have s2:(k:Int)≤(l.length:Int):=by omega
     have hlk:(l.take k).length=k:=by rw [List.length_take];omega
     have HLK:=hide hlk
     have HTC:Hid (∀W' B',Txt W' B' (.slice (some ⟨g,0,none⟩) l.length cap) l→(∀j u,((l.take k).map Value.string)[j]? =some u→W'.cell? ((⟨g,0,none⟩:Addr).add j)=some u)∧(∀j u,((l.drop k).map Value.string)[j]? =some u→W'.cell? ((⟨g,k,none⟩:Addr).add j)=some u)):=fun W' B' h=>by
      refine ⟨fun j u hu=>?_,fun j u hu=>?_⟩
      ·rw [List.getElem?_map,List.getElem?_take] at hu
       split at hu
       ·cases hy:l[j]? with
        |none=>rw [hy] at hu;simp at hu
        |some y=>rw [hy] at hu;simp at hu;subst hu;rw [Mem.add_lit];exact h.cell hy
       ·simp at hu
      ·rw [List.getElem?_map,List.getElem?_drop] at hu;cases hy:l[k+j]? with
       |none=>rw [hy] at hu;simp at hu
       |some y=>rw [hy] at hu;simp at hu;subst hu;rw [Mem.zq9];exact h.cell hy
     have HO1:Hid (∀ (m:List ByteArray),∀u∈m.map Value.string,u.oneCell'=true):=fun m u hu=>by
      obtain ⟨y, -,rfl⟩:=List.mem_map.1 hu;rfl
     clear hlk hle e hx HK HIN;go_wp2_with (at_builtin;refine wpList_append_own _ rfl _ _ 108 rfl w.heap.size 9 i0 _ 1 16 Tryz.underlying108 hi hz0 hz1 hz2 rfl (by decide) _ _ _ rfl (za OA0) ⟨g,0,none⟩ k cap ((l.take k).map Value.string) rfl (by rw [List.length_map,za HLK];omega) (za HTC _ _ (za HL0 _ (za BA0))).1 (za HO1 _) (by simp;unfold maxLen;omega) (by simp;omega) (by simp) ?_)
     intro v1 wA ownA growA _
     have OA:Hid (Txt wA w.heap.size v1 (l.take k)):=by
      show World.ownsRow _ _ _ _ _ _ _;rw [za HLK]
      first |exact ownA|(simpa using ownA)
     have BA:=hide ((za BA0).grown growA (by simp) (fun q hq=>by cases hq;exact Nat.le_refl _));clear ownA growA OA0 BA0;obtain ⟨TK,hTK⟩:∃TK,l.take k=TK:=⟨_,rfl⟩;rw [hTK] at OA HLK;have HTK:=hide hTK;clear hTK;have hsA:=(za BA).size;go_wp2_with (at_builtin;refine wpList_append_own _ rfl _ _ 108 rfl w.heap.size 9 i0 _ 1 16 Tryz.underlying108 hi hz0 hz1 hz2 rfl (by decide) _ _ _ rfl (Mem.zj2 (za OA) (bE0)) ⟨wA.heap.size,0,none⟩ 1 1 [.string t] rfl rfl (Mem.zh5 _ _ _) (fun u hu=>by simp at hu;subst hu;rfl) (by rw [za HLK];unfold maxLen;omega) (by rw [za HLK];omega) (by simp;omega) ?_)
     intro v2 wB ownB growB _
     have OB:Hid (Txt wB w.heap.size v2 (TK++[t])):=by
      show World.ownsRow _ _ _ _ _ _ _;rw [List.map_append,List.length_append];exact ownB
     have BB:=hide (((za BA).alloc hsA (.cells #[.string t] 9)).grown growB (by simp;omega) (fun q hq=>(World.ownsRow.lt (za OA) q hq).1));clear ownB growB OA BA hsA;have hsB:=(za BB).size;have HLB:Hid ((TK++[t]).length=k+1):=by show _=_;rw [List.length_append,za HLK];rfl
     have HLD:Hid ((l.drop k).length=l.length - k):=List.length_drop;have HDL:=hide (za HTC wB _ (za HL0 _ (za BB))).2;have HON:=hide (za HO1 (l.drop k));go_wp2_with (at_builtin;refine wpList_append_own _ rfl _ _ 108 rfl w.heap.size 9 i0 _ 1 16 Tryz.underlying108 hi hz0 hz1 hz2 rfl (by decide) _ _ _ rfl (za OB) ⟨g,k,none⟩ (l.length - k) (cap - k) ((l.drop k).map Value.string) rfl (by rw [List.length_map,za HLD];omega) (za HDL) (za HON) (by rw [za HLB];unfold maxLen;omega) (by rw [za HLB];omega) hsB ?_)
     intro v3 wC ownC growC _
     have OC:Hid (Txt wC w.heap.size v3 (TK++[t]++l.drop k)):=by
      show World.ownsRow _ _ _ _ _ _ _;have e1:(TK++[t]++l.drop k).length=TK.length+1+(l.length - k):=by rw [List.length_append,List.length_append,za HLD];rfl
      have e2:(TK++[t]++l.drop k).map Value.string=TK.map Value.string++Value.string t::List.drop k (l.map Value.string):=by simp [List.map_drop]
      rw [e1,e2]
      first |exact ownC|(simpa using ownC)
     have BC:=hide ((za BB).grown growC hsB (fun q hq=>(World.ownsRow.lt (za OB) q hq).1));clear ownC growC OB BB HDL HON HLB HLD HTC HL0 HO1;rw [←za HTK,←za EI] at OC;have hpos:0<(Pl.insN t l).length:=by rw [za EI,List.length_append,List.length_append,List.length_singleton];omega
     obtain ⟨g',cap',rfl⟩:∃g' cap',v3= .slice (some ⟨g',0,none⟩) (Pl.insN t l).length cap':=by
      rcases (za OC).2 with ⟨_,h0⟩|⟨g',cap',cur,hv, -⟩
      ·omega
      ·exact ⟨g',cap',hv⟩
     go_wp2
     go_ret
     exact ⟨g',cap',rfl,Mem.zr5 (za OC) hB,za BC⟩
   ·have t1:Op.bytesLess x.toList t.toList=true:=hle
    have HK2:Hid (∀ (j:Nat) y,j<k+1→l[j]? =some y→Pl.zp5 y t=true):=fun j y hj hy=>by
     by_cases h:j<k
     ·exact za HK j y h hy
     ·obtain rfl:j=k:=by omega
      rw [hx] at hy;cases hy;exact hle
    clear hle hx HK HIN;go_wp2
    go_round
    case rel=>exact ⟨k+1,by omega,by go_num,HK2⟩
    case measure=>simp [intOf];omega
  ·have y1:¬ (k:Int)<(l.length:Int):=by omega
   have EI:Hid (Pl.insN t l=l.take k++[t]++l.drop k):=by
    show _=_;rw [za HIN k (za HK) (fun y hy=>by rw [List.getElem?_eq_none (by omega)] at hy;cases hy) hk,if_neg (by rw [List.getElem?_eq_none (by omega)];simp)]
   by_cases hkc:k<cap
   ·have HL0:=hide (fun W' (b:Below w.heap.size w W')=>Mem.zj2 (za HO) b);have OA0:Hid (Txt (w.alloc (.cells #[] 9)) w.heap.size (.slice (some ⟨w.heap.size,0,none⟩) 0 0) []):=⟨rfl, .inr ⟨w.heap.size,0,#[],rfl,Nat.le_refl _,heap_alloc_new _ _,Nat.le_refl _,Nat.zero_le _,rfl,rfl⟩⟩;have BA0:=hide ((Below.refl w.heap.size w).alloc (Nat.le_refl _) (.cells #[] 9));have s1:(k:Int)≤(cap:Int):=by omega
    have s2:(k:Int)≤(l.length:Int):=by omega
    have hlk:(l.take k).length=k:=by rw [List.length_take];omega
    have HLK:=hide hlk
    have HTC:Hid (∀W' B',Txt W' B' (.slice (some ⟨g,0,none⟩) l.length cap) l→(∀j u,((l.take k).map Value.string)[j]? =some u→W'.cell? ((⟨g,0,none⟩:Addr).add j)=some u)∧(∀j u,((l.drop k).map Value.string)[j]? =some u→W'.cell? ((⟨g,k,none⟩:Addr).add j)=some u)):=fun W' B' h=>by
     refine ⟨fun j u hu=>?_,fun j u hu=>?_⟩
     ·rw [List.getElem?_map,List.getElem?_take] at hu
      split at hu
      ·cases hy:l[j]? with
       |none=>rw [hy] at hu;simp at hu
       |some y=>rw [hy] at hu;simp at hu;subst hu;rw [Mem.add_lit];exact h.cell hy
      ·simp at hu
     ·rw [List.getElem?_map,List.getElem?_drop] at hu;cases hy:l[k+j]? with
      |none=>rw [hy] at hu;simp at hu
      |some y=>rw [hy] at hu;simp at hu;subst hu;rw [Mem.zq9];exact h.cell hy
    have HO1:Hid (∀ (m:List ByteArray),∀u∈m.map Value.string,u.oneCell'=true):=fun m u hu=>by
     obtain ⟨y, -,rfl⟩:=List.mem_map.1 hu;rfl
    clear hlk HK HIN;go_wp2_with (at_builtin;refine wpList_append_own _ rfl _ _ 108 rfl w.heap.size 9 i0 _ 1 16 Tryz.underlying108 hi hz0 hz1 hz2 rfl (by decide) _ _ _ rfl (za OA0) ⟨g,0,none⟩ k cap ((l.take k).map Value.string) rfl (by rw [List.length_map,za HLK];omega) (za HTC _ _ (za HL0 _ (za BA0))).1 (za HO1 _) (by simp;unfold maxLen;omega) (by simp;omega) (by simp) ?_)
    intro v1 wA ownA growA _
    have OA:Hid (Txt wA w.heap.size v1 (l.take k)):=by
     show World.ownsRow _ _ _ _ _ _ _;rw [za HLK]
     first |exact ownA|(simpa using ownA)
    have BA:=hide ((za BA0).grown growA (by simp) (fun q hq=>by cases hq;exact Nat.le_refl _));clear ownA growA OA0 BA0;obtain ⟨TK,hTK⟩:∃TK,l.take k=TK:=⟨_,rfl⟩;rw [hTK] at OA HLK;have HTK:=hide hTK;clear hTK;have hsA:=(za BA).size;go_wp2_with (at_builtin;refine wpList_append_own _ rfl _ _ 108 rfl w.heap.size 9 i0 _ 1 16 Tryz.underlying108 hi hz0 hz1 hz2 rfl (by decide) _ _ _ rfl (Mem.zj2 (za OA) (bE0)) ⟨wA.heap.size,0,none⟩ 1 1 [.string t] rfl rfl (Mem.zh5 _ _ _) (fun u hu=>by simp at hu;subst hu;rfl) (by rw [za HLK];unfold maxLen;omega) (by rw [za HLK];omega) (by simp;omega) ?_)
    intro v2 wB ownB growB _
    have OB:Hid (Txt wB w.heap.size v2 (TK++[t])):=by
     show World.ownsRow _ _ _ _ _ _ _;rw [List.map_append,List.length_append];exact ownB
    have BB:=hide (((za BA).alloc hsA (.cells #[.string t] 9)).grown growB (by simp;omega) (fun q hq=>(World.ownsRow.lt (za OA) q hq).1));clear ownB growB OA BA hsA;have hsB:=(za BB).size;have HLB:Hid ((TK++[t]).length=k+1):=by show _=_;rw [List.length_append,za HLK];rfl
    have HLD:Hid ((l.drop k).length=l.length - k):=List.length_drop;have HDL:=hide (za HTC wB _ (za HL0 _ (za BB))).2;have HON:=hide (za HO1 (l.drop k));go_wp2_with (at_builtin;refine wpList_append_own _ rfl _ _ 108 rfl w.heap.size 9 i0 _ 1 16 Tryz.underlying108 hi hz0 hz1 hz2 rfl (by decide) _ _ _ rfl (za OB) ⟨g,k,none⟩ (l.length - k) (cap - k) ((l.drop k).map Value.string) rfl (by rw [List.length_map,za HLD];omega) (za HDL) (za HON) (by rw [za HLB];unfold maxLen;omega) (by rw [za HLB];omega) hsB ?_)
    intro v3 wC ownC growC _
    have OC:Hid (Txt wC w.heap.size v3 (TK++[t]++l.drop k)):=by
     show World.ownsRow _ _ _ _ _ _ _;have e1:(TK++[t]++l.drop k).length=TK.length+1+(l.length - k):=by rw [List.length_append,List.length_append,za HLD];rfl
     have e2:(TK++[t]++l.drop k).map Value.string=TK.map Value.string++Value.string t::List.drop k (l.map Value.string):=by simp [List.map_drop]
     rw [e1,e2]
     first |exact ownC|(simpa using ownC)
    have BC:=hide ((za BB).grown growC hsB (fun q hq=>(World.ownsRow.lt (za OB) q hq).1));clear ownC growC OB BB HDL HON HLB HLD HTC HL0 HO1;rw [←za HTK,←za EI] at OC;have hpos:0<(Pl.insN t l).length:=by rw [za EI,List.length_append,List.length_append,List.length_singleton];omega
    obtain ⟨g',cap',rfl⟩:∃g' cap',v3= .slice (some ⟨g',0,none⟩) (Pl.insN t l).length cap':=by
     rcases (za OC).2 with ⟨_,h0⟩|⟨g',cap',cur,hv, -⟩
     ·omega
     ·exact ⟨g',cap',hv⟩
    go_wp2
    go_ret
    exact ⟨g',cap',rfl,Mem.zr5 (za OC) hB,za BC⟩
   ·obtain rfl:k=cap:=by omega
    have HL0:=hide (fun W' (b:Below w.heap.size w W')=>Mem.zj2 (za HO) b);have OA0:Hid (Txt (w.alloc (.cells #[] 9)) w.heap.size (.slice (some ⟨w.heap.size,0,none⟩) 0 0) []):=⟨rfl, .inr ⟨w.heap.size,0,#[],rfl,Nat.le_refl _,heap_alloc_new _ _,Nat.le_refl _,Nat.zero_le _,rfl,rfl⟩⟩;have BA0:=hide ((Below.refl w.heap.size w).alloc (Nat.le_refl _) (.cells #[] 9));have s1:(k:Int)≤(k:Int):=by omega
    have s2:(k:Int)≤(l.length:Int):=by omega
    have hlk:(l.take k).length=k:=by rw [List.length_take];omega
    have HLK:=hide hlk
    have HTC:Hid (∀W' B',Txt W' B' (.slice (some ⟨g,0,none⟩) l.length k) l→(∀j u,((l.take k).map Value.string)[j]? =some u→W'.cell? ((⟨g,0,none⟩:Addr).add j)=some u)∧(∀j u,((l.drop k).map Value.string)[j]? =some u→W'.cell? ((⟨g,k,none⟩:Addr).add j)=some u)):=fun W' B' h=>by
     refine ⟨fun j u hu=>?_,fun j u hu=>?_⟩
     ·rw [List.getElem?_map,List.getElem?_take] at hu
      split at hu
      ·cases hy:l[j]? with
       |none=>rw [hy] at hu;simp at hu
       |some y=>rw [hy] at hu;simp at hu;subst hu;rw [Mem.add_lit];exact h.cell hy
      ·simp at hu
     ·rw [List.getElem?_map,List.getElem?_drop] at hu;cases hy:l[k+j]? with
      |none=>rw [hy] at hu;simp at hu
      |some y=>rw [hy] at hu;simp at hu;subst hu;rw [Mem.zq9];exact h.cell hy
    have HO1:Hid (∀ (m:List ByteArray),∀u∈m.map Value.string,u.oneCell'=true):=fun m u hu=>by
     obtain ⟨y, -,rfl⟩:=List.mem_map.1 hu;rfl
    clear hlk HK HIN;go_wp2_with (at_builtin;refine wpList_append_own _ rfl _ _ 108 rfl w.heap.size 9 i0 _ 1 16 Tryz.underlying108 hi hz0 hz1 hz2 rfl (by decide) _ _ _ rfl (za OA0) ⟨g,0,none⟩ k k ((l.take k).map Value.string) rfl (by rw [List.length_map,za HLK];omega) (za HTC _ _ (za HL0 _ (za BA0))).1 (za HO1 _) (by simp;unfold maxLen;omega) (by simp;omega) (by simp) ?_)
    intro v1 wA ownA growA _
    have OA:Hid (Txt wA w.heap.size v1 (l.take k)):=by
     show World.ownsRow _ _ _ _ _ _ _;rw [za HLK]
     first |exact ownA|(simpa using ownA)
    have BA:=hide ((za BA0).grown growA (by simp) (fun q hq=>by cases hq;exact Nat.le_refl _));clear ownA growA OA0 BA0;obtain ⟨TK,hTK⟩:∃TK,l.take k=TK:=⟨_,rfl⟩;rw [hTK] at OA HLK;have HTK:=hide hTK;clear hTK;have hsA:=(za BA).size;go_wp2_with (at_builtin;refine wpList_append_own _ rfl _ _ 108 rfl w.heap.size 9 i0 _ 1 16 Tryz.underlying108 hi hz0 hz1 hz2 rfl (by decide) _ _ _ rfl (Mem.zj2 (za OA) (bE0)) ⟨wA.heap.size,0,none⟩ 1 1 [.string t] rfl rfl (Mem.zh5 _ _ _) (fun u hu=>by simp at hu;subst hu;rfl) (by rw [za HLK];unfold maxLen;omega) (by rw [za HLK];omega) (by simp;omega) ?_)
    intro v2 wB ownB growB _
    have OB:Hid (Txt wB w.heap.size v2 (TK++[t])):=by
     show World.ownsRow _ _ _ _ _ _ _;rw [List.map_append,List.length_append];exact ownB
    have BB:=hide (((za BA).alloc hsA (.cells #[.string t] 9)).grown growB (by simp;omega) (fun q hq=>(World.ownsRow.lt (za OA) q hq).1));clear ownB growB OA BA hsA;have hsB:=(za BB).size;have HLB:Hid ((TK++[t]).length=k+1):=by show _=_;rw [List.length_append,za HLK];rfl
    have HLD:Hid ((l.drop k).length=l.length - k):=List.length_drop;have HDL:=hide (za HTC wB _ (za HL0 _ (za BB))).2;have HON:=hide (za HO1 (l.drop k));go_wp2_with (at_builtin;refine wpList_append_own _ rfl _ _ 108 rfl w.heap.size 9 i0 _ 1 16 Tryz.underlying108 hi hz0 hz1 hz2 rfl (by decide) _ _ _ rfl (za OB) ⟨g,0,none⟩ 0 0 ([]:List Value) rfl rfl (by intro j u hu;simp at hu) (by simp) (by rw [za HLB];unfold maxLen;omega) (by rw [za HLB];omega) hsB ?_)
    intro v3 wC ownC growC _
    have OC:Hid (Txt wC w.heap.size v3 (TK++[t]++l.drop k)):=by
     show World.ownsRow _ _ _ _ _ _ _;have hdk:l.drop k=[]:=List.drop_eq_nil_of_le (by omega);rw [hdk,List.append_nil,List.map_append,List.length_append]
     first |exact ownC|(simpa using ownC)
    have BC:=hide ((za BB).grown growC hsB (fun q hq=>(World.ownsRow.lt (za OB) q hq).1));clear ownC growC OB BB HDL HON HLB HLD HTC HL0 HO1;rw [←za HTK,←za EI] at OC;have hpos:0<(Pl.insN t l).length:=by rw [za EI,List.length_append,List.length_append,List.length_singleton];omega
    obtain ⟨g',cap',rfl⟩:∃g' cap',v3= .slice (some ⟨g',0,none⟩) (Pl.insN t l).length cap':=by
     rcases (za OC).2 with ⟨_,h0⟩|⟨g',cap',cur,hv, -⟩
     ·omega
     ·exact ⟨g',cap',hv⟩
    go_wp2
    go_ret
    exact ⟨g',cap',rfl,Mem.zr5 (za OC) hB,za BC⟩
end WName4
end
section
open Go.RowKit
namespace WName4
set_option linter.unusedSimpArgs false in
set_option maxRecDepth 100000 in
set_option maxHeartbeats 2000000 in
theorem zs1 (q:ByteArray) (Ts:List Pl.Tr) (ks:List Nat) (ad:Option Addr) (capt gp cp:Nat) (w:World) (hT:Mem.zx1 w ad Ts) (hk4:ks.length≤4) (hkl:∀k∈ks,k<Ts.length) (hgp:gp<w.heap.size)
  (hP:∀ (i k:Nat),ks[i]? =some k→w.cell? ⟨gp,i,none⟩=some (.int .i64 (k:Int))) (hL:∀t∈Ts,t.L.length≤40∧∀n∈t.L,n.path.size≤1048576∧n.data.size≤1048576):
  Calls Tryz.prog 144 #[.slice ad Ts.length capt, .slice (some ⟨gp,0,none⟩) ks.length cp, .string q] w fun e w'=>∃g cap,e= .returned (.slice (some ⟨g,0,none⟩) (Pl.zg6 (Ts.map (·.L)) q ks).length cap)∧Txt w' w.heap.size (.slice (some ⟨g,0,none⟩) (Pl.zg6 (Ts.map (·.L)) q ks).length cap) (Pl.zg6 (Ts.map (·.L)) q ks)∧(Pl.zg6 (Ts.map (·.L)) q ks).length≤160∧Below w.heap.size w w':=by
 have A0:Hid (Below w.heap.size w (w.alloc (.cells #[] 9))∧∃g cap,(Value.slice (some ⟨w.heap.size,0,none⟩) 0 0)= .slice (some ⟨g,0,none⟩) (Pl.zg6 (Ts.map (·.L)) q (ks.take 0)).length cap∧Txt (w.alloc (.cells #[] 9)) w.heap.size (.slice (some ⟨g,0,none⟩) (Pl.zg6 (Ts.map (·.L)) q (ks.take 0)).length cap) (Pl.zg6 (Ts.map (·.L)) q (ks.take 0))∧(Pl.zg6 (Ts.map (·.L)) q (ks.take 0)).length≤40*0):=
  ⟨(Below.refl _ _).alloc (Nat.le_refl _) _,w.heap.size,0,rfl,⟨rfl, .inr ⟨w.heap.size,0,#[],rfl,Nat.le_refl _,heap_alloc_new _ _,Nat.le_refl _,Nat.zero_le _,rfl,rfl⟩⟩,Nat.le_refl _⟩
 have HT:=hide hT;have HP:=hide hP;have HL:=hide hL;have HST:Hid (∀ (j k:Nat) (t:Pl.Tr),ks[j]? =some k→Ts[k]? =some t→Pl.zg6 (Ts.map (·.L)) q (ks.take (j+1))=Pl.zi (Pl.zg6 (Ts.map (·.L)) q (ks.take j)) (Pl.zh0 q t.L)):=fun j k t h1 h2=>Pl.namesK_step h1 (by rw [List.getElem?_map,h2];rfl);have HFI:Hid (Pl.zg6 (Ts.map (·.L)) q ks=Pl.zg6 (Ts.map (·.L)) q (ks.take ks.length)):=by show _=_;rw [List.take_length]
 obtain ⟨NK,hNK⟩:∃NK:Nat→List ByteArray,NK=fun j=>Pl.zg6 (Ts.map (·.L)) q (ks.take j):=⟨_,rfl⟩;have e0:∀j,Pl.zg6 (Ts.map (·.L)) q (ks.take j)=NK j:=fun j=>by rw [hNK]
 simp only [e0] at A0 HST HFI;generalize Pl.zg6 (Ts.map (·.L)) q ks=RR at HFI ⊢;clear hT hP hL hNK e0;go_enter Tryz.func144,Tryz.ntmps144
 go_wp2
 go_loopw [7,8] (fun v i wr=>∃j:Nat,j≤ks.length∧i= .int .i64 (j:Int)∧Hid (Below w.heap.size w wr∧∃g cap,v= .slice (some ⟨g,0,none⟩) (NK j).length cap∧Txt wr w.heap.size (.slice (some ⟨g,0,none⟩) (NK j).length cap) (NK j)∧(NK j).length≤40*j)) (fun _ i _=>ks.length - (intOf i).toNat)
 case atStart=>exact ⟨0,Nat.zero_le _,rfl,A0⟩
 case round=>
  obtain ⟨j,hj,rfl,HA⟩:=hrel;clear A0;obtain ⟨hb,g,cap,hv7,htx,hln⟩:=za HA;subst hv7;have HB:=hide hb;have HX:=hide htx;clear HA htx;by_cases hlt:j<ks.length
  ·obtain ⟨k,hk⟩:∃k,ks[j]? =some k:=⟨_,List.getElem?_eq_getElem hlt⟩;have hkT:=hkl k (List.mem_of_getElem? hk);obtain ⟨t,ht⟩:∃t,Ts[k]? =some t:=⟨_,List.getElem?_eq_getElem hkT⟩;have HSE:=hide (za HST j k t hk ht);have htL:=za HL _ (List.mem_of_getElem? ht);obtain ⟨⟨bt,ot,hae,hbt,cT⟩,hnd⟩:=Mem.zv6 (za HT) hb k _ ht;subst hae;obtain ⟨ta,tc,tL⟩:=t;simp only [Pl.Tr.val] at cT;simp only at htL hnd HSE;have cP:=(hb.cell (p:=⟨gp,j,none⟩) hgp).trans (za HP j k hk);have y1:(j:Int)<(ks.length:Int):=by omega
   have y2:(0:Int)≤(j:Int):=by omega
   have y3:(k:Int)<(Ts.length:Int):=by omega
   have y4:(0:Int)≤(k:Int):=by omega
   have hl3:=hide (ya3.l03_any ta tc tL q wr (by omega) hnd htL.2)
   have hkn:(Pl.zh0 q tL).length≤40:=by
    have :=Pl.kids_len q tL tL.length;rw [List.take_length] at this;omega
   clear hnd htL ht hk hb;generalize Pl.zh0 q tL=K at hl3 hkn HSE;go_wp2_with fail
   refine (za hl3).mono ?_;rintro e w1 ⟨vl,rfl,hownL,b1⟩;have HB1:=hide ((za HB).trans (b1.mono (za HB).size));have HX1:Hid (Txt w1 w.heap.size (.slice (some ⟨g,0,none⟩) (NK j).length cap) (NK j)):=Mem.zj2 (za HX) b1;have HLR:=hide (Mem.zr5 hownL (Nat.zero_le _));have hs1:=(za HB).size;clear HB HX hownL b1 cT cP hl3;generalize hNj:NK j=out0 at HX1 hln HSE ⊢;obtain ⟨vla,vlc,rfl⟩:=Mem.za4 (za HLR);go_wp2
   go_loopw [7,10] (fun v i wr=>∃m:Nat,m≤K.length∧i= .int .i64 (m:Int)∧Hid (Below w.heap.size w wr∧Below w1.heap.size w1 wr∧∃g cap,v= .slice (some ⟨g,0,none⟩) (Pl.zi out0 (K.take m)).length cap∧Txt wr w.heap.size (.slice (some ⟨g,0,none⟩) (Pl.zi out0 (K.take m)).length cap) (Pl.zi out0 (K.take m))∧(Pl.zi out0 (K.take m)).length≤40*j+m)) (fun _ i _=>K.length - (intOf i).toNat)
   case atStart=>exact ⟨0,Nat.zero_le _,rfl,⟨za HB1,Below.refl _ _,g,cap,rfl,za HX1,hln⟩⟩
   case round=>
    obtain ⟨m,hm,rfl,HA⟩:=hrel;obtain ⟨hb,hb1,g2,cap2,hv7,htx,hln2⟩:=za HA;subst hv7;have HB2:=hide hb;have HB3:=hide hb1;have HX2:=hide htx;clear HA htx HB1 HX1 hln hb hb1;by_cases hlt2:m<K.length
    ·obtain ⟨t,ht⟩:∃t,K[m]? =some t:=⟨_,List.getElem?_eq_getElem hlt2⟩;have HIS:=hide (Pl.insAll_step (out:=out0) ht);have HIL:=hide (Pl.ins_len t (Pl.zi out0 (K.take m)));have hlr:=Mem.zj2 (za HLR) (za HB3)
     obtain ⟨gl,hgl⟩:∃gl,vla=some ⟨gl,0,none⟩:=by
      rcases hlr.2 with ⟨_,h0⟩|⟨gl,c',cur,h,_⟩
      ·omega
      ·injection h with h1;exact ⟨gl,h1⟩
     subst hgl;have cL:=Txt.cell (B:=0) (l:=K) hlr ht;have y5:(m:Int)<(K.length:Int):=by omega
     have y6:(0:Int)≤(m:Int):=by omega
     have hsw:=(za HB2).size;generalize hout:Pl.zi out0 (K.take m)=out1 at HX2 hln2 HIS HIL ⊢;have hnm:=hide (any w.heap.size g2 cap2 out1 t wr (by omega) hsw (za HX2));generalize hres:Pl.insN t out1=res at hnm HIS HIL;clear hlr ht HX2 hout hres;go_wp2_with fail
     refine (za hnm).mono ?_;rintro e w5 ⟨g3,cap3,rfl,htx,b5⟩
     have HZ:Hid (Below w.heap.size w w5∧Below w1.heap.size w1 w5∧∃g cap,(Value.slice (some ⟨g3,0,none⟩) res.length cap3)= .slice (some ⟨g,0,none⟩) (Pl.zi out0 (K.take (m+1))).length cap∧Txt w5 w.heap.size (.slice (some ⟨g,0,none⟩) (Pl.zi out0 (K.take (m+1))).length cap) (Pl.zi out0 (K.take (m+1)))∧(Pl.zi out0 (K.take (m+1))).length≤40*j+(m+1)):=by
      rw [za HIS];exact ⟨(za HB2).trans (b5.mono (za HB2).size),(za HB3).trans (b5.mono (za HB3).size),g3,cap3,rfl,htx,by have :=za HIL;omega⟩
     clear hnm htx b5 HB2 HB3 HIS HIL cL;go_wp2
     go_roundw
     case rel=>exact ⟨m+1,by omega,by go_num,HZ⟩
     case measure=>simp [intOf];omega
    ·have y5:¬ (m:Int)<(K.length:Int):=by omega
     have HZ:Hid (Below w.heap.size w wr∧∃g cap,(Value.slice (some ⟨g2,0,none⟩) (Pl.zi out0 (K.take m)).length cap2)= .slice (some ⟨g,0,none⟩) (NK (j+1)).length cap∧Txt wr w.heap.size (.slice (some ⟨g,0,none⟩) (NK (j+1)).length cap) (NK (j+1))∧(NK (j+1)).length≤40*(j+1)):=by
      have e1:K.take m=K:=List.take_of_length_le (by omega);have h1:=za HX2;rw [e1] at h1 hln2;rw [za HSE,e1];exact ⟨za HB2,g2,cap2,rfl,h1,by omega⟩
     clear HX2 HB2 HB3 HSE HLR hln2;go_wp2
     go_roundw
     case rel=>exact ⟨j+1,by omega,by go_num,HZ⟩
     case measure=>simp [intOf];omega
  ·obtain rfl:j=ks.length:=by omega
   have y1:¬ (ks.length:Int)<(ks.length:Int):=by omega
   have HZ:Hid (Txt wr w.heap.size (.slice (some ⟨g,0,none⟩) RR.length cap) RR∧RR.length≤160∧(NK ks.length).length=RR.length):=by
    show _∧_∧_;rw [za HFI];exact ⟨za HX,by omega,rfl⟩
   go_wp2
   go_ret
   exact ⟨g,cap,by rw [←(za HZ).2.2];rfl,(za HZ).1,(za HZ).2.1,za HB⟩
end WName4
end
section
open Go.RowKit
namespace zg9
theorem join1_any (p n:ByteArray) (w:World) (hp:p.size≤1048576) (hq:n.size≤1048576):
  Calls Tryz.prog 68 #[.string p, .string n] w fun e w'=>e= .returned (.string (Pl.ze0 p n))∧w'=w:=by
 by_cases h0:Pl.by_ p=[]
 ·have E:=hide (Pl.joinN_root (n:=n) h0);have d1:p.toList.isEmpty=true:=by rw [Pl.zd2];simp [h0]
  clear h0;go_enter Tryz.func68,Tryz.ntmps68
  go_wp2
  go_ret
  exact ⟨zz4 (za E).symm,rfl⟩
 ·have E:Hid (p++⟨#[47]⟩++n=Pl.ze0 p n):=by
   show _=_
   apply Pl.zi3
   rw [Pl.joinN_two h0];simp [Pl.by_]
  have d1:p.toList.isEmpty=false:=by rw [Pl.zd2];simp [h0]
  clear h0;generalize Pl.ze0 p n=R at E ⊢;go_enter Tryz.func68,Tryz.ntmps68
  go_wp2
  go_ret
  exact ⟨by rw [←za E];rfl,rfl⟩

end zg9
end
section
open Go.RowKit
namespace zn6
structure AtQ (w W:World) (X:Nat) (vk:Value) (ks:List Nat) (o:Pl.Ot) (v vl:Value) (L:List ByteArray):Prop where
 lt:w.heap.size+1≤X
 bel:Below w.heap.size w W
 res:Mem.Blk W w.heap.size (zb6 ⟨false,Pl.za6,[]⟩ (.slice none 0 0)).toArray 200
 out:Mem.Blk W X (zb6 o v).toArray 200
 ownK:ownI W (w.heap.size+1) vk ks
 own:ownI W (w.heap.size+1) v o.parts
 txt:W.ownsRow (w.heap.size+1) 9 1 vl L.length (L.map Value.string)
 farK:vk.ownBlock≠some X
 far:v.ownBlock≠some X
 farT:vl.ownBlock≠some X
theorem AtQ.call {w W W':World} {X:Nat} {vk:Value} {ks:List Nat} {o:Pl.Ot} {v vl:Value} {L:List ByteArray} (h:AtQ w W X vk ks o v vl L) (b:Below W.heap.size W W'):AtQ w W' X vk ks o v vl L:=
 ⟨h.lt,h.bel.trans (b.mono h.bel.size),h.res.call b,h.out.call b,zk9 h.ownK b,zk9 h.own b,zk9 h.txt b,h.farK,h.far,h.farT⟩
theorem zh {w:World} {B e size n:Nat} {v:Value} {xs:List Value} (h:w.ownsRow B e size v n xs) (a:Addr) (u:Value) (ha:v.ownBlock≠some a.block):(w.setCell a u).ownsRow B e size v n xs:=by
 refine ⟨h.1,?_⟩
 rcases h.2 with h0|⟨g,cap,cur,rfl,hb,hg,rest⟩
 ·exact .inl h0
 ·exact .inr ⟨g,cap,cur,rfl,hb,(heap_setCell_other w a g u (fun e=>ha (by rw [←e];rfl))).trans hg,rest⟩
theorem AtQ.put {w W:World} {X:Nat} {vk:Value} {ks:List Nat} {o:Pl.Ot} {v vl:Value} {L:List ByteArray} (h:AtQ w W X vk ks o v vl L) {o':Pl.Ot} {v':Value} (own':ownI W (w.heap.size+1) v' o'.parts) (far':v'.ownBlock≠some X):
  AtQ w (((((((W.setCell ⟨X,0,none⟩ (.bool o'.ok)).setCell ⟨X,1,none⟩ (.string o'.node.path)).setCell ⟨X,2,none⟩ (.int .i64 o'.node.kind)).setCell ⟨X,3,none⟩ (.string o'.node.data)).setCell ⟨X,4,none⟩ (.int .i64 o'.node.time)).setCell ⟨X,5,none⟩ (.int .i64 o'.node.mark)).setCell ⟨X,6,none⟩ v') X vk ks o' v' vl L:=by
 have hx:w.heap.size≤X:=by have :=h.lt;omega
 have hne:w.heap.size≠X:=by have :=h.lt;omega
 refine ⟨h.lt,((((((h.bel.setCell (p:=⟨X,0,none⟩) hx _).setCell (p:=⟨X,1,none⟩) hx _).setCell (p:=⟨X,2,none⟩) hx _).setCell (p:=⟨X,3,none⟩) hx _).setCell (p:=⟨X,4,none⟩) hx _).setCell (p:=⟨X,5,none⟩) hx _).setCell (p:=⟨X,6,none⟩) hx _,((((((h.res.far ⟨X,0,none⟩ _ hne).far ⟨X,1,none⟩ _ hne).far ⟨X,2,none⟩ _ hne).far ⟨X,3,none⟩ _ hne).far ⟨X,4,none⟩ _ hne).far ⟨X,5,none⟩ _ hne).far ⟨X,6,none⟩ _ hne,?_,?_,?_,?_,h.farK,far',h.farT⟩
 ·have h2:=((((((h.out.put 0 (.bool o'.ok)).put 1 (.string o'.node.path)).put 2 (.int .i64 o'.node.kind)).put 3 (.string o'.node.data)).put 4 (.int .i64 o'.node.time)).put 5 (.int .i64 o'.node.mark)).put 6 v';simp only [kB3] at h2;exact h2
 ·exact zh (zh (zh (zh (zh (zh (zh h.ownK _ _ h.farK) _ _ h.farK) _ _ h.farK) _ _ h.farK) _ _ h.farK) _ _ h.farK) _ _ h.farK
 ·exact zh (zh (zh (zh (zh (zh (zh own' _ _ far') _ _ far') _ _ far') _ _ far') _ _ far') _ _ far') _ _ far'
 ·exact zh (zh (zh (zh (zh (zh (zh h.txt _ _ h.farT) _ _ h.farT) _ _ h.farT) _ _ h.farT) _ _ h.farT) _ _ h.farT) _ _ h.farT
theorem AtQ.next {w W:World} {X:Nat} {vk:Value} {ks:List Nat} {o:Pl.Ot} {v vl:Value} {L:List ByteArray} (h:AtQ w W X vk ks o v vl L):AtQ w W X v o.parts o v vl L:=
 ⟨h.lt,h.bel,h.res,h.out,h.own,h.own,h.txt,h.far,h.far,h.farT⟩
theorem yn9 {W:World} {B:Nat} {v:Value} {ks:List Nat} (h:ownI W B v ks) (hk:ks≠[]):∃g cap,v= .slice (some ⟨g,0,none⟩) ks.length cap∧B≤g∧g<W.heap.size∧∀ (i k:Nat),ks[i]? =some k→W.cell? ⟨g,i,none⟩=some (.int .i64 (k:Int)):=by
 have hp:=List.length_pos_iff.2 hk
 rcases h.2 with ⟨_,h0⟩|⟨g,cap,cur,hv,hb,hg, -⟩
 ·omega
 subst hv;refine ⟨g,cap,rfl,hb,(Array.getElem?_eq_some_iff.1 hg).1,fun i k hi=>?_⟩;have :=World.ownsRow.cells h (g:=g) rfl i (.int .i64 (k:Int)) (by simp [intsV,hi]);rw [Mem.add_lit] at this;exact this
end zn6
namespace Pl
end Pl
end
section
open Go.RowKit
namespace WWalk4
open zn6 WName4
structure Wk (w0 w W:World) (v0 v:Value) (out:List Pl.Nd) (vl:Value) (NL:List ByteArray):Prop where
 bel:Below w0.heap.size w0 W
 grown:w.grownBy W v0.ownBlock
 own:Mem.ownN W w0.heap.size v out
 far:∀g,v.ownBlock=some g→v0.ownBlock=some g∨w.heap.size≤g
 txt:Txt W 0 vl NL
 farT:∀g,v.ownBlock=some g→vl.ownBlock≠some g
theorem ya0 {w v v':World} {r:Option Nat} (h:w.grownBy v r) (b:Below v.heap.size v v'):w.grownBy v' r:=
 ⟨b.os.trans h.os,b.tape.trans h.tape,b.output.trans h.output,Nat.le_trans h.size b.size,fun j hj hne=>(b.block j (Nat.lt_of_lt_of_le hj h.size)).trans (h.block j hj hne)⟩
theorem Wk.call {w0 w W W':World} {v0 v:Value} {out:List Pl.Nd} {vl:Value} {NL:List ByteArray} (h:Wk w0 w W v0 v out vl NL) (b:Below W.heap.size W W'):Wk w0 w W' v0 v out vl NL:=
 ⟨h.bel.trans (b.mono h.bel.size),ya0 h.grown b,Mem.zg7 h.own b,h.far,Mem.zj2 h.txt b,h.farT⟩
theorem Wk.more {w0 w W W':World} {v0 v v':Value} {out out':List Pl.Nd} {vl:Value} {NL:List ByteArray} (h:Wk w0 w W v0 v out vl NL) (own:Mem.ownN W' w0.heap.size v' out') (g:W.grownBy W' v.ownBlock) (far:∀g,v'.ownBlock=some g→v.ownBlock=some g∨W.heap.size≤g):Wk w0 w W' v0 v' out' vl NL:=by
 have hlo:∀q,v.ownBlock=some q→w0.heap.size≤q:=fun q hq=>(World.ownsRow.lt h.own q hq).1;refine ⟨h.bel.grown g h.bel.size hlo,?_,own,fun q hq=>?_,zy6 h.txt g (fun q hq e=>h.farT q e.symm hq),fun q hq e=>?_⟩
 ·refine ⟨g.os.trans h.grown.os,g.tape.trans h.grown.tape,g.output.trans h.grown.output,Nat.le_trans h.grown.size g.size,fun j hj hne=>?_⟩;refine (g.block j (Nat.lt_of_lt_of_le hj h.grown.size) (fun e=>?_)).trans (h.grown.block j hj hne)
  rcases h.far j e.symm with h1|h1
  ·exact hne h1.symm
  ·omega
 ·rcases far q hq with h1|h1
  ·exact h.far q h1
  ·exact .inr (Nat.le_trans h.grown.size h1)
 ·rcases far q hq with h1|h1
  ·exact h.farT q h1 e
  ·have :=(World.ownsRow.lt h.txt q e).2;omega
theorem step_take {NL:List ByteArray} {f:ByteArray→List Pl.Nd} {j:Nat} {t:ByteArray} (h:NL[j]? =some t):(NL.take (j+1)).flatMap f=(NL.take j).flatMap f++f t:=by
 have h1:=List.getElem?_eq_some_iff.1 h;rw [List.take_succ_eq_append_getElem h1.1,h1.2,List.flatMap_append];simp
theorem take_le (NL:List ByteArray) (f:ByteArray→List Pl.Nd) (j:Nat):((NL.take j).flatMap f).length≤(NL.flatMap f).length:=by
 conv=>rhs;rw [←List.take_append_drop j NL,List.flatMap_append,List.length_append]
 omega
def Got (w0 w w':World) (v v':Value) (O:List Pl.Nd):Prop:=Mem.ownN w' w0.heap.size v' O∧w.grownBy w' v.ownBlock∧∀g,v'.ownBlock=some g→v.ownBlock=some g∨w.heap.size≤g
set_option linter.unusedSimpArgs false in
set_option maxRecDepth 100000 in
set_option maxHeartbeats 4000000 in
theorem walk_any (w0:World) (Ts:List Pl.Tr) (ad:Option Addr) (capt:Nat) (hT:Mem.zx1 w0 ad Ts) (hn4:Ts.length≤4) (hL:∀t∈Ts,t.L.length≤40∧∀n∈t.L,(n.path.size≤1048576∧n.data.size≤1048576)∧0≤n.mark∧n.mark≤8) (htr:∀M∈Ts.map (·.L),Pl.za5 M=true):
  ∀ (d:Nat) (q:ByteArray) (ks:List Nat) (gp cp:Nat) (v:Value) (out:List Pl.Nd) (w:World),Below w0.heap.size w0 w→Mem.ownN w w0.heap.size v out→gp<w.heap.size→v.ownBlock≠some gp→(∀ (i k:Nat),ks[i]? =some k→w.cell? ⟨gp,i,none⟩=some (.int .i64 (k:Int)))→
   Pl.At4 (Ts.map (·.L)) ks q→ks≠[]→(Pl.names q).length+d=7→out.length+(Pl.zl (Ts.map (·.L)) d ks q).length≤1000→
   Calls Tryz.prog 138 #[v, .slice ad Ts.length capt, .slice (some ⟨gp,0,none⟩) ks.length cp, .string q] w fun e w'=>∃v',e= .returned v'∧Got w0 w w' v v' (out++Pl.zl (Ts.map (·.L)) d ks q):=by
 intro d
 induction d with
 |zero=>intro q ks gp cp v out w _ _ _ _ _ ha _ hd _;have :=(Pl.zy4 ha.path).2;omega
 |succ d ih=>
  intro q ks gp cp v out w hbel hown hgp hgv hP ha hks hd hbd;obtain ⟨iN,hiN,hN0,hN1,hN2⟩:=info_parts zn2;have hk4:ks.length≤4:=by have :=ha.sub.length_le;rw [List.length_range,List.length_map] at this;omega
  have hkl:∀k∈ks,k<Ts.length:=fun k hk=>by have :=ha.sub.subset hk;rw [List.mem_range,List.length_map] at this;exact this
  have hq2:=Pl.zd1 ha.path;have hn4':(Ts.map (·.L)).length≤4:=by rw [List.length_map];exact hn4
  have HNM:=hide (zs1 q Ts ks ad capt gp cp w (Mem.zv6 hT hbel) hk4 hkl hgp hP (fun t ht=>⟨(hL t ht).1,fun n hn=>((hL t ht).2 n hn).1⟩));have HND:=hide (fun t (ht:t∈Pl.zg6 (Ts.map (·.L)) q ks)=>Pl.nk_node hn4' htr ha ht);have EW:Hid (Pl.zl (Ts.map (·.L)) (d+1) ks q=(Pl.zg6 (Ts.map (·.L)) q ks).flatMap (Pl.zx7 (Pl.zl (Ts.map (·.L)) d) (Ts.map (·.L)) ks q)):=rfl;generalize Pl.zl (Ts.map (·.L)) (d+1) ks q=RW at EW hbd ⊢;generalize Pl.zg6 (Ts.map (·.L)) q ks=NL at HNM HND EW;have HBD:=hide hbd;have HIH:=hide ih;have HP:=hide hP;have HA:=hide ha;have HOW:=hide hown;have HBL:=hide hbel;have HGV:=hide hgv;have HKS:=hide hks;obtain ⟨va,vc,rfl⟩:=Mem.za4 hown;clear ih hP ha hown hbel hgv hbd hks;go_enter Tryz.func138,Tryz.ntmps138
  go_wp2_with fail
  refine (za HNM).mono ?_;rintro e w1 ⟨gl,cl,rfl,htx,hl160,b1⟩
  have A0:Hid (Wk w0 w w1 (.slice va out.length vc) (.slice va out.length vc) (out++(NL.take 0).flatMap (Pl.zx7 (Pl.zl (Ts.map (·.L)) d) (Ts.map (·.L)) ks q)) (.slice (some ⟨gl,0,none⟩) NL.length cl) NL):=by
   refine ⟨(za HBL).trans (b1.mono (za HBL).size),Mem.zc7 b1 _,?_,fun g hg=> .inl hg,Mem.zr5 htx (Nat.zero_le _),fun g hg e=>?_⟩
   ·show Mem.ownN _ _ _ (out++[]);rw [List.append_nil];exact Mem.zg7 (za HOW) b1
   ·have h1:=(World.ownsRow.lt (za HOW) g hg).2;have h2:=(World.ownsRow.lt htx g e).1;omega
  clear HNM htx b1 HOW HBL;generalize hf:Pl.zx7 (Pl.zl (Ts.map (·.L)) d) (Ts.map (·.L)) ks q=f at A0 EW;have HF:=hide hf;clear hf;go_wp2
  go_loopw [0,10] (fun u i wr=>∃j:Nat,j≤NL.length∧i= .int .i64 (j:Int)∧Hid (Wk w0 w wr (.slice va out.length vc) u (out++(NL.take j).flatMap f) (.slice (some ⟨gl,0,none⟩) NL.length cl) NL)) (fun _ i _=>NL.length - (intOf i).toNat)
  case atStart=>exact ⟨0,Nat.zero_le _,rfl,A0⟩
  case round=>
   obtain ⟨j,hj,rfl,HK⟩:=hrel;clear A0;by_cases hlt:j<NL.length
   ·obtain ⟨t,ht⟩:∃t,NL[j]? =some t:=⟨_,List.getElem?_eq_getElem hlt⟩;obtain ⟨M,hM,m,hm,em,e2,e3⟩:=za HND t (List.mem_of_getElem? ht)
    have htn:t.size≤20:=Nat.le_of_not_lt fun h=>by
     have h1:=(Pl.zy4 e3).1 t (by rw [e2];simp);rw [Pl.zz1 h] at h1;cases h1
    have HST:=hide (step_take (f:=f) ht);have HTL:=hide (take_le NL f (j+1));have cL:=(za HK).txt.cell ht;have hbW:=(za HK).bel;have hgW:gp<wr.heap.size:=Nat.lt_of_lt_of_le hgp (za HK).grown.size
    have hcells:∀ (i k:Nat),ks[i]? =some k→wr.cell? ⟨gp,i,none⟩=some (.int .i64 (k:Int)):=fun i k hik=>by
     have hblk:=(za HK).grown.block gp hgp (fun e=>za HGV e.symm);rw [show wr.cell? ⟨gp,i,none⟩=w.cell? ⟨gp,i,none⟩ by simp only [World.cell?,hblk]];exact za HP i k hik
    have HJ:=hide (zg9.join1_any q t wr (by omega) (by omega));have HCH:=hide (child_any (Pl.ze0 q t) Ts ks ad capt gp cp wr (Mem.zv6 hT hbW) hn4 (za HKS) hk4 hkl hgW hcells (fun t ht=>⟨by have :=(hL t ht).1;omega,fun n hn=>((hL t ht).2 n hn).2⟩));have HSA:=hide (Pl.zs7 hn4' htr (za HA) e3 e2);have HDN:=hide (Pl.yc0 hn4' htr (za HA) e3 e2)
    have EF:Hid (f t=if (Pl.zi5 (Ts.map (·.L)) ks (Pl.ze0 q t)).ok=true then (Pl.zi5 (Ts.map (·.L)) ks (Pl.ze0 q t)).node::(if (Pl.zi5 (Ts.map (·.L)) ks (Pl.ze0 q t)).node.kind=1 then Pl.zl (Ts.map (·.L)) d (Pl.zi5 (Ts.map (·.L)) ks (Pl.ze0 q t)).parts (Pl.ze0 q t) else []) else []):=by
     show _=_;rw [←za HF];rfl
    have HDD:Hid ((Pl.names (Pl.ze0 q t)).length+d=7):=by show _=_;rw [e2,List.length_append,List.length_singleton];omega
    have y1:(j:Int)<(NL.length:Int):=by omega
    have y2:(0:Int)≤(j:Int):=by omega
    clear hcells hbW ht hM hm em e2 e3 hgW;go_wp2_with fail
    refine (za HJ).mono ?_;rintro e wJ ⟨rfl,hwJ⟩;subst wJ;clear HJ cL;generalize Pl.ze0 q t=p at HCH HSA HDN EF HDD ⊢;generalize Pl.zi5 (Ts.map (·.L)) ks p=o' at HCH HSA HDN EF;go_wp2_with fail
    refine (za HCH).mono ?_;rintro e w2 ⟨vp,rfl,hown',b2⟩;obtain ⟨ok,⟨np,nk,nd,nt,nm⟩,kz⟩:=o';obtain ⟨pa,pc,rfl⟩:=yg4 hown';simp only at EF HSA HDN;simp only [zb6];have HUB:=hide (fun g hg=>(World.ownsRow.lt (za HK).own g hg).2);have K2:=hide ((za HK).call b2);have hsz2:=b2.size;have HOP:=hide hown';clear HK HCH b2 hown';go_upto_region 7 with fail
    have bN:Below w2.heap.size w2 (w2.alloc (.cells #[.bool ok, .string np, .int .i64 nk, .string nd, .int .i64 nt, .int .i64 nm, .slice pa kz.length pc] 200)):=(Below.refl _ _).alloc (Nat.le_refl _) _;have NB:=hide (Mem.Blk.new w2 #[.bool ok, .string np, .int .i64 nk, .string nd, .int .i64 nt, .int .i64 nm, .slice pa kz.length pc] 200);have K3:=hide ((za K2).call bN);have HOP3:=hide (zk9 (za HOP) bN);have hpl:∀g,(Value.slice pa kz.length pc).ownBlock=some g→wr.heap.size≤g∧g<w2.heap.size:=fun g hg=>World.ownsRow.lt (za HOP) g hg;have HPL:=hide hpl;generalize hW3:w2.alloc (.cells #[.bool ok, .string np, .int .i64 nk, .string nd, .int .i64 nt, .int .i64 nm, .slice pa kz.length pc] 200)=W3 at NB K3 HOP3 ⊢;have hX3:W3.heap.size=w2.heap.size+1:=by rw [←hW3,zk7]
    have HX3:=hide hX3;clear hW3 bN K2 HOP hpl hX3;generalize w2.heap.size=X at NB HPL hsz2 HX3 ⊢;have x0:=(za NB).cell 0;simp only [kGs] at x0;cases ok with
    |false=>
     have HZ:Hid (Wk w0 w W3 (.slice va out.length vc) u0 (out++(NL.take (j+1)).flatMap f) (.slice (some ⟨gl,0,none⟩) NL.length cl) NL):=by
      have h:=za EF;rw [if_neg (by decide)] at h;rw [za HST,h,List.append_nil];exact za K3
     clear K3 NB HOP3 HPL HUB HSA HDN EF HDD HST HTL;go_wp2
     go_roundw
     case rel=>exact ⟨j+1,by omega,by go_num,HZ⟩
     case measure=>simp [intOf];omega
    |true=>
     have EF2:Hid (f t=⟨np,nk,nd,nt,nm⟩::(if nk=1 then Pl.zl (Ts.map (·.L)) d kz p else [])):=by
      have h:=za EF;rw [if_pos rfl] at h;exact h
     have HLT:Hid ((out++(NL.take j).flatMap f).length+(f t).length≤1000):=by
      show _≤_;have h1:=za HBD;have h2:=za HTL;rw [za HST,List.length_append] at h2;rw [za EW] at h1;rw [List.length_append];omega
     have HST2:Hid (out++(NL.take (j+1)).flatMap f=(out++(NL.take j).flatMap f)++f t):=by
      show _=_;rw [za HST,List.append_assoc]
     clear EF HTL HST;generalize out++(NL.take j).flatMap f=oj at K3 HLT HST2;obtain ⟨ua,uc,rfl⟩:=Mem.za4 (za K3).own;by_cases hk1:nk=1
     ·subst hk1
      have EF3:Hid (f t=⟨np,1,nd,nt,nm⟩::Pl.zl (Ts.map (·.L)) d kz p):=by
       have h:=za EF2;rw [if_pos rfl] at h;exact h
      have HLB:Hid (oj.length+1+(Pl.zl (Ts.map (·.L)) d kz p).length≤1000):=by
       show _≤_;have h1:=za HLT;rw [za EF3,List.length_cons] at h1;omega
      have HNE:Hid (kz≠[]):=fun e=>(za HSA).no e rfl rfl;clear EF2 HLT HSA;have n1:=(za NB).cell 1;have n2:=(za NB).cell 2;have n3:=(za NB).cell 3;have n4:=(za NB).cell 4;have n5:=(za NB).cell 5;simp only [kGs] at n1 n2 n3 n4 n5;have K4:=hide ((za K3).call ((Below.refl _ _).alloc (Nat.le_refl _) (.cells #[.string np, .int .i64 1, .string nd, .int .i64 nt, .int .i64 nm] 47)));have NB4:=hide ((za NB).alloc (.cells #[.string np, .int .i64 1, .string nd, .int .i64 nt, .int .i64 nm] 47));have HOP4:=hide (zk9 (za HOP3) ((Below.refl _ _).alloc (Nat.le_refl _) (.cells #[.string np, .int .i64 1, .string nd, .int .i64 nt, .int .i64 nm] 47)));have hb3:=(za K3).bel.size;clear K3 NB HOP3
      go_wp2_with (at_builtin;refine Mem.ze1 _ rfl _ _ 41 rfl w0.heap.size 47 iN _ 5 56 Tryz.underlying41 hiN hN0 hN1 hN2 rfl (by decide) _ _ _ rfl (za K4).own ⟨W3.heap.size,0,none⟩ 1 1 [.string np, .int .i64 1, .string nd, .int .i64 nt, .int .i64 nm] rfl rfl (Mem.zp1 W3 ⟨np,1,nd,nt,nm⟩ 47) (Mem.zm9 ⟨np,1,nd,nt,nm⟩) (by have h:=za HLB;unfold maxLen;omega) (by have h:=za HLB;omega) (by rw [zk7];omega) ?_)
      intro v' w4 own' grow' far0;have far':∀g,v'.ownBlock=some g→(Value.slice ua oj.length uc).ownBlock=some g∨(W3.alloc (.cells #[.string np, .int .i64 1, .string nd, .int .i64 nt, .int .i64 nm] 47)).heap.size≤g:=fun g hg=>(far0 g hg).imp_right (fun h=>by rw [zk7];exact h);have K5:=hide ((za K4).more (out':=oj++[⟨np,1,nd,nt,nm⟩]) (Mem.zk5 own') grow' far');have NB5:=hide ((za NB4).grown grow' (fun e=>by have :=za HUB X e.symm;omega));have HOP5:Hid (ownI w4 wr.heap.size (.slice pa kz.length pc) kz):=zy6 (za HOP4) grow' (fun g hg e=>by have h1:=(za HPL g hg).1;have h2:=za HUB g e.symm;omega)
      have HFP:Hid (∀g,(Value.slice pa kz.length pc).ownBlock=some g→v'.ownBlock≠some g):=fun g hg e=>by
       have h1:=za HPL g hg
       rcases far' g e with h2|h2
       ·have :=za HUB g h2;omega
       ·rw [zk7,za HX3] at h2;omega
      clear own' grow' far0 far' K4 NB4 HOP4 n1 n2 n3 n4 n5;have k2:=(za NB5).cell 2;have k6:=(za NB5).cell 6;simp only [kGs] at k2 k6;obtain ⟨g',cap',he, -,hgl',hck'⟩:=yn9 (za HOP5) (za HNE)
      injection he with he1 he2 he3
      subst he1 he3;have hcall:=hide (za HIH p kz g' pc v' (oj++[⟨np,1,nd,nt,nm⟩]) w4 (za K5).bel (za K5).own hgl' (za HFP g' rfl) hck' (za HDN) (za HNE) (za HDD) (by rw [List.length_append,List.length_singleton];exact za HLB));clear hck' he2 HOP5 HFP HDN HNE HDD HLB NB5 HPL HUB;go_wp2_with fail
      refine (za hcall).mono ?_;rintro e w5 ⟨v'',rfl,hown5,hgr5,hfar5⟩
      have HZ:Hid (Wk w0 w w5 (.slice va out.length vc) v'' (out++(NL.take (j+1)).flatMap f) (.slice (some ⟨gl,0,none⟩) NL.length cl) NL):=by
       rw [za HST2,za EF3];have h:=(za K5).more hown5 hgr5 hfar5;rw [List.append_assoc,List.singleton_append] at h;exact h
      clear hcall hown5 hgr5 hfar5 K5 HST2 EF3 k2 k6;go_wp2
      go_roundw
      case rel=>exact ⟨j+1,by omega,by go_num,HZ⟩
      case measure=>simp [intOf];omega
     ·have EF3:Hid (f t=[⟨np,nk,nd,nt,nm⟩]):=by
       have h:=za EF2;rw [if_neg hk1] at h;exact h
      have HLB:Hid (oj.length+1≤1000):=by
       show _≤_;have h1:=za HLT;rw [za EF3] at h1;exact h1
      clear EF2 HLT HSA;have n1:=(za NB).cell 1;have n2:=(za NB).cell 2;have n3:=(za NB).cell 3;have n4:=(za NB).cell 4;have n5:=(za NB).cell 5;simp only [kGs] at n1 n2 n3 n4 n5;have K4:=hide ((za K3).call ((Below.refl _ _).alloc (Nat.le_refl _) (.cells #[.string np, .int .i64 nk, .string nd, .int .i64 nt, .int .i64 nm] 47)));have NB4:=hide ((za NB).alloc (.cells #[.string np, .int .i64 nk, .string nd, .int .i64 nt, .int .i64 nm] 47));have HOP4:=hide (zk9 (za HOP3) ((Below.refl _ _).alloc (Nat.le_refl _) (.cells #[.string np, .int .i64 nk, .string nd, .int .i64 nt, .int .i64 nm] 47)));have hb3:=(za K3).bel.size;clear K3 NB HOP3
      go_wp2_with (at_builtin;refine Mem.ze1 _ rfl _ _ 41 rfl w0.heap.size 47 iN _ 5 56 Tryz.underlying41 hiN hN0 hN1 hN2 rfl (by decide) _ _ _ rfl (za K4).own ⟨W3.heap.size,0,none⟩ 1 1 [.string np, .int .i64 nk, .string nd, .int .i64 nt, .int .i64 nm] rfl rfl (Mem.zp1 W3 ⟨np,nk,nd,nt,nm⟩ 47) (Mem.zm9 ⟨np,nk,nd,nt,nm⟩) (by have h:=za HLB;unfold maxLen;omega) (by have h:=za HLB;omega) (by rw [zk7];omega) ?_)
      intro v' w4 own' grow' far0;have far':∀g,v'.ownBlock=some g→(Value.slice ua oj.length uc).ownBlock=some g∨(W3.alloc (.cells #[.string np, .int .i64 nk, .string nd, .int .i64 nt, .int .i64 nm] 47)).heap.size≤g:=fun g hg=>(far0 g hg).imp_right (fun h=>by rw [zk7];exact h);have K5:=hide ((za K4).more (out':=oj++[⟨np,nk,nd,nt,nm⟩]) (Mem.zk5 own') grow' far');have NB5:=hide ((za NB4).grown grow' (fun e=>by have :=za HUB X e.symm;omega));have HOP5:Hid (ownI w4 wr.heap.size (.slice pa kz.length pc) kz):=zy6 (za HOP4) grow' (fun g hg e=>by have h1:=(za HPL g hg).1;have h2:=za HUB g e.symm;omega)
      have HFP:Hid (∀g,(Value.slice pa kz.length pc).ownBlock=some g→v'.ownBlock≠some g):=fun g hg e=>by
       have h1:=za HPL g hg
       rcases far' g e with h2|h2
       ·have :=za HUB g h2;omega
       ·rw [zk7,za HX3] at h2;omega
      clear own' grow' far0 far' K4 NB4 HOP4 n1 n2 n3 n4 n5;have k2:=(za NB5).cell 2;have k6:=(za NB5).cell 6;simp only [kGs] at k2 k6
      have HZ:Hid (Wk w0 w w4 (.slice va out.length vc) v' (out++(NL.take (j+1)).flatMap f) (.slice (some ⟨gl,0,none⟩) NL.length cl) NL):=by
       rw [za HST2,za EF3];exact za K5
      clear K5 HST2 EF3 HOP5 HFP HDN HDD HLB NB5 HPL HUB k6;go_wp2
      go_roundw
      case rel=>exact ⟨j+1,by omega,by go_num,HZ⟩
      case measure=>simp [intOf];omega
   ·obtain rfl:j=NL.length:=by omega
    have y1:¬ (NL.length:Int)<(NL.length:Int):=by omega
    have HZ:Hid (Got w0 w wr (.slice va out.length vc) u0 (out++RW)):=by
     have h:=za HK;rw [List.take_length,←za EW] at h;exact ⟨h.own,h.grown,h.far⟩
    clear HK;go_wp2
    go_ret
    exact ⟨_,rfl,za HZ⟩
end WWalk4
end
section
open Go.RowKit
namespace WWalk4
open zn6 WName4
set_option linter.unusedSimpArgs false in
set_option maxRecDepth 100000 in
set_option maxHeartbeats 1000000 in
theorem over4_any (Ts:List Pl.Tr) (ad:Option Addr) (capt:Nat) (w:World) (hT:Mem.zx1 w ad Ts) (hn1:1≤Ts.length) (hn4:Ts.length≤4) (htr:∀M∈Ts.map (·.L),Pl.za5 M=true):
  Calls Tryz.prog 124 #[.slice ad Ts.length capt] w fun e w'=>∃v,e= .returned (.agg #[v, .int .i64 (if 40<(Pl.allO (Ts.map (·.L))).length then 9 else 0)])∧Mem.ownN w' w.heap.size v (if 40<(Pl.allO (Ts.map (·.L))).length then [] else Pl.allO (Ts.map (·.L)))∧Below w.heap.size w w':=by
 have b0:Below w.heap.size w (w.alloc (.cells #[.slice none 0 0, .int .i64 0] 64)):=bE0;have V0:=Mem.Blk.new w #[.slice none 0 0, .int .i64 0] 64;have hs0:=zk7 w (.cells #[.slice none 0 0, .int .i64 0] 64)
 have hL:∀t∈Ts,t.L.length≤40∧∀n∈t.L,(n.path.size≤1048576∧n.data.size≤1048576)∧0≤n.mark∧n.mark≤8:=fun t ht=>by
  have h1:=htr t.L (List.mem_map_of_mem ht);simp only [Pl.za5,Bool.and_eq_true,decide_eq_true_eq] at h1;refine ⟨h1.1,fun n hn=>?_⟩;have h2:=Pl.zt t.L _ _ h1.2 n hn;have h3:=Pl.zd8 h2;have h4:=Pl.zd1 (Pl.zb1 h2).1;exact ⟨⟨by omega,by omega⟩,by omega⟩
 have hn4':(Ts.map (·.L)).length≤4:=by rw [List.length_map];exact hn4
 have hroot:=Pl.yb3 hn4';have hlen:=Pl.all_len hn4' htr
 have HW:=hide (fun (gp cp:Nat) (W:World) (hb:Below (w.alloc (.cells #[.slice none 0 0, .int .i64 0] 64)).heap.size (w.alloc (.cells #[.slice none 0 0, .int .i64 0] 64)) W) (hg:gp<W.heap.size) hc=>
  walk_any (w.alloc (.cells #[.slice none 0 0, .int .i64 0] 64)) Ts ad capt (Mem.zv6 hT b0) hn4 hL htr 7 ⟨#[]⟩ (List.range Ts.length) gp cp (.slice none 0 0) [] W hb (Mem.zb5 _ _) hg (fun e=>by cases e) hc (by rw [List.length_map] at hroot;exact hroot) (fun e=>by have h:=congrArg List.length e;rw [List.length_range,List.length_nil] at h;omega) (by rw [(Pl.zh3 (s:=⟨#[]⟩) rfl).2];rfl) (by
   have h:=hlen;unfold Pl.allO at h;rw [List.length_map] at h;simp only [List.length_nil]
   omega))
 have EO:Hid ([]++Pl.zl (Ts.map (·.L)) 7 (List.range Ts.length) ⟨#[]⟩=Pl.allO (Ts.map (·.L))):=by
  show _=_;unfold Pl.allO;rw [List.nil_append,List.length_map]
 rw [za EO] at HW;have HAL:=hide (fun W=>all_any Ts.length W hn4);generalize Pl.allO (Ts.map (·.L))=O at HW hlen ⊢;have HS0:=hide hs0;have BB:=hide b0;have VV:=hide V0;clear hT hL htr hroot EO b0 V0 hs0;go_enter Tryz.func124,Tryz.ntmps124
 go_wp2_with fail
 refine (za HAL _).mono ?_;rintro e w1 ⟨vk,rfl,hownK,b1⟩;obtain ⟨gp,cp,rfl, -,hgp,hck⟩:=yn9 hownK (by intro e;have h:=congrArg List.length e;rw [List.length_range,List.length_nil] at h;omega);have hcall:=hide (za HW gp cp w1 b1 hgp hck);have B1:=hide ((za BB).trans (b1.mono (by rw [za HS0];omega)));have V1:=hide ((za VV).call b1);rw [List.length_range] at hcall;simp only [List.length_range];clear HW HAL hownK b1 hck BB VV;go_wp2_with fail
 refine (za hcall).mono ?_;rintro e w2 ⟨v',rfl,hown,hgr,hfar⟩;rw [za HS0] at hown;obtain ⟨va,vc,rfl⟩:=Mem.za4 hown;have B2:=hide ((za B1).grown hgr (za B1).size (fun q hq=>by cases hq));have V2:=hide ((za V1).grown hgr (fun e=>by cases e));have HO:=hide hown;clear hcall hgr hfar hown B1 V1 hlen;by_cases h40:40<O.length
 ·have y1:(40:Int)<(O.length:Int):=by omega
  have HP40:=hide h40;have hil:=hide (fun W=>zj1.zc6 9 W);clear h40;go_wp2_with fail
  refine (za hil _).mono ?_;rintro e w3 ⟨rfl,b3⟩;have B3:=(za B2).trans (b3.mono (za B2).size);have V3:=(za V2).call b3;obtain ⟨⟨d0,d1⟩,f0,f1⟩:=jf2 V3;clear V3 V2 hil b3 B2 HO;go_wp2
  refine bodyPost_ret (v:= .agg #[.slice none 0 0, .int .i64 9]) (by simp [results,Tryz.results124,go_sem,d0,d1]) rfl ⟨.slice none 0 0,rfl,Mem.zb5 _ _,?_⟩;exact (B3.setCell (Nat.le_refl _) _).setCell (Nat.le_refl _) _
 ·have y1:¬ (40:Int)<(O.length:Int):=by omega
  have HN40:=hide h40
  have V6:Hid (Mem.Blk ((w2.setCell ⟨w.heap.size,0,none⟩ (.slice va O.length vc)).setCell ⟨w.heap.size,1,none⟩ (.int .i64 0)) w.heap.size #[.slice va O.length vc, .int .i64 0] 64):=by
   have h:=((za V2).put 0 (.slice va O.length vc)).put 1 (.int .i64 0);simp only [kB3] at h;exact h
  have RT:Hid (Below w.heap.size w ((w2.setCell ⟨w.heap.size,0,none⟩ (.slice va O.length vc)).setCell ⟨w.heap.size,1,none⟩ (.int .i64 0))∧Mem.ownN ((w2.setCell ⟨w.heap.size,0,none⟩ (.slice va O.length vc)).setCell ⟨w.heap.size,1,none⟩ (.int .i64 0)) w.heap.size (.slice va O.length vc) O):=
   ⟨((za B2).setCell (Nat.le_refl _) _).setCell (Nat.le_refl _) _,Mem.zb3 (Mem.za8 (Mem.za8 (za HO) _ _ (by show w.heap.size<_;omega)) _ _ (by show w.heap.size<_;omega)) (by omega)⟩
  obtain ⟨⟨d0,d1⟩,f0,f1⟩:=jf2 (za V2);clear V2 B2 HO h40;go_wp2
  generalize (w2.setCell ⟨w.heap.size,0,none⟩ (.slice va O.length vc)).setCell ⟨w.heap.size,1,none⟩ (.int .i64 0)=WR at RT V6 ⊢;obtain ⟨q0,q1⟩:=jc2 (za V6);exact bodyPost_ret (v:= .agg #[.slice va O.length vc, .int .i64 0]) (by simp [results,Tryz.results124,go_sem,q0,q1]) rfl ⟨.slice va O.length vc,rfl,(za RT).2,(za RT).1⟩
end WWalk4
end
end Go.Proofs.YthdhhcgopfgcbaaGreatDoor
