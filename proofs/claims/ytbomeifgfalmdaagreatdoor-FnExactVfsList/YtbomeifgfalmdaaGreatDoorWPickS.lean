import Derived.Test.YtbomeifgfalmdaaGreatDoorG39
namespace Go.Proofs.YtbomeifgfalmdaaGreatDoor
open Go.RowKit
namespace Pl
theorem pick_step {xs:List (Nat × Option Nd)} {j:Nat} {k:Nat} {y:Option Nd} (h:xs[j]? =some (k,y)) (p:ByteArray) (o:Ot) (m:Int):zd8 p o m (xs.drop j)=match y with
  |none=>zd8 p o m (xs.drop (j+1))
  |some n=>if o.parts=[] then
   if n.kind=1 then (if 0<n.mark then finO ⟨true,⟨p,1,⟨#[]⟩,n.time,0⟩,[k]⟩ (max m n.mark) else zd8 p ⟨true,⟨p,1,⟨#[]⟩,n.time,0⟩,[k]⟩ (max m n.mark) (xs.drop (j+1)))
   else if n.kind=0 then ⟨decide (1<n.mark),⟨p,0,⟨#[]⟩,0,n.mark - 1⟩,[]⟩ else ⟨true,n,[]⟩
  else if n.kind=1 then (if 0<n.mark then finO ⟨o.ok,o.node,o.parts++[k]⟩ (max m n.mark) else zd8 p ⟨o.ok,o.node,o.parts++[k]⟩ (max m n.mark) (xs.drop (j+1))) else finO o (max m n.mark):=by
 have h1:=List.getElem?_eq_some_iff.1 h;rw [List.drop_eq_getElem_cons h1.1,h1.2];cases y <;> rfl
end Pl
namespace zh8
theorem zt8 (W:World) (B:Nat):ownI W B (.slice none 0 0) []:=⟨rfl, .inl ⟨rfl,rfl⟩⟩
set_option linter.unusedSimpArgs false in
set_option maxRecDepth 100000 in
set_option maxHeartbeats 3000000 in
theorem pick_any (p:ByteArray) (xs:List (Nat × Option Pl.Nd)) (gp cp gn cn gh ch:Nat) (w:World) (hl:xs.length≤4) (hgp:gp<w.heap.size) (hgn:gn<w.heap.size) (hgh:gh<w.heap.size)
  (hP:∀i x,xs[i]? =some x→w.cell? ⟨gp,i,none⟩=some (.int .i64 (x.1:Int))∧w.cell? ⟨gh,i,none⟩=some (.bool x.2.isSome))
  (hN:∀ (i k:Nat) n,xs[i]? =some (k,some n)→w.cell? ⟨gn,i*5,none⟩=some (.string n.path)∧w.cell? ⟨gn,i*5+1,none⟩=some (.int .i64 n.kind)∧w.cell? ⟨gn,i*5+2,none⟩=some (.string n.data)∧w.cell? ⟨gn,i*5+3,none⟩=some (.int .i64 n.time)∧w.cell? ⟨gn,i*5+4,none⟩=some (.int .i64 n.mark))
  (hmk:∀ (k:Nat) n,(k,some n)∈xs→0≤n.mark∧n.mark≤8):
  Calls Tryz.prog 78 #[.string p, .slice (some ⟨gp,0,none⟩) xs.length cp, .slice (some ⟨gn,0,none⟩) xs.length cn, .slice (some ⟨gh,0,none⟩) xs.length ch] w fun e w'=>∃v,e= .returned (.agg (za5 (Pl.zd8 p ⟨false,Pl.za3,[]⟩ 0 xs) v).toArray)∧ownI w' w.heap.size v (Pl.zd8 p ⟨false,Pl.za3,[]⟩ 0 xs).parts∧Below w.heap.size w w':=by
 obtain ⟨i0,hi,hz0,hz1,hz2⟩:=info_parts infoI;have A0:Hid (AtP w ((w.alloc (.cells (za5 ⟨false,Pl.za3,[]⟩ (.slice none 0 0)).toArray 100)).alloc (.cells (za5 ⟨false,Pl.za3,[]⟩ (.slice none 0 0)).toArray 100)) ⟨false,Pl.za3,[]⟩ (.slice none 0 0)):=⟨(bE0).alloc (by simp) _,(Mem.Blk.new _ _ _).alloc _,Mem.zh9 _ _ _,⟨rfl, .inl ⟨rfl,rfl⟩⟩⟩;have E0:Hid (Pl.zd8 p ⟨false,Pl.za3,[]⟩ 0 (xs.drop 0)=Pl.zd8 p ⟨false,Pl.za3,[]⟩ 0 xs):=rfl;generalize Pl.zd8 p ⟨false,Pl.za3,[]⟩ 0 xs=R at E0 ⊢;simp only [za5,Pl.za3] at A0;have HP:=hide hP;have HN:=hide hN;have HMK:=hide hmk;clear hP hN hmk;go_enter Tryz.func78,Tryz.ntmps78
 go_wp2
 go_loopw [10,11] (fun mk i wr=>∃j:Nat,j≤xs.length∧i= .int .i64 (j:Int)∧∃mark:Int,mk= .int .i64 mark∧(0≤mark∧mark≤8)∧Hid (∃o v,AtP w wr o v∧o.parts.length≤j∧Pl.zd8 p o mark (xs.drop j)=R)) (fun _ i _=>xs.length - (intOf i).toNat)
 case atStart=>exact ⟨0,Nat.zero_le _,rfl,0,rfl,by decide,⟨_,_,za A0,Nat.le_refl _,za E0⟩⟩
 case round=>
  obtain ⟨j,hj,rfl,mark,rfl,hmk,HA⟩:=hrel;obtain ⟨o,v,A,hkj,EG⟩:=za HA;obtain ⟨ok,⟨sp,sk,sd,st,sm⟩,ks⟩:=o;obtain ⟨av,capv,rfl⟩:=zs2 A.own;have HKL:Hid (ks.length≤4):=hide (by simp only at hkj;omega);have HKJ:Hid (ks.length≤j):=hkj;clear HA A0 E0 hkj;have KA:=hide A;have HEG:=hide EG;clear EG;by_cases hlt:j<xs.length
  ·obtain ⟨⟨kk,y⟩,hx⟩:∃x,xs[j]? =some x:=⟨_,List.getElem?_eq_getElem hlt⟩;have HPk:=hide (za HP j _ hx).1;have hh:=(A.bel.cell (p:=⟨gh,j,none⟩) hgh).trans (za HP j _ hx).2;have hst:=hide (Pl.pick_step hx p ⟨ok,⟨sp,sk,sd,st,sm⟩,ks⟩ mark);have y1:(j:Int)<(xs.length:Int):=by omega
   have y3:(0:Int)≤(j:Int):=by omega
   cases y with
   |none=>
    simp only [Option.isSome] at hh;have EF:Hid (Pl.zd8 p ⟨ok,⟨sp,sk,sd,st,sm⟩,ks⟩ mark (xs.drop (j+1))=R):=(za hst).symm.trans (za HEG);have HK5:=hide (show ks.length≤j+1 by have :=za HKJ;omega);clear hst HEG A;go_wp2
    go_roundw
    case rel=>exact ⟨j+1,by omega,by go_num,mark,rfl,hmk,⟨_,_,za KA,za HK5,za EF⟩⟩
    case measure=>simp [intOf];omega
   |some n=>
    obtain ⟨np,nk,nd,nt,nm⟩:=n;simp only [Option.isSome] at hh;have hnb:=za HMK kk _ (List.mem_of_getElem? hx);simp only at hnb;have hnn:=za HN j kk _ hx;simp only at hnn;have q0:=(A.bel.cell (p:=⟨gn,j*5,none⟩) hgn).trans hnn.1;have q1:=(A.bel.cell (p:=⟨gn,j*5+1,none⟩) hgn).trans hnn.2.1;have q2:=(A.bel.cell (p:=⟨gn,j*5+2,none⟩) hgn).trans hnn.2.2.1;have q3:=(A.bel.cell (p:=⟨gn,j*5+3,none⟩) hgn).trans hnn.2.2.2.1;have q4:=(A.bel.cell (p:=⟨gn,j*5+4,none⟩) hgn).trans hnn.2.2.2.2;have hlo:=A.out.lt;have hlr:=A.res.lt;have HXO:=hide (show wr.heap.size≠w.heap.size+1 by omega);have HXN:Hid (some wr.heap.size≠(Value.slice av ks.length capv).ownBlock):=fun e=>by have :=(World.ownsRow.lt A.own _ e.symm).2;omega
    have hm2:0≤max mark nm∧max mark nm≤8:=by omega
    have KB:=hide (A.alloc (.cells #[.string np, .int .i64 nk, .string nd, .int .i64 nt, .int .i64 nm] 55));have NB:=hide (Mem.Blk.new wr #[.string np, .int .i64 nk, .string nd, .int .i64 nt, .int .i64 nm] 55);clear A hnn hlo hlr;by_cases hks:ks=[]
    ·have hk9:(((ks.length:Nat):Int)==0)=true:=by rw [hks];rfl
     have HKS:=hide hks;clear hks;go_upto_region 8 with fail
     clear KA q0 q1 q2 q3 q4 hh hlt;generalize wr.alloc (.cells #[.string np, .int .i64 nk, .string nd, .int .i64 nt, .int .i64 nm] 55)=W1 at KB NB ⊢;generalize wr.heap.size=X at NB HXO HXN ⊢;have c6:=(za KB).out.cell 6;have cf6:=(za KB).out.fr 6;simp only [za5,Pl.za3,kGs] at c6;go_upto_region 9 with fail
     clear c6 cf6;obtain ⟨n0,n1,n2,n3,n4⟩:=jc5 (za NB);by_cases hk1:nk=1
     ·subst hk1
      have EM:Hid ((if 0<nm then Pl.finO ⟨true,⟨p,1,⟨#[]⟩,nt,0⟩,ks++[kk]⟩ (max mark nm) else Pl.zd8 p ⟨true,⟨p,1,⟨#[]⟩,nt,0⟩,ks++[kk]⟩ (max mark nm) (xs.drop (j+1)))=R):=by
       have h:=(za hst).symm.trans (za HEG);simp only [if_pos (za HKS),if_true] at h;rw [za HKS];exact h
      clear hst HEG hx hk9;go_upto_region 10 with fail
      have c0:=(za KB).out.cell 0;have cf0:=(za KB).out.fr 0;simp only [za5,Pl.za3,kGs] at c0;go_upto_region 11 with fail
      have KB1:=hide ((za KB).ok true);have NB1:=hide ((za NB).far ⟨w.heap.size+1,0,none⟩ (.bool true) (za HXO));clear KB NB c0 cf0 n0 n1 n2 n3 n4;generalize W1.setCell ⟨w.heap.size+1,0,none⟩ (.bool true)=W2 at KB1 NB1 ⊢;have c1:=(za KB1).out.cell 1;have cf1:=(za KB1).out.fr 1;have c2:=(za KB1).out.cell 2;have cf2:=(za KB1).out.fr 2;have c3:=(za KB1).out.cell 3;have cf3:=(za KB1).out.fr 3;have c4:=(za KB1).out.cell 4;have cf4:=(za KB1).out.fr 4;have c5:=(za KB1).out.cell 5;have cf5:=(za KB1).out.fr 5;simp only [za5,Pl.za3,kGs] at c1 c2 c3 c4 c5;have n3:=(za NB1).cell 3;simp only [kGs] at n3;go_upto_region 18 with fail
      have KB2:=hide ((za KB1).node p 1 ⟨#[]⟩ nt 0);have NB2:=hide ((((((za NB1).far ⟨w.heap.size+1,1,none⟩ (.string p) (za HXO)).far ⟨w.heap.size+1,2,none⟩ (.int .i64 1) (za HXO)).far ⟨w.heap.size+1,3,none⟩ (.string ⟨#[]⟩) (za HXO)).far ⟨w.heap.size+1,4,none⟩ (.int .i64 nt) (za HXO)).far ⟨w.heap.size+1,5,none⟩ (.int .i64 0) (za HXO));clear KB1 NB1 n3 c1 c2 c3 c4 c5 cf1 cf2 cf3 cf4 cf5;generalize (((((W2.setCell ⟨w.heap.size+1,1,none⟩ (.string p)).setCell ⟨w.heap.size+1,2,none⟩ (.int .i64 1)).setCell ⟨w.heap.size+1,3,none⟩ (.string ⟨#[]⟩)).setCell ⟨w.heap.size+1,4,none⟩ (.int .i64 nt)).setCell ⟨w.heap.size+1,5,none⟩ (.int .i64 0))=WA at KB2 NB2 ⊢;have n1:=(za NB2).cell 1;have n4:=(za NB2).cell 4;simp only [kGs] at n1 n4;go_wp2_with fail
      refine (zq3 mark nm _).mono ?_;rintro e wM ⟨rfl,hwM⟩;subst wM;generalize max mark nm=mk2 at hm2 EM ⊢;go_upto_region 20 with fail
      clear n1 n4;have KA:=KB2;have NB:=NB2;clear KB2 NB2
      have KD:Hid (AtP w WA.drew ⟨true,⟨p,1,⟨#[]⟩,nt,0⟩,ks⟩ (.slice av (ks).length capv)):=by
       have h:=za KA;exact ⟨⟨h.bel.os,h.bel.tape,h.bel.output,h.bel.size,h.bel.block⟩,h.res,h.out,h.own⟩
      have ND:Hid (Mem.Blk WA.drew X #[.string np, .int .i64 1, .string nd, .int .i64 nt, .int .i64 nm] 55):=za NB;have MK:Hid (∀W',Below w.heap.size w W'→(fun W'=>Below w.heap.size w W'∧W'.cell? ⟨gp,j,none⟩=some (.int .i64 (kk:Int))) W'):=fun W' hb'=>⟨hb',(hb'.cell (p:=⟨gp,j,none⟩) hgp).trans (za HPk)⟩;clear KA NB;refine wp_region_held_drew (S:=fun W'=>Below w.heap.size w W'∧W'.cell? ⟨gp,j,none⟩=some (.int .i64 (kk:Int))) (by kernel_rfl) ?_ (fun hHeld=>?_)
      ·exact za MK _ (za KD).bel
      generalize WA.drew=WD at KD ND hHeld ⊢;have c6:=(za KD).out.cell 6;have cf6:=(za KD).out.fr 6;simp only [za5,kGs] at c6;refine TB 0 ?_;refine TB 2 ?_;refine TB 3 ?_;refine TB 4 ?_;refine TB 5 ?_;refine wpAnyH_ready (rs:=[1,6]) (by kernel_rfl) (by simp) ?_;refine AllReadyH.cons rfl (fun K hK=>?_) (AllReadyH.cons rfl (fun K hK=>?_) AllReadyH.nil)
      ·go_simp
       refine hK.out _ _ (za MK _ hHeld.1) (fun hHeld1=>?_);clear hK K hHeld1
       try simp only [Act.put,kBs]
       refine RN 6 fun K hK=>?_;go_simp
       refine hK.out _ _ (za MK _ (hHeld.1.alloc hHeld.1.size _)) (fun hHeld2=>?_);clear hK K
       try simp only [Act.put,kBs]
       have KE:=hide ((za KD).alloc (.cells #[.int .i64 (kk:Int)] 3));have NE:=hide ((za ND).alloc (.cells #[.int .i64 (kk:Int)] 3));refine RN 7 fun K hK=>?_;refine Mem.zn8 rfl _ _ 98 rfl (w.heap.size+2) 3 i0 _ 1 8 Tryz.underlying98 hi hz0 hz1 hz2 rfl (by decide) _ _ _ rfl (za KE).own ⟨WD.heap.size,0,none⟩ 1 1 [.int .i64 (kk:Int)] rfl rfl (Mem.ze6 _ _ _) (fun u hu=>by simp at hu;subst hu;rfl) (by have h:=za HKL;(try dsimp only at h ⊢);unfold maxLen;(try dsimp only);omega) (by have h:=za HKL;(try dsimp only at h ⊢);omega) (by have h1:=(za KD).out.lt;simp;omega) ?_;intro v' wZ hownZ hgrow0;have hgrow:(WD.alloc (.cells #[.int .i64 (kk:Int)] 3)).grownBy wZ (Value.slice av (ks).length capv).ownBlock:=hgrow0;clear hgrow0;obtain ⟨a',cap',hv'⟩:=Mem.zf1 hownZ;subst hv';have KF:=hide ((za KE).more hownZ hgrow)
       have hltv:∀q,(Value.slice av (ks).length capv).ownBlock=some q→w.heap.size+2≤q:=fun q hq=>(World.ownsRow.lt (za KE).own q hq).1;have NF:Hid (Mem.Blk (wZ.setCell ⟨w.heap.size+1,6,none⟩ (.slice a' ((ks).length+1) cap')) X #[.string np, .int .i64 1, .string nd, .int .i64 nt, .int .i64 nm] 55):=((za NE).grown hgrow (fun e=>za HXN e)).far _ _ (za HXO);have bZ:Below w.heap.size w wZ:=(za KE).bel.grown hgrow (za KE).bel.size (fun q hq=>by have :=hltv q hq;omega);have z6:wZ.cell? ⟨w.heap.size+1,6,none⟩=some (.slice av (ks).length capv):=(hgrow.cell (a:=⟨w.heap.size+1,6,none⟩) (by have h:=(za KE).out.cell 6;simpa [za5] using h) (fun e=>by have :w.heap.size+2≤w.heap.size+1:=hltv _ e.symm;omega));have zf6:wZ.frozen? ⟨w.heap.size+1,6,none⟩=false:=((za KE).out.grown hgrow (fun e=>by have :w.heap.size+2≤w.heap.size+1:=hltv _ e.symm;omega)).fr 6
       refine hK.out _ _ (za MK _ bZ) (fun hHeld3=>?_);clear hK K
       try simp only [Act.put,kBs]
       refine TB 8 ?_;refine RN 9 fun K hK=>?_;go_simp
       refine hK.out _ _ (za MK _ (za KF).bel) (fun hHeld4=>?_);clear hK K
       try simp only [Act.put,kBs]
       refine wpAnyH_done (by kernel_rfl) ?_ _;clear c6 cf6 z6 zf6 hgrow hownZ KE NE KD ND MK hltv bZ hHeld hHeld3 hHeld4;have n4:=(za NF).cell 4;simp only [kGs] at n4;have KG:Hid (AtP w (wZ.setCell ⟨w.heap.size+1,6,none⟩ (.slice a' ((ks).length+1) cap')) ⟨true,⟨p,1,⟨#[]⟩,nt,0⟩,ks++[kk]⟩ (.slice a' ((ks).length+1) cap')):=za KF;generalize (wZ.setCell ⟨w.heap.size+1,6,none⟩ (.slice a' ((ks).length+1) cap'))=W5 at KG n4 NF ⊢;clear KF NF;by_cases hm0:0<nm
       ·have EF:Hid (Pl.finO ⟨true,⟨p,1,⟨#[]⟩,nt,0⟩,ks++[kk]⟩ mk2=R):=by have h:=za EM;rw [if_pos hm0] at h;exact h
        clear EM;go_upto_region 22 with fail
        clear n4;have hwm:IntKind.i64.wrap (mk2 - 1)=mk2 - 1:=by simp only [IntKind.wrap_i64];omega
        have c5:=(za KG).out.cell 5;have cf5:=(za KG).out.fr 5;simp only [za5,Pl.za3,kGs] at c5;go_wp2_with fail
        refine (zq3 0 (mk2 - 1) _).mono ?_;rintro e wM ⟨rfl,hwM⟩;subst wM;go_upto_region 23 with fail
        have FM:=hide ((za KG).mark (max 0 (mk2 - 1)));have EQ2:Hid ((⟨true,⟨p,1,⟨#[]⟩,nt,max 0 (mk2 - 1)⟩,ks++[kk]⟩:Pl.Ot)=R):=za EF;generalize max 0 (mk2 - 1)=mm at FM EQ2 ⊢;clear c5 cf5 KG;have FM2:=FM;clear FM
        try simp only [] at FM2
        generalize hWF:World.setCell _ ⟨w.heap.size+1,5,none⟩ (.int .i64 mm)=WF at FM2 ⊢;clear hWF;have c0:=(za FM2).out.cell 0;have cf0:=(za FM2).out.fr 0;have c1:=(za FM2).out.cell 1;have cf1:=(za FM2).out.fr 1;have c2:=(za FM2).out.cell 2;have cf2:=(za FM2).out.fr 2;have c3:=(za FM2).out.cell 3;have cf3:=(za FM2).out.fr 3;have c4:=(za FM2).out.cell 4;have cf4:=(za FM2).out.fr 4;have c5:=(za FM2).out.cell 5;have cf5:=(za FM2).out.fr 5;have c6:=(za FM2).out.cell 6;have cf6:=(za FM2).out.fr 6;simp only [za5,Pl.za3,kGs] at c0 c1 c2 c3 c4 c5 c6;have r0:=(za FM2).res.cell 0;have rf0:=(za FM2).res.fr 0;have r1:=(za FM2).res.cell 1;have rf1:=(za FM2).res.fr 1;have r2:=(za FM2).res.cell 2;have rf2:=(za FM2).res.fr 2;have r3:=(za FM2).res.cell 3;have rf3:=(za FM2).res.fr 3;have r4:=(za FM2).res.cell 4;have rf4:=(za FM2).res.fr 4;have r5:=(za FM2).res.cell 5;have rf5:=(za FM2).res.fr 5
        have r6:=(za FM2).res.cell 6;have rf6:=(za FM2).res.fr 6;simp only [za5,Pl.za3,kGs] at r0 r1 r2 r3 r4 r5 r6;have RT:=hide ((za FM2).ret (true) (p) (1) (⟨#[]⟩) (nt) (mm) (.slice a' (ks.length+1) cap'));have EV:=EQ2;go_wp2
        generalize (((((((WF.setCell ⟨w.heap.size,0,none⟩ (.bool (true))).setCell ⟨w.heap.size,1,none⟩ (.string (p))).setCell ⟨w.heap.size,2,none⟩ (.int .i64 (1))).setCell ⟨w.heap.size,3,none⟩ (.string (⟨#[]⟩))).setCell ⟨w.heap.size,4,none⟩ (.int .i64 (nt))).setCell ⟨w.heap.size,5,none⟩ (.int .i64 (mm))).setCell ⟨w.heap.size,6,none⟩ (.slice a' (ks.length+1) cap'))=WR at RT ⊢;have q0:=(za RT).1.cell 0;have q1:=(za RT).1.cell 1;have q2:=(za RT).1.cell 2;have q3:=(za RT).1.cell 3;have q4:=(za RT).1.cell 4;have q5:=(za RT).1.cell 5;have q6:=(za RT).1.cell 6;simp only [kGs] at q0 q1 q2 q3 q4 q5 q6
        exact bodyPost_ret (v:= .agg #[.bool (true), .string (p), .int .i64 (1), .string (⟨#[]⟩), .int .i64 (nt), .int .i64 (mm), .slice a' (ks.length+1) cap']) (by simp [results,Tryz.results78,go_sem,q0,q1,q2,q3,q4,q5,q6]) rfl ⟨.slice a' (ks.length+1) cap',by rw [←za EV];rfl,by rw [←za EV];exact (za RT).2.2,(za RT).2.1⟩
       ·have EF:Hid (Pl.zd8 p ⟨true,⟨p,1,⟨#[]⟩,nt,0⟩,ks++[kk]⟩ mk2 (xs.drop (j+1))=R):=by have h:=za EM;rw [if_neg hm0] at h;exact h
        clear EM;go_wp2
        go_roundw
        case rel=>exact ⟨j+1,by omega,by go_num,_,rfl,by omega,⟨_,_,za KG,by have :=za HKJ;simp only [List.length_append,List.length_cons,List.length_nil];omega,za EF⟩⟩
        case measure=>simp [intOf];omega
      ·go_simp
       refine hK.out _ _ (za MK _ (hHeld.1.alloc hHeld.1.size _)) (fun hHeld2=>?_);clear hK K
       try simp only [Act.put,kBs]
       have c6':(WD.alloc (.cells #[.int .i64 (kk:Int)] 3)).cell? ⟨w.heap.size+1,6,none⟩=some (.slice av (ks).length capv):=by have h:=((za KD).alloc (.cells #[.int .i64 (kk:Int)] 3)).out.cell 6;simpa [za5] using h
       refine RN 1 fun K hK=>?_;go_simp
       refine hK.out _ _ (za MK _ (hHeld.1.alloc hHeld.1.size _)) (fun hHeld1=>?_);clear hK K hHeld1 c6'
       try simp only [Act.put,kBs]
       have KE:=hide ((za KD).alloc (.cells #[.int .i64 (kk:Int)] 3));have NE:=hide ((za ND).alloc (.cells #[.int .i64 (kk:Int)] 3));refine RN 7 fun K hK=>?_;refine Mem.zn8 rfl _ _ 98 rfl (w.heap.size+2) 3 i0 _ 1 8 Tryz.underlying98 hi hz0 hz1 hz2 rfl (by decide) _ _ _ rfl (za KE).own ⟨WD.heap.size,0,none⟩ 1 1 [.int .i64 (kk:Int)] rfl rfl (Mem.ze6 _ _ _) (fun u hu=>by simp at hu;subst hu;rfl) (by have h:=za HKL;(try dsimp only at h ⊢);unfold maxLen;(try dsimp only);omega) (by have h:=za HKL;(try dsimp only at h ⊢);omega) (by have h1:=(za KD).out.lt;simp;omega) ?_;intro v' wZ hownZ hgrow0;have hgrow:(WD.alloc (.cells #[.int .i64 (kk:Int)] 3)).grownBy wZ (Value.slice av (ks).length capv).ownBlock:=hgrow0;clear hgrow0;obtain ⟨a',cap',hv'⟩:=Mem.zf1 hownZ;subst hv';have KF:=hide ((za KE).more hownZ hgrow)
       have hltv:∀q,(Value.slice av (ks).length capv).ownBlock=some q→w.heap.size+2≤q:=fun q hq=>(World.ownsRow.lt (za KE).own q hq).1;have NF:Hid (Mem.Blk (wZ.setCell ⟨w.heap.size+1,6,none⟩ (.slice a' ((ks).length+1) cap')) X #[.string np, .int .i64 1, .string nd, .int .i64 nt, .int .i64 nm] 55):=((za NE).grown hgrow (fun e=>za HXN e)).far _ _ (za HXO);have bZ:Below w.heap.size w wZ:=(za KE).bel.grown hgrow (za KE).bel.size (fun q hq=>by have :=hltv q hq;omega);have z6:wZ.cell? ⟨w.heap.size+1,6,none⟩=some (.slice av (ks).length capv):=(hgrow.cell (a:=⟨w.heap.size+1,6,none⟩) (by have h:=(za KE).out.cell 6;simpa [za5] using h) (fun e=>by have :w.heap.size+2≤w.heap.size+1:=hltv _ e.symm;omega));have zf6:wZ.frozen? ⟨w.heap.size+1,6,none⟩=false:=((za KE).out.grown hgrow (fun e=>by have :w.heap.size+2≤w.heap.size+1:=hltv _ e.symm;omega)).fr 6
       refine hK.out _ _ (za MK _ bZ) (fun hHeld3=>?_);clear hK K
       try simp only [Act.put,kBs]
       refine TB 8 ?_;refine RN 9 fun K hK=>?_;go_simp
       refine hK.out _ _ (za MK _ (za KF).bel) (fun hHeld4=>?_);clear hK K
       try simp only [Act.put,kBs]
       refine wpAnyH_done (by kernel_rfl) ?_ _;clear c6 cf6 z6 zf6 hgrow hownZ KE NE KD ND MK hltv bZ hHeld hHeld3 hHeld4;have n4:=(za NF).cell 4;simp only [kGs] at n4;have KG:Hid (AtP w (wZ.setCell ⟨w.heap.size+1,6,none⟩ (.slice a' ((ks).length+1) cap')) ⟨true,⟨p,1,⟨#[]⟩,nt,0⟩,ks++[kk]⟩ (.slice a' ((ks).length+1) cap')):=za KF;generalize (wZ.setCell ⟨w.heap.size+1,6,none⟩ (.slice a' ((ks).length+1) cap'))=W5 at KG n4 NF ⊢;clear KF NF;by_cases hm0:0<nm
       ·have EF:Hid (Pl.finO ⟨true,⟨p,1,⟨#[]⟩,nt,0⟩,ks++[kk]⟩ mk2=R):=by have h:=za EM;rw [if_pos hm0] at h;exact h
        clear EM;go_upto_region 22 with fail
        clear n4;have hwm:IntKind.i64.wrap (mk2 - 1)=mk2 - 1:=by simp only [IntKind.wrap_i64];omega
        have c5:=(za KG).out.cell 5;have cf5:=(za KG).out.fr 5;simp only [za5,Pl.za3,kGs] at c5;go_wp2_with fail
        refine (zq3 0 (mk2 - 1) _).mono ?_;rintro e wM ⟨rfl,hwM⟩;subst wM;go_upto_region 23 with fail
        have FM:=hide ((za KG).mark (max 0 (mk2 - 1)));have EQ2:Hid ((⟨true,⟨p,1,⟨#[]⟩,nt,max 0 (mk2 - 1)⟩,ks++[kk]⟩:Pl.Ot)=R):=za EF;generalize max 0 (mk2 - 1)=mm at FM EQ2 ⊢;clear c5 cf5 KG;have FM2:=FM;clear FM
        try simp only [] at FM2
        generalize hWF:World.setCell _ ⟨w.heap.size+1,5,none⟩ (.int .i64 mm)=WF at FM2 ⊢;clear hWF;have c0:=(za FM2).out.cell 0;have cf0:=(za FM2).out.fr 0;have c1:=(za FM2).out.cell 1;have cf1:=(za FM2).out.fr 1;have c2:=(za FM2).out.cell 2;have cf2:=(za FM2).out.fr 2;have c3:=(za FM2).out.cell 3;have cf3:=(za FM2).out.fr 3;have c4:=(za FM2).out.cell 4;have cf4:=(za FM2).out.fr 4;have c5:=(za FM2).out.cell 5;have cf5:=(za FM2).out.fr 5;have c6:=(za FM2).out.cell 6;have cf6:=(za FM2).out.fr 6;simp only [za5,Pl.za3,kGs] at c0 c1 c2 c3 c4 c5 c6;have r0:=(za FM2).res.cell 0;have rf0:=(za FM2).res.fr 0;have r1:=(za FM2).res.cell 1;have rf1:=(za FM2).res.fr 1;have r2:=(za FM2).res.cell 2;have rf2:=(za FM2).res.fr 2;have r3:=(za FM2).res.cell 3;have rf3:=(za FM2).res.fr 3;have r4:=(za FM2).res.cell 4;have rf4:=(za FM2).res.fr 4;have r5:=(za FM2).res.cell 5;have rf5:=(za FM2).res.fr 5
        have r6:=(za FM2).res.cell 6;have rf6:=(za FM2).res.fr 6;simp only [za5,Pl.za3,kGs] at r0 r1 r2 r3 r4 r5 r6;have RT:=hide ((za FM2).ret (true) (p) (1) (⟨#[]⟩) (nt) (mm) (.slice a' (ks.length+1) cap'));have EV:=EQ2;go_wp2
        generalize (((((((WF.setCell ⟨w.heap.size,0,none⟩ (.bool (true))).setCell ⟨w.heap.size,1,none⟩ (.string (p))).setCell ⟨w.heap.size,2,none⟩ (.int .i64 (1))).setCell ⟨w.heap.size,3,none⟩ (.string (⟨#[]⟩))).setCell ⟨w.heap.size,4,none⟩ (.int .i64 (nt))).setCell ⟨w.heap.size,5,none⟩ (.int .i64 (mm))).setCell ⟨w.heap.size,6,none⟩ (.slice a' (ks.length+1) cap'))=WR at RT ⊢;have q0:=(za RT).1.cell 0;have q1:=(za RT).1.cell 1;have q2:=(za RT).1.cell 2;have q3:=(za RT).1.cell 3;have q4:=(za RT).1.cell 4;have q5:=(za RT).1.cell 5;have q6:=(za RT).1.cell 6;simp only [kGs] at q0 q1 q2 q3 q4 q5 q6
        exact bodyPost_ret (v:= .agg #[.bool (true), .string (p), .int .i64 (1), .string (⟨#[]⟩), .int .i64 (nt), .int .i64 (mm), .slice a' (ks.length+1) cap']) (by simp [results,Tryz.results78,go_sem,q0,q1,q2,q3,q4,q5,q6]) rfl ⟨.slice a' (ks.length+1) cap',by rw [←za EV];rfl,by rw [←za EV];exact (za RT).2.2,(za RT).2.1⟩
       ·have EF:Hid (Pl.zd8 p ⟨true,⟨p,1,⟨#[]⟩,nt,0⟩,ks++[kk]⟩ mk2 (xs.drop (j+1))=R):=by have h:=za EM;rw [if_neg hm0] at h;exact h
        clear EM;go_wp2
        go_roundw
        case rel=>exact ⟨j+1,by omega,by go_num,_,rfl,by omega,⟨_,_,za KG,by have :=za HKJ;simp only [List.length_append,List.length_cons,List.length_nil];omega,za EF⟩⟩
        case measure=>simp [intOf];omega
     ·by_cases hk0:nk=0
      ·subst hk0
       have EF:Hid ((⟨decide (1<nm),⟨p,0,⟨#[]⟩,0,nm - 1⟩,ks⟩:Pl.Ot)=R):=by
        have h:=(za hst).symm.trans (za HEG);have h01:¬ (0:Int)=1:=by decide
        simp only [if_pos (za HKS),if_true,h01,if_false] at h;rw [za HKS];exact h
       have hwm:IntKind.i64.wrap (nm - 1)=nm - 1:=by simp only [IntKind.wrap_i64];omega
       clear hst HEG hx hk9;go_upto_region 13 with fail
       have c0:=(za KB).out.cell 0;have cf0:=(za KB).out.fr 0;simp only [za5,Pl.za3,kGs] at c0;go_upto_region 14 with fail
       have KB1:=hide ((za KB).ok (decide (1<nm)));have NB1:=hide ((za NB).far ⟨w.heap.size+1,0,none⟩ (.bool (decide (1<nm))) (za HXO));clear KB NB c0 cf0 n0 n1 n2 n3 n4;generalize decide (1<nm)=bm at KB1 NB1 EF ⊢;generalize W1.setCell ⟨w.heap.size+1,0,none⟩ (.bool bm)=W2 at KB1 NB1 ⊢;have c1:=(za KB1).out.cell 1;have cf1:=(za KB1).out.fr 1;have c2:=(za KB1).out.cell 2;have cf2:=(za KB1).out.fr 2;have c3:=(za KB1).out.cell 3;have cf3:=(za KB1).out.fr 3;have c4:=(za KB1).out.cell 4;have cf4:=(za KB1).out.fr 4;have c5:=(za KB1).out.cell 5;have cf5:=(za KB1).out.fr 5;simp only [za5,Pl.za3,kGs] at c1 c2 c3 c4 c5;have n4:=(za NB1).cell 4;simp only [kGs] at n4;go_upto_region 15 with fail
       have KB2:=hide ((za KB1).node p 0 ⟨#[]⟩ 0 (nm - 1));clear KB1 NB1 n4 c1 c2 c3 c4 c5 cf1 cf2 cf3 cf4 cf5;generalize (((((W2.setCell ⟨w.heap.size+1,1,none⟩ (.string p)).setCell ⟨w.heap.size+1,2,none⟩ (.int .i64 0)).setCell ⟨w.heap.size+1,3,none⟩ (.string ⟨#[]⟩)).setCell ⟨w.heap.size+1,4,none⟩ (.int .i64 0)).setCell ⟨w.heap.size+1,5,none⟩ (.int .i64 (nm - 1)))=WF at KB2 ⊢;have c0:=(za KB2).out.cell 0;have cf0:=(za KB2).out.fr 0;have c1:=(za KB2).out.cell 1;have cf1:=(za KB2).out.fr 1;have c2:=(za KB2).out.cell 2;have cf2:=(za KB2).out.fr 2;have c3:=(za KB2).out.cell 3;have cf3:=(za KB2).out.fr 3;have c4:=(za KB2).out.cell 4;have cf4:=(za KB2).out.fr 4;have c5:=(za KB2).out.cell 5;have cf5:=(za KB2).out.fr 5;have c6:=(za KB2).out.cell 6;have cf6:=(za KB2).out.fr 6;simp only [za5,Pl.za3,kGs] at c0 c1 c2 c3 c4 c5 c6;have r0:=(za KB2).res.cell 0;have rf0:=(za KB2).res.fr 0
       have r1:=(za KB2).res.cell 1;have rf1:=(za KB2).res.fr 1;have r2:=(za KB2).res.cell 2;have rf2:=(za KB2).res.fr 2;have r3:=(za KB2).res.cell 3;have rf3:=(za KB2).res.fr 3;have r4:=(za KB2).res.cell 4;have rf4:=(za KB2).res.fr 4;have r5:=(za KB2).res.cell 5;have rf5:=(za KB2).res.fr 5;have r6:=(za KB2).res.cell 6;have rf6:=(za KB2).res.fr 6;simp only [za5,Pl.za3,kGs] at r0 r1 r2 r3 r4 r5 r6;have RT:=hide ((za KB2).ret (bm) (p) (0) (⟨#[]⟩) (0) (nm - 1) (.slice av ks.length capv));have EV:=EF;go_wp2
       generalize (((((((WF.setCell ⟨w.heap.size,0,none⟩ (.bool (bm))).setCell ⟨w.heap.size,1,none⟩ (.string (p))).setCell ⟨w.heap.size,2,none⟩ (.int .i64 (0))).setCell ⟨w.heap.size,3,none⟩ (.string (⟨#[]⟩))).setCell ⟨w.heap.size,4,none⟩ (.int .i64 (0))).setCell ⟨w.heap.size,5,none⟩ (.int .i64 (nm - 1))).setCell ⟨w.heap.size,6,none⟩ (.slice av ks.length capv))=WR at RT ⊢;have q0:=(za RT).1.cell 0;have q1:=(za RT).1.cell 1;have q2:=(za RT).1.cell 2;have q3:=(za RT).1.cell 3;have q4:=(za RT).1.cell 4;have q5:=(za RT).1.cell 5;have q6:=(za RT).1.cell 6;simp only [kGs] at q0 q1 q2 q3 q4 q5 q6
       exact bodyPost_ret (v:= .agg #[.bool (bm), .string (p), .int .i64 (0), .string (⟨#[]⟩), .int .i64 (0), .int .i64 (nm - 1), .slice av ks.length capv]) (by simp [results,Tryz.results78,go_sem,q0,q1,q2,q3,q4,q5,q6]) rfl ⟨.slice av ks.length capv,by rw [←za EV];rfl,by rw [←za EV];exact (za RT).2.2,(za RT).2.1⟩
      ·have EF:Hid ((⟨true,⟨np,nk,nd,nt,nm⟩,[]⟩:Pl.Ot)=R):=by
        have h:=(za hst).symm.trans (za HEG);simp only [if_pos (za HKS),if_neg hk1,if_neg hk0] at h;exact h
       clear hst HEG hx hk9;go_upto_region 17 with fail
       have r0:=(za KB).res.cell 0;have rf0:=(za KB).res.fr 0;have r1:=(za KB).res.cell 1;have rf1:=(za KB).res.fr 1;have r2:=(za KB).res.cell 2;have rf2:=(za KB).res.fr 2;have r3:=(za KB).res.cell 3;have rf3:=(za KB).res.fr 3;have r4:=(za KB).res.cell 4;have rf4:=(za KB).res.fr 4;have r5:=(za KB).res.cell 5;have rf5:=(za KB).res.fr 5;have r6:=(za KB).res.cell 6;have rf6:=(za KB).res.fr 6;simp only [za5,Pl.za3,kGs] at r0 r1 r2 r3 r4 r5 r6;have RT:=hide ((za KB).ret (true) (np) (nk) (nd) (nt) (nm) (.slice none 0 0));have EV:=EF;go_wp2
       generalize (((((((W1.setCell ⟨w.heap.size,0,none⟩ (.bool (true))).setCell ⟨w.heap.size,1,none⟩ (.string (np))).setCell ⟨w.heap.size,2,none⟩ (.int .i64 (nk))).setCell ⟨w.heap.size,3,none⟩ (.string (nd))).setCell ⟨w.heap.size,4,none⟩ (.int .i64 (nt))).setCell ⟨w.heap.size,5,none⟩ (.int .i64 (nm))).setCell ⟨w.heap.size,6,none⟩ (.slice none 0 0))=WR at RT ⊢;have q0:=(za RT).1.cell 0;have q1:=(za RT).1.cell 1;have q2:=(za RT).1.cell 2;have q3:=(za RT).1.cell 3;have q4:=(za RT).1.cell 4;have q5:=(za RT).1.cell 5;have q6:=(za RT).1.cell 6;simp only [kGs] at q0 q1 q2 q3 q4 q5 q6;exact bodyPost_ret (v:= .agg #[.bool (true), .string (np), .int .i64 (nk), .string (nd), .int .i64 (nt), .int .i64 (nm), .slice none 0 0]) (by simp [results,Tryz.results78,go_sem,q0,q1,q2,q3,q4,q5,q6]) rfl ⟨.slice none 0 0,by rw [←za EV];rfl,by rw [←za EV];exact zt8 _ _,(za RT).2.1⟩
    ·have hk9:(((ks.length:Nat):Int)==0)=false:=by have :=List.length_pos_iff.2 hks;simp;omega
     have HKS:=hide hks;clear hks;go_upto_region 8 with fail
     clear KA q0 q1 q2 q3 q4 hh hlt;generalize wr.alloc (.cells #[.string np, .int .i64 nk, .string nd, .int .i64 nt, .int .i64 nm] 55)=W1 at KB NB ⊢;generalize wr.heap.size=X at NB HXO HXN ⊢;have c6:=(za KB).out.cell 6;have cf6:=(za KB).out.fr 6;simp only [za5,Pl.za3,kGs] at c6;go_upto_region 9 with fail
     clear c6 cf6;obtain ⟨n0,n1,n2,n3,n4⟩:=jc5 (za NB);by_cases hk1:nk=1
     ·subst hk1
      have EM:Hid ((if 0<nm then Pl.finO ⟨ok,⟨sp,sk,sd,st,sm⟩,ks++[kk]⟩ (max mark nm) else Pl.zd8 p ⟨ok,⟨sp,sk,sd,st,sm⟩,ks++[kk]⟩ (max mark nm) (xs.drop (j+1)))=R):=by
       have h:=(za hst).symm.trans (za HEG);simp only [if_neg (za HKS),if_true] at h;exact h
      clear hst HEG hx hk9;go_upto_region 18 with fail
      go_wp2_with fail
      refine (zq3 mark nm _).mono ?_;rintro e wM ⟨rfl,hwM⟩;subst wM;generalize max mark nm=mk2 at hm2 EM ⊢;go_upto_region 20 with fail
      clear n0 n1 n2 n3 n4;have KA:=KB;generalize W1=WA at KA NB ⊢;clear KB
      have KD:Hid (AtP w WA.drew ⟨ok,⟨sp,sk,sd,st,sm⟩,ks⟩ (.slice av (ks).length capv)):=by
       have h:=za KA;exact ⟨⟨h.bel.os,h.bel.tape,h.bel.output,h.bel.size,h.bel.block⟩,h.res,h.out,h.own⟩
      have ND:Hid (Mem.Blk WA.drew X #[.string np, .int .i64 1, .string nd, .int .i64 nt, .int .i64 nm] 55):=za NB;have MK:Hid (∀W',Below w.heap.size w W'→(fun W'=>Below w.heap.size w W'∧W'.cell? ⟨gp,j,none⟩=some (.int .i64 (kk:Int))) W'):=fun W' hb'=>⟨hb',(hb'.cell (p:=⟨gp,j,none⟩) hgp).trans (za HPk)⟩;clear KA NB;refine wp_region_held_drew (S:=fun W'=>Below w.heap.size w W'∧W'.cell? ⟨gp,j,none⟩=some (.int .i64 (kk:Int))) (by kernel_rfl) ?_ (fun hHeld=>?_)
      ·exact za MK _ (za KD).bel
      generalize WA.drew=WD at KD ND hHeld ⊢;have c6:=(za KD).out.cell 6;have cf6:=(za KD).out.fr 6;simp only [za5,kGs] at c6;refine TB 0 ?_;refine TB 2 ?_;refine TB 3 ?_;refine TB 4 ?_;refine TB 5 ?_;refine wpAnyH_ready (rs:=[1,6]) (by kernel_rfl) (by simp) ?_;refine AllReadyH.cons rfl (fun K hK=>?_) (AllReadyH.cons rfl (fun K hK=>?_) AllReadyH.nil)
      ·go_simp
       refine hK.out _ _ (za MK _ hHeld.1) (fun hHeld1=>?_);clear hK K hHeld1
       try simp only [Act.put,kBs]
       refine RN 6 fun K hK=>?_;go_simp
       refine hK.out _ _ (za MK _ (hHeld.1.alloc hHeld.1.size _)) (fun hHeld2=>?_);clear hK K
       try simp only [Act.put,kBs]
       have KE:=hide ((za KD).alloc (.cells #[.int .i64 (kk:Int)] 3));have NE:=hide ((za ND).alloc (.cells #[.int .i64 (kk:Int)] 3));refine RN 7 fun K hK=>?_;refine Mem.zn8 rfl _ _ 98 rfl (w.heap.size+2) 3 i0 _ 1 8 Tryz.underlying98 hi hz0 hz1 hz2 rfl (by decide) _ _ _ rfl (za KE).own ⟨WD.heap.size,0,none⟩ 1 1 [.int .i64 (kk:Int)] rfl rfl (Mem.ze6 _ _ _) (fun u hu=>by simp at hu;subst hu;rfl) (by have h:=za HKL;(try dsimp only at h ⊢);unfold maxLen;(try dsimp only);omega) (by have h:=za HKL;(try dsimp only at h ⊢);omega) (by have h1:=(za KD).out.lt;simp;omega) ?_;intro v' wZ hownZ hgrow0;have hgrow:(WD.alloc (.cells #[.int .i64 (kk:Int)] 3)).grownBy wZ (Value.slice av (ks).length capv).ownBlock:=hgrow0;clear hgrow0;obtain ⟨a',cap',hv'⟩:=Mem.zf1 hownZ;subst hv';have KF:=hide ((za KE).more hownZ hgrow)
       have hltv:∀q,(Value.slice av (ks).length capv).ownBlock=some q→w.heap.size+2≤q:=fun q hq=>(World.ownsRow.lt (za KE).own q hq).1;have NF:Hid (Mem.Blk (wZ.setCell ⟨w.heap.size+1,6,none⟩ (.slice a' ((ks).length+1) cap')) X #[.string np, .int .i64 1, .string nd, .int .i64 nt, .int .i64 nm] 55):=((za NE).grown hgrow (fun e=>za HXN e)).far _ _ (za HXO);have bZ:Below w.heap.size w wZ:=(za KE).bel.grown hgrow (za KE).bel.size (fun q hq=>by have :=hltv q hq;omega);have z6:wZ.cell? ⟨w.heap.size+1,6,none⟩=some (.slice av (ks).length capv):=(hgrow.cell (a:=⟨w.heap.size+1,6,none⟩) (by have h:=(za KE).out.cell 6;simpa [za5] using h) (fun e=>by have :w.heap.size+2≤w.heap.size+1:=hltv _ e.symm;omega));have zf6:wZ.frozen? ⟨w.heap.size+1,6,none⟩=false:=((za KE).out.grown hgrow (fun e=>by have :w.heap.size+2≤w.heap.size+1:=hltv _ e.symm;omega)).fr 6
       refine hK.out _ _ (za MK _ bZ) (fun hHeld3=>?_);clear hK K
       try simp only [Act.put,kBs]
       refine TB 8 ?_;refine RN 9 fun K hK=>?_;go_simp
       refine hK.out _ _ (za MK _ (za KF).bel) (fun hHeld4=>?_);clear hK K
       try simp only [Act.put,kBs]
       refine wpAnyH_done (by kernel_rfl) ?_ _;clear c6 cf6 z6 zf6 hgrow hownZ KE NE KD ND MK hltv bZ hHeld hHeld3 hHeld4;have n4:=(za NF).cell 4;simp only [kGs] at n4;have KG:Hid (AtP w (wZ.setCell ⟨w.heap.size+1,6,none⟩ (.slice a' ((ks).length+1) cap')) ⟨ok,⟨sp,sk,sd,st,sm⟩,ks++[kk]⟩ (.slice a' ((ks).length+1) cap')):=za KF;generalize (wZ.setCell ⟨w.heap.size+1,6,none⟩ (.slice a' ((ks).length+1) cap'))=W5 at KG n4 NF ⊢;clear KF NF;by_cases hm0:0<nm
       ·have EF:Hid (Pl.finO ⟨ok,⟨sp,sk,sd,st,sm⟩,ks++[kk]⟩ mk2=R):=by have h:=za EM;rw [if_pos hm0] at h;exact h
        clear EM;go_upto_region 22 with fail
        clear n4;have hwm:IntKind.i64.wrap (mk2 - 1)=mk2 - 1:=by simp only [IntKind.wrap_i64];omega
        have c5:=(za KG).out.cell 5;have cf5:=(za KG).out.fr 5;simp only [za5,Pl.za3,kGs] at c5;go_wp2_with fail
        refine (zq3 0 (mk2 - 1) _).mono ?_;rintro e wM ⟨rfl,hwM⟩;subst wM;go_upto_region 23 with fail
        have FM:=hide ((za KG).mark (max 0 (mk2 - 1)));have EQ2:Hid ((⟨ok,⟨sp,sk,sd,st,max 0 (mk2 - 1)⟩,ks++[kk]⟩:Pl.Ot)=R):=za EF;generalize max 0 (mk2 - 1)=mm at FM EQ2 ⊢;clear c5 cf5 KG;have FM2:=FM;clear FM
        try simp only [] at FM2
        generalize hWF:World.setCell _ ⟨w.heap.size+1,5,none⟩ (.int .i64 mm)=WF at FM2 ⊢;clear hWF;have c0:=(za FM2).out.cell 0;have cf0:=(za FM2).out.fr 0;have c1:=(za FM2).out.cell 1;have cf1:=(za FM2).out.fr 1;have c2:=(za FM2).out.cell 2;have cf2:=(za FM2).out.fr 2;have c3:=(za FM2).out.cell 3;have cf3:=(za FM2).out.fr 3;have c4:=(za FM2).out.cell 4;have cf4:=(za FM2).out.fr 4;have c5:=(za FM2).out.cell 5;have cf5:=(za FM2).out.fr 5;have c6:=(za FM2).out.cell 6;have cf6:=(za FM2).out.fr 6;simp only [za5,Pl.za3,kGs] at c0 c1 c2 c3 c4 c5 c6;have r0:=(za FM2).res.cell 0;have rf0:=(za FM2).res.fr 0;have r1:=(za FM2).res.cell 1;have rf1:=(za FM2).res.fr 1;have r2:=(za FM2).res.cell 2;have rf2:=(za FM2).res.fr 2;have r3:=(za FM2).res.cell 3;have rf3:=(za FM2).res.fr 3;have r4:=(za FM2).res.cell 4;have rf4:=(za FM2).res.fr 4;have r5:=(za FM2).res.cell 5;have rf5:=(za FM2).res.fr 5
        have r6:=(za FM2).res.cell 6;have rf6:=(za FM2).res.fr 6;simp only [za5,Pl.za3,kGs] at r0 r1 r2 r3 r4 r5 r6;have RT:=hide ((za FM2).ret (ok) (sp) (sk) (sd) (st) (mm) (.slice a' (ks.length+1) cap'));have EV:=EQ2;go_wp2
        generalize (((((((WF.setCell ⟨w.heap.size,0,none⟩ (.bool (ok))).setCell ⟨w.heap.size,1,none⟩ (.string (sp))).setCell ⟨w.heap.size,2,none⟩ (.int .i64 (sk))).setCell ⟨w.heap.size,3,none⟩ (.string (sd))).setCell ⟨w.heap.size,4,none⟩ (.int .i64 (st))).setCell ⟨w.heap.size,5,none⟩ (.int .i64 (mm))).setCell ⟨w.heap.size,6,none⟩ (.slice a' (ks.length+1) cap'))=WR at RT ⊢;have q0:=(za RT).1.cell 0;have q1:=(za RT).1.cell 1;have q2:=(za RT).1.cell 2;have q3:=(za RT).1.cell 3;have q4:=(za RT).1.cell 4;have q5:=(za RT).1.cell 5;have q6:=(za RT).1.cell 6;simp only [kGs] at q0 q1 q2 q3 q4 q5 q6
        exact bodyPost_ret (v:= .agg #[.bool (ok), .string (sp), .int .i64 (sk), .string (sd), .int .i64 (st), .int .i64 (mm), .slice a' (ks.length+1) cap']) (by simp [results,Tryz.results78,go_sem,q0,q1,q2,q3,q4,q5,q6]) rfl ⟨.slice a' (ks.length+1) cap',by rw [←za EV];rfl,by rw [←za EV];exact (za RT).2.2,(za RT).2.1⟩
       ·have EF:Hid (Pl.zd8 p ⟨ok,⟨sp,sk,sd,st,sm⟩,ks++[kk]⟩ mk2 (xs.drop (j+1))=R):=by have h:=za EM;rw [if_neg hm0] at h;exact h
        clear EM;go_wp2
        go_roundw
        case rel=>exact ⟨j+1,by omega,by go_num,_,rfl,by omega,⟨_,_,za KG,by have :=za HKJ;simp only [List.length_append,List.length_cons,List.length_nil];omega,za EF⟩⟩
        case measure=>simp [intOf];omega
      ·go_simp
       refine hK.out _ _ (za MK _ (hHeld.1.alloc hHeld.1.size _)) (fun hHeld2=>?_);clear hK K
       try simp only [Act.put,kBs]
       have c6':(WD.alloc (.cells #[.int .i64 (kk:Int)] 3)).cell? ⟨w.heap.size+1,6,none⟩=some (.slice av (ks).length capv):=by have h:=((za KD).alloc (.cells #[.int .i64 (kk:Int)] 3)).out.cell 6;simpa [za5] using h
       refine RN 1 fun K hK=>?_;go_simp
       refine hK.out _ _ (za MK _ (hHeld.1.alloc hHeld.1.size _)) (fun hHeld1=>?_);clear hK K hHeld1 c6'
       try simp only [Act.put,kBs]
       have KE:=hide ((za KD).alloc (.cells #[.int .i64 (kk:Int)] 3));have NE:=hide ((za ND).alloc (.cells #[.int .i64 (kk:Int)] 3));refine RN 7 fun K hK=>?_;refine Mem.zn8 rfl _ _ 98 rfl (w.heap.size+2) 3 i0 _ 1 8 Tryz.underlying98 hi hz0 hz1 hz2 rfl (by decide) _ _ _ rfl (za KE).own ⟨WD.heap.size,0,none⟩ 1 1 [.int .i64 (kk:Int)] rfl rfl (Mem.ze6 _ _ _) (fun u hu=>by simp at hu;subst hu;rfl) (by have h:=za HKL;(try dsimp only at h ⊢);unfold maxLen;(try dsimp only);omega) (by have h:=za HKL;(try dsimp only at h ⊢);omega) (by have h1:=(za KD).out.lt;simp;omega) ?_;intro v' wZ hownZ hgrow0;have hgrow:(WD.alloc (.cells #[.int .i64 (kk:Int)] 3)).grownBy wZ (Value.slice av (ks).length capv).ownBlock:=hgrow0;clear hgrow0;obtain ⟨a',cap',hv'⟩:=Mem.zf1 hownZ;subst hv';have KF:=hide ((za KE).more hownZ hgrow)
       have hltv:∀q,(Value.slice av (ks).length capv).ownBlock=some q→w.heap.size+2≤q:=fun q hq=>(World.ownsRow.lt (za KE).own q hq).1;have NF:Hid (Mem.Blk (wZ.setCell ⟨w.heap.size+1,6,none⟩ (.slice a' ((ks).length+1) cap')) X #[.string np, .int .i64 1, .string nd, .int .i64 nt, .int .i64 nm] 55):=((za NE).grown hgrow (fun e=>za HXN e)).far _ _ (za HXO);have bZ:Below w.heap.size w wZ:=(za KE).bel.grown hgrow (za KE).bel.size (fun q hq=>by have :=hltv q hq;omega);have z6:wZ.cell? ⟨w.heap.size+1,6,none⟩=some (.slice av (ks).length capv):=(hgrow.cell (a:=⟨w.heap.size+1,6,none⟩) (by have h:=(za KE).out.cell 6;simpa [za5] using h) (fun e=>by have :w.heap.size+2≤w.heap.size+1:=hltv _ e.symm;omega));have zf6:wZ.frozen? ⟨w.heap.size+1,6,none⟩=false:=((za KE).out.grown hgrow (fun e=>by have :w.heap.size+2≤w.heap.size+1:=hltv _ e.symm;omega)).fr 6
       refine hK.out _ _ (za MK _ bZ) (fun hHeld3=>?_);clear hK K
       try simp only [Act.put,kBs]
       refine TB 8 ?_;refine RN 9 fun K hK=>?_;go_simp
       refine hK.out _ _ (za MK _ (za KF).bel) (fun hHeld4=>?_);clear hK K
       try simp only [Act.put,kBs]
       refine wpAnyH_done (by kernel_rfl) ?_ _;clear c6 cf6 z6 zf6 hgrow hownZ KE NE KD ND MK hltv bZ hHeld hHeld3 hHeld4;have n4:=(za NF).cell 4;simp only [kGs] at n4;have KG:Hid (AtP w (wZ.setCell ⟨w.heap.size+1,6,none⟩ (.slice a' ((ks).length+1) cap')) ⟨ok,⟨sp,sk,sd,st,sm⟩,ks++[kk]⟩ (.slice a' ((ks).length+1) cap')):=za KF;generalize (wZ.setCell ⟨w.heap.size+1,6,none⟩ (.slice a' ((ks).length+1) cap'))=W5 at KG n4 NF ⊢;clear KF NF;by_cases hm0:0<nm
       ·have EF:Hid (Pl.finO ⟨ok,⟨sp,sk,sd,st,sm⟩,ks++[kk]⟩ mk2=R):=by have h:=za EM;rw [if_pos hm0] at h;exact h
        clear EM;go_upto_region 22 with fail
        clear n4;have hwm:IntKind.i64.wrap (mk2 - 1)=mk2 - 1:=by simp only [IntKind.wrap_i64];omega
        have c5:=(za KG).out.cell 5;have cf5:=(za KG).out.fr 5;simp only [za5,Pl.za3,kGs] at c5;go_wp2_with fail
        refine (zq3 0 (mk2 - 1) _).mono ?_;rintro e wM ⟨rfl,hwM⟩;subst wM;go_upto_region 23 with fail
        have FM:=hide ((za KG).mark (max 0 (mk2 - 1)));have EQ2:Hid ((⟨ok,⟨sp,sk,sd,st,max 0 (mk2 - 1)⟩,ks++[kk]⟩:Pl.Ot)=R):=za EF;generalize max 0 (mk2 - 1)=mm at FM EQ2 ⊢;clear c5 cf5 KG;have FM2:=FM;clear FM
        try simp only [] at FM2
        generalize hWF:World.setCell _ ⟨w.heap.size+1,5,none⟩ (.int .i64 mm)=WF at FM2 ⊢;clear hWF;have c0:=(za FM2).out.cell 0;have cf0:=(za FM2).out.fr 0;have c1:=(za FM2).out.cell 1;have cf1:=(za FM2).out.fr 1;have c2:=(za FM2).out.cell 2;have cf2:=(za FM2).out.fr 2;have c3:=(za FM2).out.cell 3;have cf3:=(za FM2).out.fr 3;have c4:=(za FM2).out.cell 4;have cf4:=(za FM2).out.fr 4;have c5:=(za FM2).out.cell 5;have cf5:=(za FM2).out.fr 5;have c6:=(za FM2).out.cell 6;have cf6:=(za FM2).out.fr 6;simp only [za5,Pl.za3,kGs] at c0 c1 c2 c3 c4 c5 c6;have r0:=(za FM2).res.cell 0;have rf0:=(za FM2).res.fr 0;have r1:=(za FM2).res.cell 1;have rf1:=(za FM2).res.fr 1;have r2:=(za FM2).res.cell 2;have rf2:=(za FM2).res.fr 2;have r3:=(za FM2).res.cell 3;have rf3:=(za FM2).res.fr 3;have r4:=(za FM2).res.cell 4;have rf4:=(za FM2).res.fr 4;have r5:=(za FM2).res.cell 5;have rf5:=(za FM2).res.fr 5
        have r6:=(za FM2).res.cell 6;have rf6:=(za FM2).res.fr 6;simp only [za5,Pl.za3,kGs] at r0 r1 r2 r3 r4 r5 r6;have RT:=hide ((za FM2).ret (ok) (sp) (sk) (sd) (st) (mm) (.slice a' (ks.length+1) cap'));have EV:=EQ2;go_wp2
        generalize (((((((WF.setCell ⟨w.heap.size,0,none⟩ (.bool (ok))).setCell ⟨w.heap.size,1,none⟩ (.string (sp))).setCell ⟨w.heap.size,2,none⟩ (.int .i64 (sk))).setCell ⟨w.heap.size,3,none⟩ (.string (sd))).setCell ⟨w.heap.size,4,none⟩ (.int .i64 (st))).setCell ⟨w.heap.size,5,none⟩ (.int .i64 (mm))).setCell ⟨w.heap.size,6,none⟩ (.slice a' (ks.length+1) cap'))=WR at RT ⊢;have q0:=(za RT).1.cell 0;have q1:=(za RT).1.cell 1;have q2:=(za RT).1.cell 2;have q3:=(za RT).1.cell 3;have q4:=(za RT).1.cell 4;have q5:=(za RT).1.cell 5;have q6:=(za RT).1.cell 6;simp only [kGs] at q0 q1 q2 q3 q4 q5 q6
        exact bodyPost_ret (v:= .agg #[.bool (ok), .string (sp), .int .i64 (sk), .string (sd), .int .i64 (st), .int .i64 (mm), .slice a' (ks.length+1) cap']) (by simp [results,Tryz.results78,go_sem,q0,q1,q2,q3,q4,q5,q6]) rfl ⟨.slice a' (ks.length+1) cap',by rw [←za EV];rfl,by rw [←za EV];exact (za RT).2.2,(za RT).2.1⟩
       ·have EF:Hid (Pl.zd8 p ⟨ok,⟨sp,sk,sd,st,sm⟩,ks++[kk]⟩ mk2 (xs.drop (j+1))=R):=by have h:=za EM;rw [if_neg hm0] at h;exact h
        clear EM;go_wp2
        go_roundw
        case rel=>exact ⟨j+1,by omega,by go_num,_,rfl,by omega,⟨_,_,za KG,by have :=za HKJ;simp only [List.length_append,List.length_cons,List.length_nil];omega,za EF⟩⟩
        case measure=>simp [intOf];omega
     ·have EF:Hid (Pl.finO ⟨ok,⟨sp,sk,sd,st,sm⟩,ks⟩ (max mark nm)=R):=by
       have h:=(za hst).symm.trans (za HEG);simp only [if_neg (za HKS),if_neg hk1] at h;exact h
      clear hst HEG hx hk9;go_upto_region 18 with fail
      go_wp2_with fail
      refine (zq3 mark nm _).mono ?_;rintro e wM ⟨rfl,hwM⟩;subst wM;generalize max mark nm=mk2 at hm2 EF ⊢;go_upto_region 22 with fail
      clear n0 n1 n2 n3 n4 NB;have hwm:IntKind.i64.wrap (mk2 - 1)=mk2 - 1:=by simp only [IntKind.wrap_i64];omega
      have c5:=(za KB).out.cell 5;have cf5:=(za KB).out.fr 5;simp only [za5,Pl.za3,kGs] at c5;go_wp2_with fail
      refine (zq3 0 (mk2 - 1) _).mono ?_;rintro e wM ⟨rfl,hwM⟩;subst wM;go_upto_region 23 with fail
      have FM:=hide ((za KB).mark (max 0 (mk2 - 1)));have EQ2:Hid ((⟨ok,⟨sp,sk,sd,st,max 0 (mk2 - 1)⟩,ks⟩:Pl.Ot)=R):=za EF;generalize max 0 (mk2 - 1)=mm at FM EQ2 ⊢;clear c5 cf5 KB;have FM2:=FM;clear FM
      try simp only [] at FM2
      generalize hWF:World.setCell _ ⟨w.heap.size+1,5,none⟩ (.int .i64 mm)=WF at FM2 ⊢;clear hWF;have c0:=(za FM2).out.cell 0;have cf0:=(za FM2).out.fr 0;have c1:=(za FM2).out.cell 1;have cf1:=(za FM2).out.fr 1;have c2:=(za FM2).out.cell 2;have cf2:=(za FM2).out.fr 2;have c3:=(za FM2).out.cell 3;have cf3:=(za FM2).out.fr 3;have c4:=(za FM2).out.cell 4;have cf4:=(za FM2).out.fr 4;have c5:=(za FM2).out.cell 5;have cf5:=(za FM2).out.fr 5;have c6:=(za FM2).out.cell 6;have cf6:=(za FM2).out.fr 6;simp only [za5,Pl.za3,kGs] at c0 c1 c2 c3 c4 c5 c6;have r0:=(za FM2).res.cell 0;have rf0:=(za FM2).res.fr 0;have r1:=(za FM2).res.cell 1;have rf1:=(za FM2).res.fr 1;have r2:=(za FM2).res.cell 2;have rf2:=(za FM2).res.fr 2;have r3:=(za FM2).res.cell 3;have rf3:=(za FM2).res.fr 3;have r4:=(za FM2).res.cell 4;have rf4:=(za FM2).res.fr 4;have r5:=(za FM2).res.cell 5;have rf5:=(za FM2).res.fr 5
      have r6:=(za FM2).res.cell 6;have rf6:=(za FM2).res.fr 6;simp only [za5,Pl.za3,kGs] at r0 r1 r2 r3 r4 r5 r6;have RT:=hide ((za FM2).ret (ok) (sp) (sk) (sd) (st) (mm) (.slice av ks.length capv));have EV:=EQ2;go_wp2
      generalize (((((((WF.setCell ⟨w.heap.size,0,none⟩ (.bool (ok))).setCell ⟨w.heap.size,1,none⟩ (.string (sp))).setCell ⟨w.heap.size,2,none⟩ (.int .i64 (sk))).setCell ⟨w.heap.size,3,none⟩ (.string (sd))).setCell ⟨w.heap.size,4,none⟩ (.int .i64 (st))).setCell ⟨w.heap.size,5,none⟩ (.int .i64 (mm))).setCell ⟨w.heap.size,6,none⟩ (.slice av ks.length capv))=WR at RT ⊢;have q0:=(za RT).1.cell 0;have q1:=(za RT).1.cell 1;have q2:=(za RT).1.cell 2;have q3:=(za RT).1.cell 3;have q4:=(za RT).1.cell 4;have q5:=(za RT).1.cell 5;have q6:=(za RT).1.cell 6;simp only [kGs] at q0 q1 q2 q3 q4 q5 q6
      exact bodyPost_ret (v:= .agg #[.bool (ok), .string (sp), .int .i64 (sk), .string (sd), .int .i64 (st), .int .i64 (mm), .slice av ks.length capv]) (by simp [results,Tryz.results78,go_sem,q0,q1,q2,q3,q4,q5,q6]) rfl ⟨.slice av ks.length capv,by rw [←za EV];rfl,by rw [←za EV];exact (za RT).2.2,(za RT).2.1⟩
  ·have EF:Hid (Pl.finO ⟨ok,⟨sp,sk,sd,st,sm⟩,ks⟩ mark=R):=by
    have h:=za HEG;rw [List.drop_eq_nil_of_le (by omega)] at h;exact h
   have y2:¬ (j:Int)<(xs.length:Int):=by omega
   clear HEG A;go_upto_region 22 with fail
   have hwm:IntKind.i64.wrap (mark - 1)=mark - 1:=by simp only [IntKind.wrap_i64];omega
   have c5:=(za KA).out.cell 5;have cf5:=(za KA).out.fr 5;simp only [za5,Pl.za3,kGs] at c5;go_wp2_with fail
   refine (zq3 0 (mark - 1) _).mono ?_;rintro e wM ⟨rfl,hwM⟩;subst wM;go_upto_region 23 with fail
   have FM:=hide ((za KA).mark (max 0 (mark - 1)));have EQ2:Hid ((⟨ok,⟨sp,sk,sd,st,max 0 (mark - 1)⟩,ks⟩:Pl.Ot)=R):=za EF;generalize max 0 (mark - 1)=mm at FM EQ2 ⊢;clear c5 cf5 KA;have FM2:=FM;clear FM
   try simp only [] at FM2
   generalize hWF:World.setCell _ ⟨w.heap.size+1,5,none⟩ (.int .i64 mm)=WF at FM2 ⊢;clear hWF;have c0:=(za FM2).out.cell 0;have cf0:=(za FM2).out.fr 0;have c1:=(za FM2).out.cell 1;have cf1:=(za FM2).out.fr 1;have c2:=(za FM2).out.cell 2;have cf2:=(za FM2).out.fr 2;have c3:=(za FM2).out.cell 3;have cf3:=(za FM2).out.fr 3;have c4:=(za FM2).out.cell 4;have cf4:=(za FM2).out.fr 4;have c5:=(za FM2).out.cell 5;have cf5:=(za FM2).out.fr 5;have c6:=(za FM2).out.cell 6;have cf6:=(za FM2).out.fr 6;simp only [za5,Pl.za3,kGs] at c0 c1 c2 c3 c4 c5 c6;have r0:=(za FM2).res.cell 0;have rf0:=(za FM2).res.fr 0;have r1:=(za FM2).res.cell 1;have rf1:=(za FM2).res.fr 1;have r2:=(za FM2).res.cell 2;have rf2:=(za FM2).res.fr 2;have r3:=(za FM2).res.cell 3;have rf3:=(za FM2).res.fr 3;have r4:=(za FM2).res.cell 4;have rf4:=(za FM2).res.fr 4;have r5:=(za FM2).res.cell 5;have rf5:=(za FM2).res.fr 5
   have r6:=(za FM2).res.cell 6;have rf6:=(za FM2).res.fr 6;simp only [za5,Pl.za3,kGs] at r0 r1 r2 r3 r4 r5 r6;have RT:=hide ((za FM2).ret (ok) (sp) (sk) (sd) (st) (mm) (.slice av ks.length capv));have EV:=EQ2;go_wp2
   generalize (((((((WF.setCell ⟨w.heap.size,0,none⟩ (.bool (ok))).setCell ⟨w.heap.size,1,none⟩ (.string (sp))).setCell ⟨w.heap.size,2,none⟩ (.int .i64 (sk))).setCell ⟨w.heap.size,3,none⟩ (.string (sd))).setCell ⟨w.heap.size,4,none⟩ (.int .i64 (st))).setCell ⟨w.heap.size,5,none⟩ (.int .i64 (mm))).setCell ⟨w.heap.size,6,none⟩ (.slice av ks.length capv))=WR at RT ⊢;have q0:=(za RT).1.cell 0;have q1:=(za RT).1.cell 1;have q2:=(za RT).1.cell 2;have q3:=(za RT).1.cell 3;have q4:=(za RT).1.cell 4;have q5:=(za RT).1.cell 5;have q6:=(za RT).1.cell 6;simp only [kGs] at q0 q1 q2 q3 q4 q5 q6
   exact bodyPost_ret (v:= .agg #[.bool (ok), .string (sp), .int .i64 (sk), .string (sd), .int .i64 (st), .int .i64 (mm), .slice av ks.length capv]) (by simp [results,Tryz.results78,go_sem,q0,q1,q2,q3,q4,q5,q6]) rfl ⟨.slice av ks.length capv,by rw [←za EV];rfl,by rw [←za EV];exact (za RT).2.2,(za RT).2.1⟩
end zh8
end Go.Proofs.YtbomeifgfalmdaaGreatDoor
