import Derived.Test.YthdhhcgopfgcbaaGreatDoorPlainWayR
import Derived.Test.YthdhhcgopfgcbaaGreatDoorWAboveO
import Derived.Test.YthdhhcgopfgcbaaGreatDoorPlainAbv
import Derived.Test.YthdhhcgopfgcbaaGreatDoorPlainChg
import Derived.Test.YthdhhcgopfgcbaaGreatDoorG42
namespace Go.Proofs.YthdhhcgopfgcbaaGreatDoor
open Go.RowKit
namespace zi6
set_option linter.unusedSimpArgs false in
set_option maxRecDepth 100000 in
set_option maxHeartbeats 8000000 in
theorem remove_specN (b o cap:Nat) (Is:List Pl.It) (p:ByteArray) (w:World) (hl:Is.length≤1048576) (hv:Mem.zb0 w (some ⟨b,o,none⟩) Is) (hok:∀x∈Is,x.t.L.length≤1048576∧∀n∈x.t.L,n.path.size≤1048576∧n.data.size≤1048576) (hA:∀x∈Is,zc5.okA w x.t.a x.t.cap x.t.L) (hp:p.size≤1048576):
  Calls Tryz.prog 19 #[.slice (some ⟨b,o,none⟩) Is.length cap, .string p] w fun e w'=>Outs w w' (Pl.ze8 (Is.map Pl.It.r) (⟨p,1,⟨#[]⟩,0,0⟩:Pl.Nd) (fun S=>Pl.remC S p) (fun _ L1 lev=>Pl.remL L1 p lev)).1 (Pl.ze8 (Is.map Pl.It.r) (⟨p,1,⟨#[]⟩,0,0⟩:Pl.Nd) (fun S=>Pl.remC S p) (fun _ L1 lev=>Pl.remL L1 p lev)).2 e∧Below w.heap.size w w':=by
 generalize hNE:Pl.ze8 (Is.map Pl.It.r) (⟨p,1,⟨#[]⟩,0,0⟩:Pl.Nd) (fun S=>Pl.remC S p) (fun _ L1 lev=>Pl.remL L1 p lev)=NE;have HNE:=hide hNE;clear hNE;have hR:∀x∈Is,Mem.okR x.t.a x.t.cap x.t.L:=fun x hx=>Mem.ye9 (hA x hx);have b1:Below w.heap.size w (w.alloc (.cells #[.slice none 0 0, .int .i64 0] 26)):=bE0;have O1:Mem.Blk (w.alloc (.cells #[.slice none 0 0, .int .i64 0] 26)) w.heap.size #[.slice none 0 0, .int .i64 0] 26:=Mem.Blk.new _ _ _;have hs1:(w.alloc (.cells #[.slice none 0 0, .int .i64 0] 26)).heap.size=w.heap.size+1:=by simp
 have HBE:=hide (yh9 (some ⟨b,o,none⟩) cap Is (⟨p,2,⟨#[]⟩,0,0⟩:Pl.Nd) (w.alloc (.cells #[.slice none 0 0, .int .i64 0] 26)) hl (Mem.zb2 hv b1) hok hR hp (by decide :(⟨#[]⟩:ByteArray).size≤1048576));simp only at HBE;rw [Pl.begC_kind (Is.map Pl.It.r) p 0,Pl.begT_kind (Is.map Pl.It.r) p 0] at HBE;have HV:=hide hv;have HA:=hide hA;have HR:=hide hR;clear hv hok hA hR;go_enter Tryz.func19,Tryz.ntmps19
 go_wp2_with fail
 generalize (w.alloc (.cells #[.slice none 0 0, .int .i64 0] 26))=w1 at b1 O1 hs1 HBE ⊢;refine (za HBE).mono ?_;rintro e w2 ⟨v,rfl,own,b2⟩;obtain ⟨va,vc,rfl⟩:=Mem.za4 own;have bw2:=b1.trans (b2.mono b1.size);have O2:=O1.call b2;rw [hs1] at own;by_cases hC:Pl.begC (Is.map Pl.It.r) (⟨p,1,⟨#[]⟩,0,0⟩:Pl.Nd)=0
 case neg=>
  obtain rfl:=(za HNE).symm.trans (Pl.beg_none hC _ _);generalize hLn:(Pl.begT (Is.map Pl.It.r) (⟨p,1,⟨#[]⟩,0,0⟩:Pl.Nd)).length=ln;have QI:=hide (⟨bw2.alloc (o:= .cells #[.slice va ln vc] 43) bw2.size,O2.alloc _⟩:Below w.heap.size w (w2.alloc (.cells #[.slice va ln vc] 43))∧Mem.Blk (w2.alloc (.cells #[.slice va ln vc] 43)) w.heap.size #[.slice none 0 0, .int .i64 0] 26);clear O1 O2 own bw2 b2 b1 HBE HV HA HR hLn hs1 HNE;go_wp2_with fail
  refine (zc6 (Pl.begC (Is.map Pl.It.r) (⟨p,1,⟨#[]⟩,0,0⟩:Pl.Nd)) _).mono ?_;rintro e wI ⟨rfl,bI⟩;have bJ:=(za QI).1.trans (bI.mono (za QI).1.size);have RJ:=(za QI).2.call bI;obtain ⟨⟨d0,d1⟩,f0,f1⟩:=jf2 RJ;go_wp2
  refine bodyPost_ret (v:= .agg #[.slice none 0 0, .int .i64 (Pl.begC (Is.map Pl.It.r) (⟨p,1,⟨#[]⟩,0,0⟩:Pl.Nd))]) (by simp [results,Tryz.results19,go_sem,d0,d1]) rfl ⟨⟨_,[],rfl,Mem.Io.nil _ _,rfl⟩,?_⟩;exact (bJ.setCell (Nat.le_refl _) _).setCell (Nat.le_refl _) _
 obtain ⟨z1,z2,z3,z4,z5,z6,z7⟩:=Pl.zx hC;obtain ⟨FF0,hF⟩:=Option.isSome_iff_exists.1 z4;obtain ⟨L,K,hKs,hfl,hko,hnx⟩:=Pl.zm5 hF;have hl12:=Pl.zo6 hF;rw [List.length_map] at hl12;subst hKs;rw [z7] at own ⊢;rw [hC];have hpl:=Pl.zq7 z6;have hT40:=Pl.yc (Is.map Pl.It.r);generalize hT:Pl.zb8 (Is.map Pl.It.r)=T at own hpl hT40 ⊢;have htr:=Pl.zj0 hpl;have hTn:=(Pl.ze2 T).1 htr
 have HPL:=hide (fun W (Q:Mem.ownN W (w.heap.size+1) (.slice va T.length vc) T)=>ze6.remove_spec va vc T p W (by omega) (Mem.ze9 Q).2 (fun m hm=>by
  have h1:=(hTn.2.1 m hm).1;have h2:=Pl.zd1 (Pl.zb1 h1).1;have h3:=(Pl.zd8 h1).1
  omega) hp)
 have W3o:=Mem.zg7 own ((Below.refl w2.heap.size w2).alloc (o:= .cells #[.slice va T.length vc] 43) (Nat.le_refl _));have Q3:Hid (Sg w (w2.alloc (.cells #[.slice va T.length vc] 43)) w2.heap.size va vc T):=hide ⟨bw2.alloc (o:= .cells #[.slice va T.length vc] 43) bw2.size,O2.alloc _,Mem.Blk.new _ _ _,W3o,by have :=O2.lt;omega⟩;have s0:=(za Q3).sig.cell 0;simp only [kA0,kA1] at s0;clear O1 O2 own bw2 b2 b1 HBE W3o hs1 z1 z4;go_wp2_with fail
 generalize w2.alloc (.cells #[.slice va T.length vc] 43)=w3 at Q3 s0 ⊢;generalize w2.heap.size=X at Q3 s0 ⊢;refine (za HPL _ (za Q3).own).mono ?_;rintro e w4 ⟨v4,rfl,own4,b4⟩;obtain ⟨a4,c4,rfl⟩:=Mem.za4 own4;rw [Pl.chg_go ⟨z2,z3⟩ hpl z5];by_cases hP:Pl.remC T p=0
 case neg=>
  obtain rfl:=(za HNE).symm.trans (Pl.beg_pc (pc:=(fun S=>Pl.remC S p)) hC (by rw [hT];exact hP) _);simp only [hT];have hPz:¬Pl.remC T p=0:=hP;generalize hLn:(Pl.chgO T (⟨p,1,⟨#[]⟩,0,0⟩:Pl.Nd) _ _).length=ln;have QI:=hide (⟨((za Q3).call b4).bel.alloc (o:= .cells #[.slice a4 ln c4, .int .i64 (Pl.remC T p)] 64) ((za Q3).call b4).bel.size,((za Q3).call b4).out.alloc _⟩:Below w.heap.size w (w4.alloc (.cells #[.slice a4 ln c4, .int .i64 (Pl.remC T p)] 64))∧Mem.Blk (w4.alloc (.cells #[.slice a4 ln c4, .int .i64 (Pl.remC T p)] 64)) w.heap.size #[.slice none 0 0, .int .i64 0] 26);have x1:=(Mem.Blk.new w4 #[.slice a4 ln c4, .int .i64 (Pl.remC T p)] 64).cell 1;simp only [kGs] at x1;clear Q3 b4 own4 HPL HV HA HR s0 hLn HNE;go_wp2_with fail
  refine (zc6 (Pl.remC T p) _).mono ?_;rintro e wI ⟨rfl,bI⟩;have bJ:=(za QI).1.trans (bI.mono (za QI).1.size);have RJ:=(za QI).2.call bI;obtain ⟨⟨d0,d1⟩,f0,f1⟩:=jf2 RJ;go_wp2
  refine bodyPost_ret (v:= .agg #[.slice none 0 0, .int .i64 (Pl.remC T p)]) (by simp [results,Tryz.results19,go_sem,d0,d1]) rfl ⟨⟨_,[],rfl,Mem.Io.nil _ _,rfl⟩,?_⟩;exact (bJ.setCell (Nat.le_refl _) _).setCell (Nat.le_refl _) _
 have hD:=Pl.dir_found htr (Pl.rem_found hP);have hLt:Pl.za5 (Pl.zd6 L K)=true:=Pl.yf7 L K hko.1 hko.2.2.2.1;have hpB:=(Pl.zb1 z5).1;have hp0:p.size≠0:=(Pl.zb1 z5).2;obtain ⟨e1,h1,h2,h3⟩:=Pl.abv_all (L:=Pl.zd6 L K) htr hLt hpB hD;simp only at e1 h1 h2 h3;rw [hP];have hYES:=Pl.beg_yes hC hnx hfl (pc:=(fun S=>Pl.remC S p)) (by rw [hT];exact hP) (fun _ L1 lev=>Pl.remL L1 p lev);simp only [hT] at hYES;rw [e1] at hYES;have HN2:=hide ((za HNE).symm.trans hYES);have HSM:=hide (fun (x:Pl.It) (hx:x∈Is)=>(show x.t.L.length≤1000 by have h:=((Pl.ze2 _).1 (Pl.Fx.ok_mem hko x.r (by rw [hfl];exact List.mem_map.2 ⟨x,hx,rfl⟩)).1).1;exact Nat.le_trans h (by decide)));obtain ⟨x,hxI,hxL,hxc,hxn,hbw,hlev⟩:=leaf_item (za HV) hfl;have hxA:=za HA x hxI;obtain ⟨xm,xa,xc,xL⟩:=x;simp only [Pl.Tr.val] at hxL hxc hxn hxA;subst hxL;have hix:0≤(K.shape.level:Int)∧(K.shape.level:Int)<(Is.length:Int):=by omega
 have HFI:=hide (fun W (bb:Below w.heap.size w W)=>zv1.zu6 (some ⟨b,o,none⟩) cap Is hl12 W (Mem.zb2 (za HV) bb) K.shape hF);have hnmP:=Pl.zn9 hpB;have hn1:1≤(Pl.names p).length:=List.length_pos_iff.2 (Pl.zw7 hp0);have hL40:=((Pl.ze2 _).1 hLt).1;have HAB:=hide (fun W (Q:Sg w W X va vc T)=>above_all xa xc (Pl.zd6 L K) T va vc p W hnmP.1 hn1 hnmP.2 hp (zc5.zk8 hxA Q.bel.size) (Mem.za0 hxn Q.bel) (by omega) (fun m hm=>by have :=Pl.zd1 (Pl.zb1 (((Pl.ze2 _).1 hLt).2.1 m hm).1).1;omega) (Mem.ze9 Q.own).2 (by omega) h1);generalize hxg:Pl.zd6 L K=xL at HAB hxc hxn hxA h2 h3 HN2 ⊢;generalize hRg:Pl.abvN T xL (Pl.ways (Pl.names p) ((Pl.names p).length - 1))=R at HAB h2 h3 HN2 ⊢;have hRs:=h2.off p;have hRl:=Pl.off_len p R;have HCU:=hide (fun a' cap' W (hx2:Mem.za2 W a' R)=>WCutS.l03_any a' cap' R p W (by omega) hx2 hp)
 have HPU:=hide (fun a' cap' W (h1:zc5.okA W a' cap' (Pl.offL p R)) (hx2:Mem.za2 W a' (Pl.offL p R))=>zc5.put_gen a' cap' (Pl.offL p R) ⟨p,0,⟨#[]⟩,0,(K.shape.level:Int)⟩ W (by omega) h1 hx2 (fun m hm=>by have :=Pl.zd1 (hRs.path m hm).1;omega) (by show p.size≤8000;exact z2))
 have hOl:(Pl.remL R p (K.shape.level:Int)).length≤1000:=by
  unfold Pl.remL
  split
  ·have :=Pl.ye0 (Pl.offL p R) ⟨p,0,⟨#[]⟩,0,(K.shape.level:Int)⟩;omega
  ·omega
 have HDO:=hide (fun a' ct W (bb:Below w.heap.size w W) (h1:zc5.okA W a' ct (Pl.remL R p (K.shape.level:Int))) (hx2:Mem.za2 W a' (Pl.remL R p (K.shape.level:Int)))=>done_any b o cap Is a' ct (Pl.remL R p (K.shape.level:Int)) K.shape W (Mem.zb2 (za HV) bb) hl12 hF (fun x hx=>za HSM x hx) (za HR) hOl (Mem.ye9 h1) hx2);generalize (if 40<(Pl.remL R p (K.shape.level:Int)).length then (9:Int) else 0)=cd at HDO HN2;generalize (if 40<(Pl.remL R p (K.shape.level:Int)).length then [] else (Is.map Pl.It.r).set K.shape.level ((0:Int),Pl.remL R p (K.shape.level:Int)))=il at HDO HN2;have MK:Hid (∀W',Sg w W' X va vc T→(fun W'=>Below w.heap.size w W'∧W'.cell? ⟨X,0,none⟩=some (.slice va T.length vc)∧W'.cell? ⟨b,o+K.shape.level*2+1,none⟩=some (.slice xa xL.length xc)) W'):=fun W' h=>⟨h.bel,by have h':=h.sig.cell 0;simpa using h',(h.bel.cell (p:=⟨b,_,none⟩) hbw).trans hxc⟩
 have MG:Hid (∀W' (Y:Nat) a2 c2,Sg w W' X va vc T→Mem.Blk W' Y #[.slice none 0 0] 43→(zc5.okA W' a2 c2 (Pl.offL p R)∧Mem.za2 W' a2 (Pl.offL p R))→w.heap.size<Y∧X<Y→Sg w (W'.setCell ⟨Y,0,none⟩ (.slice a2 (Pl.offL p R).length c2)) X va vc T∧Mem.Blk (W'.setCell ⟨Y,0,none⟩ (.slice a2 (Pl.offL p R).length c2)) Y #[.slice a2 (Pl.offL p R).length c2] 43∧zc5.okA (W'.setCell ⟨Y,0,none⟩ (.slice a2 (Pl.offL p R).length c2)) a2 c2 (Pl.offL p R)∧Mem.za2 (W'.setCell ⟨Y,0,none⟩ (.slice a2 (Pl.offL p R).length c2)) a2 (Pl.offL p R)∧(w.heap.size<Y∧X<Y)):=fun W' Y a2 c2 h hY hl hlo=>
  ⟨h.far hY hlo _,by have h':=hY.put 0 (.slice a2 (Pl.offL p R).length c2);simpa using h',zc5.zk8 hl.1 (by simp),Mem.nodes_var hl.2 hY _,hlo⟩
 have Q4:Hid (Sg w (w4.alloc (.cells #[.slice a4 (Pl.chgO T (⟨p,1,⟨#[]⟩,0,0⟩:Pl.Nd) 0 (Pl.offL p T)).length c4, .int .i64 0] 64)) X va vc T):=hide (((za Q3).call b4).call ((Below.refl w4.heap.size w4).alloc (o:= .cells #[.slice a4 (Pl.chgO T (⟨p,1,⟨#[]⟩,0,0⟩:Pl.Nd) 0 (Pl.offL p T)).length c4, .int .i64 0] 64) (Nat.le_refl _)));have x1:=(Mem.Blk.new w4 #[.slice a4 (Pl.chgO T (⟨p,1,⟨#[]⟩,0,0⟩:Pl.Nd) 0 (Pl.offL p T)).length c4, .int .i64 0] 64).cell 1;simp only [kGs] at x1;clear Q3 b4 own4 HPL HA HR s0 hnmP hLt hpB hp0 htr hTn hpl hC hP hD h2 hxc hxn hxA hxg hRg hnx hfl hko hF hT e1 h1 h3 hYES HNE HV hn1 hL40 hRs hRl hOl;go_wp2_with fail
 generalize (w4.alloc (.cells #[.slice a4 (Pl.chgO T (⟨p,1,⟨#[]⟩,0,0⟩:Pl.Nd) 0 (Pl.offL p T)).length c4, .int .i64 0] 64))=W4 at Q4 x1 ⊢;refine (za HFI _ (za Q4).bel).mono ?_;rintro e wM ⟨rfl,hwM⟩;subst wM;have QB:=Q4;clear Q4;go_upto_region 8 with fail
 refine yf3 (R:=fun Tf T' W=>∃ (Y:Nat) (a2:Option Addr) (c2:Nat) (a1:Option Addr) (c1:Nat),T'=((((((((((((Tf.setIfInBounds 33 (.slice (some ⟨b,o,none⟩) Is.length cap)).setIfInBounds 34 (.slice (some ⟨b,o,none⟩) Is.length cap)).setIfInBounds 35 (.int .i64 (K.shape.level:Int))).setIfInBounds 36 (.pointer (some ⟨b,o+K.shape.level*2,none⟩))).setIfInBounds 37 (.pointer (some ⟨b,o+K.shape.level*2+1,none⟩))).setIfInBounds 38 (.agg #[.slice xa xL.length xc])).setIfInBounds 39 (.agg #[.slice va T.length vc])).setIfInBounds 40 (.string p)).setIfInBounds 41 (.agg #[.slice a1 R.length c1])).setIfInBounds 42 (.string p)).setIfInBounds 43 (.agg #[.slice a2 (Pl.offL p R).length c2])).setIfInBounds 9 (.pointer (some ⟨Y,0,none⟩)))∧(Sg w W X va vc T∧Mem.Blk W Y #[.slice a2 (Pl.offL p R).length c2] 43∧zc5.okA W a2 c2 (Pl.offL p R)∧Mem.za2 W a2 (Pl.offL p R)∧(w.heap.size<Y∧X<Y))) ?_ ?_
 ·skip
  have bd:=yl4 W4;have QQ:=hide ((za QB).call bd);clear bd QB;refine wp_region_held_drew (S:=fun W'=>Below w.heap.size w W'∧W'.cell? ⟨X,0,none⟩=some (.slice va T.length vc)∧W'.cell? ⟨b,o+K.shape.level*2+1,none⟩=some (.slice xa xL.length xc)) (by kernel_rfl) ?_ (fun hHeld=>?_)
  ·exact za MK _ (za QQ)
  generalize W4.drew=WC at hHeld QQ ⊢;refine TB 0 ?_;refine TB 1 ?_;refine TB 6 ?_;refine TB 7 ?_;refine TB 9 ?_;refine wpAnyH_ready (rs:=[2,11]) (by kernel_rfl) (by simp) ?_;refine AllReadyH.cons rfl (fun K1 hK=>?_) (AllReadyH.cons rfl (fun K1 hK=>?_) (AllReadyH.nil))
  ·go_simp
   refine (za HFI _ (za QQ).bel).mono ?_;rintro e wX ⟨rfl,hwX⟩;subst wX;refine hK.out _ _ ?_ (fun hHeld2=>?_)
   ·assumption
   clear hK K1 hHeld HFI;have hHeld:=hHeld2;clear hHeld2
   try simp only [Act.put,kBs]
   refine TB 3 ?_;refine TB 4 ?_;refine TB 5 ?_;refine wpAnyH_ready (rs:=[8,11]) (by kernel_rfl) (by simp) ?_;refine AllReadyH.cons rfl (fun K1 hK=>?_) (AllReadyH.cons rfl (fun K1 hK=>?_) (AllReadyH.nil))
   ·go_simp
    refine (za HAB _ (za QQ)).mono ?_;rintro e wX ⟨a1,c1,rfl,ok1,nd1,bx⟩;have QN:=hide ((za QQ).call bx);have LF:=hide (⟨ok1,nd1⟩:zc5.okA wX a1 c1 R∧Mem.za2 wX a1 R);refine hK.out _ _ ?_ (fun hHeld2=>?_)
    ·exact za MK _ (za QN)
    clear hK K1 hHeld HAB bx ok1 nd1 QQ;have hHeld:=hHeld2;clear hHeld2;have QQ:=QN;clear QN
    try simp only [Act.put,kBs]
    refine wpAnyH_ready (rs:=[10,11]) (by kernel_rfl) (by simp) ?_;refine AllReadyH.cons rfl (fun K1 hK=>?_) (AllReadyH.cons rfl (fun K1 hK=>?_) (AllReadyH.nil))
    ·go_simp
     refine (za HCU a1 c1 _ (za LF).2).mono ?_;rintro e wZ ⟨v2,rfl,own2,bx⟩;obtain ⟨a2,c2,rfl⟩:=Mem.za4 own2;have QN:=hide ((za QQ).call bx);have LFn:=hide (⟨Mem.zu9 own2,(Mem.ze9 own2).2⟩:zc5.okA wZ a2 c2 (Pl.offL p R)∧Mem.za2 wZ a2 (Pl.offL p R));refine hK.out _ _ ?_ (fun hHeld2=>?_)
     ·exact za MK _ (za QN)
     clear hK K1 hHeld HCU bx own2 QQ LF;have hHeld:=hHeld2;clear hHeld2;have QQ:=QN;clear QN;have LF:=LFn;clear LFn
     try simp only [Act.put,kBs]
     refine wpAnyH_ready (rs:=[11]) (by kernel_rfl) (by simp) ?_;refine AllReadyH.cons rfl (fun K1 hK=>?_) (AllReadyH.nil);go_simp
     have ba:Below wZ.heap.size wZ (wZ.alloc (.cells #[.slice none 0 0] 43)):=bE0;have QN:=hide ((za QQ).call ba);have YBn:=hide (Mem.Blk.new wZ #[.slice none 0 0] 43);have hYlo:=(⟨(za QQ).out.lt,(za QQ).sig.lt⟩:w.heap.size<wZ.heap.size∧X<wZ.heap.size);have LF2:=hide (⟨zc5.zk8 (za LF).1 (ba).size,Mem.za0 (za LF).2 ba⟩:zc5.okA _ a2 c2 (Pl.offL p R)∧Mem.za2 _ a2 (Pl.offL p R));refine hK.out _ _ ?_ (fun hHeld2=>?_)
     ·exact za MK _ (za QN)
     clear hK K1 hHeld QQ ba LF;have hHeld:=hHeld2;clear hHeld2;have QQ:=QN;clear QN;have YB:=YBn;clear YBn;have LF:=LF2;clear LF2
     try simp only [Act.put,kBs]
     generalize wZ.heap.size=Y at YB hYlo ⊢;generalize wZ.alloc (.cells #[.slice none 0 0] 43)=wZa at hHeld QQ YB LF ⊢;have y0:=(za YB).cell 0;have g0:=(za YB).fr 0;simp only [kA0,kA1] at y0;refine wpAnyH_ready (rs:=[12]) (by kernel_rfl) (by simp) ?_;refine AllReadyH.cons rfl (fun K1 hK=>?_) (AllReadyH.nil);go_simp
     have E9:=hide (za MG _ Y a2 c2 (za QQ) (za YB) (za LF) hYlo);refine hK.out _ _ ?_ (fun hHeld2=>?_)
     ·exact za MK _ (za E9).1
     clear hK K1 hHeld hHeld2;refine wpAnyH_done (by kernel_rfl) ?_ _;refine ⟨rfl,rfl,Y,a2,c2,a1,c1,?_,za E9⟩;simp only [kB3,kB4,kB5]
    ·go_simp
     have ba:Below wX.heap.size wX (wX.alloc (.cells #[.slice none 0 0] 43)):=bE0;have QN:=hide ((za QQ).call ba);have YBn:=hide (Mem.Blk.new wX #[.slice none 0 0] 43);have hYlo:=(⟨(za QQ).out.lt,(za QQ).sig.lt⟩:w.heap.size<wX.heap.size∧X<wX.heap.size);have LF2:=hide (⟨zc5.zk8 (za LF).1 (ba).size,Mem.za0 (za LF).2 ba⟩:zc5.okA _ a1 c1 R∧Mem.za2 _ a1 R);refine hK.out _ _ ?_ (fun hHeld2=>?_)
     ·exact za MK _ (za QN)
     clear hK K1 hHeld QQ ba LF;have hHeld:=hHeld2;clear hHeld2;have QQ:=QN;clear QN;have YB:=YBn;clear YBn;have LF:=LF2;clear LF2
     try simp only [Act.put,kBs]
     generalize wX.heap.size=Y at YB hYlo ⊢;generalize wX.alloc (.cells #[.slice none 0 0] 43)=wXa at hHeld QQ YB LF ⊢;refine wpAnyH_ready (rs:=[10]) (by kernel_rfl) (by simp) ?_;refine AllReadyH.cons rfl (fun K1 hK=>?_) (AllReadyH.nil);go_simp
     refine (za HCU a1 c1 _ (za LF).2).mono ?_;rintro e wZ ⟨v2,rfl,own2,bx⟩;obtain ⟨a2,c2,rfl⟩:=Mem.za4 own2;have QN:=hide ((za QQ).call bx);have LFn:=hide (⟨Mem.zu9 own2,(Mem.ze9 own2).2⟩:zc5.okA wZ a2 c2 (Pl.offL p R)∧Mem.za2 wZ a2 (Pl.offL p R));have YB2:=hide ((za YB).call bx);refine hK.out _ _ ?_ (fun hHeld2=>?_)
     ·exact za MK _ (za QN)
     clear hK K1 hHeld HCU bx own2 QQ LF YB;have hHeld:=hHeld2;clear hHeld2;have QQ:=QN;clear QN;have LF:=LFn;clear LFn;have YB:=YB2;clear YB2
     try simp only [Act.put,kBs]
     have y0:=(za YB).cell 0;have g0:=(za YB).fr 0;simp only [kA0,kA1] at y0;refine wpAnyH_ready (rs:=[12]) (by kernel_rfl) (by simp) ?_;refine AllReadyH.cons rfl (fun K1 hK=>?_) (AllReadyH.nil);go_simp
     have E9:=hide (za MG _ Y a2 c2 (za QQ) (za YB) (za LF) hYlo);refine hK.out _ _ ?_ (fun hHeld2=>?_)
     ·exact za MK _ (za E9).1
     clear hK K1 hHeld hHeld2;refine wpAnyH_done (by kernel_rfl) ?_ _;refine ⟨rfl,rfl,Y,a2,c2,a1,c1,?_,za E9⟩;simp only [kB3,kB4,kB5]
   ·go_simp
    have ba:Below WC.heap.size WC (WC.alloc (.cells #[.slice none 0 0] 43)):=bE0;have QN:=hide ((za QQ).call ba);have YBn:=hide (Mem.Blk.new WC #[.slice none 0 0] 43);have hYlo:=(⟨(za QQ).out.lt,(za QQ).sig.lt⟩:w.heap.size<WC.heap.size∧X<WC.heap.size);refine hK.out _ _ ?_ (fun hHeld2=>?_)
    ·exact za MK _ (za QN)
    clear hK K1 hHeld QQ ba;have hHeld:=hHeld2;clear hHeld2;have QQ:=QN;clear QN;have YB:=YBn;clear YBn
    try simp only [Act.put,kBs]
    generalize WC.heap.size=Y at YB hYlo ⊢;generalize WC.alloc (.cells #[.slice none 0 0] 43)=WCa at hHeld QQ YB ⊢;refine wpAnyH_ready (rs:=[8]) (by kernel_rfl) (by simp) ?_;refine AllReadyH.cons rfl (fun K1 hK=>?_) (AllReadyH.nil);go_simp
    refine (za HAB _ (za QQ)).mono ?_;rintro e wX ⟨a1,c1,rfl,ok1,nd1,bx⟩;have QN:=hide ((za QQ).call bx);have LF:=hide (⟨ok1,nd1⟩:zc5.okA wX a1 c1 R∧Mem.za2 wX a1 R);have YB2:=hide ((za YB).call bx);refine hK.out _ _ ?_ (fun hHeld2=>?_)
    ·exact za MK _ (za QN)
    clear hK K1 hHeld HAB bx ok1 nd1 QQ YB;have hHeld:=hHeld2;clear hHeld2;have QQ:=QN;clear QN;have YB:=YB2;clear YB2
    try simp only [Act.put,kBs]
    refine wpAnyH_ready (rs:=[10]) (by kernel_rfl) (by simp) ?_;refine AllReadyH.cons rfl (fun K1 hK=>?_) (AllReadyH.nil);go_simp
    refine (za HCU a1 c1 _ (za LF).2).mono ?_;rintro e wZ ⟨v2,rfl,own2,bx⟩;obtain ⟨a2,c2,rfl⟩:=Mem.za4 own2;have QN:=hide ((za QQ).call bx);have LFn:=hide (⟨Mem.zu9 own2,(Mem.ze9 own2).2⟩:zc5.okA wZ a2 c2 (Pl.offL p R)∧Mem.za2 wZ a2 (Pl.offL p R));have YB2:=hide ((za YB).call bx);refine hK.out _ _ ?_ (fun hHeld2=>?_)
    ·exact za MK _ (za QN)
    clear hK K1 hHeld HCU bx own2 QQ LF YB;have hHeld:=hHeld2;clear hHeld2;have QQ:=QN;clear QN;have LF:=LFn;clear LFn;have YB:=YB2;clear YB2
    try simp only [Act.put,kBs]
    have y0:=(za YB).cell 0;have g0:=(za YB).fr 0;simp only [kA0,kA1] at y0;refine wpAnyH_ready (rs:=[12]) (by kernel_rfl) (by simp) ?_;refine AllReadyH.cons rfl (fun K1 hK=>?_) (AllReadyH.nil);go_simp
    have E9:=hide (za MG _ Y a2 c2 (za QQ) (za YB) (za LF) hYlo);refine hK.out _ _ ?_ (fun hHeld2=>?_)
    ·exact za MK _ (za E9).1
    clear hK K1 hHeld hHeld2;refine wpAnyH_done (by kernel_rfl) ?_ _;refine ⟨rfl,rfl,Y,a2,c2,a1,c1,?_,za E9⟩;simp only [kB3,kB4,kB5]
  ·go_simp
   have ba:Below WC.heap.size WC (WC.alloc (.cells #[.slice none 0 0] 43)):=bE0;have QN:=hide ((za QQ).call ba);have YBn:=hide (Mem.Blk.new WC #[.slice none 0 0] 43);have hYlo:=(⟨(za QQ).out.lt,(za QQ).sig.lt⟩:w.heap.size<WC.heap.size∧X<WC.heap.size);refine hK.out _ _ ?_ (fun hHeld2=>?_)
   ·exact za MK _ (za QN)
   clear hK K1 hHeld QQ ba;have hHeld:=hHeld2;clear hHeld2;have QQ:=QN;clear QN;have YB:=YBn;clear YBn
   try simp only [Act.put,kBs]
   generalize WC.heap.size=Y at YB hYlo ⊢;generalize WC.alloc (.cells #[.slice none 0 0] 43)=WCa at hHeld QQ YB ⊢;refine wpAnyH_ready (rs:=[2]) (by kernel_rfl) (by simp) ?_;refine AllReadyH.cons rfl (fun K1 hK=>?_) (AllReadyH.nil);go_simp
   refine (za HFI _ (za QQ).bel).mono ?_;rintro e wX ⟨rfl,hwX⟩;subst wX;refine hK.out _ _ ?_ (fun hHeld2=>?_)
   ·assumption
   clear hK K1 hHeld HFI;have hHeld:=hHeld2;clear hHeld2
   try simp only [Act.put,kBs]
   refine TB 3 ?_;refine TB 4 ?_;refine TB 5 ?_;refine wpAnyH_ready (rs:=[8]) (by kernel_rfl) (by simp) ?_;refine AllReadyH.cons rfl (fun K1 hK=>?_) (AllReadyH.nil);go_simp
   refine (za HAB _ (za QQ)).mono ?_;rintro e wX ⟨a1,c1,rfl,ok1,nd1,bx⟩;have QN:=hide ((za QQ).call bx);have LF:=hide (⟨ok1,nd1⟩:zc5.okA wX a1 c1 R∧Mem.za2 wX a1 R);have YB2:=hide ((za YB).call bx);refine hK.out _ _ ?_ (fun hHeld2=>?_)
   ·exact za MK _ (za QN)
   clear hK K1 hHeld HAB bx ok1 nd1 QQ YB;have hHeld:=hHeld2;clear hHeld2;have QQ:=QN;clear QN;have YB:=YB2;clear YB2
   try simp only [Act.put,kBs]
   refine wpAnyH_ready (rs:=[10]) (by kernel_rfl) (by simp) ?_;refine AllReadyH.cons rfl (fun K1 hK=>?_) (AllReadyH.nil);go_simp
   refine (za HCU a1 c1 _ (za LF).2).mono ?_;rintro e wZ ⟨v2,rfl,own2,bx⟩;obtain ⟨a2,c2,rfl⟩:=Mem.za4 own2;have QN:=hide ((za QQ).call bx);have LFn:=hide (⟨Mem.zu9 own2,(Mem.ze9 own2).2⟩:zc5.okA wZ a2 c2 (Pl.offL p R)∧Mem.za2 wZ a2 (Pl.offL p R));have YB2:=hide ((za YB).call bx);refine hK.out _ _ ?_ (fun hHeld2=>?_)
   ·exact za MK _ (za QN)
   clear hK K1 hHeld HCU bx own2 QQ LF YB;have hHeld:=hHeld2;clear hHeld2;have QQ:=QN;clear QN;have LF:=LFn;clear LFn;have YB:=YB2;clear YB2
   try simp only [Act.put,kBs]
   have y0:=(za YB).cell 0;have g0:=(za YB).fr 0;simp only [kA0,kA1] at y0;refine wpAnyH_ready (rs:=[12]) (by kernel_rfl) (by simp) ?_;refine AllReadyH.cons rfl (fun K1 hK=>?_) (AllReadyH.nil);go_simp
   have E9:=hide (za MG _ Y a2 c2 (za QQ) (za YB) (za LF) hYlo);refine hK.out _ _ ?_ (fun hHeld2=>?_)
   ·exact za MK _ (za E9).1
   clear hK K1 hHeld hHeld2;refine wpAnyH_done (by kernel_rfl) ?_ _;refine ⟨rfl,rfl,Y,a2,c2,a1,c1,?_,za E9⟩;simp only [kB3,kB4,kB5]
 ·skip
  rintro T' W ⟨Y,a2,c2,a1,c1,hT',hg⟩;simp only [kB3,kB4,kB5] at hT';subst hT';have QZ:=hide hg;clear hg MG HCU HAB MK;by_cases hlv:0<K.shape.level
  ·have tl:(0:Int)<(K.shape.level:Int):=by omega
   have eO:Pl.remL R p (K.shape.level:Int)=Pl.putL (Pl.offL p R) ⟨p,0,⟨#[]⟩,0,(K.shape.level:Int)⟩:=by unfold Pl.remL;rw [if_pos tl]
   have c9:=(za QZ).2.1.cell 0;have g9:=(za QZ).2.1.fr 0;simp only [kA0,kA1] at c9;go_wp2_with fail
   refine (za HPU a2 c2 _ (za QZ).2.2.1 (za QZ).2.2.2.1).mono ?_;rintro e wP ⟨v5,rfl,own5,bp⟩;rw [←eO] at own5;generalize Pl.remL R p (K.shape.level:Int)=O at own5 HDO ⊢;obtain ⟨a9,c9',rfl⟩:=Mem.za4 own5;have Y5:=(za QZ).2.1.call bp;have Q5:=(za QZ).1.call bp
   have QY:Hid (Sg w (wP.setCell ⟨Y,0,none⟩ (.slice a9 O.length c9')) X va vc T∧Mem.Blk (wP.setCell ⟨Y,0,none⟩ (.slice a9 O.length c9')) Y #[.slice a9 O.length c9'] 43∧zc5.okA (wP.setCell ⟨Y,0,none⟩ (.slice a9 O.length c9')) a9 c9' O∧Mem.za2 (wP.setCell ⟨Y,0,none⟩ (.slice a9 O.length c9')) a9 O):=by
    exact ⟨Q5.far Y5 (za QZ).2.2.2.2 _,by have h:=Y5.put 0 (.slice a9 O.length c9');simpa using h,zc5.zk8 (Mem.zu9 own5) (by simp),Mem.nodes_var (Mem.ze9 own5).2 Y5 _⟩
   have f9:=Y5.fr 0;have e9:=Y5.cell 0;simp only [kA0,kA1] at e9;clear QZ c9 g9 own5 HPU Y5 Q5 eO bp;have c9:=(za QY).2.1.cell 0;simp only [kA0,kA1] at c9;go_wp2_with fail
   refine (za HDO a9 c9' _ (za QY).1.bel (za QY).2.2.1 (za QY).2.2.2).mono ?_;rintro e wX ⟨⟨v3,Js,rfl,io,hJs⟩,bx⟩;obtain ⟨a3,c3,rfl⟩:=Mem.za4 io.row;have QG:=hide ((za QY).1.call bx);have hsz:=(za QY).1.bel.size;have hszo:=(za QY).1.out.lt;have IO:=hide io;have HJ:=hide hJs;clear HDO io hJs bx QY c9;have d0:=(za QG).out.cell 0;have d1:=(za QG).out.cell 1;have f0:=(za QG).out.fr 0;have f1:=(za QG).out.fr 1;simp only [kGs] at d0 d1;go_wp2
   refine bodyPost_ret (v:= .agg #[.slice a3 Js.length c3, .int .i64 cd]) (by simp [results,Tryz.results19,go_sem,d0,d1]) rfl ⟨⟨_,Js,by rw [za HN2],(((za IO).set _ _ (by show w.heap.size<_;omega)).set _ _ (by show w.heap.size<_;omega)).mono hsz,by rw [za HN2];exact za HJ⟩,?_⟩;exact ((za QG).bel.setCell (Nat.le_refl _) _).setCell (Nat.le_refl _) _
  ·have tl:¬ (0:Int)<(K.shape.level:Int):=by omega
   have eO:Pl.remL R p (K.shape.level:Int)=Pl.offL p R:=by unfold Pl.remL;rw [if_neg tl]
   rw [←eO] at QZ ⊢;generalize Pl.remL R p (K.shape.level:Int)=O at QZ HDO ⊢;have QY:Hid (Sg w W X va vc T∧Mem.Blk W Y #[.slice a2 O.length c2] 43∧zc5.okA W a2 c2 O∧Mem.za2 W a2 O):=⟨(za QZ).1,(za QZ).2.1,(za QZ).2.2.1,(za QZ).2.2.2.1⟩;clear QZ eO;have c9:=(za QY).2.1.cell 0;simp only [kA0,kA1] at c9;go_wp2_with fail
   refine (za HDO a2 c2 _ (za QY).1.bel (za QY).2.2.1 (za QY).2.2.2).mono ?_;rintro e wX ⟨⟨v3,Js,rfl,io,hJs⟩,bx⟩;obtain ⟨a3,c3,rfl⟩:=Mem.za4 io.row;have QG:=hide ((za QY).1.call bx);have hsz:=(za QY).1.bel.size;have hszo:=(za QY).1.out.lt;have IO:=hide io;have HJ:=hide hJs;clear HDO io hJs bx QY c9;have d0:=(za QG).out.cell 0;have d1:=(za QG).out.cell 1;have f0:=(za QG).out.fr 0;have f1:=(za QG).out.fr 1;simp only [kGs] at d0 d1;go_wp2
   refine bodyPost_ret (v:= .agg #[.slice a3 Js.length c3, .int .i64 cd]) (by simp [results,Tryz.results19,go_sem,d0,d1]) rfl ⟨⟨_,Js,by rw [za HN2],(((za IO).set _ _ (by show w.heap.size<_;omega)).set _ _ (by show w.heap.size<_;omega)).mono hsz,by rw [za HN2];exact za HJ⟩,?_⟩;exact ((za QG).bel.setCell (Nat.le_refl _) _).setCell (Nat.le_refl _) _
end zi6
end Go.Proofs.YthdhhcgopfgcbaaGreatDoor
