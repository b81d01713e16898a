import Derived.Test.YthdhhcgopfgcbaaGreatDoorG33
namespace Go.Proofs.YthdhhcgopfgcbaaGreatDoor
open Go.RowKit
namespace zi6
theorem time7 {W:World} {g o k:Nat} {S:List Pl.Nd} {m:Pl.Nd} (h:Mem.za2 W (some ⟨g,o,none⟩) S) (hk:S[k]? =some m):W.cell? ⟨g,o+k*5+3,none⟩=some (.int .i64 m.time):=by
 obtain ⟨g',o',e,_,_,_,_,h3,_⟩:=h k m hk
 injection e with e;injection e with e1 e2
 subst e1 e2;exact h3
set_option linter.unusedSimpArgs false in
set_option maxRecDepth 100000 in
set_option maxHeartbeats 3000000 in
theorem above_any (a0:Option Addr) (cap0:Nat) (L0 S:List Pl.Nd) (gs os cs:Nat) (p:ByteArray) (N:List ByteArray) (w:World) (hN:Pl.names p=N) (hnm:∀t∈N,Pl.ze t=true) (h1:1≤N.length) (h6:N.length≤6) (hps:p.size≤1048576) (hsz:∀j:Nat,(Pl.glue (N.take j)).size≤8000)
  (hok:zc5.okA w a0 cap0 L0) (hv:Mem.za2 w a0 L0) (hL0:L0.length≤100) (hs0:∀m∈L0,m.path.size≤8000) (hsn:Mem.za2 w (some ⟨gs,os,none⟩) S) (hgs:gs<w.heap.size) (hSl:S.length≤1000) (hall:∀q∈Pl.ways N (N.length - 1),∃d,Pl.lk S q=some d):
  Calls Tryz.prog 35 #[.agg #[.slice a0 L0.length cap0], .agg #[.slice (some ⟨gs,os,none⟩) S.length cs], .string p] w fun e w'=>∃a' cap',e= .returned (.agg #[.slice a' (Pl.abvN S L0 (Pl.ways N (N.length - 1))).length cap'])∧zc5.okA w' a' cap' (Pl.abvN S L0 (Pl.ways N (N.length - 1)))∧Mem.za2 w' a' (Pl.abvN S L0 (Pl.ways N (N.length - 1)))∧Below w.heap.size w w':=by
 generalize hR:Pl.abvN S L0 (Pl.ways N (N.length - 1))=R;have HR:=hide hR;have HNA:=hide (fun W=>zg9.zs1 p W hps);rw [hN] at HNA;have HNM:=hide hnm;have HSZ:=hide hsz;have HAL:=hide hall
 have hfar:∀g o,a0=some ⟨g,o,none⟩→g<w.heap.size∨w.heap.size+3≤g:=by
  rintro g o rfl
  rcases hok with ⟨h,_⟩|⟨g',o',h,h2,_⟩
  ·cases h
  ·injection h with h;injection h with e1;subst e1;exact .inl h2
 have bA:Below w.heap.size w (((w.alloc (.cells #[.slice a0 L0.length cap0] 43)).alloc (.cells #[.slice (some ⟨gs,os,none⟩) S.length cs] 43)).alloc (.cells #[.slice none 0 0] 43)):=(((Below.refl _ _).alloc (Nat.le_refl _) _).alloc (by simp) _).alloc (by simp;omega) _
 have A0:Hid (∀ (W:World) vl,Below (((w.alloc (.cells #[.slice a0 L0.length cap0] 43)).alloc (.cells #[.slice (some ⟨gs,os,none⟩) S.length cs] 43)).alloc (.cells #[.slice none 0 0] 43)).heap.size (((w.alloc (.cells #[.slice a0 L0.length cap0] 43)).alloc (.cells #[.slice (some ⟨gs,os,none⟩) S.length cs] 43)).alloc (.cells #[.slice none 0 0] 43)) W→W.ownsRow (w.heap.size+3) 9 1 vl N.length (N.map Value.string)→Ab w W gs os cs S N vl a0 cap0 L0):=fun W vl b t=>
  have bW:=bA.trans (b.mono bA.size)
  ⟨bW,(((Mem.Blk.new w _ _).alloc _).alloc _).call b,(by have h:=((Mem.Blk.new (w.alloc (.cells #[.slice a0 L0.length cap0] 43)) #[.slice (some ⟨gs,os,none⟩) S.length cs] 43).alloc (.cells #[.slice none 0 0] 43)).call b;simpa using h),(by have h:=(Mem.Blk.new ((w.alloc (.cells #[.slice a0 L0.length cap0] 43)).alloc (.cells #[.slice (some ⟨gs,os,none⟩) S.length cs] 43)) #[.slice none 0 0] 43).call b;simpa using h),zc5.zk8 hok bW.size,Mem.za0 hv bW,Mem.za0 hsn bW,hfar,hgs,t,hs0⟩
 clear hv hsn hok hfar hall hnm hsz hR bA;go_enter Tryz.func35,Tryz.ntmps35
 go_wp2_with fail
 refine (za HNA _).mono ?_;rintro e w1 ⟨vl,rfl,hown,b1⟩;have Q0:=hide (za A0 w1 vl b1 (by simpa using hown));clear A0 HNA b1 hown
 obtain ⟨gl,cl,rfl⟩:∃g cap,vl= .slice (some ⟨g,0,none⟩) N.length cap:=by
  rcases (za Q0).txt.2 with ⟨_,h0⟩|⟨g,cap,cur,hv, -⟩
  ·omega
  ·exact ⟨g,cap,hv⟩
 go_wp2
 go_loopw [8,9] (fun st i wr=>∃j:Nat,j+1≤N.length∧i= .int .i64 (j:Int)∧st= .string (Pl.glue (N.take j))∧Hid (∃a cap L,Ab w wr gs os cs S N (.slice (some ⟨gl,0,none⟩) N.length cl) a cap L∧L.length≤100+j∧Pl.abvN S L ((Pl.ways N (N.length - 1)).drop j)=R)) (fun _ i _=>N.length - (intOf i).toNat)
 case atStart=>exact ⟨0,h1,rfl,by simp [Pl.glue,Pl.zh7],_,_,_,za Q0,by omega,za HR⟩
 case round=>
  obtain ⟨j,hj,rfl,rfl,HA⟩:=hrel;clear Q0 HR;obtain ⟨a,cap,L,hQ,hLl,hE⟩:=za HA;have QA:=hide hQ;have HE:=hide hE;clear hE HA;have hwl:IntKind.i64.wrap ((N.length:Int) - 1)=(N.length:Int) - 1:=by simp only [IntKind.wrap_i64];omega
  by_cases hlt:j+1<N.length
  ·obtain ⟨t,ht⟩:∃t,N[j]? =some t:=⟨_,List.getElem?_eq_getElem (by omega)⟩;have htn:=za HNM t (List.mem_of_getElem? ht);have htz:t.size≤20:=Nat.le_of_not_lt fun h=>by rw [Pl.zz1 h] at htn;cases htn
   have cL:=hQ.txt.cells (g:=gl) rfl j (.string t) (by simp [ht]);rw [Mem.add_lit] at cL;have HJ:=hide (zg9.join1_any (Pl.glue (N.take j)) t wr (by have :=za HSZ j;omega) (by omega));rw [Pl.wayK_join (za HNM) ht] at HJ;obtain ⟨nq,hqn⟩:=za HAL _ (List.mem_of_getElem? (Pl.wayK_get (L:=N) (k:=N.length - 1) (j:=j) (by omega)));have hq8:=za HSZ (j+1);have hE2:Pl.abvN S (Pl.zx6 S L (Pl.glue (N.take (j+1)))) ((Pl.ways N (N.length - 1)).drop (j+1))=R:=by have h:=za HE;rw [Pl.wayK_drop (by omega)] at h;exact h
   have HE2:=hide hE2;have y1:(j:Int)<(N.length:Int) - 1:=by omega
   have y2:(0:Int)≤(j:Int):=by omega
   have y3:(j:Int)<(N.length:Int):=by omega
   clear hQ HE hE2;go_wp2_with fail
   refine (za HJ).mono ?_;rintro e wJ ⟨rfl,hwJ⟩;subst wJ;clear HJ cL;generalize hq:Pl.glue (N.take (j+1))=q at hqn HE2 hq8 ⊢;have HAT:=hide (zl8.zt2 a cap L q wr (by omega) (za QA).nds);have hm0:=(za QA).blk.cell 0;simp only [kA0,kA1] at hm0;go_wp2_with fail
   refine (za HAT).mono ?_;rintro e w2 ⟨⟨r,rfl,hr⟩,b2⟩;have QB:=hide ((za QA).call b2);have hsz2:=(za QA).size;clear HAT hm0;have HSA:=hide (fun W (Q:Ab w W gs os cs S N (.slice (some ⟨gl,0,none⟩) N.length cl) a cap L)=>zl8.zt2 (some ⟨gs,os,none⟩) cs S q W (by omega) Q.sns);have HDI:=hide (fun W (Q:Ab w W gs os cs S N (.slice (some ⟨gl,0,none⟩) N.length cl) a cap L)=>dir_any a cap L q nq.time W (by omega) Q.nds);have HPU:=hide (fun W (Q:Ab w W gs os cs S N (.slice (some ⟨gl,0,none⟩) N.length cl) a cap L)=>zc5.put_gen a cap L (Pl.dirN L q nq.time) W (by omega) Q.okA Q.nds Q.sml (by show q.size≤8000;exact hq8));have MK:Hid (∀W',Ab w W' gs os cs S N (.slice (some ⟨gl,0,none⟩) N.length cl) a cap L→(fun W'=>W'.cell? ⟨w.heap.size+1,0,none⟩=some (.slice (some ⟨gs,os,none⟩) S.length cs)∧Mem.za2 W' (some ⟨gs,os,none⟩) S) W'):=fun W' h=>⟨by have h':=h.sig.cell 0;simpa using h',h.sns⟩
   have ENDP:Hid (∀ {W:World} {a':Option Addr} {cap':Nat},Pl.zx6 S L q=Pl.putL L (Pl.dirN L q nq.time)→Ab w W gs os cs S N (.slice (some ⟨gl,0,none⟩) N.length cl) a' cap' (Pl.putL L (Pl.dirN L q nq.time))→Hid (∃a cap L,Ab w W gs os cs S N (.slice (some ⟨gl,0,none⟩) N.length cl) a cap L∧L.length≤100+(j+1)∧Pl.abvN S L ((Pl.ways N (N.length - 1)).drop (j+1))=R)):=fun e Q=>⟨_,_,_,Q,by have :=Pl.ye0 L (Pl.dirN L q nq.time);omega,by rw [←e];exact za HE2⟩;by_cases hkeep:∃m0,Pl.lk L q=some m0∧m0.kind≠0
   ·obtain ⟨m0,hf0,hkd⟩:=hkeep
    obtain ⟨k0,rfl,hk0⟩:∃k0:Nat,r=(k0:Int)∧L[k0]? =some m0:=by
     rcases hr.out with ⟨k0,m1,e,hk0,hf1⟩|⟨-,hf1⟩
     ·rw [show Pl.lk L q=some m1 from hf1] at hf0;cases hf0
      exact ⟨k0,e,hk0⟩
     ·rw [show Pl.lk L q=none from hf1] at hf0;cases hf0
    have hk0l:k0<L.length:=(List.getElem?_eq_some_iff.1 hk0).1;obtain ⟨g0,o0,ea,_,_,d1,_⟩:=(za QB).nds k0 m0 hk0;have hix0:0≤(k0:Int)∧(k0:Int)<(L.length:Int):=by omega
    have hge0:¬ (k0:Int)<0:=by omega
    have c9:=(za QB).blk.cell 0;simp only [kA0,kA1] at c9;subst ea;have hkb:(m0.kind==0)=false:=by simpa using hkd
    have HST:=hide (Pl.stepA_keep (S:=S) (L:=L) (q:=q) hf0 hkd);clear QA hr HSA HDI HPU MK ENDP;go_wp2_with fail
    exact ⟨⟨j+1,by omega,by simp,by rw [hq],hide (by have h:=za HE2;rw [za HST] at h;exact ⟨_,_,_,za QB,by omega,h⟩)⟩,by simp [intOf];omega⟩
   ·have HST:=hide (Pl.stepA_put (S:=S) (L:=L) (q:=q) (by
     cases hf:Pl.lk L q with
     |none=>exact .inl rfl
     |some m0=>exact .inr ⟨m0,rfl,Classical.byContradiction fun h=>hkeep ⟨m0,hf,h⟩⟩) hqn)
    have HKP:=hide hkeep;clear QA hkeep;go_upto_region 8 with fail
    refine yf3 (R:=fun Tf T' W=>∃ (u29 u30 u31 u32 u33 u34 u35 u36 u37 u38:Value),T'=(((((((((((Tf.setIfInBounds 29 u29).setIfInBounds 30 u30).setIfInBounds 31 u31).setIfInBounds 32 u32).setIfInBounds 33 u33).setIfInBounds 34 u34).setIfInBounds 35 u35).setIfInBounds 36 u36).setIfInBounds 37 u37).setIfInBounds 38 u38).setIfInBounds 39 (.bool true))∧W=w2) ?_ ?_
    ·rcases hr.out with ⟨k0,m0,rfl,hk0,hf0⟩|⟨rfl,hf0⟩
     ·have hk0l:k0<L.length:=(List.getElem?_eq_some_iff.1 hk0).1;obtain ⟨g0,o0,ea,_,_,d1,_⟩:=(za QB).nds k0 m0 hk0;have hix0:0≤(k0:Int)∧(k0:Int)<(L.length:Int):=by omega
      have hge0:¬ (k0:Int)<0:=by omega
      have c9:=(za QB).blk.cell 0;simp only [kA0,kA1] at c9;subst ea;have hkd:m0.kind=0:=Classical.byContradiction fun h=>za HKP ⟨m0,hf0,h⟩;rw [hkd] at d1;clear hr HSA HDI HPU MK ENDP hkd;go_wp2_with fail
     ·clear hr HSA HDI HPU MK ENDP;go_wp2_with fail
    rintro T' W ⟨u29,u30,u31,u32,u33,u34,u35,u36,u37,u38,hT',hW'⟩;simp only [kB3,kB4,kB5] at hT';rw [hT',hW'];clear hr HKP hT' hW';go_upto_region 9 with fail
    have QD:=hide (za QB).drew;refine wp_region_held_drew (S:=fun W'=>W'.cell? ⟨w.heap.size+1,0,none⟩=some (.slice (some ⟨gs,os,none⟩) S.length cs)∧Mem.za2 W' (some ⟨gs,os,none⟩) S) (by kernel_rfl) ?_ (fun hHeld=>?_)
    ·exact za MK _ (za QD)
    generalize w2.drew=WD at hHeld QD ⊢;clear QB;refine TB 2 ?_;refine TB 3 ?_;refine TB 4 ?_;refine TB 5 ?_;refine TB 6 ?_;refine wpAnyH_ready (rs:=[0,1,7]) (by kernel_rfl) (by simp) ?_;refine AllReadyH.cons rfl (fun K hK=>?_) (AllReadyH.cons rfl (fun K hK=>?_) (AllReadyH.cons rfl (fun K hK=>?_) AllReadyH.nil))
    ·have c0:=(za QD).blk.cell 0;have f0:=(za QD).blk.fr 0;simp only [kA0,kA1] at c0;go_simp
     refine hK.out _ _ ?_ (fun hHeld2=>?_)
     ·assumption
     clear hK K c0 f0 hHeld;have hHeld:=hHeld2;clear hHeld2
     try simp only [Act.put,kBs]
     refine wpAnyH_ready (rs:=[1,7]) (by kernel_rfl) (by simp) ?_;refine AllReadyH.cons rfl (fun K hK=>?_) (AllReadyH.cons rfl (fun K hK=>?_) AllReadyH.nil)
     ·have c0:=(za QD).blk.cell 0;have f0:=(za QD).blk.fr 0;simp only [kA0,kA1] at c0;go_simp
      refine hK.out _ _ ?_ (fun hHeld2=>?_)
      ·assumption
      clear hK K c0 f0 hHeld;have hHeld:=hHeld2;clear hHeld2
      try simp only [Act.put,kBs]
      refine RN 7 fun K hK=>?_;go_simp
      refine (za HSA _ (za QD)).mono ?_;rintro e wX ⟨⟨r,rfl,hr⟩,b3⟩;refine hK.out _ _ ?_ (fun hHeld2=>?_)
      ·exact za MK _ ((za QD).call b3)
      clear hK K hHeld;have hHeld:=hHeld2;clear hHeld2
      try simp only [Act.put,kBs]
      obtain ⟨k,m,rfl,hk,hf⟩:∃ (k:Nat) (m:Pl.Nd),r=(k:Int)∧S[k]? =some m∧Pl.lk S q=some m:=by
       rcases hr.out with h|⟨-,h⟩
       ·exact h
       ·rw [show Pl.lk S q=none from h] at hqn;cases hqn
      obtain rfl:m=nq:=by rw [hqn] at hf;exact ((Option.some.inj hf)).symm
      have hkl:k<S.length:=(List.getElem?_eq_some_iff.1 hk).1;have hix:0≤(k:Int)∧(k:Int)<(S.length:Int):=by omega
      have hge2:(0:Int)≤(k:Int):=by omega
      have QE:=hide ((za QD).call b3);clear hr b3 HSA hf QD;refine TB 8 ?_;refine TB 9 ?_;refine wpAnyH_take (i:=10) (v:=?_) rfl (by kernel_rfl) (by kernel_rfl) (by kernel_rfl) (fun _ _ _ h=>h) (Or.inl ⟨by rfl,?_⟩) (by assumption) ?_;rotate_left
      ·(intro w hSw;have q3:=time7 hSw.2 hk;(try dsimp only at hSw);go_simp;(try with_reducible rfl))
      try simp only [Act.put,kBs]
      refine RN 11 fun K hK=>?_;go_simp
      refine (za HDI _ (za QE)).mono ?_;rintro e wX ⟨rfl,b4⟩;refine hK.out _ _ ?_ (fun hHeld2=>?_)
      ·exact za MK _ ((za QE).call b4)
      clear hK K hHeld;have hHeld:=hHeld2;have QF:=hide ((za QE).call b4);clear hHeld2 HDI b4 QE
      try simp only [Act.put,kBs]
      refine RN 12 fun K hK=>?_;go_simp
      refine (za HPU _ (za QF)).mono ?_;rintro e wX ⟨v,rfl,own,b5⟩;obtain ⟨a',cap',rfl⟩:=Mem.za4 own;have hsF:=(za QF).size;refine hK.out _ _ ?_ (fun hHeld2=>?_)
      ·exact za MK _ ((za QF).call b5)
      clear hK K hHeld;have hHeld:=hHeld2;have QG:=hide ((za QF).call b5);clear hHeld2 HPU b5 QF
      try simp only [Act.put,kBs]
      refine RN 13 fun K hK=>?_;have c0:=(za QG).blk.cell 0;have f0:=(za QG).blk.fr 0;simp only [kA0,kA1] at c0;go_simp
      have QH:=hide ((za QG).put (L':=Pl.putL L (Pl.dirN L q m.time)) own hsF (fun x hx=>by
       rcases Pl.put_mem hx with rfl |h
       ·exact hq8
       ·exact (za QG).sml x h))
      refine hK.out _ _ ?_ (fun hHeld2=>?_)
      ·exact ⟨by have h':=(za QH).sig.cell 0;simpa using h',(za QH).sns⟩
      clear hK K hHeld hHeld2 QG own c0 f0 MK;refine wpAnyH_done (by kernel_rfl) ?_ _;go_wp2
      exact ⟨⟨j+1,by omega,by simp,by rw [hq],za ENDP (za HST) (za QH)⟩,by simp [intOf];omega⟩
     ·go_simp
      refine (za HSA _ (za QD)).mono ?_;rintro e wX ⟨⟨r,rfl,hr⟩,b3⟩;refine hK.out _ _ ?_ (fun hHeld2=>?_)
      ·exact za MK _ ((za QD).call b3)
      clear hK K hHeld;have hHeld:=hHeld2;clear hHeld2
      try simp only [Act.put,kBs]
      obtain ⟨k,m,rfl,hk,hf⟩:∃ (k:Nat) (m:Pl.Nd),r=(k:Int)∧S[k]? =some m∧Pl.lk S q=some m:=by
       rcases hr.out with h|⟨-,h⟩
       ·exact h
       ·rw [show Pl.lk S q=none from h] at hqn;cases hqn
      obtain rfl:m=nq:=by rw [hqn] at hf;exact ((Option.some.inj hf)).symm
      have hkl:k<S.length:=(List.getElem?_eq_some_iff.1 hk).1;have hix:0≤(k:Int)∧(k:Int)<(S.length:Int):=by omega
      have hge2:(0:Int)≤(k:Int):=by omega
      have QE:=hide ((za QD).call b3);clear hr b3 HSA hf QD;refine TB 8 ?_;refine TB 9 ?_;refine wpAnyH_take (i:=10) (v:=?_) rfl (by kernel_rfl) (by kernel_rfl) (by kernel_rfl) (fun _ _ _ h=>h) (Or.inl ⟨by rfl,?_⟩) (by assumption) ?_;rotate_left
      ·(intro w hSw;have q3:=time7 hSw.2 hk;(try dsimp only at hSw);go_simp;(try with_reducible rfl))
      try simp only [Act.put,kBs]
      refine RN 1 fun K hK=>?_;have c0:=(za QE).blk.cell 0;have f0:=(za QE).blk.fr 0;simp only [kA0,kA1] at c0;go_simp
      refine hK.out _ _ ?_ (fun hHeld2=>?_)
      ·assumption
      clear hK K c0 f0 hHeld;have hHeld:=hHeld2;clear hHeld2
      try simp only [Act.put,kBs]
      refine RN 11 fun K hK=>?_;go_simp
      refine (za HDI _ (za QE)).mono ?_;rintro e wX ⟨rfl,b4⟩;refine hK.out _ _ ?_ (fun hHeld2=>?_)
      ·exact za MK _ ((za QE).call b4)
      clear hK K hHeld;have hHeld:=hHeld2;have QF:=hide ((za QE).call b4);clear hHeld2 HDI b4 QE
      try simp only [Act.put,kBs]
      refine RN 12 fun K hK=>?_;go_simp
      refine (za HPU _ (za QF)).mono ?_;rintro e wX ⟨v,rfl,own,b5⟩;obtain ⟨a',cap',rfl⟩:=Mem.za4 own;have hsF:=(za QF).size;refine hK.out _ _ ?_ (fun hHeld2=>?_)
      ·exact za MK _ ((za QF).call b5)
      clear hK K hHeld;have hHeld:=hHeld2;have QG:=hide ((za QF).call b5);clear hHeld2 HPU b5 QF
      try simp only [Act.put,kBs]
      refine RN 13 fun K hK=>?_;have c0:=(za QG).blk.cell 0;have f0:=(za QG).blk.fr 0;simp only [kA0,kA1] at c0;go_simp
      have QH:=hide ((za QG).put (L':=Pl.putL L (Pl.dirN L q m.time)) own hsF (fun x hx=>by
       rcases Pl.put_mem hx with rfl |h
       ·exact hq8
       ·exact (za QG).sml x h))
      refine hK.out _ _ ?_ (fun hHeld2=>?_)
      ·exact ⟨by have h':=(za QH).sig.cell 0;simpa using h',(za QH).sns⟩
      clear hK K hHeld hHeld2 QG own c0 f0 MK;refine wpAnyH_done (by kernel_rfl) ?_ _;go_wp2
      exact ⟨⟨j+1,by omega,by simp,by rw [hq],za ENDP (za HST) (za QH)⟩,by simp [intOf];omega⟩
    ·have c0:=(za QD).blk.cell 0;have f0:=(za QD).blk.fr 0;simp only [kA0,kA1] at c0;go_simp
     refine hK.out _ _ ?_ (fun hHeld2=>?_)
     ·assumption
     clear hK K c0 f0 hHeld;have hHeld:=hHeld2;clear hHeld2
     try simp only [Act.put,kBs]
     refine wpAnyH_ready (rs:=[0,7]) (by kernel_rfl) (by simp) ?_;refine AllReadyH.cons rfl (fun K hK=>?_) (AllReadyH.cons rfl (fun K hK=>?_) AllReadyH.nil)
     ·have c0:=(za QD).blk.cell 0;have f0:=(za QD).blk.fr 0;simp only [kA0,kA1] at c0;go_simp
      refine hK.out _ _ ?_ (fun hHeld2=>?_)
      ·assumption
      clear hK K c0 f0 hHeld;have hHeld:=hHeld2;clear hHeld2
      try simp only [Act.put,kBs]
      refine RN 7 fun K hK=>?_;go_simp
      refine (za HSA _ (za QD)).mono ?_;rintro e wX ⟨⟨r,rfl,hr⟩,b3⟩;refine hK.out _ _ ?_ (fun hHeld2=>?_)
      ·exact za MK _ ((za QD).call b3)
      clear hK K hHeld;have hHeld:=hHeld2;clear hHeld2
      try simp only [Act.put,kBs]
      obtain ⟨k,m,rfl,hk,hf⟩:∃ (k:Nat) (m:Pl.Nd),r=(k:Int)∧S[k]? =some m∧Pl.lk S q=some m:=by
       rcases hr.out with h|⟨-,h⟩
       ·exact h
       ·rw [show Pl.lk S q=none from h] at hqn;cases hqn
      obtain rfl:m=nq:=by rw [hqn] at hf;exact ((Option.some.inj hf)).symm
      have hkl:k<S.length:=(List.getElem?_eq_some_iff.1 hk).1;have hix:0≤(k:Int)∧(k:Int)<(S.length:Int):=by omega
      have hge2:(0:Int)≤(k:Int):=by omega
      have QE:=hide ((za QD).call b3);clear hr b3 HSA hf QD;refine TB 8 ?_;refine TB 9 ?_;refine wpAnyH_take (i:=10) (v:=?_) rfl (by kernel_rfl) (by kernel_rfl) (by kernel_rfl) (fun _ _ _ h=>h) (Or.inl ⟨by rfl,?_⟩) (by assumption) ?_;rotate_left
      ·(intro w hSw;have q3:=time7 hSw.2 hk;(try dsimp only at hSw);go_simp;(try with_reducible rfl))
      try simp only [Act.put,kBs]
      refine RN 11 fun K hK=>?_;go_simp
      refine (za HDI _ (za QE)).mono ?_;rintro e wX ⟨rfl,b4⟩;refine hK.out _ _ ?_ (fun hHeld2=>?_)
      ·exact za MK _ ((za QE).call b4)
      clear hK K hHeld;have hHeld:=hHeld2;have QF:=hide ((za QE).call b4);clear hHeld2 HDI b4 QE
      try simp only [Act.put,kBs]
      refine RN 12 fun K hK=>?_;go_simp
      refine (za HPU _ (za QF)).mono ?_;rintro e wX ⟨v,rfl,own,b5⟩;obtain ⟨a',cap',rfl⟩:=Mem.za4 own;have hsF:=(za QF).size;refine hK.out _ _ ?_ (fun hHeld2=>?_)
      ·exact za MK _ ((za QF).call b5)
      clear hK K hHeld;have hHeld:=hHeld2;have QG:=hide ((za QF).call b5);clear hHeld2 HPU b5 QF
      try simp only [Act.put,kBs]
      refine RN 13 fun K hK=>?_;have c0:=(za QG).blk.cell 0;have f0:=(za QG).blk.fr 0;simp only [kA0,kA1] at c0;go_simp
      have QH:=hide ((za QG).put (L':=Pl.putL L (Pl.dirN L q m.time)) own hsF (fun x hx=>by
       rcases Pl.put_mem hx with rfl |h
       ·exact hq8
       ·exact (za QG).sml x h))
      refine hK.out _ _ ?_ (fun hHeld2=>?_)
      ·exact ⟨by have h':=(za QH).sig.cell 0;simpa using h',(za QH).sns⟩
      clear hK K hHeld hHeld2 QG own c0 f0 MK;refine wpAnyH_done (by kernel_rfl) ?_ _;go_wp2
      exact ⟨⟨j+1,by omega,by simp,by rw [hq],za ENDP (za HST) (za QH)⟩,by simp [intOf];omega⟩
     ·go_simp
      refine (za HSA _ (za QD)).mono ?_;rintro e wX ⟨⟨r,rfl,hr⟩,b3⟩;refine hK.out _ _ ?_ (fun hHeld2=>?_)
      ·exact za MK _ ((za QD).call b3)
      clear hK K hHeld;have hHeld:=hHeld2;clear hHeld2
      try simp only [Act.put,kBs]
      obtain ⟨k,m,rfl,hk,hf⟩:∃ (k:Nat) (m:Pl.Nd),r=(k:Int)∧S[k]? =some m∧Pl.lk S q=some m:=by
       rcases hr.out with h|⟨-,h⟩
       ·exact h
       ·rw [show Pl.lk S q=none from h] at hqn;cases hqn
      obtain rfl:m=nq:=by rw [hqn] at hf;exact ((Option.some.inj hf)).symm
      have hkl:k<S.length:=(List.getElem?_eq_some_iff.1 hk).1;have hix:0≤(k:Int)∧(k:Int)<(S.length:Int):=by omega
      have hge2:(0:Int)≤(k:Int):=by omega
      have QE:=hide ((za QD).call b3);clear hr b3 HSA hf QD;refine TB 8 ?_;refine TB 9 ?_;refine wpAnyH_take (i:=10) (v:=?_) rfl (by kernel_rfl) (by kernel_rfl) (by kernel_rfl) (fun _ _ _ h=>h) (Or.inl ⟨by rfl,?_⟩) (by assumption) ?_;rotate_left
      ·(intro w hSw;have q3:=time7 hSw.2 hk;(try dsimp only at hSw);go_simp;(try with_reducible rfl))
      try simp only [Act.put,kBs]
      refine wpAnyH_ready (rs:=[0,11]) (by kernel_rfl) (by simp) ?_;refine AllReadyH.cons rfl (fun K hK=>?_) (AllReadyH.cons rfl (fun K hK=>?_) AllReadyH.nil)
      ·have c0:=(za QE).blk.cell 0;have f0:=(za QE).blk.fr 0;simp only [kA0,kA1] at c0;go_simp
       refine hK.out _ _ ?_ (fun hHeld2=>?_)
       ·assumption
       clear hK K c0 f0 hHeld;have hHeld:=hHeld2;clear hHeld2
       try simp only [Act.put,kBs]
       refine RN 11 fun K hK=>?_;go_simp
       refine (za HDI _ (za QE)).mono ?_;rintro e wX ⟨rfl,b4⟩;refine hK.out _ _ ?_ (fun hHeld2=>?_)
       ·exact za MK _ ((za QE).call b4)
       clear hK K hHeld;have hHeld:=hHeld2;have QF:=hide ((za QE).call b4);clear hHeld2 HDI b4 QE
       try simp only [Act.put,kBs]
       refine RN 12 fun K hK=>?_;go_simp
       refine (za HPU _ (za QF)).mono ?_;rintro e wX ⟨v,rfl,own,b5⟩;obtain ⟨a',cap',rfl⟩:=Mem.za4 own;have hsF:=(za QF).size;refine hK.out _ _ ?_ (fun hHeld2=>?_)
       ·exact za MK _ ((za QF).call b5)
       clear hK K hHeld;have hHeld:=hHeld2;have QG:=hide ((za QF).call b5);clear hHeld2 HPU b5 QF
       try simp only [Act.put,kBs]
       refine RN 13 fun K hK=>?_;have c0:=(za QG).blk.cell 0;have f0:=(za QG).blk.fr 0;simp only [kA0,kA1] at c0;go_simp
       have QH:=hide ((za QG).put (L':=Pl.putL L (Pl.dirN L q m.time)) own hsF (fun x hx=>by
        rcases Pl.put_mem hx with rfl |h
        ·exact hq8
        ·exact (za QG).sml x h))
       refine hK.out _ _ ?_ (fun hHeld2=>?_)
       ·exact ⟨by have h':=(za QH).sig.cell 0;simpa using h',(za QH).sns⟩
       clear hK K hHeld hHeld2 QG own c0 f0 MK;refine wpAnyH_done (by kernel_rfl) ?_ _;go_wp2
       exact ⟨⟨j+1,by omega,by simp,by rw [hq],za ENDP (za HST) (za QH)⟩,by simp [intOf];omega⟩
      ·go_simp
       refine (za HDI _ (za QE)).mono ?_;rintro e wX ⟨rfl,b4⟩;refine hK.out _ _ ?_ (fun hHeld2=>?_)
       ·exact za MK _ ((za QE).call b4)
       clear hK K hHeld;have hHeld:=hHeld2;have QF:=hide ((za QE).call b4);clear hHeld2 HDI b4 QE
       try simp only [Act.put,kBs]
       refine RN 0 fun K hK=>?_;have c0:=(za QF).blk.cell 0;have f0:=(za QF).blk.fr 0;simp only [kA0,kA1] at c0;go_simp
       refine hK.out _ _ ?_ (fun hHeld2=>?_)
       ·assumption
       clear hK K c0 f0 hHeld;have hHeld:=hHeld2;clear hHeld2
       try simp only [Act.put,kBs]
       refine RN 12 fun K hK=>?_;go_simp
       refine (za HPU _ (za QF)).mono ?_;rintro e wX ⟨v,rfl,own,b5⟩;obtain ⟨a',cap',rfl⟩:=Mem.za4 own;have hsF:=(za QF).size;refine hK.out _ _ ?_ (fun hHeld2=>?_)
       ·exact za MK _ ((za QF).call b5)
       clear hK K hHeld;have hHeld:=hHeld2;have QG:=hide ((za QF).call b5);clear hHeld2 HPU b5 QF
       try simp only [Act.put,kBs]
       refine RN 13 fun K hK=>?_;have c0:=(za QG).blk.cell 0;have f0:=(za QG).blk.fr 0;simp only [kA0,kA1] at c0;go_simp
       have QH:=hide ((za QG).put (L':=Pl.putL L (Pl.dirN L q m.time)) own hsF (fun x hx=>by
        rcases Pl.put_mem hx with rfl |h
        ·exact hq8
        ·exact (za QG).sml x h))
       refine hK.out _ _ ?_ (fun hHeld2=>?_)
       ·exact ⟨by have h':=(za QH).sig.cell 0;simpa using h',(za QH).sns⟩
       clear hK K hHeld hHeld2 QG own c0 f0 MK;refine wpAnyH_done (by kernel_rfl) ?_ _;go_wp2
       exact ⟨⟨j+1,by omega,by simp,by rw [hq],za ENDP (za HST) (za QH)⟩,by simp [intOf];omega⟩
    ·go_simp
     refine (za HSA _ (za QD)).mono ?_;rintro e wX ⟨⟨r,rfl,hr⟩,b3⟩;refine hK.out _ _ ?_ (fun hHeld2=>?_)
     ·exact za MK _ ((za QD).call b3)
     clear hK K hHeld;have hHeld:=hHeld2;clear hHeld2
     try simp only [Act.put,kBs]
     obtain ⟨k,m,rfl,hk,hf⟩:∃ (k:Nat) (m:Pl.Nd),r=(k:Int)∧S[k]? =some m∧Pl.lk S q=some m:=by
      rcases hr.out with h|⟨-,h⟩
      ·exact h
      ·rw [show Pl.lk S q=none from h] at hqn;cases hqn
     obtain rfl:m=nq:=by rw [hqn] at hf;exact ((Option.some.inj hf)).symm
     have hkl:k<S.length:=(List.getElem?_eq_some_iff.1 hk).1;have hix:0≤(k:Int)∧(k:Int)<(S.length:Int):=by omega
     have hge2:(0:Int)≤(k:Int):=by omega
     have QE:=hide ((za QD).call b3);clear hr b3 HSA hf QD;refine TB 8 ?_;refine TB 9 ?_;refine wpAnyH_take (i:=10) (v:=?_) rfl (by kernel_rfl) (by kernel_rfl) (by kernel_rfl) (fun _ _ _ h=>h) (Or.inl ⟨by rfl,?_⟩) (by assumption) ?_;rotate_left
     ·(intro w hSw;have q3:=time7 hSw.2 hk;(try dsimp only at hSw);go_simp;(try with_reducible rfl))
     try simp only [Act.put,kBs]
     refine wpAnyH_ready (rs:=[0,1]) (by kernel_rfl) (by simp) ?_;refine AllReadyH.cons rfl (fun K hK=>?_) (AllReadyH.cons rfl (fun K hK=>?_) AllReadyH.nil)
     ·have c0:=(za QE).blk.cell 0;have f0:=(za QE).blk.fr 0;simp only [kA0,kA1] at c0;go_simp
      refine hK.out _ _ ?_ (fun hHeld2=>?_)
      ·assumption
      clear hK K c0 f0 hHeld;have hHeld:=hHeld2;clear hHeld2
      try simp only [Act.put,kBs]
      refine RN 1 fun K hK=>?_;have c0:=(za QE).blk.cell 0;have f0:=(za QE).blk.fr 0;simp only [kA0,kA1] at c0;go_simp
      refine hK.out _ _ ?_ (fun hHeld2=>?_)
      ·assumption
      clear hK K c0 f0 hHeld;have hHeld:=hHeld2;clear hHeld2
      try simp only [Act.put,kBs]
      refine RN 11 fun K hK=>?_;go_simp
      refine (za HDI _ (za QE)).mono ?_;rintro e wX ⟨rfl,b4⟩;refine hK.out _ _ ?_ (fun hHeld2=>?_)
      ·exact za MK _ ((za QE).call b4)
      clear hK K hHeld;have hHeld:=hHeld2;have QF:=hide ((za QE).call b4);clear hHeld2 HDI b4 QE
      try simp only [Act.put,kBs]
      refine RN 12 fun K hK=>?_;go_simp
      refine (za HPU _ (za QF)).mono ?_;rintro e wX ⟨v,rfl,own,b5⟩;obtain ⟨a',cap',rfl⟩:=Mem.za4 own;have hsF:=(za QF).size;refine hK.out _ _ ?_ (fun hHeld2=>?_)
      ·exact za MK _ ((za QF).call b5)
      clear hK K hHeld;have hHeld:=hHeld2;have QG:=hide ((za QF).call b5);clear hHeld2 HPU b5 QF
      try simp only [Act.put,kBs]
      refine RN 13 fun K hK=>?_;have c0:=(za QG).blk.cell 0;have f0:=(za QG).blk.fr 0;simp only [kA0,kA1] at c0;go_simp
      have QH:=hide ((za QG).put (L':=Pl.putL L (Pl.dirN L q m.time)) own hsF (fun x hx=>by
       rcases Pl.put_mem hx with rfl |h
       ·exact hq8
       ·exact (za QG).sml x h))
      refine hK.out _ _ ?_ (fun hHeld2=>?_)
      ·exact ⟨by have h':=(za QH).sig.cell 0;simpa using h',(za QH).sns⟩
      clear hK K hHeld hHeld2 QG own c0 f0 MK;refine wpAnyH_done (by kernel_rfl) ?_ _;go_wp2
      exact ⟨⟨j+1,by omega,by simp,by rw [hq],za ENDP (za HST) (za QH)⟩,by simp [intOf];omega⟩
     ·have c0:=(za QE).blk.cell 0;have f0:=(za QE).blk.fr 0;simp only [kA0,kA1] at c0;go_simp
      refine hK.out _ _ ?_ (fun hHeld2=>?_)
      ·assumption
      clear hK K c0 f0 hHeld;have hHeld:=hHeld2;clear hHeld2
      try simp only [Act.put,kBs]
      refine wpAnyH_ready (rs:=[0,11]) (by kernel_rfl) (by simp) ?_;refine AllReadyH.cons rfl (fun K hK=>?_) (AllReadyH.cons rfl (fun K hK=>?_) AllReadyH.nil)
      ·have c0:=(za QE).blk.cell 0;have f0:=(za QE).blk.fr 0;simp only [kA0,kA1] at c0;go_simp
       refine hK.out _ _ ?_ (fun hHeld2=>?_)
       ·assumption
       clear hK K c0 f0 hHeld;have hHeld:=hHeld2;clear hHeld2
       try simp only [Act.put,kBs]
       refine RN 11 fun K hK=>?_;go_simp
       refine (za HDI _ (za QE)).mono ?_;rintro e wX ⟨rfl,b4⟩;refine hK.out _ _ ?_ (fun hHeld2=>?_)
       ·exact za MK _ ((za QE).call b4)
       clear hK K hHeld;have hHeld:=hHeld2;have QF:=hide ((za QE).call b4);clear hHeld2 HDI b4 QE
       try simp only [Act.put,kBs]
       refine RN 12 fun K hK=>?_;go_simp
       refine (za HPU _ (za QF)).mono ?_;rintro e wX ⟨v,rfl,own,b5⟩;obtain ⟨a',cap',rfl⟩:=Mem.za4 own;have hsF:=(za QF).size;refine hK.out _ _ ?_ (fun hHeld2=>?_)
       ·exact za MK _ ((za QF).call b5)
       clear hK K hHeld;have hHeld:=hHeld2;have QG:=hide ((za QF).call b5);clear hHeld2 HPU b5 QF
       try simp only [Act.put,kBs]
       refine RN 13 fun K hK=>?_;have c0:=(za QG).blk.cell 0;have f0:=(za QG).blk.fr 0;simp only [kA0,kA1] at c0;go_simp
       have QH:=hide ((za QG).put (L':=Pl.putL L (Pl.dirN L q m.time)) own hsF (fun x hx=>by
        rcases Pl.put_mem hx with rfl |h
        ·exact hq8
        ·exact (za QG).sml x h))
       refine hK.out _ _ ?_ (fun hHeld2=>?_)
       ·exact ⟨by have h':=(za QH).sig.cell 0;simpa using h',(za QH).sns⟩
       clear hK K hHeld hHeld2 QG own c0 f0 MK;refine wpAnyH_done (by kernel_rfl) ?_ _;go_wp2
       exact ⟨⟨j+1,by omega,by simp,by rw [hq],za ENDP (za HST) (za QH)⟩,by simp [intOf];omega⟩
      ·go_simp
       refine (za HDI _ (za QE)).mono ?_;rintro e wX ⟨rfl,b4⟩;refine hK.out _ _ ?_ (fun hHeld2=>?_)
       ·exact za MK _ ((za QE).call b4)
       clear hK K hHeld;have hHeld:=hHeld2;have QF:=hide ((za QE).call b4);clear hHeld2 HDI b4 QE
       try simp only [Act.put,kBs]
       refine RN 0 fun K hK=>?_;have c0:=(za QF).blk.cell 0;have f0:=(za QF).blk.fr 0;simp only [kA0,kA1] at c0;go_simp
       refine hK.out _ _ ?_ (fun hHeld2=>?_)
       ·assumption
       clear hK K c0 f0 hHeld;have hHeld:=hHeld2;clear hHeld2
       try simp only [Act.put,kBs]
       refine RN 12 fun K hK=>?_;go_simp
       refine (za HPU _ (za QF)).mono ?_;rintro e wX ⟨v,rfl,own,b5⟩;obtain ⟨a',cap',rfl⟩:=Mem.za4 own;have hsF:=(za QF).size;refine hK.out _ _ ?_ (fun hHeld2=>?_)
       ·exact za MK _ ((za QF).call b5)
       clear hK K hHeld;have hHeld:=hHeld2;have QG:=hide ((za QF).call b5);clear hHeld2 HPU b5 QF
       try simp only [Act.put,kBs]
       refine RN 13 fun K hK=>?_;have c0:=(za QG).blk.cell 0;have f0:=(za QG).blk.fr 0;simp only [kA0,kA1] at c0;go_simp
       have QH:=hide ((za QG).put (L':=Pl.putL L (Pl.dirN L q m.time)) own hsF (fun x hx=>by
        rcases Pl.put_mem hx with rfl |h
        ·exact hq8
        ·exact (za QG).sml x h))
       refine hK.out _ _ ?_ (fun hHeld2=>?_)
       ·exact ⟨by have h':=(za QH).sig.cell 0;simpa using h',(za QH).sns⟩
       clear hK K hHeld hHeld2 QG own c0 f0 MK;refine wpAnyH_done (by kernel_rfl) ?_ _;go_wp2
       exact ⟨⟨j+1,by omega,by simp,by rw [hq],za ENDP (za HST) (za QH)⟩,by simp [intOf];omega⟩
  ·have hjN:¬ (j:Int)<(N.length:Int) - 1:=by omega
   have c0:=hQ.blk.cell 0;have f6:=hQ.out.fr 0;have c6:=hQ.out.cell 0;simp only [kA0,kA1] at c0 c6
   have hR:L=R:=by
    have h:=za HE;rw [List.drop_eq_nil_of_le (by simp [Pl.ways];omega)] at h;exact h
   subst hR;clear hQ HE HNM HSZ HAL;go_wp2_with fail
   have hQ:=za QA;refine bodyPost_ret (v:= .agg #[.slice a L.length cap]) (by simp [results,Tryz.results35,go_sem,c6]) rfl ⟨a,cap,rfl,zc5.zk8 hQ.okA (by simp),?_,hQ.bel.setCell (by show w.heap.size≤w.heap.size+1+1;omega) _⟩;cases a with
   |none=>
    intro i n hi;obtain ⟨g',o',h,_⟩:=hQ.nds i n hi;cases h
   |some ad=>
    intro i n hi;obtain ⟨g',o',h,_⟩:=hQ.nds i n hi
    injection h with h
    subst h;exact Mem.zg8 hQ.nds _ _ (by have :=hQ.far g' o' rfl;show w.heap.size+1+1≠g';omega) i n hi
end zi6
end Go.Proofs.YthdhhcgopfgcbaaGreatDoor
