import Derived.Test.YthdhhcgopfgcbaaGreatDoorG29
namespace Go.Proofs.YthdhhcgopfgcbaaGreatDoor
open Go.RowKit
namespace Mem
theorem row_off {w w':World} {B e size n:Nat} {v:Value} {xs:List Value} {r:Option Nat} (h:w.ownsRow B e size v n xs) (hg:w.grownBy w' r) (hr:∀g,v.ownBlock=some g→some g≠r):w'.ownsRow B e size v n xs:=by
 refine ⟨h.1,?_⟩
 rcases h.2 with h0|⟨g,cap,cur,rfl,hb,hh,rest⟩
 ·exact .inl h0
 ·exact .inr ⟨g,cap,cur,rfl,hb,(hg.block g (Array.getElem?_eq_some_iff.1 hh).1 (hr g rfl)).trans hh,rest⟩
structure To (W:World) (S:Nat) (v:Value) (Ts:List Pl.Tr):Prop where
 row:W.ownsRow S 43 1 v Ts.length (Ts.map Pl.Tr.val)
 each:∀t∈Ts,ownN W 0 t.val t.L∧∀g,t.val.ownBlock=some g→v.ownBlock≠some g
theorem To.call {W W':World} {S:Nat} {v:Value} {Ts:List Pl.Tr} (h:To W S v Ts) (b:Below W.heap.size W W'):To W' S v Ts:=
 ⟨zj2 h.row b,fun t ht=>⟨zg7 (h.each t ht).1 b,(h.each t ht).2⟩⟩
theorem To.app {W W':World} {S:Nat} {v v':Value} {Ts:List Pl.Tr} {t:Pl.Tr} (h:To W S v Ts) (own':W'.ownsRow S 43 1 v' (Ts.length+1) (Ts.map Pl.Tr.val++[t.val])) (gr:W.grownBy W' v.ownBlock) (far:∀g,v'.ownBlock=some g→v.ownBlock=some g∨W.heap.size≤g)
  (ht:ownN W 0 t.val t.L) (hne:∀g,t.val.ownBlock=some g→v.ownBlock≠some g):To W' S v' (Ts++[t]):=by
 have key:∀u:Pl.Tr,ownN W 0 u.val u.L→(∀g,u.val.ownBlock=some g→v.ownBlock≠some g)→ownN W' 0 u.val u.L∧∀g,u.val.ownBlock=some g→v'.ownBlock≠some g:=fun u (hu:ownN W 0 (Pl.Tr.val u) u.L) hn=>
  ⟨row_off hu gr (fun g hg e=>hn g hg e.symm),fun g hg e=>by
   rcases far g e with h1|h1
   ·exact hn g hg h1
   ·have :=(ze3 hu g hg).2;omega⟩
 refine ⟨by simpa using own',fun u hu=>?_⟩
 rcases List.mem_append.1 hu with h1|h1
 ·exact key u (h.each u h1).1 (h.each u h1).2
 ·simp at h1;subst h1;exact key _ ht hne
theorem To.shape {W:World} {S:Nat} {v:Value} {Ts:List Pl.Tr} (h:To W S v Ts):∃a cap,v= .slice a Ts.length cap∧zx1 W a Ts:=by
 obtain ⟨a,cap,rfl⟩:=za4 h.row;refine ⟨a,cap,rfl,fun i t hi=>⟨?_,(ze9 (h.each t (List.mem_of_getElem? hi)).1).2⟩⟩
 rcases h.row.2 with ⟨h1,h0⟩|⟨g,c2,cur,e,hb,hg,rest⟩
 ·have :Ts=[]:=List.eq_nil_of_length_eq_zero h0;subst this;cases hi
 ·cases e
  refine ⟨g,0,rfl,(Array.getElem?_eq_some_iff.1 hg).1,?_⟩;have :=World.ownsRow.cells h.row (g:=g) rfl i t.val (by rw [List.getElem?_map,hi];rfl);rw [add_lit] at this;rw [Nat.zero_add];exact this
end Mem
namespace zw
theorem infoT:(Tryz.prog.info? 43).map (fun i=>(i.zero,i.size,i.bytes))=some (some (.agg #[.slice none 0 0]),1,24):=by kernel_rfl
def Seen5 (w w':World) (VV:Option (List Pl.Nd)) (nx:Nat) (e:Ending):Prop:=
 ∃a cap c V,e= .returned (.tuple #[.agg #[.slice a V.length cap, .int .i64 c], .int .i64 (nx:Int)])∧Mem.ownN w' w.heap.size (.slice a V.length cap) V∧((VV=some V∧c=0)∨(VV=none∧V=[]∧c=9))
def Codes (K F:Pl.Fx) (Ls:List (List Pl.Nd)) (c:Int):Prop:=(c=0∧Pl.zv5 K F Ls)∨(c=9∧Pl.zh8 K=none)
theorem codes_step {K m k:Pl.Fx} {L V:List Pl.Nd} {Ls:List (List Pl.Nd)} {c c1:Int} (h:Codes K (.cons L k m) Ls c) (hv:(Pl.zi1 L k=some V∧c1=0)∨(Pl.zi1 L k=none∧V=[]∧c1=9)):Codes K m (Ls++[V]) (if c=0 then c1 else c):=by
 rcases h with ⟨rfl,h⟩|⟨rfl,h⟩
 ·rw [if_pos rfl]
  rcases hv with ⟨hv,rfl⟩|⟨hv, -,rfl⟩
  ·exact .inl ⟨rfl,Pl.ym h hv⟩
  ·exact .inr ⟨rfl,Pl.yl8 h hv⟩
 ·rw [if_neg (by decide)];exact .inr ⟨rfl,h⟩
set_option linter.unusedSimpArgs false in
set_option maxRecDepth 100000 in
set_option maxHeartbeats 2000000 in
theorem view5_any (a:Option Addr) (cap:Nat) (Is:List Pl.It) (hl:Is.length≤12) (hR:∀x∈Is,Mem.okR x.t.a x.t.cap x.t.L) (n:Nat):∀ (L:List Pl.Nd) (K:Pl.Fx) (p:Nat) (w:World),K.sz<n→(Pl.Fx.cons L K .nil).okX→(∃R,(Is.drop p).map Pl.It.r=(Pl.Fx.cons L K .nil).flat++R)→Mem.zb0 w a Is→
  Calls Tryz.prog 98 #[.slice a Is.length cap, .int .i64 (p:Int)] w fun e w'=>Seen5 w w' (Pl.zi1 L K) (p+1+K.sz) e∧Below w.heap.size w w':=by
 obtain ⟨i0,hi,hz0,hz1,hz2⟩:=info_parts infoT
 induction n with
 |zero=>intro L K p w h;omega
 |succ n ih=>
  intro L K p w hs hx hfl hv;obtain ⟨R0,hfl⟩:=hfl;obtain ⟨x,hxp,hxm,hxL,hrest⟩:=drop_cons hfl;rw [Pl.Fx.flat,List.nil_append] at hrest;subst hxL;have hplt:p<Is.length:=(List.getElem?_eq_some_iff.1 hxp).1;obtain ⟨⟨b,o,rfl,hb,q0,q0'⟩,q1⟩:=hv p x hxp;have hL40:x.t.L.length≤40:=by have h:=hx.1;simp only [Pl.za5,Bool.and_eq_true,decide_eq_true_eq] at h;exact h.1
  have b0:Below w.heap.size w ((w.alloc (.cells #[.slice none 0 0, .int .i64 0] 64)).alloc (.cells #[.int .i64 (K.len:Int), .slice x.t.a x.t.L.length x.t.cap] 53)):=(bE0).alloc (by simp) _;have R1:=(Mem.Blk.new w #[.slice none 0 0, .int .i64 0] 64).alloc (.cells #[.int .i64 (K.len:Int), .slice x.t.a x.t.L.length x.t.cap] 53);have X1:Mem.Blk ((w.alloc (.cells #[.slice none 0 0, .int .i64 0] 64)).alloc (.cells #[.int .i64 (K.len:Int), .slice x.t.a x.t.L.length x.t.cap] 53)) (w.heap.size+1) #[.int .i64 (K.len:Int), .slice x.t.a x.t.L.length x.t.cap] 53:=Mem.zg4 _ _ _;have hs0:((w.alloc (.cells #[.slice none 0 0, .int .i64 0] 64)).alloc (.cells #[.int .i64 (K.len:Int), .slice x.t.a x.t.L.length x.t.cap] 53)).heap.size=w.heap.size+2:=by simp
  have bz:Below w.heap.size w (w.alloc (.cells #[.slice none 0 0, .int .i64 0] 64)):=bE0;have c0:=(bz.cell (p:=⟨b,_,none⟩) hb).trans q0;have c1:=(bz.cell (p:=⟨b,_,none⟩) hb).trans q0';rw [hxm] at c0;simp only [Pl.Tr.val] at c1;have t1:(p:Int)<(Is.length:Int):=by omega
  have t3:(0:Int)≤(p:Int):=by omega
  have HV:=hide (fun W (bb:Below w.heap.size w W)=>Mem.zb2 hv bb);obtain ⟨hxk,hxt⟩:=jc2 X1;by_cases hK0:K.len=0
  ·have eK:=Pl.Fx.yg5 hK0;subst eK;have hcp:=hide (WCopyV.yb2 x.t.a x.t.cap x.t.L _ (by omega) (hR x (List.mem_of_getElem? hxp)) (Mem.za0 q1 b0));have e0:((Pl.Fx.nil.len:Nat):Int)=0:=rfl;rw [e0] at b0 R1 X1 hs0 c0 hxk hxt hcp;have EV:Hid (Pl.zi1 x.t.L .nil=some x.t.L):=Pl.view_leaf rfl;clear q0 q0' q1 hv hR HV hrest hfl hxp hxm bz ih hi hz0 hz1 hz2 hx X1;go_enter Tryz.func98,Tryz.ntmps98
   go_wp2_with fail
   generalize (w.alloc (.cells #[.slice none 0 0, .int .i64 0] 64)).alloc (.cells #[.int .i64 0, .slice x.t.a x.t.L.length x.t.cap] 53)=w2 at b0 R1 hs0 hxk hxt hcp ⊢;refine (za hcp).mono ?_;rintro e w3 ⟨v3,rfl,own3,b3⟩;obtain ⟨a3,c3,rfl⟩:=Mem.za4 own3;have R3:=R1.call b3;have b4:=b0.trans (b3.mono b0.size);have OW:=hide (Mem.zb3 (Mem.za8 (Mem.za8 own3 ⟨w.heap.size,0,none⟩ (.slice a3 x.t.L.length c3) (by show w.heap.size<_;omega)) ⟨w.heap.size,1,none⟩ (.int .i64 0) (by show w.heap.size<_;omega)) (show w.heap.size≤w2.heap.size by omega));have HB:=hide b4;obtain ⟨⟨d0,d1⟩,f0,f1⟩:=jf2 R3;clear hcp own3 b3 b4 R1 R3 b0 hxk hxt c0 c1;go_wp2
   refine bodyPost_ret (v:= .tuple #[.agg #[.slice a3 x.t.L.length c3, .int .i64 0], .int .i64 ((p+1:Nat):Int)]) (by simp [results,Tryz.results98,go_sem,d0,d1]) rfl ⟨⟨a3,c3,0,x.t.L,rfl,za OW,Or.inl ⟨za EV,rfl⟩⟩,?_⟩;exact ((za HB).setCell (Nat.le_refl _) _).setCell (Nat.le_refl _) _
  have hKz:¬ (K.len:Int)=0:=by omega
  have hKz2:((K.len:Int)==0)=false:=by simpa using hKz
  have hK4:K.len≤4:=hx.2.2.1;have HKX:=hide hx.2.2.2.1;have HI:=hide ih;have HFL:Hid (∃R,(Is.drop (p+1)).map Pl.It.r=K.flat++R):=⟨_,hrest⟩;have EV:Hid (Pl.zi1 x.t.L K=Pl.zv9 (Pl.zh8 K)):=Pl.yi5 hK0;have b5:Below w.heap.size w (((w.alloc (.cells #[.slice none 0 0, .int .i64 0] 64)).alloc (.cells #[.int .i64 (K.len:Int), .slice x.t.a x.t.L.length x.t.cap] 53)).alloc (.cells #[] 43)):=b0.alloc (by omega) _;have R5:=hide (R1.alloc (.cells #[] 43))
  have T5:Hid (Mem.To (((w.alloc (.cells #[.slice none 0 0, .int .i64 0] 64)).alloc (.cells #[.int .i64 (K.len:Int), .slice x.t.a x.t.L.length x.t.cap] 53)).alloc (.cells #[] 43)) (w.heap.size+2) (.slice (some ⟨w.heap.size+1+1,0,none⟩) 0 0) []):=by
   refine ⟨⟨rfl, .inr ⟨w.heap.size+1+1,0,#[],rfl,by omega,?_,Nat.le_refl _,Nat.zero_le _,rfl,rfl⟩⟩,fun t ht=>by cases ht⟩;have h:=heap_alloc_new ((w.alloc (.cells #[.slice none 0 0, .int .i64 0] 64)).alloc (.cells #[.int .i64 (K.len:Int), .slice x.t.a x.t.L.length x.t.cap] 53)) (.cells #[] 43);rw [hs0] at h;exact h
  have CD0:Hid (Codes K K (([]:List Pl.Tr).map (·.L)) 0):= .inl ⟨rfl,Pl.yk4 K⟩;have hxk5:=(X1.alloc (.cells #[] 43)).cell 0;simp only [kGs] at hxk5;have hsz0:K.sz≤n:=by omega
  clear q0 q0' q1 hv hR hrest hfl hxp hxm bz ih hx X1 R1 b0 hxt;go_enter Tryz.func98,Tryz.ntmps98
  go_wp2
  go_loopw [1,7,8,9] (fun at' c v kk wr=>∃ (j:Nat) (cc:Int) (Ts:List Pl.Tr) (F:Pl.Fx),at'= .int .i64 (j:Int)∧c= .int .i64 cc∧kk= .int .i64 (F.len:Int)∧j+F.sz=p+1+K.sz∧F.sz≤n∧Ts.length+F.len=K.len∧Below w.heap.size w wr∧Hid (w.heap.size+2≤wr.heap.size)∧Hid (Mem.To wr (w.heap.size+2) v Ts)∧Hid (Codes K F (Ts.map (·.L)) cc)∧Hid F.okX∧Hid (∃R,(Is.drop j).map Pl.It.r=F.flat++R)∧Hid (Mem.Blk wr w.heap.size #[.slice none 0 0, .int .i64 0] 64)) (fun _ _ _ kk _=>(intOf kk).toNat)
  case atStart=>exact ⟨p+1,0,[],K,by go_num,rfl,rfl,rfl,hsz0,by simp,b5,hide (by simp),T5,CD0,HKX,HFL,R5⟩
  case round=>
   obtain ⟨j,cc,Ts,F,rfl,rfl,rfl,hj,hsz,hTl,hbel,HWR,TT,CD,FX,FL,RB⟩:=hrel;clear T5 CD0 R5 b5 hxk5;cases F with
   |nil=>
    simp only [Pl.Fx.len,Pl.Fx.sz] at hj hTl;have hjj:j=p+1+K.sz:=by omega
    subst hjj;have hcs:cc=0∨cc=9:=(za CD).imp (fun h=>h.1) (fun h=>h.1);obtain ⟨va,vc,hve,hvt⟩:=(za TT).shape;subst hve
    rcases hcs with rfl |rfl
    ·have hvs:Pl.zh8 K=some (Ts.map (·.L)):=by
      rcases za CD with ⟨-,h⟩|⟨h, -⟩
      ·exact Pl.seenF_end h
      ·cases h
     obtain ⟨hLl,htr⟩:=Pl.views_ok K _ (za HKX) hvs;have hov:=hide (WWalk4.over4_any Ts va vc wr hvt (by omega) (by omega) htr);have E9:Hid (40<(Pl.allO (Ts.map (·.L))).length→Pl.zi1 x.t.L K=none):=fun h=>by rw [za EV,hvs];exact if_neg (by omega)
     have E0:Hid (¬40<(Pl.allO (Ts.map (·.L))).length→Pl.zi1 x.t.L K=some (Pl.allO (Ts.map (·.L)))):=fun h=>by rw [za EV,hvs];exact if_pos (by omega)
     generalize Pl.allO (Ts.map (·.L))=O at hov E9 E0;have hRl:=(za RB).lt;clear hvs htr TT CD FX FL hvt EV HI HV HFL;by_cases h40:40<O.length
     ·have E:=hide (za E9 h40);rw [if_pos h40,if_pos h40] at hov;clear E9 E0;go_wp2_with fail
      refine (za hov).mono ?_;rintro e w3 ⟨v3,rfl,own3,b3⟩;obtain ⟨a3,c3,rfl⟩:=Mem.za4 own3;have R3:=(za RB).call b3;have b4:=hbel.trans (b3.mono hbel.size);have OW:=hide (Mem.zb3 (Mem.za8 (Mem.za8 own3 ⟨w.heap.size,0,none⟩ (.slice a3 ([]:List Pl.Nd).length c3) (by show w.heap.size<_;omega)) ⟨w.heap.size,1,none⟩ (.int .i64 9) (by show w.heap.size<_;omega)) (show w.heap.size≤wr.heap.size by omega));have HB:=hide b4;obtain ⟨⟨d0,d1⟩,f0,f1⟩:=jf2 R3;clear hov own3 b3 b4 R3 RB hbel;go_wp2
      refine bodyPost_ret (v:= .tuple #[.agg #[.slice a3 ([]:List Pl.Nd).length c3, .int .i64 9], .int .i64 ((p+1+K.sz:Nat):Int)]) (by simp [results,Tryz.results98,go_sem,d0,d1]) rfl ⟨⟨a3,c3,9,([]:List Pl.Nd),rfl,za OW,Or.inr ⟨za E,rfl,rfl⟩⟩,?_⟩;exact ((za HB).setCell (Nat.le_refl _) _).setCell (Nat.le_refl _) _
     ·have E:=hide (za E0 h40);rw [if_neg h40,if_neg h40] at hov;clear E9 E0;go_wp2_with fail
      refine (za hov).mono ?_;rintro e w3 ⟨v3,rfl,own3,b3⟩;obtain ⟨a3,c3,rfl⟩:=Mem.za4 own3;have R3:=(za RB).call b3;have b4:=hbel.trans (b3.mono hbel.size);have OW:=hide (Mem.zb3 (Mem.za8 (Mem.za8 own3 ⟨w.heap.size,0,none⟩ (.slice a3 O.length c3) (by show w.heap.size<_;omega)) ⟨w.heap.size,1,none⟩ (.int .i64 0) (by show w.heap.size<_;omega)) (show w.heap.size≤wr.heap.size by omega));have HB:=hide b4;obtain ⟨⟨d0,d1⟩,f0,f1⟩:=jf2 R3;clear hov own3 b3 b4 R3 RB hbel;go_wp2
      refine bodyPost_ret (v:= .tuple #[.agg #[.slice a3 O.length c3, .int .i64 0], .int .i64 ((p+1+K.sz:Nat):Int)]) (by simp [results,Tryz.results98,go_sem,d0,d1]) rfl ⟨⟨a3,c3,0,O,rfl,za OW,Or.inl ⟨za E,rfl⟩⟩,?_⟩;exact ((za HB).setCell (Nat.le_refl _) _).setCell (Nat.le_refl _) _
    ·have E:Hid (Pl.zi1 x.t.L K=none):=hide (by
      rcases za CD with ⟨h, -⟩|⟨-,h⟩
      ·cases h
      ·rw [za EV,h];rfl)
     have R3:=(za RB);have hil:=hide (zj1.zc6 9 wr);clear TT CD FX FL hvt EV HI HV HFL;go_wp2_with fail
     refine (za hil).mono ?_;rintro e w3 ⟨rfl,b3⟩;have OW:=hide (Mem.zb5 ((w3.setCell ⟨w.heap.size,0,none⟩ (.slice none 0 0)).setCell ⟨w.heap.size,1,none⟩ (.int .i64 9)) w.heap.size);have HB:=hide (hbel.trans (b3.mono hbel.size));obtain ⟨⟨d0,d1⟩,f0,f1⟩:=jf2 (R3.call b3);clear R3 b3 RB hbel hil;go_wp2
     refine bodyPost_ret (v:= .tuple #[.agg #[.slice none 0 0, .int .i64 9], .int .i64 ((p+1+K.sz:Nat):Int)]) (by simp [results,Tryz.results98,go_sem,d0,d1]) rfl ⟨⟨none,0,9,[],rfl,Mem.zb5 _ _,Or.inr ⟨za E,rfl,rfl⟩⟩,?_⟩
     first |exact ((za HB).setCell (Nat.le_refl _) _).setCell (Nat.le_refl _) _|exact (za HB).setCell (Nat.le_refl _) _
   |cons L1 k1 m1=>
    simp only [Pl.Fx.len,Pl.Fx.sz] at hj hsz hTl;obtain ⟨g1,g2,g3,g5,g6⟩:=za FX;obtain ⟨R2,hfl2⟩:=za FL;have hfl3:∃R,(Is.drop j).map Pl.It.r=(Pl.Fx.cons L1 k1 .nil).flat++R:=⟨m1.flat++R2,by rw [hfl2];simp [Pl.Fx.flat]⟩;have hcall:=hide (za HI L1 k1 j wr (by omega) ⟨g1,g2,g3,g5,trivial⟩ hfl3 (za HV _ hbel));obtain ⟨x2,hx2, -, -,hr2⟩:=drop_cons hfl2;have FL2:Hid (∃R,(Is.drop (j+1+k1.sz)).map Pl.It.r=m1.flat++R):=⟨R2,drop_more hr2⟩;obtain ⟨f,hf⟩:∃f,f=(Pl.Fx.cons L1 k1 m1).len:=⟨_,rfl⟩;rw [←hf];have u1:(0:Int)<(f:Int):=by rw [hf];simp only [Pl.Fx.len];omega
    have HF:Hid (f=m1.len+1):=hf;have HWF:Hid (wrap64 ((f:Int) - 1)=(f:Int) - 1):=hide (by unfold wrap64;have h4:=hK4;have h5:f=m1.len+1:=hf;omega);have HJ:Hid (j+(k1.sz+m1.sz+1)=p+1+K.sz):=hj;clear hf hj;have G6:=hide g6;clear FX FL hfl2 hfl3 g1 g2 g5 g6 hr2 hx2 HFL;go_wp2_with fail
    refine (za hcall).mono ?_;rintro e wX ⟨⟨a1,cap1,c1',V1,rfl,own1,hV⟩,bX⟩;have bw2:=hbel.trans (bX.mono hbel.size);have CD2:=hide (codes_step (za CD) hV);have hcs:cc=0∨cc=9:=(za CD).imp (fun h=>h.1) (fun h=>h.1);have bA2:Below wX.heap.size wX ((wX.alloc (.cells #[.slice a1 V1.length cap1, .int .i64 c1'] 64)).alloc (.cells #[.slice a1 V1.length cap1] 43)):=(bE0).alloc (by simp) _;have bb2:=bX.trans (bA2.mono bX.size);have O2:=(za TT).call bb2;have bw3:=bw2.trans (bA2.mono bw2.size);have M2:Mem.ownN ((wX.alloc (.cells #[.slice a1 V1.length cap1, .int .i64 c1'] 64)).alloc (.cells #[.slice a1 V1.length cap1] 43)) 0 (Pl.Tr.val ⟨a1,cap1,V1⟩) V1:=Mem.zb3 (Mem.zg7 own1 bA2) (Nat.zero_le _);have NE2:=fun g (hg:(Pl.Tr.val ⟨a1,cap1,V1⟩).ownBlock=some g)=>(Mem.ze3 own1 g hg).1
    have HLT:=fun g hg=>(World.ownsRow.lt (za TT).row g hg).2;have HP:=hide (fun v' w4 own gr far=>O2.app (t:=⟨a1,cap1,V1⟩) (v':=v') (W':=w4) own gr far M2 (fun g hg e=>by have h1:=NE2 g hg;have h2:=HLT g e;omega));have HQ:=hide (fun w4 (h2:((wX.alloc (.cells #[.slice a1 V1.length cap1, .int .i64 c1'] 64)).alloc (.cells #[.slice a1 V1.length cap1] 43)).grownBy w4 _)=>(⟨bw3.grown h2 bw3.size (fun k hk=>by have :=(World.ownsRow.lt O2.row k hk).1;omega),((za RB).call bb2).grown h2 (fun e=>by have :=(World.ownsRow.lt O2.row _ e.symm).1;omega)⟩:Below w.heap.size w w4∧Mem.Blk w4 w.heap.size #[.slice none 0 0, .int .i64 0] 64));have HRO:=hide O2.row;have HSB:Hid (w.heap.size+2≤wX.heap.size):=hide (by have h3:=bX.size;have h4:=za HWR;omega);have hTs:Ts.length≤4:=by omega
    have XC:=(Mem.Blk.new wX #[.slice a1 V1.length cap1, .int .i64 c1'] 64);obtain ⟨y0,y1⟩:=jc2 XC;clear bA2 bb2 O2 M2 NE2 HLT own1 hV CD TT RB bX bw2 bw3 hcall XC hbel
    rcases hcs with rfl |rfl
    ·rw [if_pos rfl] at CD2;go_wp2_with (at_builtin;refine Mem.ze1 _ rfl _ _ 166 rfl (w.heap.size+2) 43 i0 (.agg #[.slice none 0 0]) 1 24 Tryz.underlying166 hi hz0 hz1 hz2 rfl (by decide) _ _ _ rfl (za HRO) ⟨wX.heap.size+1,0,none⟩ 1 1 [.slice a1 V1.length cap1] rfl rfl (by have :=Mem.zh5 (wX.alloc (.cells #[.slice a1 V1.length cap1, .int .i64 c1'] 64)) (.slice a1 V1.length cap1) 43;simpa using this) (fun u hu=>by simp at hu;subst hu;rfl) (by unfold maxLen;omega) (by omega) (by have :=za HSB;simp;omega) ?_)
     intro v' w4 own' hgrow hfar;have T2:=hide (za HP v' w4 own' hgrow (by simpa using hfar));obtain ⟨bw4,R4⟩:=za HQ w4 hgrow;have RB4:=hide R4;have HW4:Hid (w.heap.size+2≤w4.heap.size):=hide (by have h1:=hgrow.size;have h2:=za HSB;simp at h1;omega);have hTl2:(Ts++[(⟨a1,cap1,V1⟩:Pl.Tr)]).length+m1.len=K.len:=by simp;omega
     have HTL2:=hide hTl2;have CD3:Hid (Codes K m1 ((Ts++[(⟨a1,cap1,V1⟩:Pl.Tr)]).map (·.L)) c1'):=hide (by rw [List.map_append];exact za CD2);clear HP HQ HRO own' hgrow hfar R4 hTl2 CD2 y0 y1;go_wp2
     go_roundw
     case rel=>exact ⟨j+1+k1.sz,c1',Ts++[⟨a1,cap1,V1⟩],m1,by go_num,rfl,by have h:=za HF;have hw:=za HWF;first |go_num|(rw [hw];congr 1;omega),by have h:=za HJ;omega,by omega,za HTL2,bw4,HW4,T2,CD3,G6,FL2,RB4⟩
     case measure=>(have h:=za HF;have hw:=za HWF;simp [intOf];omega)
    ·rw [if_neg (by decide)] at CD2;go_wp2_with (at_builtin;refine Mem.ze1 _ rfl _ _ 166 rfl (w.heap.size+2) 43 i0 (.agg #[.slice none 0 0]) 1 24 Tryz.underlying166 hi hz0 hz1 hz2 rfl (by decide) _ _ _ rfl (za HRO) ⟨wX.heap.size+1,0,none⟩ 1 1 [.slice a1 V1.length cap1] rfl rfl (by have :=Mem.zh5 (wX.alloc (.cells #[.slice a1 V1.length cap1, .int .i64 c1'] 64)) (.slice a1 V1.length cap1) 43;simpa using this) (fun u hu=>by simp at hu;subst hu;rfl) (by unfold maxLen;omega) (by omega) (by have :=za HSB;simp;omega) ?_)
     intro v' w4 own' hgrow hfar;have T2:=hide (za HP v' w4 own' hgrow (by simpa using hfar));obtain ⟨bw4,R4⟩:=za HQ w4 hgrow;have RB4:=hide R4;have HW4:Hid (w.heap.size+2≤w4.heap.size):=hide (by have h1:=hgrow.size;have h2:=za HSB;simp at h1;omega);have hTl2:(Ts++[(⟨a1,cap1,V1⟩:Pl.Tr)]).length+m1.len=K.len:=by simp;omega
     have HTL2:=hide hTl2;have CD3:Hid (Codes K m1 ((Ts++[(⟨a1,cap1,V1⟩:Pl.Tr)]).map (·.L)) 9):=hide (by rw [List.map_append];exact za CD2);clear HP HQ HRO own' hgrow hfar R4 hTl2 CD2 y0 y1;go_wp2
     go_roundw
     case rel=>exact ⟨j+1+k1.sz,9,Ts++[⟨a1,cap1,V1⟩],m1,by go_num,rfl,by have h:=za HF;have hw:=za HWF;first |go_num|(rw [hw];congr 1;omega),by have h:=za HJ;omega,by omega,za HTL2,bw4,HW4,T2,CD3,G6,FL2,RB4⟩
     case measure=>(have h:=za HF;have hw:=za HWF;simp [intOf];omega)
end zw
end Go.Proofs.YthdhhcgopfgcbaaGreatDoor
