import Derived.Test.YtbomeifgfalmdaaGreatDoorWSpI3
import Derived.Test.YtbomeifgfalmdaaGreatDoorG23
namespace Go.Proofs.YtbomeifgfalmdaaGreatDoor
open Go.RowKit Go.Maps
namespace WSpI
def Spaced (w w':World) (s:Pl.Sp) (R:Bool) (e:Ending):Prop:=
 (R=true∧∃q E sa sc ta tc,e= .returned (.tuple #[.agg #[.map (some q), .slice sa s.M.length sc, .slice ta s.H.length tc, .int .i64 s.next], .bool true])∧SpO.SpV w.heap.size w' s q E sa sc ta tc)∨
 (R=false∧∃q sa sl sc ta tl tc n,e= .returned (.tuple #[.agg #[.map q, .slice sa sl sc, .slice ta tl tc, .int .i64 n], .bool false]))
structure OkA (s:Pl.Sp):Prop where
 m:(s.ma=none∧s.mc=0∧s.M=[])∨∃g o,s.ma=some ⟨g,o,none⟩
 h:(s.ha=none∧s.hc=0∧s.H=[])∨∃g o,s.ha=some ⟨g,o,none⟩
 n:∀x∈s.N,x.Is.length≤x.cap
theorem ids_apart {N:List Pl.Ns} {E:List (Int × Pl.Nv)} {next :Int} (h:Pl.zq4 (N.map WSp.nr) next =true) (e:E.map (·.1)=N.map (·.d)):E.Pairwise (fun a b=>a.1≠b.1):=by
 unfold Pl.zq4 at h;rw [Pl.all_iff] at h;have h1:=inst_apart (Nat.le_refl _) h;rw [List.take_of_length_le (by simp),List.map_map,show ((fun x:Int × Bool=>x.1) ∘ WSp.nr)=fun x:Pl.Ns=>x.d from rfl,←e,List.pairwise_map] at h1;exact h1.imp (fun h=>by omega)
set_option linter.unusedSimpArgs false in
set_option maxRecDepth 100000 in
set_option maxHeartbeats 4000000 in
theorem ye1 (s:Pl.Sp) (w:World) (hok:zb0.OkS s 1048576) (hn:OkN s) (ha:OkA s) (hv:Mem.zd9 w s)
  (r0 r1 r2 r3:TypeId) (x0 x1 x2 x3:Value) (hE:zh4.zq8 w r0 r1 r2 r3 x0 x1 x2 x3):
  Calls Tryz.prog 84 #[.agg s.cs] w fun e w'=>Spaced w w' s (Pl.zx1 s.next (s.N.map WSp.nr) s.M s.H Pl.wayB) e∧Below w.heap.size w w':=by
 have HIN:=hide (fun W (b:Below w.heap.size w W) h1 h2=>zo4 s W hok ha.n (Mem.zg5 hv.zk0 b) h1 h2 r0 r1 r2 r3 x0 x1 x2 x3 (hE.call b));have hs1:=hide (fun W (b:Below w.heap.size w W) h1=>cloneMn_any s.ma s.mc s.M W h1 ha.m (Mem.zf0 hv.zl8 b));have hs2:=hide (fun W (b:Below w.heap.size w W) h1=>cloneHn_any s.ha s.hc s.H W h1 ha.h (Mem.zg7 hv.hands b));have HPM:Hid (∀m∈s.M,m.p.size≤1048576∧MapI.i64 m.i):=hide (fun m hm=>⟨hok.mp m hm,hn.m m hm⟩);have HPH:Hid (∀m∈s.H,m.p.size≤1048576∧MapI.i64 m.i):=hide (fun m hm=>⟨hok.hp m hm,hn.h m hm⟩);clear hok hn ha hv hE;obtain ⟨ia,ic,N,ma,mc,M,ha,hc,H,next⟩:=s;simp only at HIN hs1 hs2 HPM HPH ⊢;unfold Pl.Sp.cs at HIN ⊢;simp only at HIN ⊢;have HS:Hid (∀q E sa sc ta tc (W:World),SpO.SpV w.heap.size W ⟨ia,ic,N,ma,mc,M,ha,hc,H,next⟩ q E sa sc ta tc→SpO.SpV w.heap.size W ⟨ia,ic,N,ma,mc,M,ha,hc,H,next⟩ q E sa sc ta tc):=hide (fun _ _ _ _ _ _ _ h=>h)
 have HEQ:Hid (Pl.zx1 next (N.map WSp.nr) M H Pl.wayB=(decide (N.length≤12)&&decide (M.length≤6)&&decide (H.length≤6)&&decide (next ≤1000000)&&Pl.zq4 (N.map WSp.nr) next &&Pl.zl5 (N.map (·.d)) M&&Pl.zx6 (N.map (·.d)) next Pl.wayB H&&Pl.zr4 (N.map (·.d)) M H)):=hide (by
  unfold Pl.zx1;rw [List.length_map,List.map_map]
  rfl)
 generalize Pl.zx1 next (N.map WSp.nr) M H Pl.wayB=RB at HEQ ⊢;unfold Spaced;simp only;have BB:Hid (Below w.heap.size w ((w.alloc (.cells #[.slice ia N.length ic, .slice ma M.length mc, .slice ha H.length hc, .int .i64 next] 32)).alloc (.cells #[.map none, .slice none 0 0, .slice none 0 0, .int .i64 0] 65))):=hide ((bE0).alloc (by simp) _);have V0:=hide ((Mem.Blk.new w #[.slice ia N.length ic, .slice ma M.length mc, .slice ha H.length hc, .int .i64 next] 32).alloc (.cells #[.map none, .slice none 0 0, .slice none 0 0, .int .i64 0] 65))
 have R0:Hid (Mem.Blk ((w.alloc (.cells #[.slice ia N.length ic, .slice ma M.length mc, .slice ha H.length hc, .int .i64 next] 32)).alloc (.cells #[.map none, .slice none 0 0, .slice none 0 0, .int .i64 0] 65)) (w.heap.size+1) #[.map none, .slice none 0 0, .slice none 0 0, .int .i64 0] 65):=hide (Mem.zh9 _ _ _);obtain ⟨a0,a1,a2,a3⟩:=jc4 (za V0);go_enter Tryz.func84,Tryz.ntmps84
 by_cases h1:¬N.length≤12
 ·have HEF:Hid (RB=false):=hide (by rw [za HEQ,decide_eq_false h1];rfl);have u1:(12:Int)<(N.length:Int):=by omega
  clear HEQ HIN hs1 hs2 HPM HPH HS;obtain ⟨⟨d0,d1,d2,d3⟩,f0,f1,f2,f3⟩:=jf4 (za R0);go_wp2
  refine bodyPost_ret (v:= .tuple #[.agg #[.map none, .slice none 0 0, .slice none 0 0, .int .i64 0], .bool false]) (by simp [results,Tryz.results84,go_sem,d0,d1,d2,d3]) rfl ⟨.inr ⟨za HEF,_,_,_,_,_,_,_,_,rfl⟩,?_⟩
  first |exact za BB|exact ((((za BB).setCell (by show w.heap.size≤w.heap.size+1;omega) _).setCell (by show w.heap.size≤w.heap.size+1;omega) _).setCell (by show w.heap.size≤w.heap.size+1;omega) _).setCell (by show w.heap.size≤w.heap.size+1;omega) _
 have u1:¬ (12:Int)<(N.length:Int):=by omega
 by_cases h2:¬M.length≤6
 ·have HEF:Hid (RB=false):=hide (by rw [za HEQ,decide_eq_false h2];simp);have u2:(6:Int)<(M.length:Int):=by omega
  clear HEQ HIN hs1 hs2 HPM HPH HS;obtain ⟨⟨d0,d1,d2,d3⟩,f0,f1,f2,f3⟩:=jf4 (za R0);go_wp2
  refine bodyPost_ret (v:= .tuple #[.agg #[.map none, .slice none 0 0, .slice none 0 0, .int .i64 0], .bool false]) (by simp [results,Tryz.results84,go_sem,d0,d1,d2,d3]) rfl ⟨.inr ⟨za HEF,_,_,_,_,_,_,_,_,rfl⟩,?_⟩
  first |exact za BB|exact ((((za BB).setCell (by show w.heap.size≤w.heap.size+1;omega) _).setCell (by show w.heap.size≤w.heap.size+1;omega) _).setCell (by show w.heap.size≤w.heap.size+1;omega) _).setCell (by show w.heap.size≤w.heap.size+1;omega) _
 have u2:¬ (6:Int)<(M.length:Int):=by omega
 by_cases h3:¬H.length≤6
 ·have HEF:Hid (RB=false):=hide (by rw [za HEQ,decide_eq_false h3];simp);have u3:(6:Int)<(H.length:Int):=by omega
  clear HEQ HIN hs1 hs2 HPM HPH HS;obtain ⟨⟨d0,d1,d2,d3⟩,f0,f1,f2,f3⟩:=jf4 (za R0);go_wp2
  refine bodyPost_ret (v:= .tuple #[.agg #[.map none, .slice none 0 0, .slice none 0 0, .int .i64 0], .bool false]) (by simp [results,Tryz.results84,go_sem,d0,d1,d2,d3]) rfl ⟨.inr ⟨za HEF,_,_,_,_,_,_,_,_,rfl⟩,?_⟩
  first |exact za BB|exact ((((za BB).setCell (by show w.heap.size≤w.heap.size+1;omega) _).setCell (by show w.heap.size≤w.heap.size+1;omega) _).setCell (by show w.heap.size≤w.heap.size+1;omega) _).setCell (by show w.heap.size≤w.heap.size+1;omega) _
 have u3:¬ (6:Int)<(H.length:Int):=by omega
 by_cases h4:¬next ≤1000000
 ·have HEF:Hid (RB=false):=hide (by rw [za HEQ,decide_eq_false h4];simp);have u4:(1000000:Int)<next :=by omega
  clear HEQ HIN hs1 hs2 HPM HPH HS;obtain ⟨⟨d0,d1,d2,d3⟩,f0,f1,f2,f3⟩:=jf4 (za R0);go_wp2
  refine bodyPost_ret (v:= .tuple #[.agg #[.map none, .slice none 0 0, .slice none 0 0, .int .i64 0], .bool false]) (by simp [results,Tryz.results84,go_sem,d0,d1,d2,d3]) rfl ⟨.inr ⟨za HEF,_,_,_,_,_,_,_,_,rfl⟩,?_⟩
  first |exact za BB|exact ((((za BB).setCell (by show w.heap.size≤w.heap.size+1;omega) _).setCell (by show w.heap.size≤w.heap.size+1;omega) _).setCell (by show w.heap.size≤w.heap.size+1;omega) _).setCell (by show w.heap.size≤w.heap.size+1;omega) _
 have u4:¬ (1000000:Int)<next :=by omega
 have h1':N.length≤12:=by omega
 have h2':M.length≤6:=by omega
 have h3':H.length≤6:=by omega
 have h4':next ≤1000000:=by omega
 clear h1 h2 h3 h4;rw [decide_eq_true h1',decide_eq_true h2',decide_eq_true h3',decide_eq_true h4'] at HEQ;simp only [Bool.true_and] at HEQ;have HC:=hide (za HIN _ (za BB) h1' h4');clear HIN;go_wp2_with fail
 generalize ((w.alloc (.cells #[.slice ia N.length ic, .slice ma M.length mc, .slice ha H.length hc, .int .i64 next] 32)).alloc (.cells #[.map none, .slice none 0 0, .slice none 0 0, .int .i64 0] 65))=vA at BB V0 R0 a0 a1 a2 a3 HC ⊢;refine (za HC).mono ?_;rintro e vR ⟨hI,bX⟩;have V1:=hide ((za V0).call bX);have R1:=hide ((za R0).call bX);have B1:=hide ((za BB).trans (bX.mono (za BB).size));have hlA:w.heap.size+1<vA.heap.size:=(za R0).lt;have hlR:=bX.size;clear HC V0 R0 BB bX a0 a1 a2 a3
 rcases hI with ⟨hRB,q,E,rfl,hq,hids,hmo,hns,hq2⟩|⟨hRB,rfl⟩
 rotate_left
 ·have HEF:Hid (RB=false):=hide (by rw [za HEQ,hRB];rfl);have R0:=R1;have BB:=B1;clear HEQ hs1 hs2 HPM HPH HS hRB;obtain ⟨⟨d0,d1,d2,d3⟩,f0,f1,f2,f3⟩:=jf4 (za R0);go_wp2
  refine bodyPost_ret (v:= .tuple #[.agg #[.map none, .slice none 0 0, .slice none 0 0, .int .i64 0], .bool false]) (by simp [results,Tryz.results84,go_sem,d0,d1,d2,d3]) rfl ⟨.inr ⟨za HEF,_,_,_,_,_,_,_,_,rfl⟩,?_⟩
  first |exact za BB|exact ((((za BB).setCell (by show w.heap.size≤w.heap.size+1;omega) _).setCell (by show w.heap.size≤w.heap.size+1;omega) _).setCell (by show w.heap.size≤w.heap.size+1;omega) _).setCell (by show w.heap.size≤w.heap.size+1;omega) _
 rw [hRB] at HEQ;simp only [Bool.true_and] at HEQ;have HEP:=hide (ids_apart hRB hids);have HIDS:=hide hids;have HMO:=hide hmo;have HNS:=hide hns;have hql:=hmo.lt;clear hRB hids hmo hns;go_upto_region 6 with fail
 have MK6:Hid (∀W',Below vR.heap.size vR W'→(Below vR.heap.size vR W'∧W'.cell? ⟨w.heap.size,1,none⟩=some (.slice ma M.length mc)∧W'.cell? ⟨w.heap.size,2,none⟩=some (.slice ha H.length hc)∧W'.cell? ⟨w.heap.size,3,none⟩=some (.int .i64 next))):=fun W' hb'=>⟨hb',(hb'.cell (p:=⟨w.heap.size,1,none⟩) (by show w.heap.size<vR.heap.size;omega)).trans ((za V1).cell 1),(hb'.cell (p:=⟨w.heap.size,2,none⟩) (by show w.heap.size<vR.heap.size;omega)).trans ((za V1).cell 2),(hb'.cell (p:=⟨w.heap.size,3,none⟩) (by show w.heap.size<vR.heap.size;omega)).trans ((za V1).cell 3)⟩;replace hs1:=hide (fun W (b:Below vR.heap.size vR W)=>za hs1 W ((za B1).trans (b.mono (za B1).size)) (by omega));replace hs2:=hide (fun W (b:Below vR.heap.size vR W)=>za hs2 W ((za B1).trans (b.mono (za B1).size)) (by omega))
 refine wp_merge (R:=fun T0 T' W=>∃ (X:Nat) (sa:Option Addr) (sc:Nat) (ta:Option Addr) (tc:Nat),T'=(((((((((((T0).setIfInBounds 37 (.map (some q))).setIfInBounds 38 (.pointer (some ⟨w.heap.size,1,none⟩))).setIfInBounds 39 (.slice ma M.length mc)).setIfInBounds 40 (.slice sa M.length sc)).setIfInBounds 41 (.pointer (some ⟨w.heap.size,2,none⟩))).setIfInBounds 42 (.slice ha H.length hc)).setIfInBounds 43 (.slice ta H.length tc)).setIfInBounds 44 (.pointer (some ⟨w.heap.size,3,none⟩))).setIfInBounds 45 (.int .i64 next)).setIfInBounds 46 (.agg #[.map (some q), .slice sa M.length sc, .slice ta H.length tc, .int .i64 next])).setIfInBounds 6 (.pointer (some ⟨X,0,none⟩))∧SpO.Rk vR W X q sa ta sc tc M H next) ?_ ?_
 ·refine wp_region_held_drew (S:=fun W'=>Below vR.heap.size vR W'∧W'.cell? ⟨w.heap.size,1,none⟩=some (.slice ma M.length mc)∧W'.cell? ⟨w.heap.size,2,none⟩=some (.slice ha H.length hc)∧W'.cell? ⟨w.heap.size,3,none⟩=some (.int .i64 next)) (by kernel_rfl) ?_ (fun hHeld=>?_)
  ·exact za MK6 _ (bD _)
  generalize vR.drew=D0 at hHeld ⊢;refine TB 0 ?_;refine TB 1 ?_;refine TB 2 ?_;refine TB 4 ?_;refine TB 5 ?_;refine TB 7 ?_;refine TB 8 ?_;have h:SpO.Ps vR D0 none none none M H:=⟨hHeld.1,fun _ h=>(by cases h),fun _ h=>(by cases h),fun _ h=>(by cases h)⟩
  apply SpO.meet (F:=fun W X sa sc ta tc=>SpO.Ps vR W (some X) (some (sa,sc)) (some (ta,tc)) M H)
  ·intro hEnd;refine wpAnyH_ready (rs:=[3,10]) (by kernel_rfl) (by simp) ?_;refine AllReadyH.cons rfl (fun K hK=>?_) (AllReadyH.cons rfl (fun K hK=>?_) (AllReadyH.nil))
   ·go_simp
    refine (za hs1 _ hHeld.1).mono ?_;rintro e XC3 ⟨⟨vs,rfl,O⟩,bX⟩;obtain ⟨sa,sc,hvs⟩:=Mem.zf1 O;subst hvs;replace h:=h.c1 bX O;refine hK.out _ _ ?_ (fun hHeld=>?_)
    ·exact za MK6 _ h.bel
    clear hK K
    try simp only [Act.put,kBs]
    clear bX O;refine wpAnyH_ready (rs:=[6,10]) (by kernel_rfl) (by simp) ?_;refine AllReadyH.cons rfl (fun K hK=>?_) (AllReadyH.cons rfl (fun K hK=>?_) (AllReadyH.nil))
    ·go_simp
     refine (za hs2 _ hHeld.1).mono ?_;rintro e XC6 ⟨⟨vs,rfl,O⟩,bX⟩;obtain ⟨ta,tc,hvs⟩:=Mem.zf1 O;subst hvs;replace h:=h.c2 bX O;refine hK.out _ _ ?_ (fun hHeld=>?_)
     ·exact za MK6 _ h.bel
     clear hK K
     try simp only [Act.put,kBs]
     clear bX O;refine TB 9 ?_;refine RN 10 fun K hK=>?_;go_simp
     replace h:=h.ax;refine hK.out _ _ ?_ (fun hHeld=>?_)
     ·exact za MK6 _ h.bel
     clear hK K
     try simp only [Act.put,kBs]
     generalize XC6.alloc SpO.Z=XA10 at hHeld h ⊢;generalize XC6.heap.size=X10 at h ⊢;exact hEnd _ _ _ _ _ _ h
    ·go_simp
     replace h:=h.ax;refine hK.out _ _ ?_ (fun hHeld=>?_)
     ·exact za MK6 _ h.bel
     clear hK K
     try simp only [Act.put,kBs]
     generalize XC3.alloc SpO.Z=XA10 at hHeld h ⊢;generalize XC3.heap.size=X10 at h ⊢;refine RN 6 fun K hK=>?_;go_simp
     refine (za hs2 _ hHeld.1).mono ?_;rintro e XC6 ⟨⟨vs,rfl,O⟩,bX⟩;obtain ⟨ta,tc,hvs⟩:=Mem.zf1 O;subst hvs;replace h:=h.c2 bX O;refine hK.out _ _ ?_ (fun hHeld=>?_)
     ·exact za MK6 _ h.bel
     clear hK K
     try simp only [Act.put,kBs]
     clear bX O;refine TB 9 ?_;exact hEnd _ _ _ _ _ _ h
   ·go_simp
    replace h:=h.ax;refine hK.out _ _ ?_ (fun hHeld=>?_)
    ·exact za MK6 _ h.bel
    clear hK K
    try simp only [Act.put,kBs]
    generalize D0.alloc SpO.Z=XA10 at hHeld h ⊢;generalize D0.heap.size=X10 at h ⊢;refine RN 3 fun K hK=>?_;go_simp
    refine (za hs1 _ hHeld.1).mono ?_;rintro e XC3 ⟨⟨vs,rfl,O⟩,bX⟩;obtain ⟨sa,sc,hvs⟩:=Mem.zf1 O;subst hvs;replace h:=h.c1 bX O;refine hK.out _ _ ?_ (fun hHeld=>?_)
    ·exact za MK6 _ h.bel
    clear hK K
    try simp only [Act.put,kBs]
    clear bX O;refine RN 6 fun K hK=>?_;go_simp
    refine (za hs2 _ hHeld.1).mono ?_;rintro e XC6 ⟨⟨vs,rfl,O⟩,bX⟩;obtain ⟨ta,tc,hvs⟩:=Mem.zf1 O;subst hvs;replace h:=h.c2 bX O;refine hK.out _ _ ?_ (fun hHeld=>?_)
    ·exact za MK6 _ h.bel
    clear hK K
    try simp only [Act.put,kBs]
    clear bX O;refine TB 9 ?_;exact hEnd _ _ _ _ _ _ h
  ·intro W X sa sc ta tc h;have hHeld:=za MK6 _ h.bel;have GOT:=hide (h.fin (q:=q) next);have E5:=(h.bx _ rfl).1;have hb:=h.bel;clear h;refine RN 11 fun K hK=>?_;obtain ⟨⟨d0,d1,d2,d3⟩,f0,f1,f2,f3⟩:=jf4 E5;go_simp
   refine hK.out _ _ ?_ (fun hHeld=>?_)
   ·exact za MK6 _ (za GOT).bel
   clear hK K
   try simp only [Act.put,kBs]
   clear d0 d1 d2 d3 f0 f1 f2 f3;refine wpAnyH_done (by kernel_rfl) ?_ _;refine ⟨rfl,rfl,X,sa,sc,ta,tc,?_,za GOT⟩;simp only [kB3,kB4,kB5]
 rintro T' vS ⟨X,sa,sc,ta,tc,hT',hRk⟩;simp only [kB3,kB4,kB5] at hT';subst hT';clear MK6 hs1 hs2;have hG:SpO.SpV w.heap.size vS ⟨ia,ic,N,ma,mc,M,ha,hc,H,next⟩ q E sa sc ta tc:=⟨by omega,za HIDS,MapI.zf9 (za HMO) hRk.bel,⟨vR,(za HNS).mono (by omega),hRk.bel.size,hql,fun b hb hl=>hRk.bel.block b hl,hRk.q1,hRk.q2⟩,hRk.ne⟩;have RS:=hide ((za R1).call hRk.bel);have hBS:Below w.heap.size w vS:=(za B1).trans (hRk.bel.mono (za B1).size);have HEB:Hid (Below w.heap.size w vS):=hide hBS;have hbx:=hRk.bx;have hlx:=hRk.lx;clear hRk B1 V1 R1 HMO HNS;have HM:=hide (fun W (h:SpO.SpV w.heap.size W ⟨ia,ic,N,ma,mc,M,ha,hc,H,next⟩ q E sa sc ta tc)=>yc6 q E 12 sa sc M ta tc H next W (by omega) h.zl8 (za HPM) (za HEP) h.mo)
 have HH:=hide (fun W (h:SpO.SpV w.heap.size W ⟨ia,ic,N,ma,mc,M,ha,hc,H,next⟩ q E sa sc ta tc)=>hands_any q E 12 sa M.length sc ta tc H next W (by omega) h.hands (za HPH) (za HEP) h.mo);have HU:=hide (fun W (h:SpO.SpV w.heap.size W ⟨ia,ic,N,ma,mc,M,ha,hc,H,next⟩ q E sa sc ta tc)=>unused_any q E 12 sa sc M ta tc H next W (by omega) (by omega) h.zl8 h.hands (za HEP) h.mo);rw [za HIDS] at HM HH HU;generalize Pl.zl5 (N.map (·.d)) M=RM at HEQ HM;generalize Pl.zx6 (N.map (·.d)) next Pl.wayB H=RH at HEQ HH;generalize Pl.zr4 (N.map (·.d)) M H=RU at HEQ HU;have HGV:=hide hG;have HBX:=hide hbx;have hqw:w.heap.size+1<q:=by omega
 have hXw:w.heap.size+1<X:=by omega
 have MK7:Hid (∀W',Below w.heap.size w W'→Mem.Blk W' X #[.map (some q), .slice sa M.length sc, .slice ta H.length tc, .int .i64 next] 65→(fun W'=>Below w.heap.size w W'∧W'.cell? ⟨X,0,none⟩=some (.map (some q))∧W'.cell? ⟨X,1,none⟩=some (.slice sa M.length sc)∧W'.cell? ⟨X,2,none⟩=some (.slice ta H.length tc)∧W'.cell? ⟨X,3,none⟩=some (.int .i64 next)) W'):=fun W' hb' hx'=>⟨hb',hx'.cell 0,hx'.cell 1,hx'.cell 2,hx'.cell 3⟩;clear hG hbx HPM HPH HEP HIDS hBS HS hql hq hq2 hlR hlA hlx;go_upto_region 7 with fail
 have HEF:=hide (za HEQ);clear HEQ;cases RM
 ·clear HH HU;simp only [Bool.false_and] at HEF;refine wp_region_held_drew (S:=fun W'=>Below w.heap.size w W'∧W'.cell? ⟨X,0,none⟩=some (.map (some q))∧W'.cell? ⟨X,1,none⟩=some (.slice sa M.length sc)∧W'.cell? ⟨X,2,none⟩=some (.slice ta H.length tc)∧W'.cell? ⟨X,3,none⟩=some (.int .i64 next)) (by kernel_rfl) ?_ (fun hHeld=>?_)
  ·exact za MK7 _ ((za HEB).trans ⟨rfl,rfl,rfl,Nat.le_refl _,fun _ _=>rfl⟩) ((za HBX).call ((Below.refl _ _).trans ⟨rfl,rfl,rfl,Nat.le_refl _,fun _ _=>rfl⟩:Below vS.heap.size vS vS.drew))
  have hR:=(za RS).call ((Below.refl _ _).trans ⟨rfl,rfl,rfl,Nat.le_refl _,fun _ _=>rfl⟩:Below vS.heap.size vS vS.drew);have hX:=(za HBX).call ((Below.refl _ _).trans ⟨rfl,rfl,rfl,Nat.le_refl _,fun _ _=>rfl⟩:Below vS.heap.size vS vS.drew);have hG:=(za HGV).call ((Below.refl _ _).trans ⟨rfl,rfl,rfl,Nat.le_refl _,fun _ _=>rfl⟩:Below vS.heap.size vS vS.drew);clear RS HBX HGV HEB;generalize vS.drew=D0 at hHeld hR hX hG ⊢;refine TB 0 ?_;refine TB 1 ?_;refine RN 2 fun K hK=>?_;go_simp
  refine (za HM _ hG).mono ?_;rintro e D1 ⟨rfl,bX⟩;replace hR:=hR.call bX;replace hX:=hX.call bX;replace hG:=hG.call bX;refine hK.out _ _ ?_ (fun hHeld=>?_)
  ·exact za MK7 _ (hHeld.1.trans (bX.mono hHeld.1.size)) hX
  clear hK K bX
  try simp only [Act.put,kBs]
  refine TB 3 ?_;refine TC 4 ?_;refine TC 5 ?_;refine TB 6 ?_;refine TB 7 ?_;refine TC 8 ?_;refine TC 9 ?_;refine TB 10 ?_;obtain ⟨⟨d0,d1,d2,d3⟩,f0,f1,f2,f3⟩:=jf4 hR;refine RN 11 fun K hK=>?_;go_simp
  have BF:Below w.heap.size w ((((D1.setCell ⟨w.heap.size+1,0,none⟩ (.map (some q))).setCell ⟨w.heap.size+1,1,none⟩ (.slice sa M.length sc)).setCell ⟨w.heap.size+1,2,none⟩ (.slice ta H.length tc)).setCell ⟨w.heap.size+1,3,none⟩ (.int .i64 next)):=(((hHeld.1.setCell (by show w.heap.size≤w.heap.size+1;omega) _).setCell (by show w.heap.size≤w.heap.size+1;omega) _).setCell (by show w.heap.size≤w.heap.size+1;omega) _).setCell (by show w.heap.size≤w.heap.size+1;omega) _;have RF:Mem.Blk ((((D1.setCell ⟨w.heap.size+1,0,none⟩ (.map (some q))).setCell ⟨w.heap.size+1,1,none⟩ (.slice sa M.length sc)).setCell ⟨w.heap.size+1,2,none⟩ (.slice ta H.length tc)).setCell ⟨w.heap.size+1,3,none⟩ (.int .i64 next)) (w.heap.size+1) #[.map (some q), .slice sa M.length sc, .slice ta H.length tc, .int .i64 next] 65:=(((hR.put 0 _).put 1 _).put 2 _).put 3 _
  have XF:Mem.Blk ((((D1.setCell ⟨w.heap.size+1,0,none⟩ (.map (some q))).setCell ⟨w.heap.size+1,1,none⟩ (.slice sa M.length sc)).setCell ⟨w.heap.size+1,2,none⟩ (.slice ta H.length tc)).setCell ⟨w.heap.size+1,3,none⟩ (.int .i64 next)) X #[.map (some q), .slice sa M.length sc, .slice ta H.length tc, .int .i64 next] 65:=(((hX.far _ _ (by show X≠w.heap.size+1;omega)).far _ _ (by show X≠w.heap.size+1;omega)).far _ _ (by show X≠w.heap.size+1;omega)).far _ _ (by show X≠w.heap.size+1;omega);have GF:SpO.SpV w.heap.size ((((D1.setCell ⟨w.heap.size+1,0,none⟩ (.map (some q))).setCell ⟨w.heap.size+1,1,none⟩ (.slice sa M.length sc)).setCell ⟨w.heap.size+1,2,none⟩ (.slice ta H.length tc)).setCell ⟨w.heap.size+1,3,none⟩ (.int .i64 next)) ⟨ia,ic,N,ma,mc,M,ha,hc,H,next⟩ q E sa sc ta tc:=(((hG.far 0 _ hqw).far 1 _ hqw).far 2 _ hqw).far 3 _ hqw;refine hK.out _ _ ?_ (fun hHeld=>?_)
  ·exact za MK7 _ BF XF
  clear hK K d0 d1 d2 d3 f0 f1 f2 f3 hR hX hG
  try simp only [Act.put,kBs]
  generalize (((D1.setCell ⟨w.heap.size+1,0,none⟩ (.map (some q))).setCell ⟨w.heap.size+1,1,none⟩ (.slice sa M.length sc)).setCell ⟨w.heap.size+1,2,none⟩ (.slice ta H.length tc)).setCell ⟨w.heap.size+1,3,none⟩ (.int .i64 next)=wF at BF RF XF GF hHeld ⊢;refine TB 12 ?_;refine wpAnyH_done (by kernel_rfl) ?_ _;obtain ⟨e0,e1,e2,e3⟩:=jc4 RF;go_wp2
  refine bodyPost_ret (v:= .tuple #[.agg #[.map (some q), .slice sa M.length sc, .slice ta H.length tc, .int .i64 next], .bool false]) (by simp [results,Tryz.results84,go_sem,e0,e1,e2,e3]) rfl ⟨.inr ⟨za HEF,_,_,_,_,_,_,_,_,rfl⟩,BF⟩
 simp only [Bool.true_and] at HEF;cases RH
 ·clear HU;simp only [Bool.false_and] at HEF;refine wp_region_held_drew (S:=fun W'=>Below w.heap.size w W'∧W'.cell? ⟨X,0,none⟩=some (.map (some q))∧W'.cell? ⟨X,1,none⟩=some (.slice sa M.length sc)∧W'.cell? ⟨X,2,none⟩=some (.slice ta H.length tc)∧W'.cell? ⟨X,3,none⟩=some (.int .i64 next)) (by kernel_rfl) ?_ (fun hHeld=>?_)
  ·exact za MK7 _ ((za HEB).trans ⟨rfl,rfl,rfl,Nat.le_refl _,fun _ _=>rfl⟩) ((za HBX).call ((Below.refl _ _).trans ⟨rfl,rfl,rfl,Nat.le_refl _,fun _ _=>rfl⟩:Below vS.heap.size vS vS.drew))
  have hR:=(za RS).call ((Below.refl _ _).trans ⟨rfl,rfl,rfl,Nat.le_refl _,fun _ _=>rfl⟩:Below vS.heap.size vS vS.drew);have hX:=(za HBX).call ((Below.refl _ _).trans ⟨rfl,rfl,rfl,Nat.le_refl _,fun _ _=>rfl⟩:Below vS.heap.size vS vS.drew);have hG:=(za HGV).call ((Below.refl _ _).trans ⟨rfl,rfl,rfl,Nat.le_refl _,fun _ _=>rfl⟩:Below vS.heap.size vS vS.drew);clear RS HBX HGV HEB;generalize vS.drew=D0 at hHeld hR hX hG ⊢;refine TB 0 ?_;refine TB 1 ?_;refine RN 2 fun K hK=>?_;go_simp
  refine (za HM _ hG).mono ?_;rintro e D1 ⟨rfl,bX⟩;replace hR:=hR.call bX;replace hX:=hX.call bX;replace hG:=hG.call bX;refine hK.out _ _ ?_ (fun hHeld=>?_)
  ·exact za MK7 _ (hHeld.1.trans (bX.mono hHeld.1.size)) hX
  clear hK K bX
  try simp only [Act.put,kBs]
  refine TB 3 ?_;refine TB 4 ?_;refine RN 5 fun K hK=>?_;go_simp
  refine (za HH _ hG).mono ?_;rintro e D2 ⟨rfl,bX⟩;replace hR:=hR.call bX;replace hX:=hX.call bX;replace hG:=hG.call bX;refine hK.out _ _ ?_ (fun hHeld=>?_)
  ·exact za MK7 _ (hHeld.1.trans (bX.mono hHeld.1.size)) hX
  clear hK K bX
  try simp only [Act.put,kBs]
  refine TB 6 ?_;refine TB 7 ?_;refine TC 8 ?_;refine TC 9 ?_;refine TB 10 ?_;obtain ⟨⟨d0,d1,d2,d3⟩,f0,f1,f2,f3⟩:=jf4 hR;refine RN 11 fun K hK=>?_;go_simp
  have BF:Below w.heap.size w ((((D2.setCell ⟨w.heap.size+1,0,none⟩ (.map (some q))).setCell ⟨w.heap.size+1,1,none⟩ (.slice sa M.length sc)).setCell ⟨w.heap.size+1,2,none⟩ (.slice ta H.length tc)).setCell ⟨w.heap.size+1,3,none⟩ (.int .i64 next)):=(((hHeld.1.setCell (by show w.heap.size≤w.heap.size+1;omega) _).setCell (by show w.heap.size≤w.heap.size+1;omega) _).setCell (by show w.heap.size≤w.heap.size+1;omega) _).setCell (by show w.heap.size≤w.heap.size+1;omega) _;have RF:Mem.Blk ((((D2.setCell ⟨w.heap.size+1,0,none⟩ (.map (some q))).setCell ⟨w.heap.size+1,1,none⟩ (.slice sa M.length sc)).setCell ⟨w.heap.size+1,2,none⟩ (.slice ta H.length tc)).setCell ⟨w.heap.size+1,3,none⟩ (.int .i64 next)) (w.heap.size+1) #[.map (some q), .slice sa M.length sc, .slice ta H.length tc, .int .i64 next] 65:=(((hR.put 0 _).put 1 _).put 2 _).put 3 _
  have XF:Mem.Blk ((((D2.setCell ⟨w.heap.size+1,0,none⟩ (.map (some q))).setCell ⟨w.heap.size+1,1,none⟩ (.slice sa M.length sc)).setCell ⟨w.heap.size+1,2,none⟩ (.slice ta H.length tc)).setCell ⟨w.heap.size+1,3,none⟩ (.int .i64 next)) X #[.map (some q), .slice sa M.length sc, .slice ta H.length tc, .int .i64 next] 65:=(((hX.far _ _ (by show X≠w.heap.size+1;omega)).far _ _ (by show X≠w.heap.size+1;omega)).far _ _ (by show X≠w.heap.size+1;omega)).far _ _ (by show X≠w.heap.size+1;omega);have GF:SpO.SpV w.heap.size ((((D2.setCell ⟨w.heap.size+1,0,none⟩ (.map (some q))).setCell ⟨w.heap.size+1,1,none⟩ (.slice sa M.length sc)).setCell ⟨w.heap.size+1,2,none⟩ (.slice ta H.length tc)).setCell ⟨w.heap.size+1,3,none⟩ (.int .i64 next)) ⟨ia,ic,N,ma,mc,M,ha,hc,H,next⟩ q E sa sc ta tc:=(((hG.far 0 _ hqw).far 1 _ hqw).far 2 _ hqw).far 3 _ hqw;refine hK.out _ _ ?_ (fun hHeld=>?_)
  ·exact za MK7 _ BF XF
  clear hK K d0 d1 d2 d3 f0 f1 f2 f3 hR hX hG
  try simp only [Act.put,kBs]
  generalize (((D2.setCell ⟨w.heap.size+1,0,none⟩ (.map (some q))).setCell ⟨w.heap.size+1,1,none⟩ (.slice sa M.length sc)).setCell ⟨w.heap.size+1,2,none⟩ (.slice ta H.length tc)).setCell ⟨w.heap.size+1,3,none⟩ (.int .i64 next)=wF at BF RF XF GF hHeld ⊢;refine TB 12 ?_;refine wpAnyH_done (by kernel_rfl) ?_ _;obtain ⟨e0,e1,e2,e3⟩:=jc4 RF;go_wp2
  refine bodyPost_ret (v:= .tuple #[.agg #[.map (some q), .slice sa M.length sc, .slice ta H.length tc, .int .i64 next], .bool false]) (by simp [results,Tryz.results84,go_sem,e0,e1,e2,e3]) rfl ⟨.inr ⟨za HEF,_,_,_,_,_,_,_,_,rfl⟩,BF⟩
 simp only [Bool.true_and] at HEF;cases RU
 ·refine wp_region_held_drew (S:=fun W'=>Below w.heap.size w W'∧W'.cell? ⟨X,0,none⟩=some (.map (some q))∧W'.cell? ⟨X,1,none⟩=some (.slice sa M.length sc)∧W'.cell? ⟨X,2,none⟩=some (.slice ta H.length tc)∧W'.cell? ⟨X,3,none⟩=some (.int .i64 next)) (by kernel_rfl) ?_ (fun hHeld=>?_)
  ·exact za MK7 _ ((za HEB).trans ⟨rfl,rfl,rfl,Nat.le_refl _,fun _ _=>rfl⟩) ((za HBX).call ((Below.refl _ _).trans ⟨rfl,rfl,rfl,Nat.le_refl _,fun _ _=>rfl⟩:Below vS.heap.size vS vS.drew))
  have hR:=(za RS).call ((Below.refl _ _).trans ⟨rfl,rfl,rfl,Nat.le_refl _,fun _ _=>rfl⟩:Below vS.heap.size vS vS.drew);have hX:=(za HBX).call ((Below.refl _ _).trans ⟨rfl,rfl,rfl,Nat.le_refl _,fun _ _=>rfl⟩:Below vS.heap.size vS vS.drew);have hG:=(za HGV).call ((Below.refl _ _).trans ⟨rfl,rfl,rfl,Nat.le_refl _,fun _ _=>rfl⟩:Below vS.heap.size vS vS.drew);clear RS HBX HGV HEB;generalize vS.drew=D0 at hHeld hR hX hG ⊢;refine TB 0 ?_;refine TB 1 ?_;refine RN 2 fun K hK=>?_;go_simp
  refine (za HM _ hG).mono ?_;rintro e D1 ⟨rfl,bX⟩;replace hR:=hR.call bX;replace hX:=hX.call bX;replace hG:=hG.call bX;refine hK.out _ _ ?_ (fun hHeld=>?_)
  ·exact za MK7 _ (hHeld.1.trans (bX.mono hHeld.1.size)) hX
  clear hK K bX
  try simp only [Act.put,kBs]
  refine TB 3 ?_;refine TB 4 ?_;refine RN 5 fun K hK=>?_;go_simp
  refine (za HH _ hG).mono ?_;rintro e D2 ⟨rfl,bX⟩;replace hR:=hR.call bX;replace hX:=hX.call bX;replace hG:=hG.call bX;refine hK.out _ _ ?_ (fun hHeld=>?_)
  ·exact za MK7 _ (hHeld.1.trans (bX.mono hHeld.1.size)) hX
  clear hK K bX
  try simp only [Act.put,kBs]
  refine TB 6 ?_;refine TB 7 ?_;refine TB 8 ?_;refine RN 9 fun K hK=>?_;go_simp
  refine (za HU _ hG).mono ?_;rintro e D3 ⟨rfl,bX⟩;replace hR:=hR.call bX;replace hX:=hX.call bX;replace hG:=hG.call bX;refine hK.out _ _ ?_ (fun hHeld=>?_)
  ·exact za MK7 _ (hHeld.1.trans (bX.mono hHeld.1.size)) hX
  clear hK K bX
  try simp only [Act.put,kBs]
  refine TB 10 ?_;obtain ⟨⟨d0,d1,d2,d3⟩,f0,f1,f2,f3⟩:=jf4 hR;refine RN 11 fun K hK=>?_;go_simp
  have BF:Below w.heap.size w ((((D3.setCell ⟨w.heap.size+1,0,none⟩ (.map (some q))).setCell ⟨w.heap.size+1,1,none⟩ (.slice sa M.length sc)).setCell ⟨w.heap.size+1,2,none⟩ (.slice ta H.length tc)).setCell ⟨w.heap.size+1,3,none⟩ (.int .i64 next)):=(((hHeld.1.setCell (by show w.heap.size≤w.heap.size+1;omega) _).setCell (by show w.heap.size≤w.heap.size+1;omega) _).setCell (by show w.heap.size≤w.heap.size+1;omega) _).setCell (by show w.heap.size≤w.heap.size+1;omega) _;have RF:Mem.Blk ((((D3.setCell ⟨w.heap.size+1,0,none⟩ (.map (some q))).setCell ⟨w.heap.size+1,1,none⟩ (.slice sa M.length sc)).setCell ⟨w.heap.size+1,2,none⟩ (.slice ta H.length tc)).setCell ⟨w.heap.size+1,3,none⟩ (.int .i64 next)) (w.heap.size+1) #[.map (some q), .slice sa M.length sc, .slice ta H.length tc, .int .i64 next] 65:=(((hR.put 0 _).put 1 _).put 2 _).put 3 _
  have XF:Mem.Blk ((((D3.setCell ⟨w.heap.size+1,0,none⟩ (.map (some q))).setCell ⟨w.heap.size+1,1,none⟩ (.slice sa M.length sc)).setCell ⟨w.heap.size+1,2,none⟩ (.slice ta H.length tc)).setCell ⟨w.heap.size+1,3,none⟩ (.int .i64 next)) X #[.map (some q), .slice sa M.length sc, .slice ta H.length tc, .int .i64 next] 65:=(((hX.far _ _ (by show X≠w.heap.size+1;omega)).far _ _ (by show X≠w.heap.size+1;omega)).far _ _ (by show X≠w.heap.size+1;omega)).far _ _ (by show X≠w.heap.size+1;omega);have GF:SpO.SpV w.heap.size ((((D3.setCell ⟨w.heap.size+1,0,none⟩ (.map (some q))).setCell ⟨w.heap.size+1,1,none⟩ (.slice sa M.length sc)).setCell ⟨w.heap.size+1,2,none⟩ (.slice ta H.length tc)).setCell ⟨w.heap.size+1,3,none⟩ (.int .i64 next)) ⟨ia,ic,N,ma,mc,M,ha,hc,H,next⟩ q E sa sc ta tc:=(((hG.far 0 _ hqw).far 1 _ hqw).far 2 _ hqw).far 3 _ hqw;refine hK.out _ _ ?_ (fun hHeld=>?_)
  ·exact za MK7 _ BF XF
  clear hK K d0 d1 d2 d3 f0 f1 f2 f3 hR hX hG
  try simp only [Act.put,kBs]
  generalize (((D3.setCell ⟨w.heap.size+1,0,none⟩ (.map (some q))).setCell ⟨w.heap.size+1,1,none⟩ (.slice sa M.length sc)).setCell ⟨w.heap.size+1,2,none⟩ (.slice ta H.length tc)).setCell ⟨w.heap.size+1,3,none⟩ (.int .i64 next)=wF at BF RF XF GF hHeld ⊢;refine TB 12 ?_;refine wpAnyH_done (by kernel_rfl) ?_ _;obtain ⟨e0,e1,e2,e3⟩:=jc4 RF;go_wp2
  refine bodyPost_ret (v:= .tuple #[.agg #[.map (some q), .slice sa M.length sc, .slice ta H.length tc, .int .i64 next], .bool false]) (by simp [results,Tryz.results84,go_sem,e0,e1,e2,e3]) rfl ⟨.inr ⟨za HEF,_,_,_,_,_,_,_,_,rfl⟩,BF⟩
 ·refine wp_region_held_drew (S:=fun W'=>Below w.heap.size w W'∧W'.cell? ⟨X,0,none⟩=some (.map (some q))∧W'.cell? ⟨X,1,none⟩=some (.slice sa M.length sc)∧W'.cell? ⟨X,2,none⟩=some (.slice ta H.length tc)∧W'.cell? ⟨X,3,none⟩=some (.int .i64 next)) (by kernel_rfl) ?_ (fun hHeld=>?_)
  ·exact za MK7 _ ((za HEB).trans ⟨rfl,rfl,rfl,Nat.le_refl _,fun _ _=>rfl⟩) ((za HBX).call ((Below.refl _ _).trans ⟨rfl,rfl,rfl,Nat.le_refl _,fun _ _=>rfl⟩:Below vS.heap.size vS vS.drew))
  have hR:=(za RS).call ((Below.refl _ _).trans ⟨rfl,rfl,rfl,Nat.le_refl _,fun _ _=>rfl⟩:Below vS.heap.size vS vS.drew);have hX:=(za HBX).call ((Below.refl _ _).trans ⟨rfl,rfl,rfl,Nat.le_refl _,fun _ _=>rfl⟩:Below vS.heap.size vS vS.drew);have hG:=(za HGV).call ((Below.refl _ _).trans ⟨rfl,rfl,rfl,Nat.le_refl _,fun _ _=>rfl⟩:Below vS.heap.size vS vS.drew);clear RS HBX HGV HEB;generalize vS.drew=D0 at hHeld hR hX hG ⊢;refine TB 0 ?_;refine TB 1 ?_;refine RN 2 fun K hK=>?_;go_simp
  refine (za HM _ hG).mono ?_;rintro e D1 ⟨rfl,bX⟩;replace hR:=hR.call bX;replace hX:=hX.call bX;replace hG:=hG.call bX;refine hK.out _ _ ?_ (fun hHeld=>?_)
  ·exact za MK7 _ (hHeld.1.trans (bX.mono hHeld.1.size)) hX
  clear hK K bX
  try simp only [Act.put,kBs]
  refine TB 3 ?_;refine TB 4 ?_;refine RN 5 fun K hK=>?_;go_simp
  refine (za HH _ hG).mono ?_;rintro e D2 ⟨rfl,bX⟩;replace hR:=hR.call bX;replace hX:=hX.call bX;replace hG:=hG.call bX;refine hK.out _ _ ?_ (fun hHeld=>?_)
  ·exact za MK7 _ (hHeld.1.trans (bX.mono hHeld.1.size)) hX
  clear hK K bX
  try simp only [Act.put,kBs]
  refine TB 6 ?_;refine TB 7 ?_;refine TB 8 ?_;refine RN 9 fun K hK=>?_;go_simp
  refine (za HU _ hG).mono ?_;rintro e D3 ⟨rfl,bX⟩;replace hR:=hR.call bX;replace hX:=hX.call bX;replace hG:=hG.call bX;refine hK.out _ _ ?_ (fun hHeld=>?_)
  ·exact za MK7 _ (hHeld.1.trans (bX.mono hHeld.1.size)) hX
  clear hK K bX
  try simp only [Act.put,kBs]
  refine TB 10 ?_;obtain ⟨⟨d0,d1,d2,d3⟩,f0,f1,f2,f3⟩:=jf4 hR;refine RN 11 fun K hK=>?_;go_simp
  have BF:Below w.heap.size w ((((D3.setCell ⟨w.heap.size+1,0,none⟩ (.map (some q))).setCell ⟨w.heap.size+1,1,none⟩ (.slice sa M.length sc)).setCell ⟨w.heap.size+1,2,none⟩ (.slice ta H.length tc)).setCell ⟨w.heap.size+1,3,none⟩ (.int .i64 next)):=(((hHeld.1.setCell (by show w.heap.size≤w.heap.size+1;omega) _).setCell (by show w.heap.size≤w.heap.size+1;omega) _).setCell (by show w.heap.size≤w.heap.size+1;omega) _).setCell (by show w.heap.size≤w.heap.size+1;omega) _;have RF:Mem.Blk ((((D3.setCell ⟨w.heap.size+1,0,none⟩ (.map (some q))).setCell ⟨w.heap.size+1,1,none⟩ (.slice sa M.length sc)).setCell ⟨w.heap.size+1,2,none⟩ (.slice ta H.length tc)).setCell ⟨w.heap.size+1,3,none⟩ (.int .i64 next)) (w.heap.size+1) #[.map (some q), .slice sa M.length sc, .slice ta H.length tc, .int .i64 next] 65:=(((hR.put 0 _).put 1 _).put 2 _).put 3 _
  have XF:Mem.Blk ((((D3.setCell ⟨w.heap.size+1,0,none⟩ (.map (some q))).setCell ⟨w.heap.size+1,1,none⟩ (.slice sa M.length sc)).setCell ⟨w.heap.size+1,2,none⟩ (.slice ta H.length tc)).setCell ⟨w.heap.size+1,3,none⟩ (.int .i64 next)) X #[.map (some q), .slice sa M.length sc, .slice ta H.length tc, .int .i64 next] 65:=(((hX.far _ _ (by show X≠w.heap.size+1;omega)).far _ _ (by show X≠w.heap.size+1;omega)).far _ _ (by show X≠w.heap.size+1;omega)).far _ _ (by show X≠w.heap.size+1;omega);have GF:SpO.SpV w.heap.size ((((D3.setCell ⟨w.heap.size+1,0,none⟩ (.map (some q))).setCell ⟨w.heap.size+1,1,none⟩ (.slice sa M.length sc)).setCell ⟨w.heap.size+1,2,none⟩ (.slice ta H.length tc)).setCell ⟨w.heap.size+1,3,none⟩ (.int .i64 next)) ⟨ia,ic,N,ma,mc,M,ha,hc,H,next⟩ q E sa sc ta tc:=(((hG.far 0 _ hqw).far 1 _ hqw).far 2 _ hqw).far 3 _ hqw;refine hK.out _ _ ?_ (fun hHeld=>?_)
  ·exact za MK7 _ BF XF
  clear hK K d0 d1 d2 d3 f0 f1 f2 f3 hR hX hG
  try simp only [Act.put,kBs]
  generalize (((D3.setCell ⟨w.heap.size+1,0,none⟩ (.map (some q))).setCell ⟨w.heap.size+1,1,none⟩ (.slice sa M.length sc)).setCell ⟨w.heap.size+1,2,none⟩ (.slice ta H.length tc)).setCell ⟨w.heap.size+1,3,none⟩ (.int .i64 next)=wF at BF RF XF GF hHeld ⊢;refine TB 12 ?_;refine wpAnyH_done (by kernel_rfl) ?_ _;obtain ⟨e0,e1,e2,e3⟩:=jc4 RF;go_wp2
  refine bodyPost_ret (v:= .tuple #[.agg #[.map (some q), .slice sa M.length sc, .slice ta H.length tc, .int .i64 next], .bool true]) (by simp [results,Tryz.results84,go_sem,e0,e1,e2,e3]) rfl ⟨(.inl ⟨za HEF,_,_,_,_,_,_,rfl,GF⟩),BF⟩
end WSpI
end Go.Proofs.YtbomeifgfalmdaaGreatDoor
