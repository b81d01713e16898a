/- Several texts of one claim in one file: WSpS14, WSpS16. -/
import Derived.Test.YtonffldjbmednaaGreatDoorG31
import Derived.Test.YtonffldjbmednaaGreatDoorG35
import Derived.Test.YtonffldjbmednaaGreatDoorG46
import Derived.Test.YtonffldjbmednaaGreatDoorPlainUnmount
import Derived.Laws.CopyRow
namespace Go.Proofs.YtonffldjbmednaaGreatDoor
section
open Go.RowKit
namespace WSp
structure F3 (n:Nat) (wr W:World) (cs:Array Value) (X:Nat):Prop where
 bel:Below n wr W
 blk:Mem.Blk W X cs 50
 xs:n≤X
structure Ww (w W:World) (V Y:Array Value) (X:Nat):Prop where
 bel:Below w.heap.size w W
 v:Mem.Blk W w.heap.size V 32
 u:Mem.Blk W (w.heap.size+1) #[.slice none 0 0, .slice none 0 0, .slice none 0 0, .int .i64 0] 32
 y:Mem.Blk W X Y 32
 x:w.heap.size+1<X
theorem Ww.call {w W W':World} {V Y:Array Value} {X:Nat} (h:Ww w W V Y X) (b:Below W.heap.size W W'):Ww w W' V Y X:=⟨h.bel.trans (b.mono h.bel.size),h.v.call b,h.u.call b,h.y.call b,h.x⟩
theorem Ww.grown {w W W':World} {V Y:Array Value} {X:Nat} {r:Option Nat} (h:Ww w W V Y X) (g:W.grownBy W' r) (hr:∀b,r=some b→X<b):Ww w W' V Y X:=
 ⟨h.bel.grown g h.bel.size (fun q hq=>by have :=hr q hq;have :=h.x;omega),h.v.grown g (fun e=>by have :=hr _ e.symm;have :=h.x;omega),h.u.grown g (fun e=>by have :=hr _ e.symm;have :=h.x;omega),h.y.grown g (fun e=>by have :=hr _ e.symm;omega),h.x⟩
theorem Ww.put {w W:World} {V Y:Array Value} {X:Nat} (h:Ww w W V Y X) (k:Nat) (v:Value):Ww w (W.setCell ⟨X,k,none⟩ v) V (Y.setIfInBounds k v) X:=
 ⟨h.bel.setCell (by have :=h.x;show w.heap.size≤X;omega) _,h.v.far _ _ (by have :=h.x;show w.heap.size≠X;omega),h.u.far _ _ (by have :=h.x;show w.heap.size+1≠X;omega),h.y.put k v,h.x⟩
def Without (w':World) (B:Nat) (NR:List (Int × List (Int × List Pl.Nd))) (M:List Pl.Mn) (H:List Pl.Hn) (next :Int) (e:Ending):Prop:=
 ∃u:Pl.Sp,e= .returned (.agg u.cs)∧u.N.map Pl.Ns.r=NR∧u.M=M∧u.H=H∧u.next=next ∧∀W',(∀b,B≤b→b<w'.heap.size→W'.heap[b]? =w'.heap[b]?)→w'.heap.size≤W'.heap.size→Mem.zc3 W' u
theorem row_band {w w':World} {B C e size n:Nat} {v:Value} {xs:List Value} (h:w.ownsRow B e size v n xs) (hB:C≤B) (hb:∀b,C≤b→b<w.heap.size→w'.heap[b]? =w.heap[b]?):w'.ownsRow B e size v n xs:=
 Mem.zc9 h (fun g hg=>by have :=World.ownsRow.lt h g hg;exact hb g (by omega) this.2)
theorem iz_band {W W':World} {S C:Nat} {v:Value} {Ns:List Pl.Ns} {lo hi:Nat→Nat} (h:Mem.Iz W S v Ns lo hi) (hC:C≤S) (hs:W.heap.size≤W'.heap.size) (hb:∀b,C≤b→b<W.heap.size→W'.heap[b]? =W.heap[b]?):Mem.Iz W' S v Ns lo hi:=
 ⟨row_band h.row hC hb,fun j x hx=>by
  obtain ⟨h1,h2,h3,h4,h5⟩:=h.each j x hx
  exact ⟨h1.same (fun b k1 k2=>hb b (by omega) (by omega)),h2,h3,Nat.le_trans h4 hs,h5⟩,h.rise⟩
set_option linter.unusedSimpArgs false in
set_option maxRecDepth 100000 in
set_option maxHeartbeats 4000000 in
theorem without_any (s:Pl.Sp) (p:ByteArray) (w:World) (hv:Mem.zc3 w s) (hma:∃g,s.ma=some ⟨g,0,none⟩) (hha:∃g,s.ha=some ⟨g,0,none⟩) (hM:s.M.length≤6) (hH:s.H.length≤6) (hN:s.N.length≤12)
  (hI:∀x∈s.N,x.Is.length≤12∧x.Is.length≠0∧(∀t∈x.Is,t.t.L.length≤1000)∧(∃g,x.a=some ⟨g,0,none⟩)∧∀t∈x.Is,Mem.okR t.t.a t.t.cap t.t.L) (hp:p.size≤1048576):
  Calls Tryz.prog 45 #[.agg s.cs, .string p] w fun e w'=>Without w' (w.heap.size+2) (Pl.keepN (s.N.map Pl.Ns.r) (Pl.delM s.M p) s.H) (Pl.delM s.M p) s.H s.next e∧Below w.heap.size w w':=by
 obtain ⟨j0,hj0,hjz0,hjz1,hjz2⟩:=info_parts WCp8.infoMn;have HCP:=hide (fun W (b:Below w.heap.size w W)=>WCp8.zr0 s W (hv.call b) (by obtain ⟨g,h⟩:=hma;exact ⟨g,0,h⟩) (by obtain ⟨g,h⟩:=hha;exact ⟨g,0,h⟩) hM hH hN hI);have HI:=hide hv.zh;have HUN:=hide (fun (t:Pl.Mn) W=>zi5.under1_any t.p p W hp);clear hv hma hha hI hp;obtain ⟨ia,ic,N,ma,mc,M,ha,hc,H,next⟩:=s;simp only at HCP HI hM hH hN ⊢;unfold Pl.Sp.cs at HCP ⊢;simp only at HCP ⊢;obtain ⟨f,hf⟩:∃f:Pl.Mn→Bool,f=fun m=>!Pl.under m.p p:=⟨_,rfl⟩;obtain ⟨cl,hcl⟩:∃cl:Nat→List Pl.Mn,cl=fun k=>(M.take k).filter f:=⟨_,rfl⟩;have HF:=hide hf;have HEND:Hid (cl M.length=Pl.delM M p):=hide (by rw [hcl,hf];simp [Pl.delM]);have HZ:Hid (cl 0=[]):=hide (by rw [hcl];simp);have HY:Hid (∀k t,M[k]? =some t→f t=true→cl (k+1)=cl k++[t]):=hide (fun k t h h2=>by rw [hcl];simp only;rw [List.take_add_one,h,List.filter_append];simp [h2])
 have HNo:Hid (∀k t,M[k]? =some t→f t=false→cl (k+1)=cl k):=hide (fun k t h h2=>by rw [hcl];simp only;rw [List.take_add_one,h,List.filter_append];simp [h2]);have HLE:Hid (∀k,(cl k).length≤6):=hide (fun k=>by rw [hcl];exact Nat.le_trans (List.length_filter_le _ _) (by rw [List.length_take];omega));generalize Pl.delM M p=DM at HEND ⊢;clear hcl hf;have b0:Below w.heap.size w ((w.alloc (.cells #[.slice ia N.length ic, .slice ma M.length mc, .slice ha H.length hc, .int .i64 next] 32)).alloc (.cells #[.slice none 0 0, .slice none 0 0, .slice none 0 0, .int .i64 0] 32)):=((Below.refl _ _).alloc (Nat.le_refl _) _).alloc (by simp) _;have V0:=hide ((Mem.Blk.new w #[.slice ia N.length ic, .slice ma M.length mc, .slice ha H.length hc, .int .i64 next] 32).alloc (.cells #[.slice none 0 0, .slice none 0 0, .slice none 0 0, .int .i64 0] 32))
 have U0:Hid (Mem.Blk ((w.alloc (.cells #[.slice ia N.length ic, .slice ma M.length mc, .slice ha H.length hc, .int .i64 next] 32)).alloc (.cells #[.slice none 0 0, .slice none 0 0, .slice none 0 0, .int .i64 0] 32)) (w.heap.size+1) #[.slice none 0 0, .slice none 0 0, .slice none 0 0, .int .i64 0] 32):=hide (Mem.zl8 w _ _);have hs0:((w.alloc (.cells #[.slice ia N.length ic, .slice ma M.length mc, .slice ha H.length hc, .int .i64 next] 32)).alloc (.cells #[.slice none 0 0, .slice none 0 0, .slice none 0 0, .int .i64 0] 32)).heap.size=w.heap.size+2:=by simp
 have a0:=(za V0).cell 0;have a1:=(za V0).cell 1;have a2:=(za V0).cell 2;have a3:=(za V0).cell 3;simp only [kGs] at a0 a1 a2 a3;go_enter Tryz.func45,Tryz.ntmps45
 go_wp2_with fail
 generalize (w.alloc (.cells #[.slice ia N.length ic, .slice ma M.length mc, .slice ha H.length hc, .int .i64 next] 32)).alloc (.cells #[.slice none 0 0, .slice none 0 0, .slice none 0 0, .int .i64 0] 32)=wA at b0 V0 U0 a0 a1 a2 a3 hs0 ⊢;refine (za HCP _ b0).mono ?_;rintro e w1 ⟨⟨u,rfl,S1,lo,hi,HTD⟩,bX⟩;have b1:=b0.trans (bX.mono b0.size);have hs1:=bX.size;have hUN:=hide HTD.n;have hUM:=HTD.m;have hUH:=HTD.h;have hUX:=HTD.x;have HOH:=hide HTD.oh;have HIZ:=hide HTD.iz;have hS1:=HTD.s1;have V1:=hide ((za V0).call bX);have U1:=hide ((za U0).call bX);clear bX HCP a0 a1 a2 a3 V0 U0 b0 HTD;obtain ⟨ui,uc,uN,um,umc,uM,uh,uhc,uH,ux⟩:=u;simp only at hUN hUM hUH hUX HOH HIZ
 (try unfold Pl.Sp.cs)
 (try simp only)
 subst hUM hUH hUX;have bA:Below w1.heap.size w1 (w1.alloc (.cells #[.slice ui uN.length uc, .slice none 0 0, .slice uh uH.length uhc, .int .i64 ux] 32)):=(Below.refl _ _).alloc (Nat.le_refl _) _;have W3:Hid (Ww w (w1.alloc (.cells #[.slice ui uN.length uc, .slice none 0 0, .slice uh uH.length uhc, .int .i64 ux] 32)) #[.slice ia N.length ic, .slice ma uM.length mc, .slice ha uH.length hc, .int .i64 ux] #[.slice ui uN.length uc, .slice none 0 0, .slice uh uH.length uhc, .int .i64 ux] w1.heap.size):=hide ⟨b1.trans (bA.mono b1.size),(za V1).call bA,(za U1).call bA,Mem.Blk.new _ _ _,by omega⟩;have hs3:(w1.alloc (.cells #[.slice ui uN.length uc, .slice none 0 0, .slice uh uH.length uhc, .int .i64 ux] 32)).heap.size=w1.heap.size+1:=by simp
 have HB3:=hide bA;go_upto_region 3 with fail
 generalize w1.alloc (.cells #[.slice ui uN.length uc, .slice none 0 0, .slice uh uH.length uhc, .int .i64 ux] 32)=w3 at W3 hs3 HB3 ⊢;have Z3:Hid (Mem.own3 50 Pl.Mn.cs w3 (w1.heap.size+1) (.slice none 0 0) []):=hide (Mem.zv0 _ _ _ _);clear bA V1 U1 b1;go_wp2
 go_loopw [6] (fun i wr=>∃ (k:Nat) (a:Option Addr) (c:Nat),k≤uM.length∧i= .int .i64 (k:Int)∧Hid (Ww w wr #[.slice ia N.length ic, .slice ma uM.length mc, .slice ha uH.length hc, .int .i64 ux] #[.slice ui uN.length uc, .slice a (cl k).length c, .slice uh uH.length uhc, .int .i64 ux] w1.heap.size)∧Hid (Mem.own3 50 Pl.Mn.cs wr (w1.heap.size+1) (.slice a (cl k).length c) (cl k))∧Hid (Below w1.heap.size w1 wr)∧w1.heap.size+1≤wr.heap.size) (fun i _=>uM.length - (intOf i).toNat)
 case atStart=>exact ⟨0,none,0,Nat.zero_le _,rfl,by rw [za HZ];exact W3,by rw [za HZ];exact Z3,HB3,by omega⟩
 case round=>
  obtain ⟨k,a,c,hk,rfl,HC,HO,HB,hS⟩:=hrel;clear W3 Z3 hs3 HB3;have v0:=(za HC).v.cell 1;simp only [kGs] at v0;by_cases hlt:k<uM.length
  ·obtain ⟨t,ht⟩:∃n,uM[k]? =some n:=⟨_,List.getElem?_eq_getElem hlt⟩;have bw:=(za HC).bel;obtain ⟨g,o,rfl,hg,q0,q1,q2⟩:=(za HI) k t ht;have HQ:=hide (And.intro q0 (And.intro q1 q2));have u1:(k:Int)<(uM.length:Int):=by omega
   have u3:(0:Int)≤(k:Int):=by omega
   have c0:=(bw.cell (p:=⟨g,_,none⟩) hg).trans q0;have HT:=hide ht;have hft:f t= !Pl.under t.p p:=by rw [za HF]
   have HD:=hide (za HUN t wr);have HFT:=hide hft;generalize Pl.under t.p p=R at HD HFT;clear ht hft q0 q1 q2;go_wp2_with fail
   refine (za HD).mono ?_;rintro e W ⟨rfl,hw⟩;subst W;clear HD c0;cases R
   ·have HCe:=hide (za HY k t (za HT) (by rw [za HFT];rfl));have hl12:=za HLE k;clear HFT v0;have MK:Hid (∀W',Below w.heap.size w W'→Mem.Blk W' w.heap.size #[.slice ia N.length ic, .slice (some ⟨g,o,none⟩) uM.length mc, .slice ha uH.length hc, .int .i64 ux] 32→(W'.cell? ⟨w.heap.size,1,none⟩=some (.slice (some ⟨g,o,none⟩) uM.length mc)∧W'.cell? ⟨g,o+k*3,none⟩=some (.string t.p)∧W'.cell? ⟨g,o+k*3+1,none⟩=some (.int .i64 t.i)∧W'.cell? ⟨g,o+k*3+2,none⟩=some (.bool t.z))):=fun W' b v=>⟨v.cell 1,(b.cell (p:=⟨g,_,none⟩) hg).trans (za HQ).1,(b.cell (p:=⟨g,_,none⟩) hg).trans (za HQ).2.1,(b.cell (p:=⟨g,_,none⟩) hg).trans (za HQ).2.2⟩;go_upto_region 7 with fail
    go_wp2_with fail
    have HC3:=hide ((za HC).call (W':=wr.drew) (bD _));have HO3:=hide (Mem.zc0 (w':=wr.drew) (za HO) (bD _));have HB3:=hide ((za HB).trans (bD (n:=w1.heap.size) wr));have hS3:w1.heap.size+1≤wr.drew.heap.size:=hS;refine wp_region_held_drew (S:=fun W'=>W'.cell? ⟨w.heap.size,1,none⟩=some (.slice (some ⟨g,o,none⟩) uM.length mc)∧W'.cell? ⟨g,o+k*3,none⟩=some (.string t.p)∧W'.cell? ⟨g,o+k*3+1,none⟩=some (.int .i64 t.i)∧W'.cell? ⟨g,o+k*3+2,none⟩=some (.bool t.z)) (by kernel_rfl) ?_ (fun hHeld=>?_)
    ·exact za MK _ (za HC3).bel (za HC3).v
    generalize wr.drew=D0 at hHeld HC3 HO3 HB3 hS3 ⊢;clear HC HO HB hS;refine TB 0 ?_;refine TB 2 ?_;refine TB 3 ?_;refine TB 4 ?_;refine TB 5 ?_;refine TB 6 ?_
    apply meet6 (F:=fun W X=>F3 D0.heap.size D0 W #[.string t.p, .int .i64 t.i, .bool t.z] X)
    ·intro hEnd;have bA:Below D0.heap.size D0 (D0.alloc (.cells #[.string t.p, .int .i64 t.i, .bool t.z] 50)):=(Below.refl _ _).alloc (Nat.le_refl _) _;have hFh:=(⟨bA,Mem.Blk.new _ _ _,Nat.le_refl _⟩:F3 D0.heap.size D0 (D0.alloc (.cells #[.string t.p, .int .i64 t.i, .bool t.z] 50)) #[.string t.p, .int .i64 t.i, .bool t.z] D0.heap.size);have hC4:=(za HC3).call bA;refine wpAnyH_ready (rs:=[1,7]) (by kernel_rfl) (by simp) ?_;refine AllReadyH.cons rfl (fun K hK=>?_) (AllReadyH.cons rfl (fun K hK=>?_) (AllReadyH.nil))
     ·have y0:=(za HC3).y.cell 1;simp only [kGs] at y0;go_simp
      refine hK.out _ _ ?_ (fun hHeld=>?_)
      ·exact hHeld
      clear hK K y0
      try simp only [Act.put,kBs]
      refine RN 7 fun K hK=>?_;go_simp
      refine hK.out _ _ ?_ (fun hHeld=>?_)
      ·exact za MK _ hC4.bel hC4.v
      clear hK K
      try simp only [Act.put,kBs]
      have hF:=hFh;generalize D0.alloc (.cells #[.string t.p, .int .i64 t.i, .bool t.z] 50)=D9 at hF hHeld ⊢;generalize hX9:D0.heap.size=X9 at hF ⊢;exact hEnd _ _ (by rw [hX9];exact hF)
     ·go_simp
      refine hK.out _ _ ?_ (fun hHeld=>?_)
      ·exact za MK _ hC4.bel hC4.v
      clear hK K
      try simp only [Act.put,kBs]
      refine RN 1 fun K hK=>?_;have y0:=hC4.y.cell 1;simp only [kGs] at y0;go_simp
      refine hK.out _ _ ?_ (fun hHeld=>?_)
      ·exact za MK _ hC4.bel hC4.v
      clear hK K y0
      try simp only [Act.put,kBs]
      have hF:=hFh;generalize D0.alloc (.cells #[.string t.p, .int .i64 t.i, .bool t.z] 50)=D9 at hF hHeld ⊢;generalize hX9:D0.heap.size=X9 at hF ⊢;exact hEnd _ _ (by rw [hX9];exact hF)
    intro W1 X hF;have hC4:=(za HC3).call hF.bel;have hHeld:=za MK _ hC4.bel hC4.v;have hO4:=Mem.zc0 (za HO3) hF.bel;have x0:=hF.blk.cell 0;have x1:=hF.blk.cell 1;have x2:=hF.blk.cell 2;simp only [kGs] at x0 x1 x2;refine RN 8 fun K hK=>?_;refine Mem.za1 rfl _ _ 29 rfl (w1.heap.size+1) 50 j0 _ 3 32 Tryz.underlying29 hj0 hjz0 hjz1 hjz2 rfl (by decide) (.slice a (cl k).length c) (cl k).length (Pl.cells3 Pl.Mn.cs (cl k)) rfl hO4 (some ⟨X,0,none⟩) 1 1 [.string t.p, .int .i64 t.i, .bool t.z] rfl rfl (.inl ⟨_,rfl,fun j u hj=>?_⟩) (by simp [Value.oneCell']) (by unfold maxLen;omega) (by omega) (by have :=hF.bel.size;omega) ?_
    ·match j,hj with
     |0,hj=>cases hj;exact x0
     |1,hj=>cases hj;exact x1
     |2,hj=>cases hj;exact x2
     |j+3,hj=>simp at hj
    intro v' wB ownB grB farB;obtain ⟨a',c',rfl⟩:=Mem.za4 ownB;have hlo:=fun b hb=>(World.ownsRow.lt hO4 b hb).1;have hC5:=hC4.grown grB (fun b hb=>by have :=hlo b hb;omega);have hB5:=((za HB3).trans (hF.bel.mono (za HB3).size)).grown grB (by have :=(za HB3).size;have :=hF.bel.size;omega) (fun b hb=>by have :=hlo b hb;omega);refine hK.out _ _ ?_ (fun hHeld=>?_)
    ·exact za MK _ hC5.bel hC5.v
    clear hK K
    try simp only [Act.put,kBs]
    refine TB 9 ?_;have d0:=hC5.y.cell 1;have f0:=hC5.y.fr 1;simp only [kGs] at d0;refine RN 10 fun K hK=>?_;go_simp
    have HC6:=hide (hC5.put 1 (.slice a' ((cl k).length+1) c'));have HB6:=hide (hB5.setCell (p:=⟨w1.heap.size,1,none⟩) (by show w1.heap.size≤w1.heap.size;omega) (.slice a' ((cl k).length+1) c'));have HO6:Hid (Mem.own3 50 Pl.Mn.cs (wB.setCell ⟨w1.heap.size,1,none⟩ (.slice a' ((cl k).length+1) c')) (w1.heap.size+1) (.slice a' (cl (k+1)).length c') (cl (k+1))):=hide (zd4 (by rw [za HCe,List.length_append,List.length_singleton,Pl.zu9];exact ownB) 1 _ (by omega));have hS6:w1.heap.size+1≤(wB.setCell ⟨w1.heap.size,1,none⟩ (.slice a' ((cl k).length+1) c')).heap.size:=by rw [World.size_setCell];have :=grB.size;have :=hF.bel.size;omega
    refine hK.out _ _ ?_ (fun hHeld=>?_)
    ·exact za MK _ (za HC6).bel (za HC6).v
    clear hK K d0 f0 ownB grB farB hlo hC5 x0 x1 x2 hO4 hC4 hF MK HC3 HO3 HB3 hB5
    try simp only [Act.put,kBs]
    refine wpAnyH_done (by kernel_rfl) ?_ _;clear hHeld;have HLN:Hid ((cl (k+1)).length=(cl k).length+1):=hide (by rw [za HCe,List.length_append,List.length_singleton]);simp only [kB3,kB4,kB5] at HC6;go_wp2
    go_roundw
    case rel=>exact ⟨k+1,a',c',by omega,by go_num,by rw [za HLN];exact HC6,HO6,HB6,hS6⟩
    case measure=>simp [intOf];omega
   ·have HCe:=hide (za HNo k t (za HT) (by rw [za HFT];rfl));clear HFT;go_wp2
    go_roundw
    case rel=>exact ⟨k+1,a,c,by omega,by go_num,by rw [za HCe];exact HC,by rw [za HCe];exact HO,HB,hS⟩
    case measure=>simp [intOf];omega
  ·have hke:k=uM.length:=by omega
   have u1:¬ (k:Int)<(uM.length:Int):=by omega
   subst hke;rw [za HEND] at HC HO;have hDM:DM.length≤6:=by rw [←za HEND];exact za HLE _
   clear HLE HEND HZ HY HNo HF HI HUN;have hlen:=congrArg List.length (za hUN);simp only [List.length_map] at hlen;have h1:=(za HIZ).call (za HB)
   have HCL:=hide (clean_any ⟨ui,uc,uN,a,c,DM,uh,uhc,uH,ux⟩ wr (by show uN.length≤12;omega) (by show DM.length≤1048576;omega) (by show uH.length≤1048576;omega) ⟨h1.zf9.2,(by
    obtain ⟨a9,c9,e9,hr9,_⟩:=Mem.zf7 Pl.Mn.three (za HO);cases e9
    exact Mem.zj3 hr9),(by
    obtain ⟨a9,c9,e9,hr9,_⟩:=Mem.zf7 Pl.Hn.three (Mem.zc0 (za HOH) (za HB));cases e9
    exact Mem.zf5 hr9)⟩)
   unfold Pl.Sp.cs Cleaned at HCL;simp only at HCL;clear h1 hlen;have x0:=(za HC).y.cell 0;have x1:=(za HC).y.cell 1;have x2:=(za HC).y.cell 2;have x3:=(za HC).y.cell 3;simp only [kGs] at x0 x1 x2 x3;go_wp2_with fail
   refine (za HCL).mono ?_;rintro e w9 ⟨⟨xa,xc,rfl,hin⟩,bX⟩;have b9:=(za HB).trans (bX.mono (za HB).size);have C9:=hide ((za HC).call bX);have hwr:=(za HC).y.lt;have d0:=(za C9).u.cell 0;have d1:=(za C9).u.cell 1;have d2:=(za C9).u.cell 2;have d3:=(za C9).u.cell 3;have fd0:=(za C9).u.fr 0;have fd1:=(za C9).u.fr 1;have fd2:=(za C9).u.fr 2;have fd3:=(za C9).u.fr 3;simp only [kGs] at d0 d1 d2 d3;have HZ9:=hide ((za HIZ).call b9);have HM9:=hide (Mem.zc0 (za HO) bX);have HH9:=hide (Mem.zc0 (za HOH) b9);have HIN:=hide hin;have bF:=hide (za C9).bel;clear hin bX b9 HCL HC HO HB HIZ HOH C9 x0 x1 x2 x3;go_wp2
   refine bodyPost_ret (v:= .agg #[Value.slice xa (uN.filter (fun x=>!decide (Pl.held DM uH x.d=0))).length xc,Value.slice a DM.length c,Value.slice uh uH.length uhc,Value.int .i64 ux]) (by simp [results,Tryz.results45,go_sem,d0,d1,d2,d3]) rfl ⟨⟨⟨xa,xc,uN.filter (fun x=>!decide (Pl.held DM uH x.d=0)),a,c,DM,uh,uhc,uH,ux⟩,rfl,?_,rfl,rfl,rfl,fun W' hb hs=>?_⟩,?_⟩
   ·have h1:=za hUN;unfold Pl.keepN;rw [←h1,List.filter_map];rfl
   ·have hb2:∀b,w.heap.size+2≤b→b<w9.heap.size→W'.heap[b]? =w9.heap[b]?:=fun b h1 h2=>(hb b h1 (by simp only [World.size_setCell];exact h2)).trans (by rw [heap_setCell_other _ _ _ _ (by show b≠w.heap.size+1;omega),heap_setCell_other _ _ _ _ (by show b≠w.heap.size+1;omega),heap_setCell_other _ _ _ _ (by show b≠w.heap.size+1;omega),heap_setCell_other _ _ _ _ (by show b≠w.heap.size+1;omega)]);have hs2:w9.heap.size≤W'.heap.size:=by simp only [World.size_setCell] at hs;exact hs
    have h1:=iz_band (C:=w.heap.size+2) (za HZ9) (by omega) hs2 hb2;have h2:=row_band (C:=w.heap.size+2) (za HIN) (by omega) hb2;have h3:=row_band (C:=w.heap.size+2) (za HM9) (by omega) hb2;have h4:=row_band (C:=w.heap.size+2) (za HH9) (by omega) hb2;refine ⟨?_,?_,?_⟩
    ·have hmem:∀x∈uN.filter (fun x=>!decide (Pl.held DM uH x.d=0)),x∈uN:=fun x hx=>(List.mem_filter.1 hx).1;show Mem.ze4 _ xa (uN.filter (fun x=>!decide (Pl.held DM uH x.d=0)));generalize uN.filter (fun x=>!decide (Pl.held DM uH x.d=0))=NF at h2 hmem ⊢
     exact (Mem.insts_own h2 (fun x hx=>by
      obtain ⟨i,hi⟩:=List.getElem?_of_mem (hmem x hx)
      exact (h1.zf9.2 i x hi).2)).2
    ·obtain ⟨a9,c9,e9,hr9,_⟩:=Mem.zf7 Pl.Mn.three h3;cases e9
     exact Mem.zj3 hr9
    ·obtain ⟨a9,c9,e9,hr9,_⟩:=Mem.zf7 Pl.Hn.three h4;cases e9
     exact Mem.zf5 hr9
   ·exact (((((za bF).setCell (p:=⟨w.heap.size+1,0,none⟩) (by show w.heap.size≤w.heap.size+1;omega) (Value.slice xa (uN.filter (fun x=>!decide (Pl.held DM uH x.d=0))).length xc)).setCell (p:=⟨w.heap.size+1,1,none⟩) (by show w.heap.size≤w.heap.size+1;omega) (Value.slice a DM.length c)).setCell (p:=⟨w.heap.size+1,2,none⟩) (by show w.heap.size≤w.heap.size+1;omega) (Value.slice uh uH.length uhc)).setCell (p:=⟨w.heap.size+1,3,none⟩) (by show w.heap.size≤w.heap.size+1;omega) (Value.int .i64 ux))
end WSp
end
section
open Go.RowKit
namespace WSp
def othU (M:List Pl.Mn) (p:ByteArray) (k j:Nat):Bool:=match M[j]? with |none=>false|some o=>decide (j≠k)&&Pl.under o.p p
theorem busyS_is (M:List Pl.Mn) (H:List Pl.Hn) (p:ByteArray) (k:Nat) (i:Int):Pl.busyS M H p k i=(decide (1<Pl.held M H i)||(List.range M.length).any (othU M p k)):=rfl
theorem any_snoc (f:Nat→Bool) (b:Bool) (n:Nat):(b||(List.range (n+1)).any f)=((b||(List.range n).any f)||f n):=by
 rw [List.range_succ,List.any_append];simp [Bool.or_assoc]
structure Un (w W:World) (V:Array Value):Prop where
 bel:Below w.heap.size w W
 v:Mem.Blk W w.heap.size V 32
 u:Mem.Blk W (w.heap.size+1) #[Value.slice none 0 0,Value.slice none 0 0,Value.slice none 0 0,Value.int .i64 0,Value.int .i64 0,Value.string ⟨#[]⟩,Value.int .i64 0] 34
theorem Un.call {w W W':World} {V:Array Value} (h:Un w W V) (b:Below W.heap.size W W'):Un w W' V:=⟨h.bel.trans (b.mono h.bel.size),h.v.call b,h.u.call b⟩
set_option linter.unusedSimpArgs false in
set_option maxRecDepth 100000 in
set_option maxHeartbeats 4000000 in
theorem unmountF_any (s:Pl.Sp) (p:ByteArray) (w:World) (hp:p.size≤1048576) (hok:zb.OkS s 1048576) (hv:Mem.zc3 w s) (hma:∃g,s.ma=some ⟨g,0,none⟩) (hha:∃g,s.ha=some ⟨g,0,none⟩) (hrow:∀x∈s.N,(∃g,x.a=some ⟨g,0,none⟩)∧∀t∈x.Is,Mem.okR t.t.a t.t.cap t.t.L)
  (A:Pl.Ao) (hA:Pl.unmountA s p (Pl.ze9 s.next (s.N.map WSp.nr) s.M s.H Pl.wayB)=A):
  Calls Tryz.prog 16 #[.agg s.cs, .string p] w fun e w'=>(∃u,e= .returned (.agg (WSpO.so u A.d A.p A.c))∧Mem.zc3 w' u∧Pl.Fits u A)∧Below w.heap.size w w':=by
 generalize hRB:Pl.ze9 s.next (s.N.map WSp.nr) s.M s.H Pl.wayB=RB at hA;have HX:=hide (fun W (b:Below w.heap.size w W)=>mounted_any s p W hp hok (hv.call b) RB hRB);have HIL:=hide ill_any;have HCS:=hide (Pl.whyD_cases p RB s.M)
 have HWO:=hide (fun (h:RB=true) W (b:Below w.heap.size w W)=>by
  obtain ⟨k1,k2,k3,k4,k5,k6, -⟩:=Pl.zs8 (hRB.trans h)
  exact without_any s p W (hv.call b) hma hha k2 k3 k1 (fun x hx=>⟨(k4 x hx).1,(k4 x hx).2.1,fun t ht=>by have :=(k4 x hx).2.2 t ht;omega,(hrow x hx).1,(hrow x hx).2⟩) hp)
 have HHD:=hide (fun d W (b:Below w.heap.size w W)=>zd9 s d W hok.m hok.h (hv.call b).zh (hv.call b).hands);have HMT:=hide hv.zh;have HUD:=hide (fun (t:Pl.Mn) W=>zi5.under1_any t.p p W hp);have hM6:=hide (fun (h:RB=true)=>(Pl.zs8 (hRB.trans h)).2.1);clear hok hv hma hha hrow hRB hp;obtain ⟨ia,ic,N,ma,mc,M,ha,hc,H,next⟩:=s;simp only at HX HWO HCS hA HHD HMT hM6 ⊢;unfold Pl.Sp.cs at HX HWO HHD;unfold Pl.Sp.cs;simp only at HX HWO HHD ⊢
 have HAG:Hid (Pl.whyD p RB M=0→∀ (k:Nat) m,Pl.onI M p=(k:Int)→M[k]? =some m→Pl.busyS M H p k m.i=false→A=⟨Pl.keepN (N.map Pl.Ns.r) (Pl.delM M p) H,Pl.delM M p,H,next,0,⟨#[]⟩,0⟩):=hide (fun h k m hk hm hb=>by
  rw [←hA];unfold Pl.unmountA
  rw [if_pos h,if_neg (by unfold Pl.busyP;simp only;rw [hk,Int.toNat_natCast,hm];simp only;rw [hb];decide)])
 have HA13:Hid (Pl.whyD p RB M=0→∀ (k:Nat) m,Pl.onI M p=(k:Int)→M[k]? =some m→Pl.busyS M H p k m.i=true→A=Pl.Ao.ill 13):=hide (fun h k m hk hm hb=>by
  rw [←hA];unfold Pl.unmountA
  rw [if_pos h,if_pos (by unfold Pl.busyP;simp only;rw [hk,Int.toNat_natCast,hm];exact hb)])
 have HAB:Hid (Pl.whyD p RB M≠0→A=Pl.Ao.ill (Pl.codeW (Pl.whyD p RB M))):=hide (fun h=>by rw [←hA];unfold Pl.unmountA;rw [if_neg h]);clear hA;have b0:Below w.heap.size w ((w.alloc (.cells #[Value.slice ia N.length ic,Value.slice ma M.length mc,Value.slice ha H.length hc,Value.int .i64 next] 32)).alloc (.cells #[Value.slice none 0 0,Value.slice none 0 0,Value.slice none 0 0,Value.int .i64 0,Value.int .i64 0,Value.string ⟨#[]⟩,Value.int .i64 0] 34)):=((Below.refl _ _).alloc (Nat.le_refl _) _).alloc (by simp) _;have V0:=hide ((Mem.Blk.new w #[Value.slice ia N.length ic,Value.slice ma M.length mc,Value.slice ha H.length hc,Value.int .i64 next] 32).alloc (.cells #[Value.slice none 0 0,Value.slice none 0 0,Value.slice none 0 0,Value.int .i64 0,Value.int .i64 0,Value.string ⟨#[]⟩,Value.int .i64 0] 34))
 have U0:=hide (Mem.Blk.new (w.alloc (.cells #[Value.slice ia N.length ic,Value.slice ma M.length mc,Value.slice ha H.length hc,Value.int .i64 next] 32)) #[Value.slice none 0 0,Value.slice none 0 0,Value.slice none 0 0,Value.int .i64 0,Value.int .i64 0,Value.string ⟨#[]⟩,Value.int .i64 0] 34);rw [show (w.alloc (.cells #[Value.slice ia N.length ic,Value.slice ma M.length mc,Value.slice ha H.length hc,Value.int .i64 next] 32)).heap.size=w.heap.size+1 by simp] at U0;have a0:=(za V0).cell 0;have a1:=(za V0).cell 1;have a2:=(za V0).cell 2;have a3:=(za V0).cell 3;simp only [kGs] at a0 a1 a2 a3;go_enter Tryz.func16,Tryz.ntmps16
 go_wp2_with fail
 generalize (w.alloc (.cells #[Value.slice ia N.length ic,Value.slice ma M.length mc,Value.slice ha H.length hc,Value.int .i64 next] 32)).alloc (.cells #[Value.slice none 0 0,Value.slice none 0 0,Value.slice none 0 0,Value.int .i64 0,Value.int .i64 0,Value.string ⟨#[]⟩,Value.int .i64 0] 34)=wA at b0 V0 U0 a0 a1 a2 a3 ⊢;refine (za HX _ b0).mono ?_;rintro e w1 ⟨rfl,bX⟩;have b1:=b0.trans (bX.mono b0.size);have U1:=hide ((za U0).call bX);have V1:=hide ((za V0).call bX);clear HX bX V0 a0 a1 a2 a3 b0 U0;by_cases h0:Pl.whyD p RB M=0
 ·obtain ⟨hR,hon⟩:RB=true∧¬Pl.onI M p<0:=by
   rcases za HCS with ⟨_,h,_,_,h4⟩|h|h|h
   ·exact ⟨h,by omega⟩
   all_goals (rw [h0] at h;cases h)
  have hge:=Pl.onI_ge M p;obtain ⟨k,hk⟩:∃k:Nat,Pl.onI M p=(k:Int):=⟨(Pl.onI M p).toNat,by omega⟩;obtain ⟨m,hm, -, -⟩:=Pl.onI_hit hk;have HAG2:=hide (za HAG h0 k m hk hm);have HA2:=hide (za HA13 h0 k m hk hm);have z0:mcode p RB M=0:=by unfold mcode;rw [if_pos h0]
  rw [z0];replace HWO:=hide (za HWO hR);unfold Without at HWO;have z3:(if (0:Int)=0 then Pl.onI M p else -1)=(k:Int):=by rw [if_pos rfl];exact hk
  rw [z3];have hM6:=za hM6 hR;obtain ⟨g,o,rfl,hg,q0,q1,q2⟩:=(za HMT) k m hm;have hkl:=(List.getElem?_eq_some_iff.1 hm).1;have u1:(k:Int)<(M.length:Int):=by omega
  have u3:(0:Int)≤(k:Int):=by omega
  have HU1:Hid (Un w w1 #[Value.slice ia N.length ic,Value.slice (some ⟨g,o,none⟩) M.length mc,Value.slice ha H.length hc,Value.int .i64 next]):=hide ⟨b1,za V1,za U1⟩;have MK:Hid (∀W',Below w1.heap.size w1 W'→(Below w1.heap.size w1 W'∧W'.cell? ⟨w.heap.size,0,none⟩=some (Value.slice ia N.length ic)∧W'.cell? ⟨w.heap.size,1,none⟩=some (Value.slice (some ⟨g,o,none⟩) M.length mc)∧W'.cell? ⟨w.heap.size,2,none⟩=some (Value.slice ha H.length hc)∧W'.cell? ⟨w.heap.size,3,none⟩=some (Value.int .i64 next)∧W'.cell? ⟨g,o+k*3+1,none⟩=some (.int .i64 m.i))):=fun W' b=>⟨b,((za V1).call b).cell 0,((za V1).call b).cell 1,((za V1).call b).cell 2,((za V1).call b).cell 3,((b1.trans (b.mono b1.size)).cell (p:=⟨g,_,none⟩) hg).trans q1⟩;have HHE:=hide (fun W (b:Below w1.heap.size w1 W)=>za HHD m.i W (b1.trans (b.mono b1.size)));rw [busyS_is] at HAG2 HA2;generalize Pl.held M H m.i=HL at HHE HAG2 HA2
  clear HAG HAB HCS h0 z0 z3 hR hon hge hk hm q0 q1 q2 HA13 U1 V1 b1 HHD;go_upto_region 4 with fail
  go_wp2_with fail
  refine RG MK (bD _) fun hHeld=>?_;generalize w1.drew=D0 at hHeld ⊢;refine TB 0 ?_;refine TB 1 ?_;refine TB 2 ?_;refine TB 3 ?_;refine TB 4 ?_;refine TB 5 ?_;refine TB 6 ?_;refine RN 7 fun K hK=>?_;go_simp
  refine (za HHE _ hHeld.1).mono ?_;rintro e W ⟨rfl,bX⟩;refine hK.out _ _ ?_ (fun hHeld=>?_)
  ·exact za MK _ (hHeld.1.trans (bX.mono hHeld.1.size))
  clear hK K bX HHE
  try simp only [Act.put,kBs]
  refine TB 8 ?_;refine TB 9 ?_;refine wpAnyH_done (by kernel_rfl) ?_ _;have HU2:=hide ((za HU1).call hHeld.1);clear hHeld MK HU1;generalize decide (1<HL)=b0 at HAG2 HA2 ⊢;go_wp2
  go_loopw [8,7] (fun i bz wr=>∃ (j:Nat),j≤M.length∧i= .int .i64 (j:Int)∧bz= .bool (b0||(List.range j).any (othU M p k))∧Hid (Un w wr #[Value.slice ia N.length ic,Value.slice (some ⟨g,o,none⟩) M.length mc,Value.slice ha H.length hc,Value.int .i64 next])) (fun i _ _=>M.length - (intOf i).toNat)
  case atStart=>exact ⟨0,Nat.zero_le _,rfl,by simp,HU2⟩
  case round=>
   obtain ⟨j,hj,rfl,rfl,HU⟩:=hrel;clear HU2;have v1:=(za HU).v.cell 1;simp only [kGs] at v1;by_cases hlt:j<M.length
   ·obtain ⟨t,ht⟩:∃n,M[j]? =some n:=⟨_,List.getElem?_eq_getElem hlt⟩;obtain ⟨g',o',e',hg',c0, -, -⟩:=(za HMT) j t ht;cases e'
    have d0:=((za HU).bel.cell (p:=⟨g,_,none⟩) hg').trans c0;have k1:(j:Int)<(M.length:Int):=by omega
    have k3:(0:Int)≤(j:Int):=by omega
    have HST:=hide (any_snoc (othU M p k) b0 j);have hot:othU M p k j=(decide (j≠k)&&Pl.under t.p p):=by unfold othU;rw [ht]
    have HD:=hide (za HUD t);generalize Pl.under t.p p=R at hot HD;have HOT:=hide hot;clear ht c0 hot hg';generalize (b0||(List.range j).any (othU M p k))=bz at HST ⊢;cases bz
    ·by_cases hjk:j=k
     ·have HN:Hid ((b0||(List.range (j+1)).any (othU M p k))=false):=hide (by rw [za HST,za HOT];simp [hjk]);clear HD HST HOT;subst hjk;go_wp2
      go_roundw
      case rel=>exact ⟨j+1,by omega,by go_num,by rw [za HN],HU⟩
      case measure=>simp [intOf];omega
     ·have HN:Hid ((b0||(List.range (j+1)).any (othU M p k))=R):=hide (by rw [za HST,za HOT];simp [hjk]);clear HST HOT;go_wp2_with fail
      refine (za HD _).mono ?_;rintro e W2 ⟨rfl,hw⟩;subst W2;go_wp2
      go_roundw
      case rel=>exact ⟨j+1,by omega,by go_num,by rw [za HN,show ((j:Int) !=(k:Int))=true by (rw [bne_iff_ne];omega)];rfl,HU⟩
      case measure=>simp [intOf];omega
    ·have HN:Hid ((b0||(List.range (j+1)).any (othU M p k))=true):=hide (by rw [za HST];rfl);clear HD HST HOT;go_wp2
     go_roundw
     case rel=>exact ⟨j+1,by omega,by go_num,by rw [za HN],HU⟩
     case measure=>simp [intOf];omega
   ·have hje:j=M.length:=by omega
    have k1:¬ (j:Int)<(M.length:Int):=by omega
    subst hje;have b1:=(za HU).bel;have U1:=hide (za HU).u;have V1:=hide (za HU).v;clear HUD HMT;generalize (b0||(List.range M.length).any (othU M p k))=bz at HAG2 HA2 ⊢;clear HU;cases bz
    ·have HA:=hide (za HAG2 rfl);clear HAG2 HA2 HIL;clear v1;have a0:=(za V1).cell 0;have a1:=(za V1).cell 1;have a2:=(za V1).cell 2;have a3:=(za V1).cell 3;simp only [kGs] at a0 a1 a2 a3;go_wp2_with fail
     refine (za HWO _ b1).mono ?_;rintro e w2 ⟨⟨u,rfl,un,um',uh',ux',HSP⟩,bX⟩;have b2:=hide (b1.trans (bX.mono b1.size));have U2:=hide ((za U1).call bX);have hU1:=(za U1).lt;have HSP:=hide HSP;have HUN:=hide (And.intro un (And.intro um' (And.intro uh' ux')));clear bX HWO a0 a1 a2 a3 V1 U1 b1 un um' uh' ux';obtain ⟨ui,uc,uN,um,umc,uM,uh,uhc,uH,ux⟩:=u
     (try unfold Pl.Sp.cs)
     simp only at HSP HUN
     (try simp only)
     have HS2:=hide (za HSP (((((((w2.setCell ⟨w.heap.size+1,0,none⟩ (Value.slice ui uN.length uc)).setCell ⟨w.heap.size+1,1,none⟩ (Value.slice um uM.length umc)).setCell ⟨w.heap.size+1,2,none⟩ (Value.slice uh uH.length uhc)).setCell ⟨w.heap.size+1,3,none⟩ (Value.int .i64 ux)).setCell ⟨w.heap.size+1,4,none⟩ (Value.int .i64 0)).setCell ⟨w.heap.size+1,5,none⟩ (Value.string ⟨#[]⟩)).setCell ⟨w.heap.size+1,6,none⟩ (Value.int .i64 0)) (fun b h1 h2=>by rw [heap_setCell_other _ _ _ _ (by show b≠w.heap.size+1;omega),heap_setCell_other _ _ _ _ (by show b≠w.heap.size+1;omega),heap_setCell_other _ _ _ _ (by show b≠w.heap.size+1;omega),heap_setCell_other _ _ _ _ (by show b≠w.heap.size+1;omega),heap_setCell_other _ _ _ _ (by show b≠w.heap.size+1;omega),heap_setCell_other _ _ _ _ (by show b≠w.heap.size+1;omega),heap_setCell_other _ _ _ _ (by show b≠w.heap.size+1;omega)]) (by simp only [World.size_setCell];exact Nat.le_refl _))
     clear HSP;have d0:=(za U2).cell 0;have fd0:=(za U2).fr 0;have d1:=(za U2).cell 1;have fd1:=(za U2).fr 1;have d2:=(za U2).cell 2;have fd2:=(za U2).fr 2;have d3:=(za U2).cell 3;have fd3:=(za U2).fr 3;have d4:=(za U2).cell 4;have fd4:=(za U2).fr 4;have d5:=(za U2).cell 5;have fd5:=(za U2).fr 5;have d6:=(za U2).cell 6;have fd6:=(za U2).fr 6;simp only [kGs] at d0 d1 d2 d3 d4 d5 d6;go_wp2
     refine bodyPost_ret (v:= .agg #[Value.slice ui uN.length uc,Value.slice um uM.length umc,Value.slice uh uH.length uhc,Value.int .i64 ux,Value.int .i64 0,Value.string ⟨#[]⟩,Value.int .i64 0]) (by simp [results,Tryz.results16,go_sem,d0,d1,d2,d3,d4,d5,d6]) rfl ⟨⟨_,by rw [za HA];rfl,za HS2,by rw [za HA];exact ⟨(za HUN).1,(za HUN).2.1,(za HUN).2.2.1,(za HUN).2.2.2⟩⟩,?_⟩
     exact ((((((((za b2).setCell (p:=⟨w.heap.size+1,0,none⟩) (by show w.heap.size≤w.heap.size+1;omega) (Value.slice ui uN.length uc)).setCell (p:=⟨w.heap.size+1,1,none⟩) (by show w.heap.size≤w.heap.size+1;omega) (Value.slice um uM.length umc)).setCell (p:=⟨w.heap.size+1,2,none⟩) (by show w.heap.size≤w.heap.size+1;omega) (Value.slice uh uH.length uhc)).setCell (p:=⟨w.heap.size+1,3,none⟩) (by show w.heap.size≤w.heap.size+1;omega) (Value.int .i64 ux)).setCell (p:=⟨w.heap.size+1,4,none⟩) (by show w.heap.size≤w.heap.size+1;omega) (Value.int .i64 0)).setCell (p:=⟨w.heap.size+1,5,none⟩) (by show w.heap.size≤w.heap.size+1;omega) (Value.string ⟨#[]⟩)).setCell (p:=⟨w.heap.size+1,6,none⟩) (by show w.heap.size≤w.heap.size+1;omega) (Value.int .i64 0))
    ·have HA:=hide (za HA2 rfl);clear HAG2 HA2 HWO V1;go_wp2_with fail
     refine (za HIL 13 _).mono ?_;rintro e wR ⟨rfl,bX⟩;have bR:=b1.trans (bX.mono b1.size);have UR:=hide ((za U1).call bX);clear bX;have d0:=(za UR).cell 0;have fd0:=(za UR).fr 0;have d1:=(za UR).cell 1;have fd1:=(za UR).fr 1;have d2:=(za UR).cell 2;have fd2:=(za UR).fr 2;have d3:=(za UR).cell 3;have fd3:=(za UR).fr 3;have d4:=(za UR).cell 4;have fd4:=(za UR).fr 4;have d5:=(za UR).cell 5;have fd5:=(za UR).fr 5;have d6:=(za UR).cell 6;have fd6:=(za UR).fr 6;simp only [kGs] at d0 d1 d2 d3 d4 d5 d6;go_wp2
     refine bodyPost_ret (v:= .agg #[Value.slice none 0 0,Value.slice none 0 0,Value.slice none 0 0,Value.int .i64 0,Value.int .i64 0,Value.string ⟨#[]⟩,Value.int .i64 13]) (by simp [results,Tryz.results16,go_sem,d0,d1,d2,d3,d4,d5,d6]) rfl ⟨⟨⟨none,0,[],none,0,[],none,0,[],0⟩,by rw [za HA];rfl,⟨Mem.zr8 _ _,Mem.zv5 _ _,Mem.zx9 _ _⟩,by rw [za HA];exact Pl.Fits.nil _⟩,?_⟩
     exact (((((((bR.setCell (p:=⟨w.heap.size+1,0,none⟩) (by show w.heap.size≤w.heap.size+1;omega) (Value.slice none 0 0)).setCell (p:=⟨w.heap.size+1,1,none⟩) (by show w.heap.size≤w.heap.size+1;omega) (Value.slice none 0 0)).setCell (p:=⟨w.heap.size+1,2,none⟩) (by show w.heap.size≤w.heap.size+1;omega) (Value.slice none 0 0)).setCell (p:=⟨w.heap.size+1,3,none⟩) (by show w.heap.size≤w.heap.size+1;omega) (Value.int .i64 0)).setCell (p:=⟨w.heap.size+1,4,none⟩) (by show w.heap.size≤w.heap.size+1;omega) (Value.int .i64 0)).setCell (p:=⟨w.heap.size+1,5,none⟩) (by show w.heap.size≤w.heap.size+1;omega) (Value.string ⟨#[]⟩)).setCell (p:=⟨w.heap.size+1,6,none⟩) (by show w.heap.size≤w.heap.size+1;omega) (Value.int .i64 13))
 ·clear HA13 HHD HMT HUD hM6
  have z0:mcode p RB M≠0:=by
   rcases za HCS with ⟨h,_⟩|h|h|h
   ·exact absurd h h0
   all_goals (unfold mcode;rw [if_neg h0,h];decide)
  have HA:Hid (A=Pl.Ao.ill (mcode p RB M)):=hide (by rw [za HAB h0];unfold mcode;rw [if_neg h0]);clear HAG HAB HCS HWO V1 h0;generalize mcode p RB M=C at z0 HA ⊢;have z1:(C==0)=false:=by simpa using z0
  have z2:decide (C=0)=false:=by simpa using z0
  have z3:(if C=0 then Pl.onI M p else -1)= -1:=if_neg z0;rw [z3];clear z0 z3;go_wp2_with fail
  refine (za HIL C _).mono ?_;rintro e wR ⟨rfl,bX⟩;have bR:=b1.trans (bX.mono b1.size);have UR:=hide ((za U1).call bX);clear bX;have d0:=(za UR).cell 0;have fd0:=(za UR).fr 0;have d1:=(za UR).cell 1;have fd1:=(za UR).fr 1;have d2:=(za UR).cell 2;have fd2:=(za UR).fr 2;have d3:=(za UR).cell 3;have fd3:=(za UR).fr 3;have d4:=(za UR).cell 4;have fd4:=(za UR).fr 4;have d5:=(za UR).cell 5;have fd5:=(za UR).fr 5;have d6:=(za UR).cell 6;have fd6:=(za UR).fr 6;simp only [kGs] at d0 d1 d2 d3 d4 d5 d6;go_wp2
  refine bodyPost_ret (v:= .agg #[Value.slice none 0 0,Value.slice none 0 0,Value.slice none 0 0,Value.int .i64 0,Value.int .i64 0,Value.string ⟨#[]⟩,Value.int .i64 C]) (by simp [results,Tryz.results16,go_sem,d0,d1,d2,d3,d4,d5,d6]) rfl ⟨⟨⟨none,0,[],none,0,[],none,0,[],0⟩,by rw [za HA];rfl,⟨Mem.zr8 _ _,Mem.zv5 _ _,Mem.zx9 _ _⟩,by rw [za HA];exact Pl.Fits.nil _⟩,?_⟩
  exact (((((((bR.setCell (p:=⟨w.heap.size+1,0,none⟩) (by show w.heap.size≤w.heap.size+1;omega) (Value.slice none 0 0)).setCell (p:=⟨w.heap.size+1,1,none⟩) (by show w.heap.size≤w.heap.size+1;omega) (Value.slice none 0 0)).setCell (p:=⟨w.heap.size+1,2,none⟩) (by show w.heap.size≤w.heap.size+1;omega) (Value.slice none 0 0)).setCell (p:=⟨w.heap.size+1,3,none⟩) (by show w.heap.size≤w.heap.size+1;omega) (Value.int .i64 0)).setCell (p:=⟨w.heap.size+1,4,none⟩) (by show w.heap.size≤w.heap.size+1;omega) (Value.int .i64 0)).setCell (p:=⟨w.heap.size+1,5,none⟩) (by show w.heap.size≤w.heap.size+1;omega) (Value.string ⟨#[]⟩)).setCell (p:=⟨w.heap.size+1,6,none⟩) (by show w.heap.size≤w.heap.size+1;omega) (Value.int .i64 C))
end WSp
end
end Go.Proofs.YtonffldjbmednaaGreatDoor
