import Derived.Test.YthdhhcgopfgcbaaGreatDoorPlainMove
import Derived.Test.YthdhhcgopfgcbaaGreatDoorWWriteT
import Derived.Test.YthdhhcgopfgcbaaGreatDoorWRemoveT
import Derived.Test.YthdhhcgopfgcbaaGreatDoorWFaceN
namespace Go.Proofs.YthdhhcgopfgcbaaGreatDoor
open Go.RowKit
namespace zi6
structure Mv (w W:World) (Y:Nat) (ja:Option Addr) (jc:Nat) (Js:List Pl.It) (wc:Int) (wx:List (Int × List Pl.Nd)):Prop where
 lt:w.heap.size<Y
 bel:Below w.heap.size w W
 out:Mem.Blk W w.heap.size #[.slice none 0 0, .int .i64 0] 26
 box:Mem.Blk W Y #[.slice ja Js.length jc, .int .i64 wc] 26
 io:Mem.Io W (w.heap.size+1) (.slice ja Js.length jc) Js
 map:Js.map Pl.It.r=wx
set_option linter.unusedSimpArgs false in
set_option maxRecDepth 100000 in
set_option maxHeartbeats 4000000 in
theorem move_specN (b o cap:Nat) (Is:List Pl.It) (f t:ByteArray) (w:World) (hl:Is.length≤1048576) (hv:Mem.zb0 w (some ⟨b,o,none⟩) Is) (hok:∀x∈Is,x.t.L.length≤1048576∧∀n∈x.t.L,n.path.size≤1048576∧n.data.size≤1048576) (hA:∀x∈Is,zc5.okA w x.t.a x.t.cap x.t.L) (hf:f.size≤1048576) (ht:t.size≤1048576):
  Calls Tryz.prog 5 #[.slice (some ⟨b,o,none⟩) Is.length cap, .string f, .string t] w fun e w'=>Outs w w' (Pl.movN (Is.map Pl.It.r) f t).1 (Pl.movN (Is.map Pl.It.r) f t).2 e∧Below w.heap.size w w':=by
 have HBE:=hide (fun W (bb:Below w.heap.size w W)=>yh9 (some ⟨b,o,none⟩) cap Is (⟨f,2,⟨#[]⟩,0,0⟩:Pl.Nd) W hl (Mem.zb2 hv bb) hok (fun x hx=>Mem.ye9 (hA x hx)) hf (by decide :(⟨#[]⟩:ByteArray).size≤1048576));simp only at HBE;have HWY:=hide (fun W=>ze6.yk0 t W ht);have HWR:=hide (fun (d:ByteArray) (n:Int) (hd:d.size≤1048576) W (bb:Below w.heap.size w W)=>write_specN b o cap Is t d n W hl (Mem.zb2 hv bb) hok (fun x hx=>zc5.zk8 (hA x hx) bb.size) ht hd);have HF:=hide hf;have ER:=hide (Pl.mov_spec (Is.map Pl.It.r) f t);have HOK:Hid (∀d n,(∀y∈(Pl.wrtN (Is.map Pl.It.r) t d n).2,Pl.zc9 y.2)∧((Pl.wrtN (Is.map Pl.It.r) t d n).1=0→(Pl.wrtN (Is.map Pl.It.r) t d n).2.length≠0)∧(Pl.wrtN (Is.map Pl.It.r) t d n).2.length≤12∧∀y∈(Pl.wrtN (Is.map Pl.It.r) t d n).2,y.2.length≤40):=hide (fun d n=>⟨(Pl.wrt_ok _ _ _ _).1,(Pl.wrt_ok _ _ _ _).2,Pl.wrt_le _ _ _ _⟩)
 have HT:Hid (Pl.begC (Is.map Pl.It.r) ⟨f,2,⟨#[]⟩,0,0⟩=0→(Pl.begT (Is.map Pl.It.r) ⟨f,2,⟨#[]⟩,0,0⟩).length≤40∧∀m∈Pl.begT (Is.map Pl.It.r) ⟨f,2,⟨#[]⟩,0,0⟩,m.path.size≤1048576∧m.data.size≤1048576):=hide (fun h=>by
  obtain ⟨-, -, -, -, -,z6,z7⟩:=Pl.zx h;rw [z7]
  exact ⟨Pl.yc _,Pl.zx5 (Pl.zc9.zr0 (Pl.zj0 (Pl.zq7 z6)))⟩)
 generalize Pl.movN (Is.map Pl.It.r) f t=R at ER ⊢;generalize Pl.begC (Is.map Pl.It.r) ⟨f,2,⟨#[]⟩,0,0⟩=C at HBE ER HT;generalize Pl.begT (Is.map Pl.It.r) ⟨f,2,⟨#[]⟩,0,0⟩=T at HBE ER HT;clear hv hok hA hf ht;have b1:Below w.heap.size w (w.alloc (.cells #[.slice none 0 0, .int .i64 0] 26)):=bE0;have O1:=Mem.Blk.new w #[.slice none 0 0, .int .i64 0] 26;go_enter Tryz.func5,Tryz.ntmps5
 by_cases hts:8000<t.size
 ·have u1:(8000:Int)<(t.size:Int):=by omega
  have u2:decide ((8000:Int)<(t.size:Int))=true:=decide_eq_true u1;go_upto_region 1 with fail
  generalize w.alloc (.cells #[.slice none 0 0, .int .i64 0] 26)=w1 at b1 O1 ⊢;clear HBE HWY HWR HOK HT HF;obtain rfl:R=(2,[]):=by have :=za ER;rw [if_pos hts] at this;exact this
  go_wp2_with fail
  refine (zc6 2 _).mono ?_;rintro e wI ⟨rfl,bI⟩;have bJ:=hide ((b1).trans (bI.mono (b1).size));have RJ:=(O1).call bI;obtain ⟨⟨d0,d1⟩,f0,f1⟩:=jf2 RJ;go_wp2
  refine bodyPost_ret (v:= .agg #[.slice none 0 0, .int .i64 (2)]) (by simp [results,Tryz.results5,go_sem,d0,d1]) rfl ⟨⟨_,[],rfl,Mem.Io.nil _ _,rfl⟩,?_⟩;exact ((za bJ).setCell (Nat.le_refl _) _).setCell (Nat.le_refl _) _
 replace ER:=hide (by have :=za ER;rw [if_neg hts] at this;exact this);have u1:¬ (8000:Int)<(t.size:Int):=by omega
 have u2:decide ((8000:Int)<(t.size:Int))=false:=decide_eq_false u1;go_wp2_with fail
 generalize w.alloc (.cells #[.slice none 0 0, .int .i64 0] 26)=w1 at b1 O1 ⊢;refine (za HBE _ b1).mono ?_;rintro e w2 ⟨v,rfl,own,b2⟩;obtain ⟨va,vc,rfl⟩:=Mem.za4 own;have own:=Mem.zb3 own b1.size;have bw2:=b1.trans (b2.mono b1.size);have b3:Below w2.heap.size w2 (w2.alloc (.cells #[.slice va T.length vc] 43)):=bE0;have bw3:=bw2.trans (b3.mono bw2.size);have O3:=(O1.call b2).call b3;have X3:=Mem.Blk.new w2 #[.slice va T.length vc] 43;have D3:=hide (Mem.ze9 (Mem.zg7 own b3)).2;have hX3:w.heap.size+1≤w2.heap.size:=by have :=b2.size;have :=O1.lt;omega
 have x0:=X3.cell 0;simp only [kA0,kA1] at x0;clear hts u1 u2 HBE O1 b1 b2 bw2 b3 own;by_cases hC2:C=2
 ·subst hC2;go_upto_region 4 with fail
  generalize w2.alloc (.cells #[.slice va T.length vc] 43)=w3 at bw3 O3 X3 D3 x0 ⊢;clear HWY HWR HOK HT HF D3 X3 x0;obtain rfl:R=(2,[]):=by have :=za ER;simpa using this
  go_wp2_with fail
  refine (zc6 2 _).mono ?_;rintro e wI ⟨rfl,bI⟩;have bJ:=hide ((bw3).trans (bI.mono (bw3).size));have RJ:=(O3).call bI;obtain ⟨⟨d0,d1⟩,f0,f1⟩:=jf2 RJ;go_wp2
  refine bodyPost_ret (v:= .agg #[.slice none 0 0, .int .i64 (2)]) (by simp [results,Tryz.results5,go_sem,d0,d1]) rfl ⟨⟨_,[],rfl,Mem.Io.nil _ _,rfl⟩,?_⟩;exact ((za bJ).setCell (Nat.le_refl _) _).setCell (Nat.le_refl _) _
 replace ER:=hide (by have :=za ER;rw [if_neg hC2] at this;exact this);have c1:decide (C=2)=false:=by simpa using hC2
 have c2:(C==2)=false:=by simpa using hC2
 go_wp2_with fail
 generalize w2.alloc (.cells #[.slice va T.length vc] 43)=w3 at bw3 O3 X3 D3 x0 ⊢;generalize w2.heap.size=X at X3 x0 hX3 ⊢;refine (za HWY _).mono ?_;rintro e w4 ⟨rfl,b4⟩;have bw4:=bw3.trans (b4.mono bw3.size);have O4:=O3.call b4;have X4:=X3.call b4;have D4:=hide (Mem.za0 (za D3) b4);clear HWY O3 X3 D3 x0 bw3 b4 c1 c2 hC2;cases hwt:Pl.wayB t with
 |false=>
  replace ER:=hide (by have :=za ER;rw [if_pos hwt] at this;exact this);clear HWR HOK HT HF D4 X4 hwt;obtain rfl:R=(1,[]):=by have :=za ER;exact this
  go_wp2_with fail
  refine (zc6 1 _).mono ?_;rintro e wI ⟨rfl,bI⟩;have bJ:=hide ((bw4).trans (bI.mono (bw4).size));have RJ:=(O4).call bI;obtain ⟨⟨d0,d1⟩,f0,f1⟩:=jf2 RJ;go_wp2
  refine bodyPost_ret (v:= .agg #[.slice none 0 0, .int .i64 (1)]) (by simp [results,Tryz.results5,go_sem,d0,d1]) rfl ⟨⟨_,[],rfl,Mem.Io.nil _ _,rfl⟩,?_⟩;exact ((za bJ).setCell (Nat.le_refl _) _).setCell (Nat.le_refl _) _
 |true=>
 replace ER:=hide (by have :=za ER;rw [if_neg (by simp [hwt])] at this;exact this);clear hwt;by_cases hC:C=0
 rotate_left
 ·replace ER:=hide (by have :=za ER;rw [if_pos hC] at this;exact this);have c1:decide (C=0)=false:=by simpa using hC
  have c2:(C==0)=false:=by simpa using hC
  clear HWR HOK HT HF D4 X4;obtain rfl:R=(C,[]):=by have :=za ER;exact this
  go_wp2_with fail
  refine (zc6 C _).mono ?_;rintro e wI ⟨rfl,bI⟩;have bJ:=hide ((bw4).trans (bI.mono (bw4).size));have RJ:=(O4).call bI;obtain ⟨⟨d0,d1⟩,f0,f1⟩:=jf2 RJ;go_wp2
  refine bodyPost_ret (v:= .agg #[.slice none 0 0, .int .i64 (C)]) (by simp [results,Tryz.results5,go_sem,d0,d1]) rfl ⟨⟨_,[],rfl,Mem.Io.nil _ _,rfl⟩,?_⟩;exact ((za bJ).setCell (Nat.le_refl _) _).setCell (Nat.le_refl _) _
 subst hC;replace ER:=hide (by have :=za ER;rw [if_neg (by decide)] at this;exact this);obtain ⟨hT40,hTb⟩:=za HT rfl;have HAT:=hide (zl8.zt2 va vc T f w4 (by omega) (za D4));have HTB:=hide hTb;have x0:=X4.cell 0;simp only [kA0,kA1] at x0;clear HT hTb;go_wp2_with fail
 refine (za HAT).mono ?_;rintro e w5 ⟨⟨r,rfl,hr⟩,b5⟩;have bw5:=bw4.trans (b5.mono bw4.size);have O5:=O4.call b5;have X5:=X4.call b5;have D5:=hide (Mem.za0 (za D4) b5);clear HAT O4 X4 D4 x0 bw4 b5
 rcases hr.out with ⟨k,n,rfl,hk,hfd⟩|⟨rfl,hfd⟩
 rotate_left
 ·have hlk:Pl.lk T f=none:=hfd;replace ER:=hide (by have :=za ER;rw [hlk] at this;exact this);clear HWR HOK HF HTB D5 X5 hlk hfd hr;obtain rfl:R=(6,[]):=by have :=za ER;exact this
  go_wp2_with fail
  refine (zc6 6 _).mono ?_;rintro e wI ⟨rfl,bI⟩;have bJ:=hide ((bw5).trans (bI.mono (bw5).size));have RJ:=(O5).call bI;obtain ⟨⟨d0,d1⟩,f0,f1⟩:=jf2 RJ;go_wp2
  refine bodyPost_ret (v:= .agg #[.slice none 0 0, .int .i64 (6)]) (by simp [results,Tryz.results5,go_sem,d0,d1]) rfl ⟨⟨_,[],rfl,Mem.Io.nil _ _,rfl⟩,?_⟩;exact ((za bJ).setCell (Nat.le_refl _) _).setCell (Nat.le_refl _) _
 have hlk:Pl.lk T f=some n:=hfd;replace ER:=hide (by have :=za ER;rw [hlk] at this;exact this);have hnb:=za HTB n (List.mem_of_getElem? hk);have hkl:k<T.length:=(List.getElem?_eq_some_iff.1 hk).1;obtain ⟨g,o2,rfl,hgl,q0,q1,q2,q3,q4⟩:=za D5 k n hk;obtain ⟨np,nk,nd,nt,nm⟩:=n;simp only at ER q1 q2 q3 hnb;have y1:(k:Int)<(T.length:Int):=by omega
 have y2:(0:Int)≤(k:Int):=by omega
 have y3:decide ((k:Int)<0)=false:=by rw [decide_eq_false_iff_not];omega
 have y4:¬ ((k:Int)<0):=by omega
 have x0:=X5.cell 0;simp only [kA0,kA1] at x0;have HND:=hide hnb.2;clear HTB hfd hlk hr hk q0 q4 D5 hkl hnb;by_cases hk2:nk=2
 rotate_left
 ·replace ER:=hide (by have :=za ER;rw [if_neg hk2] at this;exact this);have z1:(nk !=2)=true:=by simpa using hk2
  have z2:decide (nk=2)=false:=by simpa using hk2
  have z4:(nk==2)=false:=by simpa using hk2
  clear HWR HOK HF HND;obtain rfl:R=(11,[]):=by have :=za ER;exact this
  go_wp2_with fail
  refine (zc6 11 _).mono ?_;rintro e wI ⟨rfl,bI⟩;have bJ:=hide ((bw5).trans (bI.mono (bw5).size));have RJ:=(O5).call bI;obtain ⟨⟨d0,d1⟩,f0,f1⟩:=jf2 RJ;go_wp2
  refine bodyPost_ret (v:= .agg #[.slice none 0 0, .int .i64 (11)]) (by simp [results,Tryz.results5,go_sem,d0,d1]) rfl ⟨⟨_,[],rfl,Mem.Io.nil _ _,rfl⟩,?_⟩;exact ((za bJ).setCell (Nat.le_refl _) _).setCell (Nat.le_refl _) _
 subst hk2;replace ER:=hide (by have :=za ER;rw [if_pos rfl] at this;exact this);by_cases hft:t=f
 ·replace ER:=hide (by have :=za ER;rw [if_pos hft] at this;exact this);have z3:=Pl.zu0 hft.symm;clear HWR HOK HF HND;obtain rfl:R=(7,[]):=by have :=za ER;exact this
  go_wp2_with fail
  refine (zc6 7 _).mono ?_;rintro e wI ⟨rfl,bI⟩;have bJ:=hide ((bw5).trans (bI.mono (bw5).size));have RJ:=(O5).call bI;obtain ⟨⟨d0,d1⟩,f0,f1⟩:=jf2 RJ;go_wp2
  refine bodyPost_ret (v:= .agg #[.slice none 0 0, .int .i64 (7)]) (by simp [results,Tryz.results5,go_sem,d0,d1]) rfl ⟨⟨_,[],rfl,Mem.Io.nil _ _,rfl⟩,?_⟩;exact ((za bJ).setCell (Nat.le_refl _) _).setCell (Nat.le_refl _) _
 replace ER:=hide (by have :=za ER;rw [if_neg hft] at this;exact this);have z3:=Pl.zq1 (fun h:f=t=>hft h.symm);have HW1:=hide (fun W bb=>za HWR nd nt (za HND) W bb);have hok2:=za HOK nd nt;have EW:Pl.wrtN (Is.map Pl.It.r) t nd nt=Pl.ze8 (Is.map Pl.It.r) (⟨t,2,nd,nt,0⟩:Pl.Nd) (fun S=>Pl.wrtC S (⟨t,2,nd,nt,0⟩:Pl.Nd)) (fun _ L1 _=>Pl.putL L1 (⟨t,2,nd,nt,0⟩:Pl.Nd)):=rfl;rw [←EW] at HW1;generalize Pl.wrtN (Is.map Pl.It.r) t nd nt=WR at HW1 hok2 ER;obtain ⟨wc,wx⟩:=WR;simp only at HW1 hok2 ER;have HK2:=hide hok2;have MK:Hid (∀W',Below w5.heap.size w5 W'→(W'.cell? ⟨X,0,none⟩=some (.slice (some ⟨g,o2,none⟩) T.length vc)∧W'.cell? ⟨g,o2+k*5+2,none⟩=some (.string nd)∧W'.cell? ⟨g,o2+k*5+3,none⟩=some (.int .i64 nt))):=hide fun W' bb=>⟨(X5.call bb).cell 0,(bb.cell (p:=⟨g,_,none⟩) hgl).trans q2,(bb.cell (p:=⟨g,_,none⟩) hgl).trans q3⟩;clear HWR HOK HND EW hok2;go_wp2_with fail
 refine yf3 (R:=fun T0 T' W=>∃ (Y:Nat) (ja:Option Addr) (jc:Nat) (Js:List Pl.It),T'=((((((((((((((((T0).setIfInBounds 56 (.slice (some ⟨b,o,none⟩) Is.length cap)).setIfInBounds 57 (.string t)).setIfInBounds 58 (.pointer (some ⟨X,0,none⟩))).setIfInBounds 59 (.slice (some ⟨g,o2,none⟩) T.length vc)).setIfInBounds 60 (.int .i64 k)).setIfInBounds 61 (.pointer (some ⟨g,o2+k*5,none⟩))).setIfInBounds 62 (.pointer (some ⟨g,o2+k*5+2,none⟩))).setIfInBounds 63 (.string nd)).setIfInBounds 64 (.pointer (some ⟨X,0,none⟩))).setIfInBounds 65 (.slice (some ⟨g,o2,none⟩) T.length vc)).setIfInBounds 66 (.int .i64 k)).setIfInBounds 67 (.pointer (some ⟨g,o2+k*5,none⟩))).setIfInBounds 68 (.pointer (some ⟨g,o2+k*5+3,none⟩))).setIfInBounds 69 (.int .i64 nt)).setIfInBounds 70 (.agg #[.slice ja Js.length jc, .int .i64 wc])).setIfInBounds 10 (.pointer (some ⟨Y,0,none⟩))∧Mv w W Y ja jc Js wc wx) ?_ ?_
 ·refine wp_region_held_drew (S:=fun W'=>W'.cell? ⟨X,0,none⟩=some (.slice (some ⟨g,o2,none⟩) T.length vc)∧W'.cell? ⟨g,o2+k*5+2,none⟩=some (.string nd)∧W'.cell? ⟨g,o2+k*5+3,none⟩=some (.int .i64 nt)) (by kernel_rfl) ?_ (fun hHeld=>?_)
  ·exact za MK _ (bD _)
  have bel:=bD (n:=w5.heap.size) w5;generalize w5.drew=D0 at hHeld bel ⊢;clear x0 q1 q2 q3 z3 X5 hgl;refine TB 0 ?_;refine TB 1 ?_;refine TB 2 ?_;refine TB 3 ?_;refine TB 4 ?_;refine TB 5 ?_;refine TB 6 ?_;refine TB 7 ?_;refine TB 8 ?_;refine TB 9 ?_;refine TB 10 ?_;refine TB 11 ?_;refine TB 12 ?_;refine TB 13 ?_;have hD0:w5.heap.size≤D0.heap.size:=bel.size;have hO5:w.heap.size<w5.heap.size:=O5.lt;refine wpAnyH_ready (rs:=[14,15]) (by kernel_rfl) (by simp) ?_;refine AllReadyH.cons rfl (fun K hK=>?_) (AllReadyH.cons rfl (fun K hK=>?_) AllReadyH.nil)
  ·go_simp
   refine (za HW1 _ (bw5.trans (bel.mono bw5.size))).mono ?_;rintro e D1 ⟨⟨v,Js,rfl,hio,hJ⟩,bX⟩;obtain ⟨ja,jc,rfl⟩:=zp2.zq2 hio;have bel1:=bel.trans (bX.mono bel.size);have hYw:D0.heap.size≤D1.heap.size:=bX.size;refine hK.out _ _ (za MK _ bel1) (fun hHeld1=>?_);clear hK K hHeld HW1
   try simp only [Act.put,kBs]
   refine RN 15 fun K hK=>?_;go_simp
   have bA:Below D1.heap.size D1 (D1.alloc (.cells #[.slice none 0 0, .int .i64 0] 26)):=bE0;have YY:=Mem.Blk.new D1 #[.slice none 0 0, .int .i64 0] 26;generalize D1.alloc (.cells #[.slice none 0 0, .int .i64 0] 26)=D2 at bA YY ⊢;refine hK.out _ _ (za MK _ (bel1.trans (bA.mono bel1.size))) (fun hHeld2=>?_);clear hK K hHeld1
   try simp only [Act.put,kBs]
   refine RN 16 fun K hK=>?_;obtain ⟨⟨e0,e1⟩,g0,g1⟩:=jf2 YY;go_simp
   clear e0 e1 g0 g1;have bA3:=(bA.setCell (p:=⟨D1.heap.size,0,none⟩) (Nat.le_refl _) (.slice ja Js.length jc)).setCell (p:=⟨D1.heap.size,1,none⟩) (Nat.le_refl _) (.int .i64 wc);replace YY:=(YY.put 0 (.slice ja Js.length jc)).put 1 (.int .i64 wc);replace hio:=hio.call bA3;replace bel:=bel1.trans (bA3.mono bel1.size);refine hK.out _ _ (za MK _ bel) (fun hHeld3=>?_);clear hK K hHeld2
   try simp only [Act.put,kBs]
   refine wpAnyH_done (by kernel_rfl) ?_ _;refine ⟨rfl,rfl,D1.heap.size,ja,jc,Js,?_,⟨by omega,bw5.trans (bel.mono bw5.size),O5.call bel,by simpa only [List.setIfInBounds_toArray,List.set_cons_zero,List.set_cons_succ] using YY,hio.mono (by omega),hJ⟩⟩;simp only [kB3,kB4,kB5]
  ·go_simp
   have bA:Below D0.heap.size D0 (D0.alloc (.cells #[.slice none 0 0, .int .i64 0] 26)):=bE0;have YY:=Mem.Blk.new D0 #[.slice none 0 0, .int .i64 0] 26;have bel1:=bel.trans (bA.mono bel.size);generalize D0.alloc (.cells #[.slice none 0 0, .int .i64 0] 26)=D1 at bA YY bel1 ⊢;have hYl:D0.heap.size<D1.heap.size:=YY.lt;refine hK.out _ _ (za MK _ bel1) (fun hHeld1=>?_);clear hK K hHeld
   try simp only [Act.put,kBs]
   refine RN 14 fun K hK=>?_;go_simp
   refine (za HW1 _ (bw5.trans (bel1.mono bw5.size))).mono ?_;rintro e D2 ⟨⟨v,Js,rfl,hio,hJ⟩,bX⟩;obtain ⟨ja,jc,rfl⟩:=zp2.zq2 hio;have bel2:=bel1.trans (bX.mono bel1.size);replace YY:=YY.call bX;refine hK.out _ _ (za MK _ bel2) (fun hHeld2=>?_);clear hK K hHeld1 HW1
   try simp only [Act.put,kBs]
   refine RN 16 fun K hK=>?_;obtain ⟨⟨e0,e1⟩,g0,g1⟩:=jf2 YY;go_simp
   clear e0 e1 g0 g1;replace YY:=(YY.put 0 (.slice ja Js.length jc)).put 1 (.int .i64 wc);replace hio:=(hio.set ⟨D0.heap.size,0,none⟩ (.slice ja Js.length jc) hYl).set ⟨D0.heap.size,1,none⟩ (.int .i64 wc) hYl;replace bel:=(bel2.setCell (p:=⟨D0.heap.size,0,none⟩) hD0 (.slice ja Js.length jc)).setCell (p:=⟨D0.heap.size,1,none⟩) hD0 (.int .i64 wc);refine hK.out _ _ (za MK _ bel) (fun hHeld3=>?_);clear hK K hHeld2
   try simp only [Act.put,kBs]
   refine wpAnyH_done (by kernel_rfl) ?_ _;refine ⟨rfl,rfl,D0.heap.size,ja,jc,Js,?_,⟨by omega,bw5.trans (bel.mono bw5.size),O5.call bel,by simpa only [List.setIfInBounds_toArray,List.set_cons_zero,List.set_cons_succ] using YY,hio.mono (by omega),hJ⟩⟩;simp only [kB3,kB4,kB5]
 rintro T' w9 ⟨Y,ja,jc,Js,hT,G9⟩;simp only [kB3,kB4,kB5] at hT;subst hT;have bw6:=G9.bel;have O6:=G9.out;have YY:=G9.box;have hio:=G9.io;have hJ:=G9.map;have hYO:=G9.lt;clear G9 bw5 O5 x0 q1 q2 q3 z3 X5 hgl MK HW1;obtain ⟨k0,k1,k2,k3⟩:=za HK2;have y0:=YY.cell 0;have y5:=YY.cell 1;simp only [kB3,kB4,kB5,kGs] at y0 y5;by_cases hwc:wc=0
 rotate_left
 ·have eR:R=(wc,wx):=by have :=za ER;rw [if_neg hwc] at this;exact this
  subst eR;have z1:(wc !=0)=true:=by simpa using hwc
  have z2:decide (wc=0)=false:=by simpa using hwc
  have z5:(wc==0)=false:=by simpa using hwc
  obtain ⟨⟨d0,d1⟩,f0,f1⟩:=jf2 O6;have HJ:=hide hJ;have HIO:=hide hio;have BW:=hide bw6;clear ER HK2 k0 k1 k2 k3 HF hwc hio bw6 YY O6 hJ;go_wp2
  refine bodyPost_ret (v:= .agg #[.slice ja Js.length jc, .int .i64 wc]) (by simp [results,Tryz.results5,go_sem,d0,d1]) rfl ⟨⟨_,Js,rfl,(((za HIO).set _ _ (by show w.heap.size<_;omega)).set _ _ (by show w.heap.size<_;omega)).mono (by omega),za HJ⟩,?_⟩;exact ((za BW).setCell (Nat.le_refl _) _).setCell (Nat.le_refl _) _
 subst hwc;subst hJ;have eR:R=Pl.remN (Js.map Pl.It.r) f:=by have :=za ER;rw [if_pos rfl] at this;exact this
 have hjl:Js.length≤12:=by rw [List.length_map] at k2;exact k2
 have hj0:Js.length≠0:=by have :=k1 rfl;rw [List.length_map] at this;exact this
 have hjo:∀y∈Js,y.t.L.length≤1048576∧∀n∈y.t.L,n.path.size≤1048576∧n.data.size≤1048576:=fun y hy=>⟨by have :=k3 y.r (List.mem_map.2 ⟨y,hy,rfl⟩);have e:y.r.2=y.t.L:=rfl;rw [e] at this;omega,Pl.zx5 (k0 y.r (List.mem_map.2 ⟨y,hy,rfl⟩))⟩;obtain ⟨jg,jc2,e1, -⟩:=hio.there hj0
 injection e1 with e1 e2 e3
 subst e1
 have hjA:∀y∈Js,zc5.okA w9 y.t.a y.t.cap y.t.L:=fun y hy=>by
  obtain ⟨i,hi⟩:=List.getElem?_of_mem hy;exact Mem.zu9 (hio.each i y hi).1
 have HRM:=hide (remove_specN jg 0 jc Js f w9 (by omega) hio.items.2 hjo hjA (za HF));have EM:Pl.remN (Js.map Pl.It.r) f=Pl.ze8 (Js.map Pl.It.r) (⟨f,1,⟨#[]⟩,0,0⟩:Pl.Nd) (fun S=>Pl.remC S f) (fun _ L1 lev=>Pl.remL L1 f lev):=rfl;rw [←EM,←eR] at HRM;clear ER HK2 k0 k1 k2 k3 HF eR EM hjA hjo hj0 hjl hio e2 e3 YY;have BW:=hide bw6;have HO6:=hide O6;clear bw6 O6;go_wp2_with fail
 refine (za HRM).mono ?_;rintro e w7 ⟨⟨v,Ks,rfl,hio,hr⟩,b7⟩;obtain ⟨ka,kc,rfl⟩:=zp2.zq2 hio;have O7:=(za HO6).call b7;obtain ⟨⟨d0,d1⟩,f0,f1⟩:=jf2 O7;have BX:=hide ((za BW).trans (b7.mono (za BW).size));have HIO:=hide (hio.mono (show w.heap.size+1≤_ by have :=(za HO6).lt;omega));have HR:=hide hr;clear HRM BW HO6 O7 b7 hio hr y0 y5;go_wp2
 refine bodyPost_ret (v:= .agg #[.slice ka Ks.length kc, .int .i64 R.1]) (by simp [results,Tryz.results5,go_sem,d0,d1]) rfl ⟨⟨_,Ks,rfl,(((za HIO).set _ _ (by show w.heap.size<_;omega)).set _ _ (by show w.heap.size<_;omega)).mono (by omega),za HR⟩,?_⟩;exact ((za BX).setCell (Nat.le_refl _) _).setCell (Nat.le_refl _) _
end zi6
end Go.Proofs.YthdhhcgopfgcbaaGreatDoor
