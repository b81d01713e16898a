import Derived.Test.YtpggbphcbcogdaaGreatDoorPlainWn
import Derived.Test.YtpggbphcbcogdaaGreatDoorWWk6
namespace Go.Proofs.YtpggbphcbcogdaaGreatDoor
open Go.RowKit
namespace WWn
def outK (o:Option Pl.Nd):Pl.Nd × Int:=match o with
 |none=>(Pl.za3,6)
 |some n=>(n,0)
theorem walk_see (a:Option Addr) (cap:Nat) (Is:List Pl.It) (p:ByteArray) (w:World) (hv:Mem.zb8 w a Is) (hok:∀x∈Is,x.t.L.length≤1048576∧∀n∈x.t.L,n.path.size≤1048576∧n.data.size≤1048576) (hnr:(Pl.nest (Pl.rowO (Is.map Pl.It.r))).isSome=true) (hp:Pl.za2 p=true) (hz:¬p.size=0):
  Calls Tryz.prog 16 #[.slice a Is.length cap, .string p] w fun e w'=>e= .returned (.agg #[.string (outK (Pl.seeK (Is.map Pl.It.r) p)).1.path, .int .i64 (outK (Pl.seeK (Is.map Pl.It.r) p)).1.kind, .string (outK (Pl.seeK (Is.map Pl.It.r) p)).1.data, .int .i64 (outK (Pl.seeK (Is.map Pl.It.r) p)).1.time, .int .i64 (outK (Pl.seeK (Is.map Pl.It.r) p)).1.mark, .int .i64 (outK (Pl.seeK (Is.map Pl.It.r) p)).2])∧Below w.heap.size w w':=by
 obtain ⟨F,hF⟩:=Option.isSome_iff_exists.1 hnr;obtain ⟨L,K,hks,hfl,hko,hnx⟩:=Pl.zt4 hF;have hy:=Pl.nest_yes hF;have h12:Is.length≤12:=by have h:=hy.1;rw [Pl.zj7,List.length_map] at h;exact h
 have hs:Pl.seeK (Is.map Pl.It.r) p=Pl.zc3 L K p:=by unfold Pl.seeK;rw [hnx]
 rw [hs];exact zf3.walk6_any a cap Is h12 hok L K p w (by rw [hks];exact hy.2.2) hko hfl hp hz hv _ (by cases Pl.zc3 L K p <;> rfl)
set_option linter.unusedSimpArgs false in
set_option maxRecDepth 100000 in
set_option maxHeartbeats 4000000 in
theorem zm4 (a:Option Addr) (cap:Nat) (Is:List Pl.It) (q:ByteArray) (w:World) (hl:Is.length≤1048576) (hv:Mem.zb8 w a Is) (hok:∀x∈Is,x.t.L.length≤1048576∧∀n∈x.t.L,n.path.size≤1048576∧n.data.size≤1048576) (hq:q.size≤1048576) (WO:List ByteArray) (hWO:Pl.wnO (Is.map Pl.It.r) q=WO):
  Calls Tryz.prog 5 #[.slice a Is.length cap, .string q] w fun e w'=>∃g cp,e= .returned (.slice (some ⟨g,0,none⟩) WO.length cp)∧ze9.Txt w' w.heap.size (.slice (some ⟨g,0,none⟩) WO.length cp) WO∧WO.length≤480∧Below w.heap.size w w':=by
 have hml:(Is.map Pl.It.r).length=Is.length:=List.length_map ..
 have A0:Hid (Below w.heap.size w (w.alloc (.cells #[] 9))∧ze9.Txt (w.alloc (.cells #[] 9)) w.heap.size (.slice (some ⟨w.heap.size,0,none⟩) 0 0) []):=
  hide ⟨(Below.refl _ _).alloc (Nat.le_refl _) _,⟨rfl, .inr ⟨w.heap.size,0,#[],rfl,Nat.le_refl _,heap_alloc_new _ _,Nat.le_refl _,Nat.zero_le _,rfl,rfl⟩⟩⟩
 have HNR:=hide (fun W (b:Below w.heap.size w W)=>WNestS.zh9 a cap Is W hl (Mem.zd4 hv b) hok);have HPR:=hide (fun W=>ze1.right_one q W hq);have HNM:=hide (fun W=>ze1.zo0 q W hq);have HSE:=hide (fun p W (b:Below w.heap.size w W) h1 h2 h3=>walk_see a cap Is p W (Mem.zd4 hv b) hok h1 h2 h3);have HV:=hide hv;have HOK:=hide hok;have NO:Hid (Pl.wnB (Is.map Pl.It.r) q=false→WO=[]):=hide (fun h=>by rw [←hWO];exact if_neg (by rw [h];decide));have E1:Hid (400<Is.length→WO=[]):=hide (fun h=>za NO (by unfold Pl.wnB;rw [hml,decide_eq_false (by omega)];rfl));have E2:Hid (8000<q.size→WO=[]):=hide (fun h=>za NO (by unfold Pl.wnB;rw [decide_eq_false (show ¬q.size≤8000 by omega)];simp));have E3:Hid ((Pl.nest (Pl.rowO (Is.map Pl.It.r))).isSome=false→WO=[]):=hide (fun h=>za NO (by unfold Pl.wnB;rw [h];simp));have E4:Hid (Pl.za2 q=false→WO=[]):=hide (fun h=>za NO (by unfold Pl.wnB;rw [h];simp))
 have E5:Hid (¬q.size=0→¬ (outK (Pl.seeK (Is.map Pl.It.r) q)).1.kind=1→WO=[]):=hide (fun h h2=>za NO (by
  unfold Pl.wnB
  have h3:Pl.dirK (Pl.seeK (Is.map Pl.It.r) q)=false:=by
   cases e:Pl.seeK (Is.map Pl.It.r) q with
   |none=>rfl
   |some n=>rw [e] at h2;exact decide_eq_false h2
  rw [h3,decide_eq_false h]
  simp))
 have E6:Hid (6≤(Pl.names q).length→WO=[]):=hide (fun h=>za NO (by unfold Pl.wnB;rw [decide_eq_false (show ¬ (Pl.names q).length<6 by omega)];simp))
 have E7:Hid (Is.length≤400→q.size≤8000→(Pl.nest (Pl.rowO (Is.map Pl.It.r))).isSome=true→Pl.za2 q=true→(q.size=0∨(outK (Pl.seeK (Is.map Pl.It.r) q)).1.kind=1)→(Pl.names q).length<6→WO=Pl.wnC (Is.map Pl.It.r) q (Is.map Pl.It.r)):=hide (fun h1 h2 h3 h4 h5 h6=>by
  rw [←hWO];refine if_pos ?_;unfold Pl.wnB
  have h7:(decide (q.size=0)||Pl.dirK (Pl.seeK (Is.map Pl.It.r) q))=true:=by
   rcases h5 with h5|h5
   ·simp [h5]
   ·cases e:Pl.seeK (Is.map Pl.It.r) q with
    |none=>rw [e] at h5;cases h5
    |some n=>rw [e] at h5;simp [Pl.dirK];exact .inr h5
  rw [hml,h7,h4,h3];simp
  omega)
 have HKD:Hid ((Pl.nest (Pl.rowO (Is.map Pl.It.r))).isSome=true→∀ (x:Pl.It) (t:ByteArray),x∈Is→t∈Pl.za6 q x.t.L→Pl.za2 (Pl.ze8 q t)=true∧¬ (Pl.ze8 q t).size=0∧t.size≤1048576):=hide (fun hn x t hx ht=>by
  obtain ⟨F,hF⟩:=Option.isSome_iff_exists.1 hn;obtain ⟨L,K,hks,hfl,hko,hnx⟩:=Pl.zt4 hF;have htr:=(Pl.Fx.ok_mem hko x.r (by rw [hfl];exact List.mem_map.2 ⟨x,hx,rfl⟩)).1;obtain ⟨n,hn1,h1,h2⟩:=Pl.kid_in htr ht;have e:=Pl.zv2 h2 h1;rw [e];have h3:=(Pl.zq8 h2).1 t (by rw [h1];simp);have h5:t.size≤20:=by unfold Pl.zb4 at h3;exact (of_decide_eq_true h3).2.1
  exact ⟨h2,(Pl.zs2 htr n hn1).2,by omega⟩)
 have HLN:Hid ((Pl.nest (Pl.rowO (Is.map Pl.It.r))).isSome=true→Is.length≤12∧∀x∈Is,x.t.L.length≤40):=hide (fun hn=>by
  obtain ⟨F,hF⟩:=Option.isSome_iff_exists.1 hn;obtain ⟨L,K,hks,hfl,hko,hnx⟩:=Pl.zt4 hF;refine ⟨by have :=Pl.nest_len hF;rw [List.length_map] at this;exact this,fun x hx=>?_⟩
  exact ((Pl.zk7 _).1 (Pl.Fx.ok_mem hko x.r (by rw [hfl];exact List.mem_map.2 ⟨x,hx,rfl⟩)).1).1)
 have HST:Hid (∀ (j:Nat) (x:Pl.It),Is[j]? =some x→Pl.wnC (Is.map Pl.It.r) q ((Is.map Pl.It.r).take (j+1))=Pl.insF (Pl.zg1 (Is.map Pl.It.r) q) (Pl.wnC (Is.map Pl.It.r) q ((Is.map Pl.It.r).take j)) (Pl.za6 q x.t.L)):=hide (fun j x h=>by
  have :=Pl.wnC_step (XS:=Is.map Pl.It.r) (Ys:=Is.map Pl.It.r) (q:=q) (j:=j) (x:=x.r) (by rw [List.getElem?_map,h];rfl)
  exact this)
 have HKS:Hid (∀t,Pl.zg1 (Is.map Pl.It.r) q t=decide ((outK (Pl.seeK (Is.map Pl.It.r) (Pl.ze8 q t))).2=0)):=hide (fun t=>by
  unfold Pl.zg1
  cases Pl.seeK (Is.map Pl.It.r) (Pl.ze8 q t) <;> simp [outK])
 have HFI:Hid (Pl.wnC (Is.map Pl.It.r) q (Is.map Pl.It.r)=Pl.wnC (Is.map Pl.It.r) q ((Is.map Pl.It.r).take Is.length)):=hide (by rw [←hml,List.take_length]);obtain ⟨NK,hNK⟩:∃NK:Nat→List ByteArray,NK=fun j=>Pl.wnC (Is.map Pl.It.r) q ((Is.map Pl.It.r).take j):=⟨_,rfl⟩;have e0:∀j,Pl.wnC (Is.map Pl.It.r) q ((Is.map Pl.It.r).take j)=NK j:=fun j=>by rw [hNK]
 have N0:Hid (NK 0=[]):=hide (by rw [hNK];rfl);simp only [e0] at HST HFI;generalize Pl.wnC (Is.map Pl.It.r) q (Is.map Pl.It.r)=RR at HFI E7;generalize Pl.zg1 (Is.map Pl.It.r) q=FF at HST HKS;obtain ⟨SE,hSE⟩:∃SE:ByteArray→Pl.Nd × Int,SE=fun p=>outK (Pl.seeK (Is.map Pl.It.r) p):=⟨_,rfl⟩;have e1:∀p,outK (Pl.seeK (Is.map Pl.It.r) p)=SE p:=fun p=>by rw [hSE]
 simp only [e1] at HSE E5 E7 HKS;generalize (Pl.nest (Pl.rowO (Is.map Pl.It.r))).isSome=NB at HNR E3 E7 HKD HLN HSE;clear hv hok hNK e0 e1 hSE hWO NO hml;have hb0:=hide (za A0).1;have hx0:=hide (za A0).2;clear A0;have hf0:∀ (a:ByteArray) (k:Int) (d:ByteArray) (t m c:Int) (W:World),(Instr.field 44 (.agg #[.string a, .int .i64 k, .string d, .int .i64 t, .int .i64 m, .int .i64 c]) 0).run Tryz.prog W= .ok (.agg #[.string a, .int .i64 k, .string d, .int .i64 t, .int .i64 m]) W:=fun _ _ _ _ _ _ _=>by kernel_rfl
 have hf1:∀ (a:ByteArray) (k:Int) (d:ByteArray) (t m c:Int) (W:World),(Instr.field 44 (.agg #[.string a, .int .i64 k, .string d, .int .i64 t, .int .i64 m, .int .i64 c]) 1).run Tryz.prog W= .ok (.int .i64 c) W:=fun _ _ _ _ _ _ _=>by kernel_rfl
 have hf2:∀ (a:ByteArray) (k:Int) (d:ByteArray) (t m:Int) (W:World),(Instr.field 42 (.agg #[.string a, .int .i64 k, .string d, .int .i64 t, .int .i64 m]) 1).run Tryz.prog W= .ok (.int .i64 k) W:=fun _ _ _ _ _ _=>by kernel_rfl
 go_enter Tryz.func5,Tryz.ntmps5
 by_cases h1:400<Is.length
 ·obtain rfl:=za E1 h1;have t1:(400:Int)<(Is.length:Int):=by omega
  clear HNR HPR HNM HSE HV HOK E1 E2 E3 E4 E5 E6 E7 HKD HLN HST HKS HFI N0;go_wp2
  go_ret
  first |exact ⟨_,0,rfl,za hx0,by simp,za hb0⟩|exact ⟨_,0,rfl,za hx0,za hb0⟩
 have t1:¬ (400:Int)<(Is.length:Int):=by omega
 by_cases h2:8000<q.size
 ·obtain rfl:=za E2 h2;have t2:(8000:Int)<(q.size:Int):=by omega
  clear HNR HPR HNM HSE HV HOK E1 E2 E3 E4 E5 E6 E7 HKD HLN HST HKS HFI N0;go_wp2
  go_ret
  first |exact ⟨_,0,rfl,za hx0,by simp,za hb0⟩|exact ⟨_,0,rfl,za hx0,za hb0⟩
 have t2:¬ (8000:Int)<(q.size:Int):=by omega
 go_wp2_with fail
 generalize w.alloc (.cells #[] 9)=w0 at hb0 hx0 ⊢;refine (za HNR _ (za hb0)).mono ?_;rintro e w1 ⟨rfl,b1⟩;have hb1:=hide ((za hb0).trans (b1.mono (za hb0).size));have hx1:Hid (ze9.Txt w1 w.heap.size (.slice (some ⟨w.heap.size,0,none⟩) 0 0) []):=hide (Mem.zc8 (za hx0) b1);clear HNR b1 hb0 hx0 E1 E2;cases hNB:NB with
 |false=>
  obtain rfl:=za E3 hNB;clear HPR HNM HSE HV HOK E3 E4 E5 E6 E7 HKD HLN HST HKS HFI N0;go_wp2
  go_ret
  first |exact ⟨_,0,rfl,za hx1,by simp,za hb1⟩|exact ⟨_,0,rfl,za hx1,za hb1⟩
 |true=>
 subst hNB;go_wp2_with fail
 refine (za HPR _).mono ?_;rintro e w2 ⟨rfl,b2⟩;have hb2:=hide ((za hb1).trans (b2.mono (za hb1).size));have hx2:Hid (ze9.Txt w2 w.heap.size (.slice (some ⟨w.heap.size,0,none⟩) 0 0) []):=hide (Mem.zc8 (za hx1) b2);clear HPR b2 hb1 hx1 E3;cases hpb:Pl.za2 q with
 |false=>
  obtain rfl:=za E4 hpb;clear HNM HSE HV HOK E4 E5 E6 E7 HKD HLN HST HKS HFI N0;go_wp2
  go_ret
  first |exact ⟨_,0,rfl,za hx2,by simp,za hb2⟩|exact ⟨_,0,rfl,za hx2,za hb2⟩
 |true=>
 by_cases hz:q.size=0
 case' pos=>
  have hdir:=hide (.inl hz:q.size=0∨(SE q).1.kind=1);have t3:q.toList.isEmpty=true:=by rw [Pl.zd7];simpa [Pl.zf7] using hz
  have hb3:=hb2;have hx3:=hx2;clear hb2 hx2 hz E4 E5;go_wp2_with fail
 case' neg=>
  have t3:q.toList.isEmpty=false:=by rw [Pl.zd7];simpa [Pl.zf7] using hz
  go_wp2_with fail
  refine (za HSE q _ (za hb2) (by simp) hpb hz).mono ?_;rintro e w3 ⟨rfl,b3⟩;have hb3:=hide ((za hb2).trans (b3.mono (za hb2).size));have hx3:Hid (ze9.Txt w3 w.heap.size (.slice (some ⟨w.heap.size,0,none⟩) 0 0) []):=hide (Mem.zc8 (za hx2) b3);clear hb2 hx2 b3 E4;by_cases hk:(SE q).1.kind=1
  case neg=>
   obtain rfl:=za E5 hz hk;have t4:((SE q).1.kind !=1)=true:=by simpa using hk
   have t5:decide ((SE q).1.kind=1)=false:=by simpa using hk
   clear HNM HSE HV HOK E5 E6 E7 HKD HLN HST HKS HFI N0;go_wp2
   go_ret
   first |exact ⟨_,0,rfl,za hx3,by simp,za hb3⟩|exact ⟨_,0,rfl,za hx3,za hb3⟩
  case' pos=>
   have hdir:=hide (.inr hk:q.size=0∨(SE q).1.kind=1);have t4:((SE q).1.kind !=1)=false:=by simpa using hk
   have t5:decide ((SE q).1.kind=1)=true:=by simpa using hk
   clear hz E5;go_wp2_with fail
   clear hk t4 t5
 all_goals
  refine (za HNM _).mono ?_;rintro e w4 ⟨vq,rfl,ownq,b4⟩;obtain ⟨qa,qc,rfl⟩:=Mem.zh8 ownq;have hb4:=hide ((za hb3).trans (b4.mono (za hb3).size));have hx4:Hid (ze9.Txt w4 w.heap.size (.slice (some ⟨w.heap.size,0,none⟩) 0 0) []):=hide (Mem.zc8 (za hx3) b4);clear HNM hb3 hx3 b4 ownq t3;by_cases h6:6≤(Pl.names q).length
  case pos=>
   obtain rfl:=za E6 h6;have t4:(6:Int)≤((Pl.names q).length:Int):=by omega
   clear HSE HV HOK E6 E7 HKD HLN HST HKS HFI N0 hdir;go_wp2
   go_ret
   first |exact ⟨_,0,rfl,za hx4,by simp,za hb4⟩|exact ⟨_,0,rfl,za hx4,za hb4⟩
  case neg=>
  have t4:¬ (6:Int)≤((Pl.names q).length:Int):=by omega
  obtain rfl:=za E7 (by omega) (by omega) (by simp) hpb (za hdir) (by omega);obtain ⟨hl12,hl40⟩:=za HLN (by simp);have HL:=hide hl40
  have H0:Hid (Below w.heap.size w w4∧∃g cap,(Value.slice (some ⟨w.heap.size,0,none⟩) 0 0)= .slice (some ⟨g,0,none⟩) (NK 0).length cap∧ze9.Txt w4 w.heap.size (.slice (some ⟨g,0,none⟩) (NK 0).length cap) (NK 0)∧(NK 0).length≤40*0):=by
   rw [za N0];exact hide ⟨za hb4,_,_,rfl,za hx4,by simp⟩
  clear E6 E7 HLN hdir hl40 N0 hb4 hx4;go_wp2
  go_loopw [5,6] (fun v i wr=>∃j:Nat,j≤Is.length∧i= .int .i64 (j:Int)∧Hid (Below w.heap.size w wr∧∃g cap,v= .slice (some ⟨g,0,none⟩) (NK j).length cap∧ze9.Txt wr w.heap.size (.slice (some ⟨g,0,none⟩) (NK j).length cap) (NK j)∧(NK j).length≤40*j)) (fun _ i _=>Is.length - (intOf i).toNat)
  case atStart=>exact ⟨0,Nat.zero_le _,rfl,H0⟩
  case round=>
   obtain ⟨j,hj,rfl,HA⟩:=hrel;clear H0;obtain ⟨hb,g,cp,hv7,htx,hln⟩:=za HA;subst hv7;have HB:=hide hb;have HX:=hide htx;clear HA htx;by_cases hlt:j<Is.length
   ·obtain ⟨x,hx⟩:∃x,Is[j]? =some x:=⟨_,List.getElem?_eq_getElem hlt⟩;have hmem:=List.mem_of_getElem? hx;have HSS:=hide (za HST j x hx);have hx40:=za HL x hmem;have hxo:=za HOK x hmem;have HKX:=hide (fun t ht=>za HKD (by simp) x t hmem ht);obtain ⟨⟨bt,ot,hae,hbt,c0,c1⟩,hnd⟩:=Mem.zd4 (za HV) hb j x hx;subst hae;obtain ⟨xm,ta,tc,tL⟩:=x;simp only [Pl.Tr.val] at c1;simp only at hx40 hxo hnd HSS HKX;have y1:(j:Int)<(Is.length:Int):=by omega
    have y2:(0:Int)≤(j:Int):=by omega
    have hl3:=hide (zj0.l03_any ta tc tL q wr (by omega) hnd hxo.2)
    have hkn:(Pl.za6 q tL).length≤40:=by
     have :=Pl.kids_len q tL tL.length;rw [List.take_length] at this;omega
    clear hnd hxo hx40 hx hmem hb;generalize Pl.za6 q tL=K at hl3 hkn HSS HKX;go_wp2_with fail
    refine (za hl3).mono ?_;rintro e w5 ⟨vl,rfl,hownL,b5⟩;have HB1:=hide ((za HB).trans (b5.mono (za HB).size));have HX1:Hid (ze9.Txt w5 w.heap.size (.slice (some ⟨g,0,none⟩) (NK j).length cp) (NK j)):=hide (Mem.zc8 (za HX) b5);have HLR:=hide (Mem.zf9 hownL (Nat.zero_le _));clear HB HX hownL b5 c0 c1 hl3;generalize hNj:NK j=out0 at HX1 hln HSS ⊢;obtain ⟨vla,vlc,rfl⟩:=Mem.zh8 (za HLR);go_wp2
    go_loopw [5,8] (fun v i wr=>∃m:Nat,m≤K.length∧i= .int .i64 (m:Int)∧Hid (Below w.heap.size w wr∧Below w5.heap.size w5 wr∧∃g cap,v= .slice (some ⟨g,0,none⟩) (Pl.insF FF out0 (K.take m)).length cap∧ze9.Txt wr w.heap.size (.slice (some ⟨g,0,none⟩) (Pl.insF FF out0 (K.take m)).length cap) (Pl.insF FF out0 (K.take m))∧(Pl.insF FF out0 (K.take m)).length≤40*j+m)) (fun _ i _=>K.length - (intOf i).toNat)
    case atStart=>exact ⟨0,Nat.zero_le _,rfl,hide ⟨za HB1,Below.refl _ _,g,cp,rfl,za HX1,hln⟩⟩
    case round=>
     obtain ⟨m,hm,rfl,HA⟩:=hrel;obtain ⟨hb,hb5,g2,cap2,hv7,htx,hln2⟩:=za HA;subst hv7;have HB2:=hide hb;have HB3:=hide hb5;have HX2:=hide htx;clear HA htx HB1 HX1 hln hb hb5;by_cases hlt2:m<K.length
     ·obtain ⟨t,ht⟩:∃t,K[m]? =some t:=⟨_,List.getElem?_eq_getElem hlt2⟩;obtain ⟨k1,k2,k3⟩:=za HKX t (List.mem_of_getElem? ht);have HIS:=hide (Pl.insF_step (f:=FF) (out:=out0) ht);have hft:=za HKS t;have HIL:=hide (Pl.ins_len t (Pl.insF FF out0 (K.take m)));have hlr:=Mem.zc8 (za HLR) (za HB3)
      obtain ⟨gl,hgl⟩:∃gl,vla=some ⟨gl,0,none⟩:=by
       rcases hlr.2 with ⟨_,h0⟩|⟨gl,c',cur,h,_⟩
       ·omega
       ·injection h with h1;exact ⟨gl,h1⟩
      subst hgl;have cL:=ze9.Txt.cell (B:=0) (l:=K) hlr ht;have y5:(m:Int)<(K.length:Int):=by omega
      have y6:(0:Int)≤(m:Int):=by omega
      have hsw:=(za HB2).size;have HJ:=hide (ze1.join1_any q t wr hq k3);have HS2:=hide (za HSE (Pl.ze8 q t) wr (za HB2) (by simp) k1 k2);generalize hout:Pl.insF FF out0 (K.take m)=out1 at HX2 hln2 HIS HIL ⊢;generalize SE (Pl.ze8 q t)=sn at HS2 hft;generalize Pl.ze8 q t=jp at HJ HS2;have HKT:=hide ht;clear hlr ht hout k1 k2 k3;go_wp2_with fail
      refine (za HJ).mono ?_;rintro e wJ ⟨rfl,hwJ⟩;subst wJ;go_wp2_with fail
      refine (za HS2).mono ?_;rintro e w6 ⟨rfl,b6⟩;have HB4:=hide ((za HB2).trans (b6.mono (za HB2).size));have HB5:=hide ((za HB3).trans (b6.mono (za HB3).size));have HX4:Hid (ze9.Txt w6 w.heap.size (.slice (some ⟨g2,0,none⟩) out1.length cap2) out1):=hide (Mem.zc8 (za HX2) b6);have cL6:=ze9.Txt.cell (B:=0) (l:=K) (k:=m) (x:=t) (Mem.zc8 (za HLR) (za HB5)) (za HKT);clear HJ HS2 HB2 HB3 HX2 b6 cL HKT;by_cases hc:sn.2=0
      ·have hf1:FF t=true:=by rw [hft];exact decide_eq_true hc
       have z1:(sn.2==0)=true:=by simpa using hc
       have z2:decide (sn.2=0)=true:=by simpa using hc
       have hnm:=hide (ze9.any w.heap.size g2 cap2 out1 t w6 (by omega) (za HB4).size (za HX4));have HIS2:=hide (by have :=za HIS;rw [if_pos hf1] at this;exact this);generalize hres:Pl.insN t out1=res at hnm HIS2 HIL;clear HX4 hres HIS hft hc hf1;go_wp2_with fail
       refine (za hnm).mono ?_;rintro e w7 ⟨g3,cap3,rfl,htx,b7⟩
       have HZ:Hid (Below w.heap.size w w7∧Below w5.heap.size w5 w7∧∃g cap,(Value.slice (some ⟨g3,0,none⟩) res.length cap3)= .slice (some ⟨g,0,none⟩) (Pl.insF FF out0 (K.take (m+1))).length cap∧ze9.Txt w7 w.heap.size (.slice (some ⟨g,0,none⟩) (Pl.insF FF out0 (K.take (m+1))).length cap) (Pl.insF FF out0 (K.take (m+1)))∧(Pl.insF FF out0 (K.take (m+1))).length≤40*j+(m+1)):=by
        rw [za HIS2];exact hide ⟨(za HB4).trans (b7.mono (za HB4).size),(za HB5).trans (b7.mono (za HB5).size),g3,cap3,rfl,htx,by have :=za HIL;omega⟩
       clear hnm htx b7 HB4 HB5 HIS2 HIL cL6 z1 z2;go_wp2
       go_roundw
       case rel=>exact ⟨m+1,by omega,by go_num,HZ⟩
       case measure=>simp [intOf];omega
      ·have hf1:¬FF t=true:=by rw [hft];simpa using hc
       have z1:(sn.2==0)=false:=by simpa using hc
       have z2:decide (sn.2=0)=false:=by simpa using hc
       have HZ:Hid (Below w.heap.size w w6∧Below w5.heap.size w5 w6∧∃g cap,(Value.slice (some ⟨g2,0,none⟩) out1.length cap2)= .slice (some ⟨g,0,none⟩) (Pl.insF FF out0 (K.take (m+1))).length cap∧ze9.Txt w6 w.heap.size (.slice (some ⟨g,0,none⟩) (Pl.insF FF out0 (K.take (m+1))).length cap) (Pl.insF FF out0 (K.take (m+1)))∧(Pl.insF FF out0 (K.take (m+1))).length≤40*j+(m+1)):=by
        have e2:=za HIS;rw [if_neg hf1] at e2;rw [e2];exact hide ⟨za HB4,za HB5,g2,cap2,rfl,za HX4,by omega⟩
       clear HX4 HB4 HB5 HIS HIL cL6 hft hc hf1;go_wp2
       go_roundw
       case rel=>exact ⟨m+1,by omega,by go_num,HZ⟩
       case measure=>simp [intOf];omega
     ·have y5:¬ (m:Int)<(K.length:Int):=by omega
      have HZ:Hid (Below w.heap.size w wr∧∃g cap,(Value.slice (some ⟨g2,0,none⟩) (Pl.insF FF out0 (K.take m)).length cap2)= .slice (some ⟨g,0,none⟩) (NK (j+1)).length cap∧ze9.Txt wr w.heap.size (.slice (some ⟨g,0,none⟩) (NK (j+1)).length cap) (NK (j+1))∧(NK (j+1)).length≤40*(j+1)):=by
       have e1:K.take m=K:=List.take_of_length_le (by omega);have h1:=za HX2;rw [e1] at h1 hln2;rw [za HSS,e1];exact hide ⟨za HB2,g2,cap2,rfl,h1,by omega⟩
      clear HX2 HB2 HB3 HSS HLR hln2;go_wp2
      go_roundw
      case rel=>exact ⟨j+1,by omega,by go_num,HZ⟩
      case measure=>simp [intOf];omega
   ·obtain rfl:j=Is.length:=by omega
    have y1:¬ (Is.length:Int)<(Is.length:Int):=by omega
    have HZ:Hid (ze9.Txt wr w.heap.size (.slice (some ⟨g,0,none⟩) WO.length cp) WO∧WO.length≤480∧(NK Is.length).length=WO.length):=by
     rw [za HFI];exact hide ⟨za HX,by omega,rfl⟩
    clear HX hln;go_wp2
    go_ret
    exact ⟨g,cp,by rw [←(za HZ).2.2];rfl,(za HZ).1,(za HZ).2.1,za HB⟩
end WWn
end Go.Proofs.YtpggbphcbcogdaaGreatDoor
