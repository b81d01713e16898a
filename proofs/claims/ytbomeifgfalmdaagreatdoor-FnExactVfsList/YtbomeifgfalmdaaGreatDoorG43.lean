/- Several texts of one claim in one file: WTreeR, WNestS, WLay6. -/
import Derived.Test.YtbomeifgfalmdaaGreatDoorWTreeS
set_option maxRecDepth 100000
set_option linter.unusedSimpArgs false
set_option maxHeartbeats 1000000
namespace Go.Proofs.YtbomeifgfalmdaaGreatDoor
section
open Go.RowKit
namespace WTreeS
theorem right_tree (a:Option Addr) (cap:Nat) (L:List Pl.Nd) (w:World) (hl:L.length≤1048576) (hv:Mem.zb1 w a L) (hok:∀n∈L,n.path.size≤1048576∧n.data.size≤1048576):
  Calls Tryz.prog 132 #[.agg #[.slice a L.length cap]] w fun e w'=>e= .returned (.bool (Pl.zc7 L))∧Below w.heap.size w w':=by
 have h:=zh7 a cap L w hl hv hok;rw [Pl.tree_same] at h;exact h
end WTreeS
end
section
open Go.RowKit
namespace WNestS
theorem item_any (m:Int) (a:Option Addr) (cap:Nat) (L:List Pl.Nd) (w:World) (hl:L.length≤1048576) (hv:Mem.zb1 w a L) (hok:∀n∈L,n.path.size≤1048576∧n.data.size≤1048576):
  Calls Tryz.prog 104 #[.agg #[.int .i64 m, .slice a L.length cap]] w fun e w'=>e= .returned (.bool (Pl.zg6 m L))∧Below w.heap.size w w':=by
 have b0:∀o,Below w.heap.size w (w.alloc o):=fun o=>(Below.refl _ _).alloc (Nat.le_refl _) o;have HB:=hide b0;by_cases h0:m=0
 ·subst h0;rw [Pl.yj0];have hz:=hide (fun W (b:Below w.heap.size w W)=>WTreeS.right_tree a cap L W hl (Mem.za9 hv b) hok);clear hv hok b0;go_enter Tryz.func104,Tryz.ntmps104
  go_wp2_with fail
  refine (za hz _ (za HB _)).mono ?_;rintro e w1 ⟨rfl,b1⟩;have bb:=(za HB _).trans (b1.mono (za HB _).size);clear hz b1;go_wp2
  go_ret
  exact ⟨rfl,bb⟩
 ·rw [Pl.yd0 h0];have hIS:=hide (WNode.is_any m 1 4);generalize (decide ((1:Int)≤m)&&decide (m≤4))=V at hIS;clear hv hok b0;go_enter Tryz.func104,Tryz.ntmps104
  go_wp2_with fail
  refine (za hIS _).mono ?_;rintro e w1 ⟨rfl,rfl⟩;cases V
  ·go_wp2
   go_ret
   exact ⟨by simp,za HB _⟩
  ·by_cases h1:L.length=0
   ·have t1:(L.length:Int)=0:=by omega
    go_wp2
    go_ret
    exact ⟨by simp [h1],za HB _⟩
   ·have t1:¬ (L.length:Int)=0:=by omega
    go_wp2
    go_ret
    exact ⟨by simp [h1],za HB _⟩
theorem end_any (a:Option Addr) (cap:Nat) (Is:List Pl.It) (hl:Is.length≤12) (hok:∀x∈Is,x.t.L.length≤1048576∧∀n∈x.t.L,n.path.size≤1048576∧n.data.size≤1048576) (q:Nat):
  ∀ (deep p:Nat) (w:World),deep+q=5→p≤Is.length→Mem.zb4 w a Is→
  Calls Tryz.prog 79 #[.slice a Is.length cap, .int .i64 (p:Int), .int .i64 (deep:Int)] w fun e w'=>e= .returned (.int .i64 (Pl.endI Is.length (Pl.ends 1 deep ((Pl.rowO (Is.map Pl.It.r)).drop p))))∧Below w.heap.size w w':=by
 have hrl:(Pl.rowO (Is.map Pl.It.r)).length=Is.length:=by rw [Pl.zm9,List.length_map]
 induction q with
 |zero=>
  intro deep p w hd hp hv;rw [Pl.ends_deep deep _ (by omega)];simp only [Pl.endI];have t1:(4:Int)<(deep:Int):=by omega
  by_cases hlt:(Is.length:Int)≤(p:Int)
  ·go_enter Tryz.func79,Tryz.ntmps79
   go_wp2
   go_ret
   exact ⟨rfl,Below.refl _ _⟩
  ·go_enter Tryz.func79,Tryz.ntmps79
   go_wp2
   go_ret
   exact ⟨rfl,Below.refl _ _⟩
 |succ q ih=>
  intro deep p w hd hp hv;by_cases hlt:(Is.length:Int)≤(p:Int)
  ·have e:(Pl.rowO (Is.map Pl.It.r)).drop p=[]:=List.drop_eq_nil_of_le (by omega);rw [e,Pl.ends_nil];simp only [Pl.endI];go_enter Tryz.func79,Tryz.ntmps79
   go_wp2
   go_ret
   exact ⟨rfl,Below.refl _ _⟩
  have t1:¬ (4:Int)<(deep:Int):=by omega
  have t2:(0:Int)≤(p:Int):=by omega
  have t3:(p:Int)<(Is.length:Int):=by omega
  obtain ⟨x,hx⟩:∃x,Is[p]? =some x:=⟨_,List.getElem?_eq_getElem (by omega)⟩;obtain ⟨⟨b,o,rfl,hb,q0,q0'⟩,q1⟩:=hv p x hx;have hz:=hide (item_any x.m x.t.a x.t.cap x.t.L w (hok x (List.mem_of_getElem? hx)).1 q1 (hok x (List.mem_of_getElem? hx)).2);have hrow:(Pl.rowO (Is.map Pl.It.r)).drop p=Pl.zm8 (x.m,x.t.L)::(Pl.rowO (Is.map Pl.It.r)).drop (p+1):=Pl.rowO_at (by rw [List.getElem?_map,hx];rfl);have c0:=q0;have c1:=q0';simp only [Pl.Tr.val] at c1;have HI:=hide (fun (p':Nat) (W:World) (hp':p'≤Is.length) (bb:Below w.heap.size w W)=>ih (deep+1) p' W (by omega) hp' (Mem.zc0 hv bb));have HQ:=hide q0;have HR:=hide hrl;rw [hrow];generalize hLL:Pl.rowO (Is.map Pl.It.r)=LL at hrl hrow HI HR ⊢;clear hLL hv hok ih hx q0' q1 hrow;cases hib:Pl.zg6 x.m x.t.L
  ·rw [hib] at hz;rw [Pl.itemO_no hib,Pl.ends_none];simp only [Pl.endI];clear HI hib q0;go_enter Tryz.func79,Tryz.ntmps79
   go_wp2_with fail
   refine (za hz).mono ?_;rintro e w1 ⟨rfl,b1⟩;clear hz;go_wp2
   go_ret
   exact ⟨rfl,b1⟩
  ·rw [hib] at hz;obtain ⟨hm0,hm4⟩:=Pl.zz1 hib;rw [Pl.ye9 hib,Pl.ends_one];obtain ⟨mm,hmm⟩:∃mm:Nat,x.m=(mm:Int):=⟨x.m.toNat,by omega⟩;rw [hmm] at c0 hz HQ ⊢;rw [Int.toNat_natCast];have hm5:mm≤4:=by omega
   clear hib hmm hm0 hm4 q0;generalize hT:Pl.ends mm (deep+1) (LL.drop (p+1))=T;have HT:=hide hT;clear hT;go_enter Tryz.func79,Tryz.ntmps79
   go_wp2_with fail
   refine (za hz).mono ?_;rintro e w1 ⟨rfl,b1⟩;have c2:=(b1.cell (p:=⟨b,_,none⟩) hb).trans (za HQ);clear hz c0 c1 HQ;go_wp2
   go_loopw [1,7] (fun v k wr=>∃kk:Nat,k= .int .i64 (kk:Int)∧kk≤4∧Below w.heap.size w wr∧((∃p':Nat,v= .int .i64 (p':Int)∧p'≤Is.length∧Hid (Pl.ends kk (deep+1) (LL.drop p')=T))∨(v= .int .i64 (-1)∧Hid (T=none)))) (fun _ k _=>(intOf k).toNat)
   case atStart=>exact ⟨mm,rfl,hm5,b1, .inl ⟨p+1,by go_num,by omega,HT⟩⟩
   case round=>
    obtain ⟨kk,rfl,hk4,hbel,hcase⟩:=hrel
    rcases hcase with ⟨p',rfl,hp',HE⟩|⟨rfl,HE⟩
    ·have u0:(0:Int)≤(p':Int):=by omega
     cases kk with
     |zero=>
      have hfin:Pl.endI Is.length T=(p':Int):=by
       rw [←za HE,Pl.ends_zero _ _ (by omega),Pl.endI,List.length_drop];omega
      go_wp2
      go_ret
      exact ⟨by first |rfl |(rw [hfin];rfl),hbel⟩
     |succ kk=>
      have u1:(0:Int)<((kk+1:Nat):Int):=by omega
      have hcall:=hide (za HI p' wr hp' hbel);go_wp2_with fail
      simp only [show (deep:Int)+1=((deep+1:Nat):Int) by omega,show IntKind.i64.wrap ((deep+1:Nat):Int)=((deep+1:Nat):Int) by rw [IntKind.wrap_i64];omega];refine (za hcall).mono ?_;rintro e w2 ⟨rfl,b2⟩;have hb2:=hbel.trans (b2.mono hbel.size);have hst:=za HE;rw [Pl.ends_step] at hst;cases hR:Pl.ends 1 (deep+1) (LL.drop p') with
      |none=>
       rw [hR] at hst;have HE2:Hid (T=none):=hide (by rw [←hst];rfl);simp only [Pl.endI];clear hst HE hR hcall b2;go_wp2
       go_roundw
       case rel=>exact ⟨kk,by go_num,by omega,hb2, .inr ⟨rfl,HE2⟩⟩
       case measure=>simp [intOf]
      |some R=>
       rw [hR] at hst;obtain ⟨p2,e2,hp2,hd2⟩:=Pl.ends_at (za HR) hp' hR;rw [e2];have HE2:Hid (Pl.ends kk (deep+1) (LL.drop p2)=T):=hide (by rw [hd2,←hst];rfl);clear hst HE hR hcall b2 hd2 e2;go_wp2
       go_roundw
       case rel=>exact ⟨kk,by go_num,by omega,hb2, .inl ⟨p2,rfl,hp2,HE2⟩⟩
       case measure=>simp [intOf]
    ·have hfin:Pl.endI Is.length T= -1:=by rw [za HE];rfl
     by_cases hk0:(0:Int)<(kk:Int)
     ·go_wp2
      go_ret
      exact ⟨by first |rfl |(rw [hfin];rfl),hbel⟩
     ·go_wp2
      go_ret
      exact ⟨by first |rfl |(rw [hfin];rfl),hbel⟩
theorem zh7 (a:Option Addr) (cap:Nat) (Is:List Pl.It) (w:World) (hl:Is.length≤1048576) (hv:Mem.zb4 w a Is) (hok:∀x∈Is,x.t.L.length≤1048576∧∀n∈x.t.L,n.path.size≤1048576∧n.data.size≤1048576):
  Calls Tryz.prog 47 #[.slice a Is.length cap] w fun e w'=>e= .returned (.bool (Pl.nest (Pl.rowO (Is.map Pl.It.r))).isSome)∧Below w.heap.size w w':=by
 have hrl:(Pl.rowO (Is.map Pl.It.r)).length=Is.length:=by rw [Pl.zm9,List.length_map]
 by_cases h12:Is.length≤12
 ·have t0:(Is.length:Int)≤12:=by omega
  have hz:=hide (end_any a cap Is h12 hok 4 1 0 w rfl (Nat.zero_le _) hv);have hne:=Pl.nest_ends (Pl.rowO (Is.map Pl.It.r)) (by omega);have hen:∀R,Pl.ends 1 1 ((Pl.rowO (Is.map Pl.It.r)).drop 0)=some R→R.length≤Is.length:=fun R h=>by have :=(Pl.ends_len h).1;simp only [List.drop_zero] at this;omega
  rw [List.drop_zero] at hz hen;generalize Pl.ends 1 1 (Pl.rowO (Is.map Pl.It.r))=E at hz hne hen;generalize (Pl.nest (Pl.rowO (Is.map Pl.It.r))).isSome=V at hne ⊢;clear hv hok hrl;have HN:=hide hne;have HEN:=hide hen;clear hne hen;go_enter Tryz.func47,Tryz.ntmps47
  go_wp2_with fail
  refine (za hz).mono ?_;rintro e w1 ⟨rfl,b1⟩;clear hz;by_cases hE:Pl.endI Is.length E=(Is.length:Int)
  ·have hV:V=true:=(za HN).2 (by
    cases E with
    |none=>simp [Pl.endI] at hE
    |some R=>rw [Pl.endI] at hE;rw [List.eq_nil_of_length_eq_zero (by omega :R.length=0)])
   go_wp2
   go_ret
   exact ⟨by rw [hV];rfl,b1⟩
  ·have hV:V=false:=by
    cases hV:V
    ·rfl
    ·exact absurd (by rw [(za HN).1 hV];simp [Pl.endI]) hE
   go_wp2
   go_ret
   exact ⟨by rw [hV];simp [hE],b1⟩
 ·have t0:¬ (Is.length:Int)≤12:=by omega
  rw [Pl.ye4 _ (by omega)];go_enter Tryz.func47,Tryz.ntmps47
  go_wp2
  go_ret
  exact ⟨rfl,Below.refl _ _⟩
end WNestS
end
section
open Go.RowKit
namespace WFlatS
open zh8
theorem layers_any (a:Option Addr) (cap:Nat) (Is:List Pl.It) (hl:Is.length≤12) (hok:∀x∈Is,x.t.L.length≤1048576∧∀n∈x.t.L,n.path.size≤1048576∧n.data.size≤1048576) (L:List Pl.Nd) (K:Pl.Fx) (p:Nat) (w:World) (hx:(Pl.Fx.cons L K .nil).okX) (hd:K.shape.depth≤3) (hfl:∃R,(Is.drop p).map Pl.It.r=(Pl.Fx.cons L K .nil).flat++R) (hv:Mem.zb4 w a Is):
  Calls Tryz.prog 76 #[.slice a Is.length cap, .int .i64 (p:Int)] w fun e w'=>∃v,e= .returned v∧ownI w' w.heap.size v (Pl.starts K (p+1))∧Below w.heap.size w w':=by
 obtain ⟨i0,hi,hz0,hz1,hz2⟩:=info_parts infoI;obtain ⟨R0,hfl⟩:=hfl;obtain ⟨x,hxp,hxm,hxL,hrest⟩:=zv2.zw hfl;have hplt:p<Is.length:=(List.getElem?_eq_some_iff.1 hxp).1;obtain ⟨⟨b,o,rfl,hb,q0, -⟩, -⟩:=hv p x hxp;have b0:Below w.heap.size w (w.alloc (.cells #[] 3)):=bE0;have c0:=(b0.cell (p:=⟨b,_,none⟩) hb).trans q0;rw [hxm] at c0;have hK4:K.len≤4:=hx.2.2.1;have t1:(p:Int)<(Is.length:Int):=by omega
 have t3:(0:Int)≤(p:Int):=by omega
 have HEN:=hide (fun (j:Nat) W (hj:j≤Is.length) (bb:Below w.heap.size w W)=>WNestS.end_any (some ⟨b,o,none⟩) cap Is hl hok 4 1 j W rfl hj (Mem.zc0 hv bb));have HKX:=hide hx.2.2.2.1;have HDP:=hide hd;have O0:Hid (ownI (w.alloc (.cells #[] 3)) w.heap.size (.slice (some ⟨w.heap.size,0,none⟩) 0 0) []):=⟨rfl, .inr ⟨w.heap.size,0,#[],rfl,Nat.le_refl _,heap_alloc_new _ _,Nat.le_refl _,Nat.zero_le _,rfl,rfl⟩⟩;have HFL:Hid (∃R,(Is.drop (p+1)).map Pl.It.r=K.flat++R):=⟨_,hrest⟩;have HST:Hid ([]++Pl.starts K (p+1)=Pl.starts K (p+1)):=rfl;clear hv hok hfl hrest hxp hxm q0 hx hd hxL;go_enter Tryz.func76,Tryz.ntmps76
 go_wp2
 go_loopw [1,5,6] (fun at' v kk wr=>∃ (j:Nat) (ps:List Nat) (F:Pl.Fx),at'= .int .i64 (j:Int)∧kk= .int .i64 (F.len:Int)∧Hid (ps.length+F.len=K.len)∧Below w.heap.size w wr∧Hid (ownI wr w.heap.size v ps)∧Hid (ps++Pl.starts F j=Pl.starts K (p+1))∧Hid F.okX∧Hid (F.shape.depth≤3)∧Hid (∃R,(Is.drop j).map Pl.It.r=F.flat++R)) (fun _ _ kk _=>(intOf kk).toNat)
 case atStart=>exact ⟨p+1,[],K,by go_num,rfl,hide (by simp),b0,O0,HST,HKX,HDP,HFL⟩
 case round=>
  obtain ⟨j,ps,F,rfl,rfl,HPL,hbel,OW,ST,FX,FD,FL⟩:=hrel;clear O0 HST HKX HDP HFL b0 c0;cases F with
  |nil=>
   have E:Hid (ps=Pl.starts K (p+1)):=hide (by have :=za ST;rw [Pl.starts,List.append_nil] at this;exact this);have u1:¬ (0:Int)<((Pl.Fx.nil.len:Nat):Int):=by decide
   clear ST FX FD FL HPL;go_wp2
   go_ret
   exact ⟨_,rfl,by rw [←za E];exact za OW,hbel⟩
  |cons L1 k1 m1=>
   obtain ⟨R2,hfl2⟩:=za FL;obtain ⟨x2,hx2, -, -,hr2⟩:=zv2.zw hfl2;have hjl:j<Is.length:=(List.getElem?_eq_some_iff.1 hx2).1;have hdd:=za FD;rw [Pl.depth_cons] at hdd;have hend:=hide (fun W bb=>za HEN j W (by omega) bb);have hef:=Pl.end_flat (xs:=Is.map Pl.It.r) (by rw [←List.map_drop];exact hfl2) (za FX) (by omega) (by rw [List.length_map];omega);rw [List.length_map] at hef;rw [hef] at hend;have FL2:Hid (∃R,(Is.drop (j+1+k1.sz)).map Pl.It.r=m1.flat++R):=⟨R2,zv2.drop_more hr2⟩;have FX2:Hid m1.okX:=(za FX).2.2.2.2;have FD2:Hid (m1.shape.depth≤3):=hide (by omega);have ST2:Hid ((ps++[j])++Pl.starts m1 (j+1+k1.sz)=Pl.starts K (p+1)):=hide (by have :=za ST;rw [Pl.starts] at this;rw [←this];simp);obtain ⟨f,hf⟩:∃f,f=(Pl.Fx.cons L1 k1 m1).len:=⟨_,rfl⟩;rw [←hf];have hpl:=za HPL;rw [←hf] at hpl;have u1:(0:Int)<(f:Int):=by rw [hf];simp only [Pl.Fx.len];omega
   have HF:Hid (f=m1.len+1):=hf;have HWF:Hid (wrap64 ((f:Int) - 1)=(f:Int) - 1):=hide (by unfold wrap64;omega);have HPL2:Hid ((ps++[j]).length+m1.len=K.len):=hide (by have :=za HF;simp;omega);have hps:ps.length≤4:=by omega
   have bA:Below wr.heap.size wr (wr.alloc (.cells #[.int .i64 (j:Int)] 3)):=bE0;have HR:=hide (zv4 (za OW) bA);have HQ:=hide (fun w2 h2=>Mem.zg4 (o:= .cells #[.int .i64 (j:Int)] 3) (w1:=w2) hbel (Nat.le_refl _) (za OW) h2);have HSB:=hide hbel.size;unfold ownI at HR;clear OW bA ST FX FD FL hfl2 hr2 hdd hef hf HPL hpl hx2 hbel;go_wp2_with (at_builtin;refine wpList_append_own _ rfl _ _ 98 rfl w.heap.size 3 i0 (.int .i64 0) 1 8 Tryz.underlying98 hi hz0 hz1 hz2 rfl (by decide) _ _ _ rfl (za HR) ⟨wr.heap.size,0,none⟩ 1 1 [.int .i64 (j:Int)] rfl rfl (Mem.ze6 _ _ _) (fun u hu=>by simp at hu;subst hu;rfl) (by unfold maxLen;omega) (by omega) (by have :=za HSB;simp;omega) ?_)
   intro v' w2 own' hgrow _;have O2:=hide (ye2 own');have bw2:=za HQ w2 hgrow;clear HR HQ own' hgrow HSB;go_wp2_with fail
   refine (za hend _ bw2).mono ?_;rintro e w3 ⟨rfl,b3⟩;have O3:=hide (zv4 (za O2) b3);have bw3:=bw2.trans (b3.mono bw2.size);clear hend O2 b3 bw2;go_wp2
   go_roundw
   case rel=>exact ⟨j+1+k1.sz,ps++[j],m1,rfl,by have h:=za HF;have hw:=za HWF;first |go_num|(rw [hw];congr 1;omega),HPL2,bw3,O3,ST2,FX2,FD2,FL2⟩
   case measure=>(have h:=za HF;have hw:=za HWF;simp [intOf];omega)
end WFlatS
end
end Go.Proofs.YtbomeifgfalmdaaGreatDoor
