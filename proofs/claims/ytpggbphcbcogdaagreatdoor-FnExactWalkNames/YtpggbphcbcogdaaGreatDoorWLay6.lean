import Derived.Test.YtpggbphcbcogdaaGreatDoorTakeC
import Derived.Test.YtpggbphcbcogdaaGreatDoorWOwnI
import Derived.Test.YtpggbphcbcogdaaGreatDoorPlainEnds
import Derived.Test.YtpggbphcbcogdaaGreatDoorWDropX
import Derived.Test.YtpggbphcbcogdaaGreatDoorWNestS
namespace Go.Proofs.YtpggbphcbcogdaaGreatDoor
open Go.RowKit
namespace WFlatS
open zf3
set_option linter.unusedSimpArgs false in
set_option maxRecDepth 100000 in
set_option maxHeartbeats 1000000 in
theorem layers_any (a:Option Addr) (cap:Nat) (Is:List Pl.It) (hl:Is.length≤12) (hok:∀x∈Is,x.t.L.length≤1048576∧∀n∈x.t.L,n.path.size≤1048576∧n.data.size≤1048576) (L:List Pl.Nd) (K:Pl.Fx) (p:Nat) (w:World) (hx:(Pl.Fx.cons L K .nil).okX) (hd:K.shape.depth≤3) (hfl:∃R,(Is.drop p).map Pl.It.r=(Pl.Fx.cons L K .nil).flat++R) (hv:Mem.zb8 w a Is):
  Calls Tryz.prog 47 #[.slice a Is.length cap, .int .i64 (p:Int)] w fun e w'=>∃v,e= .returned v∧ownI w' w.heap.size v (Pl.starts K (p+1))∧Below w.heap.size w w':=by
 obtain ⟨i0,hi,hz0,hz1,hz2⟩:=info_parts infoI;obtain ⟨R0,hfl⟩:=hfl;obtain ⟨x,hxp,hxm,hxL,hrest⟩:=zn8.zo hfl;have hplt:p<Is.length:=(List.getElem?_eq_some_iff.1 hxp).1;obtain ⟨⟨b,o,rfl,hb,q0, -⟩, -⟩:=hv p x hxp;have b0:Below w.heap.size w (w.alloc (.cells #[] 3)):=bE0;have c0:=(b0.cell (p:=⟨b,_,none⟩) hb).trans q0;rw [hxm] at c0;have hK4:K.len≤4:=hx.2.2.1;have t1:(p:Int)<(Is.length:Int):=by omega
 have t3:(0:Int)≤(p:Int):=by omega
 have HEN:=hide (fun (j:Nat) W (hj:j≤Is.length) (bb:Below w.heap.size w W)=>WNestS.end_any (some ⟨b,o,none⟩) cap Is hl hok 4 1 j W rfl hj (Mem.zd4 hv bb));have HKX:=hide hx.2.2.2.1;have HDP:=hide hd;have O0:Hid (ownI (w.alloc (.cells #[] 3)) w.heap.size (.slice (some ⟨w.heap.size,0,none⟩) 0 0) []):=⟨rfl, .inr ⟨w.heap.size,0,#[],rfl,Nat.le_refl _,heap_alloc_new _ _,Nat.le_refl _,Nat.zero_le _,rfl,rfl⟩⟩;have HFL:Hid (∃R,(Is.drop (p+1)).map Pl.It.r=K.flat++R):=⟨_,hrest⟩;have HST:Hid ([]++Pl.starts K (p+1)=Pl.starts K (p+1)):=rfl;clear hv hok hfl hrest hxp hxm q0 hx hd hxL;go_enter Tryz.func47,Tryz.ntmps47
 go_wp2
 go_loopw [1,5,6] (fun at' v kk wr=>∃ (j:Nat) (ps:List Nat) (F:Pl.Fx),at'= .int .i64 (j:Int)∧kk= .int .i64 (F.len:Int)∧Hid (ps.length+F.len=K.len)∧Below w.heap.size w wr∧Hid (ownI wr w.heap.size v ps)∧Hid (ps++Pl.starts F j=Pl.starts K (p+1))∧Hid F.okX∧Hid (F.shape.depth≤3)∧Hid (∃R,(Is.drop j).map Pl.It.r=F.flat++R)) (fun _ _ kk _=>(intOf kk).toNat)
 case atStart=>exact ⟨p+1,[],K,by go_num,rfl,hide (by simp),b0,O0,HST,HKX,HDP,HFL⟩
 case round=>
  obtain ⟨j,ps,F,rfl,rfl,HPL,hbel,OW,ST,FX,FD,FL⟩:=hrel;clear O0 HST HKX HDP HFL b0 c0;cases F with
  |nil=>
   have E:Hid (ps=Pl.starts K (p+1)):=hide (by have :=za ST;rw [Pl.starts,List.append_nil] at this;exact this);have u1:¬ (0:Int)<((Pl.Fx.nil.len:Nat):Int):=by decide
   clear ST FX FD FL HPL;go_wp2
   go_ret
   exact ⟨_,rfl,by rw [←za E];exact za OW,hbel⟩
  |cons L1 k1 m1=>
   obtain ⟨R2,hfl2⟩:=za FL;obtain ⟨x2,hx2, -, -,hr2⟩:=zn8.zo hfl2;have hjl:j<Is.length:=(List.getElem?_eq_some_iff.1 hx2).1;have hdd:=za FD;rw [Pl.depth_cons] at hdd;have hend:=hide (fun W bb=>za HEN j W (by omega) bb);have hef:=Pl.end_flat (xs:=Is.map Pl.It.r) (by rw [←List.map_drop];exact hfl2) (za FX) (by omega) (by rw [List.length_map];omega);rw [List.length_map] at hef;rw [hef] at hend;have FL2:Hid (∃R,(Is.drop (j+1+k1.sz)).map Pl.It.r=m1.flat++R):=⟨R2,zn8.drop_more hr2⟩;have FX2:Hid m1.okX:=(za FX).2.2.2.2;have FD2:Hid (m1.shape.depth≤3):=hide (by omega);have ST2:Hid ((ps++[j])++Pl.starts m1 (j+1+k1.sz)=Pl.starts K (p+1)):=hide (by have :=za ST;rw [Pl.starts] at this;rw [←this];simp);obtain ⟨f,hf⟩:∃f,f=(Pl.Fx.cons L1 k1 m1).len:=⟨_,rfl⟩;rw [←hf];have hpl:=za HPL;rw [←hf] at hpl;have u1:(0:Int)<(f:Int):=by rw [hf];simp only [Pl.Fx.len];omega
   have HF:Hid (f=m1.len+1):=hf;have HWF:Hid (wrap64 ((f:Int) - 1)=(f:Int) - 1):=hide (by unfold wrap64;omega);have HPL2:Hid ((ps++[j]).length+m1.len=K.len):=hide (by have :=za HF;simp;omega);have hps:ps.length≤4:=by omega
   have bA:Below wr.heap.size wr (wr.alloc (.cells #[.int .i64 (j:Int)] 3)):=bE0;have HR:=hide (zo6 (za OW) bA);have HQ:=hide (fun w2 h2=>Mem.ze0 (o:= .cells #[.int .i64 (j:Int)] 3) (w1:=w2) hbel (Nat.le_refl _) (za OW) h2);have HSB:=hide hbel.size;unfold ownI at HR;clear OW bA ST FX FD FL hfl2 hr2 hdd hef hf HPL hpl hx2 hbel;go_wp2_with (at_builtin;refine wpList_append_own _ rfl _ _ 73 rfl w.heap.size 3 i0 (.int .i64 0) 1 8 Tryz.underlying73 hi hz0 hz1 hz2 rfl (by decide) _ _ _ rfl (za HR) ⟨wr.heap.size,0,none⟩ 1 1 [.int .i64 (j:Int)] rfl rfl (Mem.zd0 _ _ _) (fun u hu=>by simp at hu;subst hu;rfl) (by unfold maxLen;omega) (by omega) (by have :=za HSB;simp;omega) ?_)
   intro v' w2 own' hgrow _;have O2:=hide (zu9 own');have bw2:=za HQ w2 hgrow;clear HR HQ own' hgrow HSB;go_wp2_with fail
   refine (za hend _ bw2).mono ?_;rintro e w3 ⟨rfl,b3⟩;have O3:=hide (zo6 (za O2) b3);have bw3:=bw2.trans (b3.mono bw2.size);clear hend O2 b3 bw2;go_wp2
   go_roundw
   case rel=>exact ⟨j+1+k1.sz,ps++[j],m1,rfl,by have h:=za HF;have hw:=za HWF;first |go_num|(rw [hw];congr 1;omega),HPL2,bw3,O3,ST2,FX2,FD2,FL2⟩
   case measure=>(have h:=za HF;have hw:=za HWF;simp [intOf];omega)
end WFlatS
end Go.Proofs.YtpggbphcbcogdaaGreatDoor
