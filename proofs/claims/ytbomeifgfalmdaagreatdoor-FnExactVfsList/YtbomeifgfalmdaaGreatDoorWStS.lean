import Derived.Test.YtbomeifgfalmdaaGreatDoorWPickS
import Derived.Test.YtbomeifgfalmdaaGreatDoorG43
namespace Go.Proofs.YtbomeifgfalmdaaGreatDoor
open Go.RowKit
namespace zh8
theorem mark_of {n:Pl.Nd} (h:Pl.zb6 n=true):0≤n.mark∧n.mark≤8:=by
 simp only [Pl.zb6,Bool.and_eq_true,decide_eq_true_eq] at h;omega
theorem cell_sets (W:World) (X gs i:Nat) (h:gs≠X) (a:Bool) (b:ByteArray) (c:Int) (d:ByteArray) (e f:Int) (g:Value):(((((((W.setCell ⟨X,0,none⟩ (.bool (a))).setCell ⟨X,1,none⟩ (.string (b))).setCell ⟨X,2,none⟩ (.int .i64 (c))).setCell ⟨X,3,none⟩ (.string (d))).setCell ⟨X,4,none⟩ (.int .i64 (e))).setCell ⟨X,5,none⟩ (.int .i64 (f))).setCell ⟨X,6,none⟩ (g)).cell? ⟨gs,i,none⟩=W.cell? ⟨gs,i,none⟩:=by
 refine World.cell?_of_block ?_;show _=_;rw [heap_setCell_other _ _ _ _ h,heap_setCell_other _ _ _ _ h,heap_setCell_other _ _ _ _ h,heap_setCell_other _ _ _ _ h,heap_setCell_other _ _ _ _ h,heap_setCell_other _ _ _ _ h,heap_setCell_other _ _ _ _ h]
set_option linter.unusedSimpArgs false in
set_option maxRecDepth 100000 in
set_option maxHeartbeats 3000000 in
theorem state_any (a:Option Addr) (cap:Nat) (Is:List Pl.It) (hl12:Is.length≤12) (hok:∀x∈Is,x.t.L.length≤1048576∧∀n∈x.t.L,n.path.size≤1048576∧n.data.size≤1048576):∀ (d:Nat) (L0:List Pl.Nd) (K:Pl.Fx) (p0:Nat) (p:ByteArray) (w:World),K.shape.depth≤d→K.shape.depth≤3→(Pl.Fx.cons L0 K .nil).okX→(∃R,(Is.drop p0).map Pl.It.r=(Pl.Fx.cons L0 K .nil).flat++R)→Pl.za0 p=true→¬p.size=0→Mem.zb4 w a Is→
  Calls Tryz.prog 46 #[.slice a Is.length cap, .int .i64 (p0:Int), .string p] w fun e w'=>∃v,e= .returned (.agg (za5 (Pl.stO L0 K p) v).toArray)∧ownI w' w.heap.size v (Pl.stO L0 K p).parts∧Below w.heap.size w w':=by
 obtain ⟨iN,hiN,hN0,hN1,hN2⟩:=info_parts infoN;obtain ⟨iB,hiB,hB0,hB1,hB2⟩:=info_parts infoB
 have leaf:∀ (L0:List Pl.Nd) (K:Pl.Fx) (p0:Nat) (p:ByteArray) (w:World),K.len=0→(Pl.Fx.cons L0 K .nil).okX→(∃R,(Is.drop p0).map Pl.It.r=(Pl.Fx.cons L0 K .nil).flat++R)→Pl.za0 p=true→¬p.size=0→Mem.zb4 w a Is→
   Calls Tryz.prog 46 #[.slice a Is.length cap, .int .i64 (p0:Int), .string p] w fun e w'=>∃v,e= .returned (.agg (za5 (Pl.stO L0 K p) v).toArray)∧ownI w' w.heap.size v (Pl.stO L0 K p).parts∧Below w.heap.size w w':=by
  intro L0 K p0 p w hK0 hx hfl hp hz hv;obtain ⟨R0,hfl0⟩:=hfl;obtain ⟨x,hxp,hxm,hxL,hrest⟩:=zv2.zw hfl0;have hplt:p0<Is.length:=(List.getElem?_eq_some_iff.1 hxp).1;obtain ⟨⟨b,o,rfl,hb,q0,q1⟩,hnd⟩:=hv p0 x hxp;subst hxL;rw [hxm,hK0] at q0;simp only [Int.natCast_zero] at q0;have HRR:Hid (Pl.stO x.t.L K p=(match Pl.lk x.t.L p with |none=>Pl.zk5|some n=>⟨true,n,[]⟩)):=hide (by unfold Pl.stO;rw [if_pos hK0];cases Pl.lk x.t.L p <;> rfl);generalize Pl.stO x.t.L K p=R at HRR ⊢;have hxok:=hok x (List.mem_of_getElem? hxp);have hps:=Pl.zg0 hp;have hpi:(p0:Int)<(Is.length:Int):=by omega
  have hpi0:(0:Int)≤(p0:Int):=by omega
  have B0:Hid (Below w.heap.size w (w.alloc (.cells (za5 ⟨false,Pl.za3,[]⟩ (.slice none 0 0)).toArray 100))∧Mem.Blk (w.alloc (.cells (za5 ⟨false,Pl.za3,[]⟩ (.slice none 0 0)).toArray 100)) w.heap.size (za5 ⟨false,Pl.za3,[]⟩ (.slice none 0 0)).toArray 100):=⟨bE0,Mem.Blk.new _ _ _⟩;have c0:=((za B0).1.cell (p:=⟨b,_,none⟩) hb).trans q0;have c1:=((za B0).1.cell (p:=⟨b,_,none⟩) hb).trans q1;have HAT:=hide (WTreeS.at_any x.t.a x.t.cap x.t.L p (w.alloc (.cells (za5 ⟨false,Pl.za3,[]⟩ (.slice none 0 0)).toArray 100)) hxok.1 (Mem.za9 hnd (za B0).1));have HND:=hide (Mem.za9 hnd (za B0).1);have hbB:b<(w.alloc (.cells (za5 ⟨false,Pl.za3,[]⟩ (.slice none 0 0)).toArray 100)).heap.size:=Nat.lt_of_lt_of_le hb (za B0).1.size;clear hx hfl0 hrest hv hnd hxok q0 q1;simp only [za5,Pl.za3] at B0
  simp only [za5,Pl.za3,Pl.Tr.val] at HAT c0 c1 HND hbB;go_enter Tryz.func46,Tryz.ntmps46
  go_wp2_with fail
  generalize w.alloc (.cells #[.bool false, .string ⟨#[]⟩, .int .i64 0, .string ⟨#[]⟩, .int .i64 0, .int .i64 0, .slice none 0 0] 100)=w0 at B0 c0 c1 HAT HND hbB ⊢;refine (za HAT).mono ?_;rintro e w1 ⟨⟨r,rfl,hr⟩,b1⟩;have hs0:=(za B0).1.size;have B5:=hide (⟨(za B0).1.trans (b1.mono hs0),(za B0).2.call b1⟩:Below w.heap.size w w1∧_);have c0':=(b1.cell (p:=⟨b,_,none⟩) hbB).trans c0;have c1':=(b1.cell (p:=⟨b,_,none⟩) hbB).trans c1;have HN1:=hide (Mem.za9 (za HND) b1);clear B0 c0 c1 HAT HND b1
  rcases hr.out with ⟨i,n,rfl,hi,hf⟩|⟨rfl,hf⟩
  ·obtain ⟨np,nk,nd,nt,nm⟩:=n;have EF:Hid ((⟨true,⟨np,nk,nd,nt,nm⟩,[]⟩:Pl.Ot)=R):=hide (by rw [za HRR,show Pl.lk x.t.L p=some ⟨np,nk,nd,nt,nm⟩ from hf]);have yi:(i:Int)<(x.t.L.length:Int):=by have :=(List.getElem?_eq_some_iff.1 hi).1;omega
   have yi0:(0:Int)≤(i:Int):=by omega
   obtain ⟨gN,oN,hae,hNlt,d0,d1,d2,d3,d4⟩:=(za HN1) i _ hi;rw [hae] at c1';simp only at d0 d1 d2 d3 d4;clear HN1 HRR hi hf;go_upto_region 5 with fail
   have r0:=(za B5).2.cell 0;have rf0:=(za B5).2.fr 0;have r1:=(za B5).2.cell 1;have rf1:=(za B5).2.fr 1;have r2:=(za B5).2.cell 2;have rf2:=(za B5).2.fr 2;have r3:=(za B5).2.cell 3;have rf3:=(za B5).2.fr 3;have r4:=(za B5).2.cell 4;have rf4:=(za B5).2.fr 4;have r5:=(za B5).2.cell 5;have rf5:=(za B5).2.fr 5;have r6:=(za B5).2.cell 6;have rf6:=(za B5).2.fr 6;simp only [za5,Pl.za3,kGs] at r0 r1 r2 r3 r4 r5 r6;have RT:=hide (ret7 (za B5).1 (za B5).2 rfl (zt8 _ _) (true) (np) (nk) (nd) (nt) (nm) (.slice none 0 0));have EV:=EF;go_wp2
   generalize (((((((w1.setCell ⟨w.heap.size,0,none⟩ (.bool (true))).setCell ⟨w.heap.size,1,none⟩ (.string (np))).setCell ⟨w.heap.size,2,none⟩ (.int .i64 (nk))).setCell ⟨w.heap.size,3,none⟩ (.string (nd))).setCell ⟨w.heap.size,4,none⟩ (.int .i64 (nt))).setCell ⟨w.heap.size,5,none⟩ (.int .i64 (nm))).setCell ⟨w.heap.size,6,none⟩ (.slice none 0 0))=WR at RT ⊢;have q0:=(za RT).1.cell 0;have q1:=(za RT).1.cell 1;have q2:=(za RT).1.cell 2;have q3:=(za RT).1.cell 3;have q4:=(za RT).1.cell 4;have q5:=(za RT).1.cell 5;have q6:=(za RT).1.cell 6;simp only [kGs] at q0 q1 q2 q3 q4 q5 q6;exact bodyPost_ret (v:= .agg #[.bool (true), .string (np), .int .i64 (nk), .string (nd), .int .i64 (nt), .int .i64 (nm), .slice none 0 0]) (by simp [results,Tryz.results46,go_sem,q0,q1,q2,q3,q4,q5,q6]) rfl ⟨.slice none 0 0,by rw [←za EV];rfl,by rw [←za EV];exact (za RT).2.2,(za RT).2.1⟩
  ·have EZ:Hid (Pl.zk5=R):=hide (by rw [za HRR,show Pl.lk x.t.L p=none from hf]);clear HN1 HRR hf;go_upto_region 4 with fail
   have r0:=(za B5).2.cell 0;have rf0:=(za B5).2.fr 0;have r1:=(za B5).2.cell 1;have rf1:=(za B5).2.fr 1;have r2:=(za B5).2.cell 2;have rf2:=(za B5).2.fr 2;have r3:=(za B5).2.cell 3;have rf3:=(za B5).2.fr 3;have r4:=(za B5).2.cell 4;have rf4:=(za B5).2.fr 4;have r5:=(za B5).2.cell 5;have rf5:=(za B5).2.fr 5;have r6:=(za B5).2.cell 6;have rf6:=(za B5).2.fr 6;simp only [za5,Pl.za3,kGs] at r0 r1 r2 r3 r4 r5 r6;have RT:=hide (ret7 (za B5).1 (za B5).2 rfl (zt8 _ _) (false) (⟨#[]⟩) (0) (⟨#[]⟩) (0) (0) (.slice none 0 0));have EV:=EZ;go_wp2
   generalize (((((((w1.setCell ⟨w.heap.size,0,none⟩ (.bool (false))).setCell ⟨w.heap.size,1,none⟩ (.string (⟨#[]⟩))).setCell ⟨w.heap.size,2,none⟩ (.int .i64 (0))).setCell ⟨w.heap.size,3,none⟩ (.string (⟨#[]⟩))).setCell ⟨w.heap.size,4,none⟩ (.int .i64 (0))).setCell ⟨w.heap.size,5,none⟩ (.int .i64 (0))).setCell ⟨w.heap.size,6,none⟩ (.slice none 0 0))=WR at RT ⊢;have q0:=(za RT).1.cell 0;have q1:=(za RT).1.cell 1;have q2:=(za RT).1.cell 2;have q3:=(za RT).1.cell 3;have q4:=(za RT).1.cell 4;have q5:=(za RT).1.cell 5;have q6:=(za RT).1.cell 6;simp only [kGs] at q0 q1 q2 q3 q4 q5 q6;exact bodyPost_ret (v:= .agg #[.bool (false), .string (⟨#[]⟩), .int .i64 (0), .string (⟨#[]⟩), .int .i64 (0), .int .i64 (0), .slice none 0 0]) (by simp [results,Tryz.results46,go_sem,q0,q1,q2,q3,q4,q5,q6]) rfl ⟨.slice none 0 0,by rw [←za EV];rfl,by rw [←za EV];exact (za RT).2.2,(za RT).2.1⟩
 intro d
 induction d with
 |zero=>
  intro L0 K p0 p w hdd hd3 hx hfl hp hz hv
  have hK0:K.len=0:=by
   cases K with
   |nil=>rfl
   |cons L k m=>simp only [Pl.Fx.shape,Pl.Fo.depth] at hdd;omega
  exact leaf L0 K p0 p w hK0 hx hfl hp hz hv
 |succ d ih=>
  intro L0 K p0 p w hdd hd3 hx hfl hp hz hv;by_cases hK0:K.len=0
  ·exact leaf L0 K p0 p w hK0 hx hfl hp hz hv
  have IH:=hide ih;clear ih leaf;have HRR:Hid (Pl.stO L0 K p=Pl.atF (Pl.fnsX K) (List.range K.len) (Pl.zb3 p)):=hide (by unfold Pl.stO;rw [if_neg hK0]);have hK4:K.len≤4:=hx.2.2.1;have HKX:=hide hx.2.2.2.1;have HDD:=hide (⟨hdd,hd3⟩:_∧_);have HV:=hide hv;obtain ⟨R0,hfl0⟩:=hfl;obtain ⟨x,hxp,hxm,hxL,hrest⟩:=zv2.zw hfl0;have hplt:p0<Is.length:=(List.getElem?_eq_some_iff.1 hxp).1;obtain ⟨⟨b,o,rfl,hb,q0, -⟩, -⟩:=hv p0 x hxp;have HFK:Hid ((Is.drop (p0+1)).map Pl.It.r=K.flat++(Pl.Fx.nil.flat++R0)):=hide hrest;rw [hxm] at q0;have hsN:(Pl.names p).length≤6∧∀t∈Pl.names p,Pl.zb8 t=true:=⟨(Pl.zp1 hp).2,(Pl.zp1 hp).1⟩;have hl1:1≤(Pl.names p).length:=by unfold Pl.names;rw [if_neg hz];exact Pl.cut_pos p
  have hps:=Pl.zg0 hp;have HWR0:Hid (∀j,j<(Pl.names p).length→Pl.za0 (Pl.glue ((Pl.names p).take (j+1)))=true∧¬ (Pl.glue ((Pl.names p).take (j+1))).size=0):=hide fun j hj=>Pl.zn1 hp _ (List.mem_of_getElem? (Pl.zy2 (by have :(Pl.zb3 p).length=_:=Pl.zm7 _ _;omega)));have HSZ0:Hid (∀j:Nat,(Pl.glue ((Pl.names p).take j)).size≤1048576):=hide fun j=>by have :=Pl.zp9 (fun t ht=>hsN.2 t (List.mem_of_mem_take ht)) (show ((Pl.names p).take j).length≤20 by rw [List.length_take];omega);omega
  have HNM0:=hide hsN.2;have h6:=hsN.1;have HLY:=hide (fun W (bb:Below w.heap.size w W)=>WFlatS.layers_any (some ⟨b,o,none⟩) cap Is hl12 hok L0 K p0 W hx (by omega) ⟨R0,hfl0⟩ (Mem.zc0 hv bb));have HAL:=hide (fun W=>all_any K.len W hK4);have HNA:=hide (fun W=>zd1.zu8 p W (by omega));have hpi:(p0:Int)<(Is.length:Int):=by omega
  have hpi0:(0:Int)≤(p0:Int):=by omega
  have hkz:((K.len:Int)==0)=false:=by simp;omega
  have B0:Hid (Below w.heap.size w (w.alloc (.cells (za5 ⟨false,Pl.za3,[]⟩ (.slice none 0 0)).toArray 100))∧Mem.Blk (w.alloc (.cells (za5 ⟨false,Pl.za3,[]⟩ (.slice none 0 0)).toArray 100)) w.heap.size (za5 ⟨false,Pl.za3,[]⟩ (.slice none 0 0)).toArray 100):=⟨bE0,Mem.Blk.new _ _ _⟩;have q1:=((za B0).1.cell (p:=⟨b,_,none⟩) hb).trans q0;have EW:Pl.zb3 p=Pl.ways (Pl.names p) (Pl.names p).length:=rfl;rw [EW] at HRR;clear EW hx hfl0 hrest hv hp hdd hd3 hxL hxm q0 hsN;generalize Pl.names p=L at HRR HWR0 HSZ0 HNM0 HNA hl1 h6;generalize Pl.stO L0 K p=R at HRR ⊢;have HR:Hid (Pl.atF (Pl.fnsX K) (List.range K.len) ((Pl.ways L L.length).drop 0)=R):=hide (za HRR).symm;clear HRR;have HNM:=HNM0;have HSZ:=HSZ0;have HWR:=HWR0;simp only [za5,Pl.za3] at B0 q1;go_enter Tryz.func46,Tryz.ntmps46
  go_wp2_with fail
  refine (za HLY _ (za B0).1).mono ?_;rintro e wy ⟨vs,rfl,hownS,by_⟩;simp only [sz_alloc] at hownS by_;have B1y:=hide (⟨(za B0).1.trans (by_.mono (by omega)),(za B0).2.below by_ (by omega)⟩:Below w.heap.size w wy∧_);have hstl:(Pl.starts K (p0+1)).length=K.len:=Pl.starts_len K _;obtain ⟨gs,cs,hvs,hgsB,hgs,hcS⟩:=yk5 hownS (by intro e;rw [e] at hstl;exact hK0 (by simpa using hstl.symm));subst hvs;rw [hstl] at *;have hsy:=by_.size;clear B0 HLY hownS by_ q1;go_wp2_with fail
  refine (za HAL _).mono ?_;rintro e w1 ⟨vk,rfl,hownK,b1⟩;have B1:=hide (⟨(za B1y).1.trans (b1.mono (za B1y).1.size),(za B1y).2.call b1⟩:Below w.heap.size w w1∧_);have KO:=hide (zy6 hownK (show w.heap.size+1≤wy.heap.size by omega));have HCS1:=hide (fun (i k:Nat) (h:(Pl.starts K (p0+1))[i]? =some k)=>(b1.cell (p:=⟨gs,i,none⟩) hgs).trans (hcS i k h));have hgs1:gs<w1.heap.size:=Nat.lt_of_lt_of_le hgs b1.size;have hs0:=b1.size;clear HAL hownK B1y b1 hcS;go_wp2_with fail
  refine (za HNA _).mono ?_;rintro e w2 ⟨vl,rfl,hownL,b2⟩;have hs1:w.heap.size+1≤w1.heap.size:=by omega
  have B2:=hide (⟨(za B1).1.trans (b2.mono (by omega)),(za B1).2.call b2⟩:Below w.heap.size w w2∧_);have KO2:=hide (zv4 (za KO) b2);have KL:=hide (Mem.zg hownL (show w.heap.size+1≤w1.heap.size by omega));have hs2:=b2.size;have HCS2:=hide (fun (i k:Nat) (h:(Pl.starts K (p0+1))[i]? =some k)=>(b2.cell (p:=⟨gs,i,none⟩) hgs1).trans (za HCS1 i k h));have hgs2:gs<w2.heap.size:=Nat.lt_of_lt_of_le hgs1 b2.size;clear B1 KO hownL HNA b2 HCS1
  obtain ⟨gl,cl,hvl⟩:∃g cap,vl= .slice (some ⟨g,0,none⟩) L.length cap:=by
   rcases (za KL).2 with ⟨_,h0⟩|⟨g,cap,cur,hv, -⟩
   ·omega
   ·exact ⟨g,cap,hv⟩
  subst hvl
  have A0:Hid (AtQ w (w2.alloc (.cells (za5 ⟨false,Pl.za3,[]⟩ (.slice none 0 0)).toArray 100)) w2.heap.size vk (List.range K.len) Pl.zk5 (.slice none 0 0) (.slice (some ⟨gl,0,none⟩) L.length cl) L):=
   ⟨by omega,(za B2).1.alloc (by omega) _,(za B2).2.alloc _,Mem.Blk.new _ _ _,zh6 (za KO2) (bE0),zt8 _ _,zh6 (za KL) (bE0),fun e=>by have :=(World.ownsRow.lt (za KO2) _ e).2;omega,fun e=>(by cases e),fun e=>by have :=(World.ownsRow.lt (za KL) _ e).2;omega⟩
  simp only [za5,Pl.za3] at A0;have HCS0':=hide (fun (i k:Nat) (h:(Pl.starts K (p0+1))[i]? =some k)=>(((Below.refl w2.heap.size w2).alloc (Nat.le_refl _) (.cells #[.bool false, .string ⟨#[]⟩, .int .i64 0, .string ⟨#[]⟩, .int .i64 0, .int .i64 0, .slice none 0 0] 100)).cell (p:=⟨gs,i,none⟩) hgs2).trans (za HCS2 i k h));clear B2 KO2 KL HCS2;go_upto_region 11 with fail
  generalize w2.alloc (.cells #[.bool false, .string ⟨#[]⟩, .int .i64 0, .string ⟨#[]⟩, .int .i64 0, .int .i64 0, .slice none 0 0] 100)=W0 at A0 HCS0' ⊢;have hgsX:gs≠w2.heap.size:=by omega
  generalize w2.heap.size=X at A0 hgs2 hgsX ⊢;clear hs1 hs2 hs0 hsy hgs hgs1;go_wp2
  go_loopw [9,11,13] (fun vk st i wr=>∃j:Nat,j≤L.length∧i= .int .i64 (j:Int)∧st= .string (Pl.glue (L.take j))∧Hid (∃ks o v,AtQ w wr X vk ks o v (.slice (some ⟨gl,0,none⟩) L.length cl) L∧(∀ (i k:Nat),(Pl.starts K (p0+1))[i]? =some k→wr.cell? ⟨gs,i,none⟩=some (.int .i64 (k:Int)))∧ks.Sublist (List.range K.len)∧(j<L.length→ks≠[]∧Pl.atF (Pl.fnsX K) ks ((Pl.ways L L.length).drop j)=R)∧(j=L.length→o=R))) (fun _ _ i _=>L.length - (intOf i).toNat)
  case atStart=>exact ⟨0,Nat.zero_le _,rfl,rfl,⟨_,_,_,za A0,za HCS0',List.Sublist.refl _,fun _=>⟨fun e=>by have h:=congrArg List.length e;rw [List.length_range,List.length_nil] at h;omega,za HR⟩,fun h=>absurd h (by omega)⟩⟩
  case round=>
   obtain ⟨j,hj,rfl,rfl,HA⟩:=hrel;clear A0 HR HCS0';by_cases hlt:j<L.length
   ·obtain ⟨t,ht⟩:∃t,L[j]? =some t:=⟨_,List.getElem?_eq_getElem hlt⟩;have htn:=za HNM t (List.mem_of_getElem? ht);obtain ⟨ks,o,v,KQ,hst0,hsub,hgo, -⟩:=za HA;obtain ⟨hne,EG⟩:=hgo hlt;obtain ⟨gp,cp,hvk,hgB,hgp,hcK⟩:=yk5 KQ.ownK hne;subst hvk;have cL:=KQ.txt.cells (g:=gl) rfl j (.string t) (by simp [ht]);rw [Mem.add_lit] at cL;have htz:t.size≤20:=Nat.le_of_not_lt fun h=>by rw [Pl.yc h] at htn;cases htn
    have HJ:=hide (zd1.join1_any (Pl.glue (L.take j)) t wr (za HSZ j) (by omega));rw [Pl.way_join (za HNM) ht] at HJ;have hk4:ks.length≤4:=by have :=hsub.length_le;rw [List.length_range] at this;omega
    have hkl:∀k∈ks,k<K.len:=fun k hk=>by have :=hsub.subset hk;rwa [List.mem_range] at this
    have HQX:=hide (za HWR j hlt);have HSA:=hide (Pl.yg5 (fs:=Pl.fnsX K) (ks:=ks) (q:=Pl.glue (L.take (j+1))) (by rw [Pl.fns_len];exact hK4) (Pl.fns_right K (za HKX)) (za HQX).1 (za HQX).2 (by rw [Pl.fns_len];exact hsub));have HSU:=hide (Pl.yk2 (fs:=Pl.fnsX K) (ks:=ks) (q:=Pl.glue (L.take (j+1))) (by rw [Pl.fns_len];exact hsub));have HLS:Hid (j+1=L.length→(if (Pl.ze0 (Pl.fnsX K) ks (Pl.glue (L.take (j+1)))).ok=true then (Pl.ze0 (Pl.fnsX K) ks (Pl.glue (L.take (j+1)))) else Pl.zk5)=R):=fun h=>(Pl.atF_last h rfl).symm.trans EG;have HMR:Hid (j+1<L.length→(if (Pl.ze0 (Pl.fnsX K) ks (Pl.glue (L.take (j+1)))).ok=true∧(Pl.ze0 (Pl.fnsX K) ks (Pl.glue (L.take (j+1)))).node.kind=1 then Pl.atF (Pl.fnsX K) (Pl.ze0 (Pl.fnsX K) ks (Pl.glue (L.take (j+1)))).parts ((Pl.ways L L.length).drop (j+1)) else Pl.zk5)=R):=fun h=>(Pl.atF_more h rfl).symm.trans EG;have y1:(j:Int)<(L.length:Int):=by omega
    have y2:(0:Int)≤(j:Int):=by omega
    have KA:=hide KQ;have HBI:=hide KQ.bel;have HGP:=hide (show gp<wr.heap.size from hgp);have HCK:Hid (∀ (i k:Nat),ks[i]? =some k→wr.cell? ⟨gp,i,none⟩=some (.int .i64 (k:Int))):=hide hcK;have HGS:=hide (show gs<wr.heap.size by have :=KQ.out.lt;omega);have HCS:Hid (∀ (i k:Nat),(Pl.starts K (p0+1))[i]? =some k→wr.cell? ⟨gs,i,none⟩=some (.int .i64 (k:Int))):=hide hst0;clear KQ hst0 hcK EG hgo HA hsub;go_wp2_with fail
    refine (za HJ).mono ?_;rintro e wJ ⟨rfl,hwJ⟩;subst wJ;clear HJ cL;generalize hq:Pl.glue (L.take (j+1))=qx at HQX HSA HSU HLS HMR ⊢;go_upto_region 17 with fail
    have CH0:Hid (ChS wr ((wr.alloc (.cells #[] 55)).alloc (.cells #[] 4)) (.slice (some ⟨wr.heap.size,0,none⟩) 0 0) (.slice (some ⟨wr.heap.size+1,0,none⟩) 0 0) (ze7 ((Pl.askF (Pl.fnsX K) ks qx).take 0)) (zk7 ((Pl.askF (Pl.fnsX K) ks qx).take 0))):=hide (ChS.new wr);have HAL4:Hid ((Pl.askF (Pl.fnsX K) ks qx).length=ks.length):=hide (by unfold Pl.askF;rw [List.length_map]);have hal:=za HAL4;obtain ⟨wI,hwI⟩:∃wI,wI=wr:=⟨_,rfl⟩;rw [←hwI] at CH0 KA HBI HGP HCK HGS HCS ⊢;clear hwI;go_wp2
    go_loopw [14,15,16] (fun vN vH i wr=>∃i2:Nat,i2≤ks.length∧i= .int .i64 (i2:Int)∧Hid (ChS wI wr vN vH (ze7 ((Pl.askF (Pl.fnsX K) ks qx).take i2)) (zk7 ((Pl.askF (Pl.fnsX K) ks qx).take i2)))) (fun _ _ i _=>ks.length - (intOf i).toNat)
    case atStart=>exact ⟨0,Nat.zero_le _,rfl,CH0⟩
    case round=>
     obtain ⟨i2,hi2,rfl,HB⟩:=hrel;clear CH0;by_cases hlt2:i2<ks.length
     ·obtain ⟨k,hk⟩:∃k,ks[i2]? =some k:=⟨_,List.getElem?_eq_getElem hlt2⟩;have hkT:=hkl k (List.mem_of_getElem? hk);obtain ⟨Lk,Kk,hkid⟩:=Pl.yd1 (F:=K) hkT;obtain ⟨pk,hpk,hflk⟩:=Pl.starts_kid K (p0+1) k Lk Kk _ hkid (za HFK);obtain ⟨g1,g2,g3,g4⟩:=Pl.kid_ok (za HKX) hkid;have hdk:=Pl.ye8 hkid;have HIH:=hide (za IH Lk Kk pk qx wr (by have :=za HDD;omega) (by have :=za HDD;omega) ⟨g1,g2,g3,g4,trivial⟩ hflk (za HQX).1 (za HQX).2 (Mem.zc0 (za HV) ((za HBI).trans ((za HB).bel.mono (za HBI).size))));have hst:=Pl.st_fn (L:=Lk) (k:=Kk) (q:=qx) g3 g4 (za HQX).1 (za HQX).2;have hzo:=Pl.st_none (L:=Lk) (k:=Kk) (q:=qx)
      have HXG:Hid ((Pl.askF (Pl.fnsX K) ks qx)[i2]? =some (k,Pl.fnX Lk Kk qx)):=hide (by
       unfold Pl.askF;rw [List.getElem?_map,hk,Option.map_some,List.getD,Pl.fns_get hkid]
       rfl)
      have cP:=((za HB).bel.cell (p:=⟨gp,i2,none⟩) (za HGP)).trans (za HCK i2 k hk);have cS:=((za HB).bel.cell (p:=⟨gs,k,none⟩) (za HGS)).trans (za HCS k pk hpk);have y1:(i2:Int)<(ks.length:Int):=by omega
      have y2:(0:Int)≤(i2:Int):=by omega
      have y3:(k:Int)<(K.len:Int):=by omega
      have y4:(0:Int)≤(k:Int):=by omega
      have HNL:Hid ((ze7 ((Pl.askF (Pl.fnsX K) ks qx).take i2)).length≤4):=hide (by unfold ze7;rw [List.length_map,List.length_take];omega);have HHL:Hid ((zk7 ((Pl.askF (Pl.fnsX K) ks qx).take i2)).length≤4):=hide (by unfold zk7;rw [List.length_map,List.length_take];omega)
      have HNX:Hid (∀vN' vH' W',ChS wI W' vN' vH' (ze7 ((Pl.askF (Pl.fnsX K) ks qx).take i2)++[(Pl.stO Lk Kk qx).node]) (zk7 ((Pl.askF (Pl.fnsX K) ks qx).take i2)++[(Pl.stO Lk Kk qx).ok])→Hid (ChS wI W' vN' vH' (ze7 ((Pl.askF (Pl.fnsX K) ks qx).take (i2+1))) (zk7 ((Pl.askF (Pl.fnsX K) ks qx).take (i2+1))))):=hide fun vN' vH' W' h=>hide (by
       unfold ze7 zk7;rw [take_more _ (za HXG),take_more _ (za HXG),hst];unfold ze7 zk7 at h;cases hok:(Pl.stO Lk Kk qx).ok
       ·rw [hok] at h;have e:=hzo hok;rw [e] at h;exact h
       ·rw [hok] at h;exact h)
      generalize (ze7 ((Pl.askF (Pl.fnsX K) ks qx).take i2))=N at HB HNL HNX;generalize (zk7 ((Pl.askF (Pl.fnsX K) ks qx).take i2))=H at HB HHL HNX;generalize Pl.stO Lk Kk qx=y at HIH HNX;clear hst hzo hpk hflk g1 g2 g3 g4 hdk hk hkT hkid HXG;have KA:=hide (za HB);clear HB;go_wp2_with fail
      refine (za HIH).mono ?_;rintro e w1 ⟨vy,rfl,hownY,b1⟩;have KC:=hide ((za KA).call b1);obtain ⟨yok,⟨np,nk,nd,nt,nm⟩,ykz⟩:=y;obtain ⟨vya,vyc,rfl⟩:=zs2 hownY;simp only [za5];simp only at HNX;have bA:Below w1.heap.size w1 (w1.alloc (.cells #[.bool yok, .string np, .int .i64 nk, .string nd, .int .i64 nt, .int .i64 nm, .slice vya ykz.length vyc] 100)):=bE0;have YB:=Mem.Blk.new w1 #[.bool yok, .string np, .int .i64 nk, .string nd, .int .i64 nt, .int .i64 nm, .slice vya ykz.length vyc] 100;have n1:=YB.cell 1;have n2:=YB.cell 2;have n3:=YB.cell 3;have n4:=YB.cell 4;have n5:=YB.cell 5;simp only [kGs] at n1 n2 n3 n4 n5;have KC2:=hide ((za KC).call bA);have HYB:=hide YB;clear KA KC hownY b1 cP cS HIH YB bA;go_upto_region 21 with fail
      generalize w1.alloc (.cells #[.bool yok, .string np, .int .i64 nk, .string nd, .int .i64 nt, .int .i64 nm, .slice vya ykz.length vyc] 100)=W2 at n1 n2 n3 n4 n5 KC2 HYB ⊢;generalize w1.heap.size=XY at n1 n2 n3 n4 n5 HYB ⊢;have KD:=hide ((za KC2).call ((Below.refl _ _).alloc (Nat.le_refl _) (.cells #[.string np, .int .i64 nk, .string nd, .int .i64 nt, .int .i64 nm] 55)));have HY2:=hide ((za HYB).alloc (.cells #[.string np, .int .i64 nk, .string nd, .int .i64 nt, .int .i64 nm] 55));have HSB:=hide (za KC2).bel.size
      have HNY:Hid (∀W' vN' vH',ChS wI W' vN' vH' N H→W'.heap[XY]? =some (.cells #[.bool yok, .string np, .int .i64 nk, .string nd, .int .i64 nt, .int .i64 nm, .slice vya ykz.length vyc] 100 (0,0))→vN'.ownBlock≠some XY):=hide fun W' vN' vH' hc hy e=>by
       rcases hc.nodes.2 with ⟨rfl, -⟩|⟨g,cap,cur,rfl, -,hg, -⟩
       ·cases e
       ·cases e;rw [hg] at hy;injection hy with hy;injection hy with h1 h2 h3;exact absurd h2 (by decide)
      clear KC2;go_wp2_with (at_builtin;refine Mem.zi9 _ rfl _ _ 105 rfl wI.heap.size 55 iN _ 5 56 Tryz.underlying105 hiN hN0 hN1 hN2 rfl (by decide) _ _ _ rfl (za KD).nodes ⟨W2.heap.size,0,none⟩ 1 1 [.string np, .int .i64 nk, .string nd, .int .i64 nt, .int .i64 nm] rfl rfl (Mem.cs_new W2 ⟨np,nk,nd,nt,nm⟩ 55) (Mem.cs_one ⟨np,nk,nd,nt,nm⟩) (by have h:=za HNL;unfold maxLen;omega) (by have h:=za HNL;omega) (by have h1:=za HSB;have h2:=(za KD).bel.size;simp at h2 ⊢;omega) ?_)
      intro vN' w3 ownN' growN farN;have YB3:=(za HY2).grown growN (fun e=>za HNY _ _ _ (za KD) (za HY2) e.symm);have o0:=YB3.cell 0;simp only [kGs] at o0;have KE:=hide ((za KD).moreN (n:=⟨np,nk,nd,nt,nm⟩) ownN' growN (fun g hg=>(farN g hg).imp_right (fun h=>by rw [sz_alloc];exact h)));have KF:=hide ((za KE).call ((Below.refl _ _).alloc (Nat.le_refl _) (.cells #[.bool yok] 4)));have HSF:=hide (za KE).bel.size;clear ownN' growN farN KD KE n1 n2 n3 n4 n5 HYB HY2 YB3 HNY;go_wp2_with (at_builtin;refine Mem.zi9 _ rfl _ _ 151 rfl wI.heap.size 4 iB _ 1 1 Tryz.underlying151 hiB hB0 hB1 hB2 rfl (by decide) _ _ _ rfl (za KF).has ⟨w3.heap.size,0,none⟩ 1 1 [.bool yok] rfl rfl (Mem.ze6 _ _ _) (fun u hu=>by simp at hu;subst hu;rfl) (by have h:=za HHL;unfold maxLen;omega) (by have h:=za HHL;omega) (by have h2:=za HSF;simp at h2 ⊢;omega) ?_)
      intro vH' w4 ownH' growH farH;have KG:=hide ((za KF).moreH (x:=yok) ownH' growH (fun g hg=>(farH g hg).imp_right (fun h=>by rw [sz_alloc];exact h)));clear ownH' growH farH KF o0;have KZ:=za HNX _ _ _ (za KG);clear KG;go_wp2
      go_roundw
      case rel=>exact ⟨i2+1,by omega,by go_num,KZ⟩
      case measure=>simp [intOf];omega
     ·obtain rfl:i2=ks.length:=by omega
      have KX:=za HB;rw [List.take_of_length_le (by omega)] at KX;obtain ⟨gn,cn,gh,ch,hvn,hvh,hgn,hgh,hH,hN⟩:=KX.asked (by intro e;rw [e] at hal;exact hne (List.length_eq_zero_iff.1 (by simpa using hal.symm)));subst hvn hvh
      have hpick:=pick_any qx (Pl.askF (Pl.fnsX K) ks qx) gp cp gn cn gh ch wr (by omega) (Nat.lt_of_lt_of_le (za HGP) KX.bel.size) hgn hgh (fun i x hi=>⟨by
        unfold Pl.askF at hi;rw [List.getElem?_map] at hi;cases hk:ks[i]? with
        |none=>rw [hk] at hi;cases hi
        |some k=>
         rw [hk] at hi;cases hi
         exact (KX.bel.cell (p:=⟨gp,i,none⟩) (za HGP)).trans (za HCK i k hk),hH i x hi⟩) hN (fun k n hm=>by
        unfold Pl.askF at hm;obtain ⟨k',hk',e⟩:=List.mem_map.1 hm
        injection e with e1 e2
        have hkT:=hkl k' hk';obtain ⟨Lk,Kk,hkid⟩:=Pl.yd1 (F:=K) hkT;have hg:=Pl.fns_get hkid;have hmem:=List.mem_of_getElem? hg;rw [List.getD,hg] at e2
        exact mark_of (Pl.fns_right K (za HKX) _ hmem qx n (za HQX).1 (za HQX).2 e2).1)
      rw [hal] at hpick;have HPK:=hide hpick;have EC:Hid (Pl.zd8 qx ⟨false,Pl.za3,[]⟩ 0 (Pl.askF (Pl.fnsX K) ks qx)=Pl.ze0 (Pl.fnsX K) ks qx):=hide rfl;rw [za EC] at HPK;have KB0:=hide ((za KA).call KX.bel);have y2':¬ (ks.length:Int)<(ks.length:Int):=by omega
      rw [hal];have hsI:=KX.bel.size;have HNK:=hide hne;have HS1:=hide (fun (i k:Nat) (h:(Pl.starts K (p0+1))[i]? =some k)=>(KX.bel.cell (p:=⟨gs,i,none⟩) (za HGS)).trans (za HCS i k h));have hgr:gs<wr.heap.size:=Nat.lt_of_lt_of_le (za HGS) KX.bel.size;clear hpick EC KX HB hH hN hgn hgh KA HCK HGP HGS HCS HBI hne hkl hk4 HAL4 hal;generalize Pl.ze0 (Pl.fnsX K) ks qx=o' at HPK HSA HSU HLS HMR;obtain ⟨ok0,⟨np0,nk0,nd0,nt0,nm0⟩,kz0⟩:=o;go_wp2_with fail
      refine (za HPK).mono ?_;rintro e w2 ⟨v',rfl,hown',b2⟩;obtain ⟨ok,⟨np,nk,nd,nt,nm⟩,kz⟩:=o';obtain ⟨va,vc,rfl⟩:=zs2 hown';have hsz:=(za KB0).bel.size;have hXl:=(za KB0).out.lt;have hXg:=(za KB0).lt;have KB:=hide ((za KB0).call b2);have own2:=hide (zy6 hown' (show w.heap.size+1≤wr.heap.size by omega));have far2:=hide (ownI_new hown' hXl);have HS2:=hide (fun (i k:Nat) (h:(Pl.starts K (p0+1))[i]? =some k)=>(b2.cell (p:=⟨gs,i,none⟩) hgr).trans (za HS1 i k h));clear KB0 HPK b2 hown' HS1;simp only [za5];have c0:=(za KB).out.cell 0;have cf0:=(za KB).out.fr 0;have c1:=(za KB).out.cell 1;have cf1:=(za KB).out.fr 1;have c2:=(za KB).out.cell 2;have cf2:=(za KB).out.fr 2;have c3:=(za KB).out.cell 3;have cf3:=(za KB).out.fr 3;have c4:=(za KB).out.cell 4;have cf4:=(za KB).out.fr 4;have c5:=(za KB).out.cell 5;have cf5:=(za KB).out.fr 5;have c6:=(za KB).out.cell 6;have cf6:=(za KB).out.fr 6
      simp only [za5,Pl.za3,kGs] at c0 c1 c2 c3 c4 c5 c6;go_upto_region 24 with fail
      have KC:=hide ((za KB).put (o':=⟨ok,⟨np,nk,nd,nt,nm⟩,kz⟩) (za own2) (za far2));clear KB own2 far2 c0 c1 c2 c3 c4 c5 c6 cf0 cf1 cf2 cf3 cf4 cf5 cf6;simp only at KC;have HSK:=hide (fun (i k:Nat) (h:(Pl.starts K (p0+1))[i]? =some k)=>(cell_sets w2 X gs i hgsX (ok) (np) (nk) (nd) (nt) (nm) (.slice va kz.length vc)).trans (za HS2 i k h));clear HS2;generalize (((((((w2.setCell ⟨X,0,none⟩ (.bool (ok))).setCell ⟨X,1,none⟩ (.string (np))).setCell ⟨X,2,none⟩ (.int .i64 (nk))).setCell ⟨X,3,none⟩ (.string (nd))).setCell ⟨X,4,none⟩ (.int .i64 (nt))).setCell ⟨X,5,none⟩ (.int .i64 (nm))).setCell ⟨X,6,none⟩ (.slice va kz.length vc))=W3 at KC HSK ⊢;have d0:=(za KC).out.cell 0;have d2:=(za KC).out.cell 2;have d6:=(za KC).out.cell 6;simp only [za5,kGs] at d0 d2 d6;have hwl:IntKind.i64.wrap ((L.length:Int) - 1)=(L.length:Int) - 1:=by simp only [IntKind.wrap_i64];omega
      cases ok with
      |false=>
       have EZ:Hid (Pl.zk5=R):=by
        by_cases hz:j+1=L.length
        ·have h:=za HLS hz;simp only [Bool.false_eq_true,if_false] at h;exact h
        ·have h:=za HMR (by omega);simp only [Bool.false_eq_true,false_and,if_false] at h;exact h
       clear HLS HMR HSA HSU;go_upto_region 25 with fail
       clear d0 d2 d6;have r0:=(za KC).res.cell 0;have rf0:=(za KC).res.fr 0;have r1:=(za KC).res.cell 1;have rf1:=(za KC).res.fr 1;have r2:=(za KC).res.cell 2;have rf2:=(za KC).res.fr 2;have r3:=(za KC).res.cell 3;have rf3:=(za KC).res.fr 3;have r4:=(za KC).res.cell 4;have rf4:=(za KC).res.fr 4;have r5:=(za KC).res.cell 5;have rf5:=(za KC).res.fr 5;have r6:=(za KC).res.cell 6;have rf6:=(za KC).res.fr 6;simp only [za5,Pl.za3,kGs] at r0 r1 r2 r3 r4 r5 r6;have RT:=hide (ret7 (za KC).bel (za KC).res rfl (zt8 _ _) (false) (⟨#[]⟩) (0) (⟨#[]⟩) (0) (0) (.slice none 0 0));have EV:=EZ;go_wp2
       generalize (((((((W3.setCell ⟨w.heap.size,0,none⟩ (.bool (false))).setCell ⟨w.heap.size,1,none⟩ (.string (⟨#[]⟩))).setCell ⟨w.heap.size,2,none⟩ (.int .i64 (0))).setCell ⟨w.heap.size,3,none⟩ (.string (⟨#[]⟩))).setCell ⟨w.heap.size,4,none⟩ (.int .i64 (0))).setCell ⟨w.heap.size,5,none⟩ (.int .i64 (0))).setCell ⟨w.heap.size,6,none⟩ (.slice none 0 0))=WR at RT ⊢;have q0:=(za RT).1.cell 0;have q1:=(za RT).1.cell 1;have q2:=(za RT).1.cell 2;have q3:=(za RT).1.cell 3;have q4:=(za RT).1.cell 4;have q5:=(za RT).1.cell 5;have q6:=(za RT).1.cell 6;simp only [kGs] at q0 q1 q2 q3 q4 q5 q6;exact bodyPost_ret (v:= .agg #[.bool (false), .string (⟨#[]⟩), .int .i64 (0), .string (⟨#[]⟩), .int .i64 (0), .int .i64 (0), .slice none 0 0]) (by simp [results,Tryz.results46,go_sem,q0,q1,q2,q3,q4,q5,q6]) rfl ⟨.slice none 0 0,by rw [←za EV];rfl,by rw [←za EV];exact (za RT).2.2,(za RT).2.1⟩
      |true=>
       by_cases hz:j+1=L.length
       ·have EF:Hid ((⟨true,⟨np,nk,nd,nt,nm⟩,kz⟩:Pl.Ot)=R):=by
         have h:=za HLS hz;simp only [if_true] at h;exact h
        have y5:¬ (j:Int)<(L.length:Int) - 1:=by omega
        have HSU2:Hid (kz.Sublist (List.range K.len)):=by have h:=za HSU;rw [Pl.fns_len] at h;exact h
        clear HLS HMR HSA HSU;go_wp2
        go_roundw
        case rel=>exact ⟨j+1,by omega,by go_num,by rw [hq],⟨kz,_,_,(za KC).next,za HSK,za HSU2,fun h=>absurd h (by omega),fun _=>za EF⟩⟩
        case measure=>simp [intOf];omega
       ·have hz2:j+1<L.length:=by omega
        have y5:(j:Int)<(L.length:Int) - 1:=by omega
        by_cases hk1:nk=1
        ·subst hk1
         have EF:Hid (Pl.atF (Pl.fnsX K) kz ((Pl.ways L L.length).drop (j+1))=R):=by
          have h:=za HMR hz2;simp only [and_self,if_true] at h;exact h
         have HNE:Hid (kz≠[]):=fun e=>(za HSA).no e rfl rfl;have HSU2:Hid (kz.Sublist (List.range K.len)):=by have h:=za HSU;rw [Pl.fns_len] at h;exact h
         clear HLS HMR HSA HSU;go_wp2
         go_roundw
         case rel=>exact ⟨j+1,by omega,by go_num,by rw [hq],⟨kz,_,_,(za KC).next,za HSK,za HSU2,fun _=>⟨za HNE,za EF⟩,fun h=>absurd h (by omega)⟩⟩
         case measure=>simp [intOf];omega
        ·have EZ:Hid (Pl.zk5=R):=by
          have h:=za HMR hz2;simp only [hk1,and_false,if_false] at h;exact h
         clear HLS HMR HSA HSU;go_upto_region 25 with fail
         clear d0 d2 d6;have r0:=(za KC).res.cell 0;have rf0:=(za KC).res.fr 0;have r1:=(za KC).res.cell 1;have rf1:=(za KC).res.fr 1;have r2:=(za KC).res.cell 2;have rf2:=(za KC).res.fr 2;have r3:=(za KC).res.cell 3;have rf3:=(za KC).res.fr 3;have r4:=(za KC).res.cell 4;have rf4:=(za KC).res.fr 4;have r5:=(za KC).res.cell 5;have rf5:=(za KC).res.fr 5;have r6:=(za KC).res.cell 6;have rf6:=(za KC).res.fr 6;simp only [za5,Pl.za3,kGs] at r0 r1 r2 r3 r4 r5 r6;have RT:=hide (ret7 (za KC).bel (za KC).res rfl (zt8 _ _) (false) (⟨#[]⟩) (0) (⟨#[]⟩) (0) (0) (.slice none 0 0));have EV:=EZ;go_wp2
         generalize (((((((W3.setCell ⟨w.heap.size,0,none⟩ (.bool (false))).setCell ⟨w.heap.size,1,none⟩ (.string (⟨#[]⟩))).setCell ⟨w.heap.size,2,none⟩ (.int .i64 (0))).setCell ⟨w.heap.size,3,none⟩ (.string (⟨#[]⟩))).setCell ⟨w.heap.size,4,none⟩ (.int .i64 (0))).setCell ⟨w.heap.size,5,none⟩ (.int .i64 (0))).setCell ⟨w.heap.size,6,none⟩ (.slice none 0 0))=WR at RT ⊢;have q0:=(za RT).1.cell 0;have q1:=(za RT).1.cell 1;have q2:=(za RT).1.cell 2;have q3:=(za RT).1.cell 3;have q4:=(za RT).1.cell 4;have q5:=(za RT).1.cell 5;have q6:=(za RT).1.cell 6;simp only [kGs] at q0 q1 q2 q3 q4 q5 q6;exact bodyPost_ret (v:= .agg #[.bool (false), .string (⟨#[]⟩), .int .i64 (0), .string (⟨#[]⟩), .int .i64 (0), .int .i64 (0), .slice none 0 0]) (by simp [results,Tryz.results46,go_sem,q0,q1,q2,q3,q4,q5,q6]) rfl ⟨.slice none 0 0,by rw [←za EV];rfl,by rw [←za EV];exact (za RT).2.2,(za RT).2.1⟩
   ·obtain rfl:j=L.length:=by omega
    obtain ⟨ks,o,v,KQ, -, -, -,hend⟩:=za HA;obtain ⟨ok,⟨np,nk,nd,nt,nm⟩,kz⟩:=o;obtain ⟨va,vc,rfl⟩:=zs2 KQ.own;have EF:Hid ((⟨ok,⟨np,nk,nd,nt,nm⟩,kz⟩:Pl.Ot)=R):=hend rfl;have y2:¬ (L.length:Int)<(L.length:Int):=by omega
    have KC:=hide KQ;simp only at KC;clear KQ hend HA;go_upto_region 27 with fail
    have c0:=(za KC).out.cell 0;have cf0:=(za KC).out.fr 0;have c1:=(za KC).out.cell 1;have cf1:=(za KC).out.fr 1;have c2:=(za KC).out.cell 2;have cf2:=(za KC).out.fr 2;have c3:=(za KC).out.cell 3;have cf3:=(za KC).out.fr 3;have c4:=(za KC).out.cell 4;have cf4:=(za KC).out.fr 4;have c5:=(za KC).out.cell 5;have cf5:=(za KC).out.fr 5;have c6:=(za KC).out.cell 6;have cf6:=(za KC).out.fr 6;simp only [za5,Pl.za3,kGs] at c0 c1 c2 c3 c4 c5 c6;have r0:=(za KC).res.cell 0;have rf0:=(za KC).res.fr 0;have r1:=(za KC).res.cell 1;have rf1:=(za KC).res.fr 1;have r2:=(za KC).res.cell 2;have rf2:=(za KC).res.fr 2;have r3:=(za KC).res.cell 3;have rf3:=(za KC).res.fr 3;have r4:=(za KC).res.cell 4;have rf4:=(za KC).res.fr 4;have r5:=(za KC).res.cell 5;have rf5:=(za KC).res.fr 5;have r6:=(za KC).res.cell 6;have rf6:=(za KC).res.fr 6;simp only [za5,Pl.za3,kGs] at r0 r1 r2 r3 r4 r5 r6
    have RT:=hide (ret7 (za KC).bel (za KC).res rfl (za KC).own (ok) (np) (nk) (nd) (nt) (nm) (.slice va kz.length vc));have EV:=EF;go_wp2
    generalize (((((((wr.setCell ⟨w.heap.size,0,none⟩ (.bool (ok))).setCell ⟨w.heap.size,1,none⟩ (.string (np))).setCell ⟨w.heap.size,2,none⟩ (.int .i64 (nk))).setCell ⟨w.heap.size,3,none⟩ (.string (nd))).setCell ⟨w.heap.size,4,none⟩ (.int .i64 (nt))).setCell ⟨w.heap.size,5,none⟩ (.int .i64 (nm))).setCell ⟨w.heap.size,6,none⟩ (.slice va kz.length vc))=WR at RT ⊢;have q0:=(za RT).1.cell 0;have q1:=(za RT).1.cell 1;have q2:=(za RT).1.cell 2;have q3:=(za RT).1.cell 3;have q4:=(za RT).1.cell 4;have q5:=(za RT).1.cell 5;have q6:=(za RT).1.cell 6;simp only [kGs] at q0 q1 q2 q3 q4 q5 q6;exact bodyPost_ret (v:= .agg #[.bool (ok), .string (np), .int .i64 (nk), .string (nd), .int .i64 (nt), .int .i64 (nm), .slice va kz.length vc]) (by simp [results,Tryz.results46,go_sem,q0,q1,q2,q3,q4,q5,q6]) rfl ⟨.slice va kz.length vc,by rw [←za EV];rfl,by rw [←za EV];exact (za RT).2.2,(za RT).2.1⟩

end zh8
end Go.Proofs.YtbomeifgfalmdaaGreatDoor
