/- Several texts of one claim in one file: WCutI, WRemoveP, WLeafs, WLeafR, WLess1S, WParS. -/
import Derived.Test.YthdhhcgopfgcbaaGreatDoorG17
import Derived.Test.YthdhhcgopfgcbaaGreatDoorPlainOver
import Derived.Test.YthdhhcgopfgcbaaGreatDoorMapPutL
import Derived.Test.YthdhhcgopfgcbaaGreatDoorG09
import Derived.Test.YthdhhcgopfgcbaaGreatDoorG11
namespace Go.Proofs.YthdhhcgopfgcbaaGreatDoor
section
open Go.RowKit Go.Maps
namespace MapN
theorem reads_del {D:DataW Unit} {C:List Pl.Nd} (h:Reads D C) (q:ByteArray):Reads (D.del (key q)) (C.filter (fun n=>!decide (n.path=q))):=by
 refine ⟨fun n hn=>?_,fun p c hc=>?_⟩
 ·rw [List.mem_filter] at hn;have hne:n.path≠q:=by simpa using hn.2
  rw [has_del_other (zy7 hne)];exact h.has n hn.1
 ·by_cases e:p=q
  ·exfalso;subst e;have a:∀z,dat c=z:=fun z=>by rw [←hc z];exact atKey_del_same z
   have a2:=zs5 (a (dat ⟨p,c.kind+1,p,0,0⟩));have a3:=congrArg Pl.Nd.kind a2;simp only at a3;omega
  ·have :=h.ent p c (fun z=>by rw [←hc z];exact (atKey_del_other (zy7 e) z).symm);exact ⟨List.mem_filter.2 ⟨this.1,by rw [←this.2];simpa using e⟩,this.2⟩
end MapN
namespace Pl
theorem left_step (L M:List Nd) {k:Nat} {m:Nd} (h:M[k]? =some m):(L.filter (fun n=>(M.take k).all (fun x=>!decide (n.path=x.path)))).filter (fun n=>!decide (n.path=m.path))=L.filter (fun n=>(M.take (k+1)).all (fun x=>!decide (n.path=x.path))):=by
 have h1:=List.getElem?_eq_some_iff.1 h;rw [List.filter_filter]
 apply List.filter_congr
 intro n _;rw [List.take_succ_eq_append_getElem h1.1,h1.2,List.all_append];simp [Bool.and_comm]
theorem left_end {L M:List Nd} {p:ByteArray} (hM:M=L.filter (fun n=>zb7 n.path p)):(L.filter (fun n=>M.all (fun x=>!decide (n.path=x.path)))).filter (fun n=>!decide (n.path=p))=L.filter (fun n=>!zb7 n.path p&&!decide (n.path=p)):=by
 rw [List.filter_filter]
 apply List.filter_congr
 intro n hn;rw [Bool.and_comm]
 congr 1
 cases k:zb7 n.path p
 ·rw [Bool.not_false,List.all_eq_true];intro x hx;rw [hM,List.mem_filter] at hx;have :n.path≠x.path:=fun e=>by rw [e,hx.2] at k;cases k
  simpa using this
 ·rw [Bool.not_true,List.all_eq_false];exact ⟨n,by rw [hM];exact List.mem_filter.2 ⟨hn,k⟩,by simp⟩
end Pl
namespace WCutI
theorem nodes_turn {w w':World} {B:Nat} {a:Option Addr} {L:List Pl.Nd} {n:Nat} {D:DataW Unit} (h:Mem.za2 w a L) (hown:w.ownsMap Tryz.prog 9 MapN.elem B n D) (hg:w.grownBy w' (some B)):Mem.za2 w' a L:=fun i n hi=>by
 obtain ⟨g,o,rfl,h2,h3,h4,h5,h6,h7⟩:=h i n hi
 have hne:some g≠some B:=fun e=>by
  cases e
  obtain ⟨es,clock,hb,_⟩:=hown;simp [World.cell?,hb] at h3
 exact ⟨g,o,rfl,Nat.lt_of_lt_of_le h2 hg.size,hg.cell h3 hne,hg.cell h4 hne,hg.cell h5 hne,hg.cell h6 hne,hg.cell h7 hne⟩
structure At (w wr:World) (B N:Nat) (a:Option Addr) (L M:List Pl.Nd) (k:Nat) (D:DataW Unit):Prop where
 grown:w.grownBy wr (some B)
 own:wr.ownsMap Tryz.prog 9 MapN.elem B N D
 reads:MapN.Reads D (L.filter (fun n=>(M.take k).all (fun x=>!decide (n.path=x.path))))
 nodes:Mem.za2 wr a M
set_option linter.unusedSimpArgs false in
set_option maxRecDepth 100000 in
set_option maxHeartbeats 2000000 in
theorem any (B N:Nat) (L:List Pl.Nd) (D:DataW Unit) (p:ByteArray) (w:World) (hown:w.ownsMap Tryz.prog 9 MapN.elem B N D) (hN:N≤1000) (hR:MapN.Reads D L) (hC:L.Pairwise (fun a b=>a.path≠b.path)) (hr:L.Pairwise (fun a b=>Pl.ltP a.path b.path=true))
  (hok:∀n∈L,Pl.za1 n.path=true∧n.data.size≤1048576) (hl:L.length≤1000) (hp:p.size≤1048576):
  Calls Tryz.prog 122 #[.map (some B), .string p] w fun e w'=>e= .returned (.tuple #[])∧(∃D',w'.ownsMap Tryz.prog 9 MapN.elem B N D'∧MapN.Reads D' (L.filter (fun n=>!Pl.zb7 n.path p&&!decide (n.path=p))))∧w.grownBy w' (some B):=by
 have hun:=hide (WUnderN.any B N L L D p w hown hN hR hC (List.Perm.refl _) hr hok hl hp);have HM:=hide (Pl.piece_filter p L (fun n hn=>(hok n hn).1) hr)
 have HMS:Hid (∀m∈Pl.zf8 L p,m.path.size≤1048576):=fun m hm=>by
  rw [za HM,List.mem_filter] at hm;have :=Pl.zd1 (hok m hm.1).1;omega
 have hml:(Pl.zf8 L p).length≤1000:=by rw [za HM];exact Nat.le_trans (List.length_filter_le _ _) hl
 have hkp:=MapN.zj3 (p:=p) (by unfold maxLen;omega);have HO:=hide hown;have HR:=hide hR;clear hown hR hC hr hok;generalize Pl.zf8 L p=M at hun HM HMS hml;go_enter Tryz.func122,Tryz.ntmps122
 go_wp2_with fail
 refine (za hun).mono ?_;rintro e w1 ⟨a,rfl,hnd, -,b1⟩;have A0:Hid (At w w1 B N a L M 0 D):=⟨Mem.zc7 b1 _,zc2.zd9 (za HO) b1,by rw [List.filter_eq_self.2 (fun _ _=>by simp)];exact za HR,hnd⟩;clear hun hnd b1 HO HR;go_wp2
 go_loopw [10] (fun i wr=>∃k:Nat,k≤M.length∧i= .int .i64 (k:Int)∧Hid (∃D',At w wr B N a L M k D')) (fun i _=>M.length - (intOf i).toNat)
 case atStart=>exact ⟨0,Nat.zero_le _,rfl,⟨_,za A0⟩⟩
 case round=>
  obtain ⟨k,hk,rfl,HA⟩:=hrel;obtain ⟨D1,A⟩:=za HA;have KA:=hide A;clear HA A A0;by_cases hlt:k<M.length
  ·obtain ⟨n,hn⟩:∃n,M[k]? =some n:=⟨_,List.getElem?_eq_getElem hlt⟩;obtain ⟨b,o,rfl,hb,q0,q1,q2,q3,q4⟩:=(za KA).nodes k n hn;have y1:(k:Int)<(M.length:Int):=by omega
   have y3:(0:Int)≤(k:Int):=by omega
   have hkn:=MapN.zj3 (p:=n.path) (by have :=za HMS n (List.mem_of_getElem? hn);unfold maxLen;omega);have EST:=hide (Pl.left_step L M hn);have RD:=hide (MapN.reads_del (za KA).reads n.path);rw [za EST] at RD;clear hn EST;obtain ⟨qp,qk,qd,qt,qm⟩:=n;simp only at q0 q1 q2 q3 q4 hkn RD;have OWD:=(za KA).own.alloc (.cells #[.string qp, .int .i64 qk, .string qd, .int .i64 qt, .int .i64 qm] 47);have GW:=(Mem.zl2 (za KA).grown (World.grownBy_alloc wr (.cells #[.string qp, .int .i64 qk, .string qd, .int .i64 qt, .int .i64 qm] 47) (some B)));have ND:=Mem.za0 (za KA).nodes ((Below.refl _ _).alloc (Nat.le_refl _) (.cells #[.string qp, .int .i64 qk, .string qd, .int .i64 qt, .int .i64 qm] 47));clear KA
   go_wp2_with (at_delete;refine wpList_delete_own _ rfl _ _ 78 9 rfl 47 MapN.law Tryz.underlying78 _ B N D1 rfl OWD _ _ rfl hkn ?_)
   intro w2 hown2 hturn2;have A2:Hid (At w w2 B N (some ⟨b,o,none⟩) L M (k+1) (D1.del (MapN.key qp))):=⟨Mem.zl2 GW hturn2.grown,hown2,za RD,nodes_turn ND OWD hturn2.grown⟩;clear OWD GW ND hown2 hturn2 RD;go_wp2
   go_roundw
   case rel=>exact ⟨k+1,by omega,by go_num,⟨_,za A2⟩⟩
   case measure=>simp [intOf];omega
  ·obtain rfl:k=M.length:=by omega
   have y1:¬ ((M.length:Int)<(M.length:Int)):=by omega
   have RD:=hide (MapN.reads_del (za KA).reads p);rw [List.take_length,Pl.left_end (za HM)] at RD;go_wp2_with (at_delete;refine wpList_delete_own _ rfl _ _ 78 9 rfl 47 MapN.law Tryz.underlying78 _ B N D1 rfl (za KA).own _ _ rfl hkp ?_)
   intro w2 hown2 hturn2;have FIN:=hide (show (∃D',w2.ownsMap Tryz.prog 9 MapN.elem B N D'∧MapN.Reads D' (L.filter (fun n=>!Pl.zb7 n.path p&&!decide (n.path=p))))∧w.grownBy w2 (some B) from ⟨⟨_,hown2,za RD⟩,Mem.zl2 (za KA).grown hturn2.grown⟩);clear KA hown2 hturn2 RD HM HMS;go_wp2
   go_end0
   exact ⟨rfl,za FIN⟩
end WCutI
end
section
open Go.RowKit Go.Maps
namespace Pl
def remC (L:List Nd) (p:ByteArray):Int:=if L.find? (fun m=>decide (m.path=p))=none then 6 else if ze4 L p=true then 10 else 0
end Pl
namespace ze6
set_option linter.unusedSimpArgs false in
set_option maxRecDepth 100000 in
set_option maxHeartbeats 2000000 in
theorem removeP_any (B:Nat) (L:List Pl.Nd) (n:Pl.Nd) (w:World) (ht:Pl.za5 L=true) (hp:Pl.za1 n.path=true) (hown:w.ownsMap Tryz.prog 9 MapN.elem B 40 (MapN.mapOf L)):
  Calls Tryz.prog 93 #[.map (some B),n.val] w fun e w'=>Did w w' e B (Pl.remC L n.path) (Pl.offL n.path L):=by
 obtain ⟨hr,hokn,h40⟩:=Pl.zj4 ht;have hC:=Pl.zl1 ht;have hp8:n.path.size≤8000:=by have :=Pl.zd1 hp;omega
 have HUN:=hide (fun W (b:Below w.heap.size w W)=>WUnderN.any B 40 L L (MapN.mapOf L) n.path W (zc2.zd9 hown b) (by omega) (MapN.zj6 hC) hC (List.Perm.refl _) hr hokn (by omega) (by omega));have HCU:=hide (fun W (b:Below w.heap.size w W)=>WCutI.any B 40 L (MapN.mapOf L) n.path W (zc2.zd9 hown b) (by omega) (MapN.zj6 hC) hC hr hokn (by omega) (by omega));rw [Pl.off_below (fun n hn=>(hokn n hn).1) hp] at HCU
 have HO:Hid (∀N D' (w':World),N≤1000→w'.ownsMap Tryz.prog 9 MapN.elem B N D'→MapN.Reads D' (Pl.offL n.path L)→∃N D' C,N≤1000∧w'.ownsMap Tryz.prog 9 MapN.elem B N D'∧MapN.Reads D' C∧C.Pairwise (fun a b=>a.path≠b.path)∧(Pl.offL n.path L).Perm C∧(Pl.offL n.path L).Pairwise (fun a b=>Pl.ltP a.path b.path=true)∧(∀n∈C,Pl.za1 n.path=true∧n.data.size≤1048576)):=fun N D' w' hN h1 h2=>⟨N,D',_,hN,h1,h2,hC.filter _,List.Perm.refl _,hr.filter _,fun m hm=>hokn m ((List.mem_filter.1 hm).1)⟩
 have HUV:Hid (((Pl.zf8 L n.path).length=0→Pl.ze4 L n.path=false)∧((Pl.zf8 L n.path).length≠0→Pl.ze4 L n.path=true)):=by
  have h2:=Pl.yn4 (fun n hn=>(hokn n hn).1) hp;refine ⟨fun h3=>by rw [←h2];exact Pl.zz3.1 h3,fun h3=>?_⟩;cases h4:Pl.ze4 L n.path
  ·rw [←h2] at h4;exact absurd (Pl.zz3.2 h4) h3
  ·rfl
 have HM:=hide hown;have HBL:=hide hown;have HAP:=hide hC;have EC:Hid (Pl.remC L n.path=if L.find? (fun m=>decide (m.path=n.path))=none then 6 else if Pl.ze4 L n.path=true then 10 else 0):=rfl;generalize Pl.remC L n.path=c at EC ⊢;generalize Pl.offL n.path L=O at HCU HO ⊢;obtain ⟨np,nk,nd,nt,nm⟩:=n;simp only [Pl.Nd.val] at hp8 HUN HCU HUV EC ⊢;clear hr hokn hown hC;have b0:Below w.heap.size w (w.alloc (.cells #[.string np, .int .i64 nk, .string nd, .int .i64 nt, .int .i64 nm] 47)):=(Below.refl _ _).alloc (Nat.le_refl _) _;have V0:=Mem.Blk.new w #[.string np, .int .i64 nk, .string nd, .int .i64 nt, .int .i64 nm] 47;have HM0:=hide (zc2.zd9 (za HM) b0);have hkey:=MapN.zj3 (p:=np) (by unfold maxLen;omega);have HRN:=hide zi2;have HRY:=hide zg;have hg:∀ {W:World},Below w.heap.size w W→w.grownBy W (some B):=fun b=>⟨b.os,b.tape,b.output,b.size,fun j hj _=>b.block j hj⟩
 cases hf:L.find? (fun m=>decide (m.path=np)) with
 |none=>
  have hmiss:∀n∈L,n.path≠np:=fun n hn=>by simpa using List.find?_eq_none.1 hf n hn
  have ha:=hide (MapN.zr9 hmiss);have ha2:=hide (Maps.atKey_of_not_has (za ha) (MapN.dat ⟨⟨#[]⟩,0,⟨#[]⟩,0,0⟩));have hc:c=6:=by have :=za EC;rw [hf,if_pos rfl] at this;exact this
  subst hc;clear EC HUV HUN HCU HO hmiss hf HRN;go_enter Tryz.func93,Tryz.ntmps93
  go_wp2_with (at_lookup;refine MapN.look_ok _ rfl _ _ 78 rfl 9 47 MapN.law Tryz.underlying78 (MapN.za6 _) B 40 (MapN.mapOf L) rfl (za HM0) _ _ rfl hkey ⟨⟨#[]⟩,0,⟨#[]⟩,0,0⟩ (za ha2) false (za ha) ?_)
  refine (za HRY 6 _).mono ?_;rintro e w1 ⟨rfl,rfl⟩;go_wp2_with fail
  exact ⟨rfl,⟨.inr ⟨by decide,rfl⟩,hg (b0.alloc b0.size _)⟩⟩
 |some m=>
  have hm1:=List.mem_of_find?_eq_some hf;have hm2:m.path=np:=by simpa using List.find?_some hf
  obtain ⟨y1,y2⟩:=MapN.zp0 (za HAP) hm1;rw [hm2] at y1 y2;have ha:=hide y1;have ha2:=hide (y2 (MapN.dat ⟨⟨#[]⟩,0,⟨#[]⟩,0,0⟩));have EC2:Hid (c=if Pl.ze4 L np=true then 10 else 0):=by have :=za EC;rw [hf,if_neg (by simp)] at this;exact this
  clear EC hf hm1 hm2 y1 y2;go_enter Tryz.func93,Tryz.ntmps93
  go_wp2_with (at_lookup;refine MapN.look_ok _ rfl _ _ 78 rfl 9 47 MapN.law Tryz.underlying78 (MapN.za6 _) B 40 (MapN.mapOf L) rfl (za HM0) _ _ rfl hkey m (za ha2) true (za ha) ?_)
  refine (za HRN 6 _).mono ?_;rintro e w1 ⟨rfl,rfl⟩;have b1:=b0.alloc b0.size (.cells m.cs.toArray 47);have V1:=V0.alloc (.cells m.cs.toArray 47);have p0:=V1.cell 0;simp only [kA0,kA1,Pl.Nd.cs] at p0 b1 V1;clear b0 V0 HM0;go_wp2_with fail
  refine (za HUN _ b1).mono ?_;rintro e w2 ⟨a2,rfl, -, -,b2⟩;have bw2:=b1.trans (b2.mono b1.size);have V2:=V1.call b2;have p0:=V2.cell 0;simp only [kA0,kA1] at p0;clear b1 V1 b2;by_cases hl:(Pl.zf8 L np).length=0
  ·have t1:¬ (0:Int)<((Pl.zf8 L np).length:Int):=by omega
   have hc:c=0:=by have :=za EC2;rw [(za HUV).1 hl,if_neg (by decide)] at this;exact this
   subst hc;have hcu:=hide (za HCU _ bw2);have t2:decide (0<(Pl.zf8 L np).length)=false:=by simp [hl]
   generalize (Pl.zf8 L np).length=kk at t1 t2;clear HUV HUN HCU EC2 HRY hl;go_wp2_with fail
   refine (za HRN 10 _).mono ?_;rintro e w3 ⟨rfl,rfl⟩;go_wp2_with fail
   refine (za hcu).mono ?_;rintro e w4 ⟨rfl,⟨D',hO2,hR2⟩,hg2⟩;have hfin:=za HO 40 D' _ (by omega) hO2 hR2;clear hO2 hR2 hcu HO;go_wp2_with fail
   go_end0
   exact ⟨.inl ⟨rfl,rfl,hfin⟩,⟨hg2.os.trans bw2.os,hg2.tape.trans bw2.tape,hg2.output.trans bw2.output,Nat.le_trans bw2.size hg2.size,fun j hj hne=>(hg2.block j (Nat.lt_of_lt_of_le hj bw2.size) hne).trans (bw2.block j hj)⟩⟩
  ·have t1:(0:Int)<((Pl.zf8 L np).length:Int):=by omega
   have hc:c=10:=by have :=za EC2;rw [(za HUV).2 hl,if_pos rfl] at this;exact this
   subst hc;have t2:decide (0<(Pl.zf8 L np).length)=true:=by simp;omega
   generalize (Pl.zf8 L np).length=kk at t1 t2;clear HUV HUN HCU EC2 HRN hl HO;go_wp2_with fail
   refine (za HRY 10 _).mono ?_;rintro e w3 ⟨rfl,rfl⟩;go_wp2_with fail
   exact ⟨rfl,⟨.inr ⟨by decide,rfl⟩,hg bw2⟩⟩
end ze6
end
section
open Go.RowKit Go.Maps
namespace yb5
structure Done (w w':World) (e:Ending) (qf:Nat) (O:List Pl.Nd):Prop where
 ret:e= .returned (.tuple #[])
 grown:w.grownBy w' (some qf)
 map:∃N,N≤1000∧w'.ownsMap Tryz.prog 9 MapN.elem qf N (MapN.mapOf O)
theorem yk9 {w W W':World} {q:Nat} (b:Below w.heap.size w W) (g:W.grownBy W' (some q)):w.grownBy W' (some q):=
 ⟨g.os.trans b.os,g.tape.trans b.tape,g.output.trans b.output,Nat.le_trans b.size g.size,fun k hk hne=>(g.block k (Nat.lt_of_lt_of_le hk b.size) hne).trans (b.block k hk)⟩
set_option linter.unusedSimpArgs false in
set_option maxRecDepth 100000 in
set_option maxHeartbeats 1000000 in
theorem write_any (qf qs N:Nat) (lev:Int) (L:List Pl.Nd) (n:Pl.Nd) (w:World) (hL:Pl.zc9 L) (hn:Pl.za1 n.path=true) (hd:n.data.size≤1048576) (hN:N≤900) (hown:w.ownsMap Tryz.prog 9 MapN.elem qf N (MapN.mapOf L)):
  Calls Tryz.prog 84 #[.agg #[.map (some qf), .map (some qs), .int .i64 lev],n.val] w fun e w'=>Done w w' e qf (Pl.putL L n):=by
 have hp8:n.path.size≤8000:=by have :=Pl.zd1 hn;omega
 have b0:Below w.heap.size w ((w.alloc (.cells #[.map (some qf), .map (some qs), .int .i64 lev] 135)).alloc (.cells #[.string n.path, .int .i64 n.kind, .string n.data, .int .i64 n.time, .int .i64 n.mark] 47)):=((Below.refl _ _).alloc (Nat.le_refl _) _).alloc (by simp) _;have HM:=hide (zc2.zd9 hown b0);have hkey:=MapN.zj3 (p:=n.path) (by unfold maxLen;omega)
 have HE:Hid (∀W5:World,((w.alloc (.cells #[.map (some qf), .map (some qs), .int .i64 lev] 135)).alloc (.cells #[.string n.path, .int .i64 n.kind, .string n.data, .int .i64 n.time, .int .i64 n.mark] 47)).grownBy W5 (some qf)→W5.ownsMap Tryz.prog 9 MapN.elem qf (N+1) ((MapN.mapOf L).put (MapN.key n.path) (MapN.dat n))→Done w W5 (.returned (.tuple #[])) qf (Pl.putL L n)):=fun W5 g5 m5=>
  ⟨rfl,yk9 b0 g5,N+1,by omega,MapN.yc9 hL hn hd m5⟩
 obtain ⟨np,nk,nd,nt,nm⟩:=n;simp only [Pl.Nd.val] at hp8 HM hkey HE b0 ⊢;clear hown b0;go_enter Tryz.func84,Tryz.ntmps84
 go_wp2_with (at_mapUpdate;refine wpList_mapUpdate_own _ rfl _ _ _ 78 rfl 9 47 MapN.law Tryz.underlying78 _ qf N _ rfl (za HM) (by unfold maxLen;omega) _ _ _ rfl rfl hkey _ [] (MapN.zk3 ⟨np,nk,nd,nt,nm⟩) ?_;intro W5 own5 g5)
 have K:=hide (za HE W5 g5 own5);clear own5 g5 HE HM;go_wp2
 go_end0
 exact za K
end yb5
end
section
open Go.RowKit Go.Maps
namespace Pl
def remL (L:List Nd) (p:ByteArray) (lev:Int):List Nd:=if 0<lev then putL (offL p L) ⟨p,0,⟨#[]⟩,0,lev⟩ else offL p L
end Pl
namespace yb5
theorem yn1:(⟨#[]⟩:ByteArray).size≤1048576:=by decide
set_option linter.unusedSimpArgs false in
set_option maxRecDepth 100000 in
set_option maxHeartbeats 1000000 in
theorem remove_any (qf qs N:Nat) (lev:Int) (L:List Pl.Nd) (n:Pl.Nd) (w:World) (hL:Pl.zc9 L) (hn:Pl.za1 n.path=true) (hN:N≤900) (hll:L.length≤900) (hown:w.ownsMap Tryz.prog 9 MapN.elem qf N (MapN.mapOf L)):
  Calls Tryz.prog 94 #[.agg #[.map (some qf), .map (some qs), .int .i64 lev],n.val] w fun e w'=>Done w w' e qf (Pl.remL L n.path lev):=by
 have hp8:n.path.size≤8000:=by have :=Pl.zd1 hn;omega
 obtain ⟨np,nk,nd,nt,nm⟩:=n;simp only at hn hp8 ⊢;have b0:Below w.heap.size w ((w.alloc (.cells #[.map (some qf), .map (some qs), .int .i64 lev] 135)).alloc (.cells #[.string np, .int .i64 nk, .string nd, .int .i64 nt, .int .i64 nm] 47)):=((Below.refl _ _).alloc (Nat.le_refl _) _).alloc (by simp) _;have G0:=(Mem.Blk.new w #[.map (some qf), .map (some qs), .int .i64 lev] 135).alloc (.cells #[.string np, .int .i64 nk, .string nd, .int .i64 nt, .int .i64 nm] 47);have N0:Mem.Blk ((w.alloc (.cells #[.map (some qf), .map (some qs), .int .i64 lev] 135)).alloc (.cells #[.string np, .int .i64 nk, .string nd, .int .i64 nt, .int .i64 nm] 47)) (w.heap.size+1) #[.string np, .int .i64 nk, .string nd, .int .i64 nt, .int .i64 nm] 47:=Mem.zg4 _ _ _;have hql:=World.ownsMap.lt hown
 have HCU:=hide (WCutI.any qf N L (MapN.mapOf L) np _ (zc2.zd9 hown b0) (by omega) (MapN.zj6 hL.apart) hL.apart hL.rise hL.path (by omega) (by omega));rw [Pl.off_below (fun n hn=>(hL.path n hn).1) hn] at HCU;have hkey:=MapN.zj3 (p:=np) (by unfold maxLen;omega);have HRI:=hide (hL.off np);have EO:Hid (Pl.remL L np lev=if 0<lev then Pl.putL (Pl.offL np L) ⟨np,0,⟨#[]⟩,0,lev⟩ else Pl.offL np L):=rfl;generalize Pl.remL L np lev=O at EO ⊢;generalize Pl.offL np L=C at HCU HRI EO;clear hown hL;simp only [Pl.Nd.val];go_enter Tryz.func94,Tryz.ntmps94
 go_wp2_with fail
 generalize (w.alloc (.cells #[.map (some qf), .map (some qs), .int .i64 lev] 135)).alloc (.cells #[.string np, .int .i64 nk, .string nd, .int .i64 nt, .int .i64 nm] 47)=w1 at b0 G0 N0 HCU ⊢;refine (za HCU).mono ?_;rintro e w2 ⟨rfl,⟨D',hD,hR⟩,g2⟩;have eD:=MapN.yi8 hD hR (za HRI).apart (fun m=>Iff.rfl);subst eD;have G2:=G0.grown g2 (fun e=>by have :=Option.some.inj e;omega);have N2:=N0.grown g2 (fun e=>by have :=Option.some.inj e;omega);have gw2:=yk9 b0 g2;have c0:=G2.cell 0;have c2:=G2.cell 2;have d0:=N2.cell 0;simp only [kGs] at c0 c2 d0;have HM:=hide hD;clear HCU hD hR G0 N0 G2 N2 b0 g2;by_cases hlv:0<lev
 ·have eO:O=Pl.putL C ⟨np,0,⟨#[]⟩,0,lev⟩:=by have :=za EO;rw [if_pos hlv] at this;exact this
  have HE:Hid (∀W5:World,w2.grownBy W5 (some qf)→W5.ownsMap Tryz.prog 9 MapN.elem qf (N+1) ((MapN.mapOf C).put (MapN.key np) (MapN.dat ⟨np,0,⟨#[]⟩,0,lev⟩))→Done w W5 (.returned (.tuple #[])) qf O):=fun W5 g5 m5=>by
   rw [eO];refine ⟨rfl,?_,N+1,by omega,MapN.yc9 (za HRI) (n:=⟨np,0,⟨#[]⟩,0,lev⟩) hn yn1 m5⟩;exact ⟨g5.os.trans gw2.os,g5.tape.trans gw2.tape,g5.output.trans gw2.output,Nat.le_trans gw2.size g5.size,fun k hk hne=>(g5.block k (Nat.lt_of_lt_of_le hk gw2.size) hne).trans (gw2.block k hk hne)⟩
  clear eO EO gw2;go_wp2_with (at_mapUpdate;refine wpList_mapUpdate_own _ rfl _ _ _ 78 rfl 9 47 MapN.law Tryz.underlying78 _ qf N _ rfl (za HM) (by unfold maxLen;omega) _ _ _ rfl rfl hkey _ [] (MapN.zk3 ⟨np,0,⟨#[]⟩,0,lev⟩) ?_;intro W5 own5 g5)
  have K:=hide (za HE W5 g5 own5);clear own5 g5 HE HM;go_wp2
  go_end0
  exact za K
 ·have eO:O=C:=by have :=za EO;rw [if_neg hlv] at this;exact this
  subst eO;go_wp2
  go_end0
  exact ⟨rfl,gw2,N,by omega,za HM⟩
end yb5
end
section
open Go.RowKit
namespace zg9
set_option maxRecDepth 100000 in
set_option maxHeartbeats 1000000 in
theorem less1_any (p t:ByteArray) (w:World) (hp:p.size≤8000) (ht:t.size≤8000):
  Calls Tryz.prog 67 #[.string p, .string t] w fun e w'=>e= .returned (.bool (Pl.za9 (Pl.names p) (Pl.names t)))∧Below w.heap.size w w':=by
 have hn1:=hide (fun W=>zs1 p W (by omega));have hn2:=hide (fun W=>zs1 t W (by omega));have hA:=Pl.yb0 p;have hB:=Pl.yb0 t;generalize Pl.names p=A at hn1 hA ⊢;generalize Pl.names t=B at hn2 hB ⊢;have HE:Hid (∀k,k=A.length∧k≤B.length∨k=B.length∧k≤A.length→Pl.za9 (A.drop k) (B.drop k)=decide (A.length<B.length)):=fun k h=>Pl.less_end h;have HS:Hid (Pl.za9 A B=Pl.za9 (A.drop 0) (B.drop 0)):=rfl;have HT:Hid (∀k a b,A[k]? =some a→B[k]? =some b→a=b→Pl.za9 (A.drop k) (B.drop k)=Pl.za9 (A.drop (k+1)) (B.drop (k+1))):=fun k a b h1 h2 h3=>Pl.less_same h1 h2 h3;have HF:Hid (∀k a b,A[k]? =some a→B[k]? =some b→a≠b→Pl.za9 (A.drop k) (B.drop k)=Op.bytesLess a.toList b.toList):=fun k a b h1 h2 h3=>Pl.yo0 h1 h2 h3;generalize Pl.za9 A B=R at HS ⊢;go_enter Tryz.func67,Tryz.ntmps67
 go_wp2_with fail
 refine (za hn1 _).mono ?_;rintro e w1 ⟨v,rfl,hown1,b1⟩;have HO1:=hide hown1;clear hown1;go_wp2_with fail
 refine (za hn2 _).mono ?_;rintro e w2 ⟨u,rfl,hown2,b2⟩;have hv:=hide (Mem.texts_call (Mem.zo1 (za HO1)) b2);have hu:=hide (Mem.zo1 hown2);have b3:=b1.trans (b2.mono b1.size);have hs3:=b3.size;clear b1 b2 hown2 HO1 hn1 hn2;obtain ⟨va,vc,rfl⟩:=Mem.zx3 (za hv);obtain ⟨ua,uc,rfl⟩:=Mem.zx3 (za hu)
 have HCA:Hid (∀ (k:Nat) x,A[k]? =some x→∃b o,va=some ⟨b,o,none⟩∧b<w2.heap.size∧w2.cell? ⟨b,o+k,none⟩=some (.string x)):=fun k x hx=>by
  rcases za hv with ⟨_,rfl⟩|⟨b,o,cap,h1,h2,h3⟩
  ·simp at hx
  ·cases h1;exact ⟨b,o,rfl,h2,h3 k x hx⟩
 have HCB:Hid (∀ (k:Nat) x,B[k]? =some x→∃b o,ua=some ⟨b,o,none⟩∧b<w2.heap.size∧w2.cell? ⟨b,o+k,none⟩=some (.string x)):=fun k x hx=>by
  rcases za hu with ⟨_,rfl⟩|⟨b,o,cap,h1,h2,h3⟩
  ·simp at hx
  ·cases h1;exact ⟨b,o,rfl,h2,h3 k x hx⟩
 clear hv hu;go_wp2
 go_loopw [7] (fun i wr=>∃k:Nat,k≤A.length∧k≤B.length∧i= .int .i64 (k:Int)∧Below w2.heap.size w2 wr∧Hid (R=Pl.za9 (A.drop k) (B.drop k))) (fun i _=>A.length - (intOf i).toNat)
 case atStart=>exact ⟨0,Nat.zero_le _,Nat.zero_le _,rfl,Below.refl _ _,HS⟩
 case round=>
  obtain ⟨k,hk,hk2,rfl,hbel,HR⟩:=hrel;by_cases hlt:k<A.length∧k<B.length
  ·obtain ⟨l1,l2⟩:=hlt;obtain ⟨y,hy⟩:∃y,B[k]? =some y:=⟨_,List.getElem?_eq_getElem (by omega)⟩;obtain ⟨x,hx⟩:∃x,A[k]? =some x:=⟨_,List.getElem?_eq_getElem (by omega)⟩;obtain ⟨b,o,rfl,hb,hcb⟩:=HCB.out k y hy;obtain ⟨b',o',rfl,hb',hca⟩:=HCA.out k x hx;have hc1:wr.cell? ⟨b,o+k,none⟩=some (.string y):=(hbel.cell (p:=⟨b,o+k,none⟩) hb).trans hcb;have hc2:wr.cell? ⟨b',o'+k,none⟩=some (.string x):=(hbel.cell (p:=⟨b',o'+k,none⟩) hb').trans hca;have u1:(k:Int)<(A.length:Int):=by omega
   have u2:(k:Int)<(B.length:Int):=by omega
   have u3:(0:Int)≤(k:Int):=by omega
   clear hcb hca;by_cases hxy:x=y
   ·have t2:=Pl.zu0 hxy;have HR2:Hid (R=Pl.za9 (A.drop (k+1)) (B.drop (k+1))):=HR.out.trans (HT.out k x y hx hy hxy);clear hx hy HR hxy;go_wp2
    go_quiet (fail)
    go_wp2
    go_roundw
    case rel=>exact ⟨k+1,by omega,by omega,by go_num,Mem.below_drewN hbel _,HR2⟩
    case measure=>simp [intOf];omega
   ·have t2:=Pl.zq1 hxy;have E:Hid (R=Op.bytesLess x.toList y.toList):=HR.out.trans (HF.out k x y hx hy hxy);clear hx hy HR hxy;go_wp2
    go_quiet (fail)
    go_wp2
    go_quiet (fail)
    go_wp2
    go_ret
    exact ⟨za3 E.out.symm,b3.trans ((Mem.below_drewN (Mem.below_drewN hbel _) _).mono hs3)⟩
  ·have E:Hid (R=decide (A.length<B.length)):=HR.out.trans (HE.out _ (by omega));clear HR;by_cases l1:k<A.length
   ·have u1:(k:Int)<(A.length:Int):=by omega
    have u2:¬ (k:Int)<(B.length:Int):=by omega
    clear hlt;go_wp2
    go_ret
    exact ⟨za3 (by rw [E.out]),b3.trans (hbel.mono hs3)⟩
   ·have u1:¬ (k:Int)<(A.length:Int):=by omega
    clear hlt;go_wp2
    go_ret
    exact ⟨za3 (by rw [E.out]),b3.trans (hbel.mono hs3)⟩
end zg9
end
section
open Go.RowKit
namespace zg9

set_option maxHeartbeats 400000 in
theorem cut_any (s:ByteArray) (w:World) (hs:s.size≤maxLen):
  Calls Tryz.prog 125 #[.string s] w fun e w'=>e= .returned (.int .i64 (Pl.zf7 s s.size))∧w'=w:=by
 unfold maxLen at hs;go_enter Tryz.func125,Tryz.ntmps125
 go_wp2
 go_loop [3,4] (fun x i=>∃k:Nat,k≤s.size∧i= .int .i64 (k:Int)∧x= .int .i64 (Pl.zf7 s k)) (fun _ i=>s.size - (intOf i).toNat)
 case atStart=>exact ⟨0,Nat.zero_le _,rfl,rfl⟩
 case round=>
  obtain ⟨k,hk,rfl,rfl⟩:=hrel;by_cases hlt:k<s.size
  ·by_cases hb:s[k].toNat=47
   ·have H:=hide (Pl.slash_hit hlt hb);have t1:((s[k].toNat:Int)==47)=true:=by rw [beq_iff_eq];omega
    clear hb;go_wp2
    go_round
    case rel=>exact ⟨k+1,by omega,by go_num,by rw [za H]⟩
    case measure=>simp [intOf];omega
   ·have H:=hide (Pl.yl1 hlt hb);have t1:((s[k].toNat:Int)==47)=false:=by rw [beq_eq_false_iff_ne];omega
    clear hb;go_wp2
    go_round
    case rel=>exact ⟨k+1,by omega,by go_num,by rw [za H]⟩
    case measure=>simp [intOf];omega
  ·obtain rfl:k=s.size:=by omega
   go_wp2
   go_ret
   exact ⟨rfl,rfl⟩

theorem zs3 (s:ByteArray) (w:World) (hs:s.size≤maxLen):
  Calls Tryz.prog 101 #[.string s] w fun e w'=>e= .returned (.string (Pl.parent s))∧w'=w:=by
 have hb:=Pl.slash_lt s s.size;have hc:=hide (cut_any s w hs);unfold maxLen at hs;have E0:Hid (Pl.zf7 s s.size<0→Pl.parent s=⟨#[]⟩):=fun h=>if_pos h;have E1:Hid (¬Pl.zf7 s s.size<0→Pl.parent s=s.extract 0 (Pl.zf7 s s.size).toNat):=fun h=>if_neg h;generalize Pl.zf7 s s.size=k at hc hb E0 E1;by_cases h:k<0
 ·have E:=hide (E0.out h);clear E0 E1;go_enter Tryz.func101,Tryz.ntmps101
  go_wp2_with (go_at_call 125;refine (za hc).mono ?_;rintro e w' ⟨rfl,hw⟩;obtain rfl:=hw.symm)
  go_ret
  exact ⟨zz4 (za E).symm,rfl⟩
 ·have E:=hide (E1.out h);have t1:0≤k:=by omega
  have t2:k≤(s.size:Int):=by omega
  clear E0 E1;go_enter Tryz.func101,Tryz.ntmps101
  go_wp2_with (go_at_call 125;refine (za hc).mono ?_;rintro e w' ⟨rfl,hw⟩;obtain rfl:=hw.symm)
  go_ret
  exact ⟨zz4 (za E).symm,rfl⟩
end zg9
end
end Go.Proofs.YthdhhcgopfgcbaaGreatDoor
