import Derived.Test.YtkighhofjmginaaGreatDoorG43
import Derived.Test.YtkighhofjmginaaGreatDoorWWk6
namespace Go.Proofs.YtkighhofjmginaaGreatDoor
open Go.RowKit
namespace Mem
theorem Iz.kept {W W':World} {S:Nat} {v:Value} {Ns:List Pl.Ns} {lo hi:Nat→Nat} (h:Iz W S v Ns lo hi) (hs:W.heap.size≤W'.heap.size) (hb:∀b,S≤b→b<W.heap.size→W'.heap[b]? =W.heap[b]?):Iz W' S v Ns lo hi:=
 ⟨ze6 h.row (fun g hg=>by have :=World.ownsRow.lt h.row g hg;exact hb g this.1 this.2),fun j x hx=>⟨(h.each j x hx).1.same (fun b h1 h2=>by have h3:=(h.each j x hx).2;exact hb b (by omega) (by omega)),(h.each j x hx).2.1,(h.each j x hx).2.2.1,Nat.le_trans (h.each j x hx).2.2.2.1 hs,(h.each j x hx).2.2.2.2⟩,h.rise⟩
end Mem
namespace WSp
def Stopped (p:Prop):Prop:=p
theorem stopIn {p:Prop} (h:Stopped p):p:=h
theorem infoHo:(Tryz.prog.info? 67).map (fun i=>(i.zero,i.size,i.bytes))=some (some (.agg #[.int .i64 0, .int .i64 0, .string ⟨#[]⟩]),3,32):=by kernel_rfl
theorem fin_space {w D W:World} {s u:Pl.Sp} {S1:Nat} {lo hi:Nat→Nat} (h:WCp8.Cpd w D s u S1 lo hi) {R:Nat} (hR:R<w.heap.size) (hs:D.heap.size≤W.heap.size) (keep:∀b,b<D.heap.size→(Value.slice u.ha u.H.length u.hc).ownBlock≠some b→b≠R→W.heap[b]? =D.heap[b]?)
  {B1:Nat} {ha':Option Addr} {hc':Nat} {H':List Pl.Hn} (n':Int) (o:Mem.own3 67 Pl.Hn.cs W B1 (.slice ha' H'.length hc') H'):Mem.zc9 W ⟨u.ia,u.ic,u.N,u.ma,u.mc,u.M,ha',hc',H',n'⟩:=by
 have hS:=h.s1;have hz:=h.iz.kept (W':=W) hs (fun b h1 h2=>keep b h2 (fun e=>by have :=h.hh b e;omega) (by omega))
 have hm:Mem.own3 56 Pl.Mn.cs W w.heap.size (.slice u.ma u.M.length u.mc) u.M:=Mem.ze6 h.om (fun g hg=>by
  have :=World.ownsRow.lt h.om g hg
  exact keep g this.2 (fun e=>h.ne g hg e) (by omega))
 obtain ⟨a,c,e,h1, -⟩:=Mem.zr2 Pl.Mn.three hm;obtain ⟨a',c',e',h1', -⟩:=Mem.zr2 Pl.Hn.three o;cases e
 cases e'
 exact ⟨hz.zi9.2,Mem.zq5 h1,Mem.zt4 h1'⟩
def walkN (o:Option Pl.Nd):Pl.Nd × Int:=match o with
 |none=>(Pl.za3,6)
 |some n=>(n,0)
theorem walk_at (x:Pl.Ns) (RT:ByteArray) (w:World) (hok:∀t∈x.Is,t.t.L.length≤1048576∧∀n∈t.t.L,n.path.size≤1048576∧n.data.size≤1048576) (hv:Mem.zb3 w x.a x.Is) (hnr:(Pl.nest (Pl.rowO (x.Is.map Pl.It.r))).isSome=true) (hp:Pl.za0 RT=true) (hz:¬RT.size=0) (R:Pl.Nd × Int) (hR:R=walkN (Pl.zm3 (x.Is.map Pl.It.r) RT)):
  Calls Tryz.prog 26 #[.slice x.a x.Is.length x.cap, .string RT] w fun e w'=>e= .returned (.agg #[.string R.1.path, .int .i64 R.1.kind, .string R.1.data, .int .i64 R.1.time, .int .i64 R.1.mark, .int .i64 R.2])∧Below w.heap.size w w':=by
 cases hF:Pl.nest (Pl.rowO (x.Is.map Pl.It.r)) with
 |none=>rw [hF] at hnr;cases hnr
 |some F=>
  obtain ⟨L,K,hks,hfl,hko,hnx⟩:=Pl.yf9 hF;have hy:=Pl.ye0 hF;have h12:x.Is.length≤12:=by have h:=hy.1;rw [Pl.zo0,List.length_map] at h;exact h
  exact zi2.walk6_any x.a x.cap x.Is h12 hok L K RT w (by rw [hks];exact hy.2.2) hko hfl hp hz hv R (by rw [hR];unfold Pl.zm3;rw [hnx];show walkN (Pl.zh8 L K RT)=_;cases Pl.zh8 L K RT <;> rfl)
theorem insts_items {w W:World} {a:Option Addr} {N:List Pl.Ns} (h:Mem.zg8 w a N) {k:Nat} {x:Pl.Ns} (hx:N[k]? =some x) (b:Below w.heap.size w W):Mem.zb3 W x.a x.Is:=Mem.zb9 (h k x hx).2 b
theorem walkV_root {R:List (Int × List Pl.Nd)} (hnr:(Pl.nest (Pl.rowO R)).isSome=true) {q:ByteArray} (hz:q.size=0):Pl.zm3 R q=none:=by
 cases hF:Pl.nest (Pl.rowO R) with
 |none=>rw [hF] at hnr;cases hnr
 |some F=>
  obtain ⟨L,K, -, -,hko,hnx⟩:=Pl.yf9 hF;unfold Pl.zm3;rw [hnx];exact Pl.yl hko.1 hz
set_option linter.unusedSimpArgs false in
set_option maxRecDepth 100000 in
set_option maxHeartbeats 4000000 in
theorem openF_any (s:Pl.Sp) (p:ByteArray) (w:World) (hp:p.size≤1048576) (hok:zb0.OkS s 1048576) (hv:Mem.zc9 w s) (hma:∃g,s.ma=some ⟨g,0,none⟩) (hha:∃g,s.ha=some ⟨g,0,none⟩) (hrow:∀x∈s.N,(∃g,x.a=some ⟨g,0,none⟩)∧∀t∈x.Is,Mem.okR t.t.a t.t.cap t.t.L)
  (A:Pl.Ao) (hA:Pl.zp1 s p (Pl.zc2 s.next (s.N.map WSp.nr) s.M s.H Pl.wayB)=A):
  Calls Tryz.prog 6 #[.agg s.cs, .string p] w fun e w'=>(∃u,e= .returned (.agg (WSpO.so u A.d A.p A.c))∧Mem.zc9 w' u∧Pl.Fits u A)∧Below w.heap.size w w':=by
 obtain ⟨i0,ji0,jz0,jz1,jz2⟩:=info_parts infoHo;generalize hlm:Pl.ze1 (Pl.uR p) s.M s.M.length=m;have HX:=hide (fun W (b:Below w.heap.size w W)=>begin_any s p W hp hok (hv.call b));have HIL:=hide ill_any
 have HY:Hid (Pl.whyI p (Pl.zc2 s.next (s.N.map WSp.nr) s.M s.H Pl.wayB)=0→Pl.za0 (Pl.rest p m.p)=true∧(∃ (k:Nat) (x:Pl.Ns),s.N[k]? =some x∧Pl.zd4 (s.N.map (·.d)) m.i=(k:Int)∧Pl.zn5 s p=Pl.zm3 (x.Is.map Pl.It.r) (Pl.rest p m.p)∧(Pl.nest (Pl.rowO (x.Is.map Pl.It.r))).isSome=true)∧(s.H.length≤6)∧(1≤s.next∧s.next≤1000000)∧(Pl.zf9 (Pl.uR p) s.M s.M.length=m∧Pl.under p m.p=true∧s.M.length≤1000)):=hide (fun h=>by
  rcases Pl.zs8 p (Pl.zc2 s.next (s.N.map WSp.nr) s.M s.H Pl.wayB) with ⟨-,h1,h2⟩|h1|h1
  ·obtain ⟨k1,k2,k3,k4,k5,k6,k7,k8⟩:=Pl.zq1 h1;have hl:=Pl.lead_of h1 p h2;rw [hlm] at hl;obtain ⟨k,x,e1,e2,e3,e4⟩:=Pl.yk7 h1 hl.2.1;refine ⟨Pl.yf h2 m.p,⟨k,x,e1,e4,?_,Pl.yh7 h1 x (List.mem_of_getElem? e1)⟩,k3,⟨k7,k8⟩,hl.1,hl.2.2.1,by omega⟩;unfold Pl.zn5;rw [hlm,e3];rfl
  ·rw [h1] at h;cases h
  ·rw [h1] at h;cases h)
 have HCP:=hide (fun (h:Pl.whyI p (Pl.zc2 s.next (s.N.map WSp.nr) s.M s.H Pl.wayB)=0) W (b:Below w.heap.size w W)=>by
  rcases Pl.zs8 p (Pl.zc2 s.next (s.N.map WSp.nr) s.M s.H Pl.wayB) with ⟨-,h1,h2⟩|h1|h1
  ·obtain ⟨k1,k2,k3,k4,k5,k6, -⟩:=Pl.zq1 h1;exact WCp8.zy4 s W (hv.call b) (by obtain ⟨g,h⟩:=hma;exact ⟨g,0,h⟩) (by obtain ⟨g,h⟩:=hha;exact ⟨g,0,h⟩) k2 k3 k1 (fun x hx=>⟨(k4 x hx).1,(k4 x hx).2.1,fun t ht=>by have :=(k4 x hx).2.2 t ht;omega,(hrow x hx).1,(hrow x hx).2⟩)
  ·rw [h1] at h;cases h
  ·rw [h1] at h;cases h)
 have HWH:=hide (fun (h1:Pl.zf9 (Pl.uR p) s.M s.M.length=m) (h2:Pl.under p m.p=true) (h3:s.M.length≤1000) W (b:Below w.heap.size w W)=>where_any s p W hp hok.mp h3 (hv.call b) m h1 h2);have HNE:=hide (fun (k:Nat) (x:Pl.Ns) (hx:s.N[k]? =some x) (hk:Pl.zd4 (s.N.map (·.d)) m.i=(k:Int)) W (b:Below w.heap.size w W)=>nestF_any s m.i W hok.n (Mem.zg0 hv.zi9 b) k x hx hk);have HWK:=hide (fun (k:Nat) (x:Pl.Ns) (hx:s.N[k]? =some x) (hnr:(Pl.nest (Pl.rowO (x.Is.map Pl.It.r))).isSome=true) (hp2:Pl.za0 (Pl.rest p m.p)=true) (hz2:¬ (Pl.rest p m.p).size=0) W (b:Below w.heap.size w W) (R:Pl.Nd × Int) (hR:R=walkN (Pl.zm3 (x.Is.map Pl.It.r) (Pl.rest p m.p)))=>walk_at x (Pl.rest p m.p) W (hok.each x (List.mem_of_getElem? hx)).2 (insts_items hv.zi9 hx b) hnr hp2 hz2 R hR)
 have HAG:Hid (Pl.whyI p (Pl.zc2 s.next (s.N.map WSp.nr) s.M s.H Pl.wayB)=0→A=if Pl.zi3 (Pl.zn5 s p) s.H.length s.next=0 then ⟨s.N.map Pl.Ns.r,s.M,s.H++[⟨s.next,m.i,Pl.rest p m.p⟩],s.next+1,s.next,⟨#[]⟩,0⟩ else Pl.Ao.ill (Pl.codeO (Pl.zi3 (Pl.zn5 s p) s.H.length s.next))):=hide (fun h=>by rw [←hA];unfold Pl.zp1;rw [if_pos h,hlm])
 have HAB:Hid (Pl.whyI p (Pl.zc2 s.next (s.N.map WSp.nr) s.M s.H Pl.wayB)≠0→∃ (c:Int),begC p (Pl.zc2 s.next (s.N.map WSp.nr) s.M s.H Pl.wayB)=c∧c≠0∧A=Pl.Ao.ill c):=hide (fun h=>by
  refine ⟨_,rfl,?_,?_⟩
  ·unfold begC;rw [if_neg h]
   split <;> decide
  ·rw [←hA];unfold Pl.zp1 begC
   rw [if_neg h,if_neg h])
 generalize Pl.zc2 s.next (s.N.map WSp.nr) s.M s.H Pl.wayB=RB at HX HY HCP HAG HAB;generalize Pl.zn5 s p=SO at HY HAG;generalize Pl.rest p m.p=RT at HY HWH HWK HAG;clear hok hv hma hha hrow hA hlm hp;obtain ⟨ia,ic,N,ma,mc,M,ha,hc,H,next⟩:=s;simp only at HX HY HCP HWH HNE HWK HAG HAB ⊢;unfold Pl.Sp.cs at HX HCP HWH HNE ⊢;simp only at HX HCP HWH HNE ⊢;have b0:Below w.heap.size w ((w.alloc (.cells #[Value.slice ia N.length ic,Value.slice ma M.length mc,Value.slice ha H.length hc,Value.int .i64 next] 32)).alloc (.cells #[Value.slice none 0 0,Value.slice none 0 0,Value.slice none 0 0,Value.int .i64 0,Value.int .i64 0,Value.string ⟨#[]⟩,Value.int .i64 0] 34)):=(bE0).alloc (by simp) _
 have V0:=hide ((Mem.Blk.new w #[Value.slice ia N.length ic,Value.slice ma M.length mc,Value.slice ha H.length hc,Value.int .i64 next] 32).alloc (.cells #[Value.slice none 0 0,Value.slice none 0 0,Value.slice none 0 0,Value.int .i64 0,Value.int .i64 0,Value.string ⟨#[]⟩,Value.int .i64 0] 34));have U0:=hide (Mem.Blk.new (w.alloc (.cells #[Value.slice ia N.length ic,Value.slice ma M.length mc,Value.slice ha H.length hc,Value.int .i64 next] 32)) #[Value.slice none 0 0,Value.slice none 0 0,Value.slice none 0 0,Value.int .i64 0,Value.int .i64 0,Value.string ⟨#[]⟩,Value.int .i64 0] 34);rw [show (w.alloc (.cells #[Value.slice ia N.length ic,Value.slice ma M.length mc,Value.slice ha H.length hc,Value.int .i64 next] 32)).heap.size=w.heap.size+1 by simp] at U0;have a0:=(za V0).cell 0;have a1:=(za V0).cell 1;have a2:=(za V0).cell 2
 have a3:=(za V0).cell 3;simp only [kGs] at a0 a1 a2 a3;go_enter Tryz.func6,Tryz.ntmps6
 go_wp2_with fail
 generalize (w.alloc (.cells #[Value.slice ia N.length ic,Value.slice ma M.length mc,Value.slice ha H.length hc,Value.int .i64 next] 32)).alloc (.cells #[Value.slice none 0 0,Value.slice none 0 0,Value.slice none 0 0,Value.int .i64 0,Value.int .i64 0,Value.string ⟨#[]⟩,Value.int .i64 0] 34)=wA at b0 V0 U0 a0 a1 a2 a3 ⊢;refine (za HX _ b0).mono ?_;rintro e w1 ⟨rfl,bX⟩;have b1:=b0.trans (bX.mono b0.size);have V1:=hide ((za V0).call bX);have U1:=hide ((za U0).call bX);clear HX bX V0 U0 b0 a0 a1 a2 a3;by_cases h0:Pl.whyI p RB=0
 ·obtain ⟨hRT,⟨k,x,hx,hki,hSO,hnr⟩,hH6,hnx,hl1,hl2,hl3⟩:=za HY h0;have hbc:begC p RB=0:=by unfold begC;rw [if_pos h0]
  rw [hbc];have HAE:=hide (za HAG h0);have HCQ:=hide (za HCP h0);have HLW:=hide (za HWH hl1 hl2 hl3);have HNQ:=hide (za HNE k x hx hki);have HWQ:=hide (fun hz2=>za HWK k x hx hnr hRT hz2);rw [←hSO] at HWQ;have HRZ:Hid (RT.size=0→SO=none):=hide (fun h=>by rw [hSO];exact walkV_root hnr h);clear HY HAG HAB HCP HWH HNE HWK hx hki hnr hl1 hl2 hl3 hbc h0 hSO;obtain ⟨a0,a1,a2,a3⟩:=jc4 (za V1);go_wp2_with fail
  refine (za HLW _ b1).mono ?_;rintro e w3 ⟨rfl,bX⟩;have b3:=b1.trans (bX.mono b1.size);have V3:=hide ((za V1).call bX);have U3:=hide ((za U1).call bX);clear V1 U1 b1 bX a0 a1 a2 a3 HLW;have bA:Below w3.heap.size w3 (w3.alloc (.cells #[Value.string m.p,Value.int .i64 m.i,Value.bool m.z] 56)):=bE0;have X4:=hide (Mem.Blk.new w3 #[Value.string m.p,Value.int .i64 m.i,Value.bool m.z] 56);have V4:=hide ((za V3).call bA);have U4:=hide ((za U3).call bA);have b5:=b3.trans (bA.mono b3.size);have hX:w.heap.size+1<w3.heap.size:=(za U3).lt;clear V3 U3 b3 bA;have HCA:=hide (Pl.yb1 SO H.length next);by_cases hz2:RT.size=0
  ·have hSO:=za HRZ hz2;subst hSO;have HA:Hid (A=Pl.Ao.ill 6):=hide (by rw [za HAE];rfl);have t2:RT.toList.isEmpty=true:=by rw [Pl.zc0];simpa [Pl.zh0] using hz2
   clear HAE HCQ HNQ HWQ HRZ HCA X4 V4;go_wp2_with fail
   generalize w3.alloc (.cells #[Value.string m.p,Value.int .i64 m.i,Value.bool m.z] 56)=w4 at b5 U4 ⊢;refine (za HIL (6) _).mono ?_;rintro e wI ⟨rfl,bX⟩;have b4:=(b5).trans (bX.mono (b5).size);have U3:=hide ((za U4).call bX);clear bX HIL;obtain ⟨⟨d0,d1,d2,d3,d4,d5,d6⟩,fd0,fd1,fd2,fd3,fd4,fd5,fd6⟩:=jf7 (za U3);go_wp2
   refine bodyPost_ret (v:= .agg #[Value.slice none 0 0,Value.slice none 0 0,Value.slice none 0 0,Value.int .i64 0,Value.int .i64 0,Value.string ⟨#[]⟩,Value.int .i64 6]) (by simp [results,Tryz.results6,go_sem,d0,d1,d2,d3,d4,d5,d6]) rfl ⟨⟨⟨none,0,[],none,0,[],none,0,[],0⟩,by rw [za HA];rfl,⟨Mem.zo9 _ _,Mem.zm9 _ _,Mem.zo4 _ _⟩,by rw [za HA];exact Pl.Fits.nil _⟩,?_⟩
   exact sc7 b4 (by omega)
  have t2:RT.toList.isEmpty=false:=by rw [Pl.zc0];simpa [Pl.zh0] using hz2
  have HWR:=hide (za HWQ hz2);clear HWQ HRZ;obtain ⟨a0,a1,a2,a3⟩:=jc4 (za V4);obtain ⟨x0,x1,x2⟩:=jc3 (za X4);go_wp2_with fail
  generalize w3.alloc (.cells #[Value.string m.p,Value.int .i64 m.i,Value.bool m.z] 56)=w4 at b5 U4 X4 V4 a0 a1 a2 a3 x0 x1 x2 ⊢;generalize w3.heap.size=X at X4 hX x0 x1 x2 ⊢;refine (za HNQ _ b5).mono ?_;rintro e w5 ⟨rfl,bX⟩;have b6:=b5.trans (bX.mono b5.size);have V6:=hide ((za V4).call bX);have U6:=hide ((za U4).call bX);have X6:=hide ((za X4).call bX);clear V4 U4 X4 b5 bX a0 a1 a2 a3 x0 x1 x2 HNQ;obtain ⟨R,hR⟩:∃R:Pl.Nd × Int,R=walkN SO:=⟨_,rfl⟩;have HW2:=hide (za HWR w5 b6 R hR);obtain ⟨n,c⟩:=R;simp only at HW2;clear HWR;go_wp2_with fail
  refine (za HW2).mono ?_;rintro e w7 ⟨rfl,bX⟩;have bA:Below w7.heap.size w7 (w7.alloc (.cells #[Value.string n.path,Value.int .i64 n.kind,Value.string n.data,Value.int .i64 n.time,Value.int .i64 n.mark,Value.int .i64 c] 62)):=bE0;have bb:=bX.trans (bA.mono bX.size);have b8:=b6.trans (bb.mono b6.size);have V8:=hide ((za V6).call bb);have U8:=hide ((za U6).call bb);have X8:=hide ((za X6).call bb);have N8:=hide (Mem.Blk.new w7 #[Value.string n.path,Value.int .i64 n.kind,Value.string n.data,Value.int .i64 n.time,Value.int .i64 n.mark,Value.int .i64 c] 62);clear V6 U6 X6 b6 bX bA bb HW2;go_upto_region 8 with fail
  generalize w7.alloc (.cells #[Value.string n.path,Value.int .i64 n.kind,Value.string n.data,Value.int .i64 n.time,Value.int .i64 n.mark,Value.int .i64 c] 62)=w8 at b8 V8 U8 X8 N8 ⊢;generalize w7.heap.size=Xn at N8 ⊢;obtain ⟨n0,n1,n2,n3,n4,n5⟩:=jc6 (za N8);cases SO with
  |none=>
   obtain ⟨rfl,rfl⟩:n=Pl.za3∧c=6:=by injection hR with h1 h2;exact ⟨h1,h2⟩
   have HA:Hid (A=Pl.Ao.ill 6):=hide (by rw [za HAE];rfl);clear HAE HCQ HCA X8 V8 hR;go_wp2_with fail
   refine (za HIL (6) _).mono ?_;rintro e wI ⟨rfl,bX⟩;have b4:=(b8).trans (bX.mono (b8).size);have U3:=hide ((za U8).call bX);clear bX HIL;obtain ⟨⟨d0,d1,d2,d3,d4,d5,d6⟩,fd0,fd1,fd2,fd3,fd4,fd5,fd6⟩:=jf7 (za U3);go_wp2
   refine bodyPost_ret (v:= .agg #[Value.slice none 0 0,Value.slice none 0 0,Value.slice none 0 0,Value.int .i64 0,Value.int .i64 0,Value.string ⟨#[]⟩,Value.int .i64 6]) (by simp [results,Tryz.results6,go_sem,d0,d1,d2,d3,d4,d5,d6]) rfl ⟨⟨⟨none,0,[],none,0,[],none,0,[],0⟩,by rw [za HA];rfl,⟨Mem.zo9 _ _,Mem.zm9 _ _,Mem.zo4 _ _⟩,by rw [za HA];exact Pl.Fits.nil _⟩,?_⟩
   exact sc7 b4 (by omega)
  |some nn=>
   obtain ⟨rfl,rfl⟩:n=nn∧c=0:=by injection hR with h1 h2;exact ⟨h1,h2⟩
   clear hR;by_cases hk:n.kind=2
   ·by_cases hf:6≤H.length
    ·have HA:Hid (A=Pl.Ao.ill 9):=hide (by
      have h6:H.length=6:=by omega
      rw [za HAE]
      simp [Pl.zi3,hk,h6,Pl.codeO])
     have y1:(6:Int)≤(H.length:Int):=by omega
     obtain ⟨a0,a1,a2,a3⟩:=jc4 (za V8);clear HAE HCQ HCA X8;go_wp2_with fail
     refine (za HIL (9) _).mono ?_;rintro e wI ⟨rfl,bX⟩;have b4:=(b8).trans (bX.mono (b8).size);have U3:=hide ((za U8).call bX);clear bX HIL;obtain ⟨⟨d0,d1,d2,d3,d4,d5,d6⟩,fd0,fd1,fd2,fd3,fd4,fd5,fd6⟩:=jf7 (za U3);go_wp2
     refine bodyPost_ret (v:= .agg #[Value.slice none 0 0,Value.slice none 0 0,Value.slice none 0 0,Value.int .i64 0,Value.int .i64 0,Value.string ⟨#[]⟩,Value.int .i64 9]) (by simp [results,Tryz.results6,go_sem,d0,d1,d2,d3,d4,d5,d6]) rfl ⟨⟨⟨none,0,[],none,0,[],none,0,[],0⟩,by rw [za HA];rfl,⟨Mem.zo9 _ _,Mem.zm9 _ _,Mem.zo4 _ _⟩,by rw [za HA];exact Pl.Fits.nil _⟩,?_⟩
     exact sc7 b4 (by omega)
    ·have y1:¬ (6:Int)≤(H.length:Int):=by omega
     by_cases hn:next =1000000
     ·have HA:Hid (A=Pl.Ao.ill 9):=hide (by
       rw [za HAE]
       simp [Pl.zi3,hk,hn,Pl.codeO])
      have y2:(1000000:Int)≤next :=by omega
      obtain ⟨a0,a1,a2,a3⟩:=jc4 (za V8);clear HAE HCQ HCA X8;go_wp2_with fail
      refine (za HIL (9) _).mono ?_;rintro e wI ⟨rfl,bX⟩;have b4:=(b8).trans (bX.mono (b8).size);have U3:=hide ((za U8).call bX);clear bX HIL;obtain ⟨⟨d0,d1,d2,d3,d4,d5,d6⟩,fd0,fd1,fd2,fd3,fd4,fd5,fd6⟩:=jf7 (za U3);go_wp2
      refine bodyPost_ret (v:= .agg #[Value.slice none 0 0,Value.slice none 0 0,Value.slice none 0 0,Value.int .i64 0,Value.int .i64 0,Value.string ⟨#[]⟩,Value.int .i64 9]) (by simp [results,Tryz.results6,go_sem,d0,d1,d2,d3,d4,d5,d6]) rfl ⟨⟨⟨none,0,[],none,0,[],none,0,[],0⟩,by rw [za HA];rfl,⟨Mem.zo9 _ _,Mem.zm9 _ _,Mem.zo4 _ _⟩,by rw [za HA];exact Pl.Fits.nil _⟩,?_⟩
      exact sc7 b4 (by omega)
     ·have HA:Hid (A=⟨N.map Pl.Ns.r,M,H++[⟨next,m.i,RT⟩],next +1,next,⟨#[]⟩,0⟩):=hide (by
       have h6:¬H.length=6:=by omega
       rw [za HAE]
       simp [Pl.zi3,hk,hn,h6])
      have y2:¬ (1000000:Int)≤next :=by omega
      obtain ⟨a0,a1,a2,a3⟩:=jc4 (za V8);obtain ⟨x0,x1,x2⟩:=jc3 (za X8);clear HAE HCA;go_wp2_with fail
      refine (za HCQ _ b8).mono ?_;rintro e w9 ⟨⟨u,rfl,S1,lo,hi,HTD⟩,bX⟩;have hs8:w.heap.size+1<w8.heap.size:=(za U8).lt;obtain ⟨ui,uc,uN,um,umc,uM,uh,uhc,uH,ux⟩:=u;simp only;have hD:=bX.size;have bA:Below w9.heap.size w9 (w9.alloc (.cells #[Value.slice ui uN.length uc,Value.slice um uM.length umc,Value.slice uh uH.length uhc,Value.int .i64 ux] 32)):=bE0;have bb:=bX.trans (bA.mono bX.size);have b10:=b8.trans (bb.mono b8.size);have V10:=hide ((za V8).call bb);have U10:=hide ((za U8).call bb);have X10:=hide ((za X8).call bb);have S10:=Mem.Blk.new w9 #[Value.slice ui uN.length uc,Value.slice um uM.length umc,Value.slice uh uH.length uhc,Value.int .i64 ux] 32
      have bZ:Below (w9.alloc (.cells #[Value.slice ui uN.length uc,Value.slice um uM.length umc,Value.slice uh uH.length uhc,Value.int .i64 ux] 32)).heap.size (w9.alloc (.cells #[Value.slice ui uN.length uc,Value.slice um uM.length umc,Value.slice uh uH.length uhc,Value.int .i64 ux] 32)) ((w9.alloc (.cells #[Value.slice ui uN.length uc,Value.slice um uM.length umc,Value.slice uh uH.length uhc,Value.int .i64 ux] 32)).alloc (.cells #[Value.int .i64 next,Value.int .i64 m.i,Value.string RT] 67)):=bE0;have hs10:(w9.alloc (.cells #[Value.slice ui uN.length uc,Value.slice um uM.length umc,Value.slice uh uH.length uhc,Value.int .i64 ux] 32)).heap.size=w9.heap.size+1:=by simp
      have hs11:((w9.alloc (.cells #[Value.slice ui uN.length uc,Value.slice um uM.length umc,Value.slice uh uH.length uhc,Value.int .i64 ux] 32)).alloc (.cells #[Value.int .i64 next,Value.int .i64 m.i,Value.string RT] 67)).heap.size=w9.heap.size+2:=by simp
      have b11:=hide (b10.trans (bZ.mono b10.size));have U11:=hide ((za U10).call bZ);have S11:=hide (S10.call bZ);have OH:=hide (Mem.zd7 (Mem.zd7 HTD.oh bA) bZ);have Z4:=Mem.Blk.new (w9.alloc (.cells #[Value.slice ui uN.length uc,Value.slice um uM.length umc,Value.slice uh uH.length uhc,Value.int .i64 ux] 32)) #[Value.int .i64 next,Value.int .i64 m.i,Value.string RT] 67;rw [hs10] at Z4
      have HNW:Hid (∀j u,([Value.int .i64 next,Value.int .i64 m.i,Value.string RT]:List Value)[j]? =some u→((w9.alloc (.cells #[Value.slice ui uN.length uc,Value.slice um uM.length umc,Value.slice uh uH.length uhc,Value.int .i64 ux] 32)).alloc (.cells #[Value.int .i64 next,Value.int .i64 m.i,Value.string RT] 67)).cell? ((⟨w9.heap.size+1,0,none⟩:Addr).add j)=some u):=hide (fun j u hj=>by
       rw [Mem.add_lit,Z4.cell j,List.getElem?_toArray]
       exact hj)
      have V11:=hide ((za V10).call bZ);have KB:=hide (fun b (hb:b<w9.heap.size)=>(bZ.block b (by omega)).trans (bA.block b hb));have huH:uH.length≤6:=by have h:=HTD.h;simp only at h;rw [h];omega
      have OHL:=hide (HTD.hh);obtain ⟨s0,s1,s2,s3⟩:=jc4 S10;obtain ⟨v0,v1,v2,v3⟩:=jc4 (za V10);obtain ⟨t0,t1,t2⟩:=jc3 (za X10);clear HCQ V8 U8 X8 b8 bX bA bb V10 U10 X10 S10 b10 Z4 bZ a0 a1 a2 a3 x0 x1 x2;go_wp2_with (at_builtin;refine stopIn ?_)
      unfold Stopped;refine Mem.ze0 _ rfl _ _ 30 rfl w8.heap.size 67 i0 (.agg #[.int .i64 0, .int .i64 0, .string ⟨#[]⟩]) 3 32 Tryz.underlying30 ji0 jz0 jz1 jz2 rfl (by decide) _ _ _ rfl (za OH) ⟨w9.heap.size+1,0,none⟩ 1 1 [Value.int .i64 next,Value.int .i64 m.i,Value.string RT] rfl rfl (za HNW) (by simp [Value.oneCell']) (by unfold maxLen;omega) (by omega) (by omega) ?_;intro v' w12 own' grow far
      obtain ⟨ta',tc',hv'⟩:∃ta' tc',v'= .slice ta' (uH.length+1) tc':=by
       rcases own'.2 with ⟨-,h0⟩|⟨g,cap,cur,e, -⟩
       ·omega
       ·exact ⟨_,_,e⟩
      subst hv';have lT:∀g,(Value.slice uh uH.length uhc).ownBlock=some g→w8.heap.size≤g∧g<w9.heap.size:=fun g hg=>World.ownsRow.lt HTD.oh g hg;have U12:=hide ((za U11).grown grow (fun e=>by have :=lT _ e.symm;omega));have S12:=(za S11).grown grow (fun e=>by have :=lT _ e.symm;omega);have V12:=(za V11).grown grow (fun e=>by have :=lT _ e.symm;omega);have B12:=hide ((za b11).grown grow (za b11).size (fun g hg=>by have :=lT g hg;omega));have KB2:=hide (fun b (hb:b<w9.heap.size) (hno:(Value.slice uh uH.length uhc).ownBlock≠some b)=>(grow.block b (by omega) (fun e=>hno e.symm)).trans (za KB b hb))
      have O12:Mem.own3 67 Pl.Hn.cs w12 w8.heap.size (.slice ta' (uH.length+1) tc') (uH++[⟨next,m.i,RT⟩]):=by
       unfold Mem.own3;rw [Pl.zt5,Pl.zr9,List.length_append];exact own'
      have HF12:=hide (fun g (hg:(Value.slice ta' (uH.length+1) tc').ownBlock=some g)=>by
       have h:=far g hg;rw [hs11] at h
       exact (h.imp (fun h=>lT g h) id:(w8.heap.size≤g∧g<w9.heap.size)∨w9.heap.size+2≤g))
      have hs12:=grow.size;rw [hs11] at hs12;have O13:=hide (Mem.zb2 (Mem.zb2 O12 ⟨w9.heap.size,2,none⟩ (.slice ta' (uH.length+1) tc') (fun g hg e=>by have e2:w9.heap.size=g:=e;have :=za HF12 g hg;omega)) ⟨w9.heap.size,3,none⟩ (.int .i64 (next +1)) (fun g hg e=>by have e2:w9.heap.size=g:=e;have :=za HF12 g hg;omega));clear own' grow far U11 S11 V11 b11 KB OH HNW O12 s0 s1 s2 s3 v0 v1 v2 v3 t0 t1 t2;have S13:=(S12.put 2 (.slice ta' (uH.length+1) tc')).put 3 (.int .i64 (next +1));have V13:=(V12.far ⟨w9.heap.size,2,none⟩ (.slice ta' (uH.length+1) tc') (by show w.heap.size≠w9.heap.size;omega)).far ⟨w9.heap.size,3,none⟩ (.int .i64 (next +1)) (by show w.heap.size≠w9.heap.size;omega);have U13:=((za U12).far ⟨w9.heap.size,2,none⟩ (.slice ta' (uH.length+1) tc') (by show w.heap.size+1≠w9.heap.size;omega)).far ⟨w9.heap.size,3,none⟩ (.int .i64 (next +1)) (by show w.heap.size+1≠w9.heap.size;omega)
      have B13:=hide (((za B12).setCell (p:=⟨w9.heap.size,2,none⟩) (by show w.heap.size≤w9.heap.size;omega) (.slice ta' (uH.length+1) tc')).setCell (p:=⟨w9.heap.size,3,none⟩) (by show w.heap.size≤w9.heap.size;omega) (.int .i64 (next +1)));have KB3:=hide (fun b (hb:b<w9.heap.size) (hno:(Value.slice uh uH.length uhc).ownBlock≠some b)=>((heap_setCell_other _ ⟨w9.heap.size,3,none⟩ b (.int .i64 (next +1)) (by show b≠w9.heap.size;omega)).trans (heap_setCell_other w12 ⟨w9.heap.size,2,none⟩ b (.slice ta' (uH.length+1) tc') (by show b≠w9.heap.size;omega))).trans (za KB2 b hb hno));simp only [kB3,kB4,kB5] at S13;have l1:next +1<9223372036854775808:=by omega
      have l2: -9223372036854775808≤next +1:=by omega
      obtain ⟨⟨s0,s1,s2,s3⟩,fs0,fs1,fs2,fs3⟩:=jf4 S12;obtain ⟨v0,v1,v2,v3⟩:=jc4 V12;go_upto_region 17 with fail
      clear s0 s1 s2 s3 fs0 fs1 fs2 fs3 v0 v1 v2 v3 S12 V12 U12 B12 KB2;have hs13:w9.heap.size+2≤((w12.setCell ⟨w9.heap.size,2,none⟩ (.slice ta' (uH.length+1) tc')).setCell ⟨w9.heap.size,3,none⟩ (.int .i64 (next +1))).heap.size:=by rw [World.size_setCell,World.size_setCell];exact hs12
      generalize (w12.setCell ⟨w9.heap.size,2,none⟩ (.slice ta' (uH.length+1) tc')).setCell ⟨w9.heap.size,3,none⟩ (.int .i64 (next +1))=w13 at S13 V13 U13 B13 KB3 O13 hs13 ⊢;obtain ⟨s0,s1,s2,s3⟩:=jc4 S13;obtain ⟨v0,v1,v2,v3⟩:=jc4 V13;obtain ⟨⟨d0,d1,d2,d3,d4,d5,d6⟩,fd0,fd1,fd2,fd3,fd4,fd5,fd6⟩:=jf7 U13
      have HSP:=hide (fun (W:World) (hs:w13.heap.size≤W.heap.size) (hk:∀b,b≠w.heap.size+1→W.heap[b]? =w13.heap[b]?)=>fin_space (W:=W) (R:=w.heap.size+1) HTD hs8 (by omega) (fun b hb h1 h2=>(hk b h2).trans (za KB3 b hb h1)) (next +1) (H':=uH++[⟨next,m.i,RT⟩]) (B1:=w8.heap.size) (ha':=ta') (hc':=tc') (by
       refine Mem.ze6 (w:=w13) (by have h:=za O13;unfold Mem.own3 at h;rw [List.length_append] at h ⊢;exact h) (fun g hg=>hk g (fun e=>?_));have hg2:(Value.slice ta' (uH.length+1) tc').ownBlock=some g:=by rw [List.length_append] at hg;exact hg
       have :=za HF12 g hg2
       omega))
      have HFT:=hide (⟨HTD.n,HTD.m,HTD.h,HTD.x⟩:_∧_∧_∧_);clear HTD KB3 O13;have hsl:(uH++[(⟨next,m.i,RT⟩:Pl.Hn)]).length=uH.length+1:=by simp
      go_wp2
      refine bodyPost_ret (v:= .agg #[Value.slice ui uN.length uc,Value.slice um uM.length umc,Value.slice ta' (uH.length+1) tc',Value.int .i64 (next +1),Value.int .i64 next,Value.string ⟨#[]⟩,Value.int .i64 0]) (by simp [results,Tryz.results6,go_sem,d0,d1,d2,d3,d4,d5,d6]) rfl ⟨⟨⟨ui,uc,uN,um,umc,uM,ta',tc',uH++[⟨next,m.i,RT⟩],next +1⟩,by rw [za HA,←hsl];rfl,za HSP _ (by simp) (fun b hb=>?_),by rw [za HA];exact ⟨(za HFT).1,(za HFT).2.1,by show uH++_=H++_;rw [show uH=H from (za HFT).2.2.1],rfl⟩⟩,?_⟩
      ·rw [heap_setCell_other _ _ _ _ hb,heap_setCell_other _ _ _ _ hb,heap_setCell_other _ _ _ _ hb,heap_setCell_other _ _ _ _ hb,heap_setCell_other _ _ _ _ hb,heap_setCell_other _ _ _ _ hb,heap_setCell_other _ _ _ _ hb]
      ·exact sc7 (za B13) (by omega)
   ·have HA:Hid (A=Pl.Ao.ill 11):=hide (by
     rw [za HAE]
     simp [Pl.zi3,hk,Pl.codeO])
    have y1:(n.kind==2)=false:=by simpa using hk
    have y2:decide (n.kind=2)=false:=by simpa using hk
    clear HAE HCQ HCA X8 V8;go_wp2_with fail
    refine (za HIL (11) _).mono ?_;rintro e wI ⟨rfl,bX⟩;have b4:=(b8).trans (bX.mono (b8).size);have U3:=hide ((za U8).call bX);clear bX HIL;obtain ⟨⟨d0,d1,d2,d3,d4,d5,d6⟩,fd0,fd1,fd2,fd3,fd4,fd5,fd6⟩:=jf7 (za U3);go_wp2
    refine bodyPost_ret (v:= .agg #[Value.slice none 0 0,Value.slice none 0 0,Value.slice none 0 0,Value.int .i64 0,Value.int .i64 0,Value.string ⟨#[]⟩,Value.int .i64 11]) (by simp [results,Tryz.results6,go_sem,d0,d1,d2,d3,d4,d5,d6]) rfl ⟨⟨⟨none,0,[],none,0,[],none,0,[],0⟩,by rw [za HA];rfl,⟨Mem.zo9 _ _,Mem.zm9 _ _,Mem.zo4 _ _⟩,by rw [za HA];exact Pl.Fits.nil _⟩,?_⟩
    exact sc7 b4 (by omega)
 ·obtain ⟨c,hbc,hc0,hA⟩:=za HAB h0;have HA:=hide hA;rw [hbc];have z1:¬ (c=0):=hc0;have z2:(c==0)=false:=by simpa using z1
  have z3:decide (c=0)=false:=by simpa using z1
  clear HAG HAB HCP HWH HNE HWK HY hA h0 V1 hbc;go_wp2_with fail
  refine (za HIL (c) _).mono ?_;rintro e wI ⟨rfl,bX⟩;have b4:=(b1).trans (bX.mono (b1).size);have U3:=hide ((za U1).call bX);clear bX HIL;obtain ⟨⟨d0,d1,d2,d3,d4,d5,d6⟩,fd0,fd1,fd2,fd3,fd4,fd5,fd6⟩:=jf7 (za U3);go_wp2
  refine bodyPost_ret (v:= .agg #[Value.slice none 0 0,Value.slice none 0 0,Value.slice none 0 0,Value.int .i64 0,Value.int .i64 0,Value.string ⟨#[]⟩,Value.int .i64 c]) (by simp [results,Tryz.results6,go_sem,d0,d1,d2,d3,d4,d5,d6]) rfl ⟨⟨⟨none,0,[],none,0,[],none,0,[],0⟩,by rw [za HA];rfl,⟨Mem.zo9 _ _,Mem.zm9 _ _,Mem.zo4 _ _⟩,by rw [za HA];exact Pl.Fits.nil _⟩,?_⟩
  exact sc7 b4 (by omega)
end WSp
end Go.Proofs.YtkighhofjmginaaGreatDoor
