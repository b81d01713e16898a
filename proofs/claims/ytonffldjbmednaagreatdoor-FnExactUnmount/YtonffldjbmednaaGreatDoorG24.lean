/- Several texts of one claim in one file: WLawEs, MemIz. -/
import Derived.Test.YtonffldjbmednaaGreatDoorG03
import Derived.Test.YtonffldjbmednaaGreatDoorG05
import Derived.Test.YtonffldjbmednaaGreatDoorG23
import Derived.Test.YtonffldjbmednaaGreatDoorG21
namespace Go.Proofs.YtonffldjbmednaaGreatDoor
section
open Go.RowKit
namespace zb
set_option maxRecDepth 100000 in
set_option maxHeartbeats 800000 in
theorem eqMount_any (x:Pl.Mn) (w:World):
  Calls Tryz.prog 72 #[.agg #[.string x.p, .int .i64 x.i, .bool x.z], .agg #[.string x.p, .int .i64 x.i, .bool x.z]] w fun e w'=>e= .returned (.bool true)∧Below w.heap.size w w':=by
 have b0:∀o1 o2,Below w.heap.size w ((w.alloc o1).alloc o2):=fun o1 o2=>((Below.refl _ _).alloc (Nat.le_refl _) o1).alloc (by simp) o2;have HB:=hide b0;clear b0;go_enter Tryz.func72,Tryz.ntmps72
 go_wp2
 go_ret
 exact ⟨rfl,za HB _ _⟩
set_option maxRecDepth 100000 in
set_option maxHeartbeats 800000 in
theorem eqMountS_any (a b:Option Addr) (c1 c2:Nat) (Ts:List Pl.Mn) (w:World) (hl:Ts.length≤1048576) (hv:Mem.zb2 w a Ts) (hu:Mem.zb2 w b Ts):
  Calls Tryz.prog 36 #[.slice a Ts.length c1, .slice b Ts.length c2] w fun e w'=>e= .returned (.bool true)∧Below w.heap.size w w':=by
 have HV:=hide hv;have HU:=hide hu;clear hv hu;go_enter Tryz.func36,Tryz.ntmps36
 go_wp2
 go_loopw [5] (fun i wr=>∃k:Nat,k≤Ts.length∧i= .int .i64 (k:Int)∧Below w.heap.size w wr) (fun i _=>Ts.length - (intOf i).toNat)
 case atStart=>exact ⟨0,Nat.zero_le _,rfl,Below.refl _ _⟩
 case round=>
  obtain ⟨k,hk,rfl,hbel⟩:=hrel;by_cases hlt:k<Ts.length
  ·obtain ⟨t,ht⟩:∃n,Ts[k]? =some n:=⟨_,List.getElem?_eq_getElem hlt⟩;obtain ⟨g,o,rfl,hg,q0,q1,q2⟩:=(za HV) k t ht;obtain ⟨g2,o2,rfl,hg2,p0,p1,p2⟩:=(za HU) k t ht;have hz:=hide (fun W=>eqMount_any t W);have MK:Hid (∀W',Below w.heap.size w W'→(Below w.heap.size w W'∧W'.cell? ⟨g,o+k*3,none⟩=some (.string t.p)∧W'.cell? ⟨g,o+k*3+1,none⟩=some (.int .i64 t.i)∧W'.cell? ⟨g,o+k*3+2,none⟩=some (.bool t.z)∧W'.cell? ⟨g2,o2+k*3,none⟩=some (.string t.p)∧W'.cell? ⟨g2,o2+k*3+1,none⟩=some (.int .i64 t.i)∧W'.cell? ⟨g2,o2+k*3+2,none⟩=some (.bool t.z))):=fun W' hb'=>⟨hb',(hb'.cell (p:=⟨g,_,none⟩) hg).trans q0,(hb'.cell (p:=⟨g,_,none⟩) hg).trans q1,(hb'.cell (p:=⟨g,_,none⟩) hg).trans q2,(hb'.cell (p:=⟨g2,_,none⟩) hg2).trans p0,(hb'.cell (p:=⟨g2,_,none⟩) hg2).trans p1,(hb'.cell (p:=⟨g2,_,none⟩) hg2).trans p2⟩;have u1:(k:Int)<(Ts.length:Int):=by omega
   have u3:(0:Int)≤(k:Int):=by omega
   have hbd:Below w.heap.size w wr.drew:=⟨hbel.os,hbel.tape,hbel.output,hbel.size,hbel.block⟩;clear q0 q1 q2 p0 p1 p2 ht;go_wp2_with fail
   go_region_held3 (fun W'=>Below w.heap.size w W'∧W'.cell? ⟨g,o+k*3,none⟩=some (.string t.p)∧W'.cell? ⟨g,o+k*3+1,none⟩=some (.int .i64 t.i)∧W'.cell? ⟨g,o+k*3+2,none⟩=some (.bool t.z)∧W'.cell? ⟨g2,o2+k*3,none⟩=some (.string t.p)∧W'.cell? ⟨g2,o2+k*3+1,none⟩=some (.int .i64 t.i)∧W'.cell? ⟨g2,o2+k*3+2,none⟩=some (.bool t.z)) (first |exact za MK _ hbd|exact za MK _ (hbd.trans (bX.mono hbd.size))) (first |(go_at_call 72;refine (za hz _).mono ?_;rintro e wX ⟨rfl,bX⟩))
   have hb2:=hbd.trans (bX.mono hbd.size);clear hbel hbd bX MK;go_wp2
   go_roundw
   case rel=>exact ⟨k+1,by omega,by go_num,hb2⟩
   case measure=>simp [intOf];omega
  ·have u1:¬ (k:Int)<(Ts.length:Int):=by omega
   go_wp2
   go_ret
   exact ⟨rfl,hbel⟩
set_option maxRecDepth 100000 in
set_option maxHeartbeats 800000 in
theorem eqHandle_any (x:Pl.Hn) (w:World):
  Calls Tryz.prog 73 #[.agg #[.int .i64 x.d, .int .i64 x.i, .string x.p], .agg #[.int .i64 x.d, .int .i64 x.i, .string x.p]] w fun e w'=>e= .returned (.bool true)∧Below w.heap.size w w':=by
 have b0:∀o1 o2,Below w.heap.size w ((w.alloc o1).alloc o2):=fun o1 o2=>((Below.refl _ _).alloc (Nat.le_refl _) o1).alloc (by simp) o2;have HB:=hide b0;clear b0;go_enter Tryz.func73,Tryz.ntmps73
 go_wp2
 go_ret
 exact ⟨rfl,za HB _ _⟩
set_option maxRecDepth 100000 in
set_option maxHeartbeats 800000 in
theorem eqHandleS_any (a b:Option Addr) (c1 c2:Nat) (Ts:List Pl.Hn) (w:World) (hl:Ts.length≤1048576) (hv:Mem.zb9 w a Ts) (hu:Mem.zb9 w b Ts):
  Calls Tryz.prog 37 #[.slice a Ts.length c1, .slice b Ts.length c2] w fun e w'=>e= .returned (.bool true)∧Below w.heap.size w w':=by
 have HV:=hide hv;have HU:=hide hu;clear hv hu;go_enter Tryz.func37,Tryz.ntmps37
 go_wp2
 go_loopw [5] (fun i wr=>∃k:Nat,k≤Ts.length∧i= .int .i64 (k:Int)∧Below w.heap.size w wr) (fun i _=>Ts.length - (intOf i).toNat)
 case atStart=>exact ⟨0,Nat.zero_le _,rfl,Below.refl _ _⟩
 case round=>
  obtain ⟨k,hk,rfl,hbel⟩:=hrel;by_cases hlt:k<Ts.length
  ·obtain ⟨t,ht⟩:∃n,Ts[k]? =some n:=⟨_,List.getElem?_eq_getElem hlt⟩;obtain ⟨g,o,rfl,hg,q0,q1,q2⟩:=(za HV) k t ht;obtain ⟨g2,o2,rfl,hg2,p0,p1,p2⟩:=(za HU) k t ht;have hz:=hide (fun W=>eqHandle_any t W);have MK:Hid (∀W',Below w.heap.size w W'→(Below w.heap.size w W'∧W'.cell? ⟨g,o+k*3,none⟩=some (.int .i64 t.d)∧W'.cell? ⟨g,o+k*3+1,none⟩=some (.int .i64 t.i)∧W'.cell? ⟨g,o+k*3+2,none⟩=some (.string t.p)∧W'.cell? ⟨g2,o2+k*3,none⟩=some (.int .i64 t.d)∧W'.cell? ⟨g2,o2+k*3+1,none⟩=some (.int .i64 t.i)∧W'.cell? ⟨g2,o2+k*3+2,none⟩=some (.string t.p))):=fun W' hb'=>⟨hb',(hb'.cell (p:=⟨g,_,none⟩) hg).trans q0,(hb'.cell (p:=⟨g,_,none⟩) hg).trans q1,(hb'.cell (p:=⟨g,_,none⟩) hg).trans q2,(hb'.cell (p:=⟨g2,_,none⟩) hg2).trans p0,(hb'.cell (p:=⟨g2,_,none⟩) hg2).trans p1,(hb'.cell (p:=⟨g2,_,none⟩) hg2).trans p2⟩;have u1:(k:Int)<(Ts.length:Int):=by omega
   have u3:(0:Int)≤(k:Int):=by omega
   have hbd:Below w.heap.size w wr.drew:=⟨hbel.os,hbel.tape,hbel.output,hbel.size,hbel.block⟩;clear q0 q1 q2 p0 p1 p2 ht;go_wp2_with fail
   go_region_held3 (fun W'=>Below w.heap.size w W'∧W'.cell? ⟨g,o+k*3,none⟩=some (.int .i64 t.d)∧W'.cell? ⟨g,o+k*3+1,none⟩=some (.int .i64 t.i)∧W'.cell? ⟨g,o+k*3+2,none⟩=some (.string t.p)∧W'.cell? ⟨g2,o2+k*3,none⟩=some (.int .i64 t.d)∧W'.cell? ⟨g2,o2+k*3+1,none⟩=some (.int .i64 t.i)∧W'.cell? ⟨g2,o2+k*3+2,none⟩=some (.string t.p)) (first |exact za MK _ hbd|exact za MK _ (hbd.trans (bX.mono hbd.size))) (first |(go_at_call 73;refine (za hz _).mono ?_;rintro e wX ⟨rfl,bX⟩))
   have hb2:=hbd.trans (bX.mono hbd.size);clear hbel hbd bX MK;go_wp2
   go_roundw
   case rel=>exact ⟨k+1,by omega,by go_num,hb2⟩
   case measure=>simp [intOf];omega
  ·have u1:¬ (k:Int)<(Ts.length:Int):=by omega
   go_wp2
   go_ret
   exact ⟨rfl,hbel⟩
set_option maxRecDepth 100000 in
set_option maxHeartbeats 800000 in
theorem yc7 (d:Int) (a b:Option Addr) (c1 c2:Nat) (Ts Us:List Pl.It) (w:World) (hl:Ts.length≤1048576) (hm:Us.map Pl.It.r=Ts.map Pl.It.r) (hv:Mem.zb0 w a Ts) (hu:Mem.zb0 w b Us) (hok:∀t∈Ts,t.t.L.length≤1048576):
  Calls Tryz.prog 71 #[.agg #[.int .i64 d, .slice a Ts.length c1], .agg #[.int .i64 d, .slice b Ts.length c2]] w fun e w'=>e= .returned (.bool true)∧Below w.heap.size w w':=by
 have b0:∀o1 o2,Below w.heap.size w ((w.alloc o1).alloc o2):=fun o1 o2=>((Below.refl _ _).alloc (Nat.le_refl _) o1).alloc (by simp) o2;have HB:=hide b0;have HZ:=hide (fun W (b':Below w.heap.size w W)=>WLaw.eqItemS_any a b c1 c2 Ts Us W hl hm (Mem.zc2 hv b') (Mem.zc2 hu b') hok);clear hv hu b0 hok hm;go_enter Tryz.func71,Tryz.ntmps71
 go_wp2_with fail
 refine (za HZ _ (za HB _ _)).mono ?_;rintro e w1 ⟨rfl,b1⟩;have bb:=(za HB _ _).trans (b1.mono (za HB _ _).size);clear HZ b1;go_wp2
 go_ret
 exact ⟨rfl,bb⟩
set_option maxRecDepth 100000 in
set_option maxHeartbeats 800000 in
theorem yb5 (a b:Option Addr) (c1 c2:Nat) (Ts Us:List Pl.Ns) (w:World) (hl:Ts.length≤1048576) (hm:Us.map Pl.Ns.r=Ts.map Pl.Ns.r) (hv:Mem.ze4 w a Ts) (hu:Mem.ze4 w b Us) (hok:∀x∈Ts,x.Is.length≤1048576∧∀t∈x.Is,t.t.L.length≤1048576):
  Calls Tryz.prog 35 #[.slice a Ts.length c1, .slice b Ts.length c2] w fun e w'=>e= .returned (.bool true)∧Below w.heap.size w w':=by
 have HV:=hide hv;have HU:=hide hu;have HO:=hide hok;have HM:=hide hm;clear hv hu hok hm;go_enter Tryz.func35,Tryz.ntmps35
 go_wp2
 go_loopw [5] (fun i wr=>∃k:Nat,k≤Ts.length∧i= .int .i64 (k:Int)∧Below w.heap.size w wr) (fun i _=>Ts.length - (intOf i).toNat)
 case atStart=>exact ⟨0,Nat.zero_le _,rfl,Below.refl _ _⟩
 case round=>
  obtain ⟨k,hk,rfl,hbel⟩:=hrel;by_cases hlt:k<Ts.length
  ·obtain ⟨t,ht⟩:∃n,Ts[k]? =some n:=⟨_,List.getElem?_eq_getElem hlt⟩
   obtain ⟨u,hu,hum,hul⟩:∃u,Us[k]? =some u∧u.d=t.d∧u.Is.map Pl.It.r=t.Is.map Pl.It.r:=by
    have h:=congrArg (fun l=>l[k]?) (za HM);simp only [List.getElem?_map,ht,Option.map_some] at h;cases hu:Us[k]? with
    |none=>rw [hu] at h;simp at h
    |some u=>
     rw [hu] at h;have h':=Option.some.inj h;exact ⟨u,rfl,congrArg Prod.fst h',congrArg Prod.snd h'⟩
   have hll:u.Is.length=t.Is.length:=by have h:=congrArg List.length hul;simpa using h
   obtain ⟨⟨g,o,rfl,hg,q0,q0'⟩,q1⟩:=(za HV) k t ht;obtain ⟨⟨g2,o2,rfl,hg2,p0,p0'⟩,p1⟩:=(za HU) k u hu;rw [hum] at p0;rw [hll] at p0';have hz:=hide (fun W (b:Below w.heap.size w W)=>yc7 t.d t.a u.a t.cap u.cap t.Is u.Is W (za HO t (List.mem_of_getElem? ht)).1 hul (Mem.zc2 q1 b) (Mem.zc2 p1 b) (za HO t (List.mem_of_getElem? ht)).2);have MK:Hid (∀W',Below w.heap.size w W'→(Below w.heap.size w W'∧W'.cell? ⟨g,o+k*2,none⟩=some (.int .i64 t.d)∧W'.cell? ⟨g,o+k*2+1,none⟩=some (.slice t.a t.Is.length t.cap)∧W'.cell? ⟨g2,o2+k*2,none⟩=some (.int .i64 t.d)∧W'.cell? ⟨g2,o2+k*2+1,none⟩=some (.slice u.a t.Is.length u.cap))):=fun W' hb'=>⟨hb',(hb'.cell (p:=⟨g,_,none⟩) hg).trans q0,(hb'.cell (p:=⟨g,_,none⟩) hg).trans q0',(hb'.cell (p:=⟨g2,_,none⟩) hg2).trans p0,(hb'.cell (p:=⟨g2,_,none⟩) hg2).trans p0'⟩;have u1:(k:Int)<(Ts.length:Int):=by omega
   have u3:(0:Int)≤(k:Int):=by omega
   have hbd:Below w.heap.size w wr.drew:=⟨hbel.os,hbel.tape,hbel.output,hbel.size,hbel.block⟩;clear q0 p0 q0' p0' ht hu hul hum q1 p1 hll;go_wp2_with fail
   go_region_held3 (fun W'=>Below w.heap.size w W'∧W'.cell? ⟨g,o+k*2,none⟩=some (.int .i64 t.d)∧W'.cell? ⟨g,o+k*2+1,none⟩=some (.slice t.a t.Is.length t.cap)∧W'.cell? ⟨g2,o2+k*2,none⟩=some (.int .i64 t.d)∧W'.cell? ⟨g2,o2+k*2+1,none⟩=some (.slice u.a t.Is.length u.cap)) (first |exact za MK _ hbd|exact za MK _ (hbd.trans (bX.mono hbd.size))) (first |(go_at_call 71;refine (za hz _ hbd).mono ?_;rintro e wX ⟨rfl,bX⟩))
   have hb2:=hbd.trans (bX.mono hbd.size);clear hbel hbd bX MK;go_wp2
   go_roundw
   case rel=>exact ⟨k+1,by omega,by go_num,hb2⟩
   case measure=>simp [intOf];omega
  ·have u1:¬ (k:Int)<(Ts.length:Int):=by omega
   go_wp2
   go_ret
   exact ⟨rfl,hbel⟩
set_option linter.unusedSimpArgs false in
set_option maxRecDepth 100000 in
set_option maxHeartbeats 800000 in
theorem zy6 (s u:Pl.Sp) (w:World) (hs:OkS s 1048576) (hn:u.N.map Pl.Ns.r=s.N.map Pl.Ns.r) (hm:u.M=s.M) (hh:u.H=s.H) (hx:u.next=s.next) (hv:Mem.zc3 w s) (hu:Mem.zc3 w u):
  Calls Tryz.prog 12 #[.agg s.cs, .agg u.cs] w fun e w'=>e= .returned (.bool true)∧Below w.heap.size w w':=by
 have hnl:u.N.length=s.N.length:=by have h:=congrArg List.length hn;simpa using h
 unfold Pl.Sp.cs;rw [hnl,hm,hh,hx];have bb0:Below w.heap.size w ((w.alloc (.cells #[.slice s.ia s.N.length s.ic, .slice s.ma s.M.length s.mc, .slice s.ha s.H.length s.hc, .int .i64 s.next] 32)).alloc (.cells #[.slice u.ia s.N.length u.ic, .slice u.ma s.M.length u.mc, .slice u.ha s.H.length u.hc, .int .i64 s.next] 32)):=((Below.refl _ _).alloc (Nat.le_refl _) _).alloc (by simp) _;have P0:=hide ((Mem.Blk.new w #[.slice s.ia s.N.length s.ic, .slice s.ma s.M.length s.mc, .slice s.ha s.H.length s.hc, .int .i64 s.next] 32).alloc (.cells #[.slice u.ia s.N.length u.ic, .slice u.ma s.M.length u.mc, .slice u.ha s.H.length u.hc, .int .i64 s.next] 32))
 have Q0:Hid (Mem.Blk ((w.alloc (.cells #[.slice s.ia s.N.length s.ic, .slice s.ma s.M.length s.mc, .slice s.ha s.H.length s.hc, .int .i64 s.next] 32)).alloc (.cells #[.slice u.ia s.N.length u.ic, .slice u.ma s.M.length u.mc, .slice u.ha s.H.length u.hc, .int .i64 s.next] 32)) (w.heap.size+1) #[.slice u.ia s.N.length u.ic, .slice u.ma s.M.length u.mc, .slice u.ha s.H.length u.hc, .int .i64 s.next] 32):=Mem.zl8 _ _ _;have h1:=hide (fun W (b:Below w.heap.size w W)=>yb5 s.ia u.ia s.ic u.ic s.N u.N W hs.n hn (Mem.zf1 hv.zf9 b) (Mem.zf1 hu.zf9 b) (fun x hx=>⟨(hs.each x hx).1,fun t ht=>((hs.each x hx).2 t ht).1⟩));have h2:=hide (fun W (b:Below w.heap.size w W)=>eqMountS_any s.ma u.ma s.mc u.mc s.M W hs.m (Mem.zc7 hv.zh b) (by have :=Mem.zc7 hu.zh b;rw [hm] at this;exact this))
 have h3:=hide (fun W (b:Below w.heap.size w W)=>eqHandleS_any s.ha u.ha s.hc u.hc s.H W hs.h (Mem.zc6 hv.hands b) (by have :=Mem.zc6 hu.hands b;rw [hh] at this;exact this));clear hv hu hs hn hm hh hx hnl;have x0:=(za P0).cell 0;have y0:=(za Q0).cell 0;simp only [kGs] at x0 y0;go_enter Tryz.func12,Tryz.ntmps12
 go_wp2_with fail
 refine (za h1 _ bb0).mono ?_;rintro e w1 ⟨rfl,b1⟩;have bb1:=bb0.trans (b1.mono bb0.size);have P1:=hide ((za P0).call b1);have Q1:=hide ((za Q0).call b1);clear b1;clear x0 y0 P0 Q0 h1;have x1:=(za P1).cell 1;have y1:=(za Q1).cell 1;simp only [kGs] at x1 y1;go_wp2_with fail
 refine (za h2 _ bb1).mono ?_;rintro e w2 ⟨rfl,b2⟩;have bb2:=bb1.trans (b2.mono bb1.size);have P2:=hide ((za P1).call b2);have Q2:=hide ((za Q1).call b2);clear b2;clear x1 y1 P1 Q1 h2;have x2:=(za P2).cell 2;have y2:=(za Q2).cell 2;simp only [kGs] at x2 y2;go_wp2_with fail
 refine (za h3 _ bb2).mono ?_;rintro e w3 ⟨rfl,b3⟩;have bb3:=bb2.trans (b3.mono bb2.size);have P3:=hide ((za P2).call b3);have Q3:=hide ((za Q2).call b3);clear b3;clear x2 y2 P2 Q2 h3;have x3:=(za P3).cell 3;have y3:=(za Q3).cell 3;simp only [kGs] at x3 y3;go_wp2
 go_ret
 exact ⟨rfl,bb3⟩
end zb
end
section
open Go.RowKit
namespace Pl
def zd5 (L:List Ns):List Value:=L.flatMap (fun x=>[Value.int .i64 x.d, .slice x.a x.Is.length x.cap])
theorem ya9 (A B:List Ns):zd5 (A++B)=zd5 A++zd5 B:=by simp [zd5]
theorem zk5:∀ (L:List Ns) (i:Nat) (x:Ns),L[i]? =some x→(zd5 L)[i*2]? =some (.int .i64 x.d)∧(zd5 L)[i*2+1]? =some (.slice x.a x.Is.length x.cap):=by
 intro L
 induction L with
 |nil=>intro i x h;cases h
 |cons y L ih=>
  intro i x h;have e:zd5 (y::L)=Value.int .i64 y.d:: .slice y.a y.Is.length y.cap::zd5 L:=rfl;cases i with
  |zero=>simp at h;subst h;rw [e];exact ⟨rfl,rfl⟩
  |succ i=>
   obtain ⟨h1,h2⟩:=ih i x (by simpa using h);rw [e,show (i+1)*2=i*2+1+1 by omega];exact ⟨by simpa using h1,by simpa using h2⟩
def upd (f:Nat→Nat) (n x:Nat):Nat→Nat:=fun j=>if j=n then x else f j
theorem upd_at (f:Nat→Nat) (n x:Nat):upd f n x n=x:=by simp [upd]
theorem upd_off (f:Nat→Nat) {n j:Nat} (x:Nat) (h:j≠n):upd f n x j=f j:=by simp [upd,h]
end Pl
namespace Mem
theorem zc9 {w w':World} {B e size n:Nat} {v:Value} {xs:List Value} (h:w.ownsRow B e size v n xs) (hb:∀g,v.ownBlock=some g→w'.heap[g]? =w.heap[g]?):w'.ownsRow B e size v n xs:=by
 refine ⟨h.1,?_⟩
 rcases h.2 with h0|⟨g,cap,cur,rfl,hb',hh,rest⟩
 ·exact .inl h0
 ·exact .inr ⟨g,cap,cur,rfl,hb',(hb g rfl).trans hh,rest⟩
structure Ib (W:World) (L H:Nat) (v:Value) (Is:List Pl.It):Prop where
 io:Io W L v Is
 h1:∀g,v.ownBlock=some g→g<H
 h2:∀ (i:Nat) x,Is[i]? =some x→∀g,x.t.val.ownBlock=some g→g<H
theorem Ib.of {W:World} {L:Nat} {v:Value} {Is:List Pl.It} (h:Io W L v Is):Ib W L W.heap.size v Is:=⟨h,fun g hg=>(h.lt.1 g hg).2,fun i x hx g hg=>(h.lt.2 i x hx g hg).2⟩
theorem Ib.same {W W':World} {L H:Nat} {v:Value} {Is:List Pl.It} (h:Ib W L H v Is) (hb:∀b,L≤b→b<H→W'.heap[b]? =W.heap[b]?):Ib W' L H v Is:=
 ⟨⟨zc9 h.io.row (fun g hg=>hb g (h.io.lt.1 g hg).1 (h.h1 g hg)),fun i x hx=>⟨zc9 (h.io.each i x hx).1 (fun g hg=>hb g (h.io.lt.2 i x hx g hg).1 (h.h2 i x hx g hg)),(h.io.each i x hx).2⟩,h.io.apart⟩,h.h1,h.h2⟩
theorem Ib.call {W W':World} {L H:Nat} {v:Value} {Is:List Pl.It} (h:Ib W L H v Is) (b:Below W.heap.size W W'):Ib W' L H v Is:=⟨h.io.call b,h.h1,h.h2⟩
structure Iz (W:World) (S:Nat) (v:Value) (Ns:List Pl.Ns) (lo hi:Nat→Nat):Prop where
 row:W.ownsRow S 103 2 v Ns.length (Pl.zd5 Ns)
 each:∀ (j:Nat) x,Ns[j]? =some x→Ib W (lo j) (hi j) (.slice x.a x.Is.length x.cap) x.Is∧S≤lo j∧lo j≤hi j∧hi j≤W.heap.size∧∀g,v.ownBlock=some g→g<lo j∨hi j≤g
 rise:∀i j,i<j→j<Ns.length→hi i≤lo j
theorem Iz.nil (W:World) (S:Nat) (lo hi:Nat→Nat):Iz W S (.slice none 0 0) [] lo hi:=⟨⟨rfl, .inl ⟨rfl,rfl⟩⟩,fun j x h=>(by cases h),fun i j _ h=>absurd h (by simp)⟩
theorem Iz.call {W W':World} {S:Nat} {v:Value} {Ns:List Pl.Ns} {lo hi:Nat→Nat} (h:Iz W S v Ns lo hi) (b:Below W.heap.size W W'):Iz W' S v Ns lo hi:=
 ⟨ze8 h.row b,fun j x hx=>⟨(h.each j x hx).1.call b,(h.each j x hx).2.1,(h.each j x hx).2.2.1,Nat.le_trans (h.each j x hx).2.2.2.1 b.size,(h.each j x hx).2.2.2.2⟩,h.rise⟩
theorem Iz.far {W:World} {S Y:Nat} {v:Value} {Ns:List Pl.Ns} {lo hi:Nat→Nat} (h:Iz W S v Ns lo hi) (k:Nat) (u:Value) (hY:Y<S):Iz (W.setCell ⟨Y,k,none⟩ u) S v Ns lo hi:=
 ⟨zc9 h.row (fun g hg=>heap_setCell_other _ _ _ _ (by have :=(World.ownsRow.lt h.row g hg).1;show g≠Y;omega)),fun j x hx=>⟨(h.each j x hx).1.same (fun b h1 _=>heap_setCell_other _ _ _ _ (by have :=(h.each j x hx).2.1;show b≠Y;omega)),(h.each j x hx).2.1,(h.each j x hx).2.2.1,by rw [World.size_setCell];exact (h.each j x hx).2.2.2.1,(h.each j x hx).2.2.2.2⟩,h.rise⟩
theorem Iz.app {W W':World} {S L H:Nat} {v v':Value} {Ns:List Pl.Ns} {lo hi:Nat→Nat} {x:Pl.Ns} (h:Iz W S v Ns lo hi) (hx:Ib W L H (.slice x.a x.Is.length x.cap) x.Is) (hS:S≤L) (hLH:L≤H) (hp:∀j,j<Ns.length→hi j≤L) (hv:∀g,v.ownBlock=some g→g<L) (hH:H≤W.heap.size)
  (own:W'.ownsRow S 103 2 v' (Ns.length+1) (Pl.zd5 Ns++Pl.zd5 [x])) (gr:W.grownBy W' v.ownBlock) (far:∀g,v'.ownBlock=some g→v.ownBlock=some g∨W.heap.size≤g):Iz W' S v' (Ns++[x]) (Pl.upd lo Ns.length L) (Pl.upd hi Ns.length H):=by
 refine ⟨by rw [List.length_append,List.length_singleton,Pl.ya9];exact own,fun j y hj=>?_,fun i j hij hj=>?_⟩
 ·by_cases e:j<Ns.length
  ·rw [List.getElem?_append_left e] at hj;obtain ⟨h1,h2,h3,h4,h5⟩:=h.each j y hj;rw [Pl.upd_off lo L (by omega),Pl.upd_off hi H (by omega)];refine ⟨h1.same (fun b hb1 hb2=>gr.block b (by omega) (fun e2=>?_)),h2,h3,Nat.le_trans h4 gr.size,fun g hg=>?_⟩
   ·rcases h5 b e2.symm with h6|h6 <;> omega
   ·rcases far g hg with h6|h6
    ·exact h5 g h6
    ·exact .inr (by omega)
  ·rw [List.getElem?_append_right (by omega)] at hj
   have hj0:j=Ns.length:=by
    have :=(List.getElem?_eq_some_iff.1 hj).1;simp at this;omega
   subst hj0;simp at hj
   subst hj;rw [Pl.upd_at,Pl.upd_at];refine ⟨hx.same (fun b hb1 hb2=>gr.block b (by omega) (fun e2=>?_)),hS,hLH,Nat.le_trans hH gr.size,fun g hg=>?_⟩
   ·have :=hv b e2.symm;omega
   ·rcases far g hg with h6|h6
    ·exact .inl (hv g h6)
    ·exact .inr (by omega)
 ·rw [List.length_append,List.length_singleton] at hj;rw [Pl.upd_off hi H (by omega)];by_cases e:j=Ns.length
  ·subst e;rw [Pl.upd_at];exact hp i (by omega)
  ·rw [Pl.upd_off lo L e];exact h.rise i j hij (by omega)
theorem Iz.zf9 {W:World} {S n cap:Nat} {a:Option Addr} {Ns:List Pl.Ns} {lo hi:Nat→Nat} (h:Iz W S (.slice a n cap) Ns lo hi):n=Ns.length∧ze4 W a Ns:=by
 rcases h.row.2 with ⟨e,h0⟩|⟨g,c,cur,e,hb,hg,rest⟩
 ·cases e
  have :Ns=[]:=List.eq_nil_of_length_eq_zero h0;subst this;exact ⟨rfl,zr8 _ _⟩
 ·cases e
  refine ⟨rfl,fun i x hx=>⟨⟨g,0,rfl,(Array.getElem?_eq_some_iff.1 hg).1,?_,?_⟩,(h.each i x hx).1.io.items.2⟩⟩
  ·have :=World.ownsRow.cells h.row (g:=g) rfl (i*2) _ (Pl.zk5 Ns i x hx).1;rw [add_lit] at this;rw [Nat.zero_add];exact this
  ·have :=World.ownsRow.cells h.row (g:=g) rfl (i*2+1) _ (Pl.zk5 Ns i x hx).2;rw [add_lit] at this;rw [Nat.zero_add];exact this
end Mem
end
end Go.Proofs.YtonffldjbmednaaGreatDoor
