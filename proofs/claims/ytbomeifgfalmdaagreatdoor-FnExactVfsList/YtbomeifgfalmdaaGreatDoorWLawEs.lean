import Derived.Test.YtbomeifgfalmdaaGreatDoorG04
namespace Go.Proofs.YtbomeifgfalmdaaGreatDoor
open Go.RowKit
namespace zb0
set_option maxRecDepth 100000 in
set_option maxHeartbeats 800000 in
theorem eqMount_any (x:Pl.Mn) (w:World):
  Calls Tryz.prog 62 #[.agg #[.string x.p, .int .i64 x.i, .bool x.z], .agg #[.string x.p, .int .i64 x.i, .bool x.z]] w fun e w'=>e= .returned (.bool true)∧Below w.heap.size w w':=by
 have b0:∀o1 o2,Below w.heap.size w ((w.alloc o1).alloc o2):=fun o1 o2=>((Below.refl _ _).alloc (Nat.le_refl _) o1).alloc (by simp) o2;have HB:=hide b0;clear b0;go_enter Tryz.func62,Tryz.ntmps62
 go_wp2
 go_ret
 exact ⟨rfl,za HB _ _⟩
set_option maxRecDepth 100000 in
set_option maxHeartbeats 800000 in
theorem eqMountS_any (a b:Option Addr) (c1 c2:Nat) (Ts:List Pl.Mn) (w:World) (hl:Ts.length≤1048576) (hv:Mem.zc6 w a Ts) (hu:Mem.zc6 w b Ts):
  Calls Tryz.prog 30 #[.slice a Ts.length c1, .slice b Ts.length c2] w fun e w'=>e= .returned (.bool true)∧Below w.heap.size w w':=by
 have HV:=hide hv;have HU:=hide hu;clear hv hu;go_enter Tryz.func30,Tryz.ntmps30
 go_wp2
 go_loopw [5] (fun i wr=>∃k:Nat,k≤Ts.length∧i= .int .i64 (k:Int)∧Below w.heap.size w wr) (fun i _=>Ts.length - (intOf i).toNat)
 case atStart=>exact ⟨0,Nat.zero_le _,rfl,Below.refl _ _⟩
 case round=>
  obtain ⟨k,hk,rfl,hbel⟩:=hrel;by_cases hlt:k<Ts.length
  ·obtain ⟨t,ht⟩:∃n,Ts[k]? =some n:=⟨_,List.getElem?_eq_getElem hlt⟩;obtain ⟨g,o,rfl,hg,q0,q1,q2⟩:=(za HV) k t ht;obtain ⟨g2,o2,rfl,hg2,p0,p1,p2⟩:=(za HU) k t ht;have hz:=hide (fun W=>eqMount_any t W);have MK:Hid (∀W',Below w.heap.size w W'→(Below w.heap.size w W'∧W'.cell? ⟨g,o+k*3,none⟩=some (.string t.p)∧W'.cell? ⟨g,o+k*3+1,none⟩=some (.int .i64 t.i)∧W'.cell? ⟨g,o+k*3+2,none⟩=some (.bool t.z)∧W'.cell? ⟨g2,o2+k*3,none⟩=some (.string t.p)∧W'.cell? ⟨g2,o2+k*3+1,none⟩=some (.int .i64 t.i)∧W'.cell? ⟨g2,o2+k*3+2,none⟩=some (.bool t.z))):=fun W' hb'=>⟨hb',(hb'.cell (p:=⟨g,_,none⟩) hg).trans q0,(hb'.cell (p:=⟨g,_,none⟩) hg).trans q1,(hb'.cell (p:=⟨g,_,none⟩) hg).trans q2,(hb'.cell (p:=⟨g2,_,none⟩) hg2).trans p0,(hb'.cell (p:=⟨g2,_,none⟩) hg2).trans p1,(hb'.cell (p:=⟨g2,_,none⟩) hg2).trans p2⟩;have u1:(k:Int)<(Ts.length:Int):=by omega
   have u3:(0:Int)≤(k:Int):=by omega
   have hbd:Below w.heap.size w wr.drew:=⟨hbel.os,hbel.tape,hbel.output,hbel.size,hbel.block⟩;clear q0 q1 q2 p0 p1 p2 ht;go_wp2_with fail
   go_region_held3 (fun W'=>Below w.heap.size w W'∧W'.cell? ⟨g,o+k*3,none⟩=some (.string t.p)∧W'.cell? ⟨g,o+k*3+1,none⟩=some (.int .i64 t.i)∧W'.cell? ⟨g,o+k*3+2,none⟩=some (.bool t.z)∧W'.cell? ⟨g2,o2+k*3,none⟩=some (.string t.p)∧W'.cell? ⟨g2,o2+k*3+1,none⟩=some (.int .i64 t.i)∧W'.cell? ⟨g2,o2+k*3+2,none⟩=some (.bool t.z)) (first |exact za MK _ hbd|exact za MK _ (hbd.trans (bX.mono hbd.size))) (first |(go_at_call 62;refine (za hz _).mono ?_;rintro e wX ⟨rfl,bX⟩))
   have hb2:=hbd.trans (bX.mono hbd.size);clear hbel hbd bX MK;go_wp2
   go_roundw
   case rel=>exact ⟨k+1,by omega,by go_num,hb2⟩
   case measure=>simp [intOf];omega
  ·have u1:¬ (k:Int)<(Ts.length:Int):=by omega
   go_wp2
   go_ret
   exact ⟨rfl,hbel⟩
set_option maxRecDepth 100000 in
set_option maxHeartbeats 800000 in
theorem eqHandle_any (x:Pl.Hn) (w:World):
  Calls Tryz.prog 63 #[.agg #[.int .i64 x.d, .int .i64 x.i, .string x.p], .agg #[.int .i64 x.d, .int .i64 x.i, .string x.p]] w fun e w'=>e= .returned (.bool true)∧Below w.heap.size w w':=by
 have b0:∀o1 o2,Below w.heap.size w ((w.alloc o1).alloc o2):=fun o1 o2=>((Below.refl _ _).alloc (Nat.le_refl _) o1).alloc (by simp) o2;have HB:=hide b0;clear b0;go_enter Tryz.func63,Tryz.ntmps63
 go_wp2
 go_ret
 exact ⟨rfl,za HB _ _⟩
set_option maxRecDepth 100000 in
set_option maxHeartbeats 800000 in
theorem eqHandleS_any (a b:Option Addr) (c1 c2:Nat) (Ts:List Pl.Hn) (w:World) (hl:Ts.length≤1048576) (hv:Mem.ze2 w a Ts) (hu:Mem.ze2 w b Ts):
  Calls Tryz.prog 31 #[.slice a Ts.length c1, .slice b Ts.length c2] w fun e w'=>e= .returned (.bool true)∧Below w.heap.size w w':=by
 have HV:=hide hv;have HU:=hide hu;clear hv hu;go_enter Tryz.func31,Tryz.ntmps31
 go_wp2
 go_loopw [5] (fun i wr=>∃k:Nat,k≤Ts.length∧i= .int .i64 (k:Int)∧Below w.heap.size w wr) (fun i _=>Ts.length - (intOf i).toNat)
 case atStart=>exact ⟨0,Nat.zero_le _,rfl,Below.refl _ _⟩
 case round=>
  obtain ⟨k,hk,rfl,hbel⟩:=hrel;by_cases hlt:k<Ts.length
  ·obtain ⟨t,ht⟩:∃n,Ts[k]? =some n:=⟨_,List.getElem?_eq_getElem hlt⟩;obtain ⟨g,o,rfl,hg,q0,q1,q2⟩:=(za HV) k t ht;obtain ⟨g2,o2,rfl,hg2,p0,p1,p2⟩:=(za HU) k t ht;have hz:=hide (fun W=>eqHandle_any t W);have MK:Hid (∀W',Below w.heap.size w W'→(Below w.heap.size w W'∧W'.cell? ⟨g,o+k*3,none⟩=some (.int .i64 t.d)∧W'.cell? ⟨g,o+k*3+1,none⟩=some (.int .i64 t.i)∧W'.cell? ⟨g,o+k*3+2,none⟩=some (.string t.p)∧W'.cell? ⟨g2,o2+k*3,none⟩=some (.int .i64 t.d)∧W'.cell? ⟨g2,o2+k*3+1,none⟩=some (.int .i64 t.i)∧W'.cell? ⟨g2,o2+k*3+2,none⟩=some (.string t.p))):=fun W' hb'=>⟨hb',(hb'.cell (p:=⟨g,_,none⟩) hg).trans q0,(hb'.cell (p:=⟨g,_,none⟩) hg).trans q1,(hb'.cell (p:=⟨g,_,none⟩) hg).trans q2,(hb'.cell (p:=⟨g2,_,none⟩) hg2).trans p0,(hb'.cell (p:=⟨g2,_,none⟩) hg2).trans p1,(hb'.cell (p:=⟨g2,_,none⟩) hg2).trans p2⟩;have u1:(k:Int)<(Ts.length:Int):=by omega
   have u3:(0:Int)≤(k:Int):=by omega
   have hbd:Below w.heap.size w wr.drew:=⟨hbel.os,hbel.tape,hbel.output,hbel.size,hbel.block⟩;clear q0 q1 q2 p0 p1 p2 ht;go_wp2_with fail
   go_region_held3 (fun W'=>Below w.heap.size w W'∧W'.cell? ⟨g,o+k*3,none⟩=some (.int .i64 t.d)∧W'.cell? ⟨g,o+k*3+1,none⟩=some (.int .i64 t.i)∧W'.cell? ⟨g,o+k*3+2,none⟩=some (.string t.p)∧W'.cell? ⟨g2,o2+k*3,none⟩=some (.int .i64 t.d)∧W'.cell? ⟨g2,o2+k*3+1,none⟩=some (.int .i64 t.i)∧W'.cell? ⟨g2,o2+k*3+2,none⟩=some (.string t.p)) (first |exact za MK _ hbd|exact za MK _ (hbd.trans (bX.mono hbd.size))) (first |(go_at_call 63;refine (za hz _).mono ?_;rintro e wX ⟨rfl,bX⟩))
   have hb2:=hbd.trans (bX.mono hbd.size);clear hbel hbd bX MK;go_wp2
   go_roundw
   case rel=>exact ⟨k+1,by omega,by go_num,hb2⟩
   case measure=>simp [intOf];omega
  ·have u1:¬ (k:Int)<(Ts.length:Int):=by omega
   go_wp2
   go_ret
   exact ⟨rfl,hbel⟩
set_option maxRecDepth 100000 in
set_option maxHeartbeats 800000 in
theorem yl5 (d:Int) (a b:Option Addr) (c1 c2:Nat) (Ts Us:List Pl.It) (w:World) (hl:Ts.length≤1048576) (hm:Us.map Pl.It.r=Ts.map Pl.It.r) (hv:Mem.zb4 w a Ts) (hu:Mem.zb4 w b Us) (hok:∀t∈Ts,t.t.L.length≤1048576):
  Calls Tryz.prog 61 #[.agg #[.int .i64 d, .slice a Ts.length c1], .agg #[.int .i64 d, .slice b Ts.length c2]] w fun e w'=>e= .returned (.bool true)∧Below w.heap.size w w':=by
 have b0:∀o1 o2,Below w.heap.size w ((w.alloc o1).alloc o2):=fun o1 o2=>((Below.refl _ _).alloc (Nat.le_refl _) o1).alloc (by simp) o2;have HB:=hide b0;have HZ:=hide (fun W (b':Below w.heap.size w W)=>WLaw.eqItemS_any a b c1 c2 Ts Us W hl hm (Mem.zc0 hv b') (Mem.zc0 hu b') hok);clear hv hu b0 hok hm;go_enter Tryz.func61,Tryz.ntmps61
 go_wp2_with fail
 refine (za HZ _ (za HB _ _)).mono ?_;rintro e w1 ⟨rfl,b1⟩;have bb:=(za HB _ _).trans (b1.mono (za HB _ _).size);clear HZ b1;go_wp2
 go_ret
 exact ⟨rfl,bb⟩
set_option maxRecDepth 100000 in
set_option maxHeartbeats 800000 in
theorem yk7 (a b:Option Addr) (c1 c2:Nat) (Ts Us:List Pl.Ns) (w:World) (hl:Ts.length≤1048576) (hm:Us.map Pl.Ns.r=Ts.map Pl.Ns.r) (hv:Mem.zh w a Ts) (hu:Mem.zh w b Us) (hok:∀x∈Ts,x.Is.length≤1048576∧∀t∈x.Is,t.t.L.length≤1048576):
  Calls Tryz.prog 29 #[.slice a Ts.length c1, .slice b Ts.length c2] w fun e w'=>e= .returned (.bool true)∧Below w.heap.size w w':=by
 have HV:=hide hv;have HU:=hide hu;have HO:=hide hok;have HM:=hide hm;clear hv hu hok hm;go_enter Tryz.func29,Tryz.ntmps29
 go_wp2
 go_loopw [5] (fun i wr=>∃k:Nat,k≤Ts.length∧i= .int .i64 (k:Int)∧Below w.heap.size w wr) (fun i _=>Ts.length - (intOf i).toNat)
 case atStart=>exact ⟨0,Nat.zero_le _,rfl,Below.refl _ _⟩
 case round=>
  obtain ⟨k,hk,rfl,hbel⟩:=hrel;by_cases hlt:k<Ts.length
  ·obtain ⟨t,ht⟩:∃n,Ts[k]? =some n:=⟨_,List.getElem?_eq_getElem hlt⟩
   obtain ⟨u,hu,hum,hul⟩:∃u,Us[k]? =some u∧u.d=t.d∧u.Is.map Pl.It.r=t.Is.map Pl.It.r:=by
    have h:=congrArg (fun l=>l[k]?) (za HM);simp only [List.getElem?_map,ht,Option.map_some] at h;cases hu:Us[k]? with
    |none=>rw [hu] at h;simp at h
    |some u=>
     rw [hu] at h;have h':=Option.some.inj h;exact ⟨u,rfl,congrArg Prod.fst h',congrArg Prod.snd h'⟩
   have hll:u.Is.length=t.Is.length:=by have h:=congrArg List.length hul;simpa using h
   obtain ⟨⟨g,o,rfl,hg,q0,q0'⟩,q1⟩:=(za HV) k t ht;obtain ⟨⟨g2,o2,rfl,hg2,p0,p0'⟩,p1⟩:=(za HU) k u hu;rw [hum] at p0;rw [hll] at p0';have hz:=hide (fun W (b:Below w.heap.size w W)=>yl5 t.d t.a u.a t.cap u.cap t.Is u.Is W (za HO t (List.mem_of_getElem? ht)).1 hul (Mem.zc0 q1 b) (Mem.zc0 p1 b) (za HO t (List.mem_of_getElem? ht)).2);have MK:Hid (∀W',Below w.heap.size w W'→(Below w.heap.size w W'∧W'.cell? ⟨g,o+k*2,none⟩=some (.int .i64 t.d)∧W'.cell? ⟨g,o+k*2+1,none⟩=some (.slice t.a t.Is.length t.cap)∧W'.cell? ⟨g2,o2+k*2,none⟩=some (.int .i64 t.d)∧W'.cell? ⟨g2,o2+k*2+1,none⟩=some (.slice u.a t.Is.length u.cap))):=fun W' hb'=>⟨hb',(hb'.cell (p:=⟨g,_,none⟩) hg).trans q0,(hb'.cell (p:=⟨g,_,none⟩) hg).trans q0',(hb'.cell (p:=⟨g2,_,none⟩) hg2).trans p0,(hb'.cell (p:=⟨g2,_,none⟩) hg2).trans p0'⟩;have u1:(k:Int)<(Ts.length:Int):=by omega
   have u3:(0:Int)≤(k:Int):=by omega
   have hbd:Below w.heap.size w wr.drew:=⟨hbel.os,hbel.tape,hbel.output,hbel.size,hbel.block⟩;clear q0 p0 q0' p0' ht hu hul hum q1 p1 hll;go_wp2_with fail
   go_region_held3 (fun W'=>Below w.heap.size w W'∧W'.cell? ⟨g,o+k*2,none⟩=some (.int .i64 t.d)∧W'.cell? ⟨g,o+k*2+1,none⟩=some (.slice t.a t.Is.length t.cap)∧W'.cell? ⟨g2,o2+k*2,none⟩=some (.int .i64 t.d)∧W'.cell? ⟨g2,o2+k*2+1,none⟩=some (.slice u.a t.Is.length u.cap)) (first |exact za MK _ hbd|exact za MK _ (hbd.trans (bX.mono hbd.size))) (first |(go_at_call 61;refine (za hz _ hbd).mono ?_;rintro e wX ⟨rfl,bX⟩))
   have hb2:=hbd.trans (bX.mono hbd.size);clear hbel hbd bX MK;go_wp2
   go_roundw
   case rel=>exact ⟨k+1,by omega,by go_num,hb2⟩
   case measure=>simp [intOf];omega
  ·have u1:¬ (k:Int)<(Ts.length:Int):=by omega
   go_wp2
   go_ret
   exact ⟨rfl,hbel⟩
set_option linter.unusedSimpArgs false in
set_option maxRecDepth 100000 in
set_option maxHeartbeats 800000 in
theorem yh1 (s u:Pl.Sp) (w:World) (hs:OkS s 1048576) (hn:u.N.map Pl.Ns.r=s.N.map Pl.Ns.r) (hm:u.M=s.M) (hh:u.H=s.H) (hx:u.next=s.next) (hv:Mem.zd9 w s) (hu:Mem.zd9 w u):
  Calls Tryz.prog 9 #[.agg s.cs, .agg u.cs] w fun e w'=>e= .returned (.bool true)∧Below w.heap.size w w':=by
 have hnl:u.N.length=s.N.length:=by have h:=congrArg List.length hn;simpa using h
 unfold Pl.Sp.cs;rw [hnl,hm,hh,hx];have bb0:Below w.heap.size w ((w.alloc (.cells #[.slice s.ia s.N.length s.ic, .slice s.ma s.M.length s.mc, .slice s.ha s.H.length s.hc, .int .i64 s.next] 32)).alloc (.cells #[.slice u.ia s.N.length u.ic, .slice u.ma s.M.length u.mc, .slice u.ha s.H.length u.hc, .int .i64 s.next] 32)):=((Below.refl _ _).alloc (Nat.le_refl _) _).alloc (by simp) _;have P0:=hide ((Mem.Blk.new w #[.slice s.ia s.N.length s.ic, .slice s.ma s.M.length s.mc, .slice s.ha s.H.length s.hc, .int .i64 s.next] 32).alloc (.cells #[.slice u.ia s.N.length u.ic, .slice u.ma s.M.length u.mc, .slice u.ha s.H.length u.hc, .int .i64 s.next] 32))
 have Q0:Hid (Mem.Blk ((w.alloc (.cells #[.slice s.ia s.N.length s.ic, .slice s.ma s.M.length s.mc, .slice s.ha s.H.length s.hc, .int .i64 s.next] 32)).alloc (.cells #[.slice u.ia s.N.length u.ic, .slice u.ma s.M.length u.mc, .slice u.ha s.H.length u.hc, .int .i64 s.next] 32)) (w.heap.size+1) #[.slice u.ia s.N.length u.ic, .slice u.ma s.M.length u.mc, .slice u.ha s.H.length u.hc, .int .i64 s.next] 32):=Mem.zh9 _ _ _;have h1:=hide (fun W (b:Below w.heap.size w W)=>yk7 s.ia u.ia s.ic u.ic s.N u.N W hs.n hn (Mem.zg5 hv.zk0 b) (Mem.zg5 hu.zk0 b) (fun x hx=>⟨(hs.each x hx).1,fun t ht=>((hs.each x hx).2 t ht).1⟩));have h2:=hide (fun W (b:Below w.heap.size w W)=>eqMountS_any s.ma u.ma s.mc u.mc s.M W hs.m (Mem.zf0 hv.zl8 b) (by have :=Mem.zf0 hu.zl8 b;rw [hm] at this;exact this))
 have h3:=hide (fun W (b:Below w.heap.size w W)=>eqHandleS_any s.ha u.ha s.hc u.hc s.H W hs.h (Mem.zg7 hv.hands b) (by have :=Mem.zg7 hu.hands b;rw [hh] at this;exact this));clear hv hu hs hn hm hh hx hnl;have x0:=(za P0).cell 0;have y0:=(za Q0).cell 0;simp only [kGs] at x0 y0;go_enter Tryz.func9,Tryz.ntmps9
 go_wp2_with fail
 refine (za h1 _ bb0).mono ?_;rintro e w1 ⟨rfl,b1⟩;have bb1:=bb0.trans (b1.mono bb0.size);have P1:=hide ((za P0).call b1);have Q1:=hide ((za Q0).call b1);clear b1;clear x0 y0 P0 Q0 h1;have x1:=(za P1).cell 1;have y1:=(za Q1).cell 1;simp only [kGs] at x1 y1;go_wp2_with fail
 refine (za h2 _ bb1).mono ?_;rintro e w2 ⟨rfl,b2⟩;have bb2:=bb1.trans (b2.mono bb1.size);have P2:=hide ((za P1).call b2);have Q2:=hide ((za Q1).call b2);clear b2;clear x1 y1 P1 Q1 h2;have x2:=(za P2).cell 2;have y2:=(za Q2).cell 2;simp only [kGs] at x2 y2;go_wp2_with fail
 refine (za h3 _ bb2).mono ?_;rintro e w3 ⟨rfl,b3⟩;have bb3:=bb2.trans (b3.mono bb2.size);have P3:=hide ((za P2).call b3);have Q3:=hide ((za Q2).call b3);clear b3;clear x2 y2 P2 Q2 h3;have x3:=(za P3).cell 3;have y3:=(za Q3).cell 3;simp only [kGs] at x3 y3;go_wp2
 go_ret
 exact ⟨rfl,bb3⟩
end zb0
end Go.Proofs.YtbomeifgfalmdaaGreatDoor
