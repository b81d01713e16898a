/- Several texts of one claim in one file: WLawK, WLawEs, WHdZ, WHdM, WHdH, WAn2. -/
import Derived.Test.YtgdjjncmocppeaaGreatDoorG18
namespace Go.Proofs.YtgdjjncmocppeaaGreatDoor
section
open Go.RowKit
namespace WLaw
set_option maxRecDepth 100000 in
set_option maxHeartbeats 800000 in
theorem eqItem_any (m:Int) (a b:Option Addr) (c1 c2:Nat) (L:List Pl.Nd) (w:World) (hl:L.length≤1048576) (hv:Mem.za9 w a L) (hu:Mem.za9 w b L):
  Calls Tryz.prog 119 #[.agg #[.int .i64 m, .slice a L.length c1], .agg #[.int .i64 m, .slice b L.length c2]] w fun e w'=>e= .returned (.bool true)∧Below w.heap.size w w':=by
 have b0:∀o1 o2,Below w.heap.size w ((w.alloc o1).alloc o2):=fun o1 o2=>((Below.refl _ _).alloc (Nat.le_refl _) o1).alloc (by simp) o2;have HB:=hide b0;have HZ:=hide (fun W (b':Below w.heap.size w W)=>eqTree_any a b c1 c2 L W hl (Mem.za7 hv b') (Mem.za7 hu b'));clear hv hu b0;go_enter Tryz.func119,Tryz.ntmps119
 go_wp2_with fail
 refine (za HZ _ (za HB _ _)).mono ?_;rintro e w1 ⟨rfl,b1⟩;have bb:=(za HB _ _).trans (b1.mono (za HB _ _).size);clear HZ b1;go_wp2
 go_ret
 exact ⟨rfl,bb⟩
set_option maxRecDepth 100000 in
set_option maxHeartbeats 800000 in
theorem eqItemS_any (a b:Option Addr) (c1 c2:Nat) (Ts Us:List Pl.It) (w:World) (hl:Ts.length≤1048576) (hm:Us.map Pl.It.r=Ts.map Pl.It.r) (hv:Mem.zb2 w a Ts) (hu:Mem.zb2 w b Us) (hok:∀t∈Ts,t.t.L.length≤1048576):
  Calls Tryz.prog 91 #[.slice a Ts.length c1, .slice b Ts.length c2] w fun e w'=>e= .returned (.bool true)∧Below w.heap.size w w':=by
 have HV:=hide hv;have HU:=hide hu;have HO:=hide hok;have HM:=hide hm;clear hv hu hok hm;go_enter Tryz.func91,Tryz.ntmps91
 go_wp2
 go_loopw [5] (fun i wr=>∃k:Nat,k≤Ts.length∧i= .int .i64 (k:Int)∧Below w.heap.size w wr) (fun i _=>Ts.length - (intOf i).toNat)
 case atStart=>exact ⟨0,Nat.zero_le _,rfl,Below.refl _ _⟩
 case round=>
  obtain ⟨k,hk,rfl,hbel⟩:=hrel;by_cases hlt:k<Ts.length
  ·obtain ⟨t,ht⟩:∃n,Ts[k]? =some n:=⟨_,List.getElem?_eq_getElem hlt⟩
   obtain ⟨u,hu,hum,hul⟩:∃u,Us[k]? =some u∧u.m=t.m∧u.t.L=t.t.L:=by
    have h:=congrArg (fun l=>l[k]?) (za HM);simp only [List.getElem?_map,ht,Option.map_some] at h;cases hu:Us[k]? with
    |none=>rw [hu] at h;simp at h
    |some u=>rw [hu] at h;simp [Pl.It.r] at h;exact ⟨u,rfl,h.1,h.2⟩
   obtain ⟨⟨g,o,rfl,hg,q0,q0'⟩,q1⟩:=(za HV) k t ht;obtain ⟨⟨g2,o2,rfl,hg2,p0,p0'⟩,p1⟩:=(za HU) k u hu;rw [hul] at p1;have hz:=hide (fun W (b:Below w.heap.size w W)=>eqItem_any t.m t.t.a u.t.a t.t.cap u.t.cap t.t.L W (za HO t (List.mem_of_getElem? ht)) (Mem.za7 q1 b) (Mem.za7 p1 b));have MK:Hid (∀W',Below w.heap.size w W'→(Below w.heap.size w W'∧W'.cell? ⟨g,o+k*2,none⟩=some (.int .i64 t.m)∧W'.cell? ⟨g,o+k*2+1,none⟩=some (.slice t.t.a t.t.L.length t.t.cap)∧W'.cell? ⟨g2,o2+k*2,none⟩=some (.int .i64 t.m)∧W'.cell? ⟨g2,o2+k*2+1,none⟩=some (.slice u.t.a t.t.L.length u.t.cap))):=fun W' hb'=>⟨hb',(hb'.cell (p:=⟨g,_,none⟩) hg).trans q0,(hb'.cell (p:=⟨g,_,none⟩) hg).trans (by rw [q0',Pl.Tr.val]),(hb'.cell (p:=⟨g2,_,none⟩) hg2).trans (by rw [p0,hum]),(hb'.cell (p:=⟨g2,_,none⟩) hg2).trans (by rw [p0',Pl.Tr.val,hul])⟩;have u1:(k:Int)<(Ts.length:Int):=by omega
   have u3:(0:Int)≤(k:Int):=by omega
   have hbd:Below w.heap.size w wr.drew:=⟨hbel.os,hbel.tape,hbel.output,hbel.size,hbel.block⟩;clear q0 p0 q0' p0' ht hu hul hum q1 p1;go_wp2_with fail
   go_region_held3 (fun W'=>Below w.heap.size w W'∧W'.cell? ⟨g,o+k*2,none⟩=some (.int .i64 t.m)∧W'.cell? ⟨g,o+k*2+1,none⟩=some (.slice t.t.a t.t.L.length t.t.cap)∧W'.cell? ⟨g2,o2+k*2,none⟩=some (.int .i64 t.m)∧W'.cell? ⟨g2,o2+k*2+1,none⟩=some (.slice u.t.a t.t.L.length u.t.cap)) (first |exact za MK _ hbd|exact za MK _ (hbd.trans (bX.mono hbd.size))) (first |(go_at_call 119;refine (za hz _ hbd).mono ?_;rintro e wX ⟨rfl,bX⟩))
   have hb2:=hbd.trans (bX.mono hbd.size);clear hbel hbd bX MK;go_wp2
   go_roundw
   case rel=>exact ⟨k+1,by omega,by go_num,hb2⟩
   case measure=>simp [intOf];omega
  ·have u1:¬ (k:Int)<(Ts.length:Int):=by omega
   go_wp2
   go_ret
   exact ⟨rfl,hbel⟩
end WLaw
end
section
open Go.RowKit
namespace za8
set_option maxRecDepth 100000 in
set_option maxHeartbeats 800000 in
theorem eqMount_any (x:Pl.Mn) (w:World):
  Calls Tryz.prog 61 #[.agg #[.string x.p, .int .i64 x.i, .bool x.z], .agg #[.string x.p, .int .i64 x.i, .bool x.z]] w fun e w'=>e= .returned (.bool true)∧Below w.heap.size w w':=by
 have b0:∀o1 o2,Below w.heap.size w ((w.alloc o1).alloc o2):=fun o1 o2=>((Below.refl _ _).alloc (Nat.le_refl _) o1).alloc (by simp) o2;have HB:=hide b0;clear b0;go_enter Tryz.func61,Tryz.ntmps61
 go_wp2
 go_ret
 exact ⟨rfl,za HB _ _⟩
set_option maxRecDepth 100000 in
set_option maxHeartbeats 800000 in
theorem eqMountS_any (a b:Option Addr) (c1 c2:Nat) (Ts:List Pl.Mn) (w:World) (hl:Ts.length≤1048576) (hv:Mem.zb8 w a Ts) (hu:Mem.zb8 w b Ts):
  Calls Tryz.prog 33 #[.slice a Ts.length c1, .slice b Ts.length c2] w fun e w'=>e= .returned (.bool true)∧Below w.heap.size w w':=by
 have HV:=hide hv;have HU:=hide hu;clear hv hu;go_enter Tryz.func33,Tryz.ntmps33
 go_wp2
 go_loopw [5] (fun i wr=>∃k:Nat,k≤Ts.length∧i= .int .i64 (k:Int)∧Below w.heap.size w wr) (fun i _=>Ts.length - (intOf i).toNat)
 case atStart=>exact ⟨0,Nat.zero_le _,rfl,Below.refl _ _⟩
 case round=>
  obtain ⟨k,hk,rfl,hbel⟩:=hrel;by_cases hlt:k<Ts.length
  ·obtain ⟨t,ht⟩:∃n,Ts[k]? =some n:=⟨_,List.getElem?_eq_getElem hlt⟩;obtain ⟨g,o,rfl,hg,q0,q1,q2⟩:=(za HV) k t ht;obtain ⟨g2,o2,rfl,hg2,p0,p1,p2⟩:=(za HU) k t ht;have hz:=hide (fun W=>eqMount_any t W);have MK:Hid (∀W',Below w.heap.size w W'→(Below w.heap.size w W'∧W'.cell? ⟨g,o+k*3,none⟩=some (.string t.p)∧W'.cell? ⟨g,o+k*3+1,none⟩=some (.int .i64 t.i)∧W'.cell? ⟨g,o+k*3+2,none⟩=some (.bool t.z)∧W'.cell? ⟨g2,o2+k*3,none⟩=some (.string t.p)∧W'.cell? ⟨g2,o2+k*3+1,none⟩=some (.int .i64 t.i)∧W'.cell? ⟨g2,o2+k*3+2,none⟩=some (.bool t.z))):=fun W' hb'=>⟨hb',(hb'.cell (p:=⟨g,_,none⟩) hg).trans q0,(hb'.cell (p:=⟨g,_,none⟩) hg).trans q1,(hb'.cell (p:=⟨g,_,none⟩) hg).trans q2,(hb'.cell (p:=⟨g2,_,none⟩) hg2).trans p0,(hb'.cell (p:=⟨g2,_,none⟩) hg2).trans p1,(hb'.cell (p:=⟨g2,_,none⟩) hg2).trans p2⟩;have u1:(k:Int)<(Ts.length:Int):=by omega
   have u3:(0:Int)≤(k:Int):=by omega
   have hbd:Below w.heap.size w wr.drew:=⟨hbel.os,hbel.tape,hbel.output,hbel.size,hbel.block⟩;clear q0 q1 q2 p0 p1 p2 ht;go_wp2_with fail
   go_region_held3 (fun W'=>Below w.heap.size w W'∧W'.cell? ⟨g,o+k*3,none⟩=some (.string t.p)∧W'.cell? ⟨g,o+k*3+1,none⟩=some (.int .i64 t.i)∧W'.cell? ⟨g,o+k*3+2,none⟩=some (.bool t.z)∧W'.cell? ⟨g2,o2+k*3,none⟩=some (.string t.p)∧W'.cell? ⟨g2,o2+k*3+1,none⟩=some (.int .i64 t.i)∧W'.cell? ⟨g2,o2+k*3+2,none⟩=some (.bool t.z)) (first |exact za MK _ hbd|exact za MK _ (hbd.trans (bX.mono hbd.size))) (first |(go_at_call 61;refine (za hz _).mono ?_;rintro e wX ⟨rfl,bX⟩))
   have hb2:=hbd.trans (bX.mono hbd.size);clear hbel hbd bX MK;go_wp2
   go_roundw
   case rel=>exact ⟨k+1,by omega,by go_num,hb2⟩
   case measure=>simp [intOf];omega
  ·have u1:¬ (k:Int)<(Ts.length:Int):=by omega
   go_wp2
   go_ret
   exact ⟨rfl,hbel⟩
set_option maxRecDepth 100000 in
set_option maxHeartbeats 800000 in
theorem eqHandle_any (x:Pl.Hn) (w:World):
  Calls Tryz.prog 62 #[.agg #[.int .i64 x.d, .int .i64 x.i, .string x.p], .agg #[.int .i64 x.d, .int .i64 x.i, .string x.p]] w fun e w'=>e= .returned (.bool true)∧Below w.heap.size w w':=by
 have b0:∀o1 o2,Below w.heap.size w ((w.alloc o1).alloc o2):=fun o1 o2=>((Below.refl _ _).alloc (Nat.le_refl _) o1).alloc (by simp) o2;have HB:=hide b0;clear b0;go_enter Tryz.func62,Tryz.ntmps62
 go_wp2
 go_ret
 exact ⟨rfl,za HB _ _⟩
set_option maxRecDepth 100000 in
set_option maxHeartbeats 800000 in
theorem eqHandleS_any (a b:Option Addr) (c1 c2:Nat) (Ts:List Pl.Hn) (w:World) (hl:Ts.length≤1048576) (hv:Mem.zd3 w a Ts) (hu:Mem.zd3 w b Ts):
  Calls Tryz.prog 34 #[.slice a Ts.length c1, .slice b Ts.length c2] w fun e w'=>e= .returned (.bool true)∧Below w.heap.size w w':=by
 have HV:=hide hv;have HU:=hide hu;clear hv hu;go_enter Tryz.func34,Tryz.ntmps34
 go_wp2
 go_loopw [5] (fun i wr=>∃k:Nat,k≤Ts.length∧i= .int .i64 (k:Int)∧Below w.heap.size w wr) (fun i _=>Ts.length - (intOf i).toNat)
 case atStart=>exact ⟨0,Nat.zero_le _,rfl,Below.refl _ _⟩
 case round=>
  obtain ⟨k,hk,rfl,hbel⟩:=hrel;by_cases hlt:k<Ts.length
  ·obtain ⟨t,ht⟩:∃n,Ts[k]? =some n:=⟨_,List.getElem?_eq_getElem hlt⟩;obtain ⟨g,o,rfl,hg,q0,q1,q2⟩:=(za HV) k t ht;obtain ⟨g2,o2,rfl,hg2,p0,p1,p2⟩:=(za HU) k t ht;have hz:=hide (fun W=>eqHandle_any t W);have MK:Hid (∀W',Below w.heap.size w W'→(Below w.heap.size w W'∧W'.cell? ⟨g,o+k*3,none⟩=some (.int .i64 t.d)∧W'.cell? ⟨g,o+k*3+1,none⟩=some (.int .i64 t.i)∧W'.cell? ⟨g,o+k*3+2,none⟩=some (.string t.p)∧W'.cell? ⟨g2,o2+k*3,none⟩=some (.int .i64 t.d)∧W'.cell? ⟨g2,o2+k*3+1,none⟩=some (.int .i64 t.i)∧W'.cell? ⟨g2,o2+k*3+2,none⟩=some (.string t.p))):=fun W' hb'=>⟨hb',(hb'.cell (p:=⟨g,_,none⟩) hg).trans q0,(hb'.cell (p:=⟨g,_,none⟩) hg).trans q1,(hb'.cell (p:=⟨g,_,none⟩) hg).trans q2,(hb'.cell (p:=⟨g2,_,none⟩) hg2).trans p0,(hb'.cell (p:=⟨g2,_,none⟩) hg2).trans p1,(hb'.cell (p:=⟨g2,_,none⟩) hg2).trans p2⟩;have u1:(k:Int)<(Ts.length:Int):=by omega
   have u3:(0:Int)≤(k:Int):=by omega
   have hbd:Below w.heap.size w wr.drew:=⟨hbel.os,hbel.tape,hbel.output,hbel.size,hbel.block⟩;clear q0 q1 q2 p0 p1 p2 ht;go_wp2_with fail
   go_region_held3 (fun W'=>Below w.heap.size w W'∧W'.cell? ⟨g,o+k*3,none⟩=some (.int .i64 t.d)∧W'.cell? ⟨g,o+k*3+1,none⟩=some (.int .i64 t.i)∧W'.cell? ⟨g,o+k*3+2,none⟩=some (.string t.p)∧W'.cell? ⟨g2,o2+k*3,none⟩=some (.int .i64 t.d)∧W'.cell? ⟨g2,o2+k*3+1,none⟩=some (.int .i64 t.i)∧W'.cell? ⟨g2,o2+k*3+2,none⟩=some (.string t.p)) (first |exact za MK _ hbd|exact za MK _ (hbd.trans (bX.mono hbd.size))) (first |(go_at_call 62;refine (za hz _).mono ?_;rintro e wX ⟨rfl,bX⟩))
   have hb2:=hbd.trans (bX.mono hbd.size);clear hbel hbd bX MK;go_wp2
   go_roundw
   case rel=>exact ⟨k+1,by omega,by go_num,hb2⟩
   case measure=>simp [intOf];omega
  ·have u1:¬ (k:Int)<(Ts.length:Int):=by omega
   go_wp2
   go_ret
   exact ⟨rfl,hbel⟩
set_option maxRecDepth 100000 in
set_option maxHeartbeats 800000 in
theorem yh (d:Int) (a b:Option Addr) (c1 c2:Nat) (Ts Us:List Pl.It) (w:World) (hl:Ts.length≤1048576) (hm:Us.map Pl.It.r=Ts.map Pl.It.r) (hv:Mem.zb2 w a Ts) (hu:Mem.zb2 w b Us) (hok:∀t∈Ts,t.t.L.length≤1048576):
  Calls Tryz.prog 60 #[.agg #[.int .i64 d, .slice a Ts.length c1], .agg #[.int .i64 d, .slice b Ts.length c2]] w fun e w'=>e= .returned (.bool true)∧Below w.heap.size w w':=by
 have b0:∀o1 o2,Below w.heap.size w ((w.alloc o1).alloc o2):=fun o1 o2=>((Below.refl _ _).alloc (Nat.le_refl _) o1).alloc (by simp) o2;have HB:=hide b0;have HZ:=hide (fun W (b':Below w.heap.size w W)=>WLaw.eqItemS_any a b c1 c2 Ts Us W hl hm (Mem.zb9 hv b') (Mem.zb9 hu b') hok);clear hv hu b0 hok hm;go_enter Tryz.func60,Tryz.ntmps60
 go_wp2_with fail
 refine (za HZ _ (za HB _ _)).mono ?_;rintro e w1 ⟨rfl,b1⟩;have bb:=(za HB _ _).trans (b1.mono (za HB _ _).size);clear HZ b1;go_wp2
 go_ret
 exact ⟨rfl,bb⟩
set_option maxRecDepth 100000 in
set_option maxHeartbeats 800000 in
theorem ye5 (a b:Option Addr) (c1 c2:Nat) (Ts Us:List Pl.Ns) (w:World) (hl:Ts.length≤1048576) (hm:Us.map Pl.Ns.r=Ts.map Pl.Ns.r) (hv:Mem.zf8 w a Ts) (hu:Mem.zf8 w b Us) (hok:∀x∈Ts,x.Is.length≤1048576∧∀t∈x.Is,t.t.L.length≤1048576):
  Calls Tryz.prog 32 #[.slice a Ts.length c1, .slice b Ts.length c2] w fun e w'=>e= .returned (.bool true)∧Below w.heap.size w w':=by
 have HV:=hide hv;have HU:=hide hu;have HO:=hide hok;have HM:=hide hm;clear hv hu hok hm;go_enter Tryz.func32,Tryz.ntmps32
 go_wp2
 go_loopw [5] (fun i wr=>∃k:Nat,k≤Ts.length∧i= .int .i64 (k:Int)∧Below w.heap.size w wr) (fun i _=>Ts.length - (intOf i).toNat)
 case atStart=>exact ⟨0,Nat.zero_le _,rfl,Below.refl _ _⟩
 case round=>
  obtain ⟨k,hk,rfl,hbel⟩:=hrel;by_cases hlt:k<Ts.length
  ·obtain ⟨t,ht⟩:∃n,Ts[k]? =some n:=⟨_,List.getElem?_eq_getElem hlt⟩
   obtain ⟨u,hu,hum,hul⟩:∃u,Us[k]? =some u∧u.d=t.d∧u.Is.map Pl.It.r=t.Is.map Pl.It.r:=by
    have h:=congrArg (fun l=>l[k]?) (za HM);simp only [List.getElem?_map,ht,Option.map_some] at h;cases hu:Us[k]? with
    |none=>rw [hu] at h;simp at h
    |some u=>
     rw [hu] at h;have h':=Option.some.inj h;exact ⟨u,rfl,congrArg Prod.fst h',congrArg Prod.snd h'⟩
   have hll:u.Is.length=t.Is.length:=by have h:=congrArg List.length hul;simpa using h
   obtain ⟨⟨g,o,rfl,hg,q0,q0'⟩,q1⟩:=(za HV) k t ht;obtain ⟨⟨g2,o2,rfl,hg2,p0,p0'⟩,p1⟩:=(za HU) k u hu;rw [hum] at p0;rw [hll] at p0';have hz:=hide (fun W (b:Below w.heap.size w W)=>yh t.d t.a u.a t.cap u.cap t.Is u.Is W (za HO t (List.mem_of_getElem? ht)).1 hul (Mem.zb9 q1 b) (Mem.zb9 p1 b) (za HO t (List.mem_of_getElem? ht)).2);have MK:Hid (∀W',Below w.heap.size w W'→(Below w.heap.size w W'∧W'.cell? ⟨g,o+k*2,none⟩=some (.int .i64 t.d)∧W'.cell? ⟨g,o+k*2+1,none⟩=some (.slice t.a t.Is.length t.cap)∧W'.cell? ⟨g2,o2+k*2,none⟩=some (.int .i64 t.d)∧W'.cell? ⟨g2,o2+k*2+1,none⟩=some (.slice u.a t.Is.length u.cap))):=fun W' hb'=>⟨hb',(hb'.cell (p:=⟨g,_,none⟩) hg).trans q0,(hb'.cell (p:=⟨g,_,none⟩) hg).trans q0',(hb'.cell (p:=⟨g2,_,none⟩) hg2).trans p0,(hb'.cell (p:=⟨g2,_,none⟩) hg2).trans p0'⟩;have u1:(k:Int)<(Ts.length:Int):=by omega
   have u3:(0:Int)≤(k:Int):=by omega
   have hbd:Below w.heap.size w wr.drew:=⟨hbel.os,hbel.tape,hbel.output,hbel.size,hbel.block⟩;clear q0 p0 q0' p0' ht hu hul hum q1 p1 hll;go_wp2_with fail
   go_region_held3 (fun W'=>Below w.heap.size w W'∧W'.cell? ⟨g,o+k*2,none⟩=some (.int .i64 t.d)∧W'.cell? ⟨g,o+k*2+1,none⟩=some (.slice t.a t.Is.length t.cap)∧W'.cell? ⟨g2,o2+k*2,none⟩=some (.int .i64 t.d)∧W'.cell? ⟨g2,o2+k*2+1,none⟩=some (.slice u.a t.Is.length u.cap)) (first |exact za MK _ hbd|exact za MK _ (hbd.trans (bX.mono hbd.size))) (first |(go_at_call 60;refine (za hz _ hbd).mono ?_;rintro e wX ⟨rfl,bX⟩))
   have hb2:=hbd.trans (bX.mono hbd.size);clear hbel hbd bX MK;go_wp2
   go_roundw
   case rel=>exact ⟨k+1,by omega,by go_num,hb2⟩
   case measure=>simp [intOf];omega
  ·have u1:¬ (k:Int)<(Ts.length:Int):=by omega
   go_wp2
   go_ret
   exact ⟨rfl,hbel⟩
set_option linter.unusedSimpArgs false in
set_option maxRecDepth 100000 in
set_option maxHeartbeats 800000 in
theorem yc5 (s u:Pl.Sp) (w:World) (hs:OkS s 1048576) (hn:u.N.map Pl.Ns.r=s.N.map Pl.Ns.r) (hm:u.M=s.M) (hh:u.H=s.H) (hx:u.next=s.next) (hv:Mem.zc2 w s) (hu:Mem.zc2 w u):
  Calls Tryz.prog 10 #[.agg s.cs, .agg u.cs] w fun e w'=>e= .returned (.bool true)∧Below w.heap.size w w':=by
 have hnl:u.N.length=s.N.length:=by have h:=congrArg List.length hn;simpa using h
 unfold Pl.Sp.cs;rw [hnl,hm,hh,hx];have bb0:Below w.heap.size w ((w.alloc (.cells #[.slice s.ia s.N.length s.ic, .slice s.ma s.M.length s.mc, .slice s.ha s.H.length s.hc, .int .i64 s.next] 32)).alloc (.cells #[.slice u.ia s.N.length u.ic, .slice u.ma s.M.length u.mc, .slice u.ha s.H.length u.hc, .int .i64 s.next] 32)):=((Below.refl _ _).alloc (Nat.le_refl _) _).alloc (by simp) _;have P0:=hide ((Mem.Blk.new w #[.slice s.ia s.N.length s.ic, .slice s.ma s.M.length s.mc, .slice s.ha s.H.length s.hc, .int .i64 s.next] 32).alloc (.cells #[.slice u.ia s.N.length u.ic, .slice u.ma s.M.length u.mc, .slice u.ha s.H.length u.hc, .int .i64 s.next] 32))
 have Q0:Hid (Mem.Blk ((w.alloc (.cells #[.slice s.ia s.N.length s.ic, .slice s.ma s.M.length s.mc, .slice s.ha s.H.length s.hc, .int .i64 s.next] 32)).alloc (.cells #[.slice u.ia s.N.length u.ic, .slice u.ma s.M.length u.mc, .slice u.ha s.H.length u.hc, .int .i64 s.next] 32)) (w.heap.size+1) #[.slice u.ia s.N.length u.ic, .slice u.ma s.M.length u.mc, .slice u.ha s.H.length u.hc, .int .i64 s.next] 32):=Mem.zi4 _ _ _;have h1:=hide (fun W (b:Below w.heap.size w W)=>ye5 s.ia u.ia s.ic u.ic s.N u.N W hs.n hn (Mem.zf1 hv.zj0 b) (Mem.zf1 hu.zj0 b) (fun x hx=>⟨(hs.each x hx).1,fun t ht=>((hs.each x hx).2 t ht).1⟩));have h2:=hide (fun W (b:Below w.heap.size w W)=>eqMountS_any s.ma u.ma s.mc u.mc s.M W hs.m (Mem.zd8 hv.zk1 b) (by have :=Mem.zd8 hu.zk1 b;rw [hm] at this;exact this))
 have h3:=hide (fun W (b:Below w.heap.size w W)=>eqHandleS_any s.ha u.ha s.hc u.hc s.H W hs.h (Mem.zf3 hv.hands b) (by have :=Mem.zf3 hu.hands b;rw [hh] at this;exact this));clear hv hu hs hn hm hh hx hnl;have x0:=(za P0).cell 0;have y0:=(za Q0).cell 0;simp only [kGs] at x0 y0;go_enter Tryz.func10,Tryz.ntmps10
 go_wp2_with fail
 refine (za h1 _ bb0).mono ?_;rintro e w1 ⟨rfl,b1⟩;have bb1:=bb0.trans (b1.mono bb0.size);have P1:=hide ((za P0).call b1);have Q1:=hide ((za Q0).call b1);clear b1;clear x0 y0 P0 Q0 h1;have x1:=(za P1).cell 1;have y1:=(za Q1).cell 1;simp only [kGs] at x1 y1;go_wp2_with fail
 refine (za h2 _ bb1).mono ?_;rintro e w2 ⟨rfl,b2⟩;have bb2:=bb1.trans (b2.mono bb1.size);have P2:=hide ((za P1).call b2);have Q2:=hide ((za Q1).call b2);clear b2;clear x1 y1 P1 Q1 h2;have x2:=(za P2).cell 2;have y2:=(za Q2).cell 2;simp only [kGs] at x2 y2;go_wp2_with fail
 refine (za h3 _ bb2).mono ?_;rintro e w3 ⟨rfl,b3⟩;have bb3:=bb2.trans (b3.mono bb2.size);have P3:=hide ((za P2).call b3);have Q3:=hide ((za Q2).call b3);clear b3;clear x2 y2 P2 Q2 h3;have x3:=(za P3).cell 3;have y3:=(za Q3).cell 3;simp only [kGs] at x3 y3;go_wp2
 go_ret
 exact ⟨rfl,bb3⟩
end za8
end
section
open Go.RowKit
namespace WMkY
set_option linter.unusedSimpArgs false in
set_option maxRecDepth 100000 in
set_option maxHeartbeats 2000000 in
theorem zf4 (a:Option Addr) (cap:Nat) (N:List Pl.Ns) (w:World) (hn:N.length≤12) (hI:∀x∈N,x.Is.length≤12∧∀t∈x.Is,t.t.L.length≤40) (hv:Mem.zf8 w a (Pl.mkZ 1 N N.length)):
  Calls Tryz.prog 65 #[.slice a N.length cap, .int .i64 1] w fun e w'=>e= .returned (.int .i64 (Pl.kZ 1 N N.length:Int))∧Below w.heap.size w w':=by
 have HV:=hide hv;have HI:=hide hI;clear hv hI;go_enter Tryz.func65,Tryz.ntmps65
 go_wp2
 go_loopw [1,5] (fun v i wr=>∃j:Nat,j≤N.length∧i= .int .i64 (j:Int)∧v= .int .i64 (Pl.kZ 1 N j:Int)∧Below w.heap.size w wr) (fun _ i _=>N.length - (intOf i).toNat)
 case atStart=>exact ⟨0,Nat.zero_le _,rfl,rfl,Below.refl _ _⟩
 case round=>
  obtain ⟨j,hj,rfl,rfl,hbel⟩:=hrel;by_cases hlt:j<N.length
  ·obtain ⟨x,hx⟩:∃x,N[j]? =some x:=⟨_,List.getElem?_eq_getElem hlt⟩;obtain ⟨hI1,hI2⟩:=za HI x (List.mem_of_getElem? hx);have hk1:=Pl.kZ_le 1 N (za HI) j (by omega);have hk0:=Pl.kZ_ge 1 N j;have HKS:Hid (Pl.kZ 1 N (j+1)=Pl.kAt (Pl.kZ 1 N j+1) x.Is x.Is.length):=hide (Pl.kZ_succ hx);have hy2:(Pl.mkZ 1 N N.length)[j]? =some (Pl.mkN1 (Pl.kZ 1 N j) x):=by rw [Pl.zo8,hx,Option.map_some,if_pos hlt]
   obtain ⟨⟨g,o,rfl,hg,c0,c1⟩,hit⟩:=(Mem.zf1 (za HV) hbel) j _ hy2
   have hk3:∀i,i≤x.Is.length→Pl.kAt (Pl.kZ 1 N j+1) x.Is i≤100000:=fun i hi=>by
    have :=Pl.kAt_le (Pl.kZ 1 N j+1) x.Is hI2 i hi;omega
   have hkb:Pl.kZ 1 N j≤100000:=by omega
   simp only [Pl.mkN1,Pl.zu6] at c0 c1 hit;have hml:=hide (WMarkI.zf4 x.a x.cap (Pl.kZ 1 N j+1) x.Is wr (by omega) (fun t ht=>by have :=hI2 t ht;omega) (by omega) hk3 hit);have hKE:=Pl.kAt_ge (Pl.kZ 1 N j+1) x.Is x.Is.length;generalize Pl.kAt (Pl.kZ 1 N j+1) x.Is x.Is.length=KE at HKS hml hKE;generalize Pl.kZ 1 N j=KJ at hk1 hk0 HKS hml c0 hkb hKE ⊢;have eK:((KJ+1:Nat):Int)=(KJ:Int)+1:=by omega
   rw [eK] at hml;have u1:(j:Int)<(N.length:Int):=by omega
   have u3:(0:Int)≤(j:Int):=by omega
   have u4:¬ (KE:Int)<0:=by omega
   clear hk3 hx hy2 eK hI1 hI2 hk1 hit hKE;go_wp2_with fail
   refine (za hml).mono ?_;rintro e w2 ⟨rfl,b2⟩;have bN:=hbel.trans (b2.mono hbel.size);clear hml b2 c0 c1;go_wp2
   go_roundw
   case rel=>exact ⟨j+1,by omega,by go_num,by rw [za HKS],bN⟩
   case measure=>simp [intOf];omega
  ·have u1:¬ (j:Int)<(N.length:Int):=by omega
   have hje:j=N.length:=by omega
   subst hje;go_wp2
   go_ret
   exact ⟨rfl,hbel⟩
end WMkY
end
section
open Go.RowKit
namespace WMkM
set_option linter.unusedSimpArgs false in
set_option maxRecDepth 100000 in
set_option maxHeartbeats 2000000 in
theorem zf4 (a:Option Addr) (n cap K:Nat) (w:World) (hn:n≤1048576) (hK:0<K) (hK2:K≤1000000) (hv:Mem.zb8 w a (Pl.zr0 K n)):
  Calls Tryz.prog 66 #[.slice a n cap, .int .i64 (K:Int)] w fun e w'=>e= .returned (.int .i64 ((K+3*n:Nat):Int))∧Below w.heap.size w w':=by
 have HV:=hide hv;clear hv;go_enter Tryz.func66,Tryz.ntmps66
 go_wp2
 go_loopw [1,5] (fun v i wr=>∃ (k q:Nat),k≤n∧q=K+3*k∧i= .int .i64 (k:Int)∧v= .int .i64 (q:Int)∧Below w.heap.size w wr) (fun _ i _=>n - (intOf i).toNat)
 case atStart=>exact ⟨0,K,Nat.zero_le _,rfl,rfl,rfl,Below.refl _ _⟩
 case round=>
  obtain ⟨k,q,hk,hq,rfl,rfl,hbel⟩:=hrel;by_cases hlt:k<n
  ·have y1:(k:Int)<(n:Int):=by omega
   have y3:(0:Int)≤(k:Int):=by omega
   have hg0:=Pl.mkMns_get K n k hlt;simp only [Pl.mkMn,←hq] at hg0;obtain ⟨g,o,rfl,hg,c0,c1,c2⟩:=(Mem.zd8 (za HV) hbel) k _ hg0;simp only at c0 c1 c2;rw [show ((q+1:Nat):Int)=(q:Int)+1 by omega] at c1;rw [←Pl.third_is] at c2;have HM:=hide (fun W=>zp7.ze0 q W (by omega) (by omega));have HQ:=hide hq;have q1:(q:Int)≤100000000:=by omega
   clear hq hg0;have MK:Hid (∀W',Below wr.heap.size wr W'→(Below wr.heap.size wr W'∧W'.cell? ⟨g,o+k*3,none⟩=some (.string (Pl.mark q)))):=fun W' b=>⟨b,(b.cell (p:=⟨g,_,none⟩) hg).trans c0⟩;go_upto_region 4 with fail
   refine RG MK (bD _) fun hHeld=>?_;generalize wr.drew=D0 at hHeld ⊢;refine TB 0 ?_;refine TB 1 ?_;refine TB 2 ?_;refine TB 3 ?_;refine TB 4 ?_;refine TB 5 ?_;refine RN 6 fun K hK=>?_;go_simp
   refine (za HM _).mono ?_;rintro e D1 ⟨rfl,bX⟩;refine hK.out _ _ ?_ (fun hHeld=>?_)
   ·exact za MK _ (hHeld.1.trans (bX.mono hHeld.1.size))
   clear hK K bX
   try simp only [Act.put,kBs]
   refine TB 7 ?_;refine wpAnyH_done (by kernel_rfl) ?_ _;have b1:=hHeld.1;clear hHeld;have bN:=hbel.trans (b1.mono hbel.size);replace c1:=(b1.cell (p:=⟨g,_,none⟩) hg).trans c1;replace c2:=(b1.cell (p:=⟨g,_,none⟩) hg).trans c2;clear c0 MK b1;go_wp2
   go_roundw
   case rel=>exact ⟨k+1,q+3,by omega,by have :=za HQ;omega,by go_num,by go_num,bN⟩
   case measure=>simp [intOf];omega
  ·obtain rfl:k=n:=by omega
   have y1:¬ (k:Int)<(k:Int):=by omega
   have hq2:(q:Int)=((K+3*k:Nat):Int):=by omega
   have HQ:=hide hq2;clear hq hq2;go_wp2
   go_ret
   exact ⟨(by rw [za HQ];first |done|rfl),hbel⟩
end WMkM
end
section
open Go.RowKit
namespace WMkH
set_option linter.unusedSimpArgs false in
set_option maxRecDepth 100000 in
set_option maxHeartbeats 2000000 in
theorem zf4 (a:Option Addr) (n cap K:Nat) (w:World) (hn:n≤1048576) (hK:0<K) (hK2:K≤1000000) (hv:Mem.zd3 w a (Pl.mkHns K n)):
  Calls Tryz.prog 67 #[.slice a n cap, .int .i64 (K:Int)] w fun e w'=>e= .returned (.int .i64 ((K+3*n:Nat):Int))∧Below w.heap.size w w':=by
 have HV:=hide hv;clear hv;go_enter Tryz.func67,Tryz.ntmps67
 go_wp2
 go_loopw [1,5] (fun v i wr=>∃ (k q:Nat),k≤n∧q=K+3*k∧i= .int .i64 (k:Int)∧v= .int .i64 (q:Int)∧Below w.heap.size w wr) (fun _ i _=>n - (intOf i).toNat)
 case atStart=>exact ⟨0,K,Nat.zero_le _,rfl,rfl,rfl,Below.refl _ _⟩
 case round=>
  obtain ⟨k,q,hk,hq,rfl,rfl,hbel⟩:=hrel;by_cases hlt:k<n
  ·have y1:(k:Int)<(n:Int):=by omega
   have y3:(0:Int)≤(k:Int):=by omega
   have hg0:=Pl.mkHns_get K n k hlt;simp only [Pl.mkHn,←hq] at hg0;obtain ⟨g,o,rfl,hg,c0,c1,c2⟩:=(Mem.zf3 (za HV) hbel) k _ hg0;simp only at c0 c1 c2;rw [show ((q+1:Nat):Int)=(q:Int)+1 by omega] at c1;have HM:=hide (fun W=>zp7.ze0 (q+2) W (by omega) (by omega));rw [show ((q+2:Nat):Int)=(q:Int)+1+1 by omega] at HM;have HQ:=hide hq;have q1:(q:Int)≤100000000:=by omega
   clear hq hg0;have MK:Hid (∀W',Below wr.heap.size wr W'→(Below wr.heap.size wr W'∧W'.cell? ⟨g,o+k*3+2,none⟩=some (.string (Pl.mark (q+2))))):=fun W' b=>⟨b,(b.cell (p:=⟨g,_,none⟩) hg).trans c2⟩;go_upto_region 10 with fail
   refine RG MK (bD _) fun hHeld=>?_;generalize wr.drew=D0 at hHeld ⊢;refine TB 0 ?_;refine TB 1 ?_;refine TB 2 ?_;refine TB 3 ?_;refine TB 4 ?_;refine TB 5 ?_;refine RN 6 fun K hK=>?_;go_simp
   refine (za HM _).mono ?_;rintro e D1 ⟨rfl,bX⟩;refine hK.out _ _ ?_ (fun hHeld=>?_)
   ·exact za MK _ (hHeld.1.trans (bX.mono hHeld.1.size))
   clear hK K bX
   try simp only [Act.put,kBs]
   refine TB 7 ?_;refine wpAnyH_done (by kernel_rfl) ?_ _;have b1:=hHeld.1;clear hHeld;have bN:=hbel.trans (b1.mono hbel.size);clear c0 c1 c2 MK b1;go_wp2
   go_roundw
   case rel=>exact ⟨k+1,q+3,by omega,by have :=za HQ;omega,by go_num,by go_num,bN⟩
   case measure=>simp [intOf];omega
  ·obtain rfl:k=n:=by omega
   have y1:¬ (k:Int)<(k:Int):=by omega
   have hq2:(q:Int)=((K+3*k:Nat):Int):=by omega
   have HQ:=hide hq2;clear hq hq2;go_wp2
   go_ret
   exact ⟨(by rw [za HQ];first |done|rfl),hbel⟩
end WMkH
end
section
set_option linter.unusedSimpArgs false
open Go.RowKit
namespace WSpO
def kF (u:Pl.Sp):Nat:=Pl.kZ 1 u.N u.N.length+3*u.M.length+3*u.H.length
theorem kZ_small {u:Pl.Sp} (hs:Sm u):Pl.kZ 1 u.N u.N.length≤50000∧0<Pl.kZ 1 u.N u.N.length:=by
 have h1:=Pl.kZ_le 1 u.N (fun x hx=>⟨(hs.i x hx).1,(hs.i x hx).2.2⟩) _ (Nat.le_refl _);have h2:=Pl.kZ_ge 1 u.N u.N.length;have :=hs.n;omega
set_option maxRecDepth 100000 in
set_option maxHeartbeats 1000000 in
theorem markSp_any (u:Pl.Sp) (S1 S2 S3 HH:Nat) (lo hi:Nat→Nat) (w:World) (hs:Sm u) (h:An w u S1 S2 S3 HH lo hi):
  Calls Tryz.prog 11 #[.agg u.cs, .int .i64 1] w fun e w'=>e= .returned (.int .i64 (kF u:Int))∧Mk8 w' u∧Mem.Band S1 HH w w':=by
 obtain ⟨hk1,hk0⟩:=kZ_small hs;have c1:=hide (fun W (b:Below w.heap.size w W)=>marksZ u S1 S2 S3 HH lo hi W hs (h.call b));have c2:=hide (fun W K h0 h1 (o:Mem.own3 51 Pl.Mn.cs W S2 (.slice u.ma u.M.length u.mc) u.M)=>marksM u.M u.ma u.mc S2 K W h0 h1 hs.m o);have c3:=hide (fun W K h0 h1 (o:Mem.own3 87 Pl.Hn.cs W S3 (.slice u.ha u.H.length u.hc) u.H)=>marksH u.H u.ha u.hc S3 K W h0 h1 hs.h o);have HA:=hide h;have hM:=hs.m;have hH:=hs.h;have hq2:=h.s2;have hq3:=h.s3;have hq4:=h.s4;have hq5:=h.s5;have HKF:Hid (kF u=Pl.kZ 1 u.N u.N.length+3*u.M.length+3*u.H.length):=hide rfl;unfold Pl.Sp.cs;have b0:=(Below.refl w.heap.size w).alloc (o:= .cells #[.slice u.ia u.N.length u.ic, .slice u.ma u.M.length u.mc, .slice u.ha u.H.length u.hc, .int .i64 u.next] 32) (Nat.le_refl _)
 have V0:=hide (Mem.Blk.new w #[.slice u.ia u.N.length u.ic, .slice u.ma u.M.length u.mc, .slice u.ha u.H.length u.hc, .int .i64 u.next] 32);have a0:=(za V0).cell 0;simp only [kGs] at a0;clear hs h;go_enter Tryz.func11,Tryz.ntmps11
 go_wp2_with fail
 have HC:=hide (za c1 _ b0);have HA1:=hide ((za HA).call b0);have D0:Hid (Mem.Band S1 HH w (w.alloc (.cells #[.slice u.ia u.N.length u.ic, .slice u.ma u.M.length u.mc, .slice u.ha u.H.length u.hc, .int .i64 u.next] 32))):=hide (Mem.Band.of_below b0);clear c1 HA;generalize w.alloc (.cells #[.slice u.ia u.N.length u.ic, .slice u.ma u.M.length u.mc, .slice u.ha u.H.length u.hc, .int .i64 u.next] 32)=wA at b0 V0 a0 HC HA1 D0 ⊢;refine (za HC).mono ?_;rintro e w1 ⟨rfl,mz,bd⟩;have hlV:w.heap.size<wA.heap.size:=(za V0).lt;have V1:=hide (bd.blk (za V0) (.inr (by omega)));have MZ1:=hide mz;have om1:=Mem.zi1 (za HA1).om (fun g hg=>bd.block g (Mem.zd4 (za HA1).om g hg).2 (.inr (Mem.zd4 (za HA1).om g hg).1));have oh1:=Mem.zi1 (za HA1).oh (fun g hg=>bd.block g (Mem.zd4 (za HA1).oh g hg).2 (.inr (by have :=(Mem.zd4 (za HA1).oh g hg).1;omega)))
 have D1:=hide ((za D0).trans ⟨bd.os,bd.tape,bd.output,bd.size,fun b hb hh=>bd.block b hb (by omega)⟩);have OH1:=hide oh1;have OM1:=hide om1;have R1:=hide (za HA1).r1;have H1:=hide (za HA1).h1;have R2:=hide (za HA1).r2;have R3:=hide (za HA1).r3;have hl1:=bd.size;clear HC mz bd om1 oh1 HA1 V0 D0 a0 b0;have a1:=(za V1).cell 1;simp only [kGs] at a1;have HC:=hide (za c2 w1 (Pl.kZ 1 u.N u.N.length) hk0 (by omega) (za OM1));generalize hKe:Pl.kZ 1 u.N u.N.length=K1 at HC HKF hk0 hk1 ⊢;have HKE:=hide hKe;clear c2 hKe;go_wp2_with fail
 refine (za HC).mono ?_;rintro e w2 ⟨rfl,hm2,gr⟩;have V2:=hide ((za V1).grown gr (fun e=>by have :=za R2 _ e.symm;omega));have hlo2:=fun g hg=>(Mem.zd4 (za OM1) g hg).1;have MZ2:=hide (Mz_up (za MZ1) gr hlo2 (za R1) (za H1));have OH2:=hide (show Mem.own3 87 Pl.Hn.cs w2 S3 (.slice u.ha u.H.length u.hc) u.H from Mem.zi1 (za OH1) (fun g hg=>gr.block g (Mem.zd4 (za OH1) g hg).2 (fun e=>by have :=(Mem.zd4 (za OH1) g hg).1;have :=za R2 g e.symm;omega)));have D2:=hide ((za D1).trans ⟨gr.os,gr.tape,gr.output,gr.size,fun b hb hh=>gr.block b hb (fun e=>by have h1:=hlo2 b e.symm;have h2:=za R2 b e.symm;omega)⟩);have HM2:=hide hm2;have HR2:=hide hlo2;have hl2:=gr.size;clear HC hm2 gr MZ1 OM1 OH1 V1 D1 a1 hlo2;have a2:=(za V2).cell 2;simp only [kGs] at a2;have HC:=hide (za c3 w2 (K1+3*u.M.length) (by omega) (by omega) (za OH2));have hMK:=za HM2;clear c3;go_wp2_with fail
 refine (za HC).mono ?_;rintro e w3 ⟨rfl,hh3,gr⟩;have hlo3:=fun g hg=>(Mem.zd4 (za OH2) g hg).1;have MZ3:=hide (Mz_up (za MZ2) gr (fun g hg=>by have :=hlo3 g hg;omega) (za R1) (za H1));have D3:=hide ((za D2).trans ⟨gr.os,gr.tape,gr.output,gr.size,fun b hb hh=>gr.block b hb (fun e=>by have h1:=hlo3 b e.symm;have h2:=za R3 b e.symm;omega)⟩)
 have HM3:Hid (Mem.zb8 w3 u.ma (Pl.zr0 K1 u.M.length)):=hide (fun i x hx=>by
  obtain ⟨b,o,e1,e2,e3,e4,e5⟩:=hMK i x hx
  have hne:some b≠(Value.slice u.ha u.H.length u.hc).ownBlock:=fun e=>by
   have h3:=hlo3 b e.symm;have h4:=za R2 b (by rw [e1];rfl);omega
  exact ⟨b,o,e1,Nat.lt_of_lt_of_le e2 gr.size,gr.cell e3 hne,gr.cell e4 hne,gr.cell e5 hne⟩)
 have HH3:=hide hh3;clear HC hh3 gr MZ2 OH2 V2 D2 a2 hMK HM2 hlo3;go_wp2
 go_ret
 refine ⟨?_,⟨(za MZ3).zj0,?_,?_⟩,za D3⟩
 ·rw [za HKF];exact congrArg (fun x=>Ending.returned (Value.int .i64 x)) (by omega)
 ·rw [za HKE];exact za HM3
 ·rw [za HKE];exact za HH3
set_option maxRecDepth 100000 in
set_option maxHeartbeats 1000000 in
theorem heldSp_any (u:Pl.Sp) (w:World) (hs:Sm u) (h:Mk8 w u):
  Calls Tryz.prog 39 #[.agg u.cs, .int .i64 1] w fun e w'=>e= .returned (.int .i64 (kF u:Int))∧Below w.heap.size w w':=by
 obtain ⟨hk1,hk0⟩:=kZ_small hs;have hM:=hs.m;have hH:=hs.h;have c1:=hide (fun W (b:Below w.heap.size w W)=>WMkY.zf4 u.ia u.ic u.N W hs.n (fun x hx=>⟨(hs.i x hx).1,(hs.i x hx).2.2⟩) (h.call b).i);have c2:=hide (fun W (b:Below w.heap.size w W)=>WMkM.zf4 u.ma u.M.length u.mc (Pl.kZ 1 u.N u.N.length) W (by omega) hk0 (by omega) (h.call b).m);have c3:=hide (fun W (b:Below w.heap.size w W)=>WMkH.zf4 u.ha u.H.length u.hc (Pl.kZ 1 u.N u.N.length+3*u.M.length) W (by omega) (by omega) (by omega) (h.call b).h);have HKF:Hid (kF u=Pl.kZ 1 u.N u.N.length+3*u.M.length+3*u.H.length):=hide rfl;generalize kF u=KF at HKF ⊢;generalize Pl.kZ 1 u.N u.N.length=K1 at c1 c2 c3 HKF hk0 hk1;clear hs h;unfold Pl.Sp.cs;have b0:=(Below.refl w.heap.size w).alloc (o:= .cells #[.slice u.ia u.N.length u.ic, .slice u.ma u.M.length u.mc, .slice u.ha u.H.length u.hc, .int .i64 u.next] 32) (Nat.le_refl _)
 have V0:=hide (Mem.Blk.new w #[.slice u.ia u.N.length u.ic, .slice u.ma u.M.length u.mc, .slice u.ha u.H.length u.hc, .int .i64 u.next] 32);have a0:=(za V0).cell 0;simp only [kGs] at a0;go_enter Tryz.func39,Tryz.ntmps39
 go_wp2_with fail
 generalize w.alloc (.cells #[.slice u.ia u.N.length u.ic, .slice u.ma u.M.length u.mc, .slice u.ha u.H.length u.hc, .int .i64 u.next] 32)=wA at b0 V0 a0 ⊢;refine (za c1 _ b0).mono ?_;rintro e w1 ⟨rfl,bX⟩;have b1:=b0.trans (bX.mono b0.size);have V1:=hide ((za V0).call bX);have n1:¬ (K1:Int)<0:=by omega
 clear c1 bX V0 b0 a0;have a1:=(za V1).cell 1;simp only [kGs] at a1;go_wp2_with fail
 refine (za c2 _ b1).mono ?_;rintro e w2 ⟨rfl,bX⟩;have b2:=b1.trans (bX.mono b1.size);have V2:=hide ((za V1).call bX);have n2:¬ ((K1+3*u.M.length:Nat):Int)<0:=by omega
 clear c2 bX V1 b1 a1;have a2:=(za V2).cell 2;simp only [kGs] at a2;generalize K1+3*u.M.length=K2 at c3 n2 HKF ⊢;go_wp2_with fail
 refine (za c3 _ b2).mono ?_;rintro e w3 ⟨rfl,bX⟩;have b3:=b2.trans (bX.mono b2.size);have n3:¬ ((K2+3*u.H.length:Nat):Int)<0:=by omega
 clear c3 bX V2 b2 a2;generalize K2+3*u.H.length=K3 at n3 HKF ⊢;go_wp2
 go_ret
 exact ⟨(by rw [za HKF];first |done|rfl),b3⟩
end WSpO
end
end Go.Proofs.YtgdjjncmocppeaaGreatDoor
