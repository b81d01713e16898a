import Derived.Test.YtgdjjncmocppeaaGreatDoorG03
import Derived.Test.YtgdjjncmocppeaaGreatDoorG02
namespace Go.Proofs.YtgdjjncmocppeaaGreatDoor
open Go.RowKit
namespace WLaw
set_option maxRecDepth 100000 in
set_option maxHeartbeats 800000 in
theorem eqItem_any (m:Int) (a b:Option Addr) (c1 c2:Nat) (L:List Pl.Nd) (w:World) (hl:L.length≤1048576) (hv:Mem.za9 w a L) (hu:Mem.za9 w b L):
  Calls Tryz.prog 119 #[.agg #[.int .i64 m, .slice a L.length c1], .agg #[.int .i64 m, .slice b L.length c2]] w fun e w'=>e= .returned (.bool true)∧Below w.heap.size w w':=by
 have b0:∀o1 o2,Below w.heap.size w ((w.alloc o1).alloc o2):=fun o1 o2=>((Below.refl _ _).alloc (Nat.le_refl _) o1).alloc (by simp) o2;have HB:=hide b0;have HZ:=hide (fun W (b':Below w.heap.size w W)=>eqTree_any a b c1 c2 L W hl (Mem.za7 hv b') (Mem.za7 hu b'));clear hv hu b0;go_enter Tryz.func119,Tryz.ntmps119
 go_wp2_with fail
 refine (za HZ _ (za HB _ _)).mono ?_;rintro e w1 ⟨rfl,b1⟩;have bb:=(za HB _ _).trans (b1.mono (za HB _ _).size);clear HZ b1;go_wp2
 go_ret
 exact ⟨rfl,bb⟩
set_option maxRecDepth 100000 in
set_option maxHeartbeats 800000 in
theorem eqItemS_any (a b:Option Addr) (c1 c2:Nat) (Ts Us:List Pl.It) (w:World) (hl:Ts.length≤1048576) (hm:Us.map Pl.It.r=Ts.map Pl.It.r) (hv:Mem.zb2 w a Ts) (hu:Mem.zb2 w b Us) (hok:∀t∈Ts,t.t.L.length≤1048576):
  Calls Tryz.prog 91 #[.slice a Ts.length c1, .slice b Ts.length c2] w fun e w'=>e= .returned (.bool true)∧Below w.heap.size w w':=by
 have HV:=hide hv;have HU:=hide hu;have HO:=hide hok;have HM:=hide hm;clear hv hu hok hm;go_enter Tryz.func91,Tryz.ntmps91
 go_wp2
 go_loopw [5] (fun i wr=>∃k:Nat,k≤Ts.length∧i= .int .i64 (k:Int)∧Below w.heap.size w wr) (fun i _=>Ts.length - (intOf i).toNat)
 case atStart=>exact ⟨0,Nat.zero_le _,rfl,Below.refl _ _⟩
 case round=>
  obtain ⟨k,hk,rfl,hbel⟩:=hrel;by_cases hlt:k<Ts.length
  ·obtain ⟨t,ht⟩:∃n,Ts[k]? =some n:=⟨_,List.getElem?_eq_getElem hlt⟩
   obtain ⟨u,hu,hum,hul⟩:∃u,Us[k]? =some u∧u.m=t.m∧u.t.L=t.t.L:=by
    have h:=congrArg (fun l=>l[k]?) (za HM);simp only [List.getElem?_map,ht,Option.map_some] at h;cases hu:Us[k]? with
    |none=>rw [hu] at h;simp at h
    |some u=>rw [hu] at h;simp [Pl.It.r] at h;exact ⟨u,rfl,h.1,h.2⟩
   obtain ⟨⟨g,o,rfl,hg,q0,q0'⟩,q1⟩:=(za HV) k t ht;obtain ⟨⟨g2,o2,rfl,hg2,p0,p0'⟩,p1⟩:=(za HU) k u hu;rw [hul] at p1;have hz:=hide (fun W (b:Below w.heap.size w W)=>eqItem_any t.m t.t.a u.t.a t.t.cap u.t.cap t.t.L W (za HO t (List.mem_of_getElem? ht)) (Mem.za7 q1 b) (Mem.za7 p1 b));have MK:Hid (∀W',Below w.heap.size w W'→(Below w.heap.size w W'∧W'.cell? ⟨g,o+k*2,none⟩=some (.int .i64 t.m)∧W'.cell? ⟨g,o+k*2+1,none⟩=some (.slice t.t.a t.t.L.length t.t.cap)∧W'.cell? ⟨g2,o2+k*2,none⟩=some (.int .i64 t.m)∧W'.cell? ⟨g2,o2+k*2+1,none⟩=some (.slice u.t.a t.t.L.length u.t.cap))):=fun W' hb'=>⟨hb',(hb'.cell (p:=⟨g,_,none⟩) hg).trans q0,(hb'.cell (p:=⟨g,_,none⟩) hg).trans (by rw [q0',Pl.Tr.val]),(hb'.cell (p:=⟨g2,_,none⟩) hg2).trans (by rw [p0,hum]),(hb'.cell (p:=⟨g2,_,none⟩) hg2).trans (by rw [p0',Pl.Tr.val,hul])⟩;have u1:(k:Int)<(Ts.length:Int):=by omega
   have u3:(0:Int)≤(k:Int):=by omega
   have hbd:Below w.heap.size w wr.drew:=⟨hbel.os,hbel.tape,hbel.output,hbel.size,hbel.block⟩;clear q0 p0 q0' p0' ht hu hul hum q1 p1;go_wp2_with fail
   go_region_held3 (fun W'=>Below w.heap.size w W'∧W'.cell? ⟨g,o+k*2,none⟩=some (.int .i64 t.m)∧W'.cell? ⟨g,o+k*2+1,none⟩=some (.slice t.t.a t.t.L.length t.t.cap)∧W'.cell? ⟨g2,o2+k*2,none⟩=some (.int .i64 t.m)∧W'.cell? ⟨g2,o2+k*2+1,none⟩=some (.slice u.t.a t.t.L.length u.t.cap)) (first |exact za MK _ hbd|exact za MK _ (hbd.trans (bX.mono hbd.size))) (first |(go_at_call 119;refine (za hz _ hbd).mono ?_;rintro e wX ⟨rfl,bX⟩))
   have hb2:=hbd.trans (bX.mono hbd.size);clear hbel hbd bX MK;go_wp2
   go_roundw
   case rel=>exact ⟨k+1,by omega,by go_num,hb2⟩
   case measure=>simp [intOf];omega
  ·have u1:¬ (k:Int)<(Ts.length:Int):=by omega
   go_wp2
   go_ret
   exact ⟨rfl,hbel⟩
end WLaw
end Go.Proofs.YtgdjjncmocppeaaGreatDoor
