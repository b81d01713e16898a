/- Several texts of one claim in one file: WMkH, OkSp, WLawK. -/
import Derived.Test.YtggadpalljhiaaaGreatDoorG05
import Derived.Test.YtggadpalljhiaaaGreatDoorG33
import Derived.Test.YtggadpalljhiaaaGreatDoorG36
import Derived.Test.YtggadpalljhiaaaGreatDoorG04
import Derived.Test.YtggadpalljhiaaaGreatDoorG27
namespace Go.Proofs.YtggadpalljhiaaaGreatDoor
section
open Go.RowKit
namespace Pl
def mkHn (K j:Nat):Pl.Hn:=⟨((K+3*j:Nat):Int),((K+3*j+1:Nat):Int),mark (K+3*j+2)⟩
def mkHns (K n:Nat):List Pl.Hn:=(List.range n).map (mkHn K)
theorem mkHns_len (K n:Nat):(mkHns K n).length=n:=by simp [mkHns]
theorem mkHns_get (K n j:Nat) (h:j<n):(mkHns K n)[j]? =some (mkHn K j):=by
 unfold mkHns;rw [List.getElem?_map,List.getElem?_range h];rfl
end Pl
namespace WMkH
def rowAt (cv:Array Value) (K j:Nat):Prop:=cv[j*3]? =some (.int .i64 ((K+3*j:Nat):Int))∧cv[j*3+1]? =some (.int .i64 ((K+3*j+1:Nat):Int))∧cv[j*3+2]? =some (.string (Pl.mark (K+3*j+2)))
theorem row_is {w:World} {g K n:Nat} {cv:Array Value} (h:w.heap[g]? =some (.cells cv 99 (0,0))) (hA:∀j,j<n→rowAt cv K j):Mem.zb9 w (some ⟨g,0,none⟩) (Pl.mkHns K n):=fun i x hi=>by
 have hl:=(List.getElem?_eq_some_iff.1 hi).1;rw [Pl.mkHns_len] at hl;rw [Pl.mkHns_get K n i hl] at hi;cases hi
 obtain ⟨h0,h1,h2⟩:=hA i hl;refine ⟨g,0,rfl,(Array.getElem?_eq_some_iff.1 h).1,?_,?_,?_⟩
 ·rw [cell_of_row w _ _ _ _ (0,0) h,Nat.zero_add];exact h0
 ·rw [cell_of_row w _ _ _ _ (0,0) h,Nat.zero_add];exact h1
 ·rw [cell_of_row w _ _ _ _ (0,0) h,Nat.zero_add];exact h2

set_option linter.unusedSimpArgs false in
set_option maxRecDepth 100000 in
set_option maxHeartbeats 1000000 in
theorem zd8 (g n cap K:Nat) (cur:Array Value) (w:World) (hn:n≤1048576) (hK:0<K) (hK2:K≤8500000000000000000) (hrow:w.heap[g]? =some (.cells cur 99 (0,0))) (hsz:n*3≤cur.size):
  Calls Tryz.prog 49 #[.slice (some ⟨g,0,none⟩) n cap, .int .i64 (K:Int)] w fun e w'=>e= .returned (.int .i64 ((K+3*n:Nat):Int))∧
   (∃cur',w'.heap[g]? =some (.cells cur' 99 (0,0))∧cur'.size=cur.size)∧Mem.zb9 w' (some ⟨g,0,none⟩) (Pl.mkHns K n)∧w.grownBy w' (some g):=by
 have HR0:=hide hrow;have HS0:=hide hsz;clear hrow hsz;go_enter Tryz.func49,Tryz.ntmps49
 go_wp2
 go_loopw [1,5] (fun a i wr=>∃ (k q:Nat) (cv:Array Value),k≤n∧q=K+3*k∧i= .int .i64 (k:Int)∧a= .int .i64 (q:Int)∧Hid (wr.heap[g]? =some (.cells cv 99 (0,0)))∧Hid (cv.size=cur.size)∧Hid (w.grownBy wr (some g))∧
   Hid (∀j,j<k→rowAt cv K j)) (fun _ i _=>n - (intOf i).toNat)
 case atStart=>exact ⟨0,K,cur,Nat.zero_le _,rfl,rfl,rfl,HR0,rfl,⟨rfl,rfl,rfl,Nat.le_refl _,fun _ _ _=>rfl⟩,fun j h=>absurd h (by omega)⟩
 case round=>
  obtain ⟨k,q,cv,hk,hq,rfl,rfl,HR,HS,HG,HA⟩:=hrel;by_cases hlt:k<n
  ·have y1:(k:Int)<(n:Int):=by omega
   have y3:(0:Int)≤(k:Int):=by omega
   have HM:=hide (fun W=>zm4.zd8 (q+2) W (by omega) (by omega));rw [show ((q+2:Nat):Int)=(q:Int)+1+1 by omega] at HM;have HQ:=hide hq;have q1:(q:Int)≤9000000000000000000:=by omega
   clear hq;have hcz:n*3≤cv.size:=by rw [za HS];exact za HS0
   have HCZ:=hide hcz;clear hcz;have hg:g<wr.heap.size:=(Array.getElem?_eq_some_iff.1 (za HR)).1;have hcz:=za HCZ;have s0:∃x,wr.cell? ⟨g,k*3,none⟩=some x:=⟨_,(cell_of_row wr _ (k*3) _ _ (0,0) (za HR)).trans (Array.getElem?_eq_getElem (by omega))⟩;have s1:∃x,wr.cell? ⟨g,k*3+1,none⟩=some x:=⟨_,(cell_of_row wr _ (k*3+1) _ _ (0,0) (za HR)).trans (Array.getElem?_eq_getElem (by omega))⟩;obtain ⟨x0,s0⟩:=s0;obtain ⟨x1,s1⟩:=s1;have f0:∀j,wr.frozen? ⟨g,j,none⟩=false:=fun j=>Mem.zb1 (za HR);clear hcz hg;go_wp2_with fail
   have HR1:=hide (heap_setCell_same _ _ (k*3+1) _ _ (.int .i64 ((q:Int)+1)) (heap_setCell_same _ _ (k*3) _ _ (.int .i64 (q:Int)) (za HR)));have HG1:=hide (zh6.zc4 (o:=k*3+1) (x:= .int .i64 ((q:Int)+1)) (zh6.zc4 (o:=k*3) (x:= .int .i64 (q:Int)) (za HG)));refine (za HM _).mono ?_;rintro e w2 ⟨rfl,b2⟩;have HR2:=hide ((b2.block _ (Array.getElem?_eq_some_iff.1 (za HR1)).1).trans (za HR1));have HG2:=hide (zh6.zp9 (za HG1) b2);have hcz:=za HCZ;have s2:∃x,w2.cell? ⟨g,k*3+2,none⟩=some x:=⟨_,(cell_of_row w2 _ (k*3+2) _ _ (0,0) (za HR2)).trans (Array.getElem?_eq_getElem (by simp;omega))⟩;obtain ⟨x2,s2⟩:=s2;have f2:∀j,w2.frozen? ⟨g,j,none⟩=false:=fun j=>Mem.zb1 (za HR2);clear b2 HR HG HR1 HG1 hcz HM s0 s1 f0;go_wp2
   go_roundw
   case rel=>
    refine ⟨k+1,q+3,_,by omega,by have :=za HQ;omega,by go_num,by go_num,hide (heap_setCell_same _ _ (k*3+2) _ _ _ (za HR2)),?_,hide (zh6.zc4 (za HG2)),?_⟩
    ·exact hide (by simpa using za HS)
    ·intro j hj;have hcz:=za HCZ
     rcases Nat.lt_succ_iff_lt_or_eq.1 hj with h''|rfl
     ·obtain ⟨i0,i1,i2⟩:=HA.out j h'';simp only [rowAt,Array.getElem?_setIfInBounds];refine ⟨?_,?_,?_⟩ <;> (repeat (rw [if_neg (by omega)])) <;> assumption
     ·have hq:=za HQ;simp only [rowAt,Array.getElem?_setIfInBounds,Array.size_setIfInBounds,←hq];refine ⟨?_,?_,?_⟩ <;> simp <;> omega
   case measure=>simp [intOf];omega
  ·obtain rfl:k=n:=by omega
   have y1:¬ (k:Int)<(k:Int):=by omega
   have hq2:(q:Int)=((K+3*k:Nat):Int):=by omega
   have HQ:=hide hq2;have HI:=hide (row_is (za HR) (za HA));clear hq hq2;go_wp2
   go_ret
   exact ⟨(by rw [za HQ];first |done|rfl),⟨cv,za HR,za HS⟩,za HI,za HG⟩
end WMkH
end
section
open Go.RowKit
namespace zb
structure OkS (s:Pl.Sp) (K:Nat):Prop where
 n:s.N.length≤K
 m:s.M.length≤K
 h:s.H.length≤K
 each:∀x∈s.N,x.Is.length≤K∧∀t∈x.Is,t.t.L.length≤K∧∀n∈t.t.L,n.path.size≤K∧n.data.size≤K
 mp:∀x∈s.M,x.p.size≤K
 hp:∀x∈s.H,x.p.size≤K
end zb
end
section
open Go.RowKit
namespace WLaw
set_option maxRecDepth 100000 in
set_option maxHeartbeats 800000 in
theorem eqItem_any (m:Int) (a b:Option Addr) (c1 c2:Nat) (L:List Pl.Nd) (w:World) (hl:L.length≤1048576) (hv:Mem.za7 w a L) (hu:Mem.za7 w b L):
  Calls Tryz.prog 23 #[.agg #[.int .i64 m, .slice a L.length c1], .agg #[.int .i64 m, .slice b L.length c2]] w fun e w'=>e= .returned (.bool true)∧Below w.heap.size w w':=by
 have b0:∀o1 o2,Below w.heap.size w ((w.alloc o1).alloc o2):=fun o1 o2=>((Below.refl _ _).alloc (Nat.le_refl _) o1).alloc (by simp) o2;have HB:=hide b0;have HZ:=hide (fun W (b':Below w.heap.size w W)=>eqTree_any a b c1 c2 L W hl (Mem.za8 hv b') (Mem.za8 hu b'));clear hv hu b0;go_enter Tryz.func23,Tryz.ntmps23
 go_wp2_with fail
 refine (za HZ _ (za HB _ _)).mono ?_;rintro e w1 ⟨rfl,b1⟩;have bb:=(za HB _ _).trans (b1.mono (za HB _ _).size);clear HZ b1;go_wp2
 go_ret
 exact ⟨rfl,bb⟩
set_option maxRecDepth 100000 in
set_option maxHeartbeats 800000 in
theorem eqItemS_any (a b:Option Addr) (c1 c2:Nat) (Ts Us:List Pl.It) (w:World) (hl:Ts.length≤1048576) (hm:Us.map Pl.It.r=Ts.map Pl.It.r) (hv:Mem.zb0 w a Ts) (hu:Mem.zb0 w b Us) (hok:∀t∈Ts,t.t.L.length≤1048576):
  Calls Tryz.prog 9 #[.slice a Ts.length c1, .slice b Ts.length c2] w fun e w'=>e= .returned (.bool true)∧Below w.heap.size w w':=by
 have HV:=hide hv;have HU:=hide hu;have HO:=hide hok;have HM:=hide hm;clear hv hu hok hm;go_enter Tryz.func9,Tryz.ntmps9
 go_wp2
 go_loopw [5] (fun i wr=>∃k:Nat,k≤Ts.length∧i= .int .i64 (k:Int)∧Below w.heap.size w wr) (fun i _=>Ts.length - (intOf i).toNat)
 case atStart=>exact ⟨0,Nat.zero_le _,rfl,Below.refl _ _⟩
 case round=>
  obtain ⟨k,hk,rfl,hbel⟩:=hrel;by_cases hlt:k<Ts.length
  ·obtain ⟨t,ht⟩:∃n,Ts[k]? =some n:=⟨_,List.getElem?_eq_getElem hlt⟩
   obtain ⟨u,hu,hum,hul⟩:∃u,Us[k]? =some u∧u.m=t.m∧u.t.L=t.t.L:=by
    have h:=congrArg (fun l=>l[k]?) (za HM);simp only [List.getElem?_map,ht,Option.map_some] at h;cases hu:Us[k]? with
    |none=>rw [hu] at h;simp at h
    |some u=>rw [hu] at h;simp [Pl.It.r] at h;exact ⟨u,rfl,h.1,h.2⟩
   obtain ⟨⟨g,o,rfl,hg,q0,q0'⟩,q1⟩:=(za HV) k t ht;obtain ⟨⟨g2,o2,rfl,hg2,p0,p0'⟩,p1⟩:=(za HU) k u hu;rw [hul] at p1;have hz:=hide (fun W (b:Below w.heap.size w W)=>eqItem_any t.m t.t.a u.t.a t.t.cap u.t.cap t.t.L W (za HO t (List.mem_of_getElem? ht)) (Mem.za8 q1 b) (Mem.za8 p1 b));have MK:Hid (∀W',Below w.heap.size w W'→(Below w.heap.size w W'∧W'.cell? ⟨g,o+k*2,none⟩=some (.int .i64 t.m)∧W'.cell? ⟨g,o+k*2+1,none⟩=some (.slice t.t.a t.t.L.length t.t.cap)∧W'.cell? ⟨g2,o2+k*2,none⟩=some (.int .i64 t.m)∧W'.cell? ⟨g2,o2+k*2+1,none⟩=some (.slice u.t.a t.t.L.length u.t.cap))):=fun W' hb'=>⟨hb',(hb'.cell (p:=⟨g,_,none⟩) hg).trans q0,(hb'.cell (p:=⟨g,_,none⟩) hg).trans (by rw [q0',Pl.Tr.val]),(hb'.cell (p:=⟨g2,_,none⟩) hg2).trans (by rw [p0,hum]),(hb'.cell (p:=⟨g2,_,none⟩) hg2).trans (by rw [p0',Pl.Tr.val,hul])⟩;have u1:(k:Int)<(Ts.length:Int):=by omega
   have u3:(0:Int)≤(k:Int):=by omega
   have hbd:Below w.heap.size w wr.drew:=⟨hbel.os,hbel.tape,hbel.output,hbel.size,hbel.block⟩;clear q0 p0 q0' p0' ht hu hul hum q1 p1;go_wp2_with fail
   go_region_held3 (fun W'=>Below w.heap.size w W'∧W'.cell? ⟨g,o+k*2,none⟩=some (.int .i64 t.m)∧W'.cell? ⟨g,o+k*2+1,none⟩=some (.slice t.t.a t.t.L.length t.t.cap)∧W'.cell? ⟨g2,o2+k*2,none⟩=some (.int .i64 t.m)∧W'.cell? ⟨g2,o2+k*2+1,none⟩=some (.slice u.t.a t.t.L.length u.t.cap)) (first |exact za MK _ hbd|exact za MK _ (hbd.trans (bX.mono hbd.size))) (first |(go_at_call 23;refine (za hz _ hbd).mono ?_;rintro e wX ⟨rfl,bX⟩))
   have hb2:=hbd.trans (bX.mono hbd.size);clear hbel hbd bX MK;go_wp2
   go_roundw
   case rel=>exact ⟨k+1,by omega,by go_num,hb2⟩
   case measure=>simp [intOf];omega
  ·have u1:¬ (k:Int)<(Ts.length:Int):=by omega
   go_wp2
   go_ret
   exact ⟨rfl,hbel⟩
end WLaw
end
end Go.Proofs.YtggadpalljhiaaaGreatDoor
