import Derived.Test.YtgdjjncmocppeaaGreatDoorPlainMkZ
import Derived.Test.YtgdjjncmocppeaaGreatDoorG17
import Derived.Deep.Cut
namespace Go.Proofs.YtgdjjncmocppeaaGreatDoor
open Go.RowKit
namespace WMkY
set_option linter.unusedSimpArgs false in
set_option maxRecDepth 100000 in
set_option maxHeartbeats 2000000 in
theorem zf4 (a:Option Addr) (cap:Nat) (N:List Pl.Ns) (w:World) (hn:N.length≤12) (hI:∀x∈N,x.Is.length≤12∧∀t∈x.Is,t.t.L.length≤40) (hv:Mem.zf8 w a (Pl.mkZ 1 N N.length)):
  Calls Tryz.prog 65 #[.slice a N.length cap, .int .i64 1] w fun e w'=>e= .returned (.int .i64 (Pl.kZ 1 N N.length:Int))∧Below w.heap.size w w':=by
 have HV:=hide hv;have HI:=hide hI;clear hv hI;go_enter Tryz.func65,Tryz.ntmps65
 go_wp2
 go_loopw [1,5] (fun v i wr=>∃j:Nat,j≤N.length∧i= .int .i64 (j:Int)∧v= .int .i64 (Pl.kZ 1 N j:Int)∧Below w.heap.size w wr) (fun _ i _=>N.length - (intOf i).toNat)
 case atStart=>exact ⟨0,Nat.zero_le _,rfl,rfl,Below.refl _ _⟩
 case round=>
  obtain ⟨j,hj,rfl,rfl,hbel⟩:=hrel;by_cases hlt:j<N.length
  ·obtain ⟨x,hx⟩:∃x,N[j]? =some x:=⟨_,List.getElem?_eq_getElem hlt⟩;obtain ⟨hI1,hI2⟩:=za HI x (List.mem_of_getElem? hx);have hk1:=Pl.kZ_le 1 N (za HI) j (by omega);have hk0:=Pl.kZ_ge 1 N j;have HKS:Hid (Pl.kZ 1 N (j+1)=Pl.kAt (Pl.kZ 1 N j+1) x.Is x.Is.length):=hide (Pl.kZ_succ hx);have hy2:(Pl.mkZ 1 N N.length)[j]? =some (Pl.mkN1 (Pl.kZ 1 N j) x):=by rw [Pl.zo8,hx,Option.map_some,if_pos hlt]
   obtain ⟨⟨g,o,rfl,hg,c0,c1⟩,hit⟩:=(Mem.zf1 (za HV) hbel) j _ hy2
   have hk3:∀i,i≤x.Is.length→Pl.kAt (Pl.kZ 1 N j+1) x.Is i≤100000:=fun i hi=>by
    have :=Pl.kAt_le (Pl.kZ 1 N j+1) x.Is hI2 i hi;omega
   have hkb:Pl.kZ 1 N j≤100000:=by omega
   simp only [Pl.mkN1,Pl.zu6] at c0 c1 hit;have hml:=hide (WMarkI.zf4 x.a x.cap (Pl.kZ 1 N j+1) x.Is wr (by omega) (fun t ht=>by have :=hI2 t ht;omega) (by omega) hk3 hit);have hKE:=Pl.kAt_ge (Pl.kZ 1 N j+1) x.Is x.Is.length;generalize Pl.kAt (Pl.kZ 1 N j+1) x.Is x.Is.length=KE at HKS hml hKE;generalize Pl.kZ 1 N j=KJ at hk1 hk0 HKS hml c0 hkb hKE ⊢;have eK:((KJ+1:Nat):Int)=(KJ:Int)+1:=by omega
   rw [eK] at hml;have u1:(j:Int)<(N.length:Int):=by omega
   have u3:(0:Int)≤(j:Int):=by omega
   have u4:¬ (KE:Int)<0:=by omega
   clear hk3 hx hy2 eK hI1 hI2 hk1 hit hKE;go_wp2_with fail
   refine (za hml).mono ?_;rintro e w2 ⟨rfl,b2⟩;have bN:=hbel.trans (b2.mono hbel.size);clear hml b2 c0 c1;go_wp2
   go_roundw
   case rel=>exact ⟨j+1,by omega,by go_num,by rw [za HKS],bN⟩
   case measure=>simp [intOf];omega
  ·have u1:¬ (j:Int)<(N.length:Int):=by omega
   have hje:j=N.length:=by omega
   subst hje;go_wp2
   go_ret
   exact ⟨rfl,hbel⟩
end WMkY
end Go.Proofs.YtgdjjncmocppeaaGreatDoor
