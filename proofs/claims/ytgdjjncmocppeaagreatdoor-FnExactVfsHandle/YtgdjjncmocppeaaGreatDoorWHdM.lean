import Derived.Test.YtgdjjncmocppeaaGreatDoorG17
import Derived.Deep.Cut
namespace Go.Proofs.YtgdjjncmocppeaaGreatDoor
open Go.RowKit
namespace WMkM
set_option linter.unusedSimpArgs false in
set_option maxRecDepth 100000 in
set_option maxHeartbeats 2000000 in
theorem zf4 (a:Option Addr) (n cap K:Nat) (w:World) (hn:n≤1048576) (hK:0<K) (hK2:K≤1000000) (hv:Mem.zb8 w a (Pl.zr0 K n)):
  Calls Tryz.prog 66 #[.slice a n cap, .int .i64 (K:Int)] w fun e w'=>e= .returned (.int .i64 ((K+3*n:Nat):Int))∧Below w.heap.size w w':=by
 have HV:=hide hv;clear hv;go_enter Tryz.func66,Tryz.ntmps66
 go_wp2
 go_loopw [1,5] (fun v i wr=>∃ (k q:Nat),k≤n∧q=K+3*k∧i= .int .i64 (k:Int)∧v= .int .i64 (q:Int)∧Below w.heap.size w wr) (fun _ i _=>n - (intOf i).toNat)
 case atStart=>exact ⟨0,K,Nat.zero_le _,rfl,rfl,rfl,Below.refl _ _⟩
 case round=>
  obtain ⟨k,q,hk,hq,rfl,rfl,hbel⟩:=hrel;by_cases hlt:k<n
  ·have y1:(k:Int)<(n:Int):=by omega
   have y3:(0:Int)≤(k:Int):=by omega
   have hg0:=Pl.mkMns_get K n k hlt;simp only [Pl.mkMn,←hq] at hg0;obtain ⟨g,o,rfl,hg,c0,c1,c2⟩:=(Mem.zd8 (za HV) hbel) k _ hg0;simp only at c0 c1 c2;rw [show ((q+1:Nat):Int)=(q:Int)+1 by omega] at c1;rw [←Pl.third_is] at c2;have HM:=hide (fun W=>zp7.ze0 q W (by omega) (by omega));have HQ:=hide hq;have q1:(q:Int)≤100000000:=by omega
   clear hq hg0;have MK:Hid (∀W',Below wr.heap.size wr W'→(Below wr.heap.size wr W'∧W'.cell? ⟨g,o+k*3,none⟩=some (.string (Pl.mark q)))):=fun W' b=>⟨b,(b.cell (p:=⟨g,_,none⟩) hg).trans c0⟩;go_upto_region 4 with fail
   refine RG MK (bD _) fun hHeld=>?_;generalize wr.drew=D0 at hHeld ⊢;refine TB 0 ?_;refine TB 1 ?_;refine TB 2 ?_;refine TB 3 ?_;refine TB 4 ?_;refine TB 5 ?_;refine RN 6 fun K hK=>?_;go_simp
   refine (za HM _).mono ?_;rintro e D1 ⟨rfl,bX⟩;refine hK.out _ _ ?_ (fun hHeld=>?_)
   ·exact za MK _ (hHeld.1.trans (bX.mono hHeld.1.size))
   clear hK K bX
   try simp only [Act.put,kBs]
   refine TB 7 ?_;refine wpAnyH_done (by kernel_rfl) ?_ _;have b1:=hHeld.1;clear hHeld;have bN:=hbel.trans (b1.mono hbel.size);replace c1:=(b1.cell (p:=⟨g,_,none⟩) hg).trans c1;replace c2:=(b1.cell (p:=⟨g,_,none⟩) hg).trans c2;clear c0 MK b1;go_wp2
   go_roundw
   case rel=>exact ⟨k+1,q+3,by omega,by have :=za HQ;omega,by go_num,by go_num,bN⟩
   case measure=>simp [intOf];omega
  ·obtain rfl:k=n:=by omega
   have y1:¬ (k:Int)<(k:Int):=by omega
   have hq2:(q:Int)=((K+3*k:Nat):Int):=by omega
   have HQ:=hide hq2;clear hq hq2;go_wp2
   go_ret
   exact ⟨(by rw [za HQ];first |done|rfl),hbel⟩
end WMkM
end Go.Proofs.YtgdjjncmocppeaaGreatDoor
