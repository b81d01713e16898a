import Derived.Test.YtpggbphcbcogdaaGreatDoorKit
import Derived.Test.YtpggbphcbcogdaaGreatDoorMemTexts
import Derived.Test.YtpggbphcbcogdaaGreatDoorWMk1
namespace Go.Proofs.YtpggbphcbcogdaaGreatDoor
open Go.RowKit
namespace zo3
set_option maxRecDepth 100000 in
set_option maxHeartbeats 400000 in
theorem eq_any (v u:Value) (A:List ByteArray) (w:World) (hA:A.length≤1000) (hv:Mem.ze5 w v A) (hu:Mem.ze5 w u A):
  Calls Tryz.prog 8 #[v,u] w fun e w'=>e= .returned (.bool true)∧Below w.heap.size w w':=by
 obtain ⟨va,vc,rfl⟩:=Mem.zh0 hv;obtain ⟨ua,uc,rfl⟩:=Mem.zh0 hu
 have HCA:Hid (∀ (k:Nat) x,A[k]? =some x→∃b o,va=some ⟨b,o,none⟩∧b<w.heap.size∧w.cell? ⟨b,o+k,none⟩=some (.string x)):=fun k x hx=>by
  rcases hv with ⟨_,rfl⟩|⟨b,o,cap,h1,h2,h3⟩
  ·simp at hx
  ·cases h1;exact ⟨b,o,rfl,h2,h3 k x hx⟩
 have HCB:Hid (∀ (k:Nat) x,A[k]? =some x→∃b o,ua=some ⟨b,o,none⟩∧b<w.heap.size∧w.cell? ⟨b,o+k,none⟩=some (.string x)):=fun k x hx=>by
  rcases hu with ⟨_,rfl⟩|⟨b,o,cap,h1,h2,h3⟩
  ·simp at hx
  ·cases h1;exact ⟨b,o,rfl,h2,h3 k x hx⟩
 clear hv hu;go_enter Tryz.func8,Tryz.ntmps8
 go_wp2
 go_loopw [5] (fun i wr=>∃k:Nat,k≤A.length∧i= .int .i64 (k:Int)∧Below w.heap.size w wr) (fun i _=>A.length - (intOf i).toNat)
 case atStart=>exact ⟨0,Nat.zero_le _,rfl,Below.refl _ _⟩
 case round=>
  obtain ⟨k,hk,rfl,hbel⟩:=hrel;by_cases hlt:k<A.length
  ·obtain ⟨x,hx⟩:∃x,A[k]? =some x:=⟨_,List.getElem?_eq_getElem (by omega)⟩;obtain ⟨b,o,rfl,hb,hcb⟩:=HCB.out k x hx;obtain ⟨b',o',rfl,hb',hca⟩:=HCA.out k x hx;have hc1:wr.cell? ⟨b,o+k,none⟩=some (.string x):=(hbel.cell (p:=⟨b,o+k,none⟩) hb).trans hcb;have hc2:wr.cell? ⟨b',o'+k,none⟩=some (.string x):=(hbel.cell (p:=⟨b',o'+k,none⟩) hb').trans hca;have u1:(k:Int)<(A.length:Int):=by omega
   have u3:(0:Int)≤(k:Int):=by omega
   clear hcb hca hx HCA HCB;go_wp2
   go_quiet (fail)
   go_wp2
   go_roundw
   case rel=>exact ⟨k+1,by omega,by go_num,Mem.below_drewN hbel _⟩
   case measure=>simp [intOf];omega
  ·go_wp2
   go_ret
   exact ⟨rfl,hbel⟩

set_option maxRecDepth 100000 in
set_option maxHeartbeats 400000 in
theorem lay_any (B g n cap K:Nat) (xs:List Value) (w:World) (hn:n≤1000) (hK:0<K) (hK2:K≤1000) (hown:w.ownsRow B 9 1 (.slice (some ⟨g,0,none⟩) n cap) n xs):
  Calls Tryz.prog 11 #[.slice (some ⟨g,0,none⟩) n cap, .int .i64 (K:Int)] w fun e w'=>e= .returned (.int .i64 ((K+n:Nat):Int))∧
   w'.ownsRow B 9 1 (.slice (some ⟨g,0,none⟩) n cap) n ((Pl.marks K n).map Value.string)∧w.grownBy w' (some g):=by
 have hlt0:=hown.lt g rfl;go_enter Tryz.func11,Tryz.ntmps11
 go_wp2
 go_loopw [1,5] (fun a i wr=>∃ (k:Nat) (ys:List Value),k≤n∧i= .int .i64 (k:Int)∧a= .int .i64 ((K+k:Nat):Int)∧wr.ownsRow B 9 1 (.slice (some ⟨g,0,none⟩) n cap) n ys∧w.grownBy wr (some g)∧
   Hid (ys.take k=(Pl.marks K k).map Value.string)) (fun _ i _=>n - (intOf i).toNat)
 case atStart=>exact ⟨0,xs,Nat.zero_le _,rfl,rfl,hown,⟨rfl,rfl,rfl,Nat.le_refl _,fun _ _ _=>rfl⟩,rfl⟩
 case round=>
  obtain ⟨k,ys,hk,rfl,rfl,hown1,hgr,HX⟩:=hrel;have hsz:=hgr.size;have hyl:ys.length=n:=by have :=hown1.1;omega
  by_cases hlt:k<n
  ·have u1:(k:Int)<(n:Int):=by omega
   have HM:=hide (fun W=>zm6 (K+k) W (by omega) (by omega))
   have HM2:Hid ((Pl.marks K (k+1)).map Value.string=(Pl.marks K k).map Value.string++[Value.string (Pl.mark (K+k))]):=by
    show _=_;rw [Pl.marks,List.map_append];rfl
   generalize Pl.mark (K+k)=t at HM HM2;go_wp2_with fail
   refine (za HM _).mono ?_;rintro e w2 ⟨rfl,hb2⟩;have hown2:=Mem.zc8 hown1 hb2;obtain ⟨hown3,hgr3⟩:=hown2.stored k (.string t)
   have hce:w2.cell? ⟨g,k,none⟩=some ys[k]:=by
    rw [hown2.cellAt k (by omega),List.getElem?_eq_getElem (by omega)]
   have hfr:=hown2.frozenAt k
   have hgr4:w.grownBy (w2.setCell ⟨g,k,none⟩ (.string t)) (some g):=
    ⟨hgr3.os.trans (hb2.os.trans hgr.os),hgr3.tape.trans (hb2.tape.trans hgr.tape),hgr3.output.trans (hb2.output.trans hgr.output),Nat.le_trans hsz (Nat.le_trans hb2.size hgr3.size),
     fun j hj hne=>(hgr3.block j (by have :=hb2.size;omega) hne).trans ((hb2.block j (by omega)).trans (hgr.block j hj hne))⟩
   have H3:Hid ((ys.set k (.string t)).take (k+1)=(Pl.marks K (k+1)).map Value.string):=by
    show _=_;rw [za HM2,←HX.out,List.take_add_one,List.take_set_of_le (by omega),List.getElem?_set_self (by omega)];rfl
   have HO3:=hide hown3;have HG4:=hide hgr4;clear hown1 hown2 hb2 hgr hgr3 HX hown3 hgr4 HM HM2;go_wp2
   go_roundw
   case rel=>exact ⟨k+1,_,by omega,by go_num,by go_num,za HO3,za HG4,H3⟩
   case measure=>simp [intOf];omega
  ·obtain rfl:k=n:=by omega
   have H2:Hid (ys=(Pl.marks K k).map Value.string):=by
    show _=_;have h1:=HX.out
    rwa [List.take_of_length_le (by omega)] at h1
   have HO:=hide hown1;have HG:=hide hgr;clear hown1 hgr;go_wp2
   go_ret
   exact ⟨rfl,by rw [←za H2];exact za HO,za HG⟩

set_option maxRecDepth 100000 in
set_option maxHeartbeats 400000 in
theorem held_any (v:Value) (n K:Nat) (w:World) (hn:n≤1000) (hK:0<K) (hK2:K≤1000) (hv:Mem.ze5 w v (Pl.marks K n)):
  Calls Tryz.prog 12 #[v, .int .i64 (K:Int)] w fun e w'=>e= .returned (.int .i64 ((K+n:Nat):Int))∧Below w.heap.size w w':=by
 have hsh:=Mem.zh0 hv;rw [Pl.zh5] at hsh;obtain ⟨va,vc,rfl⟩:=hsh
 have HCA:Hid (∀ (k:Nat),k<n→∃b o,va=some ⟨b,o,none⟩∧b<w.heap.size∧w.cell? ⟨b,o+k,none⟩=some (.string (Pl.mark (K+k)))):=fun k hk=>by
  have hx:=Pl.marks_get K n k hk
  rcases hv with ⟨_,h0⟩|⟨b,o,cap,h1,h2,h3⟩
  ·rw [h0] at hx;simp at hx
  ·rw [Pl.zh5] at h1;cases h1;exact ⟨b,o,rfl,h2,h3 k _ hx⟩
 clear hv;go_enter Tryz.func12,Tryz.ntmps12
 go_wp2
 go_loopw [1,5] (fun a i wr=>∃ (k:Nat),k≤n∧i= .int .i64 (k:Int)∧a= .int .i64 ((K+k:Nat):Int)∧Below w.heap.size w wr) (fun _ i _=>n - (intOf i).toNat)
 case atStart=>exact ⟨0,Nat.zero_le _,rfl,rfl,Below.refl _ _⟩
 case round=>
  obtain ⟨k,hk,rfl,rfl,hbel⟩:=hrel;have hsz:=hbel.size;by_cases hlt:k<n
  ·have u1:(k:Int)<(n:Int):=by omega
   have u3:(0:Int)≤(k:Int):=by omega
   have HM:=hide (fun W=>zm6 (K+k) W (by omega) (by omega));obtain ⟨b,o,rfl,hb,hca⟩:=HCA.out k hlt;have hc:wr.cell? ⟨b,o+k,none⟩=some (.string (Pl.mark (K+k))):=(hbel.cell (p:=⟨b,o+k,none⟩) hb).trans hca;have hbr:b<wr.heap.size:=by omega
   generalize Pl.mark (K+k)=t at HM hc hca;clear hca HCA;go_wp2
   go_region_held3 (fun w'=>w'.cell? ⟨b,o+k,none⟩=some (.string t)) (first |(go_keep;done)|exact (b2.cell (p:=⟨b,o+k,none⟩) (by simpa using hbr)).trans (by simpa using hc)) ((go_at_call 27;refine (za HM _).mono ?_;rintro e w' ⟨rfl,b2⟩))
   have hbel2:Below w.heap.size w w':=hbel.drew.trans (b2.mono hsz);clear b2 hbel HM;go_wp2
   go_roundw
   case rel=>exact ⟨k+1,by omega,by go_num,by go_num,hbel2⟩
   case measure=>simp [intOf];omega
  ·obtain rfl:k=n:=by omega
   go_wp2
   go_ret
   exact ⟨rfl,hbel⟩
end zo3
end Go.Proofs.YtpggbphcbcogdaaGreatDoor
