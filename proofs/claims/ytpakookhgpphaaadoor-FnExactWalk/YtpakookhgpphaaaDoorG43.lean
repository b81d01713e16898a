/- Several texts of one claim in one file: WLawR, WLawI, MemFar. -/
import Derived.Test.YtpakookhgpphaaaDoorG14
import Derived.Test.YtpakookhgpphaaaDoorG06
import Derived.Test.YtpakookhgpphaaaDoorG42
import Derived.Outline
import Derived.Deep.QuietTactic
import Derived.BigQuiet
import Derived.Deep.RegionHeld3
import Derived.Laws.AppendOwn
namespace Go.Proofs.YtpakookhgpphaaaDoor
section
open Go.RowKit
namespace WLaw
set_option maxRecDepth 100000 in
set_option maxHeartbeats 400000 in
theorem szNodeS_left (a:Option Addr) (cap:Nat) (L:List Pl.Nd) (left:Int) (hf0:0≤left) (hf1:left≤1048576) (w:World) (hl:L.length≤maxLen) (hv:Mem.za7 w a L) (hok:∀n∈L,n.path.size≤maxLen∧n.data.size≤maxLen):
  Calls Tryd.prog 36 #[.slice a L.length cap, .int .i64 left] w fun e w'=>(∃r:Int,e= .returned (.int .i64 r)∧(r= -1∨0≤r∧r≤1048576∧L.length≤1048576∧∀n∈L,n.path.size≤1048576∧n.data.size≤1048576))∧Below w.heap.size w w':=by
 have hl2:=hl;unfold maxLen at hl2;by_cases h0:left<(L.length:Int)
 ·have t0:left - (L.length:Int)<0:=by omega
  have t1:IntKind.i64.wrap (left - (L.length:Int))=left - (L.length:Int):=by rw [IntKind.wrap_i64];omega
  go_enter Tryd.func36,Tryd.ntmps36
  go_wp2
  go_ret
  exact ⟨⟨-1,rfl, .inl rfl⟩,Below.refl _ _⟩
 have t0:¬left - (L.length:Int)<0:=by omega
 have t1:IntKind.i64.wrap (left - (L.length:Int))=left - (L.length:Int):=by rw [IntKind.wrap_i64];omega
 have HV:=hide hv;have HO:=hide hok;clear hv hok;go_enter Tryd.func36,Tryd.ntmps36
 go_wp2
 go_loopw [1,5] (fun l i wr=>∃ (k:Nat) (r:Int),k≤L.length∧i= .int .i64 (k:Int)∧l= .int .i64 r∧0≤r∧r≤1048576∧Below w.heap.size w wr∧Hid (∀ (j:Nat) n,j<k→L[j]? =some n→n.path.size≤1048576∧n.data.size≤1048576)) (fun _ i _=>L.length - (intOf i).toNat)
 case atStart=>exact ⟨0,_,Nat.zero_le _,rfl,rfl,by omega,by omega,Below.refl _ _,fun j n h=>absurd h (by omega)⟩
 case round=>
  obtain ⟨k,r,hk,rfl,rfl,hr0,hr1,hbel,HA⟩:=hrel;by_cases hlt:k<L.length
  ·obtain ⟨n,hn⟩:∃n,L[k]? =some n:=⟨_,List.getElem?_eq_getElem hlt⟩;obtain ⟨b,o,rfl,hb,q0,q1,q2,q3,q4⟩:=(za HV) k n hn;have c0:=(hbel.cell (p:=⟨b,_,none⟩) hb).trans q0;have c1:=(hbel.cell (p:=⟨b,_,none⟩) hb).trans q1;have c2:=(hbel.cell (p:=⟨b,_,none⟩) hb).trans q2;have c3:=(hbel.cell (p:=⟨b,_,none⟩) hb).trans q3;have c4:=(hbel.cell (p:=⟨b,_,none⟩) hb).trans q4;have hz:=hide (fun W=>szNode_any n r W (za HO n (List.mem_of_getElem? hn)).1 (za HO n (List.mem_of_getElem? hn)).2 hr0 hr1);have HN:=hide hn;have u1:(k:Int)<(L.length:Int):=by omega
   have u3:(0:Int)≤(k:Int):=by omega
   clear q0 q1 q2 q3 q4 hn;simp only [Pl.Nd.val] at hz;go_wp2_with fail
   refine (za hz _).mono ?_;rintro e w1 ⟨⟨r1,rfl,h1⟩,b1⟩;have hb2:=hbel.trans (b1.mono hbel.size);clear b1 hbel hz
   rcases h1 with rfl |⟨h2,h3⟩
   ·go_wp2
    go_ret
    exact ⟨⟨-1,rfl, .inl rfl⟩,hb2⟩
   ·have h4:¬r1<0:=by omega
    have HA2:Hid (∀ (j:Nat) m,j<k+1→L[j]? =some m→m.path.size≤1048576∧m.data.size≤1048576):=fun j m hj h'=>by
     rcases Nat.lt_succ_iff_lt_or_eq.1 hj with h''|rfl
     ·exact HA.out j m h'' h'
     ·rw [za HN] at h';cases h';omega
    go_wp2
    go_roundw
    case rel=>exact ⟨k+1,r1,by omega,by go_num,rfl,h2,by omega,hb2,HA2⟩
    case measure=>simp [intOf];omega
  ·have u1:¬ (k:Int)<(L.length:Int):=by omega
   go_wp2
   go_ret
   exact ⟨⟨r,rfl, .inr ⟨hr0,hr1,by omega,fun n hn=>by
    obtain ⟨j,hj⟩:=List.mem_iff_getElem?.1 hn
    exact HA.out j n (by have :=(List.getElem?_eq_some_iff.1 hj).1;omega) hj⟩⟩,hbel⟩
set_option maxRecDepth 100000 in
theorem szTree_left (a:Option Addr) (cap:Nat) (L:List Pl.Nd) (left:Int) (hf0:0≤left) (hf1:left≤1048576) (w:World) (hl:L.length≤maxLen) (hv:Mem.za7 w a L) (hok:∀n∈L,n.path.size≤maxLen∧n.data.size≤maxLen):
  Calls Tryd.prog 22 #[.agg #[.slice a L.length cap], .int .i64 left] w fun e w'=>(∃r:Int,e= .returned (.int .i64 r)∧(r= -1∨0≤r∧r≤1048576∧L.length≤1048576∧∀n∈L,n.path.size≤1048576∧n.data.size≤1048576))∧Below w.heap.size w w':=by
 have b0:∀o,Below w.heap.size w (w.alloc o):=fun o=>(Below.refl _ _).alloc (Nat.le_refl _) o;have hz:=hide (fun W (b:Below w.heap.size w W)=>szNodeS_left a cap L left hf0 hf1 W hl (Mem.za8 hv b) hok);have HB:=hide b0;clear hv hok b0;go_enter Tryd.func22,Tryd.ntmps22
 go_wp2_with fail
 refine (za hz _ (za HB _)).mono ?_;rintro e w1 ⟨⟨r1,rfl,h1⟩,b1⟩;have hb2:=(za HB _).trans (b1.mono (za HB _).size);clear b1 hz
 rcases h1 with rfl |⟨h2,h3⟩
 ·go_wp2
  go_ret
  exact ⟨⟨-1,rfl, .inl rfl⟩,hb2⟩
 ·have h4:¬r1<0:=by omega
  go_wp2
  go_ret
  exact ⟨⟨r1,rfl, .inr ⟨h2,h3⟩⟩,hb2⟩
end WLaw
end
section
open Go.RowKit
namespace WLaw
set_option maxRecDepth 100000 in
theorem ya1 (x:Pl.It) (left:Int) (hf0:0≤left) (hf1:left≤1048576) (w:World) (hl:x.t.L.length≤maxLen) (hv:Mem.za7 w x.t.a x.t.L) (hok:∀n∈x.t.L,n.path.size≤maxLen∧n.data.size≤maxLen):
  Calls Tryd.prog 10 #[.agg #[.int .i64 x.m, .slice x.t.a x.t.L.length x.t.cap], .int .i64 left] w fun e w'=>(∃r:Int,e= .returned (.int .i64 r)∧(r= -1∨0≤r∧r≤1048576∧x.t.L.length≤1048576∧∀n∈x.t.L,n.path.size≤1048576∧n.data.size≤1048576))∧Below w.heap.size w w':=by
 have b0:∀o,Below w.heap.size w (w.alloc o):=fun o=>(Below.refl _ _).alloc (Nat.le_refl _) o;have hz:=hide (fun W (b:Below w.heap.size w W)=>szTree_left x.t.a x.t.cap x.t.L left hf0 hf1 W hl (Mem.za8 hv b) hok);have HB:=hide b0;clear hv hok b0;go_enter Tryd.func10,Tryd.ntmps10
 go_wp2_with fail
 refine (za hz _ (za HB _)).mono ?_;rintro e w1 ⟨⟨r1,rfl,h1⟩,b1⟩;have hb2:=(za HB _).trans (b1.mono (za HB _).size);clear b1 hz
 rcases h1 with rfl |⟨h2,h3⟩
 ·go_wp2
  go_ret
  exact ⟨⟨-1,rfl, .inl rfl⟩,hb2⟩
 ·have h4:¬r1<0:=by omega
  go_wp2
  go_ret
  exact ⟨⟨r1,rfl, .inr ⟨h2,h3⟩⟩,hb2⟩
set_option maxRecDepth 100000 in
set_option maxHeartbeats 800000 in
theorem zz0 (a:Option Addr) (cap:Nat) (Ts:List Pl.It) (w:World) (hl:Ts.length≤maxLen) (hv:Mem.zb0 w a Ts) (hok:∀t∈Ts,t.t.L.length≤maxLen∧∀n∈t.t.L,n.path.size≤maxLen∧n.data.size≤maxLen):
  Calls Tryd.prog 4 #[.slice a Ts.length cap, .int .i64 1048576] w fun e w'=>(∃r:Int,e= .returned (.int .i64 r)∧(r= -1∨0≤r∧r≤1048576∧Ts.length≤1048576∧∀t∈Ts,t.t.L.length≤1048576∧∀n∈t.t.L,n.path.size≤1048576∧n.data.size≤1048576))∧Below w.heap.size w w':=by
 have hl2:=hl;unfold maxLen at hl2;by_cases h0:1048576<Ts.length
 ·have t0:(1048576:Int) - (Ts.length:Int)<0:=by omega
  go_enter Tryd.func4,Tryd.ntmps4
  go_wp2
  go_ret
  exact ⟨⟨-1,rfl, .inl rfl⟩,Below.refl _ _⟩
 have t0:¬ (1048576:Int) - (Ts.length:Int)<0:=by omega
 have HV:=hide hv;have HO:=hide hok;clear hv hok;go_enter Tryd.func4,Tryd.ntmps4
 go_wp2
 go_loopw [1,5] (fun l i wr=>∃ (k:Nat) (r:Int),k≤Ts.length∧i= .int .i64 (k:Int)∧l= .int .i64 r∧0≤r∧r≤1048576∧Below w.heap.size w wr∧Hid (∀ (j:Nat) t,j<k→Ts[j]? =some t→t.t.L.length≤1048576∧∀n∈t.t.L,n.path.size≤1048576∧n.data.size≤1048576)) (fun _ i _=>Ts.length - (intOf i).toNat)
 case atStart=>exact ⟨0,_,Nat.zero_le _,rfl,rfl,by omega,by omega,Below.refl _ _,fun j n h=>absurd h (by omega)⟩
 case round=>
  obtain ⟨k,r,hk,rfl,rfl,hr0,hr1,hbel,HA⟩:=hrel;by_cases hlt:k<Ts.length
  ·obtain ⟨t,ht⟩:∃t,Ts[k]? =some t:=⟨_,List.getElem?_eq_getElem hlt⟩;obtain ⟨⟨b,o,rfl,hb,q0,q0'⟩,q1⟩:=(za HV) k t ht;have c0:=(hbel.cell (p:=⟨b,_,none⟩) hb).trans q0;have c1:=(hbel.cell (p:=⟨b,_,none⟩) hb).trans q0';have hz:=hide (fun W (b:Below w.heap.size w W)=>ya1 t r hr0 hr1 W (za HO t (List.mem_of_getElem? ht)).1 (Mem.za8 q1 b) (za HO t (List.mem_of_getElem? ht)).2);have HN:=hide ht;have u1:(k:Int)<(Ts.length:Int):=by omega
   have u3:(0:Int)≤(k:Int):=by omega
   simp only [Pl.Tr.val] at c1;clear q0 q0' ht q1;go_wp2_with fail
   refine (za hz _ hbel).mono ?_;rintro e w1 ⟨⟨r1,rfl,h1⟩,b1⟩;have hb2:=hbel.trans (b1.mono hbel.size);clear b1 hbel hz
   rcases h1 with rfl |⟨h2,h3,h5,h6⟩
   ·go_wp2
    go_ret
    exact ⟨⟨-1,rfl, .inl rfl⟩,hb2⟩
   ·have h4:¬r1<0:=by omega
    have HA2:Hid (∀ (j:Nat) m,j<k+1→Ts[j]? =some m→m.t.L.length≤1048576∧∀n∈m.t.L,n.path.size≤1048576∧n.data.size≤1048576):=fun j m hj h'=>by
     rcases Nat.lt_succ_iff_lt_or_eq.1 hj with h''|rfl
     ·exact HA.out j m h'' h'
     ·rw [za HN] at h';cases h';exact ⟨h5,h6⟩
    clear h5 h6;go_wp2
    go_roundw
    case rel=>exact ⟨k+1,r1,by omega,by go_num,rfl,h2,by omega,hb2,HA2⟩
    case measure=>simp [intOf];omega
  ·have u1:¬ (k:Int)<(Ts.length:Int):=by omega
   go_wp2
   go_ret
   exact ⟨⟨r,rfl, .inr ⟨hr0,hr1,by omega,fun n hn=>by
    obtain ⟨j,hj⟩:=List.mem_iff_getElem?.1 hn
    exact HA.out j n (by have :=(List.getElem?_eq_some_iff.1 hj).1;omega) hj⟩⟩,hbel⟩
end WLaw
end
section
open Go.RowKit
namespace Mem
theorem zd7 {w:World} {g o:Nat} {L:List Pl.Nd} (h:za7 w (some ⟨g,o,none⟩) L) (p:Addr) (v:Value) (hp:p.block≠g):za7 (w.setCell p v) (some ⟨g,o,none⟩) L:=fun i n hi=>by
 obtain ⟨g',o',h1,h2,h3,h4,h5,h6,h7⟩:=h i n hi;cases h1
 refine ⟨g,o,rfl,by simpa using h2,?_,?_,?_,?_,?_⟩ <;> (rw [World.cell?_setCell_far _ _ _ _ hp];assumption)
end Mem
end
end Go.Proofs.YtpakookhgpphaaaDoor
