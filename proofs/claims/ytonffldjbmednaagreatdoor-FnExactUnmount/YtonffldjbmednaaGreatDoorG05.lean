/- Several texts of one claim in one file: WLawSz, MemHasS, WLawTs, TakeB. -/
import Derived.Test.YtonffldjbmednaaGreatDoorG02
import Derived.Test.YtonffldjbmednaaGreatDoorG04
import Derived.Test.YtonffldjbmednaaGreatDoorG03
import Derived.Deep.Cut
namespace Go.Proofs.YtonffldjbmednaaGreatDoor
section
open Go.RowKit
namespace zb
open WLaw
set_option maxRecDepth 100000 in
set_option maxHeartbeats 800000 in
theorem zz0 (a:Option Addr) (cap:Nat) (Ts:List Pl.It) (left:Int) (hf0:0≤left) (hf1:left≤1048576) (w:World) (hl:Ts.length≤maxLen) (hv:Mem.zb0 w a Ts) (hok:∀x∈Ts,x.t.L.length≤maxLen∧∀n∈x.t.L,n.path.size≤maxLen∧n.data.size≤maxLen):
  Calls Tryz.prog 101 #[.slice a Ts.length cap, .int .i64 left] w fun e w'=>(∃r:Int,e= .returned (.int .i64 r)∧(r= -1∨0≤r∧r≤1048576∧Ts.length≤1048576∧∀x∈Ts,x.t.L.length≤1048576∧∀n∈x.t.L,n.path.size≤1048576∧n.data.size≤1048576))∧Below w.heap.size w w':=by
 have hl2:=hl;unfold maxLen at hl2;by_cases h0:left<(Ts.length:Int)
 ·have t0:left - (Ts.length:Int)<0:=by omega
  go_enter Tryz.func101,Tryz.ntmps101
  go_wp2
  go_ret
  exact ⟨⟨-1,rfl, .inl rfl⟩,Below.refl _ _⟩
 have t0:¬left - (Ts.length:Int)<0:=by omega
 have HV:=hide hv;have HO:=hide hok;clear hv hok;go_enter Tryz.func101,Tryz.ntmps101
 go_wp2
 go_loopw [1,5] (fun l i wr=>∃ (k:Nat) (r:Int),k≤Ts.length∧i= .int .i64 (k:Int)∧l= .int .i64 r∧0≤r∧r≤1048576∧Below w.heap.size w wr∧Hid (∀ (j:Nat) x,j<k→Ts[j]? =some x→x.t.L.length≤1048576∧∀n∈x.t.L,n.path.size≤1048576∧n.data.size≤1048576)) (fun _ i _=>Ts.length - (intOf i).toNat)
 case atStart=>exact ⟨0,_,Nat.zero_le _,rfl,rfl,by omega,by omega,Below.refl _ _,fun j n h=>absurd h (by omega)⟩
 case round=>
  obtain ⟨k,r,hk,rfl,rfl,hr0,hr1,hbel,HA⟩:=hrel;by_cases hlt:k<Ts.length
  ·obtain ⟨t,ht⟩:∃t,Ts[k]? =some t:=⟨_,List.getElem?_eq_getElem hlt⟩;obtain ⟨⟨b,o,rfl,hb,q0,q1⟩,qq⟩:=(za HV) k t ht;have c0:=(hbel.cell (p:=⟨b,_,none⟩) hb).trans q0;have c1:=(hbel.cell (p:=⟨b,_,none⟩) hb).trans q1;have hz:=hide (fun W (bb:Below w.heap.size w W)=>ya1 t r hr0 hr1 W (za HO t (List.mem_of_getElem? ht)).1 (Mem.za8 qq bb) (za HO t (List.mem_of_getElem? ht)).2);have HN:=hide ht;have u1:(k:Int)<(Ts.length:Int):=by omega
   have u3:(0:Int)≤(k:Int):=by omega
   simp only [Pl.Tr.val] at c1;clear ht q0 q1;go_wp2_with fail
   refine (za hz _ hbel).mono ?_;rintro e w1 ⟨⟨r1,rfl,h1⟩,b1⟩;have hb2:=hbel.trans (b1.mono hbel.size);clear b1 hbel hz
   rcases h1 with rfl |⟨h2,h3,h5⟩
   ·go_wp2
    go_ret
    exact ⟨⟨-1,rfl, .inl rfl⟩,hb2⟩
   ·have h4:¬r1<0:=by omega
    have HA2:Hid (∀ (j:Nat) x,j<k+1→Ts[j]? =some x→x.t.L.length≤1048576∧∀n∈x.t.L,n.path.size≤1048576∧n.data.size≤1048576):=fun j m hj h'=>by
     rcases Nat.lt_succ_iff_lt_or_eq.1 hj with h''|rfl
     ·exact HA.out j m h'' h'
     ·rw [za HN] at h';cases h';exact h5
    clear h5;go_wp2
    go_roundw
    case rel=>exact ⟨k+1,r1,by omega,by go_num,rfl,h2,by omega,hb2,HA2⟩
    case measure=>simp [intOf];omega
  ·have u1:¬ (k:Int)<(Ts.length:Int):=by omega
   go_wp2
   go_ret
   exact ⟨⟨r,rfl, .inr ⟨hr0,hr1,by omega,fun n hn=>by
    obtain ⟨j,hj⟩:=List.mem_iff_getElem?.1 hn
    exact HA.out j n (by have :=(List.getElem?_eq_some_iff.1 hj).1;omega) hj⟩⟩,hbel⟩
set_option maxRecDepth 100000 in
theorem yc4 (x:Pl.Ns) (left:Int) (hf0:0≤left) (hf1:left≤1048576) (w:World) (hv:Mem.zb0 w x.a x.Is) (hok:x.Is.length≤maxLen∧∀t∈x.Is,t.t.L.length≤maxLen∧∀n∈t.t.L,n.path.size≤maxLen∧n.data.size≤maxLen):
  Calls Tryz.prog 55 #[.agg #[.int .i64 x.d, .slice x.a x.Is.length x.cap], .int .i64 left] w fun e w'=>(∃r:Int,e= .returned (.int .i64 r)∧(r= -1∨0≤r∧r≤1048576∧x.Is.length≤1048576∧∀t∈x.Is,t.t.L.length≤1048576∧∀n∈t.t.L,n.path.size≤1048576∧n.data.size≤1048576))∧Below w.heap.size w w':=by
 have b0:∀o,Below w.heap.size w (w.alloc o):=fun o=>(Below.refl _ _).alloc (Nat.le_refl _) o;have hz:=hide (fun W (b:Below w.heap.size w W)=>zz0 x.a x.cap x.Is left hf0 hf1 W hok.1 (Mem.zc2 hv b) hok.2);have HB:=hide b0;clear hv hok b0;go_enter Tryz.func55,Tryz.ntmps55
 go_wp2_with fail
 refine (za hz _ (za HB _)).mono ?_;rintro e w1 ⟨⟨r1,rfl,h1⟩,b1⟩;have hb2:=(za HB _).trans (b1.mono (za HB _).size);clear b1 hz
 rcases h1 with rfl |⟨h2,h3⟩
 ·go_wp2
  go_ret
  exact ⟨⟨-1,rfl, .inl rfl⟩,hb2⟩
 ·have h4:¬r1<0:=by omega
  go_wp2
  go_ret
  exact ⟨⟨r1,rfl, .inr ⟨h2,h3⟩⟩,hb2⟩
set_option maxRecDepth 100000 in
theorem szMount_any (x:Pl.Mn) (left:Int) (hf0:0≤left) (hf1:left≤1048576) (w:World) (hok:x.p.size≤maxLen):
  Calls Tryz.prog 56 #[.agg #[.string x.p, .int .i64 x.i, .bool x.z], .int .i64 left] w fun e w'=>(∃r:Int,e= .returned (.int .i64 r)∧(r= -1∨0≤r∧r≤1048576∧x.p.size≤1048576))∧Below w.heap.size w w':=by
 have hl2:=hok;unfold maxLen at hl2;have b0:∀o,Below w.heap.size w (w.alloc o):=fun o=>(Below.refl _ _).alloc (Nat.le_refl _) o;have HB:=hide b0;clear b0;by_cases h0:left<(x.p.size:Int)
 ·have t0:left - (x.p.size:Int)<0:=by omega
  go_enter Tryz.func56,Tryz.ntmps56
  go_wp2
  go_ret
  exact ⟨⟨-1,rfl, .inl rfl⟩,za HB _⟩
 ·have t0:¬left - (x.p.size:Int)<0:=by omega
  go_enter Tryz.func56,Tryz.ntmps56
  go_wp2
  go_ret
  exact ⟨⟨_,rfl, .inr ⟨by omega,by omega,by omega⟩⟩,za HB _⟩
set_option maxRecDepth 100000 in
theorem szHandle_any (x:Pl.Hn) (left:Int) (hf0:0≤left) (hf1:left≤1048576) (w:World) (hok:x.p.size≤maxLen):
  Calls Tryz.prog 57 #[.agg #[.int .i64 x.d, .int .i64 x.i, .string x.p], .int .i64 left] w fun e w'=>(∃r:Int,e= .returned (.int .i64 r)∧(r= -1∨0≤r∧r≤1048576∧x.p.size≤1048576))∧Below w.heap.size w w':=by
 have hl2:=hok;unfold maxLen at hl2;have b0:∀o,Below w.heap.size w (w.alloc o):=fun o=>(Below.refl _ _).alloc (Nat.le_refl _) o;have HB:=hide b0;clear b0;by_cases h0:left<(x.p.size:Int)
 ·have t0:left - (x.p.size:Int)<0:=by omega
  go_enter Tryz.func57,Tryz.ntmps57
  go_wp2
  go_ret
  exact ⟨⟨-1,rfl, .inl rfl⟩,za HB _⟩
 ·have t0:¬left - (x.p.size:Int)<0:=by omega
  go_enter Tryz.func57,Tryz.ntmps57
  go_wp2
  go_ret
  exact ⟨⟨_,rfl, .inr ⟨by omega,by omega,by omega⟩⟩,za HB _⟩
set_option maxRecDepth 100000 in
set_option maxHeartbeats 800000 in
theorem ya0 (a:Option Addr) (cap:Nat) (Ts:List Pl.Ns) (left:Int) (hf0:0≤left) (hf1:left≤1048576) (w:World) (hl:Ts.length≤maxLen) (hv:Mem.ze4 w a Ts) (hok:∀x∈Ts,x.Is.length≤maxLen∧∀t∈x.Is,t.t.L.length≤maxLen∧∀n∈t.t.L,n.path.size≤maxLen∧n.data.size≤maxLen):
  Calls Tryz.prog 22 #[.slice a Ts.length cap, .int .i64 left] w fun e w'=>(∃r:Int,e= .returned (.int .i64 r)∧(r= -1∨0≤r∧r≤1048576∧Ts.length≤1048576∧∀x∈Ts,x.Is.length≤1048576∧∀t∈x.Is,t.t.L.length≤1048576∧∀n∈t.t.L,n.path.size≤1048576∧n.data.size≤1048576))∧Below w.heap.size w w':=by
 have hl2:=hl;unfold maxLen at hl2;by_cases h0:left<(Ts.length:Int)
 ·have t0:left - (Ts.length:Int)<0:=by omega
  go_enter Tryz.func22,Tryz.ntmps22
  go_wp2
  go_ret
  exact ⟨⟨-1,rfl, .inl rfl⟩,Below.refl _ _⟩
 have t0:¬left - (Ts.length:Int)<0:=by omega
 have HV:=hide hv;have HO:=hide hok;clear hv hok;go_enter Tryz.func22,Tryz.ntmps22
 go_wp2
 go_loopw [1,5] (fun l i wr=>∃ (k:Nat) (r:Int),k≤Ts.length∧i= .int .i64 (k:Int)∧l= .int .i64 r∧0≤r∧r≤1048576∧Below w.heap.size w wr∧Hid (∀ (j:Nat) x,j<k→Ts[j]? =some x→x.Is.length≤1048576∧∀t∈x.Is,t.t.L.length≤1048576∧∀n∈t.t.L,n.path.size≤1048576∧n.data.size≤1048576)) (fun _ i _=>Ts.length - (intOf i).toNat)
 case atStart=>exact ⟨0,_,Nat.zero_le _,rfl,rfl,by omega,by omega,Below.refl _ _,fun j n h=>absurd h (by omega)⟩
 case round=>
  obtain ⟨k,r,hk,rfl,rfl,hr0,hr1,hbel,HA⟩:=hrel;by_cases hlt:k<Ts.length
  ·obtain ⟨t,ht⟩:∃t,Ts[k]? =some t:=⟨_,List.getElem?_eq_getElem hlt⟩;obtain ⟨⟨b,o,rfl,hb,q0,q1⟩,qq⟩:=(za HV) k t ht;have c0:=(hbel.cell (p:=⟨b,_,none⟩) hb).trans q0;have c1:=(hbel.cell (p:=⟨b,_,none⟩) hb).trans q1;have hz:=hide (fun W (bb:Below w.heap.size w W)=>yc4 t r hr0 hr1 W (Mem.zc2 qq bb) (za HO t (List.mem_of_getElem? ht)));have HN:=hide ht;have u1:(k:Int)<(Ts.length:Int):=by omega
   have u3:(0:Int)≤(k:Int):=by omega
   clear ht q0 q1;go_wp2_with fail
   refine (za hz _ hbel).mono ?_;rintro e w1 ⟨⟨r1,rfl,h1⟩,b1⟩;have hb2:=hbel.trans (b1.mono hbel.size);clear b1 hbel hz
   rcases h1 with rfl |⟨h2,h3,h5⟩
   ·go_wp2
    go_ret
    exact ⟨⟨-1,rfl, .inl rfl⟩,hb2⟩
   ·have h4:¬r1<0:=by omega
    have HA2:Hid (∀ (j:Nat) x,j<k+1→Ts[j]? =some x→x.Is.length≤1048576∧∀t∈x.Is,t.t.L.length≤1048576∧∀n∈t.t.L,n.path.size≤1048576∧n.data.size≤1048576):=fun j m hj h'=>by
     rcases Nat.lt_succ_iff_lt_or_eq.1 hj with h''|rfl
     ·exact HA.out j m h'' h'
     ·rw [za HN] at h';cases h';exact h5
    clear h5;go_wp2
    go_roundw
    case rel=>exact ⟨k+1,r1,by omega,by go_num,rfl,h2,by omega,hb2,HA2⟩
    case measure=>simp [intOf];omega
  ·have u1:¬ (k:Int)<(Ts.length:Int):=by omega
   go_wp2
   go_ret
   exact ⟨⟨r,rfl, .inr ⟨hr0,hr1,by omega,fun n hn=>by
    obtain ⟨j,hj⟩:=List.mem_iff_getElem?.1 hn
    exact HA.out j n (by have :=(List.getElem?_eq_some_iff.1 hj).1;omega) hj⟩⟩,hbel⟩
set_option maxRecDepth 100000 in
set_option maxHeartbeats 800000 in
theorem szMountS_any (a:Option Addr) (cap:Nat) (Ts:List Pl.Mn) (left:Int) (hf0:0≤left) (hf1:left≤1048576) (w:World) (hl:Ts.length≤maxLen) (hv:Mem.zb2 w a Ts) (hok:∀x∈Ts,x.p.size≤maxLen):
  Calls Tryz.prog 23 #[.slice a Ts.length cap, .int .i64 left] w fun e w'=>(∃r:Int,e= .returned (.int .i64 r)∧(r= -1∨0≤r∧r≤1048576∧Ts.length≤1048576∧∀x∈Ts,x.p.size≤1048576))∧Below w.heap.size w w':=by
 have hl2:=hl;unfold maxLen at hl2;by_cases h0:left<(Ts.length:Int)
 ·have t0:left - (Ts.length:Int)<0:=by omega
  go_enter Tryz.func23,Tryz.ntmps23
  go_wp2
  go_ret
  exact ⟨⟨-1,rfl, .inl rfl⟩,Below.refl _ _⟩
 have t0:¬left - (Ts.length:Int)<0:=by omega
 have HV:=hide hv;have HO:=hide hok;clear hv hok;go_enter Tryz.func23,Tryz.ntmps23
 go_wp2
 go_loopw [1,5] (fun l i wr=>∃ (k:Nat) (r:Int),k≤Ts.length∧i= .int .i64 (k:Int)∧l= .int .i64 r∧0≤r∧r≤1048576∧Below w.heap.size w wr∧Hid (∀ (j:Nat) x,j<k→Ts[j]? =some x→x.p.size≤1048576)) (fun _ i _=>Ts.length - (intOf i).toNat)
 case atStart=>exact ⟨0,_,Nat.zero_le _,rfl,rfl,by omega,by omega,Below.refl _ _,fun j n h=>absurd h (by omega)⟩
 case round=>
  obtain ⟨k,r,hk,rfl,rfl,hr0,hr1,hbel,HA⟩:=hrel;by_cases hlt:k<Ts.length
  ·obtain ⟨t,ht⟩:∃t,Ts[k]? =some t:=⟨_,List.getElem?_eq_getElem hlt⟩;obtain ⟨b,o,rfl,hb,q0,q1,q2⟩:=(za HV) k t ht;have c0:=(hbel.cell (p:=⟨b,_,none⟩) hb).trans q0;have c1:=(hbel.cell (p:=⟨b,_,none⟩) hb).trans q1;have c2:=(hbel.cell (p:=⟨b,_,none⟩) hb).trans q2;have hz:=hide (fun W (bb:Below w.heap.size w W)=>szMount_any t r hr0 hr1 W (za HO t (List.mem_of_getElem? ht)));have HN:=hide ht;have u1:(k:Int)<(Ts.length:Int):=by omega
   have u3:(0:Int)≤(k:Int):=by omega
   clear ht q0 q1 q2;go_wp2_with fail
   refine (za hz _ hbel).mono ?_;rintro e w1 ⟨⟨r1,rfl,h1⟩,b1⟩;have hb2:=hbel.trans (b1.mono hbel.size);clear b1 hbel hz
   rcases h1 with rfl |⟨h2,h3,h5⟩
   ·go_wp2
    go_ret
    exact ⟨⟨-1,rfl, .inl rfl⟩,hb2⟩
   ·have h4:¬r1<0:=by omega
    have HA2:Hid (∀ (j:Nat) x,j<k+1→Ts[j]? =some x→x.p.size≤1048576):=fun j m hj h'=>by
     rcases Nat.lt_succ_iff_lt_or_eq.1 hj with h''|rfl
     ·exact HA.out j m h'' h'
     ·rw [za HN] at h';cases h';exact h5
    clear h5;go_wp2
    go_roundw
    case rel=>exact ⟨k+1,r1,by omega,by go_num,rfl,h2,by omega,hb2,HA2⟩
    case measure=>simp [intOf];omega
  ·have u1:¬ (k:Int)<(Ts.length:Int):=by omega
   go_wp2
   go_ret
   exact ⟨⟨r,rfl, .inr ⟨hr0,hr1,by omega,fun n hn=>by
    obtain ⟨j,hj⟩:=List.mem_iff_getElem?.1 hn
    exact HA.out j n (by have :=(List.getElem?_eq_some_iff.1 hj).1;omega) hj⟩⟩,hbel⟩
set_option maxRecDepth 100000 in
set_option maxHeartbeats 800000 in
theorem szHandleS_any (a:Option Addr) (cap:Nat) (Ts:List Pl.Hn) (left:Int) (hf0:0≤left) (hf1:left≤1048576) (w:World) (hl:Ts.length≤maxLen) (hv:Mem.zb9 w a Ts) (hok:∀x∈Ts,x.p.size≤maxLen):
  Calls Tryz.prog 24 #[.slice a Ts.length cap, .int .i64 left] w fun e w'=>(∃r:Int,e= .returned (.int .i64 r)∧(r= -1∨0≤r∧r≤1048576∧Ts.length≤1048576∧∀x∈Ts,x.p.size≤1048576))∧Below w.heap.size w w':=by
 have hl2:=hl;unfold maxLen at hl2;by_cases h0:left<(Ts.length:Int)
 ·have t0:left - (Ts.length:Int)<0:=by omega
  go_enter Tryz.func24,Tryz.ntmps24
  go_wp2
  go_ret
  exact ⟨⟨-1,rfl, .inl rfl⟩,Below.refl _ _⟩
 have t0:¬left - (Ts.length:Int)<0:=by omega
 have HV:=hide hv;have HO:=hide hok;clear hv hok;go_enter Tryz.func24,Tryz.ntmps24
 go_wp2
 go_loopw [1,5] (fun l i wr=>∃ (k:Nat) (r:Int),k≤Ts.length∧i= .int .i64 (k:Int)∧l= .int .i64 r∧0≤r∧r≤1048576∧Below w.heap.size w wr∧Hid (∀ (j:Nat) x,j<k→Ts[j]? =some x→x.p.size≤1048576)) (fun _ i _=>Ts.length - (intOf i).toNat)
 case atStart=>exact ⟨0,_,Nat.zero_le _,rfl,rfl,by omega,by omega,Below.refl _ _,fun j n h=>absurd h (by omega)⟩
 case round=>
  obtain ⟨k,r,hk,rfl,rfl,hr0,hr1,hbel,HA⟩:=hrel;by_cases hlt:k<Ts.length
  ·obtain ⟨t,ht⟩:∃t,Ts[k]? =some t:=⟨_,List.getElem?_eq_getElem hlt⟩;obtain ⟨b,o,rfl,hb,q0,q1,q2⟩:=(za HV) k t ht;have c0:=(hbel.cell (p:=⟨b,_,none⟩) hb).trans q0;have c1:=(hbel.cell (p:=⟨b,_,none⟩) hb).trans q1;have c2:=(hbel.cell (p:=⟨b,_,none⟩) hb).trans q2;have hz:=hide (fun W (bb:Below w.heap.size w W)=>szHandle_any t r hr0 hr1 W (za HO t (List.mem_of_getElem? ht)));have HN:=hide ht;have u1:(k:Int)<(Ts.length:Int):=by omega
   have u3:(0:Int)≤(k:Int):=by omega
   clear ht q0 q1 q2;go_wp2_with fail
   refine (za hz _ hbel).mono ?_;rintro e w1 ⟨⟨r1,rfl,h1⟩,b1⟩;have hb2:=hbel.trans (b1.mono hbel.size);clear b1 hbel hz
   rcases h1 with rfl |⟨h2,h3,h5⟩
   ·go_wp2
    go_ret
    exact ⟨⟨-1,rfl, .inl rfl⟩,hb2⟩
   ·have h4:¬r1<0:=by omega
    have HA2:Hid (∀ (j:Nat) x,j<k+1→Ts[j]? =some x→x.p.size≤1048576):=fun j m hj h'=>by
     rcases Nat.lt_succ_iff_lt_or_eq.1 hj with h''|rfl
     ·exact HA.out j m h'' h'
     ·rw [za HN] at h';cases h';exact h5
    clear h5;go_wp2
    go_roundw
    case rel=>exact ⟨k+1,r1,by omega,by go_num,rfl,h2,by omega,hb2,HA2⟩
    case measure=>simp [intOf];omega
  ·have u1:¬ (k:Int)<(Ts.length:Int):=by omega
   go_wp2
   go_ret
   exact ⟨⟨r,rfl, .inr ⟨hr0,hr1,by omega,fun n hn=>by
    obtain ⟨j,hj⟩:=List.mem_iff_getElem?.1 hn
    exact HA.out j n (by have :=(List.getElem?_eq_some_iff.1 hj).1;omega) hj⟩⟩,hbel⟩
structure OkS (s:Pl.Sp) (K:Nat):Prop where
 n:s.N.length≤K
 m:s.M.length≤K
 h:s.H.length≤K
 each:∀x∈s.N,x.Is.length≤K∧∀t∈x.Is,t.t.L.length≤K∧∀n∈t.t.L,n.path.size≤K∧n.data.size≤K
 mp:∀x∈s.M,x.p.size≤K
 hp:∀x∈s.H,x.p.size≤K
set_option maxRecDepth 100000 in
set_option maxHeartbeats 800000 in
theorem szSpace_any (s:Pl.Sp) (w:World) (hv:Mem.zc3 w s) (hok:OkS s maxLen):
  Calls Tryz.prog 7 #[.agg s.cs, .int .i64 1048576] w fun e w'=>(∃r:Int,e= .returned (.int .i64 r)∧(r= -1∨0≤r∧OkS s 1048576))∧Below w.heap.size w w':=by
 unfold Pl.Sp.cs;have b0:=(Below.refl w.heap.size w).alloc (o:= .cells #[.slice s.ia s.N.length s.ic, .slice s.ma s.M.length s.mc, .slice s.ha s.H.length s.hc, .int .i64 s.next] 26) (Nat.le_refl _);have V0:=hide (Mem.Blk.new w #[.slice s.ia s.N.length s.ic, .slice s.ma s.M.length s.mc, .slice s.ha s.H.length s.hc, .int .i64 s.next] 26);have h1:=hide (fun W (b:Below w.heap.size w W)=>ya0 s.ia s.ic s.N 1048576 (by omega) (by omega) W hok.n (Mem.zf1 hv.zf9 b) hok.each);have h2:=hide (fun W (b:Below w.heap.size w W) r h0 hr=>szMountS_any s.ma s.mc s.M r h0 hr W hok.m (Mem.zc7 hv.zh b) hok.mp);have h3:=hide (fun W (b:Below w.heap.size w W) r h0 hr=>szHandleS_any s.ha s.hc s.H r h0 hr W hok.h (Mem.zc6 hv.hands b) hok.hp);clear hv hok;go_enter Tryz.func7,Tryz.ntmps7
 go_wp2_with fail
 refine (za h1 _ b0).mono ?_;rintro e w1 ⟨⟨r1,rfl,g1⟩,b1⟩;have bb1:=b0.trans (b1.mono b0.size);have V1:=hide ((za V0).call b1);clear h1 b1 b0 V0;have v1:=(za V1).cell 1;simp only [kGs] at v1
 rcases g1 with rfl |⟨p1,p2,p3⟩
 ·go_wp2
  go_ret
  exact ⟨⟨-1,rfl, .inl rfl⟩,bb1⟩
 have y1:¬r1<0:=by omega
 have P3:=hide p3;clear p3;go_wp2_with fail
 refine (za h2 _ bb1 r1 p1 p2).mono ?_;rintro e w2 ⟨⟨r2,rfl,g2⟩,b2⟩;have bb2:=bb1.trans (b2.mono bb1.size);have V2:=hide ((za V1).call b2);clear h2 b2 bb1 V1 v1;have v2:=(za V2).cell 2;simp only [kGs] at v2
 rcases g2 with rfl |⟨q1,q2,q3⟩
 ·go_wp2
  go_ret
  exact ⟨⟨-1,rfl, .inl rfl⟩,bb2⟩
 have y2:¬r2<0:=by omega
 have Q3:=hide q3;clear q3;go_wp2_with fail
 refine (za h3 _ bb2 r2 q1 q2).mono ?_;rintro e w3 ⟨⟨r3,rfl,g3⟩,b3⟩;have bb3:=bb2.trans (b3.mono bb2.size);clear h3 b3 bb2 V2 v2
 rcases g3 with rfl |⟨s1,s2,s3⟩
 ·go_wp2
  go_ret
  exact ⟨⟨-1,rfl, .inl rfl⟩,bb3⟩
 have y3:¬r3<0:=by omega
 have S3:=hide s3;clear s3;go_wp2
 go_ret
 exact ⟨⟨r3,rfl, .inr ⟨s1,⟨(za P3).1,(za Q3).1,(za S3).1,(za P3).2,(za Q3).2,(za S3).2⟩⟩⟩,bb3⟩
end zb
end
section
open Go.RowKit
namespace zb
structure HasS (W:World) (s:Pl.Sp) (gi gm gh:Nat) (B:Nat→Nat):Prop where
 ia:s.ia=some ⟨gi,0,none⟩
 ib:∃cur,W.heap[gi]? =some (.cells cur 103 (0,0))∧cur.size=s.N.length*2∧∀ (j:Nat) t,s.N[j]? =some t→cur[j*2+1]? =some (.slice t.a t.Is.length t.cap)
 lo:gi<B 0
 band:∀ (j:Nat) t,s.N[j]? =some t→∃g,t.a=some ⟨g,0,none⟩∧B j≤g∧WMkJ.Has W g (B (j+1)) t.Is
 top:B s.N.length≤gm
 ma:s.ma=some ⟨gm,0,none⟩
 mb:∃cur,W.heap[gm]? =some (.cells cur 50 (0,0))∧cur.size=s.M.length*3
 mh:gm<gh
 ha:s.ha=some ⟨gh,0,none⟩
 hb:∃cur,W.heap[gh]? =some (.cells cur 87 (0,0))∧cur.size=s.H.length*3
theorem HasS.call {W W':World} {s:Pl.Sp} {gi gm gh:Nat} {B:Nat→Nat} (h:HasS W s gi gm gh B) (b:Below W.heap.size W W'):HasS W' s gi gm gh B:=by
 obtain ⟨h1,⟨c1,h2,h3,h4⟩,h5,h6,h7,h8,⟨c2,h9,h10⟩,h11,h12,⟨c3,h13,h14⟩⟩:=h
 exact ⟨h1,⟨c1,(b.block _ (Array.getElem?_eq_some_iff.1 h2).1).trans h2,h3,h4⟩,h5,fun j t hj=>by
  obtain ⟨g,k1,k2,k3⟩:=h6 j t hj
  exact ⟨g,k1,k2,k3.call b⟩,h7,h8,⟨c2,(b.block _ (Array.getElem?_eq_some_iff.1 h9).1).trans h9,h10⟩,h11,h12,⟨c3,(b.block _ (Array.getElem?_eq_some_iff.1 h13).1).trans h13,h14⟩⟩
theorem HasS.mono {W:World} {s:Pl.Sp} {gi gm gh:Nat} {B:Nat→Nat} (h:HasS W s gi gm gh B):∀k,k≤s.N.length→B 0≤B k:=by
 intro k
 induction k with
 |zero=>intro _;exact Nat.le_refl _
 |succ k ih=>
  intro hk;have hx:s.N[k]? =some (s.N[k]'(by omega)):=List.getElem?_eq_getElem (by omega);obtain ⟨g, -,h2,h3⟩:=h.band k _ hx;have :=ih (by omega);have :=h3.gx;omega
theorem HasS.rise {W:World} {s:Pl.Sp} {gi gm gh:Nat} {B:Nat→Nat} (h:HasS W s gi gm gh B):∀k j,j≤k→k≤s.N.length→B j≤B k:=by
 intro k
 induction k with
 |zero=>
  intro j hj _;obtain rfl:j=0:=by omega
  exact Nat.le_refl _
 |succ k ih=>
  intro j hj hk;by_cases e:j=k+1
  ·subst e;exact Nat.le_refl _
  have hx:s.N[k]? =some (s.N[k]'(by omega)):=List.getElem?_eq_getElem (by omega);obtain ⟨g, -,h2,h3⟩:=h.band k _ hx;have :=ih j (by omega) (by omega);have :=h3.gx;omega
end zb
end
section
open Go.RowKit
namespace Mem
theorem Cop3.low {α:Type} {T:TypeId} {f0 f1 f2:α→Value} {w wr:World} {n:Nat} {D:List α} {cur:Array Value} (h:Cop3 T f0 f1 f2 w wr n D cur) (p:Addr) (v:Value) (hp:p.block<w.heap.size):Cop3 T f0 f1 f2 w (wr.setCell p v) n D cur:=
 ⟨(heap_setCell_other _ _ _ _ (by omega)).trans h.blk,h.size,h.each⟩
end Mem
namespace zb
theorem CopN.low {w wr:World} {Ts D:List Pl.Ns} {cur:Array Value} {B:Nat→Nat} (h:CopN w wr Ts D cur B) (p:Addr) (v:Value) (hp:p.block<w.heap.size):CopN w (wr.setCell p v) Ts D cur B:=
 ⟨(heap_setCell_other _ _ _ _ (by omega)).trans h.blk,h.size,h.same,fun j t hj=>⟨(h.each j t hj).1,(h.each j t hj).2.1,by
  obtain ⟨g,h1,h2,h3,h4⟩:=(h.each j t hj).2.2
  exact ⟨g,h1,h2,h3.low p v (by omega),h4⟩⟩,h.lo,by rw [World.size_setCell];exact h.top,fun j t hj=>by
  obtain ⟨g,h1,h2,h3⟩:=h.band j t hj;obtain ⟨-, -,g2,e2,h5, -⟩:=h.each j t hj;rw [h1] at e2;cases e2
  exact ⟨g,h1,h2,h3.low p v (by omega)⟩⟩
abbrev m0 (x:Pl.Mn):Value:= .string x.p
abbrev m1 (x:Pl.Mn):Value:= .int .i64 x.i
abbrev m2 (x:Pl.Mn):Value:= .bool x.z
abbrev h0 (x:Pl.Hn):Value:= .int .i64 x.d
abbrev h1 (x:Pl.Hn):Value:= .int .i64 x.i
abbrev h2 (x:Pl.Hn):Value:= .string x.p
theorem mounts_of {w wr:World} {n:Nat} {D:List Pl.Mn} {cur:Array Value} (h:Mem.Cop3 50 m0 m1 m2 w wr n D cur):Mem.zb2 wr (some ⟨w.heap.size,0,none⟩) D:=fun i x hi=>by
 obtain ⟨g1,g2,g3,g4⟩:=h.got hi;exact ⟨_,0,rfl,g1,g2,g3,g4⟩
theorem hands_of {w wr:World} {n:Nat} {D:List Pl.Hn} {cur:Array Value} (h:Mem.Cop3 87 h0 h1 h2 w wr n D cur):Mem.zb9 wr (some ⟨w.heap.size,0,none⟩) D:=fun i x hi=>by
 obtain ⟨g1,g2,g3,g4⟩:=h.got hi;exact ⟨_,0,rfl,g1,g2,g3,g4⟩
structure Tk (w W:World) (s:Pl.Sp) (O:Array Value):Prop where
 bel:Below w.heap.size w W
 b0:Mem.Blk W w.heap.size #[.slice s.ia s.N.length s.ic, .slice s.ma s.M.length s.mc, .slice s.ha s.H.length s.hc, .int .i64 s.next] 26
 b1:Mem.Blk W (w.heap.size+1) #[.slice none 0 0, .slice none 0 0, .slice none 0 0, .int .i64 0] 32
 b2:Mem.Blk W (w.heap.size+2) O 32
theorem Tk.call {w W W':World} {s:Pl.Sp} {O:Array Value} (h:Tk w W s O) (b:Below W.heap.size W W'):Tk w W' s O:=⟨h.bel.trans (b.mono h.bel.size),h.b0.call b,h.b1.call b,h.b2.call b⟩
theorem Tk.put {w W:World} {s:Pl.Sp} {O:Array Value} (h:Tk w W s O) (k:Nat) (v:Value):Tk w (W.setCell ⟨w.heap.size+2,k,none⟩ v) s (O.setIfInBounds k v):=
 ⟨h.bel.setCell (by show w.heap.size≤w.heap.size+2;omega) _,h.b0.far _ _ (by show w.heap.size≠w.heap.size+2;omega),h.b1.far _ _ (by show w.heap.size+1≠w.heap.size+2;omega),h.b2.put k v⟩
structure SpT (w W:World) (s s':Pl.Sp):Prop where
 sp:Mem.zc3 W s'
 n:s'.N.map Pl.Ns.r=s.N.map Pl.Ns.r
 nl:s'.N.length=s.N.length
 m:s'.M=s.M
 h:s'.H=s.H
 x:s'.next=s.next
 ci:s'.ic=s'.N.length
 cm:s'.mc=s'.M.length
 ch:s'.hc=s'.H.length
 each:∀t∈s'.N,t.cap=t.Is.length∧∃g,t.a=some ⟨g,0,none⟩
 am:∃g,s'.ma=some ⟨g,0,none⟩
 ah:∃g,s'.ha=some ⟨g,0,none⟩
 has:∃gi gm gh B,w.heap.size≤gi∧gh<W.heap.size∧HasS W s' gi gm gh B
set_option linter.unusedSimpArgs false in
set_option maxRecDepth 100000 in
set_option maxHeartbeats 2000000 in
theorem toSpace_any (s:Pl.Sp) (w:World) (hv:Mem.zc3 w s) (hok:OkS s 1048576):
  Calls Tryz.prog 9 #[.agg s.cs] w fun e w'=>(∃s',e= .returned (.agg s'.cs)∧SpT w w' s s')∧Below w.heap.size w w':=by
 unfold Pl.Sp.cs;have K0:Hid (Tk w (((w.alloc (.cells #[.slice s.ia s.N.length s.ic, .slice s.ma s.M.length s.mc, .slice s.ha s.H.length s.hc, .int .i64 s.next] 26)).alloc (.cells #[.slice none 0 0, .slice none 0 0, .slice none 0 0, .int .i64 0] 32)).alloc (.cells #[.slice none 0 0, .slice none 0 0, .slice none 0 0, .int .i64 0] 32)) s #[.slice none 0 0, .slice none 0 0, .slice none 0 0, .int .i64 0]):=hide ⟨(((Below.refl _ _).alloc (Nat.le_refl _) _).alloc (by simp) _).alloc (by simp;omega) _,((Mem.Blk.new w _ _).alloc _).alloc _,Mem.zn4 w _ _ _,Mem.zk0 w _ _ _⟩;have i1:=hide (fun W (b:Below w.heap.size w W)=>yb0 s.ia s.ic s.N W hok.n (Mem.zf1 hv.zf9 b) (fun x hx=>⟨(hok.each x hx).1,fun t ht=>((hok.each x hx).2 t ht).1⟩));have i2:=hide (fun W (b:Below w.heap.size w W)=>toMountS_any s.ma s.mc s.M W hok.m (Mem.zc7 hv.zh b))
 have i3:=hide (fun W (b:Below w.heap.size w W)=>toHandleS_any s.ha s.hc s.H W hok.h (Mem.zc6 hv.hands b));clear hv hok;go_enter Tryz.func9,Tryz.ntmps9
 have a0:=(za K0).b0.cell 0;simp only [kGs] at a0;go_wp2_with fail
 generalize (((w.alloc (.cells #[.slice s.ia s.N.length s.ic, .slice s.ma s.M.length s.mc, .slice s.ha s.H.length s.hc, .int .i64 s.next] 26)).alloc (.cells #[.slice none 0 0, .slice none 0 0, .slice none 0 0, .int .i64 0] 32)).alloc (.cells #[.slice none 0 0, .slice none 0 0, .slice none 0 0, .int .i64 0] 32))=w3 at K0 a0 ⊢;refine (za i1 _ (za K0).bel).mono ?_;rintro e v1 ⟨rfl,⟨D,cu,B,hD,C1⟩,b1⟩;have htop:B s.N.length≤v1.heap.size:=by rw [←hD];exact C1.top
 have hs3:w.heap.size+2<w3.heap.size:=(za K0).b2.lt;have K1:=hide ((za K0).call b1);have o0:=(za K1).b2.cell 0;have f0:=(za K1).b2.fr 0;have a1:=(za K1).b0.cell 1;simp only [kGs] at o0 a1;have K2:=hide (show Tk w (v1.setCell ⟨w.heap.size+2,0,none⟩ (.slice (some ⟨w3.heap.size,0,none⟩) s.N.length s.N.length)) s #[.slice (some ⟨w3.heap.size,0,none⟩) s.N.length s.N.length, .slice none 0 0, .slice none 0 0, .int .i64 0] from (za K1).put 0 _);have N2:=hide (C1.low ⟨w.heap.size+2,0,none⟩ (.slice (some ⟨w3.heap.size,0,none⟩) s.N.length s.N.length) hs3);have HD:=hide hD;have a1':=(za K2).b0.cell 1;simp only [kGs] at a1';have hX3:w.heap.size≠w.heap.size+2:=by omega
 clear i1 K0 a0 b1 C1 hD K1;go_wp2_with fail
 have htop2:B s.N.length≤(v1.setCell ⟨w.heap.size+2,0,none⟩ (.slice (some ⟨w3.heap.size,0,none⟩) s.N.length s.N.length)).heap.size:=by rw [World.size_setCell];exact htop
 clear htop;generalize v1.setCell ⟨w.heap.size+2,0,none⟩ (.slice (some ⟨w3.heap.size,0,none⟩) s.N.length s.N.length)=v2 at K2 N2 a1' htop2 ⊢;refine (za i2 _ (za K2).bel).mono ?_;rintro e v3 ⟨rfl,⟨cm,C2⟩,b3⟩;have hs4:w.heap.size+2<v2.heap.size:=(za K2).b2.lt;have K3:=hide ((za K2).call b3);have N3:=hide (((za N2).call b3).low ⟨w.heap.size+2,1,none⟩ (.slice (some ⟨v2.heap.size,0,none⟩) s.M.length s.M.length) hs3);have o1:=(za K3).b2.cell 1;have f1:=(za K3).b2.fr 1;simp only [kGs] at o1;have K4:=hide (show Tk w (v3.setCell ⟨w.heap.size+2,1,none⟩ (.slice (some ⟨v2.heap.size,0,none⟩) s.M.length s.M.length)) s #[.slice (some ⟨w3.heap.size,0,none⟩) s.N.length s.N.length, .slice (some ⟨v2.heap.size,0,none⟩) s.M.length s.M.length, .slice none 0 0, .int .i64 0] from (za K3).put 1 _);have M4:=hide (C2.low ⟨w.heap.size+2,1,none⟩ (.slice (some ⟨v2.heap.size,0,none⟩) s.M.length s.M.length) hs4)
 have a2:=(za K4).b0.cell 2;simp only [kGs] at a2;clear i2 K2 a1 a1' b3 C2 N2 K3 o0 f0;go_wp2_with fail
 have hmh:v2.heap.size<(v3.setCell ⟨w.heap.size+2,1,none⟩ (.slice (some ⟨v2.heap.size,0,none⟩) s.M.length s.M.length)).heap.size:=(Array.getElem?_eq_some_iff.1 (za M4).blk).1;generalize v3.setCell ⟨w.heap.size+2,1,none⟩ (.slice (some ⟨v2.heap.size,0,none⟩) s.M.length s.M.length)=v4 at K4 M4 N3 a2 hmh ⊢;refine (za i3 _ (za K4).bel).mono ?_;rintro e v5 ⟨rfl,⟨ch,C3⟩,b5⟩;have hs5:w.heap.size+2<v4.heap.size:=(za K4).b2.lt;have K5:=hide ((za K4).call b5);have N5:=hide (((za N3).call b5).low ⟨w.heap.size+2,2,none⟩ (.slice (some ⟨v4.heap.size,0,none⟩) s.H.length s.H.length) hs3);have M5:=hide (((za M4).call b5).low ⟨w.heap.size+2,2,none⟩ (.slice (some ⟨v4.heap.size,0,none⟩) s.H.length s.H.length) hs4);have o2:=(za K5).b2.cell 2;have f2:=(za K5).b2.fr 2;simp only [kGs] at o2
 have K6:=hide (show Tk w (v5.setCell ⟨w.heap.size+2,2,none⟩ (.slice (some ⟨v4.heap.size,0,none⟩) s.H.length s.H.length)) s #[.slice (some ⟨w3.heap.size,0,none⟩) s.N.length s.N.length, .slice (some ⟨v2.heap.size,0,none⟩) s.M.length s.M.length, .slice (some ⟨v4.heap.size,0,none⟩) s.H.length s.H.length, .int .i64 0] from (za K5).put 2 _);have H6:=hide (C3.low ⟨w.heap.size+2,2,none⟩ (.slice (some ⟨v4.heap.size,0,none⟩) s.H.length s.H.length) hs5);have a3:=(za K6).b0.cell 3;have o3:=(za K6).b2.cell 3;have f3:=(za K6).b2.fr 3;simp only [kGs] at a3 o3;clear i3 K4 a2 b5 C3 N3 M4 K5 o1 f1;go_upto_region 5 with fail
 generalize v5.setCell ⟨w.heap.size+2,2,none⟩ (.slice (some ⟨v4.heap.size,0,none⟩) s.H.length s.H.length)=v6 at K6 H6 M5 N5 a3 o3 f3 ⊢;have K7:=hide (show Tk w (v6.setCell ⟨w.heap.size+2,3,none⟩ (.int .i64 s.next)) s #[.slice (some ⟨w3.heap.size,0,none⟩) s.N.length s.N.length, .slice (some ⟨v2.heap.size,0,none⟩) s.M.length s.M.length, .slice (some ⟨v4.heap.size,0,none⟩) s.H.length s.H.length, .int .i64 s.next] from (za K6).put 3 _);have N7:=hide ((za N5).low ⟨w.heap.size+2,3,none⟩ (.int .i64 s.next) hs3);have M7:=hide ((za M5).low ⟨w.heap.size+2,3,none⟩ (.int .i64 s.next) hs4);have H7:=hide ((za H6).low ⟨w.heap.size+2,3,none⟩ (.int .i64 s.next) hs5);go_upto_region 6 with fail
 generalize v6.setCell ⟨w.heap.size+2,3,none⟩ (.int .i64 s.next)=v7 at K7 H7 M7 N7 ⊢;clear K6 H6 M5 N5 a3 o3 f3 o2 f2;have q0:=(za K7).b2.cell 0;have r0:=(za K7).b1.cell 0;have rf0:=(za K7).b1.fr 0;have q1:=(za K7).b2.cell 1;have r1:=(za K7).b1.cell 1;have rf1:=(za K7).b1.fr 1;have q2:=(za K7).b2.cell 2;have r2:=(za K7).b1.cell 2;have rf2:=(za K7).b1.fr 2;have q3:=(za K7).b2.cell 3;have r3:=(za K7).b1.cell 3;have rf3:=(za K7).b1.fr 3;simp only [kGs] at q0 q1 q2 q3 r0 r1 r2 r3;have hq3:w.heap.size+1<w3.heap.size:=by omega
 have hq4:w.heap.size+1<v2.heap.size:=by omega
 have hq5:w.heap.size+1<v4.heap.size:=by omega
 go_wp2
 refine bodyPost_ret (v:= .agg #[.slice (some ⟨w3.heap.size,0,none⟩) s.N.length s.N.length, .slice (some ⟨v2.heap.size,0,none⟩) s.M.length s.M.length, .slice (some ⟨v4.heap.size,0,none⟩) s.H.length s.H.length, .int .i64 s.next]) (by simp [results,Tryz.results9,go_sem,r0,r1,r2,r3]) rfl ⟨⟨⟨some ⟨w3.heap.size,0,none⟩,s.N.length,D,some ⟨v2.heap.size,0,none⟩,s.M.length,s.M,some ⟨v4.heap.size,0,none⟩,s.H.length,s.H,s.next⟩,by rw [za HD],?_⟩,?_⟩
 ·have n1:=((((za N7).low ⟨w.heap.size+1,0,none⟩ (.slice (some ⟨w3.heap.size,0,none⟩) s.N.length s.N.length) hq3).low ⟨w.heap.size+1,1,none⟩ (.slice (some ⟨v2.heap.size,0,none⟩) s.M.length s.M.length) hq3).low ⟨w.heap.size+1,2,none⟩ (.slice (some ⟨v4.heap.size,0,none⟩) s.H.length s.H.length) hq3).low ⟨w.heap.size+1,3,none⟩ (.int .i64 s.next) hq3;have n2:=((((za M7).low ⟨w.heap.size+1,0,none⟩ (.slice (some ⟨w3.heap.size,0,none⟩) s.N.length s.N.length) hq4).low ⟨w.heap.size+1,1,none⟩ (.slice (some ⟨v2.heap.size,0,none⟩) s.M.length s.M.length) hq4).low ⟨w.heap.size+1,2,none⟩ (.slice (some ⟨v4.heap.size,0,none⟩) s.H.length s.H.length) hq4).low ⟨w.heap.size+1,3,none⟩ (.int .i64 s.next) hq4
  have n3:=((((za H7).low ⟨w.heap.size+1,0,none⟩ (.slice (some ⟨w3.heap.size,0,none⟩) s.N.length s.N.length) hq5).low ⟨w.heap.size+1,1,none⟩ (.slice (some ⟨v2.heap.size,0,none⟩) s.M.length s.M.length) hq5).low ⟨w.heap.size+1,2,none⟩ (.slice (some ⟨v4.heap.size,0,none⟩) s.H.length s.H.length) hq5).low ⟨w.heap.size+1,3,none⟩ (.int .i64 s.next) hq5
  exact ⟨⟨n1.zf9,mounts_of n2,hands_of n3⟩,by show D.map _=_;rw [n1.same,za HD,List.take_length],za HD,rfl,rfl,rfl,by show s.N.length=D.length;rw [za HD],rfl,rfl,fun t ht=>by
   obtain ⟨j,hj⟩:=List.getElem?_of_mem ht;obtain ⟨-, -,g,e1, -, -,e2⟩:=n1.each j t hj
   exact ⟨e2,g,e1⟩,⟨_,rfl⟩,⟨_,rfl⟩,w3.heap.size,v2.heap.size,v4.heap.size,B,by omega,(Array.getElem?_eq_some_iff.1 n3.blk).1,rfl,⟨_,n1.blk,by show _=D.length*2;rw [za HD];exact n1.size,fun j t hj=>(n1.each j t hj).2.1⟩,n1.lo,n1.band,by show B D.length≤_;rw [za HD];exact htop2,rfl,⟨_,n2.blk,n2.size⟩,hmh,rfl,⟨_,n3.blk,n3.size⟩⟩
 ·have hp:w.heap.size≤w.heap.size+1:=by omega
  exact ((((za K7).bel.setCell hp _).setCell hp _).setCell hp _).setCell hp _
end zb
end
section
open Go.RowKit
theorem TB {P:Program} {md:Region.Mode} {ops:Array Oper} {Q:Exit→Act→World→Prop} {S:World→Prop} {oi:Oper} {v:Value} {fuel:Nat} {listed l2:Array Bool} {a a2:Act} {w:World} (i:Nat)
  (h:wpAnyH P md ops Q S fuel l2 a2 w) (hi:ops[i]? =some oi:=by exact rfl)
  (hs:Region.noSelect ops=true:=by kernel_rfl) (hf:Region.free md ops listed i=true:=by kernel_rfl) (hr:(Region.ready md ops listed).contains i=true:=by kernel_rfl)
  (hw:Region.wanted oi (yielded ops a.tmps)=true:=by first |kernel_rfl|rfl)
  (hy:∀w,S w→(execOp a.eval oi).run P w= .ok (.value v) w:=by (intro w hSw;(try dsimp only at hSw);go_simp;(try with_reducible rfl)))
  (hl:listed.setIfInBounds i true=l2:=by ((try simp only [kBs]);exact rfl)) (hp:a.put oi.dst v=a2:=by ((try simp only [Act.put,kBs]);exact rfl))
  (hQ:∀c a w,Q (.panic c) (a.put oi.dst v) w→Q (.panic c) a w:=by first |exact fun _ _ _ h=>h|exact fun _ _ _ h=>nomatch h.1) (hS:S w:=by assumption):wpAnyH P md ops Q S (fuel+1) listed a w:=by
 subst hl;subst hp;exact wpAnyH_take hi hs hf hr hQ (Or.inl ⟨hw,hy⟩) hS h
theorem TC {P:Program} {md:Region.Mode} {ops:Array Oper} {Q:Exit→Act→World→Prop} {S:World→Prop} {oi:Oper} {fuel:Nat} {listed l2:Array Bool} {a a2:Act} {w:World} (i:Nat)
  (h:wpAnyH P md ops Q S fuel l2 a2 w) (hi:ops[i]? =some oi:=by exact rfl)
  (hs:Region.noSelect ops=true:=by kernel_rfl) (hf:Region.free md ops listed i=true:=by kernel_rfl) (hr:(Region.ready md ops listed).contains i=true:=by kernel_rfl)
  (hw:Region.wanted oi (yielded ops a.tmps)=false:=by first |kernel_rfl|rfl)
  (hl:listed.setIfInBounds i true=l2:=by ((try simp only [kBs]);exact rfl)) (hp:a.put oi.dst undef=a2:=by ((try simp only [Act.put,kBs]);exact rfl))
  (hQ:∀c a w,Q (.panic c) (a.put oi.dst undef) w→Q (.panic c) a w:=by first |exact fun _ _ _ h=>h|exact fun _ _ _ h=>nomatch h.1) (hS:S w:=by assumption):wpAnyH P md ops Q S (fuel+1) listed a w:=by
 subst hl;subst hp;exact wpAnyH_take hi hs hf hr hQ (Or.inr ⟨hw,rfl⟩) hS h
theorem bD {n:Nat} (w:World):Below n w w.drew:=⟨rfl,rfl,rfl,Nat.le_refl _,fun _ _=>rfl⟩
theorem RN {P:Program} {md:Region.Mode} {ops:Array Oper} {Q:Exit→Act→World→Prop} {S:World→Prop} {o:Oper} {fuel:Nat} {listed:Array Bool} {a:Act} {w:World} (i:Nat)
  (h:∀K':Act→World→Prop,Shut (∀a w,S w→(S w→wpAnyH P md ops Q S fuel (listed.setIfInBounds i true) a w)→K' a w)→if Region.wanted o (yielded ops a.tmps)=true then Oper.wp P o a w K' Q else K' (a.put o.dst undef) w)
  (ho:ops[i]? =some o:=by exact rfl) (hr:Region.ready md ops listed=[i]:=by kernel_rfl):wpAnyH P md ops Q S (fuel+1) listed a w:=
 wpAnyH_ready hr (by simp) (AllReadyH.cons ho h AllReadyH.nil)
theorem RG {P:Program} {ops:Array Oper} {Q:Exit→Act→World→Prop} {S:World→Prop} {id B:Nat} {a:Act} {w w0:World} (MK:Hid (∀W',Below B w0 W'→S W')) (b:Below B w0 w.drew)
  (h:S w.drew→wpAnyH P .any ops Q S ops.size (Array.replicate ops.size false) a w.drew) (hm:P.follows .mixedOrders=true:=by kernel_rfl):(Code.region id ops true).wp P Q a w:=
 wp_region_held_drew hm (MK _ b) h
end
end Go.Proofs.YtonffldjbmednaaGreatDoor
