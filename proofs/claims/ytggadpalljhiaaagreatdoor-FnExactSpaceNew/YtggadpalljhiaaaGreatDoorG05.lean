/- Several texts of one claim in one file: WLawR, WLawI, TakeK, TakeB, WSort1, WInfo3, MemSpace. -/
import Derived.Test.YtggadpalljhiaaaGreatDoorG04
import Derived.Outline
import Derived.Deep.QuietTactic
import Derived.BigQuiet
import Derived.Deep.RegionHeld3
import Derived.Below
import Derived.WalkKit
import Derived.Test.YtggadpalljhiaaaGreatDoorG00
import Derived.Test.YtggadpalljhiaaaGreatDoorProg
import Derived.Laws.BitsAllLaws
import Derived.Laws.IdiomStrings
import Derived.Laws.AppendOwn
import Derived.Laws.AppendOwnNone
namespace Go.Proofs.YtggadpalljhiaaaGreatDoor
section
open Go.RowKit
namespace WLaw
set_option maxRecDepth 100000 in
set_option maxHeartbeats 400000 in
theorem szNodeS_left (a:Option Addr) (cap:Nat) (L:List Pl.Nd) (left:Int) (hf0:0≤left) (hf1:left≤1048576) (w:World) (hl:L.length≤maxLen) (hv:Mem.za7 w a L) (hok:∀n∈L,n.path.size≤maxLen∧n.data.size≤maxLen):
  Calls Tryz.prog 53 #[.slice a L.length cap, .int .i64 left] w fun e w'=>(∃r:Int,e= .returned (.int .i64 r)∧(r= -1∨0≤r∧r≤1048576∧L.length≤1048576∧∀n∈L,n.path.size≤1048576∧n.data.size≤1048576))∧Below w.heap.size w w':=by
 have hl2:=hl;unfold maxLen at hl2;by_cases h0:left<(L.length:Int)
 ·have t0:left - (L.length:Int)<0:=by omega
  have t1:IntKind.i64.wrap (left - (L.length:Int))=left - (L.length:Int):=by rw [IntKind.wrap_i64];omega
  go_enter Tryz.func53,Tryz.ntmps53
  go_wp2
  go_ret
  exact ⟨⟨-1,rfl, .inl rfl⟩,Below.refl _ _⟩
 have t0:¬left - (L.length:Int)<0:=by omega
 have t1:IntKind.i64.wrap (left - (L.length:Int))=left - (L.length:Int):=by rw [IntKind.wrap_i64];omega
 have HV:=hide hv;have HO:=hide hok;clear hv hok;go_enter Tryz.func53,Tryz.ntmps53
 go_wp2
 go_loopw [1,5] (fun l i wr=>∃ (k:Nat) (r:Int),k≤L.length∧i= .int .i64 (k:Int)∧l= .int .i64 r∧0≤r∧r≤1048576∧Below w.heap.size w wr∧Hid (∀ (j:Nat) n,j<k→L[j]? =some n→n.path.size≤1048576∧n.data.size≤1048576)) (fun _ i _=>L.length - (intOf i).toNat)
 case atStart=>exact ⟨0,_,Nat.zero_le _,rfl,rfl,by omega,by omega,Below.refl _ _,fun j n h=>absurd h (by omega)⟩
 case round=>
  obtain ⟨k,r,hk,rfl,rfl,hr0,hr1,hbel,HA⟩:=hrel;by_cases hlt:k<L.length
  ·obtain ⟨n,hn⟩:∃n,L[k]? =some n:=⟨_,List.getElem?_eq_getElem hlt⟩;obtain ⟨b,o,rfl,hb,q0,q1,q2,q3,q4⟩:=(za HV) k n hn;have c0:=(hbel.cell (p:=⟨b,_,none⟩) hb).trans q0;have c1:=(hbel.cell (p:=⟨b,_,none⟩) hb).trans q1;have c2:=(hbel.cell (p:=⟨b,_,none⟩) hb).trans q2;have c3:=(hbel.cell (p:=⟨b,_,none⟩) hb).trans q3;have c4:=(hbel.cell (p:=⟨b,_,none⟩) hb).trans q4;have hz:=hide (fun W=>szNode_any n r W (za HO n (List.mem_of_getElem? hn)).1 (za HO n (List.mem_of_getElem? hn)).2 hr0 hr1);have HN:=hide hn;have u1:(k:Int)<(L.length:Int):=by omega
   have u3:(0:Int)≤(k:Int):=by omega
   clear q0 q1 q2 q3 q4 hn;simp only [Pl.Nd.val] at hz;go_wp2_with fail
   refine (za hz _).mono ?_;rintro e w1 ⟨⟨r1,rfl,h1⟩,b1⟩;have hb2:=hbel.trans (b1.mono hbel.size);clear b1 hbel hz
   rcases h1 with rfl |⟨h2,h3⟩
   ·go_wp2
    go_ret
    exact ⟨⟨-1,rfl, .inl rfl⟩,hb2⟩
   ·have h4:¬r1<0:=by omega
    have HA2:Hid (∀ (j:Nat) m,j<k+1→L[j]? =some m→m.path.size≤1048576∧m.data.size≤1048576):=fun j m hj h'=>by
     rcases Nat.lt_succ_iff_lt_or_eq.1 hj with h''|rfl
     ·exact HA.out j m h'' h'
     ·rw [za HN] at h';cases h';omega
    go_wp2
    go_roundw
    case rel=>exact ⟨k+1,r1,by omega,by go_num,rfl,h2,by omega,hb2,HA2⟩
    case measure=>simp [intOf];omega
  ·have u1:¬ (k:Int)<(L.length:Int):=by omega
   go_wp2
   go_ret
   exact ⟨⟨r,rfl, .inr ⟨hr0,hr1,by omega,fun n hn=>by
    obtain ⟨j,hj⟩:=List.mem_iff_getElem?.1 hn
    exact HA.out j n (by have :=(List.getElem?_eq_some_iff.1 hj).1;omega) hj⟩⟩,hbel⟩
set_option maxRecDepth 100000 in
theorem szTree_left (a:Option Addr) (cap:Nat) (L:List Pl.Nd) (left:Int) (hf0:0≤left) (hf1:left≤1048576) (w:World) (hl:L.length≤maxLen) (hv:Mem.za7 w a L) (hok:∀n∈L,n.path.size≤maxLen∧n.data.size≤maxLen):
  Calls Tryz.prog 27 #[.agg #[.slice a L.length cap], .int .i64 left] w fun e w'=>(∃r:Int,e= .returned (.int .i64 r)∧(r= -1∨0≤r∧r≤1048576∧L.length≤1048576∧∀n∈L,n.path.size≤1048576∧n.data.size≤1048576))∧Below w.heap.size w w':=by
 have b0:∀o,Below w.heap.size w (w.alloc o):=fun o=>(Below.refl _ _).alloc (Nat.le_refl _) o;have hz:=hide (fun W (b:Below w.heap.size w W)=>szNodeS_left a cap L left hf0 hf1 W hl (Mem.za8 hv b) hok);have HB:=hide b0;clear hv hok b0;go_enter Tryz.func27,Tryz.ntmps27
 go_wp2_with fail
 refine (za hz _ (za HB _)).mono ?_;rintro e w1 ⟨⟨r1,rfl,h1⟩,b1⟩;have hb2:=(za HB _).trans (b1.mono (za HB _).size);clear b1 hz
 rcases h1 with rfl |⟨h2,h3⟩
 ·go_wp2
  go_ret
  exact ⟨⟨-1,rfl, .inl rfl⟩,hb2⟩
 ·have h4:¬r1<0:=by omega
  go_wp2
  go_ret
  exact ⟨⟨r1,rfl, .inr ⟨h2,h3⟩⟩,hb2⟩
end WLaw
end
section
open Go.RowKit
namespace WLaw
set_option maxRecDepth 100000 in
theorem ya1 (x:Pl.It) (left:Int) (hf0:0≤left) (hf1:left≤1048576) (w:World) (hl:x.t.L.length≤maxLen) (hv:Mem.za7 w x.t.a x.t.L) (hok:∀n∈x.t.L,n.path.size≤maxLen∧n.data.size≤maxLen):
  Calls Tryz.prog 13 #[.agg #[.int .i64 x.m, .slice x.t.a x.t.L.length x.t.cap], .int .i64 left] w fun e w'=>(∃r:Int,e= .returned (.int .i64 r)∧(r= -1∨0≤r∧r≤1048576∧x.t.L.length≤1048576∧∀n∈x.t.L,n.path.size≤1048576∧n.data.size≤1048576))∧Below w.heap.size w w':=by
 have b0:∀o,Below w.heap.size w (w.alloc o):=fun o=>(Below.refl _ _).alloc (Nat.le_refl _) o;have hz:=hide (fun W (b:Below w.heap.size w W)=>szTree_left x.t.a x.t.cap x.t.L left hf0 hf1 W hl (Mem.za8 hv b) hok);have HB:=hide b0;clear hv hok b0;go_enter Tryz.func13,Tryz.ntmps13
 go_wp2_with fail
 refine (za hz _ (za HB _)).mono ?_;rintro e w1 ⟨⟨r1,rfl,h1⟩,b1⟩;have hb2:=(za HB _).trans (b1.mono (za HB _).size);clear b1 hz
 rcases h1 with rfl |⟨h2,h3⟩
 ·go_wp2
  go_ret
  exact ⟨⟨-1,rfl, .inl rfl⟩,hb2⟩
 ·have h4:¬r1<0:=by omega
  go_wp2
  go_ret
  exact ⟨⟨r1,rfl, .inr ⟨h2,h3⟩⟩,hb2⟩
set_option maxRecDepth 100000 in
set_option maxHeartbeats 800000 in
theorem zz0 (a:Option Addr) (cap:Nat) (Ts:List Pl.It) (w:World) (hl:Ts.length≤maxLen) (hv:Mem.zb0 w a Ts) (hok:∀t∈Ts,t.t.L.length≤maxLen∧∀n∈t.t.L,n.path.size≤maxLen∧n.data.size≤maxLen):
  Calls Tryz.prog 4 #[.slice a Ts.length cap, .int .i64 1048576] w fun e w'=>(∃r:Int,e= .returned (.int .i64 r)∧(r= -1∨0≤r∧r≤1048576∧Ts.length≤1048576∧∀t∈Ts,t.t.L.length≤1048576∧∀n∈t.t.L,n.path.size≤1048576∧n.data.size≤1048576))∧Below w.heap.size w w':=by
 have hl2:=hl;unfold maxLen at hl2;by_cases h0:1048576<Ts.length
 ·have t0:(1048576:Int) - (Ts.length:Int)<0:=by omega
  go_enter Tryz.func4,Tryz.ntmps4
  go_wp2
  go_ret
  exact ⟨⟨-1,rfl, .inl rfl⟩,Below.refl _ _⟩
 have t0:¬ (1048576:Int) - (Ts.length:Int)<0:=by omega
 have HV:=hide hv;have HO:=hide hok;clear hv hok;go_enter Tryz.func4,Tryz.ntmps4
 go_wp2
 go_loopw [1,5] (fun l i wr=>∃ (k:Nat) (r:Int),k≤Ts.length∧i= .int .i64 (k:Int)∧l= .int .i64 r∧0≤r∧r≤1048576∧Below w.heap.size w wr∧Hid (∀ (j:Nat) t,j<k→Ts[j]? =some t→t.t.L.length≤1048576∧∀n∈t.t.L,n.path.size≤1048576∧n.data.size≤1048576)) (fun _ i _=>Ts.length - (intOf i).toNat)
 case atStart=>exact ⟨0,_,Nat.zero_le _,rfl,rfl,by omega,by omega,Below.refl _ _,fun j n h=>absurd h (by omega)⟩
 case round=>
  obtain ⟨k,r,hk,rfl,rfl,hr0,hr1,hbel,HA⟩:=hrel;by_cases hlt:k<Ts.length
  ·obtain ⟨t,ht⟩:∃t,Ts[k]? =some t:=⟨_,List.getElem?_eq_getElem hlt⟩;obtain ⟨⟨b,o,rfl,hb,q0,q0'⟩,q1⟩:=(za HV) k t ht;have c0:=(hbel.cell (p:=⟨b,_,none⟩) hb).trans q0;have c1:=(hbel.cell (p:=⟨b,_,none⟩) hb).trans q0';have hz:=hide (fun W (b:Below w.heap.size w W)=>ya1 t r hr0 hr1 W (za HO t (List.mem_of_getElem? ht)).1 (Mem.za8 q1 b) (za HO t (List.mem_of_getElem? ht)).2);have HN:=hide ht;have u1:(k:Int)<(Ts.length:Int):=by omega
   have u3:(0:Int)≤(k:Int):=by omega
   simp only [Pl.Tr.val] at c1;clear q0 q0' ht q1;go_wp2_with fail
   refine (za hz _ hbel).mono ?_;rintro e w1 ⟨⟨r1,rfl,h1⟩,b1⟩;have hb2:=hbel.trans (b1.mono hbel.size);clear b1 hbel hz
   rcases h1 with rfl |⟨h2,h3,h5,h6⟩
   ·go_wp2
    go_ret
    exact ⟨⟨-1,rfl, .inl rfl⟩,hb2⟩
   ·have h4:¬r1<0:=by omega
    have HA2:Hid (∀ (j:Nat) m,j<k+1→Ts[j]? =some m→m.t.L.length≤1048576∧∀n∈m.t.L,n.path.size≤1048576∧n.data.size≤1048576):=fun j m hj h'=>by
     rcases Nat.lt_succ_iff_lt_or_eq.1 hj with h''|rfl
     ·exact HA.out j m h'' h'
     ·rw [za HN] at h';cases h';exact ⟨h5,h6⟩
    clear h5 h6;go_wp2
    go_roundw
    case rel=>exact ⟨k+1,r1,by omega,by go_num,rfl,h2,by omega,hb2,HA2⟩
    case measure=>simp [intOf];omega
  ·have u1:¬ (k:Int)<(Ts.length:Int):=by omega
   go_wp2
   go_ret
   exact ⟨⟨r,rfl, .inr ⟨hr0,hr1,by omega,fun n hn=>by
    obtain ⟨j,hj⟩:=List.mem_iff_getElem?.1 hn
    exact HA.out j n (by have :=(List.getElem?_eq_some_iff.1 hj).1;omega) hj⟩⟩,hbel⟩
end WLaw
end
section
open Go.RowKit
theorem kBs {α:Type}:(∀ (xs:List α) (i:Nat) (h:i<xs.toArray.size),xs.toArray[i]=xs[i]'(by simpa using h))∧(∀ (a:α) (as':List α) (h:0<(a::as').length),(a::as')[0]=a)∧(∀ (a:α) (as':List α) (i:Nat) (h:i+1<(a::as').length),(a::as')[i+1]=as'[i]'(by simpa using h))∧
  (∀ (l:List α) (i:Nat) (a:α),l.toArray.setIfInBounds i a=(l.set i a).toArray)∧(∀ (x a:α) (xs:List α),(x::xs).set 0 a=a::xs)∧(∀ (x a:α) (xs:List α) (n:Nat),(x::xs).set (n+1) a=x::xs.set n a):=
 ⟨fun _ _ _=>rfl,fun _ _ _=>rfl,fun _ _ _ _=>rfl,fun _ _ _=>List.setIfInBounds_toArray ..,fun _ _ _=>rfl,fun _ _ _ _=>rfl⟩
theorem kGs {α:Type}:(∀ (l:List α) (i:Nat),l.toArray[i]? =l[i]?)∧(∀ (a:α) (l:List α),(a::l)[0]? =some a)∧(∀ (a:α) (l:List α) (i:Nat),(a::l)[i+1]? =l[i]?):=
 ⟨fun _ _=>List.getElem?_toArray ..,fun _ _=>List.getElem?_cons_zero ..,fun _ _ _=>List.getElem?_cons_succ ..⟩
end
section
open Go.RowKit
theorem TB {P:Program} {md:Region.Mode} {ops:Array Oper} {Q:Exit→Act→World→Prop} {S:World→Prop} {oi:Oper} {v:Value} {fuel:Nat} {listed l2:Array Bool} {a a2:Act} {w:World} (i:Nat)
  (h:wpAnyH P md ops Q S fuel l2 a2 w) (hi:ops[i]? =some oi:=by exact rfl)
  (hs:Region.noSelect ops=true:=by kernel_rfl) (hf:Region.free md ops listed i=true:=by kernel_rfl) (hr:(Region.ready md ops listed).contains i=true:=by kernel_rfl)
  (hw:Region.wanted oi (yielded ops a.tmps)=true:=by first |kernel_rfl|rfl)
  (hy:∀w,S w→(execOp a.eval oi).run P w= .ok (.value v) w:=by (intro w hSw;(try dsimp only at hSw);go_simp;(try with_reducible rfl)))
  (hl:listed.setIfInBounds i true=l2:=by ((try simp only [kBs]);exact rfl)) (hp:a.put oi.dst v=a2:=by ((try simp only [Act.put,kBs]);exact rfl))
  (hQ:∀c a w,Q (.panic c) (a.put oi.dst v) w→Q (.panic c) a w:=by first |exact fun _ _ _ h=>h|exact fun _ _ _ h=>nomatch h.1) (hS:S w:=by assumption):wpAnyH P md ops Q S (fuel+1) listed a w:=by
 subst hl;subst hp;exact wpAnyH_take hi hs hf hr hQ (Or.inl ⟨hw,hy⟩) hS h
theorem TC {P:Program} {md:Region.Mode} {ops:Array Oper} {Q:Exit→Act→World→Prop} {S:World→Prop} {oi:Oper} {fuel:Nat} {listed l2:Array Bool} {a a2:Act} {w:World} (i:Nat)
  (h:wpAnyH P md ops Q S fuel l2 a2 w) (hi:ops[i]? =some oi:=by exact rfl)
  (hs:Region.noSelect ops=true:=by kernel_rfl) (hf:Region.free md ops listed i=true:=by kernel_rfl) (hr:(Region.ready md ops listed).contains i=true:=by kernel_rfl)
  (hw:Region.wanted oi (yielded ops a.tmps)=false:=by first |kernel_rfl|rfl)
  (hl:listed.setIfInBounds i true=l2:=by ((try simp only [kBs]);exact rfl)) (hp:a.put oi.dst undef=a2:=by ((try simp only [Act.put,kBs]);exact rfl))
  (hQ:∀c a w,Q (.panic c) (a.put oi.dst undef) w→Q (.panic c) a w:=by first |exact fun _ _ _ h=>h|exact fun _ _ _ h=>nomatch h.1) (hS:S w:=by assumption):wpAnyH P md ops Q S (fuel+1) listed a w:=by
 subst hl;subst hp;exact wpAnyH_take hi hs hf hr hQ (Or.inr ⟨hw,rfl⟩) hS h
theorem bD {n:Nat} (w:World):Below n w w.drew:=⟨rfl,rfl,rfl,Nat.le_refl _,fun _ _=>rfl⟩
theorem RN {P:Program} {md:Region.Mode} {ops:Array Oper} {Q:Exit→Act→World→Prop} {S:World→Prop} {o:Oper} {fuel:Nat} {listed:Array Bool} {a:Act} {w:World} (i:Nat)
  (h:∀K':Act→World→Prop,Shut (∀a w,S w→(S w→wpAnyH P md ops Q S fuel (listed.setIfInBounds i true) a w)→K' a w)→if Region.wanted o (yielded ops a.tmps)=true then Oper.wp P o a w K' Q else K' (a.put o.dst undef) w)
  (ho:ops[i]? =some o:=by exact rfl) (hr:Region.ready md ops listed=[i]:=by kernel_rfl):wpAnyH P md ops Q S (fuel+1) listed a w:=
 wpAnyH_ready hr (by simp) (AllReadyH.cons ho h AllReadyH.nil)
theorem RG {P:Program} {ops:Array Oper} {Q:Exit→Act→World→Prop} {S:World→Prop} {id B:Nat} {a:Act} {w w0:World} (MK:Hid (∀W',Below B w0 W'→S W')) (b:Below B w0 w.drew)
  (h:S w.drew→wpAnyH P .any ops Q S ops.size (Array.replicate ops.size false) a w.drew) (hm:P.follows .mixedOrders=true:=by kernel_rfl):(Code.region id ops true).wp P Q a w:=
 wp_region_held_drew hm (MK _ b) h
end
section
set_option linter.unusedSimpArgs false
open Go.RowKit
namespace WSort1
set_option maxRecDepth 100000 in
set_option maxHeartbeats 1000000 in
theorem len_any (w:World):Calls Tryz.prog 60 #[.int .u64 1] w fun e w'=>e= .returned (.int .i64 1)∧w'=w:=by
 have h64:∀w,Calls Tryz.prog 85 #[.int .u64 1] w fun e w'=>e= .returned (.int .i64 1)∧w'=w:=fun w=>by
  go_enter Tryz.func85,Tryz.ntmps85
  go_wp2
  go_ret
  exact ⟨by kernel_rfl,rfl⟩
 have H:=hide h64;clear h64;go_enter Tryz.func60,Tryz.ntmps60
 go_wp2_with fail
 refine (za H _).mono ?_;rintro e w1 ⟨rfl,rfl⟩;go_wp2
 go_ret
 exact ⟨rfl,rfl⟩
set_option maxRecDepth 100000 in
set_option maxHeartbeats 1000000 in
theorem ins_any (v f:Value) (w:World):Calls Tryz.prog 76 #[v, .int .i64 0, .int .i64 1,f] w fun e w'=>e= .returned (.tuple #[])∧w'=w:=by
 go_enter Tryz.func76,Tryz.ntmps76
 go_wp2
 refine wp_loop_rounds 1 ?_;rw [rounds_succ];go_wp2
 go_end0
 exact ⟨rfl,rfl⟩
set_option maxRecDepth 100000 in
set_option maxHeartbeats 1000000 in
theorem pdq_any (v f:Value) (w:World):Calls Tryz.prog 59 #[v, .int .i64 0, .int .i64 1, .int .i64 1,f] w fun e w'=>e= .returned (.tuple #[])∧w'=w:=by
 have H:=hide (ins_any v f);go_enter Tryz.func59,Tryz.ntmps59
 go_wp2
 refine wp_loop_rounds 1 ?_;rw [rounds_succ];go_wp2_with fail
 refine (za H _).mono ?_;rintro e w1 ⟨rfl,rfl⟩;go_wp2
 exact bodyPost_ret (v:= .tuple #[]) (by simp [results,Tryz.results59,go_sem]) rfl ⟨rfl,rfl⟩
set_option maxRecDepth 100000 in
set_option maxHeartbeats 1000000 in
theorem sort_any (a:Option Addr) (cap:Nat) (f:Value) (w:World):Calls Tryz.prog 35 #[.slice a 1 cap,f] w fun e w'=>e= .returned (.tuple #[])∧w'=w:=by
 have H:=hide (pdq_any (.slice a 1 cap) f);have HL:=hide len_any;go_enter Tryz.func35,Tryz.ntmps35
 go_wp2_with fail
 refine (za HL _).mono ?_;rintro e w1 ⟨rfl,rfl⟩;go_wp2_with fail
 refine (za H _).mono ?_;rintro e w2 ⟨rfl,rfl⟩;go_wp2
 go_end0
 exact ⟨rfl,rfl⟩
end WSort1
end
section
open Go.RowKit
namespace WSpI
theorem infoMn:(Tryz.prog.info? 51).map (fun i=>(i.zero,i.size,i.bytes))=some (some (.agg #[.string ⟨#[]⟩, .int .i64 0, .bool false]),3,32):=by kernel_rfl
theorem infoHn:(Tryz.prog.info? 99).map (fun i=>(i.zero,i.size,i.bytes))=some (some (.agg #[.int .i64 0, .int .i64 0, .string ⟨#[]⟩]),3,32):=by kernel_rfl
end WSpI
end
section
open Go.RowKit
namespace Pl
structure Mn where
 p:ByteArray
 i:Int
 z:Bool
structure Hn where
 d:Int
 i:Int
 p:ByteArray
structure Ns where
 d:Int
 a:Option Addr
 cap:Nat
 Is:List It
def Ns.r (x:Ns):Int × List (Int × List Nd):=(x.d,x.Is.map It.r)
structure Sp where
 ia:Option Addr
 ic:Nat
 N:List Ns
 ma:Option Addr
 mc:Nat
 M:List Mn
 ha:Option Addr
 hc:Nat
 H:List Hn
 next :Int
def Sp.cs (s:Sp):Array Value:=#[.slice s.ia s.N.length s.ic, .slice s.ma s.M.length s.mc, .slice s.ha s.H.length s.hc, .int .i64 s.next]
end Pl
namespace Mem
def zb2 (w:World) (a:Option Addr) (L:List Pl.Mn):Prop:=
 ∀ (i:Nat) x,L[i]? =some x→∃b o,a=some ⟨b,o,none⟩∧b<w.heap.size∧w.cell? ⟨b,o+i*3,none⟩=some (.string x.p)∧w.cell? ⟨b,o+i*3+1,none⟩=some (.int .i64 x.i)∧w.cell? ⟨b,o+i*3+2,none⟩=some (.bool x.z)
def zb9 (w:World) (a:Option Addr) (L:List Pl.Hn):Prop:=
 ∀ (i:Nat) x,L[i]? =some x→∃b o,a=some ⟨b,o,none⟩∧b<w.heap.size∧w.cell? ⟨b,o+i*3,none⟩=some (.int .i64 x.d)∧w.cell? ⟨b,o+i*3+1,none⟩=some (.int .i64 x.i)∧w.cell? ⟨b,o+i*3+2,none⟩=some (.string x.p)
def ze4 (w:World) (a:Option Addr) (L:List Pl.Ns):Prop:=
 ∀ (i:Nat) x,L[i]? =some x→(∃b o,a=some ⟨b,o,none⟩∧b<w.heap.size∧w.cell? ⟨b,o+i*2,none⟩=some (.int .i64 x.d)∧w.cell? ⟨b,o+i*2+1,none⟩=some (.slice x.a x.Is.length x.cap))∧zb0 w x.a x.Is
theorem zc7 {w w':World} {a:Option Addr} {L:List Pl.Mn} (h:zb2 w a L) (b:Below w.heap.size w w'):zb2 w' a L:=fun i x hi=>by
 obtain ⟨g,o,h1,h2,h3,h4,h5⟩:=h i x hi;exact ⟨g,o,h1,Nat.lt_of_lt_of_le h2 b.size,(b.cell (p:=⟨g,_,none⟩) h2).trans h3,(b.cell (p:=⟨g,_,none⟩) h2).trans h4,(b.cell (p:=⟨g,_,none⟩) h2).trans h5⟩
theorem zc6 {w w':World} {a:Option Addr} {L:List Pl.Hn} (h:zb9 w a L) (b:Below w.heap.size w w'):zb9 w' a L:=fun i x hi=>by
 obtain ⟨g,o,h1,h2,h3,h4,h5⟩:=h i x hi;exact ⟨g,o,h1,Nat.lt_of_lt_of_le h2 b.size,(b.cell (p:=⟨g,_,none⟩) h2).trans h3,(b.cell (p:=⟨g,_,none⟩) h2).trans h4,(b.cell (p:=⟨g,_,none⟩) h2).trans h5⟩
theorem zf1 {w w':World} {a:Option Addr} {L:List Pl.Ns} (h:ze4 w a L) (b:Below w.heap.size w w'):ze4 w' a L:=fun i x hi=>by
 obtain ⟨⟨g,o,h1,h2,h3,h4⟩,h5⟩:=h i x hi;exact ⟨⟨g,o,h1,Nat.lt_of_lt_of_le h2 b.size,(b.cell (p:=⟨g,_,none⟩) h2).trans h3,(b.cell (p:=⟨g,_,none⟩) h2).trans h4⟩,zc2 h5 b⟩
theorem zv5 (w:World) (a:Option Addr):zb2 w a []:=fun i x h=>by simp at h
theorem zx9 (w:World) (a:Option Addr):zb9 w a []:=fun i x h=>by simp at h
theorem zr8 (w:World) (a:Option Addr):ze4 w a []:=fun i x h=>by simp at h
structure zc3 (w:World) (s:Pl.Sp):Prop where
 zf9:ze4 w s.ia s.N
 zh:zb2 w s.ma s.M
 hands:zb9 w s.ha s.H
theorem zc3.call {w w':World} {s:Pl.Sp} (h:zc3 w s) (b:Below w.heap.size w w'):zc3 w' s:=⟨zf1 h.zf9 b,zc7 h.zh b,zc6 h.hands b⟩
end Mem
end
end Go.Proofs.YtggadpalljhiaaaGreatDoor
