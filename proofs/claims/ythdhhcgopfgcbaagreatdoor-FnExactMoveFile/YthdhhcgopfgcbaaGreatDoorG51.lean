/- Several texts of one claim in one file: WMoveN, WLawN, WLawR, WLawI, WLawT, WLawE, WLawJ, WLawY, MemHas, MemBand, WMkJ, WHdN, WMkI, MemPick, MemPickO, WMkB, WLawK, WMkQ, WMkR, OkNode, OkItems, OpenNode, OpenTree, OpenItems. -/
import Derived.Test.YthdhhcgopfgcbaaGreatDoorWMoveP
import Derived.Test.YthdhhcgopfgcbaaGreatDoorRows
import Derived.ProofKit
import Derived.OpenShut
import Derived.ShutString
namespace Go.Proofs.YthdhhcgopfgcbaaGreatDoor
section
set_option linter.unusedSimpArgs false
open Go.RowKit Go.Maps
namespace zp2
open ze6
set_option maxRecDepth 100000 in
set_option maxHeartbeats 4000000 in
theorem move_workN (a:Option Addr) (cap:Nat) (Is:List Pl.It) (p d:ByteArray) (qN qp qd:Addr) (w:World) (hqN:w.cell? qN=some (.slice a Is.length cap)) (hqp:w.cell? qp=some (.string p)) (hqd:w.cell? qd=some (.string d)) (hl:Is.length≤1048576) (hcap:Is.length≤cap) (hv:Mem.zb0 w a Is) (hok:∀x∈Is,x.t.L.length≤1048576∧∀n∈x.t.L,n.path.size≤1048576∧n.data.size≤1048576) (x:Nat→Addr) (hE:WIs.Six w x):
  Calls Tryz.prog 22 #[.pointer (some qN), .pointer (some qp), .pointer (some qd)] w fun e w'=>EndsN w w' e (Pl.movN (Is.map Pl.It.r) p d).1 (Pl.movN (Is.map Pl.It.r) p d).2:=by
 have HIN:=hide (moved_any a cap Is p d w hl hcap hv hok x hE);generalize Pl.movN (Is.map Pl.It.r) p d=R at HIN ⊢;clear hv hok hE;go_enter Tryz.func22,Tryz.ntmps22
 go_wp2_with fail
 refine (za HIN).mono ?_;rintro e w2 ⟨h2,b2⟩
 rcases h2 with ⟨hc,v,Js,rfl,hio,hr⟩|⟨hc,hx,rfl⟩
 ·obtain ⟨a2,cap2,rfl⟩:=zq2 hio;have HIO:=hide hio;have HR:=hide hr;have HC:=hide hc;clear HIN hio hr hc;go_wp2
  go_ret
  exact ⟨.inl ⟨za HC,_,Js,rfl,za HIO,za HR⟩,b2⟩
 ·have HC:=hide hc;have HX:=hide hx;clear HIN hc hx;go_wp2_with fail
  exact ⟨rfl,⟨.inr ⟨za HC,za HX,rfl⟩,b2⟩⟩
set_option maxRecDepth 100000 in
set_option maxHeartbeats 4000000 in
theorem move_implN (a:Option Addr) (cap:Nat) (Is:List Pl.It) (p d:ByteArray) (w:World) (hl:Is.length≤1048576) (hcap:Is.length≤cap) (hv:Mem.zb0 w a Is) (hok:∀x∈Is,x.t.L.length≤1048576∧∀n∈x.t.L,n.path.size≤1048576∧n.data.size≤1048576) (x:Nat→Addr) (hE:WIs.Six w x):
  Calls Tryz.prog 7 #[.slice a Is.length cap, .string p, .string d] w fun e w'=>(∃v Js,e= .returned (.agg #[v, .int .i64 (Pl.movN (Is.map Pl.It.r) p d).1])∧Mem.Io w' w.heap.size v Js∧Js.map Pl.It.r=(Pl.movN (Is.map Pl.It.r) p d).2)∧Below w.heap.size w w':=by
 have hmf:∀ (fn:Fn) (first cap:Array Value) (w:World),(Instr.makeFunc fn first cap).run Tryz.prog w= .ok (.func fn first cap) w:=fun _ _ _ _=>rfl;have b0:Below w.heap.size w ((((w.alloc (.cells #[.slice a Is.length cap] 24)).alloc (.cells #[.string p] 9)).alloc (.cells #[.string d] 9)).alloc (.cells #[.slice none 0 0, .int .i64 0] 26)):=(((bE0).alloc (by simp) _).alloc (by simp;omega) _).alloc (by simp;omega) _;have hs:((((w.alloc (.cells #[.slice a Is.length cap] 24)).alloc (.cells #[.string p] 9)).alloc (.cells #[.string d] 9)).alloc (.cells #[.slice none 0 0, .int .i64 0] 26)).heap.size=w.heap.size+1+1+1+1:=by simp
 have B0:Mem.Blk ((((w.alloc (.cells #[.slice a Is.length cap] 24)).alloc (.cells #[.string p] 9)).alloc (.cells #[.string d] 9)).alloc (.cells #[.slice none 0 0, .int .i64 0] 26)) (w.heap.size) #[.slice a Is.length cap] 24:=by
  have h:Mem.Blk (w.alloc (.cells #[.slice a Is.length cap] 24)) (w).heap.size #[.slice a Is.length cap] 24:=Mem.Blk.new _ _ _;rw [show (w).heap.size=w.heap.size by simp] at h;exact (((h).alloc _).alloc _).alloc _
 have B1:Mem.Blk ((((w.alloc (.cells #[.slice a Is.length cap] 24)).alloc (.cells #[.string p] 9)).alloc (.cells #[.string d] 9)).alloc (.cells #[.slice none 0 0, .int .i64 0] 26)) (w.heap.size+1) #[.string p] 9:=by
  have h:Mem.Blk ((w.alloc (.cells #[.slice a Is.length cap] 24)).alloc (.cells #[.string p] 9)) ((w.alloc (.cells #[.slice a Is.length cap] 24))).heap.size #[.string p] 9:=Mem.Blk.new _ _ _;rw [show ((w.alloc (.cells #[.slice a Is.length cap] 24))).heap.size=w.heap.size+1 by simp] at h;exact ((h).alloc _).alloc _
 have B2:Mem.Blk ((((w.alloc (.cells #[.slice a Is.length cap] 24)).alloc (.cells #[.string p] 9)).alloc (.cells #[.string d] 9)).alloc (.cells #[.slice none 0 0, .int .i64 0] 26)) (w.heap.size+1+1) #[.string d] 9:=by
  have h:Mem.Blk (((w.alloc (.cells #[.slice a Is.length cap] 24)).alloc (.cells #[.string p] 9)).alloc (.cells #[.string d] 9)) (((w.alloc (.cells #[.slice a Is.length cap] 24)).alloc (.cells #[.string p] 9))).heap.size #[.string d] 9:=Mem.Blk.new _ _ _;rw [show (((w.alloc (.cells #[.slice a Is.length cap] 24)).alloc (.cells #[.string p] 9))).heap.size=w.heap.size+1+1 by simp] at h;exact (h).alloc _
 have B3:Mem.Blk ((((w.alloc (.cells #[.slice a Is.length cap] 24)).alloc (.cells #[.string p] 9)).alloc (.cells #[.string d] 9)).alloc (.cells #[.slice none 0 0, .int .i64 0] 26)) (w.heap.size+1+1+1) #[.slice none 0 0, .int .i64 0] 26:=by
  have h:Mem.Blk ((((w.alloc (.cells #[.slice a Is.length cap] 24)).alloc (.cells #[.string p] 9)).alloc (.cells #[.string d] 9)).alloc (.cells #[.slice none 0 0, .int .i64 0] 26)) ((((w.alloc (.cells #[.slice a Is.length cap] 24)).alloc (.cells #[.string p] 9)).alloc (.cells #[.string d] 9))).heap.size #[.slice none 0 0, .int .i64 0] 26:=Mem.Blk.new _ _ _;rw [show ((((w.alloc (.cells #[.slice a Is.length cap] 24)).alloc (.cells #[.string p] 9)).alloc (.cells #[.string d] 9))).heap.size=w.heap.size+1+1+1 by simp] at h;exact h
 have HF:=hide (fun W0 (hW0:W0=((((w.alloc (.cells #[.slice a Is.length cap] 24)).alloc (.cells #[.string p] 9)).alloc (.cells #[.string d] 9)).alloc (.cells #[.slice none 0 0, .int .i64 0] 26)))=>nestFace_any 22 #[.pointer (some ⟨w.heap.size,0,none⟩), .pointer (some ⟨w.heap.size+1,0,none⟩), .pointer (some ⟨w.heap.size+1+1,0,none⟩)] (Pl.movN (Is.map Pl.It.r) p d).1 (Pl.movN (Is.map Pl.It.r) p d).2 W0 (fun W=>by kernel_rfl) (fun W b=>by
  subst hW0;have bw:=b0.trans (b.mono b0.size);rw [hs] at b;have hsz:=b.size;have h:=move_workN a cap Is p d ⟨w.heap.size,0,none⟩ ⟨w.heap.size+1,0,none⟩ ⟨w.heap.size+1+1,0,none⟩ W (by have h:=(B0.below b (by omega)).cell 0;simpa using h) (by have h:=(B1.below b (by omega)).cell 0;simpa using h) (by have h:=(B2.below b (by omega)).cell 0;simpa using h) hl hcap (Mem.zb2 hv bw) hok x (hE.call bw)
  exact h))
 have hf:=hide (za HF _ rfl);clear HF hv hok hE;generalize (Pl.movN (Is.map Pl.It.r) p d)=R at hf ⊢;go_enter Tryz.func7,Tryz.ntmps7
 go_wp2_with fail
 refine (za hf).mono ?_;rintro e w1 ⟨⟨v,Js,rfl,hio,hr⟩,b1⟩;obtain ⟨a2,cap2,rfl⟩:=zq2 hio;rw [hs] at hio;have bw1:=b0.trans (b1.mono b0.size);have R1:=B3.call b1;obtain ⟨⟨c0,c1⟩,f0,f1⟩:=jf2 R1;have HIO:=hide hio;have HR:=hide hr;have HB:=hide bw1;clear hf b0 b1 hio hr bw1 B0 B1 B2 B3;go_wp2
 refine bodyPost_ret (v:= .agg #[.slice a2 Js.length cap2, .int .i64 R.1]) (by simp [results,Tryz.results7,go_sem,c0,c1]) rfl ⟨⟨.slice a2 Js.length cap2,Js,rfl,?_,za HR⟩,?_⟩
 ·exact (((za HIO).set _ _ (by show w.heap.size+1+1+1<_;omega)).set _ _ (by show w.heap.size+1+1+1<_;omega)).mono (by omega)
 ·exact ((za HB).setCell (by show w.heap.size≤w.heap.size+1+1+1;omega) _).setCell (by show w.heap.size≤w.heap.size+1+1+1;omega) _
end zp2
end
section
open Go.RowKit
namespace WLaw
set_option maxRecDepth 100000 in
theorem szNode_any (n:Pl.Nd) (left:Int) (w:World) (hp:n.path.size≤maxLen) (hd:n.data.size≤maxLen) (h0:0≤left) (h1:left≤1048576):
  Calls Tryz.prog 96 #[n.val, .int .i64 left] w fun e w'=>(∃r:Int,e= .returned (.int .i64 r)∧(r= -1∨0≤r∧r+n.path.size+n.data.size=left))∧Below w.heap.size w w':=by
 obtain ⟨p,k,d,t,m⟩:=n;simp only at hp hd;unfold maxLen at hp hd;simp only [Pl.Nd.val];have hb:∀o,Below w.heap.size w (w.alloc o):=fun o=>(Below.refl _ _).alloc (Nat.le_refl _) o;have HB:=hide hb;clear hb;by_cases h2:left<(p.size:Int)
 ·have t2:left - (p.size:Int)<0:=by omega
  go_enter Tryz.func96,Tryz.ntmps96
  go_wp2
  go_ret
  exact ⟨⟨-1,rfl, .inl rfl⟩,za HB _⟩
 have t2:¬left - (p.size:Int)<0:=by omega
 by_cases h3:left<(p.size:Int)+(d.size:Int)
 ·have t3:left - (p.size:Int) - (d.size:Int)<0:=by omega
  go_enter Tryz.func96,Tryz.ntmps96
  go_wp2
  go_ret
  exact ⟨⟨-1,rfl, .inl rfl⟩,za HB _⟩
 ·have t3:¬left - (p.size:Int) - (d.size:Int)<0:=by omega
  go_enter Tryz.func96,Tryz.ntmps96
  go_wp2
  go_ret
  exact ⟨⟨_,rfl, .inr ⟨by omega,by omega⟩⟩,za HB _⟩
set_option maxRecDepth 100000 in
theorem toNode_any (n:Pl.Nd) (w:World):
  Calls Tryz.prog 103 #[n.val] w fun e w'=>e= .returned n.val∧Below w.heap.size w w':=by
 obtain ⟨p,k,d,t,m⟩:=n;simp only [Pl.Nd.val];go_enter Tryz.func103,Tryz.ntmps103
 go_wp2
 refine bodyPost_ret (v:= .agg #[.string p, .int .i64 k, .string d, .int .i64 t, .int .i64 m]) (by simp [results,Tryz.results103,go_sem]) rfl ⟨rfl,?_⟩;exact (((Below.refl _ _).alloc (Nat.le_refl _) _).alloc (by simp) _).alloc (by simp;omega) _
end WLaw
end
section
open Go.RowKit
namespace WLaw
set_option maxRecDepth 100000 in
set_option maxHeartbeats 400000 in
theorem szNodeS_left (a:Option Addr) (cap:Nat) (L:List Pl.Nd) (left:Int) (hf0:0≤left) (hf1:left≤1048576) (w:World) (hl:L.length≤maxLen) (hv:Mem.za2 w a L) (hok:∀n∈L,n.path.size≤maxLen∧n.data.size≤maxLen):
  Calls Tryz.prog 54 #[.slice a L.length cap, .int .i64 left] w fun e w'=>(∃r:Int,e= .returned (.int .i64 r)∧(r= -1∨0≤r∧r≤1048576∧L.length≤1048576∧∀n∈L,n.path.size≤1048576∧n.data.size≤1048576))∧Below w.heap.size w w':=by
 have hl2:=hl;unfold maxLen at hl2;by_cases h0:left<(L.length:Int)
 ·have t0:left - (L.length:Int)<0:=by omega
  have t1:IntKind.i64.wrap (left - (L.length:Int))=left - (L.length:Int):=by rw [IntKind.wrap_i64];omega
  go_enter Tryz.func54,Tryz.ntmps54
  go_wp2
  go_ret
  exact ⟨⟨-1,rfl, .inl rfl⟩,Below.refl _ _⟩
 have t0:¬left - (L.length:Int)<0:=by omega
 have t1:IntKind.i64.wrap (left - (L.length:Int))=left - (L.length:Int):=by rw [IntKind.wrap_i64];omega
 have HV:=hide hv;have HO:=hide hok;clear hv hok;go_enter Tryz.func54,Tryz.ntmps54
 go_wp2
 go_loopw [1,5] (fun l i wr=>∃ (k:Nat) (r:Int),k≤L.length∧i= .int .i64 (k:Int)∧l= .int .i64 r∧0≤r∧r≤1048576∧Below w.heap.size w wr∧Hid (∀ (j:Nat) n,j<k→L[j]? =some n→n.path.size≤1048576∧n.data.size≤1048576)) (fun _ i _=>L.length - (intOf i).toNat)
 case atStart=>exact ⟨0,_,Nat.zero_le _,rfl,rfl,by omega,by omega,Below.refl _ _,fun j n h=>absurd h (by omega)⟩
 case round=>
  obtain ⟨k,r,hk,rfl,rfl,hr0,hr1,hbel,HA⟩:=hrel;by_cases hlt:k<L.length
  ·obtain ⟨n,hn⟩:∃n,L[k]? =some n:=⟨_,List.getElem?_eq_getElem hlt⟩;obtain ⟨b,o,rfl,hb,q0,q1,q2,q3,q4⟩:=(za HV) k n hn;have c0:=(hbel.cell (p:=⟨b,_,none⟩) hb).trans q0;have c1:=(hbel.cell (p:=⟨b,_,none⟩) hb).trans q1;have c2:=(hbel.cell (p:=⟨b,_,none⟩) hb).trans q2;have c3:=(hbel.cell (p:=⟨b,_,none⟩) hb).trans q3;have c4:=(hbel.cell (p:=⟨b,_,none⟩) hb).trans q4;have hz:=hide (fun W=>szNode_any n r W (za HO n (List.mem_of_getElem? hn)).1 (za HO n (List.mem_of_getElem? hn)).2 hr0 hr1);have HN:=hide hn;have u1:(k:Int)<(L.length:Int):=by omega
   have u3:(0:Int)≤(k:Int):=by omega
   clear q0 q1 q2 q3 q4 hn;simp only [Pl.Nd.val] at hz;go_wp2_with fail
   refine (za hz _).mono ?_;rintro e w1 ⟨⟨r1,rfl,h1⟩,b1⟩;have hb2:=hbel.trans (b1.mono hbel.size);clear b1 hbel hz
   rcases h1 with rfl |⟨h2,h3⟩
   ·go_wp2
    go_ret
    exact ⟨⟨-1,rfl, .inl rfl⟩,hb2⟩
   ·have h4:¬r1<0:=by omega
    have HA2:Hid (∀ (j:Nat) m,j<k+1→L[j]? =some m→m.path.size≤1048576∧m.data.size≤1048576):=fun j m hj h'=>by
     rcases Nat.lt_succ_iff_lt_or_eq.1 hj with h''|rfl
     ·exact HA.out j m h'' h'
     ·rw [za HN] at h';cases h';omega
    go_wp2
    go_roundw
    case rel=>exact ⟨k+1,r1,by omega,by go_num,rfl,h2,by omega,hb2,HA2⟩
    case measure=>simp [intOf];omega
  ·have u1:¬ (k:Int)<(L.length:Int):=by omega
   go_wp2
   go_ret
   exact ⟨⟨r,rfl, .inr ⟨hr0,hr1,by omega,fun n hn=>by
    obtain ⟨j,hj⟩:=List.mem_iff_getElem?.1 hn
    exact HA.out j n (by have :=(List.getElem?_eq_some_iff.1 hj).1;omega) hj⟩⟩,hbel⟩
set_option maxRecDepth 100000 in
theorem szTree_left (a:Option Addr) (cap:Nat) (L:List Pl.Nd) (left:Int) (hf0:0≤left) (hf1:left≤1048576) (w:World) (hl:L.length≤maxLen) (hv:Mem.za2 w a L) (hok:∀n∈L,n.path.size≤maxLen∧n.data.size≤maxLen):
  Calls Tryz.prog 27 #[.agg #[.slice a L.length cap], .int .i64 left] w fun e w'=>(∃r:Int,e= .returned (.int .i64 r)∧(r= -1∨0≤r∧r≤1048576∧L.length≤1048576∧∀n∈L,n.path.size≤1048576∧n.data.size≤1048576))∧Below w.heap.size w w':=by
 have b0:∀o,Below w.heap.size w (w.alloc o):=fun o=>(Below.refl _ _).alloc (Nat.le_refl _) o;have hz:=hide (fun W (b:Below w.heap.size w W)=>szNodeS_left a cap L left hf0 hf1 W hl (Mem.za0 hv b) hok);have HB:=hide b0;clear hv hok b0;go_enter Tryz.func27,Tryz.ntmps27
 go_wp2_with fail
 refine (za hz _ (za HB _)).mono ?_;rintro e w1 ⟨⟨r1,rfl,h1⟩,b1⟩;have hb2:=(za HB _).trans (b1.mono (za HB _).size);clear b1 hz
 rcases h1 with rfl |⟨h2,h3⟩
 ·go_wp2
  go_ret
  exact ⟨⟨-1,rfl, .inl rfl⟩,hb2⟩
 ·have h4:¬r1<0:=by omega
  go_wp2
  go_ret
  exact ⟨⟨r1,rfl, .inr ⟨h2,h3⟩⟩,hb2⟩
end WLaw
end
section
open Go.RowKit
namespace WLaw
set_option maxRecDepth 100000 in
theorem szItem_any (x:Pl.It) (left:Int) (hf0:0≤left) (hf1:left≤1048576) (w:World) (hl:x.t.L.length≤maxLen) (hv:Mem.za2 w x.t.a x.t.L) (hok:∀n∈x.t.L,n.path.size≤maxLen∧n.data.size≤maxLen):
  Calls Tryz.prog 13 #[.agg #[.int .i64 x.m, .slice x.t.a x.t.L.length x.t.cap], .int .i64 left] w fun e w'=>(∃r:Int,e= .returned (.int .i64 r)∧(r= -1∨0≤r∧r≤1048576∧x.t.L.length≤1048576∧∀n∈x.t.L,n.path.size≤1048576∧n.data.size≤1048576))∧Below w.heap.size w w':=by
 have b0:∀o,Below w.heap.size w (w.alloc o):=fun o=>(Below.refl _ _).alloc (Nat.le_refl _) o;have hz:=hide (fun W (b:Below w.heap.size w W)=>szTree_left x.t.a x.t.cap x.t.L left hf0 hf1 W hl (Mem.za0 hv b) hok);have HB:=hide b0;clear hv hok b0;go_enter Tryz.func13,Tryz.ntmps13
 go_wp2_with fail
 refine (za hz _ (za HB _)).mono ?_;rintro e w1 ⟨⟨r1,rfl,h1⟩,b1⟩;have hb2:=(za HB _).trans (b1.mono (za HB _).size);clear b1 hz
 rcases h1 with rfl |⟨h2,h3⟩
 ·go_wp2
  go_ret
  exact ⟨⟨-1,rfl, .inl rfl⟩,hb2⟩
 ·have h4:¬r1<0:=by omega
  go_wp2
  go_ret
  exact ⟨⟨r1,rfl, .inr ⟨h2,h3⟩⟩,hb2⟩
set_option maxRecDepth 100000 in
set_option maxHeartbeats 800000 in
theorem szItemS_any (a:Option Addr) (cap:Nat) (Ts:List Pl.It) (w:World) (hl:Ts.length≤maxLen) (hv:Mem.zb0 w a Ts) (hok:∀t∈Ts,t.t.L.length≤maxLen∧∀n∈t.t.L,n.path.size≤maxLen∧n.data.size≤maxLen):
  Calls Tryz.prog 4 #[.slice a Ts.length cap, .int .i64 1048576] w fun e w'=>(∃r:Int,e= .returned (.int .i64 r)∧(r= -1∨0≤r∧r≤1048576∧Ts.length≤1048576∧∀t∈Ts,t.t.L.length≤1048576∧∀n∈t.t.L,n.path.size≤1048576∧n.data.size≤1048576))∧Below w.heap.size w w':=by
 have hl2:=hl;unfold maxLen at hl2;by_cases h0:1048576<Ts.length
 ·have t0:(1048576:Int) - (Ts.length:Int)<0:=by omega
  go_enter Tryz.func4,Tryz.ntmps4
  go_wp2
  go_ret
  exact ⟨⟨-1,rfl, .inl rfl⟩,Below.refl _ _⟩
 have t0:¬ (1048576:Int) - (Ts.length:Int)<0:=by omega
 have HV:=hide hv;have HO:=hide hok;clear hv hok;go_enter Tryz.func4,Tryz.ntmps4
 go_wp2
 go_loopw [1,5] (fun l i wr=>∃ (k:Nat) (r:Int),k≤Ts.length∧i= .int .i64 (k:Int)∧l= .int .i64 r∧0≤r∧r≤1048576∧Below w.heap.size w wr∧Hid (∀ (j:Nat) t,j<k→Ts[j]? =some t→t.t.L.length≤1048576∧∀n∈t.t.L,n.path.size≤1048576∧n.data.size≤1048576)) (fun _ i _=>Ts.length - (intOf i).toNat)
 case atStart=>exact ⟨0,_,Nat.zero_le _,rfl,rfl,by omega,by omega,Below.refl _ _,fun j n h=>absurd h (by omega)⟩
 case round=>
  obtain ⟨k,r,hk,rfl,rfl,hr0,hr1,hbel,HA⟩:=hrel;by_cases hlt:k<Ts.length
  ·obtain ⟨t,ht⟩:∃t,Ts[k]? =some t:=⟨_,List.getElem?_eq_getElem hlt⟩;obtain ⟨⟨b,o,rfl,hb,q0,q0'⟩,q1⟩:=(za HV) k t ht;have c0:=(hbel.cell (p:=⟨b,_,none⟩) hb).trans q0;have c1:=(hbel.cell (p:=⟨b,_,none⟩) hb).trans q0';have hz:=hide (fun W (b:Below w.heap.size w W)=>szItem_any t r hr0 hr1 W (za HO t (List.mem_of_getElem? ht)).1 (Mem.za0 q1 b) (za HO t (List.mem_of_getElem? ht)).2);have HN:=hide ht;have u1:(k:Int)<(Ts.length:Int):=by omega
   have u3:(0:Int)≤(k:Int):=by omega
   simp only [Pl.Tr.val] at c1;clear q0 q0' ht q1;go_wp2_with fail
   refine (za hz _ hbel).mono ?_;rintro e w1 ⟨⟨r1,rfl,h1⟩,b1⟩;have hb2:=hbel.trans (b1.mono hbel.size);clear b1 hbel hz
   rcases h1 with rfl |⟨h2,h3,h5,h6⟩
   ·go_wp2
    go_ret
    exact ⟨⟨-1,rfl, .inl rfl⟩,hb2⟩
   ·have h4:¬r1<0:=by omega
    have HA2:Hid (∀ (j:Nat) m,j<k+1→Ts[j]? =some m→m.t.L.length≤1048576∧∀n∈m.t.L,n.path.size≤1048576∧n.data.size≤1048576):=fun j m hj h'=>by
     rcases Nat.lt_succ_iff_lt_or_eq.1 hj with h''|rfl
     ·exact HA.out j m h'' h'
     ·rw [za HN] at h';cases h';exact ⟨h5,h6⟩
    clear h5 h6;go_wp2
    go_roundw
    case rel=>exact ⟨k+1,r1,by omega,by go_num,rfl,h2,by omega,hb2,HA2⟩
    case measure=>simp [intOf];omega
  ·have u1:¬ (k:Int)<(Ts.length:Int):=by omega
   go_wp2
   go_ret
   exact ⟨⟨r,rfl, .inr ⟨hr0,hr1,by omega,fun n hn=>by
    obtain ⟨j,hj⟩:=List.mem_iff_getElem?.1 hn
    exact HA.out j n (by have :=(List.getElem?_eq_some_iff.1 hj).1;omega) hj⟩⟩,hbel⟩
end WLaw
end
section
open Go.RowKit
namespace WLaw
def zeroCells (n:Nat):Array Value:=madeCells (Value.agg #[.string ⟨#[]⟩, .int .i64 0, .string ⟨#[]⟩, .int .i64 0, .int .i64 0]).cells (n*5)
theorem zero_size (n:Nat):(zeroCells n).size=n*5:=size_madeCells _ _
theorem zn2:(Tryz.prog.info? 47).map (fun i=>(i.zero,i.size,i.bytes))=some (some (.agg #[.string ⟨#[]⟩, .int .i64 0, .string ⟨#[]⟩, .int .i64 0, .int .i64 0]),5,56):=by kernel_rfl
theorem makeN (n:Nat) (hn:n≤1048576) (w:World):(Instr.makeSlice 41 (.int .i64 (n:Int)) (.int .i64 (n:Int))).run Tryz.prog w= .ok (.slice (some ⟨w.heap.size,0,none⟩) n n) (w.alloc (.cells (zeroCells n) 47)):=by
 obtain ⟨i0,h0,h1,h2,h3⟩:=info_parts zn2;have h:=run_make (P:=Tryz.prog) w 41 47 i0 (.agg #[.string ⟨#[]⟩, .int .i64 0, .string ⟨#[]⟩, .int .i64 0, .int .i64 0]) Tryz.underlying41 h0 h1 .i64 .i64 (n:Int) (n:Int) (by omega) (Int.le_refl _) (by rw [h3];omega) (by omega);rw [h,h2];simp [zeroCells]
set_option maxRecDepth 100000 in
set_option maxHeartbeats 400000 in
theorem toNodeS_row (a:Option Addr) (cap:Nat) (L:List Pl.Nd) (w:World) (hl:L.length≤1048576) (hv:Mem.za2 w a L):
  Calls Tryz.prog 72 #[.slice a L.length cap] w fun e w'=>e= .returned (.slice (some ⟨w.heap.size,0,none⟩) L.length L.length)∧(∃cur,w'.heap[w.heap.size]? =some (.cells cur 47 (0,0))∧cur.size=L.length*5)∧Mem.za2 w' (some ⟨w.heap.size,0,none⟩) L∧Below w.heap.size w w':=by
 have HV:=hide hv;have hmk:=makeN L.length hl w;clear hv;go_enter Tryz.func72,Tryz.ntmps72
 go_wp2
 go_loopw [4] (fun i wr=>∃ (k:Nat) (cur:Array Value),k≤L.length∧i= .int .i64 (k:Int)∧Below w.heap.size w wr∧Hid (wr.heap[w.heap.size]? =some (.cells cur 47 (0,0)))∧Hid (cur.size=L.length*5)∧Hid (∀ (j:Nat) n,j<k→L[j]? =some n→cur[j*5]? =some (.string n.path)∧cur[j*5+1]? =some (.int .i64 n.kind)∧cur[j*5+2]? =some (.string n.data)∧cur[j*5+3]? =some (.int .i64 n.time)∧cur[j*5+4]? =some (.int .i64 n.mark))) (fun i _=>L.length - (intOf i).toNat)
 case atStart=>exact ⟨0,zeroCells L.length,Nat.zero_le _,rfl,(Below.refl _ _).alloc (Nat.le_refl _) _,hide (heap_alloc_new w _),hide (zero_size _),fun j n h=>absurd h (by omega)⟩
 case round=>
  obtain ⟨k,cur,hk,rfl,hbel,HB,HZ,HA⟩:=hrel;by_cases hlt:k<L.length
  ·obtain ⟨n,hn⟩:∃n,L[k]? =some n:=⟨_,List.getElem?_eq_getElem hlt⟩;obtain ⟨b,o,rfl,hb,q0,q1,q2,q3,q4⟩:=(za HV) k n hn;have c0:=(hbel.cell (p:=⟨b,_,none⟩) hb).trans q0;have c1:=(hbel.cell (p:=⟨b,_,none⟩) hb).trans q1;have c2:=(hbel.cell (p:=⟨b,_,none⟩) hb).trans q2;have c3:=(hbel.cell (p:=⟨b,_,none⟩) hb).trans q3;have c4:=(hbel.cell (p:=⟨b,_,none⟩) hb).trans q4;have hz:=hide (fun W=>toNode_any n W);have HN:=hide hn;have u1:(k:Int)<(L.length:Int):=by omega
   have u3:(0:Int)≤(k:Int):=by omega
   clear q0 q1 q2 q3 q4 hn;simp only [Pl.Nd.val] at hz;go_wp2_with fail
   refine (za hz _).mono ?_;rintro e w1 ⟨rfl,b1⟩;have hN:w.heap.size<wr.heap.size:=(Array.getElem?_eq_some_iff.1 (za HB)).1;have HB1:=hide ((b1.block _ hN).trans (za HB));have hb2:=hide (hbel.trans (b1.mono hbel.size));have hcz:=za HZ;have s0:∃x,w1.cell? ⟨w.heap.size,k*5,none⟩=some x:=⟨_,(cell_of_row w1 _ (k*5) _ _ (0,0) (za HB1)).trans (Array.getElem?_eq_getElem (by omega))⟩;have s1:∃x,w1.cell? ⟨w.heap.size,k*5+1,none⟩=some x:=⟨_,(cell_of_row w1 _ (k*5+1) _ _ (0,0) (za HB1)).trans (Array.getElem?_eq_getElem (by omega))⟩;have s2:∃x,w1.cell? ⟨w.heap.size,k*5+2,none⟩=some x:=⟨_,(cell_of_row w1 _ (k*5+2) _ _ (0,0) (za HB1)).trans (Array.getElem?_eq_getElem (by omega))⟩;have s3:∃x,w1.cell? ⟨w.heap.size,k*5+3,none⟩=some x:=⟨_,(cell_of_row w1 _ (k*5+3) _ _ (0,0) (za HB1)).trans (Array.getElem?_eq_getElem (by omega))⟩
   have s4:∃x,w1.cell? ⟨w.heap.size,k*5+4,none⟩=some x:=⟨_,(cell_of_row w1 _ (k*5+4) _ _ (0,0) (za HB1)).trans (Array.getElem?_eq_getElem (by omega))⟩;obtain ⟨x0,s0⟩:=s0;obtain ⟨x1,s1⟩:=s1;obtain ⟨x2,s2⟩:=s2;obtain ⟨x3,s3⟩:=s3;obtain ⟨x4,s4⟩:=s4;have f0:∀j,w1.frozen? ⟨w.heap.size,j,none⟩=false:=fun j=>Mem.zg1 (za HB1);have HC:=hide hcz;clear b1 hbel hz hcz HB;go_wp2
   go_roundw
   case rel=>
    refine ⟨k+1,_,by omega,by go_num,?_,hide (heap_setCell_same _ _ (k*5+4) _ _ _ (heap_setCell_same _ _ (k*5+3) _ _ _ (heap_setCell_same _ _ (k*5+2) _ _ _ (heap_setCell_same _ _ (k*5+1) _ _ _ (heap_setCell_same _ _ (k*5) _ _ _ (za HB1)))))),?_,?_⟩
    ·exact (((((za hb2).setCell (Nat.le_refl _) _).setCell (Nat.le_refl _) _).setCell (Nat.le_refl _) _).setCell (Nat.le_refl _) _).setCell (Nat.le_refl _) _
    ·exact hide (by simpa using za HC)
    ·intro j m hj hm;have hjl:=(List.getElem?_eq_some_iff.1 hm).1
     rcases Nat.lt_succ_iff_lt_or_eq.1 hj with h''|rfl
     ·obtain ⟨i0,i1,i2,i3,i4⟩:=HA.out j m h'' hm;simp only [Array.getElem?_setIfInBounds];refine ⟨?_,?_,?_,?_,?_⟩ <;> (repeat (rw [if_neg (by omega)])) <;> assumption
     ·rw [za HN] at hm;cases hm
      have hcz:=za HC;simp only [Array.getElem?_setIfInBounds,Array.size_setIfInBounds];refine ⟨?_,?_,?_,?_,?_⟩ <;> simp <;> omega
   case measure=>simp [intOf];omega
  ·have u1:¬ (k:Int)<(L.length:Int):=by omega
   go_wp2
   go_ret
   refine ⟨rfl,⟨cur,za HB,za HZ⟩,fun j n hj=>?_,hbel⟩;obtain ⟨i0,i1,i2,i3,i4⟩:=HA.out j n (by have :=(List.getElem?_eq_some_iff.1 hj).1;omega) hj;refine ⟨_,0,rfl,(Array.getElem?_eq_some_iff.1 (za HB)).1,?_,?_,?_,?_,?_⟩
   ·rw [cell_of_row wr _ _ _ _ (0,0) (za HB),Nat.zero_add];exact i0
   ·rw [cell_of_row wr _ _ _ _ (0,0) (za HB),Nat.zero_add];exact i1
   ·rw [cell_of_row wr _ _ _ _ (0,0) (za HB),Nat.zero_add];exact i2
   ·rw [cell_of_row wr _ _ _ _ (0,0) (za HB),Nat.zero_add];exact i3
   ·rw [cell_of_row wr _ _ _ _ (0,0) (za HB),Nat.zero_add];exact i4
end WLaw
end
section
open Go.RowKit
namespace WLaw
set_option maxRecDepth 100000 in
theorem ym1 (a:Option Addr) (cap:Nat) (L:List Pl.Nd) (w:World) (hl:L.length≤1048576) (hv:Mem.za2 w a L):
  Calls Tryz.prog 39 #[.agg #[.slice a L.length cap]] w fun e w'=>∃g,e= .returned (.agg #[.slice (some ⟨g,0,none⟩) L.length L.length])∧w.heap.size≤g∧(∃cur,w'.heap[g]? =some (.cells cur 47 (0,0))∧cur.size=L.length*5)∧Mem.za2 w' (some ⟨g,0,none⟩) L∧Below w.heap.size w w':=by
 have HZ:=hide (fun W (b:Below w.heap.size w W)=>toNodeS_row a cap L W hl (Mem.za0 hv b));clear hv;have b0:∀o1 o2 o3,Below w.heap.size w (((w.alloc o1).alloc o2).alloc o3):=fun o1 o2 o3=>(((Below.refl _ _).alloc (Nat.le_refl _) o1).alloc (by simp) o2).alloc (by simp;omega) o3;have HB:=hide b0;clear b0;go_enter Tryz.func39,Tryz.ntmps39
 go_wp2_with fail
 refine (za HZ _ (za HB _ _ _)).mono ?_;rintro e w1 ⟨rfl,⟨cur,hrow,hcur⟩,h1,b1⟩;have hs:(((w.alloc (.cells #[.slice a L.length cap] 37)).alloc (.cells #[.slice none 0 0] 43)).alloc (.cells #[.slice none 0 0] 43)).heap.size=w.heap.size+1+1+1:=by simp
 have r1:w1.heap[w.heap.size+1]? =some (.cells #[.slice none 0 0] 43 (0,0)):=(b1.block _ (by rw [hs];omega)).trans (Mem.new_mid w _ _ _);have r2:w1.heap[w.heap.size+1+1]? =some (.cells #[.slice none 0 0] 43 (0,0)):=(b1.block _ (by rw [hs];omega)).trans (Mem.zp3 w _ _ _);have c1:w1.cell? ⟨w.heap.size+1,0,none⟩=some (.slice none 0 0):=by rw [cell_of_row w1 _ 0 _ _ (0,0) r1];rfl
 have c2:w1.cell? ⟨w.heap.size+1+1,0,none⟩=some (.slice none 0 0):=by rw [cell_of_row w1 _ 0 _ _ (0,0) r2];rfl
 have f1:w1.frozen? ⟨w.heap.size+1,0,none⟩=false:=Mem.zg1 r1;have f2:w1.frozen? ⟨w.heap.size+1+1,0,none⟩=false:=Mem.zg1 r2;have bb:=hide ((za HB _ _ _).trans (b1.mono (za HB _ _ _).size));have H1:=hide h1;have HR:=hide hrow;have HCU:=hide hcur;have HSZ:=hide hs;generalize (((w.alloc (.cells #[.slice a L.length cap] 37)).alloc (.cells #[.slice none 0 0] 43)).alloc (.cells #[.slice none 0 0] 43)).heap.size=g at H1 HSZ HR ⊢;clear HZ b1 h1 hs r1 r2 hrow hcur;go_wp2
 refine bodyPost_ret (v:= .agg #[.slice (some ⟨g,0,none⟩) L.length L.length]) (by simp [results,Tryz.results39,go_sem,c1]) rfl ⟨g,rfl,by have :=za HSZ;omega,⟨cur,?_,za HCU⟩,?_,?_⟩
 ·have hg:=za HSZ;exact (heap_setCell_other _ _ _ _ (by show g≠w.heap.size+1;omega)).trans ((heap_setCell_other _ _ _ _ (by show g≠w.heap.size+1+1;omega)).trans (za HR))
 ·intro i n hi;obtain ⟨b,o,e1,h2,q0,q1,q2,q3,q4⟩:=za H1 i n hi;cases e1
  have hg:=za HSZ
  have hc:∀j,((w1.setCell ⟨w.heap.size+1+1,0,none⟩ (.slice (some ⟨g,0,none⟩) L.length L.length)).setCell ⟨w.heap.size+1,0,none⟩ (.slice (some ⟨g,0,none⟩) L.length L.length)).cell? ⟨g,j,none⟩=w1.cell? ⟨g,j,none⟩:=fun j=>by
   rw [World.cell?_setCell_far _ _ _ _ (by show w.heap.size+1≠g;omega),World.cell?_setCell_far _ _ _ _ (by show w.heap.size+1+1≠g;omega)]
  refine ⟨g,0,rfl,by simpa [World.setCell] using h2,?_,?_,?_,?_,?_⟩
  ·rw [hc];exact q0
  ·rw [hc];exact q1
  ·rw [hc];exact q2
  ·rw [hc];exact q3
  ·rw [hc];exact q4
 ·exact ((za bb).setCell (by show w.heap.size≤w.heap.size+1+1;omega) _).setCell (by show w.heap.size≤w.heap.size+1;omega) _
set_option maxRecDepth 100000 in
theorem eqNode_any (n:Pl.Nd) (w:World):
  Calls Tryz.prog 123 #[n.val,n.val] w fun e w'=>e= .returned (.bool true)∧Below w.heap.size w w':=by
 obtain ⟨p,k,d,t,m⟩:=n;simp only [Pl.Nd.val];go_enter Tryz.func123,Tryz.ntmps123
 go_wp2
 go_ret
 exact ⟨rfl,((Below.refl _ _).alloc (Nat.le_refl _) _).alloc (by simp) _⟩
set_option maxRecDepth 100000 in
set_option maxHeartbeats 400000 in
theorem eqNodeS_any (a b:Option Addr) (c1 c2:Nat) (L:List Pl.Nd) (w:World) (hl:L.length≤1048576) (hv:Mem.za2 w a L) (hu:Mem.za2 w b L):
  Calls Tryz.prog 95 #[.slice a L.length c1, .slice b L.length c2] w fun e w'=>e= .returned (.bool true)∧Below w.heap.size w w':=by
 have HV:=hide hv;have HU:=hide hu;clear hv hu;go_enter Tryz.func95,Tryz.ntmps95
 go_wp2
 go_loopw [5] (fun i wr=>∃k:Nat,k≤L.length∧i= .int .i64 (k:Int)∧Below w.heap.size w wr) (fun i _=>L.length - (intOf i).toNat)
 case atStart=>exact ⟨0,Nat.zero_le _,rfl,Below.refl _ _⟩
 case round=>
  obtain ⟨k,hk,rfl,hbel⟩:=hrel;by_cases hlt:k<L.length
  ·obtain ⟨n,hn⟩:∃n,L[k]? =some n:=⟨_,List.getElem?_eq_getElem hlt⟩;obtain ⟨g,o,rfl,hg,q0,q1,q2,q3,q4⟩:=(za HV) k n hn;obtain ⟨g2,o2,rfl,hg2,p0,p1,p2,p3,p4⟩:=(za HU) k n hn;have c0:=(hbel.cell (p:=⟨g,_,none⟩) hg).trans q0;have c1:=(hbel.cell (p:=⟨g,_,none⟩) hg).trans q1;have c2:=(hbel.cell (p:=⟨g,_,none⟩) hg).trans q2;have c3:=(hbel.cell (p:=⟨g,_,none⟩) hg).trans q3;have c4:=(hbel.cell (p:=⟨g,_,none⟩) hg).trans q4;have d0:=(hbel.cell (p:=⟨g2,_,none⟩) hg2).trans p0;have d1:=(hbel.cell (p:=⟨g2,_,none⟩) hg2).trans p1;have d2:=(hbel.cell (p:=⟨g2,_,none⟩) hg2).trans p2;have d3:=(hbel.cell (p:=⟨g2,_,none⟩) hg2).trans p3;have d4:=(hbel.cell (p:=⟨g2,_,none⟩) hg2).trans p4;have hz:=hide (fun W=>eqNode_any n W)
   have MK:Hid (∀W',Below w.heap.size w W'→(Below w.heap.size w W'∧W'.cell? ⟨g,o+k*5,none⟩=some (.string n.path)∧W'.cell? ⟨g,o+k*5+1,none⟩=some (.int .i64 n.kind)∧W'.cell? ⟨g,o+k*5+2,none⟩=some (.string n.data)∧W'.cell? ⟨g,o+k*5+3,none⟩=some (.int .i64 n.time)∧W'.cell? ⟨g,o+k*5+4,none⟩=some (.int .i64 n.mark)∧W'.cell? ⟨g2,o2+k*5,none⟩=some (.string n.path)∧W'.cell? ⟨g2,o2+k*5+1,none⟩=some (.int .i64 n.kind)∧W'.cell? ⟨g2,o2+k*5+2,none⟩=some (.string n.data)∧W'.cell? ⟨g2,o2+k*5+3,none⟩=some (.int .i64 n.time)∧W'.cell? ⟨g2,o2+k*5+4,none⟩=some (.int .i64 n.mark))):=fun W' hb=>⟨hb,(hb.cell (p:=⟨g,_,none⟩) hg).trans q0,(hb.cell (p:=⟨g,_,none⟩) hg).trans q1,(hb.cell (p:=⟨g,_,none⟩) hg).trans q2,(hb.cell (p:=⟨g,_,none⟩) hg).trans q3,(hb.cell (p:=⟨g,_,none⟩) hg).trans q4,(hb.cell (p:=⟨g2,_,none⟩) hg2).trans p0,(hb.cell (p:=⟨g2,_,none⟩) hg2).trans p1,(hb.cell (p:=⟨g2,_,none⟩) hg2).trans p2,(hb.cell (p:=⟨g2,_,none⟩) hg2).trans p3,(hb.cell (p:=⟨g2,_,none⟩) hg2).trans p4⟩
   have u1:(k:Int)<(L.length:Int):=by omega
   have u3:(0:Int)≤(k:Int):=by omega
   have hbd:Below w.heap.size w wr.drew:=⟨hbel.os,hbel.tape,hbel.output,hbel.size,hbel.block⟩;clear q0 q1 q2 q3 q4 p0 p1 p2 p3 p4 hn;simp only [Pl.Nd.val] at hz;go_wp2_with fail
   go_region_held3 (fun W'=>Below w.heap.size w W'∧W'.cell? ⟨g,o+k*5,none⟩=some (.string n.path)∧W'.cell? ⟨g,o+k*5+1,none⟩=some (.int .i64 n.kind)∧W'.cell? ⟨g,o+k*5+2,none⟩=some (.string n.data)∧W'.cell? ⟨g,o+k*5+3,none⟩=some (.int .i64 n.time)∧W'.cell? ⟨g,o+k*5+4,none⟩=some (.int .i64 n.mark)∧W'.cell? ⟨g2,o2+k*5,none⟩=some (.string n.path)∧W'.cell? ⟨g2,o2+k*5+1,none⟩=some (.int .i64 n.kind)∧W'.cell? ⟨g2,o2+k*5+2,none⟩=some (.string n.data)∧W'.cell? ⟨g2,o2+k*5+3,none⟩=some (.int .i64 n.time)∧W'.cell? ⟨g2,o2+k*5+4,none⟩=some (.int .i64 n.mark)) (first |exact za MK _ hbd|exact za MK _ (hbd.trans (bX.mono hbd.size))) (first |(go_at_call 123;refine (za hz _).mono ?_;rintro e wX ⟨rfl,bX⟩))
   have hb2:=hbd.trans (bX.mono hbd.size);clear hbel hbd bX MK;go_wp2
   go_roundw
   case rel=>exact ⟨k+1,by omega,by go_num,hb2⟩
   case measure=>simp [intOf];omega
  ·have u1:¬ (k:Int)<(L.length:Int):=by omega
   go_wp2
   go_ret
   exact ⟨rfl,hbel⟩
set_option maxRecDepth 100000 in
theorem eqTree_any (a b:Option Addr) (c1 c2:Nat) (L:List Pl.Nd) (w:World) (hl:L.length≤1048576) (hv:Mem.za2 w a L) (hu:Mem.za2 w b L):
  Calls Tryz.prog 51 #[.agg #[.slice a L.length c1], .agg #[.slice b L.length c2]] w fun e w'=>e= .returned (.bool true)∧Below w.heap.size w w':=by
 have b0:∀o1 o2,Below w.heap.size w ((w.alloc o1).alloc o2):=fun o1 o2=>((Below.refl _ _).alloc (Nat.le_refl _) o1).alloc (by simp) o2;have HB:=hide b0;have HZ:=hide (fun W (b':Below w.heap.size w W)=>eqNodeS_any a b c1 c2 L W hl (Mem.za0 hv b') (Mem.za0 hu b'));clear hv hu b0;go_enter Tryz.func51,Tryz.ntmps51
 go_wp2_with fail
 refine (za HZ _ (za HB _ _)).mono ?_;rintro e w1 ⟨rfl,b1⟩;have bb:=(za HB _ _).trans (b1.mono (za HB _ _).size);clear HZ b1;go_wp2
 go_ret
 exact ⟨rfl,bb⟩
end WLaw
end
section
set_option linter.unusedSimpArgs false
open Go.RowKit
namespace WLaw
set_option maxRecDepth 100000 in
theorem yf8 (x:Pl.It) (w:World) (hl:x.t.L.length≤1048576) (hv:Mem.za2 w x.t.a x.t.L):
  Calls Tryz.prog 20 #[.agg #[.int .i64 x.m, .slice x.t.a x.t.L.length x.t.cap]] w fun e w'=>∃g,e= .returned (.agg #[.int .i64 x.m, .slice (some ⟨g,0,none⟩) x.t.L.length x.t.L.length])∧w.heap.size≤g∧Mem.za2 w' (some ⟨g,0,none⟩) x.t.L∧Below w.heap.size w w':=by
 obtain ⟨m,a,cap,L⟩:=x;simp only at hl hv ⊢;have b0:Below w.heap.size w (((w.alloc (.cells #[.int .i64 m, .slice a L.length cap] 39)).alloc (.cells #[.int .i64 0, .slice none 0 0] 53)).alloc (.cells #[.int .i64 m, .slice none 0 0] 53)):=((bE0).alloc (by simp) _).alloc (by simp;omega) _;have hz:=hide (ym1 a cap L _ hl (Mem.za0 hv b0));have hs:(((w.alloc (.cells #[.int .i64 m, .slice a L.length cap] 39)).alloc (.cells #[.int .i64 0, .slice none 0 0] 53)).alloc (.cells #[.int .i64 m, .slice none 0 0] 53)).heap.size=w.heap.size+1+1+1:=by simp
 have r1:Mem.Blk (((w.alloc (.cells #[.int .i64 m, .slice a L.length cap] 39)).alloc (.cells #[.int .i64 0, .slice none 0 0] 53)).alloc (.cells #[.int .i64 m, .slice none 0 0] 53)) (w.heap.size+1) #[.int .i64 0, .slice none 0 0] 53:=Mem.new_mid w _ _ _;have r2:Mem.Blk (((w.alloc (.cells #[.int .i64 m, .slice a L.length cap] 39)).alloc (.cells #[.int .i64 0, .slice none 0 0] 53)).alloc (.cells #[.int .i64 m, .slice none 0 0] 53)) (w.heap.size+1+1) #[.int .i64 m, .slice none 0 0] 53:=Mem.zp3 w _ _ _;have HB0:=hide b0;clear hv b0;go_enter Tryz.func20,Tryz.ntmps20
 go_wp2_with fail
 generalize (((w.alloc (.cells #[.int .i64 m, .slice a L.length cap] 39)).alloc (.cells #[.int .i64 0, .slice none 0 0] 53)).alloc (.cells #[.int .i64 m, .slice none 0 0] 53))=w3 at hz hs r1 r2 HB0 ⊢;refine (za hz).mono ?_;rintro e w1 ⟨g,rfl,hg, -,hn,b1⟩;have R1:=r1.call b1;have R2:=r2.call b1;obtain ⟨c10,c11⟩:=jc2 R1;obtain ⟨c20,c21⟩:=jc2 R2;have f10:=R1.fr 0;have f11:=R1.fr 1;have f20:=R2.fr 0;have f21:=R2.fr 1;have bb:=hide ((za HB0).trans (b1.mono (za HB0).size));have HG:Hid (w.heap.size+1+1+1≤g):=hide (by omega);have HN:=hide hn;clear hz b1 hn hs r1 r2 R1 R2 HB0 hg;go_wp2
 have hg:=za HG;refine bodyPost_ret (v:= .agg #[.int .i64 m, .slice (some ⟨g,0,none⟩) L.length L.length]) (by simp [results,Tryz.results20,go_sem,c10,c11]) rfl ⟨g,rfl,by omega,?_,?_⟩
 ·exact Mem.zg8 (Mem.zg8 (Mem.zg8 (za HN) _ _ (by show w.heap.size+1+1≠g;omega)) _ _ (by show w.heap.size+1≠g;omega)) _ _ (by show w.heap.size+1≠g;omega)
 ·exact (((za bb).setCell (by show w.heap.size≤w.heap.size+1+1;omega) _).setCell (by show w.heap.size≤w.heap.size+1;omega) _).setCell (by show w.heap.size≤w.heap.size+1;omega) _
def zy5 (n:Nat):Array Value:=madeCells (Value.agg #[.int .i64 0, .slice none 0 0]).cells (n*2)
theorem ye4 (n:Nat):(zy5 n).size=n*2:=size_madeCells _ _
theorem infoI:(Tryz.prog.info? 53).map (fun i=>(i.zero,i.size,i.bytes))=some (some (.agg #[.int .i64 0, .slice none 0 0]),2,32):=by kernel_rfl
theorem makeI (n:Nat) (hn:n≤1048576) (w:World):(Instr.makeSlice 24 (.int .i64 (n:Int)) (.int .i64 (n:Int))).run Tryz.prog w= .ok (.slice (some ⟨w.heap.size,0,none⟩) n n) (w.alloc (.cells (zy5 n) 53)):=by
 obtain ⟨i0,h0,h1,h2,h3⟩:=info_parts infoI;have h:=run_make (P:=Tryz.prog) w 24 53 i0 (.agg #[.int .i64 0, .slice none 0 0]) Tryz.underlying24 h0 h1 .i64 .i64 (n:Int) (n:Int) (by omega) (Int.le_refl _) (by rw [h3];omega) (by omega);rw [h,h2];simp [zy5]
structure CopI (w wr:World) (Ts D:List Pl.It) (cur:Array Value):Prop where
 blk:wr.heap[w.heap.size]? =some (.cells cur 53 (0,0))
 size:cur.size=Ts.length*2
 same:D.map Pl.It.r=(Ts.take D.length).map Pl.It.r
 each:∀ (j:Nat) t,D[j]? =some t→cur[j*2]? =some (.int .i64 t.m)∧cur[j*2+1]? =some t.t.val∧∃g,t.t.a=some ⟨g,0,none⟩∧w.heap.size<g∧Mem.za2 wr t.t.a t.t.L
theorem CopI.call {w wr W:World} {Ts D:List Pl.It} {cur:Array Value} (h:CopI w wr Ts D cur) (b:Below wr.heap.size wr W):CopI w W Ts D cur:=
 ⟨(b.block _ (Array.getElem?_eq_some_iff.1 h.blk).1).trans h.blk,h.size,h.same,fun j t hj=>⟨(h.each j t hj).1,(h.each j t hj).2.1,by
  obtain ⟨g,h1,h2,h3⟩:=(h.each j t hj).2.2
  exact ⟨g,h1,h2,Mem.za0 h3 b⟩⟩⟩
theorem CopI.put {w wr:World} {Ts D:List Pl.It} {cur:Array Value} (h:CopI w wr Ts D cur) (t:Pl.It) (g:Nat) (hk:Ts[D.length]? =some t) (hg:w.heap.size<g) (hn:Mem.za2 wr (some ⟨g,0,none⟩) t.t.L):
  CopI w ((wr.setCell ⟨w.heap.size,D.length*2,none⟩ (.int .i64 t.m)).setCell ⟨w.heap.size,D.length*2+1,none⟩ (.slice (some ⟨g,0,none⟩) t.t.L.length t.t.L.length)) Ts (D++[⟨t.m,some ⟨g,0,none⟩,t.t.L.length,t.t.L⟩]) ((cur.setIfInBounds (D.length*2) (.int .i64 t.m)).setIfInBounds (D.length*2+1) (.slice (some ⟨g,0,none⟩) t.t.L.length t.t.L.length)):=by
 have hlt:=(List.getElem?_eq_some_iff.1 hk).1;have hsz:=h.size;refine ⟨heap_setCell_same _ _ _ _ _ _ (heap_setCell_same _ _ _ _ _ _ h.blk),by simpa using h.size,?_,fun j m hj=>?_⟩
 ·rw [List.length_append,List.length_singleton,List.take_add_one,hk,List.map_append,List.map_append,h.same];rfl
 ·by_cases e:j<D.length
  ·rw [List.getElem?_append_left e] at hj;obtain ⟨h1,h1',g',h2,h3,h4⟩:=h.each j m hj;refine ⟨by rw [Array.getElem?_setIfInBounds,if_neg (by omega),Array.getElem?_setIfInBounds,if_neg (by omega)];exact h1,by rw [Array.getElem?_setIfInBounds,if_neg (by omega),Array.getElem?_setIfInBounds,if_neg (by omega)];exact h1',g',h2,h3,?_⟩;rw [h2] at h4 ⊢;exact Mem.zg8 (Mem.zg8 h4 _ _ (by show w.heap.size≠g';omega)) _ _ (by show w.heap.size≠g';omega)
  ·rw [List.getElem?_append_right (by omega)] at hj
   have hj0:j=D.length:=by
    have :=(List.getElem?_eq_some_iff.1 hj).1;simp at this;omega
   subst hj0;simp at hj
   subst hj;refine ⟨?_,?_,g,rfl,hg,Mem.zg8 (Mem.zg8 hn _ _ (by show w.heap.size≠g;omega)) _ _ (by show w.heap.size≠g;omega)⟩
   ·rw [Array.getElem?_setIfInBounds,if_neg (by omega),Array.getElem?_setIfInBounds,if_pos rfl,if_pos (by omega)]
   ·rw [Array.getElem?_setIfInBounds,if_pos rfl,if_pos (by rw [Array.size_setIfInBounds];omega)];rfl
theorem CopI.items {w wr:World} {Ts D:List Pl.It} {cur:Array Value} (h:CopI w wr Ts D cur):Mem.zb0 wr (some ⟨w.heap.size,0,none⟩) D:=fun i t hi=>by
 obtain ⟨h1,h1',g,h2,h3,h4⟩:=h.each i t hi;refine ⟨⟨_,0,rfl,(Array.getElem?_eq_some_iff.1 h.blk).1,?_,?_⟩,h4⟩
 ·rw [cell_of_row wr _ _ _ _ (0,0) h.blk,Nat.zero_add];exact h1
 ·rw [cell_of_row wr _ _ _ _ (0,0) h.blk,Nat.zero_add];exact h1'
set_option maxRecDepth 100000 in
set_option maxHeartbeats 800000 in
theorem yd8 (a:Option Addr) (cap:Nat) (Ts:List Pl.It) (w:World) (hl:Ts.length≤1048576) (hv:Mem.zb0 w a Ts) (hok:∀t∈Ts,t.t.L.length≤1048576):
  Calls Tryz.prog 6 #[.slice a Ts.length cap] w fun e w'=>e= .returned (.slice (some ⟨w.heap.size,0,none⟩) Ts.length Ts.length)∧(∃D cur,D.length=Ts.length∧CopI w w' Ts D cur)∧Below w.heap.size w w':=by
 have HV:=hide hv;have HO:=hide hok;have hmk:=makeI Ts.length hl w;clear hv hok;go_enter Tryz.func6,Tryz.ntmps6
 go_wp2
 go_loopw [4] (fun i wr=>∃ (D:List Pl.It) (cur:Array Value),D.length≤Ts.length∧i= .int .i64 (D.length:Int)∧Below w.heap.size w wr∧Hid (CopI w wr Ts D cur)) (fun i _=>Ts.length - (intOf i).toNat)
 case atStart=>exact ⟨[],zy5 Ts.length,Nat.zero_le _,rfl,bE0,hide ⟨heap_alloc_new w _,ye4 _,rfl,fun j t h=>by simp at h⟩⟩
 case round=>
  obtain ⟨D,cur,hk,rfl,hbel,HC⟩:=hrel;by_cases hlt:D.length<Ts.length
  ·obtain ⟨t,ht⟩:∃t,Ts[D.length]? =some t:=⟨_,List.getElem?_eq_getElem hlt⟩;obtain ⟨⟨b,o,rfl,hb,q0,q0'⟩,q1⟩:=(za HV) D.length t ht;have c0:=(hbel.cell (p:=⟨b,_,none⟩) hb).trans q0;have c1:=(hbel.cell (p:=⟨b,_,none⟩) hb).trans q0';have hz:=hide (fun W (b:Below w.heap.size w W)=>yf8 t W (za HO t (List.mem_of_getElem? ht)) (Mem.za0 q1 b));have HN:=hide ht;have u1:(D.length:Int)<(Ts.length:Int):=by omega
   have u3:(0:Int)≤(D.length:Int):=by omega
   simp only [Pl.Tr.val] at c1;clear q0 q0' ht q1;go_wp2_with fail
   refine (za hz _ hbel).mono ?_;rintro e w1 ⟨g,rfl,hg,hn,b1⟩;have hgw:w.heap.size<g:=by have :=(Array.getElem?_eq_some_iff.1 (za HC).blk).1;omega
   have C1:=(za HC).call b1;have hb2:=hbel.trans (b1.mono hbel.size);have hcs:=C1.size;obtain ⟨x0,s0⟩:∃x,w1.cell? ⟨w.heap.size,D.length*2,none⟩=some x:=⟨_,(cell_of_row w1 _ (D.length*2) _ _ (0,0) C1.blk).trans (Array.getElem?_eq_getElem (by omega))⟩;obtain ⟨x1,s1⟩:∃x,w1.cell? ⟨w.heap.size,D.length*2+1,none⟩=some x:=⟨_,(cell_of_row w1 _ (D.length*2+1) _ _ (0,0) C1.blk).trans (Array.getElem?_eq_getElem (by omega))⟩;have f0:w1.frozen? ⟨w.heap.size,D.length*2,none⟩=false:=Mem.zg1 C1.blk;have f1:w1.frozen? ⟨w.heap.size,D.length*2+1,none⟩=false:=Mem.zg1 C1.blk;have HC2:=hide (C1.put t g (za HN) hgw hn);have HB2:=hide hb2;clear b1 hbel hz HC C1 hn hg hb2 hcs;go_wp2
   go_roundw
   case rel=>exact ⟨_,_,by rw [List.length_append,List.length_singleton];omega,by rw [List.length_append,List.length_singleton];go_num,((za HB2).setCell (Nat.le_refl _) _).setCell (Nat.le_refl _) _,HC2⟩
   case measure=>simp [intOf];omega
  ·have u1:¬ (D.length:Int)<(Ts.length:Int):=by omega
   go_wp2
   go_ret
   exact ⟨rfl,⟨D,by omega,cur,za HC⟩,hbel⟩
theorem yj2 (a:Option Addr) (cap:Nat) (Ts:List Pl.It) (w:World) (hl:Ts.length≤1048576) (hv:Mem.zb0 w a Ts) (hok:∀t∈Ts,t.t.L.length≤1048576):
  Calls Tryz.prog 6 #[.slice a Ts.length cap] w fun e w'=>∃g D,e= .returned (.slice (some ⟨g,0,none⟩) Ts.length Ts.length)∧w.heap.size≤g∧D.length=Ts.length∧D.map Pl.It.r=Ts.map Pl.It.r∧Mem.zb0 w' (some ⟨g,0,none⟩) D∧Below w.heap.size w w':=
 (yd8 a cap Ts w hl hv hok).mono fun _ _ ⟨he,⟨D,cur,hD,hC⟩,b⟩=>⟨_,D,he,Nat.le_refl _,hD,by rw [hC.same,hD,List.take_length],hC.items,b⟩
end WLaw
end
section
set_option linter.unusedSimpArgs false
open Go.RowKit
namespace WLawY
open WLaw
set_option maxRecDepth 100000 in
theorem yf8 (x:Pl.It) (w:World) (hl:x.t.L.length≤1048576) (hv:Mem.za2 w x.t.a x.t.L):
  Calls Tryz.prog 20 #[.agg #[.int .i64 x.m, .slice x.t.a x.t.L.length x.t.cap]] w fun e w'=>∃g,e= .returned (.agg #[.int .i64 x.m, .slice (some ⟨g,0,none⟩) x.t.L.length x.t.L.length])∧w.heap.size≤g∧(∃cs,w'.heap[g]? =some (.cells cs 47 (0,0))∧x.t.L.length*5≤cs.size)∧Mem.za2 w' (some ⟨g,0,none⟩) x.t.L∧Below w.heap.size w w':=by
 obtain ⟨m,a,cap,L⟩:=x;simp only at hl hv ⊢;have b0:Below w.heap.size w (((w.alloc (.cells #[.int .i64 m, .slice a L.length cap] 39)).alloc (.cells #[.int .i64 0, .slice none 0 0] 53)).alloc (.cells #[.int .i64 m, .slice none 0 0] 53)):=((bE0).alloc (by simp) _).alloc (by simp;omega) _;have hz:=hide (ym1 a cap L _ hl (Mem.za0 hv b0));have hs:(((w.alloc (.cells #[.int .i64 m, .slice a L.length cap] 39)).alloc (.cells #[.int .i64 0, .slice none 0 0] 53)).alloc (.cells #[.int .i64 m, .slice none 0 0] 53)).heap.size=w.heap.size+1+1+1:=by simp
 have r1:Mem.Blk (((w.alloc (.cells #[.int .i64 m, .slice a L.length cap] 39)).alloc (.cells #[.int .i64 0, .slice none 0 0] 53)).alloc (.cells #[.int .i64 m, .slice none 0 0] 53)) (w.heap.size+1) #[.int .i64 0, .slice none 0 0] 53:=Mem.new_mid w _ _ _;have r2:Mem.Blk (((w.alloc (.cells #[.int .i64 m, .slice a L.length cap] 39)).alloc (.cells #[.int .i64 0, .slice none 0 0] 53)).alloc (.cells #[.int .i64 m, .slice none 0 0] 53)) (w.heap.size+1+1) #[.int .i64 m, .slice none 0 0] 53:=Mem.zp3 w _ _ _;have HB0:=hide b0;clear hv b0;go_enter Tryz.func20,Tryz.ntmps20
 go_wp2_with fail
 generalize (((w.alloc (.cells #[.int .i64 m, .slice a L.length cap] 39)).alloc (.cells #[.int .i64 0, .slice none 0 0] 53)).alloc (.cells #[.int .i64 m, .slice none 0 0] 53))=w3 at hz hs r1 r2 HB0 ⊢;refine (za hz).mono ?_;rintro e w1 ⟨g,rfl,hg,⟨cs,hrow,hcs⟩,hn,b1⟩;have HRW:=hide hrow;have HCS:=hide hcs;have R1:=r1.call b1;have R2:=r2.call b1;obtain ⟨c10,c11⟩:=jc2 R1;obtain ⟨c20,c21⟩:=jc2 R2;have f10:=R1.fr 0;have f11:=R1.fr 1;have f20:=R2.fr 0;have f21:=R2.fr 1;have bb:=hide ((za HB0).trans (b1.mono (za HB0).size));have HG:Hid (w.heap.size+1+1+1≤g):=hide (by omega);have HN:=hide hn;clear hz b1 hn hs r1 r2 R1 R2 HB0 hg hrow hcs;go_wp2
 have hg:=za HG;refine bodyPost_ret (v:= .agg #[.int .i64 m, .slice (some ⟨g,0,none⟩) L.length L.length]) (by simp [results,Tryz.results20,go_sem,c10,c11]) rfl ⟨g,rfl,by omega,⟨cs,?_,by have :=za HCS;omega⟩,?_,?_⟩
 ·rw [heap_setCell_other _ _ _ _ (by show g≠w.heap.size+1;omega),heap_setCell_other _ _ _ _ (by show g≠w.heap.size+1;omega),heap_setCell_other _ _ _ _ (by show g≠w.heap.size+1+1;omega)];exact za HRW
 ·exact Mem.zg8 (Mem.zg8 (Mem.zg8 (za HN) _ _ (by show w.heap.size+1+1≠g;omega)) _ _ (by show w.heap.size+1≠g;omega)) _ _ (by show w.heap.size+1≠g;omega)
 ·exact (((za bb).setCell (by show w.heap.size≤w.heap.size+1+1;omega) _).setCell (by show w.heap.size≤w.heap.size+1;omega) _).setCell (by show w.heap.size≤w.heap.size+1;omega) _
structure CopI (w wr:World) (Ts D:List Pl.It) (cur:Array Value):Prop where
 blk:wr.heap[w.heap.size]? =some (.cells cur 53 (0,0))
 size:cur.size=Ts.length*2
 same:D.map Pl.It.r=(Ts.take D.length).map Pl.It.r
 each:∀ (j:Nat) t,D[j]? =some t→cur[j*2]? =some (.int .i64 t.m)∧cur[j*2+1]? =some t.t.val∧∃g,t.t.a=some ⟨g,0,none⟩∧w.heap.size<g∧Mem.za2 wr t.t.a t.t.L∧∃cs,wr.heap[g]? =some (.cells cs 47 (0,0))∧t.t.L.length*5≤cs.size∧t.t.cap=t.t.L.length
theorem CopI.call {w wr W:World} {Ts D:List Pl.It} {cur:Array Value} (h:CopI w wr Ts D cur) (b:Below wr.heap.size wr W):CopI w W Ts D cur:=
 ⟨(b.block _ (Array.getElem?_eq_some_iff.1 h.blk).1).trans h.blk,h.size,h.same,fun j t hj=>⟨(h.each j t hj).1,(h.each j t hj).2.1,by
  obtain ⟨g,h1,h2,h3,cs,h4,h5⟩:=(h.each j t hj).2.2
  exact ⟨g,h1,h2,Mem.za0 h3 b,cs,(b.block _ (Array.getElem?_eq_some_iff.1 h4).1).trans h4,h5⟩⟩⟩
theorem CopI.put {w wr:World} {Ts D:List Pl.It} {cur:Array Value} (h:CopI w wr Ts D cur) (t:Pl.It) (g:Nat) (hk:Ts[D.length]? =some t) (hg:w.heap.size<g) (hn:Mem.za2 wr (some ⟨g,0,none⟩) t.t.L) (hr:∃cs,wr.heap[g]? =some (.cells cs 47 (0,0))∧t.t.L.length*5≤cs.size):
  CopI w ((wr.setCell ⟨w.heap.size,D.length*2,none⟩ (.int .i64 t.m)).setCell ⟨w.heap.size,D.length*2+1,none⟩ (.slice (some ⟨g,0,none⟩) t.t.L.length t.t.L.length)) Ts (D++[⟨t.m,some ⟨g,0,none⟩,t.t.L.length,t.t.L⟩]) ((cur.setIfInBounds (D.length*2) (.int .i64 t.m)).setIfInBounds (D.length*2+1) (.slice (some ⟨g,0,none⟩) t.t.L.length t.t.L.length)):=by
 have hlt:=(List.getElem?_eq_some_iff.1 hk).1;have hsz:=h.size;refine ⟨heap_setCell_same _ _ _ _ _ _ (heap_setCell_same _ _ _ _ _ _ h.blk),by simpa using h.size,?_,fun j m hj=>?_⟩
 ·rw [List.length_append,List.length_singleton,List.take_add_one,hk,List.map_append,List.map_append,h.same];rfl
 ·by_cases e:j<D.length
  ·rw [List.getElem?_append_left e] at hj;obtain ⟨h1,h1',g',h2,h3,h4,cs,h5,h6⟩:=h.each j m hj;refine ⟨by rw [Array.getElem?_setIfInBounds,if_neg (by omega),Array.getElem?_setIfInBounds,if_neg (by omega)];exact h1,by rw [Array.getElem?_setIfInBounds,if_neg (by omega),Array.getElem?_setIfInBounds,if_neg (by omega)];exact h1',g',h2,h3,?_,cs,(heap_setCell_other _ _ _ _ (by show g'≠w.heap.size;omega)).trans ((heap_setCell_other _ _ _ _ (by show g'≠w.heap.size;omega)).trans h5),h6⟩;rw [h2] at h4 ⊢;exact Mem.zg8 (Mem.zg8 h4 _ _ (by show w.heap.size≠g';omega)) _ _ (by show w.heap.size≠g';omega)
  ·rw [List.getElem?_append_right (by omega)] at hj
   have hj0:j=D.length:=by
    have :=(List.getElem?_eq_some_iff.1 hj).1;simp at this;omega
   subst hj0;simp at hj
   subst hj;obtain ⟨cs,h5,h6⟩:=hr;refine ⟨?_,?_,g,rfl,hg,Mem.zg8 (Mem.zg8 hn _ _ (by show w.heap.size≠g;omega)) _ _ (by show w.heap.size≠g;omega),cs,(heap_setCell_other _ _ _ _ (by show g≠w.heap.size;omega)).trans ((heap_setCell_other _ _ _ _ (by show g≠w.heap.size;omega)).trans h5),h6,rfl⟩
   ·rw [Array.getElem?_setIfInBounds,if_neg (by omega),Array.getElem?_setIfInBounds,if_pos rfl,if_pos (by omega)]
   ·rw [Array.getElem?_setIfInBounds,if_pos rfl,if_pos (by rw [Array.size_setIfInBounds];omega)];rfl
theorem CopI.items {w wr:World} {Ts D:List Pl.It} {cur:Array Value} (h:CopI w wr Ts D cur):Mem.zb0 wr (some ⟨w.heap.size,0,none⟩) D:=fun i t hi=>by
 obtain ⟨h1,h1',g,h2,h3,h4, -⟩:=h.each i t hi;refine ⟨⟨_,0,rfl,(Array.getElem?_eq_some_iff.1 h.blk).1,?_,?_⟩,h4⟩
 ·rw [cell_of_row wr _ _ _ _ (0,0) h.blk,Nat.zero_add];exact h1
 ·rw [cell_of_row wr _ _ _ _ (0,0) h.blk,Nat.zero_add];exact h1'
set_option maxRecDepth 100000 in
set_option maxHeartbeats 800000 in
theorem yd8 (a:Option Addr) (cap:Nat) (Ts:List Pl.It) (w:World) (hl:Ts.length≤1048576) (hv:Mem.zb0 w a Ts) (hok:∀t∈Ts,t.t.L.length≤1048576):
  Calls Tryz.prog 6 #[.slice a Ts.length cap] w fun e w'=>e= .returned (.slice (some ⟨w.heap.size,0,none⟩) Ts.length Ts.length)∧(∃D cur,D.length=Ts.length∧CopI w w' Ts D cur)∧Below w.heap.size w w':=by
 have HV:=hide hv;have HO:=hide hok;have hmk:=makeI Ts.length hl w;clear hv hok;go_enter Tryz.func6,Tryz.ntmps6
 go_wp2
 go_loopw [4] (fun i wr=>∃ (D:List Pl.It) (cur:Array Value),D.length≤Ts.length∧i= .int .i64 (D.length:Int)∧Below w.heap.size w wr∧Hid (CopI w wr Ts D cur)) (fun i _=>Ts.length - (intOf i).toNat)
 case atStart=>exact ⟨[],zy5 Ts.length,Nat.zero_le _,rfl,bE0,hide ⟨heap_alloc_new w _,ye4 _,rfl,fun j t h=>by simp at h⟩⟩
 case round=>
  obtain ⟨D,cur,hk,rfl,hbel,HC⟩:=hrel;by_cases hlt:D.length<Ts.length
  ·obtain ⟨t,ht⟩:∃t,Ts[D.length]? =some t:=⟨_,List.getElem?_eq_getElem hlt⟩;obtain ⟨⟨b,o,rfl,hb,q0,q0'⟩,q1⟩:=(za HV) D.length t ht;have c0:=(hbel.cell (p:=⟨b,_,none⟩) hb).trans q0;have c1:=(hbel.cell (p:=⟨b,_,none⟩) hb).trans q0';have hz:=hide (fun W (b:Below w.heap.size w W)=>yf8 t W (za HO t (List.mem_of_getElem? ht)) (Mem.za0 q1 b));have HN:=hide ht;have u1:(D.length:Int)<(Ts.length:Int):=by omega
   have u3:(0:Int)≤(D.length:Int):=by omega
   simp only [Pl.Tr.val] at c1;clear q0 q0' ht q1;go_wp2_with fail
   refine (za hz _ hbel).mono ?_;rintro e w1 ⟨g,rfl,hg,hrr,hn,b1⟩;have hgw:w.heap.size<g:=by have :=(Array.getElem?_eq_some_iff.1 (za HC).blk).1;omega
   have C1:=(za HC).call b1;have hb2:=hbel.trans (b1.mono hbel.size);have hcs:=C1.size;obtain ⟨x0,s0⟩:∃x,w1.cell? ⟨w.heap.size,D.length*2,none⟩=some x:=⟨_,(cell_of_row w1 _ (D.length*2) _ _ (0,0) C1.blk).trans (Array.getElem?_eq_getElem (by omega))⟩;obtain ⟨x1,s1⟩:∃x,w1.cell? ⟨w.heap.size,D.length*2+1,none⟩=some x:=⟨_,(cell_of_row w1 _ (D.length*2+1) _ _ (0,0) C1.blk).trans (Array.getElem?_eq_getElem (by omega))⟩;have f0:w1.frozen? ⟨w.heap.size,D.length*2,none⟩=false:=Mem.zg1 C1.blk;have f1:w1.frozen? ⟨w.heap.size,D.length*2+1,none⟩=false:=Mem.zg1 C1.blk;have HC2:=hide (C1.put t g (za HN) hgw hn hrr);have HB2:=hide hb2;clear b1 hbel hz HC C1 hn hg hb2 hcs hrr;go_wp2
   go_roundw
   case rel=>exact ⟨_,_,by rw [List.length_append,List.length_singleton];omega,by rw [List.length_append,List.length_singleton];go_num,((za HB2).setCell (Nat.le_refl _) _).setCell (Nat.le_refl _) _,HC2⟩
   case measure=>simp [intOf];omega
  ·have u1:¬ (D.length:Int)<(Ts.length:Int):=by omega
   go_wp2
   go_ret
   exact ⟨rfl,⟨D,by omega,cur,za HC⟩,hbel⟩
structure Rows (W:World) (g:Nat) (D:List Pl.It):Prop where
 items:Mem.zb0 W (some ⟨g,0,none⟩) D
 blk:∃cur,W.heap[g]? =some (.cells cur 53 (0,0))∧cur.size=D.length*2
 each:∀ (j:Nat) t,D[j]? =some t→∃q,t.t.a=some ⟨q,0,none⟩∧g<q∧q<W.heap.size∧∃cs,W.heap[q]? =some (.cells cs 47 (0,0))∧t.t.L.length*5≤cs.size∧t.t.cap=t.t.L.length
theorem yj2 (a:Option Addr) (cap:Nat) (Ts:List Pl.It) (w:World) (hl:Ts.length≤1048576) (hv:Mem.zb0 w a Ts) (hok:∀t∈Ts,t.t.L.length≤1048576):
  Calls Tryz.prog 6 #[.slice a Ts.length cap] w fun e w'=>∃g D,e= .returned (.slice (some ⟨g,0,none⟩) Ts.length Ts.length)∧w.heap.size≤g∧D.length=Ts.length∧D.map Pl.It.r=Ts.map Pl.It.r∧Rows w' g D∧Below w.heap.size w w':=
 (yd8 a cap Ts w hl hv hok).mono fun _ _ ⟨he,⟨D,cur,hD,hC⟩,b⟩=>⟨_,D,he,Nat.le_refl _,hD,by rw [hC.same,hD,List.take_length],⟨hC.items,⟨cur,hC.blk,by rw [hC.size,hD]⟩,fun j t hj=>by
  obtain ⟨-, -,g,h2,h3, -,cs,h5,h6⟩:=hC.each j t hj
  exact ⟨g,h2,h3,(Array.getElem?_eq_some_iff.1 h5).1,cs,h5,h6⟩⟩,b⟩
end WLawY
end
section
open Go.RowKit
namespace WMkJ
structure Has (W:World) (g X:Nat) (D:List Pl.It):Prop where
 cell:∀ (j:Nat) t,D[j]? =some t→W.cell? ⟨g,j*2+1,none⟩=some t.t.val
 blk:∃cur,W.heap[g]? =some (.cells cur 53 (0,0))∧cur.size=D.length*2
 gx:g<X
 each:∀ (j:Nat) t,D[j]? =some t→∃q,t.t.a=some ⟨q,0,none⟩∧g<q∧q<X∧∃cs,W.heap[q]? =some (.cells cs 47 (0,0))∧t.t.L.length*5≤cs.size
theorem Has.lt {W:World} {g X:Nat} {D:List Pl.It} (h:Has W g X D):g<W.heap.size:=by
 obtain ⟨cur,h1, -⟩:=h.blk;exact (Array.getElem?_eq_some_iff.1 h1).1
theorem has_rows {W:World} {g:Nat} {D:List Pl.It} (h:WLawY.Rows W g D):Has W g W.heap.size D:=
 ⟨fun j t hj=>by
  obtain ⟨⟨b,o,h1,h2,h3,h5⟩, -⟩:=h.items j t hj;cases h1
  rw [Nat.zero_add] at h5;exact h5,h.blk,by
  obtain ⟨cur,h1, -⟩:=h.blk;exact (Array.getElem?_eq_some_iff.1 h1).1,fun j t hj=>by
  obtain ⟨q,k1,k2,k3,cs,k4,k5, -⟩:=h.each j t hj
  exact ⟨q,k1,k2,k3,cs,k4,k5⟩⟩
theorem Has.call {W W':World} {g X:Nat} {D:List Pl.It} (h:Has W g X D) (b:Below W.heap.size W W'):Has W' g X D:=
 ⟨fun j t hj=>(b.cell (p:=⟨g,j*2+1,none⟩) h.lt).trans (h.cell j t hj),by
  obtain ⟨cur,h1,h2⟩:=h.blk;exact ⟨cur,(b.block g h.lt).trans h1,h2⟩,h.gx,fun j t hj=>by
  obtain ⟨q,h1,h2,h3,cs,h4,h5⟩:=h.each j t hj
  exact ⟨q,h1,h2,h3,cs,(b.block q (Array.getElem?_eq_some_iff.1 h4).1).trans h4,h5⟩⟩
theorem yn5 {w w':World} {g j:Nat} (h:w'.heap[g]? =w.heap[g]?):w'.cell? ⟨g,j,none⟩=w.cell? ⟨g,j,none⟩:=by
 simp only [World.cell?,h]
theorem Has.many {W:World} {g X i:Nat} {D:List Pl.It} (h:Has W g X D) (v:Value):Has (W.setCell ⟨g,i*2,none⟩ v) g X D:=by
 obtain ⟨cur,h1,h2⟩:=h.blk;have hb:(W.setCell ⟨g,i*2,none⟩ v).heap[g]? =some (.cells (cur.setIfInBounds (i*2) v) 53 (0,0)):=heap_setCell_same _ _ _ _ _ _ h1;refine ⟨fun j t hj=>?_,⟨_,hb,by simpa using h2⟩,h.gx,fun j t hj=>?_⟩
 ·have hc:=h.cell j t hj;rw [cell_of_row W _ _ _ _ (0,0) h1] at hc;rw [cell_of_row _ _ _ _ _ (0,0) hb,Array.getElem?_setIfInBounds,if_neg (by omega)];exact hc
 ·obtain ⟨q,h1,h2,h3,cs,h4,h5⟩:=h.each j t hj;exact ⟨q,h1,h2,h3,cs,(heap_setCell_other _ _ _ _ (by show q≠g;omega)).trans h4,h5⟩
theorem Has.marked {W W':World} {g X q:Nat} {D:List Pl.It} {cur cur':Array Value} (h:Has W g X D) (hq:g<q) (hr:W.heap[q]? =some (.cells cur 47 (0,0))) (hr':W'.heap[q]? =some (.cells cur' 47 (0,0))) (hs:cur'.size=cur.size) (hg:W.grownBy W' (some q)):Has W' g X D:=
 ⟨fun j t hj=>(yn5 (hg.block g h.lt (fun e=>by cases e;omega))).trans (h.cell j t hj),by
  obtain ⟨c,h1,h2⟩:=h.blk;exact ⟨c,(hg.block g h.lt (fun e=>by cases e;omega)).trans h1,h2⟩,h.gx,fun j t hj=>by
  obtain ⟨p,h1,h2,h3,cs,h4,h5⟩:=h.each j t hj;by_cases e:p=q
  ·subst e;rw [hr] at h4;cases h4
   exact ⟨p,h1,h2,h3,cur',hr',by omega⟩
  ·exact ⟨p,h1,h2,h3,cs,(hg.block p (Array.getElem?_eq_some_iff.1 h4).1 (fun e2=>by cases e2;exact e rfl)).trans h4,h5⟩⟩
theorem Has.same {W W':World} {g X:Nat} {D:List Pl.It} (h:Has W g X D) (hb:∀b,g≤b→b<X→b<W.heap.size→W'.heap[b]? =W.heap[b]?):Has W' g X D:=by
 have hl:=h.lt;refine ⟨fun j t hj=>(yn5 (hb g (Nat.le_refl _) h.gx hl)).trans (h.cell j t hj),?_,h.gx,fun j t hj=>?_⟩
 ·obtain ⟨cur,h1,h2⟩:=h.blk;exact ⟨cur,(hb g (Nat.le_refl _) h.gx hl).trans h1,h2⟩
 ·obtain ⟨q,h1,h2,h3,cs,h4,h5⟩:=h.each j t hj;exact ⟨q,h1,h2,h3,cs,(hb q (by omega) h3 (Array.getElem?_eq_some_iff.1 h4).1).trans h4,h5⟩
end WMkJ
end
section
open Go.RowKit
namespace Mem
structure Band (Y X:Nat) (w w':World):Prop where
 os:w'.os=w.os
 tape:w'.tape=w.tape
 output:w'.output=w.output
 size:w.heap.size≤w'.heap.size
 block:∀j,j<w.heap.size→(j<Y∨X≤j)→w'.heap[j]? =w.heap[j]?
theorem Band.refl (Y X:Nat) (w:World):Band Y X w w:=⟨rfl,rfl,rfl,Nat.le_refl _,fun _ _ _=>rfl⟩
theorem Band.of_below {Y X:Nat} {w w':World} (b:Below w.heap.size w w'):Band Y X w w':=⟨b.os,b.tape,b.output,b.size,fun j hj _=>b.block j hj⟩
theorem Band.of_grown {Y X g:Nat} {w w':World} (b:w.grownBy w' (some g)) (h1:Y≤g) (h2:g<X):Band Y X w w':=⟨b.os,b.tape,b.output,b.size,fun j hj hh=>b.block j hj (fun e=>by cases e;omega)⟩
theorem Band.trans {Y X:Nat} {w v v':World} (h:Band Y X w v) (h':Band Y X v v'):Band Y X w v':=
 ⟨h'.os.trans h.os,h'.tape.trans h.tape,h'.output.trans h.output,Nat.le_trans h.size h'.size,fun j hj hh=>(h'.block j (Nat.lt_of_lt_of_le hj h.size) hh).trans (h.block j hj hh)⟩
theorem Band.below {Y X B:Nat} {w v v':World} (h:Band Y X v v') (b:Below B w v) (hB:B≤Y) (hs:B≤v.heap.size):Below B w v':=
 ⟨h.os.trans b.os,h.tape.trans b.tape,h.output.trans b.output,Nat.le_trans b.size h.size,fun j hj=>(h.block j (by omega) (.inl (by omega))).trans (b.block j hj)⟩
theorem Band.blk {Y X g:Nat} {w w':World} {cs:Array Value} {T:TypeId} (h:Band Y X w w') (hb:Blk w g cs T) (hg:g<Y∨X≤g):Blk w' g cs T:=(h.block g hb.lt hg).trans hb
theorem Band.row {Y X B e size n:Nat} {w w':World} {v:Value} {xs:List Value} (h:Band Y X w w') (o:w.ownsRow B e size v n xs) (hg:∀g,v.ownBlock=some g→g<Y∨X≤g):w'.ownsRow B e size v n xs:=by
 refine ⟨o.1,?_⟩
 rcases o.2 with h0|⟨g,cap,cur,rfl,hb,hh,rest⟩
 ·exact .inl h0
 ·exact .inr ⟨g,cap,cur,rfl,hb,(h.block g (Array.getElem?_eq_some_iff.1 hh).1 (hg g rfl)).trans hh,rest⟩
theorem Band.of_set {Y X:Nat} {w:World} (p:Addr) (v:Value) (h1:Y≤p.block) (h2:p.block<X):Band Y X w (w.setCell p v):=
 have b:Below 0 w (w.setCell p v):=(Below.refl 0 w).setCell (Nat.zero_le _) v
 ⟨b.os,b.tape,b.output,b.size,fun j _ hh=>heap_setCell_other _ _ _ _ (by omega)⟩
end Mem
end
section
open Go.RowKit
namespace WMkJ
set_option linter.unusedSimpArgs false in
set_option maxRecDepth 100000 in
set_option maxHeartbeats 1000000 in
theorem mark_from (K0 g X cap:Nat) (D:List Pl.It) (w:World) (hK0:0<K0) (hK1:K0+5242881*D.length≤8000000000000000000) (hl:D.length≤1048576) (hok:∀t∈D,t.t.L.length≤1048576) (hv:Has w g X D):
  Calls Tryz.prog 10 #[.slice (some ⟨g,0,none⟩) D.length cap, .int .i64 (K0:Int)] w fun e w'=>(∃K:Nat,e= .returned (.int .i64 (K:Int))∧K0≤K∧K≤K0+5242881*D.length)∧Mem.Band g X w w':=by
 have HO:=hide hok;have HV:=hide hv;clear hok hv;go_enter Tryz.func10,Tryz.ntmps10
 go_wp2
 go_loopw [1,5] (fun a i wr=>∃ (j K:Nat),j≤D.length∧i= .int .i64 (j:Int)∧a= .int .i64 (K:Int)∧(K0≤K∧K≤K0+5242881*j)∧Hid (Has wr g X D∧Mem.Band g X w wr)) (fun _ i _=>D.length - (intOf i).toNat)
 case atStart=>exact ⟨0,K0,Nat.zero_le _,rfl,rfl,by omega,⟨za HV,Mem.Band.refl _ _ _⟩⟩
 case round=>
  obtain ⟨j,K,hj,rfl,rfl,hK,HA⟩:=hrel;by_cases hlt:j<D.length
  ·obtain ⟨t,ht⟩:∃t,D[j]? =some t:=⟨_,List.getElem?_eq_getElem hlt⟩;have htl:=za HO t (List.mem_of_getElem? ht);have HS:=hide ((za HA).1.many (i:=j) (.int .i64 (K:Int)));have BS:=hide ((za HA).2.trans (Mem.Band.of_set (w:=wr) ⟨g,j*2,none⟩ (.int .i64 (K:Int)) (Nat.le_refl _) (za HA).1.gx));have c1:=(za HS).cell j t ht;obtain ⟨q,h1,h2,h3,cs,h4,h5⟩:=(za HS).each j t ht;obtain ⟨cur,hb1,hb2⟩:=(za HA).1.blk;obtain ⟨x0,s0⟩:∃x,wr.cell? ⟨g,j*2,none⟩=some x:=⟨_,(cell_of_row wr _ (j*2) _ _ (0,0) hb1).trans (Array.getElem?_eq_getElem (by omega))⟩;have f0:wr.frozen? ⟨g,j*2,none⟩=false:=Mem.zg1 hb1;obtain ⟨tm,ta,tc,tL⟩:=t;simp only at h1 h5 htl;subst h1;simp only [Pl.Tr.val] at c1;have hm:=hide (ye6.lay_any q tL.length tc (K+1) cs (wr.setCell ⟨g,j*2,none⟩ (.int .i64 (K:Int))) htl (by omega) (by omega) h4 h5);have H4:=hide h4;have u1:(j:Int)<(D.length:Int):=by omega
   have u3:(0:Int)≤(j:Int):=by omega
   have eK:((K+1:Nat):Int)=(K:Int)+1:=by omega
   rw [eK] at hm;clear h4 h5 ht HA hb1 hb2;go_wp2_with fail
   refine (za hm).mono ?_;rintro e w2 ⟨rfl,⟨cur',hr',hs'⟩, -,hg⟩;have HB:Hid (Has w2 g X D∧Mem.Band g X w w2):=⟨(za HS).marked h2 (za H4) hr' hs' hg,(za BS).trans (Mem.Band.of_grown hg (by omega) h3)⟩;clear HS BS hm H4 hr' hs' hg c1 s0 f0;generalize hK2:K+1+5*tL.length=K2;have hK3:K0≤K2∧K2≤K0+5242881*(j+1):=by omega
   clear hK2 hK htl;go_wp2
   go_roundw
   case rel=>exact ⟨j+1,K2,by omega,by go_num,rfl,hK3,HB⟩
   case measure=>simp [intOf];omega
  ·have u1:¬ (j:Int)<(D.length:Int):=by omega
   go_wp2
   go_ret
   exact ⟨⟨K,rfl,by omega,by omega⟩,(za HA).2⟩
theorem zm2 (g X cap:Nat) (D:List Pl.It) (w:World) (hl:D.length≤1048576) (hok:∀t∈D,t.t.L.length≤1048576) (hv:Has w g X D):
  Calls Tryz.prog 10 #[.slice (some ⟨g,0,none⟩) D.length cap, .int .i64 1] w fun e w'=>(∃K:Nat,e= .returned (.int .i64 (K:Int))∧K≤10000000000000000)∧Mem.Band g X w w':=
 (mark_from 1 g X cap D w (by omega) (by omega) hl hok hv).mono fun _ _ ⟨⟨K,h1,h2,h3⟩,h4⟩=>⟨⟨K,h1,by omega⟩,h4⟩
end WMkJ
end
section
open Go.RowKit
namespace ye6
set_option linter.unusedSimpArgs false in
set_option maxRecDepth 100000 in
set_option maxHeartbeats 2000000 in
theorem zt5 (a:Option Addr) (n cap K:Nat) (w:World) (hn:n≤1048576) (hK:0<K) (hK2:K≤1000000) (hv:Mem.za2 w a (Pl.zt4 K n)):
  Calls Tryz.prog 53 #[.slice a n cap, .int .i64 (K:Int)] w fun e w'=>e= .returned (.int .i64 ((K+5*n:Nat):Int))∧Below w.heap.size w w':=by
 have HV:=hide hv;clear hv;go_enter Tryz.func53,Tryz.ntmps53
 go_wp2
 go_loopw [1,5] (fun v i wr=>∃ (k q:Nat),k≤n∧q=K+5*k∧i= .int .i64 (k:Int)∧v= .int .i64 (q:Int)∧Below w.heap.size w wr) (fun _ i _=>n - (intOf i).toNat)
 case atStart=>exact ⟨0,K,Nat.zero_le _,rfl,rfl,rfl,Below.refl _ _⟩
 case round=>
  obtain ⟨k,q,hk,hq,rfl,rfl,hbel⟩:=hrel;by_cases hlt:k<n
  ·have y1:(k:Int)<(n:Int):=by omega
   have y3:(0:Int)≤(k:Int):=by omega
   obtain ⟨g,o,rfl,hg,c0,c1,c2,c3,c4⟩:=(Mem.za0 (za HV) hbel) k (Pl.yf K k) (by simp [Pl.zt4,List.getElem?_range hlt]);simp only [Pl.yf,←hq] at c0 c1 c2 c3 c4;have HM:=hide (fun W=>WMarks.zm2 q W (by omega) (by omega));have HM2:=hide (fun W=>WMarks.zm2 (q+2) W (by omega) (by omega));rw [show ((q+2:Nat):Int)=(q:Int)+1+1 by omega] at HM2;rw [show ((q+1:Nat):Int)=(q:Int)+1 by omega] at c1;rw [show ((q+3:Nat):Int)=(q:Int)+1+1+1 by omega] at c3;rw [show ((q+4:Nat):Int)=(q:Int)+1+1+1+1 by omega] at c4;have HQ:=hide hq;have q1:(q:Int)≤100000000:=by omega
   clear hq;have MK:Hid (∀W',Below wr.heap.size wr W'→(Below wr.heap.size wr W'∧W'.cell? ⟨g,o+k*5,none⟩=some (.string (Pl.mark q))∧W'.cell? ⟨g,o+k*5+1,none⟩=some (.int .i64 ((q:Int)+1))∧W'.cell? ⟨g,o+k*5+2,none⟩=some (.string (Pl.mark (q+2)))∧W'.cell? ⟨g,o+k*5+3,none⟩=some (.int .i64 ((q:Int)+1+1+1))∧W'.cell? ⟨g,o+k*5+4,none⟩=some (.int .i64 ((q:Int)+1+1+1+1)))):=fun W' hb'=>⟨hb',(hb'.cell (p:=⟨g,_,none⟩) hg).trans c0,(hb'.cell (p:=⟨g,_,none⟩) hg).trans c1,(hb'.cell (p:=⟨g,_,none⟩) hg).trans c2,(hb'.cell (p:=⟨g,_,none⟩) hg).trans c3,(hb'.cell (p:=⟨g,_,none⟩) hg).trans c4⟩;clear c0 c1 c2 c3 c4;go_wp2_with fail
   refine RG MK (bD _) fun hHeld=>?_;refine TB 0 ?_;refine TB 1 ?_;refine TB 2 ?_;refine TB 3 ?_;refine TB 4 ?_;refine TB 5 ?_;refine RN 6 fun K hK=>?_;go_simp
   refine (za HM _).mono ?_;rintro e wA ⟨rfl,bX⟩;refine hK.out _ _ ?_ (fun hHeld=>?_)
   ·exact za MK _ (hHeld.1.trans (bX.mono hHeld.1.size))
   clear hK K
   try simp only [Act.put,kBs]
   refine TB 7 ?_;refine wpAnyH_done (by kernel_rfl) ?_ _;obtain ⟨hA, -,e1, -, -, -⟩:=hHeld;go_wp2_with fail
   refine wp_region_held_drew (S:=fun W'=>Below wr.heap.size wr W'∧W'.cell? ⟨g,o+k*5,none⟩=some (.string (Pl.mark q))∧W'.cell? ⟨g,o+k*5+1,none⟩=some (.int .i64 ((q:Int)+1))∧W'.cell? ⟨g,o+k*5+2,none⟩=some (.string (Pl.mark (q+2)))∧W'.cell? ⟨g,o+k*5+3,none⟩=some (.int .i64 ((q:Int)+1+1+1))∧W'.cell? ⟨g,o+k*5+4,none⟩=some (.int .i64 ((q:Int)+1+1+1+1))) (by kernel_rfl) ?_ (fun hHeld=>?_)
   ·exact za MK _ (hA.trans ⟨rfl,rfl,rfl,Nat.le_refl _,fun _ _=>rfl⟩)
   refine TB 0 ?_;refine TB 1 ?_;refine TB 2 ?_;refine TB 3 ?_;refine TB 4 ?_;refine TB 5 ?_;refine RN 6 fun K hK=>?_;go_simp
   refine (za HM2 _).mono ?_;rintro e wB ⟨rfl,bX⟩;refine hK.out _ _ ?_ (fun hHeld=>?_)
   ·exact za MK _ (hHeld.1.trans (bX.mono hHeld.1.size))
   clear hK K
   try simp only [Act.put,kBs]
   refine TB 7 ?_;refine wpAnyH_done (by kernel_rfl) ?_ _;obtain ⟨hB, -, -, -,e3,e4⟩:=hHeld;have hfin:=hbel.trans (hB.mono hbel.size);clear MK hA hB bX HM HM2 hbel e1;go_wp2
   go_roundw
   case rel=>exact ⟨k+1,q+5,by omega,by have :=za HQ;omega,by go_num,by go_num,hfin⟩
   case measure=>simp [intOf];omega
  ·obtain rfl:k=n:=by omega
   have y1:¬ (k:Int)<(k:Int):=by omega
   have hq2:(q:Int)=((K+5*k:Nat):Int):=by omega
   have HQ:=hide hq2;clear hq2 hq;go_wp2
   go_ret
   exact ⟨by rw [za HQ];rfl,hbel⟩
end ye6
end
section
set_option linter.unusedSimpArgs false
open Go.RowKit
namespace WMarkI
set_option maxRecDepth 100000 in
theorem layNil (K:Nat) (w:World):Calls Tryz.prog 25 #[.slice none 0 0, .int .i64 (K:Int)] w fun e w'=>e= .returned (.int .i64 (K:Int))∧Below w.heap.size w w':=by
 go_enter Tryz.func25,Tryz.ntmps25
 go_wp2
 refine wp_loop_rounds 1 ?_;rw [rounds_succ];go_wp2
 go_ret
 exact ⟨rfl,Below.refl _ _⟩
set_option maxRecDepth 100000 in
set_option maxHeartbeats 1000000 in
theorem zt5 (a:Option Addr) (cap K:Nat) (Is:List Pl.It) (w:World) (hn:Is.length≤1000) (hL:∀x∈Is,x.t.L.length≤1048576) (hK:0<K) (hK2:∀i,i≤Is.length→Pl.kAt K Is i≤100000) (hv:Mem.zb0 w a (Pl.mkTo K Is Is.length)):
  Calls Tryz.prog 26 #[.slice a Is.length cap, .int .i64 (K:Int)] w fun e w'=>e= .returned (.int .i64 (Pl.kAt K Is Is.length:Int))∧Below w.heap.size w w':=by
 have HV:Hid (∀ (j:Nat) x,Is[j]? =some x→(∃b o,a=some ⟨b,o,none⟩∧b<w.heap.size∧w.cell? ⟨b,o+j*2,none⟩=some (.int .i64 (Pl.kAt K Is j:Int))∧w.cell? ⟨b,o+j*2+1,none⟩=some (.slice x.t.a x.t.L.length x.t.cap))∧Mem.za2 w x.t.a (Pl.zt4 (Pl.kAt K Is j+1) x.t.L.length)):=hide (fun j x hx=>by
  have h:=hv j (Pl.mkIt K Is j x) (by rw [Pl.yg0,hx,Option.map_some,if_pos (List.getElem?_eq_some_iff.1 hx).1]);obtain ⟨⟨b,o,h1,h2,h3,h4⟩,h5⟩:=h;refine ⟨⟨b,o,h1,h2,h3,?_⟩,h5⟩;rw [h4]
  simp [Pl.Tr.val,Pl.mkIt,Pl.yi7])
 have HL:=hide hL;have HK2:=hide hK2;have HKG:Hid (∀i,0<Pl.kAt K Is i):=hide (fun i=>Nat.lt_of_lt_of_le hK (Pl.kAt_ge K Is i));have HKS:Hid (∀ (i:Nat) x,Is[i]? =some x→Pl.kAt K Is (i+1)=Pl.kAt K Is i+1+5*x.t.L.length):=hide (fun i x h=>Pl.kAt_succ h);have HK0:Hid (Pl.kAt K Is 0=K):=hide rfl;generalize Pl.kAt K Is=KA at HK2 HKG HKS HV HK0 ⊢;have hK3:=za HK2 Is.length (Nat.le_refl _);clear hL hK2 hv;go_enter Tryz.func26,Tryz.ntmps26
 go_wp2
 go_loopw [1,5] (fun q i wr=>∃j:Nat,j≤Is.length∧i= .int .i64 (j:Int)∧q= .int .i64 (KA j:Int)∧Below w.heap.size w wr) (fun _ i _=>Is.length - (intOf i).toNat)
 case atStart=>exact ⟨0,Nat.zero_le _,rfl,by rw [za HK0],Below.refl _ _⟩
 case round=>
  obtain ⟨j,hj,rfl,rfl,hbel⟩:=hrel;by_cases hlt:j<Is.length
  ·obtain ⟨x,hx⟩:∃x,Is[j]? =some x:=⟨_,List.getElem?_eq_getElem hlt⟩;have u1:(j:Int)<(Is.length:Int):=by omega
   have u3:(0:Int)≤(j:Int):=by omega
   have hkj:=za HK2 j hj;have hks:=za HKS j x hx;have hkk:=za HKG j;obtain ⟨⟨b,o,rfl,hb,q0,q1⟩,q2⟩:=za HV j x hx;have c0:=(hbel.cell (p:=⟨b,_,none⟩) hb).trans q0;have c1:=(hbel.cell (p:=⟨b,_,none⟩) hb).trans q1;have hcall:=hide (ye6.zt5 x.t.a x.t.L.length x.t.cap (KA j+1) wr (za HL x (List.mem_of_getElem? hx)) (by omega) (by omega) (Mem.za0 q2 hbel));have hpos:¬ ((KA j+1+5*x.t.L.length:Nat):Int)<0:=by omega
   have HKS2:=hide hks;clear hx q0 q1 q2 hks;simp only [Int.natCast_add,Int.cast_ofNat_Int] at hcall hpos;go_wp2_with fail
   refine (za hcall).mono ?_;rintro e w2 ⟨rfl,b2⟩;have hb2:=hbel.trans (b2.mono hbel.size);clear hcall b2 c0 c1 hbel;go_wp2
   go_roundw
   case rel=>exact ⟨j+1,by omega,by go_num,by rw [za HKS2];go_num,hb2⟩
   case measure=>simp [intOf];omega
  ·have u1:¬ (j:Int)<(Is.length:Int):=by omega
   obtain rfl:j=Is.length:=by omega
   go_wp2
   go_ret
   exact ⟨rfl,hbel⟩
end WMarkI
end
section
open Go.RowKit
namespace Mem
theorem Io.many {W:World} {S g cap n:Nat} {x:Pl.It} {Rs:List Pl.It} (h:Io W S (.slice (some ⟨g,0,none⟩) n cap) (x::Rs)) (m:Int):Io (W.setCell ⟨g,0,none⟩ (.int .i64 m)) S (.slice (some ⟨g,0,none⟩) n cap) (⟨m,x.t⟩::Rs):=by
 obtain ⟨rfl, -⟩:=h.items
 have key:∀ (i:Nat) y,((⟨m,x.t⟩:Pl.It)::Rs)[i]? =some y→∃z,(x::Rs)[i]? =some z∧z.t=y.t:=fun i y hy=>by
  cases i with
  |zero=>
   have e:(⟨m,x.t⟩:Pl.It)=y:=by simpa using hy
   subst e;exact ⟨x,rfl,rfl⟩
  |succ i=>exact ⟨y,by simpa using hy,rfl⟩
 refine ⟨?_,fun i y hy=>?_,fun i j y z hij hy hz q hq=>?_⟩
 ·have h2:=own_put h.row 0 (.int .i64 m);rw [Pl.cellsI_many] at h2;exact h2
 ·obtain ⟨z,hz,e⟩:=key i y hy;rw [←e];obtain ⟨h3,h4⟩:=h.each i z hz;exact ⟨ownN_far h3 _ _ (fun q hq e2=>h4 q hq (by rw [←e2];rfl)),h4⟩
 ·obtain ⟨y',hy',e⟩:=key i y hy;obtain ⟨z',hz',e2⟩:=key j z hz;rw [←e2];rw [←e] at hq;exact h.apart i j y' z' hij hy' hz' q hq
end Mem
namespace Pl
end Pl
end
section
open Go.RowKit
namespace Mem
theorem Io.own {W:World} {S g cap n:Nat} {Is:List Pl.It} (h:Io W S (.slice (some ⟨g,0,none⟩) n cap) Is):OwnI W S g Is:=by
 obtain ⟨hn,hi⟩:=h.items
 have shp:∀ {x:Pl.It} {W:World} {S:Nat},ownN W S x.t.val x.t.L→(x.t.a=none∧x.t.L=[]∧x.t.cap=0)∨∃q cur,x.t.a=some ⟨q,0,none⟩∧S≤q∧W.heap[q]? =some (.cells cur 47 (0,0))∧x.t.L.length*5≤cur.size:=fun {x W S} hx=>by
  rcases hx.2 with ⟨e,h0⟩|⟨q,c,cur,e,hb,hq,hc,hm,hs,ht⟩
  ·have e2:Value.slice x.t.a x.t.L.length x.t.cap= .slice none 0 0:=e
   injection e2 with e3 e4 e5
   exact .inl ⟨e3,List.eq_nil_of_length_eq_zero h0,e5⟩
  ·have e2:Value.slice x.t.a x.t.L.length x.t.cap= .slice (some ⟨q,0,none⟩) _ c:=e
   injection e2 with e3 e4 e5
   exact .inr ⟨q,cur,e3,hb,hq,by omega⟩
 refine ⟨?_,(h.lt.1 g rfl).1,hi,fun i x hx=>?_,fun i j x y hij hx hy q hq e=>?_⟩
 ·rcases h.row.2 with ⟨e,_⟩|⟨q,c,cur,e,hb,hq,hc,hm,hs,ht⟩
  ·cases e
  ·cases e
   exact ⟨cur,hq,by omega⟩
 ·obtain ⟨h3,h4⟩:=h.each i x hx
  rcases shp h3 with h5|⟨q,cur,e1,e2,e3,e4⟩
  ·exact .inl h5
  ·exact .inr ⟨q,cur,e1,e2,fun e=>h4 q (by show (Value.slice x.t.a x.t.L.length x.t.cap).ownBlock=_;rw [e1];rfl) (by rw [e];rfl),e3,e4⟩
 ·exact h.apart i j x y hij hx hy q (by show (Value.slice x.t.a x.t.L.length x.t.cap).ownBlock=_;rw [hq];rfl) (by show (Value.slice y.t.a y.t.L.length y.t.cap).ownBlock=_;rw [e];rfl)
end Mem
end
section
open Go.RowKit
namespace WMkB
theorem lay_one {w:World} {B g i K:Nat} {Js:List Pl.It} {x:Pl.It} (o:Mem.OwnI w B g Js) (hx:Js[i]? =some x) (hn:x.t.L.length≤1048576) (hK:0<K) (hK2:K≤1000000):
  Calls Tryz.prog 25 #[.slice x.t.a x.t.L.length x.t.cap, .int .i64 (K:Int)] w fun e w'=>e= .returned (.int .i64 ((K+5*x.t.L.length:Nat):Int))∧Mem.OwnI w' B g (Js.set i ⟨x.m,⟨x.t.a,x.t.cap,Pl.zt4 K x.t.L.length⟩⟩)∧(∀G,(∀h,x.t.a=some ⟨h,0,none⟩→h<G)→Mem.Band B G w w'):=by
 rcases o.own i x hx with ⟨e1,e2,e3⟩|⟨h,c,k1,k2,k3,k4,k5⟩
 ·rw [e1,e2,e3];refine (WMarkI.layNil K w).mono fun e w' ⟨he,b⟩=>⟨he,?_,fun _ _=>Mem.Band.of_below b⟩
  have :Js.set i ⟨x.m,⟨none,0,Pl.zt4 K 0⟩⟩=Js:=by
   apply List.ext_getElem?
   intro j;rw [List.getElem?_set];by_cases e:i=j
   ·subst e;rw [if_pos rfl,if_pos (List.getElem?_eq_some_iff.1 hx).1,hx];obtain ⟨m,a,cap,L⟩:=x;simp only at e1 e2 e3;subst e1 e2 e3;rfl
   ·rw [if_neg e]
  simp only [List.length_nil];rw [this];exact o.call b
 ·rw [k1];refine (ye6.lay_any h x.t.L.length x.t.cap K c w hn hK (Nat.le_trans hK2 (by decide)) k4 k5).mono fun e w' ⟨he,⟨c',r1,r2⟩,hnd,gr⟩=>⟨he,?_,fun G hb=>?_⟩
  ·have :=o.nodes hx k1 gr ⟨c',r1,by omega⟩ hnd (Pl.yi7 _ _);rw [k1] at this;exact this
  ·exact Mem.Band.of_grown gr k2 (hb h rfl)
set_option linter.unusedSimpArgs false in
set_option maxRecDepth 100000 in
set_option maxHeartbeats 1000000 in
theorem zm2 (B g cap K G:Nat) (Is:List Pl.It) (w:World) (hn:Is.length≤1000) (hL:∀x∈Is,x.t.L.length≤1048576) (hK:0<K) (hK2:∀i,i≤Is.length→Pl.kAt K Is i≤100000) (o:Mem.OwnI w B g Is) (hgG:g<G) (hG:∀x∈Is,∀h,x.t.a=some ⟨h,0,none⟩→h<G):
  Calls Tryz.prog 10 #[.slice (some ⟨g,0,none⟩) Is.length cap, .int .i64 (K:Int)] w fun e w'=>e= .returned (.int .i64 (Pl.kAt K Is Is.length:Int))∧Mem.OwnI w' B g (Pl.mkTo K Is Is.length)∧Mem.Band B G w w':=by
 have HO0:Hid (Mem.OwnI w B g (Pl.mkTo K Is 0)):=hide (by rw [Pl.mkTo_zero];exact o);have HL:=hide hL;have HG:=hide hG;have HK2:=hide hK2;have HKG:Hid (∀i,0<Pl.kAt K Is i):=hide (fun i=>Nat.lt_of_lt_of_le hK (Pl.kAt_ge K Is i));have HKS:Hid (∀ (i:Nat) x,Is[i]? =some x→Pl.kAt K Is (i+1)=Pl.kAt K Is i+1+5*x.t.L.length):=hide (fun i x h=>Pl.kAt_succ h);have HMG:Hid (∀ (i:Nat) x,Is[i]? =some x→(Pl.mkTo K Is i)[i]? =some x):=hide (fun i x h=>by rw [Pl.yg0,h];simp);have HMS:Hid (∀ (i:Nat) x,Is[i]? =some x→((Pl.mkTo K Is i).set i ⟨((Pl.kAt K Is i:Nat):Int),x.t⟩).set i ⟨((Pl.kAt K Is i:Nat):Int),⟨x.t.a,x.t.cap,Pl.zt4 (Pl.kAt K Is i+1) x.t.L.length⟩⟩=Pl.mkTo K Is (i+1)):=hide (fun i x h=>by rw [List.set_set];exact Pl.mkTo_succ K h);have HML:Hid (∀i,(Pl.mkTo K Is i).length=Is.length):=hide (fun i=>Pl.mkTo_len K Is i);have HK0:Hid (Pl.kAt K Is 0=K):=hide rfl
 generalize Pl.mkTo K Is=MT at HO0 HMG HMS HML ⊢;generalize Pl.kAt K Is=KA at HK2 HKG HKS HMS HK0 ⊢;have hK3:=za HK2 Is.length (Nat.le_refl _);clear hL hK2 o hG;go_enter Tryz.func10,Tryz.ntmps10
 go_wp2
 go_loopw [1,5] (fun q i wr=>∃j:Nat,j≤Is.length∧i= .int .i64 (j:Int)∧q= .int .i64 (KA j:Int)∧Hid (Mem.OwnI wr B g (MT j))∧Hid (Mem.Band B G w wr)) (fun _ i _=>Is.length - (intOf i).toNat)
 case atStart=>exact ⟨0,Nat.zero_le _,rfl,by rw [za HK0],HO0,Mem.Band.refl _ _ _⟩
 case round=>
  obtain ⟨j,hj,rfl,rfl,HO,hbel⟩:=hrel;clear HO0;by_cases hlt:j<Is.length
  ·obtain ⟨x,hx⟩:∃x,Is[j]? =some x:=⟨_,List.getElem?_eq_getElem hlt⟩;have hmx:=za HMG j x hx;have u1:(j:Int)<(Is.length:Int):=by omega
   have u3:(0:Int)≤(j:Int):=by omega
   have hkj:=za HK2 j hj;have hks:=za HKS j x hx;have hkk:=za HKG j;obtain ⟨cur,r1,r2⟩:=(za HO).row;rw [za HML] at r2;obtain ⟨x0,s0⟩:∃x,wr.cell? ⟨g,j*2,none⟩=some x:=⟨_,(cell_of_row wr _ (j*2) _ _ (0,0) r1).trans (Array.getElem?_eq_getElem (by omega))⟩;have f0:wr.frozen? ⟨g,j*2,none⟩=false:=Mem.zg1 r1;have O1:=(za HO).many hmx ((KA j:Nat):Int)
   have hx1:((MT j).set j ⟨((KA j:Nat):Int),x.t⟩)[j]? =some ⟨((KA j:Nat):Int),x.t⟩:=by
    rw [List.getElem?_set,if_pos rfl,if_pos (by rw [za HML];exact hlt)]
   obtain ⟨⟨b',o',e', -, -,c1⟩, -⟩:=O1.items j _ hx1;cases e'
   simp only [Pl.Tr.val,Nat.zero_add] at c1;have hcall:=hide (lay_one (K:=KA j+1) O1 hx1 (za HL x (List.mem_of_getElem? hx)) (by omega) (by omega));have HST:=hide (za HMS j x hx);have hb1:Mem.Band B G w (wr.setCell ⟨g,j*2,none⟩ (.int .i64 ((KA j:Nat):Int))):=(za hbel).trans (Mem.Band.of_set _ _ (za HO).lo hgG);have HGX:=hide (za HG x (List.mem_of_getElem? hx));have hs1:(wr.setCell ⟨g,j*2,none⟩ (.int .i64 ((KA j:Nat):Int))).heap.size=wr.heap.size:=by simp
   have HB1:=hide hb1;have HKS2:=hide hks;clear hx hmx r1 r2 O1 hx1 HO hbel hks hb1;simp only [Int.natCast_add,Int.cast_ofNat_Int] at hcall;go_wp2_with fail
   refine (za hcall).mono ?_;rintro e w2 ⟨rfl,o2,b2⟩;have hb2:=hide ((za HB1).trans (b2 G (za HGX)));rw [za HST] at o2;have HO2:=hide o2;clear hcall o2 b2 s0 f0 c1 HB1;go_wp2
   go_roundw
   case rel=>exact ⟨j+1,by omega,by go_num,by rw [za HKS2];go_num,HO2,hb2⟩
   case measure=>simp [intOf];omega
  ·have u1:¬ (j:Int)<(Is.length:Int):=by omega
   obtain rfl:j=Is.length:=by omega
   go_wp2
   go_ret
   exact ⟨rfl,za HO,za hbel⟩
set_option maxRecDepth 100000 in
theorem mark_nil (K:Nat) (w:World):Calls Tryz.prog 10 #[.slice none 0 0, .int .i64 (K:Int)] w fun e w'=>e= .returned (.int .i64 (K:Int))∧Below w.heap.size w w':=by
 go_enter Tryz.func10,Tryz.ntmps10
 go_wp2
 refine wp_loop_rounds 1 ?_;rw [rounds_succ];go_wp2
 go_ret
 exact ⟨rfl,Below.refl _ _⟩
theorem mark_own (a:Option Addr) (cap K S G:Nat) (Is:List Pl.It) (w:World) (hn:Is.length≤1000) (hL:∀x∈Is,x.t.L.length≤1048576) (hK:0<K) (hK2:∀i,i≤Is.length→Pl.kAt K Is i≤100000) (h:Mem.Io w S (.slice a Is.length cap) Is) (hG:∀g,(Value.slice a Is.length cap).ownBlock=some g→g<G) (hG2:∀x∈Is,∀g,x.t.val.ownBlock=some g→g<G):
  Calls Tryz.prog 10 #[.slice a Is.length cap, .int .i64 (K:Int)] w fun e w'=>e= .returned (.int .i64 (Pl.kAt K Is Is.length:Int))∧Mem.zb0 w' a (Pl.mkTo K Is Is.length)∧Mem.Band S G w w':=by
 rcases h.row.2 with ⟨e,h0⟩|⟨g,c,cur,e,_⟩
 ·have e0:Is=[]:=List.eq_nil_of_length_eq_zero h0;subst e0
  injection e with e1 e2 e3
  subst e1 e3;exact (mark_nil K w).mono fun _ _ ⟨he,b⟩=>⟨he,Mem.yc8 _ _,Mem.Band.of_below b⟩
 ·injection e with e1 e2 e3
  subst e1 e3;exact (zm2 S g cap K G Is w hn hL hK hK2 h.own (hG g rfl) (fun x hx q hq=>hG2 x hx q (by show (Value.slice x.t.a x.t.L.length x.t.cap).ownBlock=_;rw [hq];rfl))).mono fun _ _ ⟨he,o,b⟩=>⟨he,o.items,b⟩
end WMkB
end
section
open Go.RowKit
namespace WLaw
set_option maxRecDepth 100000 in
set_option maxHeartbeats 800000 in
theorem eqItem_any (m:Int) (a b:Option Addr) (c1 c2:Nat) (L:List Pl.Nd) (w:World) (hl:L.length≤1048576) (hv:Mem.za2 w a L) (hu:Mem.za2 w b L):
  Calls Tryz.prog 24 #[.agg #[.int .i64 m, .slice a L.length c1], .agg #[.int .i64 m, .slice b L.length c2]] w fun e w'=>e= .returned (.bool true)∧Below w.heap.size w w':=by
 have b0:∀o1 o2,Below w.heap.size w ((w.alloc o1).alloc o2):=fun o1 o2=>((Below.refl _ _).alloc (Nat.le_refl _) o1).alloc (by simp) o2;have HB:=hide b0;have HZ:=hide (fun W (b':Below w.heap.size w W)=>eqTree_any a b c1 c2 L W hl (Mem.za0 hv b') (Mem.za0 hu b'));clear hv hu b0;go_enter Tryz.func24,Tryz.ntmps24
 go_wp2_with fail
 refine (za HZ _ (za HB _ _)).mono ?_;rintro e w1 ⟨rfl,b1⟩;have bb:=(za HB _ _).trans (b1.mono (za HB _ _).size);clear HZ b1;go_wp2
 go_ret
 exact ⟨rfl,bb⟩
set_option maxRecDepth 100000 in
set_option maxHeartbeats 800000 in
theorem yk1 (a b:Option Addr) (c1 c2:Nat) (Ts Us:List Pl.It) (w:World) (hl:Ts.length≤1048576) (hm:Us.map Pl.It.r=Ts.map Pl.It.r) (hv:Mem.zb0 w a Ts) (hu:Mem.zb0 w b Us) (hok:∀t∈Ts,t.t.L.length≤1048576):
  Calls Tryz.prog 9 #[.slice a Ts.length c1, .slice b Ts.length c2] w fun e w'=>e= .returned (.bool true)∧Below w.heap.size w w':=by
 have HV:=hide hv;have HU:=hide hu;have HO:=hide hok;have HM:=hide hm;clear hv hu hok hm;go_enter Tryz.func9,Tryz.ntmps9
 go_wp2
 go_loopw [5] (fun i wr=>∃k:Nat,k≤Ts.length∧i= .int .i64 (k:Int)∧Below w.heap.size w wr) (fun i _=>Ts.length - (intOf i).toNat)
 case atStart=>exact ⟨0,Nat.zero_le _,rfl,Below.refl _ _⟩
 case round=>
  obtain ⟨k,hk,rfl,hbel⟩:=hrel;by_cases hlt:k<Ts.length
  ·obtain ⟨t,ht⟩:∃n,Ts[k]? =some n:=⟨_,List.getElem?_eq_getElem hlt⟩
   obtain ⟨u,hu,hum,hul⟩:∃u,Us[k]? =some u∧u.m=t.m∧u.t.L=t.t.L:=by
    have h:=congrArg (fun l=>l[k]?) (za HM);simp only [List.getElem?_map,ht,Option.map_some] at h;cases hu:Us[k]? with
    |none=>rw [hu] at h;simp at h
    |some u=>rw [hu] at h;simp [Pl.It.r] at h;exact ⟨u,rfl,h.1,h.2⟩
   obtain ⟨⟨g,o,rfl,hg,q0,q0'⟩,q1⟩:=(za HV) k t ht;obtain ⟨⟨g2,o2,rfl,hg2,p0,p0'⟩,p1⟩:=(za HU) k u hu;rw [hul] at p1;have hz:=hide (fun W (b:Below w.heap.size w W)=>eqItem_any t.m t.t.a u.t.a t.t.cap u.t.cap t.t.L W (za HO t (List.mem_of_getElem? ht)) (Mem.za0 q1 b) (Mem.za0 p1 b));have MK:Hid (∀W',Below w.heap.size w W'→(Below w.heap.size w W'∧W'.cell? ⟨g,o+k*2,none⟩=some (.int .i64 t.m)∧W'.cell? ⟨g,o+k*2+1,none⟩=some (.slice t.t.a t.t.L.length t.t.cap)∧W'.cell? ⟨g2,o2+k*2,none⟩=some (.int .i64 t.m)∧W'.cell? ⟨g2,o2+k*2+1,none⟩=some (.slice u.t.a t.t.L.length u.t.cap))):=fun W' hb'=>⟨hb',(hb'.cell (p:=⟨g,_,none⟩) hg).trans q0,(hb'.cell (p:=⟨g,_,none⟩) hg).trans (by rw [q0',Pl.Tr.val]),(hb'.cell (p:=⟨g2,_,none⟩) hg2).trans (by rw [p0,hum]),(hb'.cell (p:=⟨g2,_,none⟩) hg2).trans (by rw [p0',Pl.Tr.val,hul])⟩;have u1:(k:Int)<(Ts.length:Int):=by omega
   have u3:(0:Int)≤(k:Int):=by omega
   have hbd:Below w.heap.size w wr.drew:=⟨hbel.os,hbel.tape,hbel.output,hbel.size,hbel.block⟩;clear q0 p0 q0' p0' ht hu hul hum q1 p1;go_wp2_with fail
   go_region_held3 (fun W'=>Below w.heap.size w W'∧W'.cell? ⟨g,o+k*2,none⟩=some (.int .i64 t.m)∧W'.cell? ⟨g,o+k*2+1,none⟩=some (.slice t.t.a t.t.L.length t.t.cap)∧W'.cell? ⟨g2,o2+k*2,none⟩=some (.int .i64 t.m)∧W'.cell? ⟨g2,o2+k*2+1,none⟩=some (.slice u.t.a t.t.L.length u.t.cap)) (first |exact za MK _ hbd|exact za MK _ (hbd.trans (bX.mono hbd.size))) (first |(go_at_call 24;refine (za hz _ hbd).mono ?_;rintro e wX ⟨rfl,bX⟩))
   have hb2:=hbd.trans (bX.mono hbd.size);clear hbel hbd bX MK;go_wp2
   go_roundw
   case rel=>exact ⟨k+1,by omega,by go_num,hb2⟩
   case measure=>simp [intOf];omega
  ·have u1:¬ (k:Int)<(Ts.length:Int):=by omega
   go_wp2
   go_ret
   exact ⟨rfl,hbel⟩
end WLaw
end
section
open Go.RowKit
namespace Pl
theorem kAt_le (K:Nat) {Is:List It} (h:∀x∈Is,x.t.L.length≤40) (i:Nat):kAt K Is i≤K+i*201:=by
 induction i with
 |zero=>exact Nat.le_refl _
 |succ i ih=>
  simp only [kAt];cases hi:Is[i]? with
  |none=>simp only;omega
  |some x=>
   have :=h x (List.mem_of_getElem? hi);simp only;omega
end Pl
namespace WMkQ
set_option maxRecDepth 100000 in
theorem zm2 (a:Option Addr) (cap S G:Nat) (c:Int) (Is:List Pl.It) (w:World) (hn:Is.length≤12) (hL:∀x∈Is,x.t.L.length≤40) (h:Mem.Io w S (.slice a Is.length cap) Is) (hG:∀g,(Value.slice a Is.length cap).ownBlock=some g→g<G) (hG2:∀x∈Is,∀g,x.t.val.ownBlock=some g→g<G):
  Calls Tryz.prog 11 #[.agg #[.slice a Is.length cap, .int .i64 c], .int .i64 1] w fun e w'=>e= .returned (.int .i64 (Pl.kAt 1 Is Is.length:Int))∧Mem.zb0 w' a (Pl.mkTo 1 Is Is.length)∧Mem.Band S G w w':=by
 have b0:∀o,Below w.heap.size w (w.alloc o):=fun o=>(Below.refl _ _).alloc (Nat.le_refl _) o;have HB:=hide b0;have hl:=hide (fun W (b:Below w.heap.size w W)=>WMkB.mark_own a cap 1 S G Is W (by omega) (fun x hx=>Nat.le_trans (hL x hx) (by decide)) (by decide) (fun i hi=>Nat.le_trans (Pl.kAt_le 1 hL i) (by omega)) (h.call b) hG hG2);generalize Pl.mkTo 1 Is Is.length=MT at hl ⊢;generalize Pl.kAt 1 Is Is.length=KA at hl ⊢;clear b0 h hL hG hG2;go_enter Tryz.func11,Tryz.ntmps11
 go_wp2_with fail
 refine (za hl _ (za HB _)).mono ?_;rintro e w1 ⟨rfl,h1,b1⟩;have H:=hide ((Mem.Band.of_below (za HB _)).trans b1);have HI:=hide h1;clear h1 hl HB b1;go_wp2
 go_ret
 exact ⟨rfl,za HI,za H⟩
set_option maxRecDepth 100000 in
theorem zt5 (a:Option Addr) (cap:Nat) (c:Int) (Is:List Pl.It) (w:World) (hn:Is.length≤12) (hL:∀x∈Is,x.t.L.length≤40) (hv:Mem.zb0 w a (Pl.mkTo 1 Is Is.length)):
  Calls Tryz.prog 12 #[.agg #[.slice a Is.length cap, .int .i64 c], .int .i64 1] w fun e w'=>e= .returned (.int .i64 (Pl.kAt 1 Is Is.length:Int))∧Below w.heap.size w w':=by
 have b0:∀o,Below w.heap.size w (w.alloc o):=fun o=>(Below.refl _ _).alloc (Nat.le_refl _) o;have HB:=hide b0;have hl:=hide (fun W (b:Below w.heap.size w W)=>WMarkI.zt5 a cap 1 Is W (by omega) (fun x hx=>Nat.le_trans (hL x hx) (by decide)) (by decide) (fun i hi=>Nat.le_trans (Pl.kAt_le 1 hL i) (by omega)) (Mem.zb2 hv b));clear hv b0 hL;generalize Pl.kAt 1 Is Is.length=q at hl ⊢;have t0:¬ (q:Int)<0:=by omega
 go_enter Tryz.func12,Tryz.ntmps12
 go_wp2_with fail
 refine (za hl _ (za HB _)).mono ?_;rintro e w1 ⟨rfl,b1⟩;have b2:=(za HB _).trans (b1.mono (za HB _).size);clear b1 hl;go_wp2
 go_ret
 exact ⟨rfl,b2⟩
set_option maxRecDepth 100000 in
theorem eq_any (a b:Option Addr) (c1 c2:Nat) (c:Int) (Ts Us:List Pl.It) (w:World) (hl:Ts.length≤12) (hm:Us.map Pl.It.r=Ts.map Pl.It.r) (hL:∀x∈Ts,x.t.L.length≤40) (hv:Mem.zb0 w a Ts) (hu:Mem.zb0 w b Us):
  Calls Tryz.prog 8 #[.agg #[.slice a Ts.length c1, .int .i64 c], .agg #[.slice b Ts.length c2, .int .i64 c]] w fun e w'=>e= .returned (.bool true)∧Below w.heap.size w w':=by
 have b0:Below w.heap.size w ((w.alloc (.cells #[.slice a Ts.length c1, .int .i64 c] 26)).alloc (.cells #[.slice b Ts.length c2, .int .i64 c] 26)):=((Below.refl _ _).alloc (Nat.le_refl _) _).alloc (by simp) _;have va:=Mem.yi2 (Mem.zi0 w [.slice a Ts.length c1, .int .i64 c] 26) (.cells #[.slice b Ts.length c2, .int .i64 c] 26);have vb:=Mem.zi0 (w.alloc (.cells #[.slice a Ts.length c1, .int .i64 c] 26)) [.slice b Ts.length c2, .int .i64 c] 26;rw [show (w.alloc (.cells #[.slice a Ts.length c1, .int .i64 c] 26)).heap.size=w.heap.size+1 by simp] at vb;have he:=hide (fun W (bw:Below w.heap.size w W)=>WLaw.yk1 a b c1 c2 Ts Us W (by omega) hm (Mem.zb2 hv bw) (Mem.zb2 hu bw) (fun x hx=>Nat.le_trans (hL x hx) (by decide)));clear hv hu hm hL;have k5':=va.2 0 _ rfl;have d5':=vb.2 0 _ rfl
 go_enter Tryz.func8,Tryz.ntmps8
 go_wp2_with fail
 refine (za he _ b0).mono ?_;rintro e w1 ⟨rfl,b1⟩;have bw1:=b0.trans (b1.mono b0.size);have k5:=(Mem.zm1 va b1).2 1 _ rfl;have d5:=(Mem.zm1 vb b1).2 1 _ rfl;clear he va vb b0 b1 k5' d5';go_wp2
 go_ret
 exact ⟨rfl,bw1⟩
end WMkQ
end
section
open Go.RowKit
namespace Mem
theorem Io.band {W W':World} {S Y X:Nat} {v:Value} {Is:List Pl.It} (h:Io W S v Is) (b:Band Y X W W') (hv:∀g,v.ownBlock=some g→g<Y∨X≤g) (hx:∀x∈Is,∀g,x.t.val.ownBlock=some g→g<Y∨X≤g):Io W' S v Is:=
 ⟨b.row h.row hv,fun i x hi=>⟨b.row (h.each i x hi).1 (hx x (List.mem_of_getElem? hi)),(h.each i x hi).2⟩,h.apart⟩
theorem Io.mem_lt {W:World} {S:Nat} {v:Value} {Is:List Pl.It} (h:Io W S v Is):∀x∈Is,∀g,x.t.val.ownBlock=some g→S≤g∧g<W.heap.size:=fun x hx g hg=>by
 obtain ⟨i,hi⟩:=List.getElem?_of_mem hx;exact h.lt.2 i x hi g hg
end Mem
namespace WMkR
structure OW (w W:World) (Y B1:Nat) (aw:Option Addr) (cw:Nat) (U:List Pl.It) (O:List (Int × List Pl.Nd)) (c:Int):Prop where
 bel:Below w.heap.size w W
 var:Mem.Blk W Y #[.slice aw O.length cw, .int .i64 c] 26
 own:Mem.Io W B1 (.slice aw O.length cw) U
 reads:U.map Pl.It.r=O
 hi:∀g,(Value.slice aw O.length cw).ownBlock=some g→g<Y
 hi2:∀x∈U,∀g,x.t.val.ownBlock=some g→g<Y
 y:w.heap.size≤Y
theorem OW.call {w W W':World} {aw:Option Addr} {Y B1 cw:Nat} {U:List Pl.It} {O:List (Int × List Pl.Nd)} {c:Int} (h:OW w W Y B1 aw cw U O c) (b:Below W.heap.size W W'):OW w W' Y B1 aw cw U O c:=
 ⟨h.bel.trans (b.mono h.bel.size),h.var.call b,h.own.call b,h.reads,h.hi,h.hi2,h.y⟩
theorem OW.band {w W W':World} {aw:Option Addr} {Y B1 cw g X:Nat} {U:List Pl.It} {O:List (Int × List Pl.Nd)} {c:Int} (h:OW w W Y B1 aw cw U O c) (b:Mem.Band g X W W') (hg:Y<g):OW w W' Y B1 aw cw U O c:=
 ⟨b.below h.bel (by have :=h.y;omega) h.bel.size,b.blk h.var (.inl hg),h.own.band b (fun q hq=> .inl (by have :=h.hi q hq;omega)) (fun x hx q hq=> .inl (by have :=h.hi2 x hx q hq;omega)),h.reads,h.hi,h.hi2,h.y⟩
theorem OW.items {w W:World} {aw:Option Addr} {Y B1 cw:Nat} {U:List Pl.It} {O:List (Int × List Pl.Nd)} {c:Int} (h:OW w W Y B1 aw cw U O c):Mem.zb0 W aw U:=h.own.items.2
structure G0 (W:World) (G B3:Nat) (ag:Option Addr) (cg:Nat) (U:List Pl.It) (O:List (Int × List Pl.Nd)) (c:Int):Prop where
 var:Mem.Blk W G #[.slice ag O.length cg, .int .i64 c] 26
 own:Mem.Io W B3 (.slice ag O.length cg) U
 reads:U.map Pl.It.r=O
 hi:∀g,(Value.slice ag O.length cg).ownBlock=some g→g<G
 hi2:∀x∈U,∀g,x.t.val.ownBlock=some g→g<G
 b:B3≤G
theorem G0.call {W W':World} {G B3 cg:Nat} {ag:Option Addr} {U:List Pl.It} {O:List (Int × List Pl.Nd)} {c:Int} (h:G0 W G B3 ag cg U O c) (b:Below W.heap.size W W'):G0 W' G B3 ag cg U O c:=
 ⟨h.var.call b,h.own.call b,h.reads,h.hi,h.hi2,h.b⟩
theorem G0.band {W W':World} {G X cg g:Nat} {ag:Option Addr} {U:List Pl.It} {O:List (Int × List Pl.Nd)} {c:Int} (h:G0 W G X ag cg U O c) (b:Mem.Band g X W W'):G0 W' G X ag cg U O c:=
 ⟨b.blk h.var (.inr h.b),h.own.band b (fun q hq=> .inr (h.own.lt.1 q hq).1) (fun x hx q hq=> .inr (h.own.mem_lt x hx q hq).1),h.reads,h.hi,h.hi2,h.b⟩
theorem G0.items {W:World} {G B3 cg:Nat} {ag:Option Addr} {U:List Pl.It} {O:List (Int × List Pl.Nd)} {c:Int} (h:G0 W G B3 ag cg U O c):Mem.zb0 W ag U:=h.own.items.2
structure M0 (W:World) (G:Nat) (ag:Option Addr) (n cg:Nat) (M:List Pl.It) (c:Int):Prop where
 var:Mem.Blk W G #[.slice ag n cg, .int .i64 c] 26
 items:Mem.zb0 W ag M
theorem M0.call {W W':World} {G n cg:Nat} {ag:Option Addr} {M:List Pl.It} {c:Int} (h:M0 W G ag n cg M c) (b:Below W.heap.size W W'):M0 W' G ag n cg M c:=
 ⟨h.var.call b,Mem.zb2 h.items b⟩
theorem yb7 {U:List Pl.It} {O:List (Int × List Pl.Nd)} (h:U.map Pl.It.r=O):U.length=O.length:=by rw [←h,List.length_map]
theorem le_of {U:List Pl.It} {O:List (Int × List Pl.Nd)} (h:U.map Pl.It.r=O) (hO:∀x∈O,x.2.length≤40):∀x∈U,x.t.L.length≤40:=fun x hx=>hO x.r (by rw [←h];exact List.mem_map.2 ⟨x,hx,rfl⟩)
theorem eq_any (O:List (Int × List Pl.Nd)) (hO:O.length≤12) (hL:∀x∈O,x.2.length≤40) (a b:Option Addr) (c1 c2:Nat) (c:Int) (T U:List Pl.It) (w:World) (hT:T.map Pl.It.r=O) (hU:U.map Pl.It.r=O) (hv:Mem.zb0 w a T) (hu:Mem.zb0 w b U):
  Calls Tryz.prog 8 #[.agg #[.slice a O.length c1, .int .i64 c], .agg #[.slice b O.length c2, .int .i64 c]] w fun e w'=>e= .returned (.bool true)∧Below w.heap.size w w':=by
 have :=WMkQ.eq_any a b c1 c2 c T U w (by rw [yb7 hT];exact hO) (hU.trans hT.symm) (le_of hT hL) hv hu;rw [yb7 hT] at this;exact this
theorem zm2 (O:List (Int × List Pl.Nd)) (hO:O.length≤12) (hL:∀x∈O,x.2.length≤40) (a:Option Addr) (cap S G:Nat) (c:Int) (U:List Pl.It) (w:World) (h:G0 w G S a cap U O c):
  Calls Tryz.prog 11 #[.agg #[.slice a O.length cap, .int .i64 c], .int .i64 1] w fun e w'=>e= .returned (.int .i64 (Pl.kAt 1 U O.length:Int))∧M0 w' G a O.length cap (Pl.mkTo 1 U O.length) c∧Mem.Band S G w w':=by
 have e:=yb7 h.reads;have :=WMkQ.zm2 a cap S G c U w (by rw [e];exact hO) (le_of h.reads hL) (by rw [e];exact h.own) (by rw [e];exact h.hi) h.hi2;rw [e] at this;exact this.mono fun _ _ ⟨h1,h2,h3⟩=>⟨h1,⟨h3.blk h.var (.inr (Nat.le_refl _)),h2⟩,h3⟩
theorem zt5 (O:List (Int × List Pl.Nd)) (hO:O.length≤12) (hL:∀x∈O,x.2.length≤40) (a:Option Addr) (cap G:Nat) (c:Int) (U:List Pl.It) (w:World) (hU:U.map Pl.It.r=O) (h:M0 w G a O.length cap (Pl.mkTo 1 U O.length) c):
  Calls Tryz.prog 12 #[.agg #[.slice a O.length cap, .int .i64 c], .int .i64 1] w fun e w'=>e= .returned (.int .i64 (Pl.kAt 1 U O.length:Int))∧Below w.heap.size w w':=by
 have e:=yb7 hU;have :=WMkQ.zt5 a cap c U w (by rw [e];exact hO) (le_of hU hL) (by rw [e];exact h.items);rw [e] at this;exact this
end WMkR
end
section
open Go.RowKit
namespace zx2
def Ok (n:Pl.Nd):Prop:=n.path.size≤maxLen∧n.data.size≤maxLen∧(-9223372036854775808≤n.kind∧n.kind≤9223372036854775807)∧(-9223372036854775808≤n.time∧n.time≤9223372036854775807)∧(-9223372036854775808≤n.mark∧n.mark≤9223372036854775807)
end zx2
end
section
open Go.RowKit
namespace OpenI
structure OkI (w:World) (a:Option Addr) (Is:List Pl.It):Prop where
 len:Is.length≤maxLen
 items:Mem.zb0 w a Is
 ok:∀x∈Is,x.t.L.length≤maxLen∧∀n∈x.t.L,zx2.Ok n
end OpenI
end
section
open Go.ChangeShapes Go.WideShapes Go.ChangeAt Go.RowKit
namespace zx2
theorem five {α:Type} {l:List α} (h:l.length=5):∃a b c d e,l=[a,b,c,d,e]:=by
 match l,h with
 | [a,b,c,d,e],_=>exact ⟨a,b,c,d,e,rfl⟩
theorem cells5:Tryz.prog.cellsOf 141=5:=by kernel_rfl
theorem cellsS:Tryz.prog.cellsOf 9=1:=by kernel_rfl
theorem zd7:Tryz.prog.cellsOf 2=1:=by kernel_rfl
set_option maxRecDepth 100000 in
theorem node {H:Type} {enc:TypeId × Value→H} {w:World} {base fuel:Nat} {spare:Nat→Bool} {held:Bool} {cs:List Value} {x:DataW H × List MemPlace}
  (h:DataW.trod enc Tryz.prog w base spare held fuel 141 cs=some x):∃n:Pl.Nd,cs=n.cells∧Ok n:=by
 obtain ⟨xs,m,rfl, -,hlen,hxl,hf⟩:=DataW.trod_struct Tryz.underlying141 h;obtain ⟨c0,c1,c2,c3,c4,rfl⟩:=five (hlen.trans cells5);obtain ⟨y0,y1,y2,y3,y4,rfl⟩:=five hxl;have h0:=hf 0 _ rfl;have h1:=hf 1 _ rfl;have h2:=hf 2 _ rfl;have h3:=hf 3 _ rfl;have h4:=hf 4 _ rfl
 change DataW.trod enc Tryz.prog w base spare held m 9 (([c0,c1,c2,c3,c4].drop 0).take (Tryz.prog.cellsOf 9))=some y0 at h0
 rw [cellsS] at h0
 change DataW.trod enc Tryz.prog w base spare held m 2 (([c0,c1,c2,c3,c4].drop 1).take (Tryz.prog.cellsOf 2))=some y1 at h1
 rw [zd7] at h1
 change DataW.trod enc Tryz.prog w base spare held m 9 (([c0,c1,c2,c3,c4].drop 2).take (Tryz.prog.cellsOf 9))=some y2 at h2
 rw [cellsS] at h2
 change DataW.trod enc Tryz.prog w base spare held m 2 (([c0,c1,c2,c3,c4].drop 3).take (Tryz.prog.cellsOf 2))=some y3 at h3
 rw [zd7] at h3
 change DataW.trod enc Tryz.prog w base spare held m 2 (([c0,c1,c2,c3,c4].drop 4).take (Tryz.prog.cellsOf 2))=some y4 at h4
 rw [zd7] at h4;obtain ⟨p,e0, -,wp⟩:=DataW.trod_string Tryz.underlying9 h0;obtain ⟨k,e1, -,wk⟩:=DataW.trod_int Tryz.underlying2 h1;obtain ⟨d,e2, -,wd⟩:=DataW.trod_string Tryz.underlying9 h2;obtain ⟨t,e3, -,wt⟩:=DataW.trod_int Tryz.underlying2 h3;obtain ⟨q,e4, -,wq⟩:=DataW.trod_int Tryz.underlying2 h4;simp at e0 e1 e2 e3 e4
 subst e0 e1 e2 e3 e4;exact ⟨⟨p,k,d,t,q⟩,rfl,wp,wd,yh2 wk,yh2 wt,yh2 wq⟩
end zx2
end
section
open Go.ChangeShapes Go.WideShapes Go.ChangeAt Go.RowKit
namespace zv7
theorem cells1:Tryz.prog.cellsOf 37=1:=by kernel_rfl
theorem cellsL:Tryz.prog.cellsOf 35=1:=by kernel_rfl
structure OkT (w:World) (a:Option Addr) (L:List Pl.Nd):Prop where
 len:L.length≤maxLen
 nodes:Mem.za2 w a L
 ok:∀n∈L,zx2.Ok n
theorem one {α:Type} {l:List α} (h:l.length=1):∃a,l=[a]:=by
 match l,h with
 | [a],_=>exact ⟨a,rfl⟩
theorem mapM5 {f:Nat→Option Value} {c0 c1 c2 c3 c4:Value} (h:(List.range 5).mapM f=some [c0,c1,c2,c3,c4]):f 0=some c0∧f 1=some c1∧f 2=some c2∧f 3=some c3∧f 4=some c4:=by
 have e:List.range 5=[0,1,2,3,4]:=rfl;rw [e] at h;simp only [List.mapM_cons,List.mapM_nil,Option.pure_def,Option.bind_eq_bind] at h;cases h0:f 0 with
 |none=>rw [h0] at h;simp at h
 |some a0=>
  cases h1:f 1 with
  |none=>rw [h0,h1] at h;simp at h
  |some a1=>
   cases h2:f 2 with
   |none=>rw [h0,h1,h2] at h;simp at h
   |some a2=>
    cases h3:f 3 with
    |none=>rw [h0,h1,h2,h3] at h;simp at h
    |some a3=>
     cases h4:f 4 with
     |none=>rw [h0,h1,h2,h3,h4] at h;simp at h
     |some a4=>
      rw [h0,h1,h2,h3,h4] at h;simp at h
      obtain ⟨rfl,rfl,rfl,rfl,rfl⟩:=h;exact ⟨rfl,rfl,rfl,rfl,rfl⟩
end zv7
end
section
open Go.ChangeShapes Go.WideShapes Go.ChangeAt Go.RowKit
namespace OpenI
theorem cells2:Tryz.prog.cellsOf 39=2:=by kernel_rfl
theorem zd7:Tryz.prog.cellsOf 2=1:=by kernel_rfl
theorem mapM2 {f:Nat→Option Value} {c0 c1:Value} (h:(List.range 2).mapM f=some [c0,c1]):f 0=some c0∧f 1=some c1:=by
 have e:List.range 2=[0,1]:=rfl;rw [e] at h;simp only [List.mapM_cons,List.mapM_nil,Option.pure_def,Option.bind_eq_bind] at h;cases h0:f 0 with
 |none=>rw [h0] at h;simp at h
 |some a0=>
  cases h1:f 1 with
  |none=>rw [h0,h1] at h;simp at h
  |some a1=>rw [h0,h1] at h;simp at h;exact ⟨by rw [h.1],by rw [h.2]⟩
theorem two {α:Type} {l:List α} (h:l.length=2):∃a b,l=[a,b]:=by
 match l,h with
 | [a,b],_=>exact ⟨a,b,rfl⟩
set_option maxRecDepth 100000 in
theorem tree {H:Type} {enc:TypeId × Value→H} {w:World} {base fuel:Nat} {spare:Nat→Bool} {held:Bool} {cs:List Value} {x:DataW H × List MemPlace}
  (hf:DataW.trod enc Tryz.prog w base spare held fuel 37 cs=some x):∃t:Pl.Tr,cs=[t.val]∧zv7.OkT w t.a t.L:=by
 obtain ⟨xs,m,rfl, -,hlen,hxl,hfl⟩:=DataW.trod_struct Tryz.underlying37 hf;obtain ⟨c,rfl⟩:=zv7.one (hlen.trans zv7.cells1);obtain ⟨y,rfl⟩:=zv7.one hxl;have h0:=hfl 0 _ rfl
 change DataW.trod enc Tryz.prog w base spare held m 35 (([c].drop 0).take (Tryz.prog.cellsOf 35))=some y at h0
 rw [zv7.cellsL] at h0
 rcases DataW.trod_slice Tryz.underlying35 h0 with ⟨e, -⟩|⟨a,len,cap,elems,rest,k, -,e, -,hb,hl,hm,hel,hE, -, -⟩
 ·simp at e
  subst e;exact ⟨⟨none,0,[]⟩,rfl,⟨Nat.zero_le _,Mem.yd3 _ _,fun n hn=>by cases hn⟩⟩
 ·simp at e
  subst e
  have each:∀i,i<len→∃n:Pl.Nd,zx2.Ok n∧(∃b o,some a=some ⟨b,o,none⟩∧b<w.heap.size∧
    w.cell? ⟨b,o+i*5,none⟩=some (.string n.path)∧w.cell? ⟨b,o+i*5+1,none⟩=some (.int .i64 n.kind)∧w.cell? ⟨b,o+i*5+2,none⟩=some (.string n.data)∧
    w.cell? ⟨b,o+i*5+3,none⟩=some (.int .i64 n.time)∧w.cell? ⟨b,o+i*5+4,none⟩=some (.int .i64 n.mark)):=by
   intro i hi;have h1:=hE i hi;rw [List.getElem?_eq_getElem (by omega),zx2.cells5] at h1;simp only [Option.bind_eq_some_iff] at h1;obtain ⟨ds,h2,h3⟩:=h1;obtain ⟨n,rfl,ok⟩:=zx2.node h3;unfold World.cells? at h2
   split at h2
   rotate_left
   ·cases h2
   obtain ⟨g0,g1,g2,g3,g4⟩:=zv7.mapM5 h2;obtain ⟨b,o,spot⟩:=a
   have hspot:spot=none:=by
    have h1:=hE 0 (by omega);rw [List.getElem?_eq_getElem (by omega),zx2.cells5] at h1;simp only [Option.bind_eq_some_iff] at h1;obtain ⟨ds,h2,h3⟩:=h1;obtain ⟨n,rfl,ok⟩:=zx2.node h3;unfold World.cells? at h2
    split at h2
    rotate_left
    ·cases h2
    simpa [Addr.add] using World.cell?_spot (zv7.mapM5 h2).1
   subst hspot;have add:∀j,((⟨b,o,none⟩:Addr).add (i*5)).add j=⟨b,o+i*5+j,none⟩:=fun j=>by rw [Mem.zq9,Mem.zq9]
   rw [add] at g0 g1 g2 g3 g4;exact ⟨n,ok,b,o,rfl,World.block_lt_of_cell? w ⟨b,o+i*5+0,none⟩ g0,g0,g1,g2,g3,g4⟩
  refine ⟨⟨some a,cap,List.ofFn (fun i:Fin len=>Classical.choose (each i i.2))⟩,by simp [Pl.Tr.val],⟨by simp;omega,fun i n hn=>?_,fun n hn=>?_⟩⟩
  ·rw [List.getElem?_ofFn] at hn
   split at hn
   ·cases hn;exact (Classical.choose_spec (each i (by assumption))).2
   ·cases hn
  ·obtain ⟨i,rfl⟩:=List.mem_ofFn.1 hn;exact (Classical.choose_spec (each i i.2)).1
set_option maxRecDepth 100000 in
theorem item {H:Type} {enc:TypeId × Value→H} {w:World} {base fuel:Nat} {spare:Nat→Bool} {held:Bool} {cs:List Value} {x:DataW H × List MemPlace}
  (hf:DataW.trod enc Tryz.prog w base spare held fuel 39 cs=some x):∃y:Pl.It,cs=[.int .i64 y.m,y.t.val]∧zv7.OkT w y.t.a y.t.L:=by
 obtain ⟨xs,m,rfl, -,hlen,hxl,hfl⟩:=DataW.trod_struct Tryz.underlying39 hf;obtain ⟨c,d,rfl⟩:=two (hlen.trans cells2);obtain ⟨y,z,rfl⟩:=two hxl;have h0:=hfl 0 _ rfl;have h1:=hfl 1 _ rfl
 change DataW.trod enc Tryz.prog w base spare held m 2 (([c,d].drop 0).take (Tryz.prog.cellsOf 2))=some y at h0
 change DataW.trod enc Tryz.prog w base spare held m 37 (([c,d].drop 1).take (Tryz.prog.cellsOf 37))=some z at h1
 rw [zd7] at h0;rw [zv7.cells1] at h1;obtain ⟨t,e,ok⟩:=tree h1;obtain ⟨n,e0, -, -⟩:=DataW.trod_int Tryz.underlying2 h0;simp at e e0
 subst e e0;exact ⟨⟨n,t⟩,rfl,ok⟩
set_option maxRecDepth 100000 in
theorem items_arg {H:Type} {enc:TypeId × Value→H} {w:World} {base b0:Nat} {spare:Nat→Bool} {held:Bool} {r:Reach} {v:Value} {d:DataW H} {ps:List MemPlace}
  (hv:Value.okWide Tryz.prog w r b0 22 v) (h:DataW.Trod enc Tryz.prog w base spare held 22 v d ps):∃ (a:Option Addr) (Is:List Pl.It) (cap:Nat),v= .slice a Is.length cap∧OkI w a Is:=by
 obtain ⟨a',l',c',rfl⟩:=okWide_slice Tryz.underlying22 hv;obtain ⟨fuel,h0⟩:=h
 rcases DataW.trod_slice Tryz.underlying22 h0 with ⟨e, -⟩|⟨a,len,cap,elems,rest,k, -,e, -,hb,hl,hm,hel,hE, -, -⟩
 ·simp [Value.cells] at e
  obtain ⟨rfl,rfl,rfl⟩:=e;exact ⟨none,[],0,rfl,⟨Nat.zero_le _,Mem.yc8 _ _,fun n hn=>by cases hn⟩⟩
 ·simp [Value.cells] at e
  obtain ⟨rfl,rfl,rfl⟩:=e
  have each:∀i,i<l'→∃y:Pl.It,zv7.OkT w y.t.a y.t.L∧(∃b o,some a=some ⟨b,o,none⟩∧b<w.heap.size∧w.cell? ⟨b,o+i*2,none⟩=some (.int .i64 y.m)∧w.cell? ⟨b,o+i*2+1,none⟩=some y.t.val):=by
   intro i hi;have h1:=hE i hi;rw [List.getElem?_eq_getElem (by omega),cells2] at h1;simp only [Option.bind_eq_some_iff] at h1;obtain ⟨ds,h2,h3⟩:=h1;obtain ⟨y,rfl,ok⟩:=item h3;unfold World.cells? at h2
   split at h2
   rotate_left
   ·cases h2
   obtain ⟨g0,g1⟩:=mapM2 h2;obtain ⟨b,o,spot⟩:=a
   have hspot:spot=none:=by
    have h1:=hE 0 (by omega);rw [List.getElem?_eq_getElem (by omega),cells2] at h1;simp only [Option.bind_eq_some_iff] at h1;obtain ⟨ds,h2,h3⟩:=h1;obtain ⟨t,rfl,ok⟩:=item h3;unfold World.cells? at h2
    split at h2
    rotate_left
    ·cases h2
    simpa [Addr.add] using World.cell?_spot (mapM2 h2).1
   subst hspot;have add:∀j,((⟨b,o,none⟩:Addr).add (i*2)).add j=⟨b,o+i*2+j,none⟩:=fun j=>by rw [Mem.zq9,Mem.zq9]
   rw [add] at g0 g1;exact ⟨y,ok,b,o,rfl,World.block_lt_of_cell? w ⟨b,o+i*2+0,none⟩ g0,g0,g1⟩
  refine ⟨some a,List.ofFn (fun i:Fin l'=>Classical.choose (each i i.2)),c',by simp,⟨by simp;omega,fun i n hn=>?_,fun n hn=>?_⟩⟩
  ·rw [List.getElem?_ofFn] at hn
   split at hn
   ·cases hn
    have :=Classical.choose_spec (each i (by assumption));exact ⟨this.2,this.1.nodes⟩
   ·cases hn
  ·obtain ⟨i,rfl⟩:=List.mem_ofFn.1 hn;have :=Classical.choose_spec (each i i.2);exact ⟨this.1.len,this.1.ok⟩
end OpenI
end
end Go.Proofs.YthdhhcgopfgcbaaGreatDoor
