/- Several texts of one claim in one file: WWk6, WAux8, WVfsS1, WSpS1. -/
import Derived.Test.YtbomeifgfalmdaaGreatDoorWStS
set_option linter.unusedSimpArgs false
set_option maxRecDepth 100000
set_option maxHeartbeats 3000000
namespace Go.Proofs.YtbomeifgfalmdaaGreatDoor
section
open Go.RowKit
namespace zh8
theorem walk6_any (a:Option Addr) (cap:Nat) (Is:List Pl.It) (hl12:Is.length≤12) (hok:∀x∈Is,x.t.L.length≤1048576∧∀n∈x.t.L,n.path.size≤1048576∧n.data.size≤1048576) (L0:List Pl.Nd) (K:Pl.Fx) (p:ByteArray) (w:World) (hd:K.shape.depth≤3) (hx:(Pl.Fx.cons L0 K .nil).okX) (hfl:(Pl.Fx.cons L0 K .nil).flat=Is.map Pl.It.r) (hp:Pl.za0 p=true) (hz:¬p.size=0) (hv:Mem.zb4 w a Is) (R:Pl.Nd × Int) (hR:R=match Pl.zc9 L0 K p with |none=>(Pl.za3,6)|some n=>(n,0)):
  Calls Tryz.prog 20 #[.slice a Is.length cap, .string p] w fun e w'=>e= .returned (.agg #[.string R.1.path, .int .i64 R.1.kind, .string R.1.data, .int .i64 R.1.time, .int .i64 R.1.mark, .int .i64 R.2])∧Below w.heap.size w w':=by
 have HST:=hide (fun W (b:Below w.heap.size w W)=>state_any a cap Is hl12 hok 3 L0 K 0 p W hd hd hx ⟨[],by rw [hfl,List.drop_zero,List.append_nil]⟩ hp hz (Mem.zc0 hv b));simp only [Int.natCast_zero] at HST;have hsf:=Pl.st_fn (L:=L0) (k:=K) (q:=p) hx.2.2.1 hx.2.2.2.1 hp hz;have b0:Below w.heap.size w (w.alloc (.cells #[.string ⟨#[]⟩, .int .i64 0, .string ⟨#[]⟩, .int .i64 0, .int .i64 0, .int .i64 0] 57)):=bE0;have R0:=Mem.Blk.new w #[.string ⟨#[]⟩, .int .i64 0, .string ⟨#[]⟩, .int .i64 0, .int .i64 0, .int .i64 0] 57;generalize Pl.stO L0 K p=o at HST hsf;obtain ⟨ok,⟨np,nk,nd,nt,nm⟩,kz⟩:=o;clear hv hx hfl hok;have HRR:=hide hR;have HSF:=hide hsf;clear hR hsf;go_enter Tryz.func20,Tryz.ntmps20
 go_wp2_with fail
 refine (za HST _ b0).mono ?_;rintro e w1 ⟨v,rfl,hown,b1⟩;obtain ⟨va,vc,rfl⟩:=zs2 hown;simp only [za5];have bA:Below w1.heap.size w1 (w1.alloc (.cells #[.bool ok, .string np, .int .i64 nk, .string nd, .int .i64 nt, .int .i64 nm, .slice va kz.length vc] 100)):=bE0;have bw:=b0.trans ((b1.trans (bA.mono b1.size)).mono b0.size);have HR:Hid (Below w.heap.size w (w1.alloc (.cells #[.bool ok, .string np, .int .i64 nk, .string nd, .int .i64 nt, .int .i64 nm, .slice va kz.length vc] 100))∧Mem.Blk (w1.alloc (.cells #[.bool ok, .string np, .int .i64 nk, .string nd, .int .i64 nt, .int .i64 nm, .slice va kz.length vc] 100)) w.heap.size #[.string ⟨#[]⟩, .int .i64 0, .string ⟨#[]⟩, .int .i64 0, .int .i64 0, .int .i64 0] 57):=hide ⟨bw,(R0.call b1).call bA⟩
 have YB:=Mem.Blk.new w1 #[.bool ok, .string np, .int .i64 nk, .string nd, .int .i64 nt, .int .i64 nm, .slice va kz.length vc] 100;have hX:w.heap.size<w1.heap.size:=Nat.lt_of_lt_of_le R0.lt b1.size;clear HST b0 R0 hown b1 bA bw;go_upto_region 2 with fail
 generalize w1.alloc (.cells #[.bool ok, .string np, .int .i64 nk, .string nd, .int .i64 nt, .int .i64 nm, .slice va kz.length vc] 100)=w2 at HR YB ⊢;generalize w1.heap.size=X at YB hX ⊢;obtain ⟨⟨y0,y1,y2,y3,y4,y5⟩,fy0,fy1,fy2,fy3,fy4,fy5⟩:=jf6 YB;cases ok with
 |false=>
  have E:Hid (R=(⟨⟨#[]⟩,0,⟨#[]⟩,0,0⟩,6)):=hide (by rw [za HRR,Pl.yi6 (za HSF) (fun n h=>by cases h)];rfl);clear HRR HSF;have z0:=(za HR).2.cell 0;have fz0:=(za HR).2.fr 0;have z1:=(za HR).2.cell 1;have fz1:=(za HR).2.fr 1;have z2:=(za HR).2.cell 2;have fz2:=(za HR).2.fr 2;have z3:=(za HR).2.cell 3;have fz3:=(za HR).2.fr 3;have z4:=(za HR).2.cell 4;have fz4:=(za HR).2.fr 4;have z5:=(za HR).2.cell 5;have fz5:=(za HR).2.fr 5;simp only [kGs] at z0 z1 z2 z3 z4 z5;have RT:=hide (WWk.ret6 (za HR).1 (za HR).2 (⟨#[]⟩) (0) (⟨#[]⟩) (0) (0) (6));clear HR;go_wp2
  generalize ((((((w2.setCell ⟨w.heap.size,0,none⟩ (.string (⟨#[]⟩))).setCell ⟨w.heap.size,1,none⟩ (.int .i64 (0))).setCell ⟨w.heap.size,2,none⟩ (.string (⟨#[]⟩))).setCell ⟨w.heap.size,3,none⟩ (.int .i64 (0))).setCell ⟨w.heap.size,4,none⟩ (.int .i64 (0))).setCell ⟨w.heap.size,5,none⟩ (.int .i64 (6)))=WR at RT ⊢;have q0:=(za RT).1.cell 0;have q1:=(za RT).1.cell 1;have q2:=(za RT).1.cell 2;have q3:=(za RT).1.cell 3;have q4:=(za RT).1.cell 4;have q5:=(za RT).1.cell 5;simp only [kGs] at q0 q1 q2 q3 q4 q5;exact bodyPost_ret (v:= .agg #[.string (⟨#[]⟩), .int .i64 (0), .string (⟨#[]⟩), .int .i64 (0), .int .i64 (0), .int .i64 (6)]) (by simp [results,Tryz.results20,go_sem,q0,q1,q2,q3,q4,q5]) rfl ⟨by rw [za E],(za RT).2⟩
 |true=>
  by_cases hk0:nk=0
  ·subst hk0;have E:Hid (R=(⟨⟨#[]⟩,0,⟨#[]⟩,0,0⟩,6)):=hide (by rw [za HRR,Pl.yi6 (za HSF) (fun n h=>by cases h;rfl)];rfl);clear HRR HSF;have z0:=(za HR).2.cell 0;have fz0:=(za HR).2.fr 0;have z1:=(za HR).2.cell 1;have fz1:=(za HR).2.fr 1;have z2:=(za HR).2.cell 2;have fz2:=(za HR).2.fr 2;have z3:=(za HR).2.cell 3;have fz3:=(za HR).2.fr 3;have z4:=(za HR).2.cell 4;have fz4:=(za HR).2.fr 4;have z5:=(za HR).2.cell 5;have fz5:=(za HR).2.fr 5;simp only [kGs] at z0 z1 z2 z3 z4 z5;have RT:=hide (WWk.ret6 (za HR).1 (za HR).2 (⟨#[]⟩) (0) (⟨#[]⟩) (0) (0) (6));clear HR;go_wp2
   generalize ((((((w2.setCell ⟨w.heap.size,0,none⟩ (.string (⟨#[]⟩))).setCell ⟨w.heap.size,1,none⟩ (.int .i64 (0))).setCell ⟨w.heap.size,2,none⟩ (.string (⟨#[]⟩))).setCell ⟨w.heap.size,3,none⟩ (.int .i64 (0))).setCell ⟨w.heap.size,4,none⟩ (.int .i64 (0))).setCell ⟨w.heap.size,5,none⟩ (.int .i64 (6)))=WR at RT ⊢;have q0:=(za RT).1.cell 0;have q1:=(za RT).1.cell 1;have q2:=(za RT).1.cell 2;have q3:=(za RT).1.cell 3;have q4:=(za RT).1.cell 4;have q5:=(za RT).1.cell 5;simp only [kGs] at q0 q1 q2 q3 q4 q5;exact bodyPost_ret (v:= .agg #[.string (⟨#[]⟩), .int .i64 (0), .string (⟨#[]⟩), .int .i64 (0), .int .i64 (0), .int .i64 (6)]) (by simp [results,Tryz.results20,go_sem,q0,q1,q2,q3,q4,q5]) rfl ⟨by rw [za E],(za RT).2⟩
  ·have E:Hid (R=(⟨np,nk,nd,nt,0⟩,0)):=hide (by rw [za HRR,Pl.yc7 (za HSF) hk0];rfl);have ek0:(nk==0)=false:=by simpa using hk0
   clear HRR HSF;have YB2:=YB.put 5 (.int .i64 0);have HR2:Hid (Below w.heap.size w (w2.setCell ⟨X,5,none⟩ (.int .i64 0))∧Mem.Blk (w2.setCell ⟨X,5,none⟩ (.int .i64 0)) w.heap.size #[.string ⟨#[]⟩, .int .i64 0, .string ⟨#[]⟩, .int .i64 0, .int .i64 0, .int .i64 0] 57):=hide ⟨(za HR).1.setCell (by show w.heap.size≤X;omega) _,(za HR).2.far _ _ (by show w.heap.size≠X;omega)⟩;simp only [kB3,kB4,kB5] at YB2;clear HR;have HR:=HR2;clear HR2;go_upto_region 5 with fail
   clear y0 y1 y2 y3 y4 y5 fy0 fy1 fy2 fy3 fy4 fy5;generalize w2.setCell ⟨X,5,none⟩ (.int .i64 0)=w3 at HR YB2 ⊢;obtain ⟨⟨y0,y1,y2,y3,y4,y5⟩,fy0,fy1,fy2,fy3,fy4,fy5⟩:=jf6 YB2;have z0:=(za HR).2.cell 0;have fz0:=(za HR).2.fr 0;have z1:=(za HR).2.cell 1;have fz1:=(za HR).2.fr 1;have z2:=(za HR).2.cell 2;have fz2:=(za HR).2.fr 2;have z3:=(za HR).2.cell 3;have fz3:=(za HR).2.fr 3;have z4:=(za HR).2.cell 4;have fz4:=(za HR).2.fr 4;have z5:=(za HR).2.cell 5;have fz5:=(za HR).2.fr 5;simp only [kGs] at z0 z1 z2 z3 z4 z5;have RT:=hide (WWk.ret6 (za HR).1 (za HR).2 (np) (nk) (nd) (nt) (0) (0));clear HR;go_wp2
   generalize ((((((w3.setCell ⟨w.heap.size,0,none⟩ (.string (np))).setCell ⟨w.heap.size,1,none⟩ (.int .i64 (nk))).setCell ⟨w.heap.size,2,none⟩ (.string (nd))).setCell ⟨w.heap.size,3,none⟩ (.int .i64 (nt))).setCell ⟨w.heap.size,4,none⟩ (.int .i64 (0))).setCell ⟨w.heap.size,5,none⟩ (.int .i64 (0)))=WR at RT ⊢;have q0:=(za RT).1.cell 0;have q1:=(za RT).1.cell 1;have q2:=(za RT).1.cell 2;have q3:=(za RT).1.cell 3;have q4:=(za RT).1.cell 4;have q5:=(za RT).1.cell 5;simp only [kGs] at q0 q1 q2 q3 q4 q5;exact bodyPost_ret (v:= .agg #[.string (np), .int .i64 (nk), .string (nd), .int .i64 (nt), .int .i64 (0), .int .i64 (0)]) (by simp [results,Tryz.results20,go_sem,q0,q1,q2,q3,q4,q5]) rfl ⟨by rw [za E],(za RT).2⟩
end zh8
end
section
open Go.RowKit
namespace WSp
def walkN (o:Option Pl.Nd):Pl.Nd × Int:=match o with
 |none=>(Pl.za3,6)
 |some n=>(n,0)
theorem walk_at (x:Pl.Ns) (RT:ByteArray) (w:World) (hok:∀t∈x.Is,t.t.L.length≤1048576∧∀n∈t.t.L,n.path.size≤1048576∧n.data.size≤1048576) (hv:Mem.zb4 w x.a x.Is) (hnr:(Pl.nest (Pl.rowO (x.Is.map Pl.It.r))).isSome=true) (hp:Pl.za0 RT=true) (hz:¬RT.size=0) (R:Pl.Nd × Int) (hR:R=walkN (Pl.zk1 (x.Is.map Pl.It.r) RT)):
  Calls Tryz.prog 20 #[.slice x.a x.Is.length x.cap, .string RT] w fun e w'=>e= .returned (.agg #[.string R.1.path, .int .i64 R.1.kind, .string R.1.data, .int .i64 R.1.time, .int .i64 R.1.mark, .int .i64 R.2])∧Below w.heap.size w w':=by
 cases hF:Pl.nest (Pl.rowO (x.Is.map Pl.It.r)) with
 |none=>rw [hF] at hnr;cases hnr
 |some F=>
  obtain ⟨L,K,hks,hfl,hko,hnx⟩:=Pl.zr5 hF;have hy:=Pl.zt hF;have h12:x.Is.length≤12:=by have h:=hy.1;rw [Pl.zm9,List.length_map] at h;exact h
  exact zh8.walk6_any x.a x.cap x.Is h12 hok L K RT w (by rw [hks];exact hy.2.2) hko hfl hp hz hv R (by rw [hR];unfold Pl.zk1;rw [hnx];show walkN (Pl.zc9 L K RT)=_;cases Pl.zc9 L K RT <;> rfl)
theorem yh {w W:World} {a:Option Addr} {N:List Pl.Ns} (h:Mem.zh w a N) {k:Nat} {x:Pl.Ns} (hx:N[k]? =some x) (b:Below w.heap.size w W):Mem.zb4 W x.a x.Is:=Mem.zc0 (h k x hx).2 b
end WSp
end
section
open Go.RowKit
namespace WVfsS
open WVfs
theorem ill_any (c:Int) (w:World):Calls Tryz.prog 17 #[.int .i64 c] w fun e w'=>e= .returned (vill c)∧Below w.heap.size w w':=by
 have b0:Below w.heap.size w (w.alloc (.cells #[.slice none 0 0, .slice none 0 0, .slice none 0 0, .int .i64 0, .string ⟨#[]⟩, .slice none 0 0, .int .i64 0, .int .i64 0, .int .i64 0] 35)):=bE0;have U:=Mem.Blk.new w #[.slice none 0 0, .slice none 0 0, .slice none 0 0, .int .i64 0, .string ⟨#[]⟩, .slice none 0 0, .int .i64 0, .int .i64 0, .int .i64 0] 35;obtain ⟨⟨d0,d1,d2,d3,d4,d5,d6,d7,d8⟩,f0,f1,f2,f3,f4,f5,f6,f7,f8⟩:=jf9 U;unfold vill;go_enter Tryz.func17,Tryz.ntmps17
 go_upto_region 1 with fail
 clear U;generalize w.alloc (.cells #[.slice none 0 0, .slice none 0 0, .slice none 0 0, .int .i64 0, .string ⟨#[]⟩, .slice none 0 0, .int .i64 0, .int .i64 0, .int .i64 0] 35)=w1 at b0 d0 f0 d1 f1 d2 f2 d3 f3 d4 f4 d5 f5 d6 f6 d7 f7 d8 f8 ⊢;go_wp2
 refine bodyPost_ret (v:= .agg #[.slice none 0 0, .slice none 0 0, .slice none 0 0, .int .i64 0, .string ⟨#[]⟩, .slice none 0 0, .int .i64 0, .int .i64 0, .int .i64 c]) (by simp [results,Tryz.results17,go_sem,d0,d1,d2,d3,d4,d5,d6,d7,d8]) rfl ⟨rfl,?_⟩;refine Below.setCell (Below.setCell (Below.setCell (Below.setCell (Below.setCell (Below.setCell (Below.setCell (Below.setCell (Below.setCell b0 ?_ _) ?_ _) ?_ _) ?_ _) ?_ _) ?_ _) ?_ _) ?_ _) ?_ _ <;> exact Nat.le_refl _
end WVfsS
end
section
open Go.RowKit
namespace WSp
theorem inst_any (s:Pl.Sp) (d:Int) (w:World) (hl:s.N.length≤1048576) (hv:Mem.zh w s.ia s.N):
  Calls Tryz.prog 45 #[.agg s.cs, .int .i64 d] w fun e w'=>e= .returned (.int .i64 (Pl.zd3 (s.N.map (·.d)) d))∧Below w.heap.size w w':=by
 obtain ⟨ia,ic,N,ma,mc,M,ha,hc,H,next⟩:=s;simp only at *;unfold Pl.Sp.cs;have b0:=(Below.refl w.heap.size w).alloc (o:= .cells #[.slice ia N.length ic, .slice ma M.length mc, .slice ha H.length hc, .int .i64 next] 32) (Nat.le_refl _);have V0:=hide (Mem.Blk.new w #[.slice ia N.length ic, .slice ma M.length mc, .slice ha H.length hc, .int .i64 next] 32);have HI:=hide hv;have HAT:=hide (fun k h hn=>Pl.instI_at (l:=N.map (·.d)) (d:=d) (k:=k) h hn);have HNO:=hide (Pl.instI_no (l:=N.map (·.d)) (d:=d));generalize Pl.zd3 (N.map (·.d)) d=R at HAT HNO ⊢;clear hv;go_enter Tryz.func45,Tryz.ntmps45
 go_wp2
 go_loopw [5] (fun i wr=>∃k:Nat,k≤N.length∧i= .int .i64 (k:Int)∧Below w.heap.size w wr∧Hid (Mem.Blk wr w.heap.size #[.slice ia N.length ic, .slice ma M.length mc, .slice ha H.length hc, .int .i64 next] 32)∧Hid (∀j,j<k→(N.map (·.d))[j]?≠some d)) (fun i _=>N.length - (intOf i).toNat)
 case atStart=>exact ⟨0,Nat.zero_le _,rfl,b0,V0,fun j h=>absurd h (by omega)⟩
 case round=>
  obtain ⟨k,hk,rfl,hbel,V,HA⟩:=hrel;clear V0 b0;have a0:=(za V).cell 0;simp only [kGs] at a0;by_cases hlt:k<N.length
  ·obtain ⟨t,ht⟩:∃n,N[k]? =some n:=⟨_,List.getElem?_eq_getElem hlt⟩;obtain ⟨⟨g,o,rfl,hg,q0, -⟩, -⟩:=(za HI) k t ht;have c0:=(hbel.cell (p:=⟨g,_,none⟩) hg).trans q0;have hm:(N.map (·.d))[k]? =some t.d:=by rw [List.getElem?_map,ht];rfl
   have u1:(k:Int)<(N.length:Int):=by omega
   have u3:(0:Int)≤(k:Int):=by omega
   clear q0 ht;by_cases hd:t.d=d
   ·have hd1:(t.d==d)=true:=by simpa using hd
    have HR:Hid (R=(k:Int)):=hide (za HAT k (by rw [hm,hd]) (za HA));clear hm hd HAT HNO HA;go_wp2
    go_ret
    exact ⟨by rw [za HR];rfl,hbel⟩
   ·have hd1:(t.d==d)=false:=by simpa using hd
    have HA2:Hid (∀j,j<k+1→(N.map (·.d))[j]?≠some d):=fun j hj=>by
     rcases Nat.lt_succ_iff_lt_or_eq.1 hj with h|rfl
     ·exact za HA j h
     ·rw [hm];exact fun e=>hd (Option.some.inj e)
    clear hm;go_wp2
    go_roundw
    case rel=>exact ⟨k+1,by omega,by go_num,hbel,V,HA2⟩
    case measure=>simp [intOf];omega
  ·have u1:¬ (k:Int)<(N.length:Int):=by omega
   have HR:Hid (R= -1):=hide (za HNO (fun j=>by
    by_cases h:j<k
    ·exact za HA j h
    ·rw [List.getElem?_eq_none (by rw [List.length_map];omega)];exact fun e=>by cases e))
   clear HAT HNO HA;go_wp2
   go_ret
   exact ⟨by rw [za HR];rfl,hbel⟩
theorem zg9 (s:Pl.Sp) (d:Int) (w:World) (hml:s.M.length≤1048576) (hhl:s.H.length≤1048576) (hm:Mem.zc6 w s.ma s.M) (hh:Mem.ze2 w s.ha s.H):
  Calls Tryz.prog 102 #[.agg s.cs, .int .i64 d] w fun e w'=>e= .returned (.int .i64 (Pl.held s.M s.H d))∧Below w.heap.size w w':=by
 obtain ⟨ia,ic,N,ma,mc,M,ha,hc,H,next⟩:=s;simp only at *;unfold Pl.Sp.cs Pl.held;have b0:=(Below.refl w.heap.size w).alloc (o:= .cells #[.slice ia N.length ic, .slice ma M.length mc, .slice ha H.length hc, .int .i64 next] 32) (Nat.le_refl _);have V0:=hide (Mem.Blk.new w #[.slice ia N.length ic, .slice ma M.length mc, .slice ha H.length hc, .int .i64 next] 32);have HM:=hide hm;have HH:=hide hh;clear hm hh;go_enter Tryz.func102,Tryz.ntmps102
 go_wp2
 go_loopw [5,6] (fun n i wr=>∃k:Nat,k≤M.length∧i= .int .i64 (k:Int)∧n= .int .i64 (0+(Pl.cntM (M.take k) d:Int))∧Below w.heap.size w wr∧Hid (Mem.Blk wr w.heap.size #[.slice ia N.length ic, .slice ma M.length mc, .slice ha H.length hc, .int .i64 next] 32)) (fun _ i _=>M.length - (intOf i).toNat)
 case atStart=>exact ⟨0,Nat.zero_le _,rfl,by simp [Pl.cntM],b0,V0⟩
 case round=>
  obtain ⟨k,hk,rfl,rfl,hbel,V⟩:=hrel;clear V0 b0;have a1:=(za V).cell 1;simp only [kGs] at a1;have hle:=Pl.cntM_le (M.take k) d;have hle2:(M.take k).length≤M.length:=by rw [List.length_take];omega
  by_cases hlt:k<M.length
  ·obtain ⟨t,ht⟩:∃n,M[k]? =some n:=⟨_,List.getElem?_eq_getElem hlt⟩;obtain ⟨g,o,rfl,hg,q0,q1,q2⟩:=(za HM) k t ht;have c1:=(hbel.cell (p:=⟨g,_,none⟩) hg).trans q1;have HS:=hide (Pl.cntM_step ht d);have u1:(k:Int)<(M.length:Int):=by omega
   have u3:(0:Int)≤(k:Int):=by omega
   clear q0 q1 q2 ht;generalize hC:Pl.cntM (M.take k) d=C at HS hle ⊢;by_cases hd:t.i=d
   ·have hd1:(t.i==d)=true:=by simpa using hd
    have HS2:Hid (Pl.cntM (M.take (k+1)) d=C+1):=hide (by rw [za HS,if_pos hd]);clear hC HS hd;go_wp2
    go_roundw
    case rel=>exact ⟨k+1,by omega,by go_num,by rw [za HS2];go_num,hbel,V⟩
    case measure=>simp [intOf];omega
   ·have hd1:(t.i==d)=false:=by simpa using hd
    have HS2:Hid (Pl.cntM (M.take (k+1)) d=C):=hide (by rw [za HS,if_neg hd];rfl);clear hC HS;go_wp2
    go_roundw
    case rel=>exact ⟨k+1,by omega,by go_num,by rw [za HS2],hbel,V⟩
    case measure=>simp [intOf];omega
  ·have u1:¬ (k:Int)<(M.length:Int):=by omega
   have hke:k=M.length:=by omega
   subst hke;rw [List.take_length,Int.zero_add];clear hle hle2 hlt hk;have hML:=Pl.cntM_le M d;go_wp2
   go_loopw [5,7] (fun n i wr=>∃k:Nat,k≤H.length∧i= .int .i64 (k:Int)∧n= .int .i64 ((Pl.cntM M d:Int)+(Pl.cntH (H.take k) d:Int))∧Below w.heap.size w wr∧Hid (Mem.Blk wr w.heap.size #[.slice ia N.length ic, .slice ma M.length mc, .slice ha H.length hc, .int .i64 next] 32)) (fun _ i _=>H.length - (intOf i).toNat)
   case atStart=>exact ⟨0,Nat.zero_le _,rfl,by simp [Pl.cntH],hbel,V⟩
   case round=>
    obtain ⟨k,hk,rfl,rfl,hbel,V⟩:=hrel;have a1:=(za V).cell 2;simp only [kGs] at a1;have hle:=Pl.cntH_le (H.take k) d;have hle2:(H.take k).length≤H.length:=by rw [List.length_take];omega
    by_cases hlt:k<H.length
    ·obtain ⟨t,ht⟩:∃n,H[k]? =some n:=⟨_,List.getElem?_eq_getElem hlt⟩;obtain ⟨g,o,rfl,hg,q0,q1,q2⟩:=(za HH) k t ht;have c1:=(hbel.cell (p:=⟨g,_,none⟩) hg).trans q1;have HS:=hide (Pl.cntH_step ht d);have u1:(k:Int)<(H.length:Int):=by omega
     have u3:(0:Int)≤(k:Int):=by omega
     clear q0 q1 q2 ht;generalize hC:Pl.cntH (H.take k) d=C at HS hle ⊢;by_cases hd:t.i=d
     ·have hd1:(t.i==d)=true:=by simpa using hd
      have HS2:Hid (Pl.cntH (H.take (k+1)) d=C+1):=hide (by rw [za HS,if_pos hd]);clear hC HS hd;go_wp2
      go_roundw
      case rel=>exact ⟨k+1,by omega,by go_num,by rw [za HS2];go_num,hbel,V⟩
      case measure=>simp [intOf];omega
     ·have hd1:(t.i==d)=false:=by simpa using hd
      have HS2:Hid (Pl.cntH (H.take (k+1)) d=C):=hide (by rw [za HS,if_neg hd];rfl);clear hC HS;go_wp2
      go_roundw
      case rel=>exact ⟨k+1,by omega,by go_num,by rw [za HS2],hbel,V⟩
      case measure=>simp [intOf];omega
    ·have u1:¬ (k:Int)<(H.length:Int):=by omega
     have hke:k=H.length:=by omega
     subst hke;rw [List.take_length];go_wp2
     go_ret
     exact ⟨rfl,hbel⟩
end WSp
end
end Go.Proofs.YtbomeifgfalmdaaGreatDoor
