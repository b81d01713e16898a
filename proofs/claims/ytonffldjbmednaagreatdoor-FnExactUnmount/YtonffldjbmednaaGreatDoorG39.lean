/- Several texts of one claim in one file: WSpI23, WSpI24, WSpS1. -/
import Derived.Test.YtonffldjbmednaaGreatDoorG07
import Derived.Test.YtonffldjbmednaaGreatDoorG09
import Derived.Test.YtonffldjbmednaaGreatDoorG10
import Derived.Test.YtonffldjbmednaaGreatDoorG34
import Derived.Test.YtonffldjbmednaaGreatDoorPlainUnmount
import Derived.Test.YtonffldjbmednaaGreatDoorG29
import Derived.Test.YtonffldjbmednaaGreatDoorG31
import Derived.Test.YtonffldjbmednaaGreatDoorG37
import Derived.Test.YtonffldjbmednaaGreatDoorG00
import Derived.Test.YtonffldjbmednaaGreatDoorG02
import Derived.Test.YtonffldjbmednaaGreatDoorG06
import Derived.Test.YtonffldjbmednaaGreatDoorProg
import Derived.Outline
import Derived.Deep.QuietTactic
import Derived.BigQuiet
namespace Go.Proofs.YtonffldjbmednaaGreatDoor
section
set_option linter.unusedSimpArgs false
open Go.RowKit
namespace WSpI
set_option maxRecDepth 100000 in
set_option maxHeartbeats 800000 in
theorem used1_any (o m:Pl.Mn) (X:Nat) (w:World) (ho:o.p.size≤1048576) (hm:m.p.size≤1048576) (hX:Mem.Blk w X #[.string m.p, .int .i64 m.i, .bool m.z] 50):
  Calls Tryz.prog 80 #[.agg #[.string o.p, .int .i64 o.i, .bool o.z], .pointer (some ⟨X,0,none⟩)] w fun e w'=>e= .returned (.bool (Pl.neM o m&&(Pl.za2 o.p&&Pl.za2 m.p&&Pl.underR (Pl.zb7 o.p) (Pl.zb7 m.p))))∧Below w.heap.size w w':=by
 have b0:=(Below.refl w.heap.size w).alloc (o:= .cells #[.string o.p, .int .i64 o.i, .bool o.z] 50) (Nat.le_refl _);have V:=Mem.Blk.new w #[.string o.p, .int .i64 o.i, .bool o.z] 50;have Y:=hX.alloc (.cells #[.string o.p, .int .i64 o.i, .bool o.z] 50);have a0:=V.cell 0;have a1:=V.cell 1;have a2:=V.cell 2;have y0:=Y.cell 0;have y1:=Y.cell 1;have y2:=Y.cell 2;simp only [kGs] at a0 a1 a2 y0 y1 y2;have HU:=hide (fun W=>zt4.under_any o.p m.p W ho hm);generalize (Pl.za2 o.p&&Pl.za2 m.p&&Pl.underR (Pl.zb7 o.p) (Pl.zb7 m.p))=R at HU ⊢;clear V Y hX ho hm;obtain ⟨op,oi,oz⟩:=o;obtain ⟨mp,mi,mz⟩:=m;simp only at a0 a1 a2 y0 y1 y2 b0 HU ⊢;by_cases hi:oi=mi
 ·subst hi;by_cases hp:op=mp
  ·subst hp;by_cases hz:oz=mz
   ·subst hz;have e0:Pl.neM ⟨op,oi,oz⟩ ⟨op,oi,oz⟩=false:=by simp [Pl.neM]
    rw [e0];clear e0 HU;go_enter Tryz.func80,Tryz.ntmps80
    go_wp2
    go_ret
    exact ⟨rfl,b0⟩
   ·have hz1:(oz==mz)=false:=by simpa using hz
    have e0:Pl.neM ⟨op,oi,oz⟩ ⟨op,oi,mz⟩=true:=by simp [Pl.neM,hz]
    rw [e0];clear e0;go_enter Tryz.func80,Tryz.ntmps80
    go_wp2_with fail
    refine (za HU _).mono ?_;rintro e w1 ⟨rfl,bX⟩;have bb:=b0.trans (bX.mono b0.size);go_wp2
    go_ret
    exact ⟨rfl,bb⟩
  ·have hp1:=Pl.zr4 hp;have e0:Pl.neM ⟨op,oi,oz⟩ ⟨mp,oi,mz⟩=true:=by simp [Pl.neM,hp]
   rw [e0];clear e0;go_enter Tryz.func80,Tryz.ntmps80
   go_wp2_with fail
   refine (za HU _).mono ?_;rintro e w1 ⟨rfl,bX⟩;have bb:=b0.trans (bX.mono b0.size);go_wp2
   go_ret
   exact ⟨rfl,bb⟩
 ·have hi1:(oi==mi)=false:=by simpa using hi
  have e0:Pl.neM ⟨op,oi,oz⟩ ⟨mp,mi,mz⟩=true:=by simp [Pl.neM,hi]
  rw [e0];clear e0;go_enter Tryz.func80,Tryz.ntmps80
  go_wp2_with fail
  refine (za HU _).mono ?_;rintro e w1 ⟨rfl,bX⟩;have bb:=b0.trans (bX.mono b0.size);go_wp2
  go_ret
  exact ⟨rfl,bb⟩
theorem used_eq {M:List Pl.Mn} {H:List Pl.Hn} {m:Pl.Mn} (hm:Pl.za2 m.p=true) (hM:∀t∈M,Pl.za2 t.p=true):(decide (0<(Pl.cntH H m.i:Int))||M.any (fun o=>Pl.neM o m&&(Pl.za2 o.p&&Pl.za2 m.p&&Pl.underR (Pl.zb7 o.p) (Pl.zb7 m.p))))=Pl.busyI M H m:=by
 unfold Pl.busyI
 congr 1
 rw [Bool.eq_iff_iff,List.any_eq_true,List.any_eq_true]
 have key:∀o∈M,(Pl.neM o m&&(Pl.za2 o.p&&Pl.za2 m.p&&Pl.underR (Pl.zb7 o.p) (Pl.zb7 m.p)))=(Pl.neM o m&&Pl.under o.p m.p):=fun o ho=>by
  rw [hM o ho,hm,Pl.zh5 (hM o ho),Pl.zh5 hm];rfl
 exact ⟨fun ⟨o,h1,h2⟩=>⟨o,h1,by rw [←key o h1];exact h2⟩,fun ⟨o,h1,h2⟩=>⟨o,h1,by rw [key o h1];exact h2⟩⟩
set_option maxRecDepth 100000 in
set_option maxHeartbeats 1000000 in
theorem used_any (q:Nat) (ma:Option Addr) (mc:Nat) (M:List Pl.Mn) (ha:Option Addr) (hc:Nat) (H:List Pl.Hn) (next :Int) (m:Pl.Mn) (w:World) (hml:M.length≤1048576) (hhl:H.length≤1048576) (hm:Mem.zb2 w ma M) (hh:Mem.zb9 w ha H) (hmp:∀t∈M,t.p.size≤1048576) (hmz:m.p.size≤1048576) (hpm:Pl.za2 m.p=true) (hpM:∀t∈M,Pl.za2 t.p=true):
  Calls Tryz.prog 47 #[.agg #[.map (some q), .slice ma M.length mc, .slice ha H.length hc, .int .i64 next], .agg #[.string m.p, .int .i64 m.i, .bool m.z]] w fun e w'=>e= .returned (.bool (Pl.busyI M H m))∧Below w.heap.size w w':=by
 have hmf:∀ (fn:Fn) (first cap:Array Value) (w:World),(Instr.makeFunc fn first cap).run Tryz.prog w= .ok (.func fn first cap) w:=fun _ _ _ _=>rfl;have b0:Below w.heap.size w ((w.alloc (.cells #[.map (some q), .slice ma M.length mc, .slice ha H.length hc, .int .i64 next] 59)).alloc (.cells #[.string m.p, .int .i64 m.i, .bool m.z] 50)):=((Below.refl _ _).alloc (Nat.le_refl _) _).alloc (by simp) _;have V:=hide ((Mem.Blk.new w #[.map (some q), .slice ma M.length mc, .slice ha H.length hc, .int .i64 next] 59).alloc (.cells #[.string m.p, .int .i64 m.i, .bool m.z] 50))
 have X:Hid (Mem.Blk ((w.alloc (.cells #[.map (some q), .slice ma M.length mc, .slice ha H.length hc, .int .i64 next] 59)).alloc (.cells #[.string m.p, .int .i64 m.i, .bool m.z] 50)) (w.heap.size+1) #[.string m.p, .int .i64 m.i, .bool m.z] 50):=hide (Mem.zl8 _ _ _);have hop:=hide (fun W (b:Below w.heap.size w W)=>opened_any q ma mc M ha hc H next m.i W hhl (Mem.zc6 hh b))
 have hcon:=hide (fun W (b:Below ((w.alloc (.cells #[.map (some q), .slice ma M.length mc, .slice ha H.length hc, .int .i64 next] 59)).alloc (.cells #[.string m.p, .int .i64 m.i, .bool m.z] 50)).heap.size ((w.alloc (.cells #[.map (some q), .slice ma M.length mc, .slice ha H.length hc, .int .i64 next] 59)).alloc (.cells #[.string m.p, .int .i64 m.i, .bool m.z] 50)) W)=>contains_any 80 (.pointer (some ⟨w.heap.size+1,0,none⟩)) (fun o=>Pl.neM o m&&(Pl.za2 o.p&&Pl.za2 m.p&&Pl.underR (Pl.zb7 o.p) (Pl.zb7 m.p))) ma mc M W hml (Mem.zc7 hm (b0.trans (b.mono b0.size))) (fun t W=>by kernel_rfl) (fun t ht W' b'=>used1_any t m (w.heap.size+1) W' (hmp t ht) hmz (((za X).call b).call b')));have HE:=hide (used_eq (H:=H) hpm hpM);rw [←za HE]
 generalize M.any (fun o=>Pl.neM o m&&(Pl.za2 o.p&&Pl.za2 m.p&&Pl.underR (Pl.zb7 o.p) (Pl.zb7 m.p)))=R at hcon ⊢;have hcnt:(0:Int)≤(Pl.cntH H m.i:Int):=by omega
 generalize (Pl.cntH H m.i:Int)=C at hop hcnt ⊢;have a0:=(za V).cell 0;have a1:=(za V).cell 1;have a2:=(za V).cell 2;have a3:=(za V).cell 3;have x1:=(za X).cell 1;simp only [kGs] at a0 a1 a2 a3 x1;clear hm hh hmp hmz hpm hpM HE;by_cases hC:0<C
 ·have hd:decide (0<C)=true:=decide_eq_true hC;rw [hd];clear hcon;go_enter Tryz.func47,Tryz.ntmps47
  go_wp2_with fail
  refine (za hop _ b0).mono ?_;rintro e w1 ⟨rfl,bX⟩;have bb:=b0.trans (bX.mono b0.size);clear bX hop a0 a1 a2 a3 x1;go_wp2
  go_ret
  exact ⟨rfl,bb⟩
 ·have hd:decide (0<C)=false:=decide_eq_false hC;rw [hd];go_enter Tryz.func47,Tryz.ntmps47
  go_wp2_with fail
  refine (za hop _ b0).mono ?_;rintro e w1 ⟨rfl,bX⟩;have bb:=b0.trans (bX.mono b0.size);have HC:=hide (za hcon _ bX);have y1:=((za V).call bX).cell 1;simp only [kGs] at y1;clear bX hop hcon a0 a1 a2 a3 x1 V X b0;go_wp2_with fail
  refine (za HC).mono ?_;rintro e w2 ⟨rfl,bX⟩;have b2:=bb.trans (bX.mono bb.size);go_wp2
  go_ret
  exact ⟨rfl,b2⟩
end WSpI
end
section
open Go.RowKit Go.Maps
namespace WSpI
set_option linter.unusedSimpArgs false in
set_option maxRecDepth 100000 in
set_option maxHeartbeats 4000000 in
theorem unmountP_any (s:Pl.Sp) (p:ByteArray) (w:World) (hp:p.size≤1048576) (hok:zb.OkS s 1048576) (hn:OkN s) (ha:OkA s) (hv:Mem.zc3 w s)
  (hV:∀ (r:Nat) t,codes[r]? =some t→w.cell? ⟨0,r,none⟩=some (.int .i64 t))
  (r0 r1 r2 r3:TypeId) (x0 x1 x2 x3:Value) (hE:zl4.Errs4 w r0 r1 r2 r3 x0 x1 x2 x3) (A:Pl.Ao) (hA:Pl.unmountA s p (Pl.ze9 s.next (s.N.map WSp.nr) s.M s.H Pl.wayB)=A):
  Calls Tryz.prog 17 #[.agg s.cs, .string p] w fun e w'=>(∃u S1 S2 S3 HH lo hi,e= .returned (.agg (WSpO.so u A.d A.p A.c))∧WSpO.An w' u S1 S2 S3 HH lo hi∧w.heap.size≤S1∧Pl.Fits u A)∧Below w.heap.size w w':=by
 generalize hlm:Pl.leadI (Pl.uR p) s.M s.M.length=m;have HX:=hide (fun W (b:Below w.heap.size w W)=>mount_any s p W hp hok hn ha (hv.call b) m hlm r0 r1 r2 r3 x0 x1 x2 x3 (hE.call b));have HRF:=hide (fun i c W (hc:codes[i]? =some c) (b:Below w.heap.size w W)=>refused_any i c W hc (zq0 hV b))
 have HST:Hid (Pl.whyD p (Pl.ze9 s.next (s.N.map WSp.nr) s.M s.H Pl.wayB) s.M=0→Pl.ze9 s.next (s.N.map WSp.nr) s.M s.H Pl.wayB=true∧Pl.za2 p=true∧m.p=p∧m∈s.M):=hide (fun h=>by
  rcases Pl.whyD_cases p (Pl.ze9 s.next (s.N.map WSp.nr) s.M s.H Pl.wayB) s.M with ⟨_,h1,h2,h3,h4⟩|h1|h1|h1
  ·have h5:=(Pl.rest_on h1 p h2).2;have h6:=(Pl.lead_of h1 p h2).2.1;rw [hlm] at h5 h6;exact ⟨h1,h2,h5.2 h4,h6⟩
  all_goals (rw [h1] at h;exact absurd h (by decide)))
 have HSM:=hide (fun (h:Pl.ze9 s.next (s.N.map WSp.nr) s.M s.H Pl.wayB=true)=>Pl.zs8 h);have HLD:=hide (fun (h:Pl.ze9 s.next (s.N.map WSp.nr) s.M s.H Pl.wayB=true)=>(Pl.space_lead h).2.1);have HBP:=hide (fun (h:Pl.ze9 s.next (s.N.map WSp.nr) s.M s.H Pl.wayB=true) (hm:m∈s.M)=>Pl.busyP_is h hm);generalize HQ:Pl.ze9 s.next (s.N.map WSp.nr) s.M s.H Pl.wayB=RB at HX HST HSM HLD hA
 have HUS:=hide (fun (h:Pl.whyD p RB s.M=0) V q E sa ta sc tc B W (hG:SpO.SpV B V s q E sa sc ta tc) (b:Below V.heap.size V W)=>by
  obtain ⟨h1,h2,h3,h4⟩:=za HST h;obtain ⟨k1,k2,k3, -⟩:=za HSM h1
  exact used_any q sa sc s.M ta tc s.H s.next m W (by omega) (by omega) (hG.call b).zh (hG.call b).hands hok.mp (by rw [h3];exact hp) (by rw [h3];exact h2) (za HLD h1))
 have HBE:=hide (fun (h:Pl.whyD p RB s.M=0)=>by
  obtain ⟨h1,h2,h3,h4⟩:=za HST h;have h5:=za HBP (HQ.trans h1) h4;rw [h3] at h5
  exact (h5:Pl.busyP s p=Pl.busyI s.M s.H m))
 clear HBP;have hmp:=hok.mp;have hhp:=hok.hp
 have HUN:=hide (fun (h:Pl.whyD p RB s.M=0) V q E sa ta sc tc B X W hG b hX hB=>by
  obtain ⟨h1,h2,h3,h4⟩:=za HST h;obtain ⟨k1,k2,k3,k4,k5,k6, -⟩:=za HSM h1
  exact detach_told s m ⟨k1,k2,k3,fun x hx=>(k4 x hx).1,k5,fun d hd=>by have :=k6 d hd;unfold MapI.i64;omega⟩ hmp hhp (by rw [h3];exact h2) (za HLD h1) (by rw [h3];exact hp) V q E sa ta sc tc B X W hG b hX hB)
 have HMP:=hide (fun (h:Pl.whyD p RB s.M=0)=>(za HST h).2.2.1);have HCS:=hide (Pl.whyD_cases p RB s.M);clear hok hn ha hv hE hV hlm HQ HST HSM HLD hmp hhp hp;obtain ⟨ia,ic,N,ma,mc,M,ha,hc,H,next⟩:=s;simp only at HX HUN HMP HCS hA HUS HBE ⊢;unfold Pl.Sp.cs Mounted at HX;unfold Pl.Sp.cs;simp only at HX ⊢;have HAG:Hid (Pl.whyD p RB M=0→Pl.busyI M H m=false→A=⟨Pl.keepN (N.map Pl.Ns.r) (Pl.delM M m.p) H,Pl.delM M m.p,H,next,0,⟨#[]⟩,0⟩):=hide (fun h hb=>by rw [←hA,za HMP h];unfold Pl.unmountA;rw [if_pos h,if_neg (by rw [za HBE h];rw [hb];decide)]);have HA7:Hid (Pl.whyD p RB M=0→Pl.busyI M H m=true→A=Pl.Ao.ill 13):=hide (fun h hb=>by rw [←hA];unfold Pl.unmountA;rw [if_pos h,if_pos (by rw [za HBE h];exact hb)]);have HAB:Hid (Pl.whyD p RB M≠0→A=Pl.Ao.ill (Pl.codeW (Pl.whyD p RB M))):=hide (fun h=>by rw [←hA];unfold Pl.unmountA;rw [if_neg h]);clear hA HBE
 generalize Pl.whyD p RB M=WD at HX HUN HMP HCS HAG HAB HUS HA7;have b0:Below w.heap.size w ((w.alloc (.cells #[.slice ia N.length ic, .slice ma M.length mc, .slice ha H.length hc, .int .i64 next] 32)).alloc (.cells #[Value.slice none 0 0,Value.slice none 0 0,Value.slice none 0 0,Value.int .i64 0,Value.int .i64 0,Value.string ⟨#[]⟩,Value.int .i64 0] 34)):=((Below.refl _ _).alloc (Nat.le_refl _) _).alloc (by simp) _;have V0:=hide ((Mem.Blk.new w #[.slice ia N.length ic, .slice ma M.length mc, .slice ha H.length hc, .int .i64 next] 32).alloc (.cells #[Value.slice none 0 0,Value.slice none 0 0,Value.slice none 0 0,Value.int .i64 0,Value.int .i64 0,Value.string ⟨#[]⟩,Value.int .i64 0] 34))
 have U0:=hide (Mem.Blk.new (w.alloc (.cells #[.slice ia N.length ic, .slice ma M.length mc, .slice ha H.length hc, .int .i64 next] 32)) #[Value.slice none 0 0,Value.slice none 0 0,Value.slice none 0 0,Value.int .i64 0,Value.int .i64 0,Value.string ⟨#[]⟩,Value.int .i64 0] 34);have hsz:((w.alloc (.cells #[.slice ia N.length ic, .slice ma M.length mc, .slice ha H.length hc, .int .i64 next] 32)).alloc (.cells #[Value.slice none 0 0,Value.slice none 0 0,Value.slice none 0 0,Value.int .i64 0,Value.int .i64 0,Value.string ⟨#[]⟩,Value.int .i64 0] 34)).heap.size=w.heap.size+2:=by simp
 rw [show (w.alloc (.cells #[.slice ia N.length ic, .slice ma M.length mc, .slice ha H.length hc, .int .i64 next] 32)).heap.size=w.heap.size+1 by simp] at U0;have a0:=(za V0).cell 0;have a1:=(za V0).cell 1;have a2:=(za V0).cell 2;have a3:=(za V0).cell 3;simp only [kGs] at a0 a1 a2 a3;go_enter Tryz.func17,Tryz.ntmps17
 go_wp2_with fail
 generalize (w.alloc (.cells #[.slice ia N.length ic, .slice ma M.length mc, .slice ha H.length hc, .int .i64 next] 32)).alloc (.cells #[Value.slice none 0 0,Value.slice none 0 0,Value.slice none 0 0,Value.int .i64 0,Value.int .i64 0,Value.string ⟨#[]⟩,Value.int .i64 0] 34)=wA at b0 V0 U0 a0 a1 a2 a3 hsz ⊢;refine (za HX _ b0).mono ?_;rintro e w1 ⟨hS,bX⟩;have b1:=b0.trans (bX.mono b0.size);have U1:=hide ((za U0).call bX);have hA1:=bX.size;clear HX bX V0 a0 a1 a2 a3 b0 U0
 rcases hS with ⟨hW,q,E,sa,sc,ta,tc,rfl,HS⟩|⟨hW,q,sa,sl,sc,ta,tl,tc,n,P,i,z,rfl⟩
 ·have HT:=hide (za HUN hW);have HS1:=hide (fun X W=>za HT w1 q E sa ta sc tc _ X W HS);have HMPE:=hide (za HMP hW);have HAG2:=hide (za HAG hW);have HA72:=hide (za HA7 hW);have HU:=hide (fun W b=>za HUS hW w1 q E sa ta sc tc _ W HS b);clear HAG HAB HUN HMP HCS hW HT HS HUS HA7;have b2:Below w1.heap.size w1 ((w1.alloc (.cells #[Value.map (some q),Value.slice sa M.length sc,Value.slice ta H.length tc,Value.int .i64 next] 59)).alloc (.cells #[Value.string m.p,Value.int .i64 m.i,Value.bool m.z] 50)):=((Below.refl _ _).alloc (Nat.le_refl _) _).alloc (by simp) _;have U2:=hide ((za U1).call b2);have X2:=hide ((Mem.Blk.new w1 #[Value.map (some q),Value.slice sa M.length sc,Value.slice ta H.length tc,Value.int .i64 next] 59).alloc (.cells #[Value.string m.p,Value.int .i64 m.i,Value.bool m.z] 50))
  have Y2:Hid (Mem.Blk ((w1.alloc (.cells #[Value.map (some q),Value.slice sa M.length sc,Value.slice ta H.length tc,Value.int .i64 next] 59)).alloc (.cells #[Value.string m.p,Value.int .i64 m.i,Value.bool m.z] 50)) (w1.heap.size+1) #[Value.string m.p,Value.int .i64 m.i,Value.bool m.z] 50):=hide (Mem.zl8 w1 _ _);have bw2:=b1.trans (b2.mono b1.size);have x0:=(za X2).cell 0;have x1:=(za X2).cell 1;have x2:=(za X2).cell 2;have x3:=(za X2).cell 3;simp only [kGs] at x0 x1 x2 x3;have y0:=(za Y2).cell 0;have y1:=(za Y2).cell 1;have y2:=(za Y2).cell 2;simp only [kGs] at y0 y1 y2;have bv4:=b2;clear U1 b1;go_wp2_with fail
  generalize (w1.alloc (.cells #[Value.map (some q),Value.slice sa M.length sc,Value.slice ta H.length tc,Value.int .i64 next] 59)).alloc (.cells #[Value.string m.p,Value.int .i64 m.i,Value.bool m.z] 50)=w3 at bv4 U2 X2 Y2 bw2 b2 x0 x1 x2 x3 y0 y1 y2 ⊢;refine (za HU _ bv4).mono ?_;rintro e w4 ⟨rfl,bX⟩;have U4:=hide ((za U2).call bX);have X4:=hide ((za X2).call bX);have Y4:=hide ((za Y2).call bX);have bw4:=bw2.trans (bX.mono bw2.size);replace bv4:=bv4.trans (bX.mono bv4.size);clear U2 X2 bw2 b2 Y2 x0 x1 x2 x3 y0 y1 y2 HU bX;generalize Pl.busyI M H m=BU at HAG2 HA72 ⊢;cases BU
  ·have HA:=hide (za HAG2 rfl);clear HAG2 HA72 HRF;have y0:=(za Y4).cell 0;have y1:=(za Y4).cell 1;have y2:=(za Y4).cell 2;simp only [kGs] at y0 y1 y2;go_wp2_with fail
   clear Y4 y0 y1 y2;refine (za HS1 _ _ bv4 (Nat.le_refl _) (za X4)).mono ?_;rintro e w5 ⟨rfl,sa',sc',X5,HTO,O5⟩;have X5:=hide X5;have hU4:=(za U4).lt;have U5:=hide (O5.blk (za U4) (by omega) (.inl (by omega)));have b5:=bw4.trans ((O5.below hA1 (by have :=bw4.size;have :=bv4.size;omega)).mono (by omega));clear HS1 U4 X4 bv4 bw4 O5;have x0:=(za X5).cell 0;have x1:=(za X5).cell 1;have x2:=(za X5).cell 2;have x3:=(za X5).cell 3;simp only [kGs] at x0 x1 x2 x3;go_wp2_with fail
   refine (za HTO _ (Below.refl _ _)).mono ?_;rintro e wX ⟨⟨u,T1,T2,T3,lo,hi,rfl,HTD⟩,bX⟩;have HFT:=hide (⟨HTD.n,HTD.m,HTD.h,HTD.x⟩:_∧_∧_∧_);have hS1:w.heap.size+1<min T1 wX.heap.size:=by have :=HTD.s1;have :=bX.size;have :=(za U5).lt;omega
   have HAN:=hide (WSpO.An.ofT HTD);clear HTD;have bF:=hide (b5.trans (bX.mono b5.size));have UF:=hide ((za U5).call bX);clear bX;generalize min T1 wX.heap.size=S1 at HAN hS1;generalize min T2 wX.heap.size=S2 at HAN;generalize min T3 wX.heap.size=S3 at HAN;generalize hHH:wX.heap.size=HH at HAN;clear hHH;obtain ⟨ui,uc,uN,um,umc,uM,uh,uhc,uH,ux⟩:=u;unfold Pl.Sp.cs;simp only at HAN HFT ⊢;have d0:=(za UF).cell 0;have fd0:=(za UF).fr 0;have d1:=(za UF).cell 1;have fd1:=(za UF).fr 1;have d2:=(za UF).cell 2;have fd2:=(za UF).fr 2;have d3:=(za UF).cell 3;have fd3:=(za UF).fr 3;have d4:=(za UF).cell 4;have fd4:=(za UF).fr 4;have d5:=(za UF).cell 5;have fd5:=(za UF).fr 5;have d6:=(za UF).cell 6;have fd6:=(za UF).fr 6;simp only [kGs] at d0 d1 d2 d3 d4 d5 d6;go_wp2
   refine bodyPost_ret (v:= .agg #[Value.slice ui uN.length uc,Value.slice um uM.length umc,Value.slice uh uH.length uhc,Value.int .i64 ux,Value.int .i64 0,Value.string ⟨#[]⟩,Value.int .i64 0]) (by simp [results,Tryz.results17,go_sem,d0,d1,d2,d3,d4,d5,d6]) rfl ⟨⟨_,S1,S2,S3,HH,lo,hi,by rw [za HA];rfl,((((((((za HAN).far (Y:=w.heap.size+1) 0 (Value.slice ui uN.length uc) (by omega)).far (Y:=w.heap.size+1) 1 (Value.slice um uM.length umc) (by omega)).far (Y:=w.heap.size+1) 2 (Value.slice uh uH.length uhc) (by omega)).far (Y:=w.heap.size+1) 3 (Value.int .i64 ux) (by omega)).far (Y:=w.heap.size+1) 4 (Value.int .i64 0) (by omega)).far (Y:=w.heap.size+1) 5 (Value.string ⟨#[]⟩) (by omega)).far (Y:=w.heap.size+1) 6 (Value.int .i64 0) (by omega)),by omega,by rw [za HA];exact ⟨(za HFT).1.trans (keep_map N (Pl.delM M m.p) H),(za HFT).2.1,(za HFT).2.2.1,(za HFT).2.2.2⟩⟩,?_⟩
   exact ((((((((za bF).setCell (p:=⟨w.heap.size+1,0,none⟩) (by show w.heap.size≤w.heap.size+1;omega) (Value.slice ui uN.length uc)).setCell (p:=⟨w.heap.size+1,1,none⟩) (by show w.heap.size≤w.heap.size+1;omega) (Value.slice um uM.length umc)).setCell (p:=⟨w.heap.size+1,2,none⟩) (by show w.heap.size≤w.heap.size+1;omega) (Value.slice uh uH.length uhc)).setCell (p:=⟨w.heap.size+1,3,none⟩) (by show w.heap.size≤w.heap.size+1;omega) (Value.int .i64 ux)).setCell (p:=⟨w.heap.size+1,4,none⟩) (by show w.heap.size≤w.heap.size+1;omega) (Value.int .i64 0)).setCell (p:=⟨w.heap.size+1,5,none⟩) (by show w.heap.size≤w.heap.size+1;omega) (Value.string ⟨#[]⟩)).setCell (p:=⟨w.heap.size+1,6,none⟩) (by show w.heap.size≤w.heap.size+1;omega) (Value.int .i64 0))
  ·have HA:=hide (za HA72 rfl);have HC:=hide (fun W b=>za HRF 7 13 W rfl b);clear HAG2 HA72 HRF HS1 X4 Y4 bv4;go_wp2_with fail
   refine (za HC _ bw4).mono ?_;rintro e wR ⟨rfl,bX⟩;have bR:=bw4.trans (bX.mono bw4.size);have UR:=hide ((za U4).call bX);clear bX;have d0:=(za UR).cell 0;have fd0:=(za UR).fr 0;have d1:=(za UR).cell 1;have fd1:=(za UR).fr 1;have d2:=(za UR).cell 2;have fd2:=(za UR).fr 2;have d3:=(za UR).cell 3;have fd3:=(za UR).fr 3;have d4:=(za UR).cell 4;have fd4:=(za UR).fr 4;have d5:=(za UR).cell 5;have fd5:=(za UR).fr 5;have d6:=(za UR).cell 6;have fd6:=(za UR).fr 6;simp only [kGs] at d0 d1 d2 d3 d4 d5 d6;go_wp2
   refine bodyPost_ret (v:= .agg #[Value.slice none 0 0,Value.slice none 0 0,Value.slice none 0 0,Value.int .i64 0,Value.int .i64 0,Value.string ⟨#[]⟩,Value.int .i64 13]) (by simp [results,Tryz.results17,go_sem,d0,d1,d2,d3,d4,d5,d6]) rfl ⟨⟨⟨none,0,[],none,0,[],none,0,[],0⟩,_,_,_,_,_,_,by rw [za HA];rfl,WSpO.An.nil _ w.heap.size ?_,Nat.le_refl _,by rw [za HA];exact Pl.Fits.nil _⟩,?_⟩
   ·simp only [World.size_setCell];exact bR.size
   ·exact (((((((bR.setCell (p:=⟨w.heap.size+1,0,none⟩) (by show w.heap.size≤w.heap.size+1;omega) (Value.slice none 0 0)).setCell (p:=⟨w.heap.size+1,1,none⟩) (by show w.heap.size≤w.heap.size+1;omega) (Value.slice none 0 0)).setCell (p:=⟨w.heap.size+1,2,none⟩) (by show w.heap.size≤w.heap.size+1;omega) (Value.slice none 0 0)).setCell (p:=⟨w.heap.size+1,3,none⟩) (by show w.heap.size≤w.heap.size+1;omega) (Value.int .i64 0)).setCell (p:=⟨w.heap.size+1,4,none⟩) (by show w.heap.size≤w.heap.size+1;omega) (Value.int .i64 0)).setCell (p:=⟨w.heap.size+1,5,none⟩) (by show w.heap.size≤w.heap.size+1;omega) (Value.string ⟨#[]⟩)).setCell (p:=⟨w.heap.size+1,6,none⟩) (by show w.heap.size≤w.heap.size+1;omega) (Value.int .i64 13))
 ·clear HUS HA7
  have HB:Hid (∃ (i:Nat) (c:Int),WD=(i:Int)∧i≠0∧codes[i]? =some c∧A=Pl.Ao.ill c):=hide (by
   rcases za HCS with ⟨h,_⟩|h|h|h
   ·exact absurd h hW
   ·exact ⟨1,2,h,by decide,rfl,by rw [za HAB hW,h];rfl⟩
   ·exact ⟨2,1,h,by decide,rfl,by rw [za HAB hW,h];rfl⟩
   ·exact ⟨4,6,h,by decide,rfl,by rw [za HAB hW,h];rfl⟩)
  clear HCS HAB HAG HUN HMP;obtain ⟨r,c,hr,hr0,hrc,hrA⟩:=za HB;subst hr;have HA:=hide hrA;have HC:=hide (fun W b=>za HRF r c W hrc b);clear HB hrA hrc HRF hW;have z1:((r:Int)==0)=false:=by rw [beq_eq_false_iff_ne];omega
  have z2:decide ((r:Int)=0)=false:=by rw [decide_eq_false_iff_not];omega
  have b2:Below w1.heap.size w1 ((w1.alloc (.cells #[.map q, .slice sa sl sc, .slice ta tl tc, .int .i64 n] 59)).alloc (.cells #[.string P, .int .i64 i, .bool z] 50)):=((Below.refl _ _).alloc (Nat.le_refl _) _).alloc (by simp) _;have U2:=hide ((za U1).call b2);have b3:=b1.trans (b2.mono b1.size);clear U1 b1 b2;go_wp2_with fail
  generalize (w1.alloc (.cells #[.map q, .slice sa sl sc, .slice ta tl tc, .int .i64 n] 59)).alloc (.cells #[.string P, .int .i64 i, .bool z] 50)=w2 at U2 b3 ⊢;refine (za HC _ b3).mono ?_;rintro e wR ⟨rfl,bX⟩;have bR:=b3.trans (bX.mono b3.size);have UR:=hide ((za U2).call bX);clear bX;have d0:=(za UR).cell 0;have fd0:=(za UR).fr 0;have d1:=(za UR).cell 1;have fd1:=(za UR).fr 1;have d2:=(za UR).cell 2;have fd2:=(za UR).fr 2;have d3:=(za UR).cell 3;have fd3:=(za UR).fr 3;have d4:=(za UR).cell 4;have fd4:=(za UR).fr 4;have d5:=(za UR).cell 5;have fd5:=(za UR).fr 5;have d6:=(za UR).cell 6;have fd6:=(za UR).fr 6;simp only [kGs] at d0 d1 d2 d3 d4 d5 d6;go_wp2
  refine bodyPost_ret (v:= .agg #[Value.slice none 0 0,Value.slice none 0 0,Value.slice none 0 0,Value.int .i64 0,Value.int .i64 0,Value.string ⟨#[]⟩,Value.int .i64 c]) (by simp [results,Tryz.results17,go_sem,d0,d1,d2,d3,d4,d5,d6]) rfl ⟨⟨⟨none,0,[],none,0,[],none,0,[],0⟩,_,_,_,_,_,_,by rw [za HA];rfl,WSpO.An.nil _ w.heap.size ?_,Nat.le_refl _,by rw [za HA];exact Pl.Fits.nil _⟩,?_⟩
  ·simp only [World.size_setCell];exact bR.size
  ·exact (((((((bR.setCell (p:=⟨w.heap.size+1,0,none⟩) (by show w.heap.size≤w.heap.size+1;omega) (Value.slice none 0 0)).setCell (p:=⟨w.heap.size+1,1,none⟩) (by show w.heap.size≤w.heap.size+1;omega) (Value.slice none 0 0)).setCell (p:=⟨w.heap.size+1,2,none⟩) (by show w.heap.size≤w.heap.size+1;omega) (Value.slice none 0 0)).setCell (p:=⟨w.heap.size+1,3,none⟩) (by show w.heap.size≤w.heap.size+1;omega) (Value.int .i64 0)).setCell (p:=⟨w.heap.size+1,4,none⟩) (by show w.heap.size≤w.heap.size+1;omega) (Value.int .i64 0)).setCell (p:=⟨w.heap.size+1,5,none⟩) (by show w.heap.size≤w.heap.size+1;omega) (Value.string ⟨#[]⟩)).setCell (p:=⟨w.heap.size+1,6,none⟩) (by show w.heap.size≤w.heap.size+1;omega) (Value.int .i64 c))
end WSpI
end
section
set_option linter.unusedSimpArgs false
open Go.RowKit
namespace WSp
set_option maxRecDepth 100000 in
set_option maxHeartbeats 800000 in
theorem inst_any (s:Pl.Sp) (d:Int) (w:World) (hl:s.N.length≤1048576) (hv:Mem.ze4 w s.ia s.N):
  Calls Tryz.prog 119 #[.agg s.cs, .int .i64 d] w fun e w'=>e= .returned (.int .i64 (Pl.ze6 (s.N.map (·.d)) d))∧Below w.heap.size w w':=by
 obtain ⟨ia,ic,N,ma,mc,M,ha,hc,H,next⟩:=s;simp only at *;unfold Pl.Sp.cs;have b0:=(Below.refl w.heap.size w).alloc (o:= .cells #[.slice ia N.length ic, .slice ma M.length mc, .slice ha H.length hc, .int .i64 next] 32) (Nat.le_refl _);have V0:=hide (Mem.Blk.new w #[.slice ia N.length ic, .slice ma M.length mc, .slice ha H.length hc, .int .i64 next] 32);have HI:=hide hv;have HAT:=hide (fun k h hn=>Pl.instI_at (l:=N.map (·.d)) (d:=d) (k:=k) h hn);have HNO:=hide (Pl.instI_no (l:=N.map (·.d)) (d:=d));generalize Pl.ze6 (N.map (·.d)) d=R at HAT HNO ⊢;clear hv;go_enter Tryz.func119,Tryz.ntmps119
 go_wp2
 go_loopw [5] (fun i wr=>∃k:Nat,k≤N.length∧i= .int .i64 (k:Int)∧Below w.heap.size w wr∧Hid (Mem.Blk wr w.heap.size #[.slice ia N.length ic, .slice ma M.length mc, .slice ha H.length hc, .int .i64 next] 32)∧Hid (∀j,j<k→(N.map (·.d))[j]?≠some d)) (fun i _=>N.length - (intOf i).toNat)
 case atStart=>exact ⟨0,Nat.zero_le _,rfl,b0,V0,fun j h=>absurd h (by omega)⟩
 case round=>
  obtain ⟨k,hk,rfl,hbel,V,HA⟩:=hrel;clear V0 b0;have a0:=(za V).cell 0;simp only [kGs] at a0;by_cases hlt:k<N.length
  ·obtain ⟨t,ht⟩:∃n,N[k]? =some n:=⟨_,List.getElem?_eq_getElem hlt⟩;obtain ⟨⟨g,o,rfl,hg,q0, -⟩, -⟩:=(za HI) k t ht;have c0:=(hbel.cell (p:=⟨g,_,none⟩) hg).trans q0;have hm:(N.map (·.d))[k]? =some t.d:=by rw [List.getElem?_map,ht];rfl
   have u1:(k:Int)<(N.length:Int):=by omega
   have u3:(0:Int)≤(k:Int):=by omega
   clear q0 ht;by_cases hd:t.d=d
   ·have hd1:(t.d==d)=true:=by simpa using hd
    have HR:Hid (R=(k:Int)):=hide (za HAT k (by rw [hm,hd]) (za HA));clear hm hd HAT HNO HA;go_wp2
    go_ret
    exact ⟨by rw [za HR];rfl,hbel⟩
   ·have hd1:(t.d==d)=false:=by simpa using hd
    have HA2:Hid (∀j,j<k+1→(N.map (·.d))[j]?≠some d):=fun j hj=>by
     rcases Nat.lt_succ_iff_lt_or_eq.1 hj with h|rfl
     ·exact za HA j h
     ·rw [hm];exact fun e=>hd (Option.some.inj e)
    clear hm;go_wp2
    go_roundw
    case rel=>exact ⟨k+1,by omega,by go_num,hbel,V,HA2⟩
    case measure=>simp [intOf];omega
  ·have u1:¬ (k:Int)<(N.length:Int):=by omega
   have HR:Hid (R= -1):=hide (za HNO (fun j=>by
    by_cases h:j<k
    ·exact za HA j h
    ·rw [List.getElem?_eq_none (by rw [List.length_map];omega)];exact fun e=>by cases e))
   clear HAT HNO HA;go_wp2
   go_ret
   exact ⟨by rw [za HR];rfl,hbel⟩
set_option maxRecDepth 100000 in
set_option maxHeartbeats 2000000 in
theorem zd9 (s:Pl.Sp) (d:Int) (w:World) (hml:s.M.length≤1048576) (hhl:s.H.length≤1048576) (hm:Mem.zb2 w s.ma s.M) (hh:Mem.zb9 w s.ha s.H):
  Calls Tryz.prog 43 #[.agg s.cs, .int .i64 d] w fun e w'=>e= .returned (.int .i64 (Pl.held s.M s.H d))∧Below w.heap.size w w':=by
 obtain ⟨ia,ic,N,ma,mc,M,ha,hc,H,next⟩:=s;simp only at *;unfold Pl.Sp.cs Pl.held;have b0:=(Below.refl w.heap.size w).alloc (o:= .cells #[.slice ia N.length ic, .slice ma M.length mc, .slice ha H.length hc, .int .i64 next] 32) (Nat.le_refl _);have V0:=hide (Mem.Blk.new w #[.slice ia N.length ic, .slice ma M.length mc, .slice ha H.length hc, .int .i64 next] 32);have HM:=hide hm;have HH:=hide hh;clear hm hh;go_enter Tryz.func43,Tryz.ntmps43
 go_wp2
 go_loopw [5,6] (fun n i wr=>∃k:Nat,k≤M.length∧i= .int .i64 (k:Int)∧n= .int .i64 (0+(Pl.cntM (M.take k) d:Int))∧Below w.heap.size w wr∧Hid (Mem.Blk wr w.heap.size #[.slice ia N.length ic, .slice ma M.length mc, .slice ha H.length hc, .int .i64 next] 32)) (fun _ i _=>M.length - (intOf i).toNat)
 case atStart=>exact ⟨0,Nat.zero_le _,rfl,by simp [Pl.cntM],b0,V0⟩
 case round=>
  obtain ⟨k,hk,rfl,rfl,hbel,V⟩:=hrel;clear V0 b0;have a1:=(za V).cell 1;simp only [kGs] at a1;have hle:=Pl.cntM_le (M.take k) d;have hle2:(M.take k).length≤M.length:=by rw [List.length_take];omega
  by_cases hlt:k<M.length
  ·obtain ⟨t,ht⟩:∃n,M[k]? =some n:=⟨_,List.getElem?_eq_getElem hlt⟩;obtain ⟨g,o,rfl,hg,q0,q1,q2⟩:=(za HM) k t ht;have c1:=(hbel.cell (p:=⟨g,_,none⟩) hg).trans q1;have HS:=hide (Pl.cntM_step ht d);have u1:(k:Int)<(M.length:Int):=by omega
   have u3:(0:Int)≤(k:Int):=by omega
   clear q0 q1 q2 ht;generalize hC:Pl.cntM (M.take k) d=C at HS hle ⊢;by_cases hd:t.i=d
   ·have hd1:(t.i==d)=true:=by simpa using hd
    have HS2:Hid (Pl.cntM (M.take (k+1)) d=C+1):=hide (by rw [za HS,if_pos hd]);clear hC HS hd;go_wp2
    go_roundw
    case rel=>exact ⟨k+1,by omega,by go_num,by rw [za HS2];go_num,hbel,V⟩
    case measure=>simp [intOf];omega
   ·have hd1:(t.i==d)=false:=by simpa using hd
    have HS2:Hid (Pl.cntM (M.take (k+1)) d=C):=hide (by rw [za HS,if_neg hd];rfl);clear hC HS;go_wp2
    go_roundw
    case rel=>exact ⟨k+1,by omega,by go_num,by rw [za HS2],hbel,V⟩
    case measure=>simp [intOf];omega
  ·have u1:¬ (k:Int)<(M.length:Int):=by omega
   have hke:k=M.length:=by omega
   subst hke;rw [List.take_length,Int.zero_add];clear hle hle2 hlt hk;have hML:=Pl.cntM_le M d;go_wp2
   go_loopw [5,7] (fun n i wr=>∃k:Nat,k≤H.length∧i= .int .i64 (k:Int)∧n= .int .i64 ((Pl.cntM M d:Int)+(Pl.cntH (H.take k) d:Int))∧Below w.heap.size w wr∧Hid (Mem.Blk wr w.heap.size #[.slice ia N.length ic, .slice ma M.length mc, .slice ha H.length hc, .int .i64 next] 32)) (fun _ i _=>H.length - (intOf i).toNat)
   case atStart=>exact ⟨0,Nat.zero_le _,rfl,by simp [Pl.cntH],hbel,V⟩
   case round=>
    obtain ⟨k,hk,rfl,rfl,hbel,V⟩:=hrel;have a1:=(za V).cell 2;simp only [kGs] at a1;have hle:=Pl.cntH_le (H.take k) d;have hle2:(H.take k).length≤H.length:=by rw [List.length_take];omega
    by_cases hlt:k<H.length
    ·obtain ⟨t,ht⟩:∃n,H[k]? =some n:=⟨_,List.getElem?_eq_getElem hlt⟩;obtain ⟨g,o,rfl,hg,q0,q1,q2⟩:=(za HH) k t ht;have c1:=(hbel.cell (p:=⟨g,_,none⟩) hg).trans q1;have HS:=hide (Pl.cntH_step ht d);have u1:(k:Int)<(H.length:Int):=by omega
     have u3:(0:Int)≤(k:Int):=by omega
     clear q0 q1 q2 ht;generalize hC:Pl.cntH (H.take k) d=C at HS hle ⊢;by_cases hd:t.i=d
     ·have hd1:(t.i==d)=true:=by simpa using hd
      have HS2:Hid (Pl.cntH (H.take (k+1)) d=C+1):=hide (by rw [za HS,if_pos hd]);clear hC HS hd;go_wp2
      go_roundw
      case rel=>exact ⟨k+1,by omega,by go_num,by rw [za HS2];go_num,hbel,V⟩
      case measure=>simp [intOf];omega
     ·have hd1:(t.i==d)=false:=by simpa using hd
      have HS2:Hid (Pl.cntH (H.take (k+1)) d=C):=hide (by rw [za HS,if_neg hd];rfl);clear hC HS;go_wp2
      go_roundw
      case rel=>exact ⟨k+1,by omega,by go_num,by rw [za HS2],hbel,V⟩
      case measure=>simp [intOf];omega
    ·have u1:¬ (k:Int)<(H.length:Int):=by omega
     have hke:k=H.length:=by omega
     subst hke;rw [List.take_length];go_wp2
     go_ret
     exact ⟨rfl,hbel⟩
end WSp
end
end Go.Proofs.YtonffldjbmednaaGreatDoor
