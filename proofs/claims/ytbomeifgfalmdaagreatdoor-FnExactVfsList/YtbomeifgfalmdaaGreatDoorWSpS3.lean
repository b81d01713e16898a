import Derived.Test.YtbomeifgfalmdaaGreatDoorWSpS2
namespace Go.Proofs.YtbomeifgfalmdaaGreatDoor
open Go.RowKit
namespace WSp
set_option linter.unusedSimpArgs false in
set_option maxRecDepth 100000 in
set_option maxHeartbeats 8000000 in
theorem zo4 (s:Pl.Sp) (w:World) (hok:zb0.OkS s 1048576) (hv:Mem.zd9 w s) (hn0:1≤s.next) (hn1:s.next≤1000000):
  Calls Tryz.prog 73 #[.agg s.cs] w fun e w'=>e= .returned (.bool (Pl.zp0 s.M s.H s.next (s.N.map nr)))∧Below w.heap.size w w':=by
 obtain ⟨ia,ic,N,ma,mc,M,ha,hc,H,next⟩:=s;simp only at hn0 hn1 ⊢;unfold Pl.Sp.cs;simp only;have hin:=hide (fun W (b:Below w.heap.size w W) d=>zg9 ⟨ia,ic,N,ma,mc,M,ha,hc,H,next⟩ d W hok.m hok.h (Mem.zf0 hv.zl8 b) (Mem.zg7 hv.hands b));have hright:=hide (fun W (b:Below w.heap.size w W) (x:Pl.Ns) (hx:x∈N) (h:Mem.zb4 W x.a x.Is)=>WNestS.zh7 x.a x.cap x.Is W (hok.each x hx).1 h (hok.each x hx).2);have HV:=hide hv.zk0;have hHl:=hok.n;simp only [Pl.Sp.cs] at hin HV hHl;have b0:=(Below.refl w.heap.size w).alloc (o:= .cells #[.slice ia N.length ic, .slice ma M.length mc, .slice ha H.length hc, .int .i64 next] 32) (Nat.le_refl _);have V0:=hide (Mem.Blk.new w #[.slice ia N.length ic, .slice ma M.length mc, .slice ha H.length hc, .int .i64 next] 32);clear hv hok;by_cases h6:12<N.length
 ·have t0:(12:Int)<(N.length:Int):=by omega
  have e0:Pl.zp0 M H next (N.map nr)=false:=by unfold Pl.zp0;rw [List.length_map,decide_eq_false (by omega)];rfl
  rw [e0];have a2:=(za V0).cell 0;simp only [kGs] at a2;clear hin hright HV e0;go_enter Tryz.func73,Tryz.ntmps73
  go_wp2
  go_ret
  exact ⟨rfl,b0⟩
 have t0:¬ (12:Int)<(N.length:Int):=by omega
 have HR0:Hid (Pl.zp0 M H next (N.map nr)=(List.range N.length).all (Pl.zl1 M H next (N.map nr))):=hide (by unfold Pl.zp0;rw [List.length_map,decide_eq_true (by omega)];rfl);generalize Pl.zp0 M H next (N.map nr)=RB at HR0 ⊢;have a2:=(za V0).cell 0;simp only [kGs] at a2;have hw9:IntKind.i64.wrap (next - 1)=next - 1:=by simp only [IntKind.wrap_i64];omega
 go_enter Tryz.func73,Tryz.ntmps73
 go_wp2
 go_loopw [3] (fun i wr=>∃k:Nat,k≤N.length∧i= .int .i64 (k:Int)∧Below w.heap.size w wr∧Hid (Mem.Blk wr w.heap.size #[.slice ia N.length ic, .slice ma M.length mc, .slice ha H.length hc, .int .i64 next] 32)∧Hid (∀j,j<k→Pl.zl1 M H next (N.map nr) j=true)) (fun i _=>N.length - (intOf i).toNat)
 case atStart=>exact ⟨0,Nat.zero_le _,rfl,b0,V0,fun j h=>absurd h (by omega)⟩
 case round=>
  obtain ⟨k,hk,rfl,hbel,V,HA⟩:=hrel;clear V0 b0 a2;have a2:=(za V).cell 0;simp only [kGs] at a2;by_cases hlt:k<N.length
  ·obtain ⟨t,ht⟩:∃n,N[k]? =some n:=⟨_,List.getElem?_eq_getElem hlt⟩;obtain ⟨⟨g,o,rfl,hg,q0,q1⟩,q2⟩:=(za HV) k t ht;have HNO:Hid (Pl.zl1 M H next (N.map nr) k=false→RB=false):=hide (fun h=>by rw [za HR0];exact Pl.ya3 hlt h);have u1:(k:Int)<(N.length:Int):=by omega
   have u3:(0:Int)≤(k:Int):=by omega
   have b2:Below wr.heap.size wr (wr.alloc (.cells #[.int .i64 t.d, .slice t.a t.Is.length t.cap] 96)):=(Below.refl _ _).alloc (Nat.le_refl _) _;have hbel2:=hbel.trans (b2.mono hbel.size);have c0:=(hbel.cell (p:=⟨g,_,none⟩) hg).trans q0;have c1:=(hbel.cell (p:=⟨g,_,none⟩) hg).trans q1;have X:=Mem.Blk.new wr #[.int .i64 t.d, .slice t.a t.Is.length t.cap] 96;have V2:=hide ((za V).call b2);have x0:=X.cell 0;have x1:=X.cell 1;have w2:=(za V2).cell 2;have w3:=(za V2).cell 3;have w0:=(za V2).cell 0;have w1:=(za V2).cell 1;simp only [kGs] at x0 x1 w0 w1 w2 w3;have HIN:=hide (za hin);have Q2:=hide q2;have HMEM:=hide (List.mem_of_getElem? ht);clear q0 q1 q2 X b2 V;go_upto_region 7 with fail
   generalize wr.alloc (.cells #[.int .i64 t.d, .slice t.a t.Is.length t.cap] 96)=wZ at hbel2 V2 x0 x1 w0 w1 w2 w3 ⊢;generalize wr.heap.size=X at x0 x1 ⊢;have HC1:=hide (fun W=>yc9 t.d 1 (next - 1) W);have HC2:=hide (fun W (b:Below wZ.heap.size wZ W)=>za hright W (hbel2.trans (b.mono hbel2.size)) t (za HMEM) (Mem.zc0 (za Q2) (hbel2.trans (b.mono hbel2.size))));have HC3:=hide (fun W (b:Below wZ.heap.size wZ W)=>za HIN W (hbel2.trans (b.mono hbel2.size)) t.d);have HS0:Hid (k=0→Pl.zl1 M H next (N.map nr) k=(Pl.isB t.d 1 (next - 1)&&true&&(Pl.nest (Pl.rowO (t.Is.map Pl.It.r))).isSome&&!decide (Pl.held M H t.d=0))):=hide (fun e=>by subst e;unfold Pl.zl1;rw [List.getElem?_map,ht];rfl)
   have HS1:Hid (∀k' p,k=k'+1→N[k']? =some p→Pl.zl1 M H next (N.map nr) k=(Pl.isB t.d 1 (next - 1)&&decide (p.d<t.d)&&(Pl.nest (Pl.rowO (t.Is.map Pl.It.r))).isSome&&!decide (Pl.held M H t.d=0))):=hide (fun k' p e hp=>by subst e;unfold Pl.zl1;simp only [List.getElem?_map,ht,hp];rfl);have HSB:Hid (Pl.isB t.d 1 (next - 1)=false→Pl.zl1 M H next (N.map nr) k=false):=hide (fun e=>by unfold Pl.zl1;rw [List.getElem?_map,ht];simp only [Option.map_some,nr,e,Bool.false_and]);generalize Pl.isB t.d 1 (next - 1)=b1 at HC1 HS0 HS1 HSB;generalize Pl.held M H t.d=R at HC3 HS0 HS1;generalize (Pl.nest (Pl.rowO (t.Is.map Pl.It.r))).isSome=c4 at HC2 HS0 HS1;have VZ:=hide (za V2).lt;have hXl:Hid (X<wZ.heap.size):=hide (World.block_lt_of_cell? wZ ⟨X,0,none⟩ x0);clear HIN hbel a2 c0 c1;cases b1
   ·have hb0:=za HSB rfl;have HE0:Hid (RB=false):=hide (za HNO (hb0));have MK:Hid (∀W',Below wZ.heap.size wZ W'→(Below wZ.heap.size wZ W'∧W'.cell? ⟨X,0,none⟩=some (.int .i64 t.d)∧W'.cell? ⟨X,1,none⟩=some (.slice t.a t.Is.length t.cap)∧W'.cell? ⟨w.heap.size,0,none⟩=some (.slice (some ⟨g,o,none⟩) N.length ic)∧W'.cell? ⟨w.heap.size,1,none⟩=some (.slice ma M.length mc)∧W'.cell? ⟨w.heap.size,2,none⟩=some (.slice ha H.length hc)∧W'.cell? ⟨w.heap.size,3,none⟩=some (.int .i64 next))):=fun W' hb=>⟨hb,(hb.cell (p:=⟨_,_,none⟩) (za hXl)).trans x0,(hb.cell (p:=⟨_,_,none⟩) (za hXl)).trans x1,(hb.cell (p:=⟨_,_,none⟩) (za VZ)).trans w0,(hb.cell (p:=⟨_,_,none⟩) (za VZ)).trans w1,(hb.cell (p:=⟨_,_,none⟩) (za VZ)).trans w2,(hb.cell (p:=⟨_,_,none⟩) (za VZ)).trans w3⟩;go_wp2_with fail
    refine RG MK (bD _) fun hHeld=>?_;refine TB 0 ?_;refine TB 1 ?_;refine TB 2 ?_;refine TB 3 ?_;refine TB 4 ?_;refine RN 5 fun K hK=>?_;go_simp
    refine (za HC1 _).mono ?_;rintro e wX ⟨rfl,bX⟩;refine hK.out _ _ ?_ (fun hHeld=>?_)
    ·exact za MK _ (hHeld.1.trans (bX.mono hHeld.1.size))
    clear hK K
    try simp only [Act.put,kBs]
    refine TB 6 ?_;refine TB 7 ?_;refine TC 8 ?_;refine TC 9 ?_;refine TC 10 ?_;refine TC 11 ?_;refine TC 12 ?_;refine TC 13 ?_;refine TC 14 ?_;refine TC 15 ?_;refine TC 16 ?_;refine TC 17 ?_;refine TC 18 ?_;refine TC 19 ?_;refine TC 20 ?_;refine TC 21 ?_;refine TB 22 ?_;refine TB 23 ?_;refine TC 24 ?_;refine TC 25 ?_;refine TC 26 ?_;refine TC 27 ?_;refine TB 28 ?_;refine TB 29 ?_;refine TC 30 ?_;refine TC 31 ?_;refine TC 32 ?_;refine TC 33 ?_;refine TC 34 ?_;refine TB 35 ?_;refine wpAnyH_done (by kernel_rfl) ?_ _;have bb:=hbel2.trans (hHeld.1.mono hbel2.size);have VV:=hide ((za V2).call hHeld.1);clear hHeld MK hbel2 V2;go_wp2
    go_ret
    exact ⟨by rw [za HE0];rfl,bb⟩
   by_cases hk0:k=0
   ·have z1:¬ (0:Int)<(k:Int):=by omega
    have HSTEP:=hide (za HS0 hk0);cases c4
    ·have HE0:Hid (RB=false):=hide (za HNO (by rw [za HSTEP];simp));have MK:Hid (∀W',Below wZ.heap.size wZ W'→(Below wZ.heap.size wZ W'∧W'.cell? ⟨X,0,none⟩=some (.int .i64 t.d)∧W'.cell? ⟨X,1,none⟩=some (.slice t.a t.Is.length t.cap)∧W'.cell? ⟨w.heap.size,0,none⟩=some (.slice (some ⟨g,o,none⟩) N.length ic)∧W'.cell? ⟨w.heap.size,1,none⟩=some (.slice ma M.length mc)∧W'.cell? ⟨w.heap.size,2,none⟩=some (.slice ha H.length hc)∧W'.cell? ⟨w.heap.size,3,none⟩=some (.int .i64 next))):=fun W' hb=>⟨hb,(hb.cell (p:=⟨_,_,none⟩) (za hXl)).trans x0,(hb.cell (p:=⟨_,_,none⟩) (za hXl)).trans x1,(hb.cell (p:=⟨_,_,none⟩) (za VZ)).trans w0,(hb.cell (p:=⟨_,_,none⟩) (za VZ)).trans w1,(hb.cell (p:=⟨_,_,none⟩) (za VZ)).trans w2,(hb.cell (p:=⟨_,_,none⟩) (za VZ)).trans w3⟩;go_wp2_with fail
     refine RG MK (bD _) fun hHeld=>?_;refine TB 0 ?_;refine TB 1 ?_;refine TB 2 ?_;refine TB 3 ?_;refine TB 4 ?_;refine RN 5 fun K hK=>?_;go_simp
     refine (za HC1 _).mono ?_;rintro e wX ⟨rfl,bX⟩;refine hK.out _ _ ?_ (fun hHeld=>?_)
     ·exact za MK _ (hHeld.1.trans (bX.mono hHeld.1.size))
     clear hK K
     try simp only [Act.put,kBs]
     refine TB 6 ?_;refine TB 7 ?_;refine TB 8 ?_;refine TB 9 ?_;refine TB 10 ?_;refine TC 11 ?_;refine TC 12 ?_;refine TC 13 ?_;refine TC 14 ?_;refine TC 15 ?_;refine TC 16 ?_;refine TC 17 ?_;refine TC 18 ?_;refine TC 19 ?_;refine TC 20 ?_;refine TB 21 ?_;refine TB 22 ?_;refine TB 23 ?_;refine TB 24 ?_;refine TB 25 ?_;refine RN 26 fun K hK=>?_;go_simp
     refine (za HC2 _ hHeld.1).mono ?_;rintro e wX ⟨rfl,bX⟩;refine hK.out _ _ ?_ (fun hHeld=>?_)
     ·exact za MK _ (hHeld.1.trans (bX.mono hHeld.1.size))
     clear hK K
     try simp only [Act.put,kBs]
     refine TB 27 ?_;refine TB 28 ?_;refine TB 29 ?_;refine TC 30 ?_;refine TC 31 ?_;refine TC 32 ?_;refine TC 33 ?_;refine TC 34 ?_;refine TB 35 ?_;refine wpAnyH_done (by kernel_rfl) ?_ _;have bb:=hbel2.trans (hHeld.1.mono hbel2.size);have VV:=hide ((za V2).call hHeld.1);clear hHeld MK hbel2 V2;go_wp2
     go_ret
     exact ⟨by rw [za HE0];rfl,bb⟩
    ·by_cases hR:R=0
     ·have hR2:decide (R=0)=true:=by simpa using hR
      have hR3:(R==0)=true:=by simpa using hR
      clear hR;have HE0:Hid (RB=false):=hide (za HNO (by rw [za HSTEP];simp [hR2]));have MK:Hid (∀W',Below wZ.heap.size wZ W'→(Below wZ.heap.size wZ W'∧W'.cell? ⟨X,0,none⟩=some (.int .i64 t.d)∧W'.cell? ⟨X,1,none⟩=some (.slice t.a t.Is.length t.cap)∧W'.cell? ⟨w.heap.size,0,none⟩=some (.slice (some ⟨g,o,none⟩) N.length ic)∧W'.cell? ⟨w.heap.size,1,none⟩=some (.slice ma M.length mc)∧W'.cell? ⟨w.heap.size,2,none⟩=some (.slice ha H.length hc)∧W'.cell? ⟨w.heap.size,3,none⟩=some (.int .i64 next))):=fun W' hb=>⟨hb,(hb.cell (p:=⟨_,_,none⟩) (za hXl)).trans x0,(hb.cell (p:=⟨_,_,none⟩) (za hXl)).trans x1,(hb.cell (p:=⟨_,_,none⟩) (za VZ)).trans w0,(hb.cell (p:=⟨_,_,none⟩) (za VZ)).trans w1,(hb.cell (p:=⟨_,_,none⟩) (za VZ)).trans w2,(hb.cell (p:=⟨_,_,none⟩) (za VZ)).trans w3⟩;go_wp2_with fail
      refine RG MK (bD _) fun hHeld=>?_;refine TB 0 ?_;refine TB 1 ?_;refine TB 2 ?_;refine TB 3 ?_;refine TB 4 ?_;refine RN 5 fun K hK=>?_;go_simp
      refine (za HC1 _).mono ?_;rintro e wX ⟨rfl,bX⟩;refine hK.out _ _ ?_ (fun hHeld=>?_)
      ·exact za MK _ (hHeld.1.trans (bX.mono hHeld.1.size))
      clear hK K
      try simp only [Act.put,kBs]
      refine TB 6 ?_;refine TB 7 ?_;refine TB 8 ?_;refine TB 9 ?_;refine TB 10 ?_;refine TC 11 ?_;refine TC 12 ?_;refine TC 13 ?_;refine TC 14 ?_;refine TC 15 ?_;refine TC 16 ?_;refine TC 17 ?_;refine TC 18 ?_;refine TC 19 ?_;refine TC 20 ?_;refine TB 21 ?_;refine TB 22 ?_;refine TB 23 ?_;refine TB 24 ?_;refine TB 25 ?_;refine RN 26 fun K hK=>?_;go_simp
      refine (za HC2 _ hHeld.1).mono ?_;rintro e wX ⟨rfl,bX⟩;refine hK.out _ _ ?_ (fun hHeld=>?_)
      ·exact za MK _ (hHeld.1.trans (bX.mono hHeld.1.size))
      clear hK K
      try simp only [Act.put,kBs]
      refine TB 27 ?_;refine TB 28 ?_;refine TB 29 ?_;refine TB 30 ?_;refine TB 31 ?_;refine TB 32 ?_;refine RN 33 fun K hK=>?_;go_simp
      refine (za HC3 _ hHeld.1).mono ?_;rintro e wX ⟨rfl,bX⟩;refine hK.out _ _ ?_ (fun hHeld=>?_)
      ·exact za MK _ (hHeld.1.trans (bX.mono hHeld.1.size))
      clear hK K
      try simp only [Act.put,kBs]
      refine TB 34 ?_;refine TB 35 ?_;refine wpAnyH_done (by kernel_rfl) ?_ _;have bb:=hbel2.trans (hHeld.1.mono hbel2.size);have VV:=hide ((za V2).call hHeld.1);clear hHeld MK hbel2 V2;go_wp2
      go_ret
      exact ⟨by rw [za HE0];rfl,bb⟩
     ·have hR2:decide (R=0)=false:=by simpa using hR
      have hR3:(R==0)=false:=by simpa using hR
      have HA2:Hid (∀j,j<k+1→Pl.zl1 M H next (N.map nr) j=true):=fun j hj=>by
       rcases Nat.lt_succ_iff_lt_or_eq.1 hj with h|h
       ·exact za HA j h
       ·rw [h,za HSTEP];simp [hR2]
      have MK:Hid (∀W',Below wZ.heap.size wZ W'→(Below wZ.heap.size wZ W'∧W'.cell? ⟨X,0,none⟩=some (.int .i64 t.d)∧W'.cell? ⟨X,1,none⟩=some (.slice t.a t.Is.length t.cap)∧W'.cell? ⟨w.heap.size,0,none⟩=some (.slice (some ⟨g,o,none⟩) N.length ic)∧W'.cell? ⟨w.heap.size,1,none⟩=some (.slice ma M.length mc)∧W'.cell? ⟨w.heap.size,2,none⟩=some (.slice ha H.length hc)∧W'.cell? ⟨w.heap.size,3,none⟩=some (.int .i64 next))):=fun W' hb=>⟨hb,(hb.cell (p:=⟨_,_,none⟩) (za hXl)).trans x0,(hb.cell (p:=⟨_,_,none⟩) (za hXl)).trans x1,(hb.cell (p:=⟨_,_,none⟩) (za VZ)).trans w0,(hb.cell (p:=⟨_,_,none⟩) (za VZ)).trans w1,(hb.cell (p:=⟨_,_,none⟩) (za VZ)).trans w2,(hb.cell (p:=⟨_,_,none⟩) (za VZ)).trans w3⟩;go_wp2_with fail
      refine RG MK (bD _) fun hHeld=>?_;refine TB 0 ?_;refine TB 1 ?_;refine TB 2 ?_;refine TB 3 ?_;refine TB 4 ?_;refine RN 5 fun K hK=>?_;go_simp
      refine (za HC1 _).mono ?_;rintro e wX ⟨rfl,bX⟩;refine hK.out _ _ ?_ (fun hHeld=>?_)
      ·exact za MK _ (hHeld.1.trans (bX.mono hHeld.1.size))
      clear hK K
      try simp only [Act.put,kBs]
      refine TB 6 ?_;refine TB 7 ?_;refine TB 8 ?_;refine TB 9 ?_;refine TB 10 ?_;refine TC 11 ?_;refine TC 12 ?_;refine TC 13 ?_;refine TC 14 ?_;refine TC 15 ?_;refine TC 16 ?_;refine TC 17 ?_;refine TC 18 ?_;refine TC 19 ?_;refine TC 20 ?_;refine TB 21 ?_;refine TB 22 ?_;refine TB 23 ?_;refine TB 24 ?_;refine TB 25 ?_;refine RN 26 fun K hK=>?_;go_simp
      refine (za HC2 _ hHeld.1).mono ?_;rintro e wX ⟨rfl,bX⟩;refine hK.out _ _ ?_ (fun hHeld=>?_)
      ·exact za MK _ (hHeld.1.trans (bX.mono hHeld.1.size))
      clear hK K
      try simp only [Act.put,kBs]
      refine TB 27 ?_;refine TB 28 ?_;refine TB 29 ?_;refine TB 30 ?_;refine TB 31 ?_;refine TB 32 ?_;refine RN 33 fun K hK=>?_;go_simp
      refine (za HC3 _ hHeld.1).mono ?_;rintro e wX ⟨rfl,bX⟩;refine hK.out _ _ ?_ (fun hHeld=>?_)
      ·exact za MK _ (hHeld.1.trans (bX.mono hHeld.1.size))
      clear hK K
      try simp only [Act.put,kBs]
      refine TB 34 ?_;refine TB 35 ?_;refine wpAnyH_done (by kernel_rfl) ?_ _;have bb:=hbel2.trans (hHeld.1.mono hbel2.size);have VV:=hide ((za V2).call hHeld.1);clear hHeld MK hbel2 V2;go_wp2
      go_roundw
      case rel=>exact ⟨k+1,by omega,by go_num,bb,VV,HA2⟩
      case measure=>simp [intOf];omega
   ·have z1:(0:Int)<(k:Int):=by omega
    have z4:0<k:=by omega
    obtain ⟨k',hk'⟩:∃k',k=k'+1:=⟨k - 1,by omega⟩;obtain ⟨p,hp⟩:∃n,N[k']? =some n:=⟨_,List.getElem?_eq_getElem (by omega)⟩;have HSTEP:=hide (za HS1 k' p hk' hp);obtain ⟨⟨g',o',e',hg',q0, -⟩, -⟩:=(za HV) k' p hp;cases e'
    have pp:=(hbel2.cell (p:=⟨g,_,none⟩) hg).trans q0;have hwk:IntKind.i64.wrap ((k:Int) - 1)=(k':Int):=by simp only [IntKind.wrap_i64];omega
    have z2:(k':Int)<(N.length:Int):=by omega
    have z3:(0:Int)≤(k':Int):=by omega
    have hgl:Hid (g<wZ.heap.size):=hide (World.block_lt_of_cell? wZ ⟨g,_,none⟩ pp);have HKE:=hide hk';clear q0 hp hk' hk0;by_cases hpd:t.d≤p.d
    ·have hp2:decide (p.d<t.d)=false:=by simp;omega
     have HE0:Hid (RB=false):=hide (za HNO (by rw [za HSTEP];simp [hp2]));have MK:Hid (∀W',Below wZ.heap.size wZ W'→(Below wZ.heap.size wZ W'∧W'.cell? ⟨X,0,none⟩=some (.int .i64 t.d)∧W'.cell? ⟨X,1,none⟩=some (.slice t.a t.Is.length t.cap)∧W'.cell? ⟨w.heap.size,0,none⟩=some (.slice (some ⟨g,o,none⟩) N.length ic)∧W'.cell? ⟨w.heap.size,1,none⟩=some (.slice ma M.length mc)∧W'.cell? ⟨w.heap.size,2,none⟩=some (.slice ha H.length hc)∧W'.cell? ⟨w.heap.size,3,none⟩=some (.int .i64 next)∧W'.cell? ⟨g,o+k'*2,none⟩=some (.int .i64 p.d))):=fun W' hb=>⟨hb,(hb.cell (p:=⟨_,_,none⟩) (za hXl)).trans x0,(hb.cell (p:=⟨_,_,none⟩) (za hXl)).trans x1,(hb.cell (p:=⟨_,_,none⟩) (za VZ)).trans w0,(hb.cell (p:=⟨_,_,none⟩) (za VZ)).trans w1,(hb.cell (p:=⟨_,_,none⟩) (za VZ)).trans w2,(hb.cell (p:=⟨_,_,none⟩) (za VZ)).trans w3,(hb.cell (p:=⟨_,_,none⟩) (za hgl)).trans pp⟩;go_wp2_with fail
     refine RG MK (bD _) fun hHeld=>?_;refine TB 0 ?_;refine TB 1 ?_;refine TB 2 ?_;refine TB 3 ?_;refine TB 4 ?_;refine RN 5 fun K hK=>?_;go_simp
     refine (za HC1 _).mono ?_;rintro e wX ⟨rfl,bX⟩;refine hK.out _ _ ?_ (fun hHeld=>?_)
     ·exact za MK _ (hHeld.1.trans (bX.mono hHeld.1.size))
     clear hK K
     try simp only [Act.put,kBs]
     refine TB 6 ?_;refine TB 7 ?_;refine TB 8 ?_;refine TB 9 ?_;refine TB 10 ?_;refine TB 11 ?_;refine TB 12 ?_;refine TB 13 ?_;refine TB 14 ?_;refine TB 15 ?_;refine TB 16 ?_;refine TB 17 ?_;refine TB 18 ?_;refine TB 19 ?_;refine TB 20 ?_;refine TB 21 ?_;refine TB 22 ?_;refine TB 23 ?_;refine TC 24 ?_;refine TC 25 ?_;refine TC 26 ?_;refine TC 27 ?_;refine TB 28 ?_;refine TB 29 ?_;refine TC 30 ?_;refine TC 31 ?_;refine TC 32 ?_;refine TC 33 ?_;refine TC 34 ?_;refine TB 35 ?_;refine wpAnyH_done (by kernel_rfl) ?_ _;have bb:=hbel2.trans (hHeld.1.mono hbel2.size);have VV:=hide ((za V2).call hHeld.1);clear hHeld MK hbel2 V2;go_wp2
     go_ret
     exact ⟨by rw [za HE0];rfl,bb⟩
    ·have hp2:decide (p.d<t.d)=true:=by simp;omega
     have hp3:decide (t.d≤p.d)=false:=by simp;omega
     have hp4:p.d<t.d:=by omega
     cases c4
     ·have HE0:Hid (RB=false):=hide (za HNO (by rw [za HSTEP];simp));have MK:Hid (∀W',Below wZ.heap.size wZ W'→(Below wZ.heap.size wZ W'∧W'.cell? ⟨X,0,none⟩=some (.int .i64 t.d)∧W'.cell? ⟨X,1,none⟩=some (.slice t.a t.Is.length t.cap)∧W'.cell? ⟨w.heap.size,0,none⟩=some (.slice (some ⟨g,o,none⟩) N.length ic)∧W'.cell? ⟨w.heap.size,1,none⟩=some (.slice ma M.length mc)∧W'.cell? ⟨w.heap.size,2,none⟩=some (.slice ha H.length hc)∧W'.cell? ⟨w.heap.size,3,none⟩=some (.int .i64 next)∧W'.cell? ⟨g,o+k'*2,none⟩=some (.int .i64 p.d))):=fun W' hb=>⟨hb,(hb.cell (p:=⟨_,_,none⟩) (za hXl)).trans x0,(hb.cell (p:=⟨_,_,none⟩) (za hXl)).trans x1,(hb.cell (p:=⟨_,_,none⟩) (za VZ)).trans w0,(hb.cell (p:=⟨_,_,none⟩) (za VZ)).trans w1,(hb.cell (p:=⟨_,_,none⟩) (za VZ)).trans w2,(hb.cell (p:=⟨_,_,none⟩) (za VZ)).trans w3,(hb.cell (p:=⟨_,_,none⟩) (za hgl)).trans pp⟩;go_wp2_with fail
      refine RG MK (bD _) fun hHeld=>?_;refine TB 0 ?_;refine TB 1 ?_;refine TB 2 ?_;refine TB 3 ?_;refine TB 4 ?_;refine RN 5 fun K hK=>?_;go_simp
      refine (za HC1 _).mono ?_;rintro e wX ⟨rfl,bX⟩;refine hK.out _ _ ?_ (fun hHeld=>?_)
      ·exact za MK _ (hHeld.1.trans (bX.mono hHeld.1.size))
      clear hK K
      try simp only [Act.put,kBs]
      refine TB 6 ?_;refine TB 7 ?_;refine TB 8 ?_;refine TB 9 ?_;refine TB 10 ?_;refine TB 11 ?_;refine TB 12 ?_;refine TB 13 ?_;refine TB 14 ?_;refine TB 15 ?_;refine TB 16 ?_;refine TB 17 ?_;refine TB 18 ?_;refine TB 19 ?_;refine TB 20 ?_;refine TB 21 ?_;refine TB 22 ?_;refine TB 23 ?_;refine TB 24 ?_;refine TB 25 ?_;refine RN 26 fun K hK=>?_;go_simp
      refine (za HC2 _ hHeld.1).mono ?_;rintro e wX ⟨rfl,bX⟩;refine hK.out _ _ ?_ (fun hHeld=>?_)
      ·exact za MK _ (hHeld.1.trans (bX.mono hHeld.1.size))
      clear hK K
      try simp only [Act.put,kBs]
      refine TB 27 ?_;refine TB 28 ?_;refine TB 29 ?_;refine TC 30 ?_;refine TC 31 ?_;refine TC 32 ?_;refine TC 33 ?_;refine TC 34 ?_;refine TB 35 ?_;refine wpAnyH_done (by kernel_rfl) ?_ _;have bb:=hbel2.trans (hHeld.1.mono hbel2.size);have VV:=hide ((za V2).call hHeld.1);clear hHeld MK hbel2 V2;go_wp2
      go_ret
      exact ⟨by rw [za HE0];rfl,bb⟩
     ·by_cases hR:R=0
      ·have hR2:decide (R=0)=true:=by simpa using hR
       have hR3:(R==0)=true:=by simpa using hR
       clear hR;have HE0:Hid (RB=false):=hide (za HNO (by rw [za HSTEP];simp [hR2]));have MK:Hid (∀W',Below wZ.heap.size wZ W'→(Below wZ.heap.size wZ W'∧W'.cell? ⟨X,0,none⟩=some (.int .i64 t.d)∧W'.cell? ⟨X,1,none⟩=some (.slice t.a t.Is.length t.cap)∧W'.cell? ⟨w.heap.size,0,none⟩=some (.slice (some ⟨g,o,none⟩) N.length ic)∧W'.cell? ⟨w.heap.size,1,none⟩=some (.slice ma M.length mc)∧W'.cell? ⟨w.heap.size,2,none⟩=some (.slice ha H.length hc)∧W'.cell? ⟨w.heap.size,3,none⟩=some (.int .i64 next)∧W'.cell? ⟨g,o+k'*2,none⟩=some (.int .i64 p.d))):=fun W' hb=>⟨hb,(hb.cell (p:=⟨_,_,none⟩) (za hXl)).trans x0,(hb.cell (p:=⟨_,_,none⟩) (za hXl)).trans x1,(hb.cell (p:=⟨_,_,none⟩) (za VZ)).trans w0,(hb.cell (p:=⟨_,_,none⟩) (za VZ)).trans w1,(hb.cell (p:=⟨_,_,none⟩) (za VZ)).trans w2,(hb.cell (p:=⟨_,_,none⟩) (za VZ)).trans w3,(hb.cell (p:=⟨_,_,none⟩) (za hgl)).trans pp⟩;go_wp2_with fail
       refine RG MK (bD _) fun hHeld=>?_;refine TB 0 ?_;refine TB 1 ?_;refine TB 2 ?_;refine TB 3 ?_;refine TB 4 ?_;refine RN 5 fun K hK=>?_;go_simp
       refine (za HC1 _).mono ?_;rintro e wX ⟨rfl,bX⟩;refine hK.out _ _ ?_ (fun hHeld=>?_)
       ·exact za MK _ (hHeld.1.trans (bX.mono hHeld.1.size))
       clear hK K
       try simp only [Act.put,kBs]
       refine TB 6 ?_;refine TB 7 ?_;refine TB 8 ?_;refine TB 9 ?_;refine TB 10 ?_;refine TB 11 ?_;refine TB 12 ?_;refine TB 13 ?_;refine TB 14 ?_;refine TB 15 ?_;refine TB 16 ?_;refine TB 17 ?_;refine TB 18 ?_;refine TB 19 ?_;refine TB 20 ?_;refine TB 21 ?_;refine TB 22 ?_;refine TB 23 ?_;refine TB 24 ?_;refine TB 25 ?_;refine RN 26 fun K hK=>?_;go_simp
       refine (za HC2 _ hHeld.1).mono ?_;rintro e wX ⟨rfl,bX⟩;refine hK.out _ _ ?_ (fun hHeld=>?_)
       ·exact za MK _ (hHeld.1.trans (bX.mono hHeld.1.size))
       clear hK K
       try simp only [Act.put,kBs]
       refine TB 27 ?_;refine TB 28 ?_;refine TB 29 ?_;refine TB 30 ?_;refine TB 31 ?_;refine TB 32 ?_;refine RN 33 fun K hK=>?_;go_simp
       refine (za HC3 _ hHeld.1).mono ?_;rintro e wX ⟨rfl,bX⟩;refine hK.out _ _ ?_ (fun hHeld=>?_)
       ·exact za MK _ (hHeld.1.trans (bX.mono hHeld.1.size))
       clear hK K
       try simp only [Act.put,kBs]
       refine TB 34 ?_;refine TB 35 ?_;refine wpAnyH_done (by kernel_rfl) ?_ _;have bb:=hbel2.trans (hHeld.1.mono hbel2.size);have VV:=hide ((za V2).call hHeld.1);clear hHeld MK hbel2 V2;go_wp2
       go_ret
       exact ⟨by rw [za HE0];rfl,bb⟩
      ·have hR2:decide (R=0)=false:=by simpa using hR
       have hR3:(R==0)=false:=by simpa using hR
       have HA2:Hid (∀j,j<k+1→Pl.zl1 M H next (N.map nr) j=true):=fun j hj=>by
        rcases Nat.lt_succ_iff_lt_or_eq.1 hj with h|h
        ·exact za HA j h
        ·rw [h,za HSTEP];simp [hR2,hp2]
       have MK:Hid (∀W',Below wZ.heap.size wZ W'→(Below wZ.heap.size wZ W'∧W'.cell? ⟨X,0,none⟩=some (.int .i64 t.d)∧W'.cell? ⟨X,1,none⟩=some (.slice t.a t.Is.length t.cap)∧W'.cell? ⟨w.heap.size,0,none⟩=some (.slice (some ⟨g,o,none⟩) N.length ic)∧W'.cell? ⟨w.heap.size,1,none⟩=some (.slice ma M.length mc)∧W'.cell? ⟨w.heap.size,2,none⟩=some (.slice ha H.length hc)∧W'.cell? ⟨w.heap.size,3,none⟩=some (.int .i64 next)∧W'.cell? ⟨g,o+k'*2,none⟩=some (.int .i64 p.d))):=fun W' hb=>⟨hb,(hb.cell (p:=⟨_,_,none⟩) (za hXl)).trans x0,(hb.cell (p:=⟨_,_,none⟩) (za hXl)).trans x1,(hb.cell (p:=⟨_,_,none⟩) (za VZ)).trans w0,(hb.cell (p:=⟨_,_,none⟩) (za VZ)).trans w1,(hb.cell (p:=⟨_,_,none⟩) (za VZ)).trans w2,(hb.cell (p:=⟨_,_,none⟩) (za VZ)).trans w3,(hb.cell (p:=⟨_,_,none⟩) (za hgl)).trans pp⟩;go_wp2_with fail
       refine RG MK (bD _) fun hHeld=>?_;refine TB 0 ?_;refine TB 1 ?_;refine TB 2 ?_;refine TB 3 ?_;refine TB 4 ?_;refine RN 5 fun K hK=>?_;go_simp
       refine (za HC1 _).mono ?_;rintro e wX ⟨rfl,bX⟩;refine hK.out _ _ ?_ (fun hHeld=>?_)
       ·exact za MK _ (hHeld.1.trans (bX.mono hHeld.1.size))
       clear hK K
       try simp only [Act.put,kBs]
       refine TB 6 ?_;refine TB 7 ?_;refine TB 8 ?_;refine TB 9 ?_;refine TB 10 ?_;refine TB 11 ?_;refine TB 12 ?_;refine TB 13 ?_;refine TB 14 ?_;refine TB 15 ?_;refine TB 16 ?_;refine TB 17 ?_;refine TB 18 ?_;refine TB 19 ?_;refine TB 20 ?_;refine TB 21 ?_;refine TB 22 ?_;refine TB 23 ?_;refine TB 24 ?_;refine TB 25 ?_;refine RN 26 fun K hK=>?_;go_simp
       refine (za HC2 _ hHeld.1).mono ?_;rintro e wX ⟨rfl,bX⟩;refine hK.out _ _ ?_ (fun hHeld=>?_)
       ·exact za MK _ (hHeld.1.trans (bX.mono hHeld.1.size))
       clear hK K
       try simp only [Act.put,kBs]
       refine TB 27 ?_;refine TB 28 ?_;refine TB 29 ?_;refine TB 30 ?_;refine TB 31 ?_;refine TB 32 ?_;refine RN 33 fun K hK=>?_;go_simp
       refine (za HC3 _ hHeld.1).mono ?_;rintro e wX ⟨rfl,bX⟩;refine hK.out _ _ ?_ (fun hHeld=>?_)
       ·exact za MK _ (hHeld.1.trans (bX.mono hHeld.1.size))
       clear hK K
       try simp only [Act.put,kBs]
       refine TB 34 ?_;refine TB 35 ?_;refine wpAnyH_done (by kernel_rfl) ?_ _;have bb:=hbel2.trans (hHeld.1.mono hbel2.size);have VV:=hide ((za V2).call hHeld.1);clear hHeld MK hbel2 V2;go_wp2
       go_roundw
       case rel=>exact ⟨k+1,by omega,by go_num,bb,VV,HA2⟩
       case measure=>simp [intOf];omega
  ·have u1:¬ (k:Int)<(N.length:Int):=by omega
   have HE:Hid (RB=true):=hide (by rw [za HR0];exact Pl.zw9 (fun j hj=>za HA j (by omega)));go_wp2
   go_ret
   exact ⟨by rw [za HE];rfl,hbel⟩
end WSp
end Go.Proofs.YtbomeifgfalmdaaGreatDoor
