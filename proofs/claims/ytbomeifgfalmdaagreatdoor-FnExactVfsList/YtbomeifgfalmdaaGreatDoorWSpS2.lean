import Derived.Test.YtbomeifgfalmdaaGreatDoorG45
namespace Go.Proofs.YtbomeifgfalmdaaGreatDoor
open Go.RowKit
namespace WSp
theorem yc9 (a b c:Int) (w:World):Calls Tryz.prog 70 #[.int .i64 a, .int .i64 b, .int .i64 c] w fun e w'=>e= .returned (.bool (Pl.isB a b c))∧Below w.heap.size w w':=
 (WNode.is_any a b c w).mono fun _ _ ⟨h1,h2⟩=>⟨h1,by rw [h2];exact Below.refl _ _⟩
set_option linter.unusedSimpArgs false in
set_option maxRecDepth 100000 in
set_option maxHeartbeats 8000000 in
theorem handles_any (s:Pl.Sp) (w:World) (hok:zb0.OkS s 1048576) (hv:Mem.zd9 w s) (hn0:1≤s.next) (hn1:s.next≤1000000):
  Calls Tryz.prog 71 #[.agg s.cs] w fun e w'=>e= .returned (.bool (Pl.zo3 (s.N.map (·.d)) s.next Pl.wayB s.H))∧Below w.heap.size w w':=by
 obtain ⟨ia,ic,N,ma,mc,M,ha,hc,H,next⟩:=s;simp only at hn0 hn1 ⊢;unfold Pl.Sp.cs;simp only;have hin:=hide (fun W (b:Below w.heap.size w W) d=>inst_any ⟨ia,ic,N,ma,mc,M,ha,hc,H,next⟩ d W hok.n (Mem.zg5 hv.zk0 b));have HP:=hide hok.hp;have HV:=hide hv.hands;have hHl:=hok.h;simp only [Pl.Sp.cs] at hin HP HV hHl;generalize hids:N.map (·.d)=ids at hin ⊢;have b0:=(Below.refl w.heap.size w).alloc (o:= .cells #[.slice ia N.length ic, .slice ma M.length mc, .slice ha H.length hc, .int .i64 next] 32) (Nat.le_refl _);have V0:=hide (Mem.Blk.new w #[.slice ia N.length ic, .slice ma M.length mc, .slice ha H.length hc, .int .i64 next] 32);clear hv hok hids;by_cases h6:6<H.length
 ·have t0:(6:Int)<(H.length:Int):=by omega
  have e0:Pl.zo3 ids next Pl.wayB H=false:=by unfold Pl.zo3;rw [decide_eq_false (by omega)];rfl
  rw [e0];have a2:=(za V0).cell 2;simp only [kGs] at a2;clear hin HP HV e0;go_enter Tryz.func71,Tryz.ntmps71
  go_wp2
  go_ret
  exact ⟨rfl,b0⟩
 have t0:¬ (6:Int)<(H.length:Int):=by omega
 have HR0:Hid (Pl.zo3 ids next Pl.wayB H=(List.range H.length).all (Pl.zm5 ids next Pl.wayB H)):=hide (by unfold Pl.zo3;rw [decide_eq_true (by omega)];rfl);generalize Pl.zo3 ids next Pl.wayB H=RB at HR0 ⊢;have a2:=(za V0).cell 2;simp only [kGs] at a2;have hw9:IntKind.i64.wrap (next - 1)=next - 1:=by simp only [IntKind.wrap_i64];omega
 go_enter Tryz.func71,Tryz.ntmps71
 go_wp2
 go_loopw [3] (fun i wr=>∃k:Nat,k≤H.length∧i= .int .i64 (k:Int)∧Below w.heap.size w wr∧Hid (Mem.Blk wr w.heap.size #[.slice ia N.length ic, .slice ma M.length mc, .slice ha H.length hc, .int .i64 next] 32)∧Hid (∀j,j<k→Pl.zm5 ids next Pl.wayB H j=true)) (fun i _=>H.length - (intOf i).toNat)
 case atStart=>exact ⟨0,Nat.zero_le _,rfl,b0,V0,fun j h=>absurd h (by omega)⟩
 case round=>
  obtain ⟨k,hk,rfl,hbel,V,HA⟩:=hrel;clear V0 b0 a2;have a2:=(za V).cell 2;simp only [kGs] at a2;by_cases hlt:k<H.length
  ·obtain ⟨t,ht⟩:∃n,H[k]? =some n:=⟨_,List.getElem?_eq_getElem hlt⟩;obtain ⟨g,o,rfl,hg,q0,q1,q2⟩:=(za HV) k t ht;have HNO:Hid (Pl.zm5 ids next Pl.wayB H k=false→RB=false):=hide (fun h=>by rw [za HR0];exact Pl.ya3 hlt h);have u1:(k:Int)<(H.length:Int):=by omega
   have u3:(0:Int)≤(k:Int):=by omega
   have b2:Below wr.heap.size wr (wr.alloc (.cells #[.int .i64 t.d, .int .i64 t.i, .string t.p] 113)):=bE0;have hbel2:=hbel.trans (b2.mono hbel.size);have c0:=(hbel.cell (p:=⟨g,_,none⟩) hg).trans q0;have c1:=(hbel.cell (p:=⟨g,_,none⟩) hg).trans q1;have c2:=(hbel.cell (p:=⟨g,_,none⟩) hg).trans q2;have X:=Mem.Blk.new wr #[.int .i64 t.d, .int .i64 t.i, .string t.p] 113;have V2:=hide ((za V).call b2);obtain ⟨x0,x1,x2⟩:=jc3 X;have w2:=(za V2).cell 2;have w3:=(za V2).cell 3;have w0:=(za V2).cell 0;have w1:=(za V2).cell 1;simp only [kGs] at w2 w3 w0 w1;have hpz:=za HP t (List.mem_of_getElem? ht);have HIN:=hide (za hin);clear q0 q1 q2 X b2 V;go_upto_region 7 with fail
   generalize wr.alloc (.cells #[.int .i64 t.d, .int .i64 t.i, .string t.p] 113)=wZ at hbel2 V2 x0 x1 x2 w0 w1 w2 w3 ⊢;generalize wr.heap.size=X at x0 x1 x2 ⊢;have HC1:=hide (fun W=>yc9 t.d 1 (next - 1) W);have HC2:=hide (fun W (b:Below wZ.heap.size wZ W)=>za HIN W (hbel2.trans (b.mono hbel2.size)) t.i);have HC3:=hide (fun W=>WPanic.l07path_any t.p W hpz);have HS0:Hid (k=0→Pl.zm5 ids next Pl.wayB H k=(Pl.isB t.d 1 (next - 1)&&true&&!decide (Pl.zd3 ids t.i<0)&&Pl.wayB t.p)):=hide (fun e=>by subst e;unfold Pl.zm5;rw [ht]);have HS1:Hid (∀k' p,k=k'+1→H[k']? =some p→Pl.zm5 ids next Pl.wayB H k=(Pl.isB t.d 1 (next - 1)&&decide (p.d<t.d)&&!decide (Pl.zd3 ids t.i<0)&&Pl.wayB t.p)):=hide (fun k' p e hp=>by subst e;unfold Pl.zm5;rw [ht];simp only [hp])
   have HSB:Hid (Pl.isB t.d 1 (next - 1)=false→Pl.zm5 ids next Pl.wayB H k=false):=hide (fun e=>by unfold Pl.zm5;rw [ht];simp only [e,Bool.false_and]);generalize Pl.isB t.d 1 (next - 1)=b1 at HC1 HS0 HS1 HSB;generalize Pl.zd3 ids t.i=R at HC2 HS0 HS1;generalize Pl.wayB t.p=c4 at HC3 HS0 HS1;have VZ:=hide (za V2).lt;have hXl:Hid (X<wZ.heap.size):=hide (World.block_lt_of_cell? wZ ⟨X,0,none⟩ x0);clear hpz HIN hbel a2 c0 c1 c2;cases b1
   ·have hb0:=za HSB rfl;have HE0:Hid (RB=false):=hide (za HNO (hb0));have MK:Hid (∀W',Below wZ.heap.size wZ W'→(Below wZ.heap.size wZ W'∧W'.cell? ⟨X,0,none⟩=some (.int .i64 t.d)∧W'.cell? ⟨X,1,none⟩=some (.int .i64 t.i)∧W'.cell? ⟨X,2,none⟩=some (.string t.p)∧W'.cell? ⟨w.heap.size,0,none⟩=some (.slice ia N.length ic)∧W'.cell? ⟨w.heap.size,1,none⟩=some (.slice ma M.length mc)∧W'.cell? ⟨w.heap.size,2,none⟩=some (.slice (some ⟨g,o,none⟩) H.length hc)∧W'.cell? ⟨w.heap.size,3,none⟩=some (.int .i64 next))):=fun W' hb=>⟨hb,(hb.cell (p:=⟨_,_,none⟩) (za hXl)).trans x0,(hb.cell (p:=⟨_,_,none⟩) (za hXl)).trans x1,(hb.cell (p:=⟨_,_,none⟩) (za hXl)).trans x2,(hb.cell (p:=⟨_,_,none⟩) (za VZ)).trans w0,(hb.cell (p:=⟨_,_,none⟩) (za VZ)).trans w1,(hb.cell (p:=⟨_,_,none⟩) (za VZ)).trans w2,(hb.cell (p:=⟨_,_,none⟩) (za VZ)).trans w3⟩;go_wp2_with fail
    refine RG MK (bD _) fun hHeld=>?_;refine TB 0 ?_;refine TB 1 ?_;refine TB 2 ?_;refine TB 3 ?_;refine TB 4 ?_;refine RN 5 fun K hK=>?_;go_simp
    refine (za HC1 _).mono ?_;rintro e wX ⟨rfl,bX⟩;refine hK.out _ _ ?_ (fun hHeld=>?_)
    ·exact za MK _ (hHeld.1.trans (bX.mono hHeld.1.size))
    clear hK K
    try simp only [Act.put,kBs]
    refine TB 6 ?_;refine TB 7 ?_;refine TC 8 ?_;refine TC 9 ?_;refine TC 10 ?_;refine TC 11 ?_;refine TC 12 ?_;refine TC 13 ?_;refine TC 14 ?_;refine TC 15 ?_;refine TC 16 ?_;refine TC 17 ?_;refine TC 18 ?_;refine TC 19 ?_;refine TC 20 ?_;refine TC 21 ?_;refine TB 22 ?_;refine TB 23 ?_;refine TC 24 ?_;refine TC 25 ?_;refine TC 26 ?_;refine TC 27 ?_;refine TC 28 ?_;refine TB 29 ?_;refine TB 30 ?_;refine TC 31 ?_;refine TC 32 ?_;refine TC 33 ?_;refine TC 34 ?_;refine TB 35 ?_;refine wpAnyH_done (by kernel_rfl) ?_ _;have bb:=hbel2.trans (hHeld.1.mono hbel2.size);have VV:=hide ((za V2).call hHeld.1);clear hHeld MK hbel2 V2;go_wp2
    go_ret
    exact ⟨by rw [za HE0];rfl,bb⟩
   by_cases hk0:k=0
   ·have z1:¬ (0:Int)<(k:Int):=by omega
    have HSTEP:=hide (za HS0 hk0);by_cases hR:R<0
    ·have hR2:decide (R<0)=true:=by simpa using hR
     have HE0:Hid (RB=false):=hide (za HNO (by rw [za HSTEP];simp [hR2]));have MK:Hid (∀W',Below wZ.heap.size wZ W'→(Below wZ.heap.size wZ W'∧W'.cell? ⟨X,0,none⟩=some (.int .i64 t.d)∧W'.cell? ⟨X,1,none⟩=some (.int .i64 t.i)∧W'.cell? ⟨X,2,none⟩=some (.string t.p)∧W'.cell? ⟨w.heap.size,0,none⟩=some (.slice ia N.length ic)∧W'.cell? ⟨w.heap.size,1,none⟩=some (.slice ma M.length mc)∧W'.cell? ⟨w.heap.size,2,none⟩=some (.slice (some ⟨g,o,none⟩) H.length hc)∧W'.cell? ⟨w.heap.size,3,none⟩=some (.int .i64 next))):=fun W' hb=>⟨hb,(hb.cell (p:=⟨_,_,none⟩) (za hXl)).trans x0,(hb.cell (p:=⟨_,_,none⟩) (za hXl)).trans x1,(hb.cell (p:=⟨_,_,none⟩) (za hXl)).trans x2,(hb.cell (p:=⟨_,_,none⟩) (za VZ)).trans w0,(hb.cell (p:=⟨_,_,none⟩) (za VZ)).trans w1,(hb.cell (p:=⟨_,_,none⟩) (za VZ)).trans w2,(hb.cell (p:=⟨_,_,none⟩) (za VZ)).trans w3⟩;go_wp2_with fail
     refine RG MK (bD _) fun hHeld=>?_;refine TB 0 ?_;refine TB 1 ?_;refine TB 2 ?_;refine TB 3 ?_;refine TB 4 ?_;refine RN 5 fun K hK=>?_;go_simp
     refine (za HC1 _).mono ?_;rintro e wX ⟨rfl,bX⟩;refine hK.out _ _ ?_ (fun hHeld=>?_)
     ·exact za MK _ (hHeld.1.trans (bX.mono hHeld.1.size))
     clear hK K
     try simp only [Act.put,kBs]
     refine TB 6 ?_;refine TB 7 ?_;refine TB 8 ?_;refine TB 9 ?_;refine TB 10 ?_;refine TC 11 ?_;refine TC 12 ?_;refine TC 13 ?_;refine TC 14 ?_;refine TC 15 ?_;refine TC 16 ?_;refine TC 17 ?_;refine TC 18 ?_;refine TC 19 ?_;refine TC 20 ?_;refine TB 21 ?_;refine TB 22 ?_;refine TB 23 ?_;refine TB 24 ?_;refine TB 25 ?_;refine TB 26 ?_;refine RN 27 fun K hK=>?_;go_simp
     refine (za HC2 _ hHeld.1).mono ?_;rintro e wX ⟨rfl,bX⟩;refine hK.out _ _ ?_ (fun hHeld=>?_)
     ·exact za MK _ (hHeld.1.trans (bX.mono hHeld.1.size))
     clear hK K
     try simp only [Act.put,kBs]
     refine TB 28 ?_;refine TB 29 ?_;refine TB 30 ?_;refine TC 31 ?_;refine TC 32 ?_;refine TC 33 ?_;refine TC 34 ?_;refine TB 35 ?_;refine wpAnyH_done (by kernel_rfl) ?_ _;have bb:=hbel2.trans (hHeld.1.mono hbel2.size);have VV:=hide ((za V2).call hHeld.1);clear hHeld MK hbel2 V2;go_wp2
     go_ret
     exact ⟨by rw [za HE0];rfl,bb⟩
    ·have hR2:decide (R<0)=false:=by simpa using hR
     cases c4
     ·have HE0:Hid (RB=false):=hide (za HNO (by rw [za HSTEP];simp));have MK:Hid (∀W',Below wZ.heap.size wZ W'→(Below wZ.heap.size wZ W'∧W'.cell? ⟨X,0,none⟩=some (.int .i64 t.d)∧W'.cell? ⟨X,1,none⟩=some (.int .i64 t.i)∧W'.cell? ⟨X,2,none⟩=some (.string t.p)∧W'.cell? ⟨w.heap.size,0,none⟩=some (.slice ia N.length ic)∧W'.cell? ⟨w.heap.size,1,none⟩=some (.slice ma M.length mc)∧W'.cell? ⟨w.heap.size,2,none⟩=some (.slice (some ⟨g,o,none⟩) H.length hc)∧W'.cell? ⟨w.heap.size,3,none⟩=some (.int .i64 next))):=fun W' hb=>⟨hb,(hb.cell (p:=⟨_,_,none⟩) (za hXl)).trans x0,(hb.cell (p:=⟨_,_,none⟩) (za hXl)).trans x1,(hb.cell (p:=⟨_,_,none⟩) (za hXl)).trans x2,(hb.cell (p:=⟨_,_,none⟩) (za VZ)).trans w0,(hb.cell (p:=⟨_,_,none⟩) (za VZ)).trans w1,(hb.cell (p:=⟨_,_,none⟩) (za VZ)).trans w2,(hb.cell (p:=⟨_,_,none⟩) (za VZ)).trans w3⟩;go_wp2_with fail
      refine RG MK (bD _) fun hHeld=>?_;refine TB 0 ?_;refine TB 1 ?_;refine TB 2 ?_;refine TB 3 ?_;refine TB 4 ?_;refine RN 5 fun K hK=>?_;go_simp
      refine (za HC1 _).mono ?_;rintro e wX ⟨rfl,bX⟩;refine hK.out _ _ ?_ (fun hHeld=>?_)
      ·exact za MK _ (hHeld.1.trans (bX.mono hHeld.1.size))
      clear hK K
      try simp only [Act.put,kBs]
      refine TB 6 ?_;refine TB 7 ?_;refine TB 8 ?_;refine TB 9 ?_;refine TB 10 ?_;refine TC 11 ?_;refine TC 12 ?_;refine TC 13 ?_;refine TC 14 ?_;refine TC 15 ?_;refine TC 16 ?_;refine TC 17 ?_;refine TC 18 ?_;refine TC 19 ?_;refine TC 20 ?_;refine TB 21 ?_;refine TB 22 ?_;refine TB 23 ?_;refine TB 24 ?_;refine TB 25 ?_;refine TB 26 ?_;refine RN 27 fun K hK=>?_;go_simp
      refine (za HC2 _ hHeld.1).mono ?_;rintro e wX ⟨rfl,bX⟩;refine hK.out _ _ ?_ (fun hHeld=>?_)
      ·exact za MK _ (hHeld.1.trans (bX.mono hHeld.1.size))
      clear hK K
      try simp only [Act.put,kBs]
      refine TB 28 ?_;refine TB 29 ?_;refine TB 30 ?_;refine TB 31 ?_;refine TB 32 ?_;refine RN 33 fun K hK=>?_;go_simp
      refine (za HC3 _).mono ?_;rintro e wX ⟨rfl,bX⟩;refine hK.out _ _ ?_ (fun hHeld=>?_)
      ·exact za MK _ (hHeld.1.trans (bX.mono hHeld.1.size))
      clear hK K
      try simp only [Act.put,kBs]
      refine TB 34 ?_;refine TB 35 ?_;refine wpAnyH_done (by kernel_rfl) ?_ _;have bb:=hbel2.trans (hHeld.1.mono hbel2.size);have VV:=hide ((za V2).call hHeld.1);clear hHeld MK hbel2 V2;go_wp2
      go_ret
      exact ⟨by rw [za HE0];rfl,bb⟩
     ·have HA2:Hid (∀j,j<k+1→Pl.zm5 ids next Pl.wayB H j=true):=fun j hj=>by
       rcases Nat.lt_succ_iff_lt_or_eq.1 hj with h|h
       ·exact za HA j h
       ·rw [h,za HSTEP];simp [hR2]
      have MK:Hid (∀W',Below wZ.heap.size wZ W'→(Below wZ.heap.size wZ W'∧W'.cell? ⟨X,0,none⟩=some (.int .i64 t.d)∧W'.cell? ⟨X,1,none⟩=some (.int .i64 t.i)∧W'.cell? ⟨X,2,none⟩=some (.string t.p)∧W'.cell? ⟨w.heap.size,0,none⟩=some (.slice ia N.length ic)∧W'.cell? ⟨w.heap.size,1,none⟩=some (.slice ma M.length mc)∧W'.cell? ⟨w.heap.size,2,none⟩=some (.slice (some ⟨g,o,none⟩) H.length hc)∧W'.cell? ⟨w.heap.size,3,none⟩=some (.int .i64 next))):=fun W' hb=>⟨hb,(hb.cell (p:=⟨_,_,none⟩) (za hXl)).trans x0,(hb.cell (p:=⟨_,_,none⟩) (za hXl)).trans x1,(hb.cell (p:=⟨_,_,none⟩) (za hXl)).trans x2,(hb.cell (p:=⟨_,_,none⟩) (za VZ)).trans w0,(hb.cell (p:=⟨_,_,none⟩) (za VZ)).trans w1,(hb.cell (p:=⟨_,_,none⟩) (za VZ)).trans w2,(hb.cell (p:=⟨_,_,none⟩) (za VZ)).trans w3⟩;go_wp2_with fail
      refine RG MK (bD _) fun hHeld=>?_;refine TB 0 ?_;refine TB 1 ?_;refine TB 2 ?_;refine TB 3 ?_;refine TB 4 ?_;refine RN 5 fun K hK=>?_;go_simp
      refine (za HC1 _).mono ?_;rintro e wX ⟨rfl,bX⟩;refine hK.out _ _ ?_ (fun hHeld=>?_)
      ·exact za MK _ (hHeld.1.trans (bX.mono hHeld.1.size))
      clear hK K
      try simp only [Act.put,kBs]
      refine TB 6 ?_;refine TB 7 ?_;refine TB 8 ?_;refine TB 9 ?_;refine TB 10 ?_;refine TC 11 ?_;refine TC 12 ?_;refine TC 13 ?_;refine TC 14 ?_;refine TC 15 ?_;refine TC 16 ?_;refine TC 17 ?_;refine TC 18 ?_;refine TC 19 ?_;refine TC 20 ?_;refine TB 21 ?_;refine TB 22 ?_;refine TB 23 ?_;refine TB 24 ?_;refine TB 25 ?_;refine TB 26 ?_;refine RN 27 fun K hK=>?_;go_simp
      refine (za HC2 _ hHeld.1).mono ?_;rintro e wX ⟨rfl,bX⟩;refine hK.out _ _ ?_ (fun hHeld=>?_)
      ·exact za MK _ (hHeld.1.trans (bX.mono hHeld.1.size))
      clear hK K
      try simp only [Act.put,kBs]
      refine TB 28 ?_;refine TB 29 ?_;refine TB 30 ?_;refine TB 31 ?_;refine TB 32 ?_;refine RN 33 fun K hK=>?_;go_simp
      refine (za HC3 _).mono ?_;rintro e wX ⟨rfl,bX⟩;refine hK.out _ _ ?_ (fun hHeld=>?_)
      ·exact za MK _ (hHeld.1.trans (bX.mono hHeld.1.size))
      clear hK K
      try simp only [Act.put,kBs]
      refine TB 34 ?_;refine TB 35 ?_;refine wpAnyH_done (by kernel_rfl) ?_ _;have bb:=hbel2.trans (hHeld.1.mono hbel2.size);have VV:=hide ((za V2).call hHeld.1);clear hHeld MK hbel2 V2;go_wp2
      go_roundw
      case rel=>exact ⟨k+1,by omega,by go_num,bb,VV,HA2⟩
      case measure=>simp [intOf];omega
   ·have z1:(0:Int)<(k:Int):=by omega
    have z4:0<k:=by omega
    obtain ⟨k',hk'⟩:∃k',k=k'+1:=⟨k - 1,by omega⟩;obtain ⟨p,hp⟩:∃n,H[k']? =some n:=⟨_,List.getElem?_eq_getElem (by omega)⟩;have HSTEP:=hide (za HS1 k' p hk' hp);obtain ⟨g',o',e',hg',q0, -, -⟩:=(za HV) k' p hp;cases e'
    have pp:=(hbel2.cell (p:=⟨g,_,none⟩) hg).trans q0;have hwk:IntKind.i64.wrap ((k:Int) - 1)=(k':Int):=by simp only [IntKind.wrap_i64];omega
    have z2:(k':Int)<(H.length:Int):=by omega
    have z3:(0:Int)≤(k':Int):=by omega
    have hgl:Hid (g<wZ.heap.size):=hide (World.block_lt_of_cell? wZ ⟨g,_,none⟩ pp);have HKE:=hide hk';clear q0 hp hk' hk0;by_cases hpd:t.d≤p.d
    ·have hp2:decide (p.d<t.d)=false:=by simp;omega
     have HE0:Hid (RB=false):=hide (za HNO (by rw [za HSTEP];simp [hp2]))
     have MK:Hid (∀W',Below wZ.heap.size wZ W'→(Below wZ.heap.size wZ W'∧W'.cell? ⟨X,0,none⟩=some (.int .i64 t.d)∧W'.cell? ⟨X,1,none⟩=some (.int .i64 t.i)∧W'.cell? ⟨X,2,none⟩=some (.string t.p)∧W'.cell? ⟨w.heap.size,0,none⟩=some (.slice ia N.length ic)∧W'.cell? ⟨w.heap.size,1,none⟩=some (.slice ma M.length mc)∧W'.cell? ⟨w.heap.size,2,none⟩=some (.slice (some ⟨g,o,none⟩) H.length hc)∧W'.cell? ⟨w.heap.size,3,none⟩=some (.int .i64 next)∧W'.cell? ⟨g,o+k'*3,none⟩=some (.int .i64 p.d))):=fun W' hb=>⟨hb,(hb.cell (p:=⟨_,_,none⟩) (za hXl)).trans x0,(hb.cell (p:=⟨_,_,none⟩) (za hXl)).trans x1,(hb.cell (p:=⟨_,_,none⟩) (za hXl)).trans x2,(hb.cell (p:=⟨_,_,none⟩) (za VZ)).trans w0,(hb.cell (p:=⟨_,_,none⟩) (za VZ)).trans w1,(hb.cell (p:=⟨_,_,none⟩) (za VZ)).trans w2,(hb.cell (p:=⟨_,_,none⟩) (za VZ)).trans w3,(hb.cell (p:=⟨_,_,none⟩) (za hgl)).trans pp⟩;go_wp2_with fail
     refine RG MK (bD _) fun hHeld=>?_;refine TB 0 ?_;refine TB 1 ?_;refine TB 2 ?_;refine TB 3 ?_;refine TB 4 ?_;refine RN 5 fun K hK=>?_;go_simp
     refine (za HC1 _).mono ?_;rintro e wX ⟨rfl,bX⟩;refine hK.out _ _ ?_ (fun hHeld=>?_)
     ·exact za MK _ (hHeld.1.trans (bX.mono hHeld.1.size))
     clear hK K
     try simp only [Act.put,kBs]
     refine TB 6 ?_;refine TB 7 ?_;refine TB 8 ?_;refine TB 9 ?_;refine TB 10 ?_;refine TB 11 ?_;refine TB 12 ?_;refine TB 13 ?_;refine TB 14 ?_;refine TB 15 ?_;refine TB 16 ?_;refine TB 17 ?_;refine TB 18 ?_;refine TB 19 ?_;refine TB 20 ?_;refine TB 21 ?_;refine TB 22 ?_;refine TB 23 ?_;refine TC 24 ?_;refine TC 25 ?_;refine TC 26 ?_;refine TC 27 ?_;refine TC 28 ?_;refine TB 29 ?_;refine TB 30 ?_;refine TC 31 ?_;refine TC 32 ?_;refine TC 33 ?_;refine TC 34 ?_;refine TB 35 ?_;refine wpAnyH_done (by kernel_rfl) ?_ _;have bb:=hbel2.trans (hHeld.1.mono hbel2.size);have VV:=hide ((za V2).call hHeld.1);clear hHeld MK hbel2 V2;go_wp2
     go_ret
     exact ⟨by rw [za HE0];rfl,bb⟩
    ·have hp2:decide (p.d<t.d)=true:=by simp;omega
     have hp3:decide (t.d≤p.d)=false:=by simp;omega
     have hp4:p.d<t.d:=by omega
     by_cases hR:R<0
     ·have hR2:decide (R<0)=true:=by simpa using hR
      have HE0:Hid (RB=false):=hide (za HNO (by rw [za HSTEP];simp [hR2]))
      have MK:Hid (∀W',Below wZ.heap.size wZ W'→(Below wZ.heap.size wZ W'∧W'.cell? ⟨X,0,none⟩=some (.int .i64 t.d)∧W'.cell? ⟨X,1,none⟩=some (.int .i64 t.i)∧W'.cell? ⟨X,2,none⟩=some (.string t.p)∧W'.cell? ⟨w.heap.size,0,none⟩=some (.slice ia N.length ic)∧W'.cell? ⟨w.heap.size,1,none⟩=some (.slice ma M.length mc)∧W'.cell? ⟨w.heap.size,2,none⟩=some (.slice (some ⟨g,o,none⟩) H.length hc)∧W'.cell? ⟨w.heap.size,3,none⟩=some (.int .i64 next)∧W'.cell? ⟨g,o+k'*3,none⟩=some (.int .i64 p.d))):=fun W' hb=>⟨hb,(hb.cell (p:=⟨_,_,none⟩) (za hXl)).trans x0,(hb.cell (p:=⟨_,_,none⟩) (za hXl)).trans x1,(hb.cell (p:=⟨_,_,none⟩) (za hXl)).trans x2,(hb.cell (p:=⟨_,_,none⟩) (za VZ)).trans w0,(hb.cell (p:=⟨_,_,none⟩) (za VZ)).trans w1,(hb.cell (p:=⟨_,_,none⟩) (za VZ)).trans w2,(hb.cell (p:=⟨_,_,none⟩) (za VZ)).trans w3,(hb.cell (p:=⟨_,_,none⟩) (za hgl)).trans pp⟩;go_wp2_with fail
      refine RG MK (bD _) fun hHeld=>?_;refine TB 0 ?_;refine TB 1 ?_;refine TB 2 ?_;refine TB 3 ?_;refine TB 4 ?_;refine RN 5 fun K hK=>?_;go_simp
      refine (za HC1 _).mono ?_;rintro e wX ⟨rfl,bX⟩;refine hK.out _ _ ?_ (fun hHeld=>?_)
      ·exact za MK _ (hHeld.1.trans (bX.mono hHeld.1.size))
      clear hK K
      try simp only [Act.put,kBs]
      refine TB 6 ?_;refine TB 7 ?_;refine TB 8 ?_;refine TB 9 ?_;refine TB 10 ?_;refine TB 11 ?_;refine TB 12 ?_;refine TB 13 ?_;refine TB 14 ?_;refine TB 15 ?_;refine TB 16 ?_;refine TB 17 ?_;refine TB 18 ?_;refine TB 19 ?_;refine TB 20 ?_;refine TB 21 ?_;refine TB 22 ?_;refine TB 23 ?_;refine TB 24 ?_;refine TB 25 ?_;refine TB 26 ?_;refine RN 27 fun K hK=>?_;go_simp
      refine (za HC2 _ hHeld.1).mono ?_;rintro e wX ⟨rfl,bX⟩;refine hK.out _ _ ?_ (fun hHeld=>?_)
      ·exact za MK _ (hHeld.1.trans (bX.mono hHeld.1.size))
      clear hK K
      try simp only [Act.put,kBs]
      refine TB 28 ?_;refine TB 29 ?_;refine TB 30 ?_;refine TC 31 ?_;refine TC 32 ?_;refine TC 33 ?_;refine TC 34 ?_;refine TB 35 ?_;refine wpAnyH_done (by kernel_rfl) ?_ _;have bb:=hbel2.trans (hHeld.1.mono hbel2.size);have VV:=hide ((za V2).call hHeld.1);clear hHeld MK hbel2 V2;go_wp2
      go_ret
      exact ⟨by rw [za HE0];rfl,bb⟩
     ·have hR2:decide (R<0)=false:=by simpa using hR
      cases c4
      ·have HE0:Hid (RB=false):=hide (za HNO (by rw [za HSTEP];simp))
       have MK:Hid (∀W',Below wZ.heap.size wZ W'→(Below wZ.heap.size wZ W'∧W'.cell? ⟨X,0,none⟩=some (.int .i64 t.d)∧W'.cell? ⟨X,1,none⟩=some (.int .i64 t.i)∧W'.cell? ⟨X,2,none⟩=some (.string t.p)∧W'.cell? ⟨w.heap.size,0,none⟩=some (.slice ia N.length ic)∧W'.cell? ⟨w.heap.size,1,none⟩=some (.slice ma M.length mc)∧W'.cell? ⟨w.heap.size,2,none⟩=some (.slice (some ⟨g,o,none⟩) H.length hc)∧W'.cell? ⟨w.heap.size,3,none⟩=some (.int .i64 next)∧W'.cell? ⟨g,o+k'*3,none⟩=some (.int .i64 p.d))):=fun W' hb=>⟨hb,(hb.cell (p:=⟨_,_,none⟩) (za hXl)).trans x0,(hb.cell (p:=⟨_,_,none⟩) (za hXl)).trans x1,(hb.cell (p:=⟨_,_,none⟩) (za hXl)).trans x2,(hb.cell (p:=⟨_,_,none⟩) (za VZ)).trans w0,(hb.cell (p:=⟨_,_,none⟩) (za VZ)).trans w1,(hb.cell (p:=⟨_,_,none⟩) (za VZ)).trans w2,(hb.cell (p:=⟨_,_,none⟩) (za VZ)).trans w3,(hb.cell (p:=⟨_,_,none⟩) (za hgl)).trans pp⟩;go_wp2_with fail
       refine RG MK (bD _) fun hHeld=>?_;refine TB 0 ?_;refine TB 1 ?_;refine TB 2 ?_;refine TB 3 ?_;refine TB 4 ?_;refine RN 5 fun K hK=>?_;go_simp
       refine (za HC1 _).mono ?_;rintro e wX ⟨rfl,bX⟩;refine hK.out _ _ ?_ (fun hHeld=>?_)
       ·exact za MK _ (hHeld.1.trans (bX.mono hHeld.1.size))
       clear hK K
       try simp only [Act.put,kBs]
       refine TB 6 ?_;refine TB 7 ?_;refine TB 8 ?_;refine TB 9 ?_;refine TB 10 ?_;refine TB 11 ?_;refine TB 12 ?_;refine TB 13 ?_;refine TB 14 ?_;refine TB 15 ?_;refine TB 16 ?_;refine TB 17 ?_;refine TB 18 ?_;refine TB 19 ?_;refine TB 20 ?_;refine TB 21 ?_;refine TB 22 ?_;refine TB 23 ?_;refine TB 24 ?_;refine TB 25 ?_;refine TB 26 ?_;refine RN 27 fun K hK=>?_;go_simp
       refine (za HC2 _ hHeld.1).mono ?_;rintro e wX ⟨rfl,bX⟩;refine hK.out _ _ ?_ (fun hHeld=>?_)
       ·exact za MK _ (hHeld.1.trans (bX.mono hHeld.1.size))
       clear hK K
       try simp only [Act.put,kBs]
       refine TB 28 ?_;refine TB 29 ?_;refine TB 30 ?_;refine TB 31 ?_;refine TB 32 ?_;refine RN 33 fun K hK=>?_;go_simp
       refine (za HC3 _).mono ?_;rintro e wX ⟨rfl,bX⟩;refine hK.out _ _ ?_ (fun hHeld=>?_)
       ·exact za MK _ (hHeld.1.trans (bX.mono hHeld.1.size))
       clear hK K
       try simp only [Act.put,kBs]
       refine TB 34 ?_;refine TB 35 ?_;refine wpAnyH_done (by kernel_rfl) ?_ _;have bb:=hbel2.trans (hHeld.1.mono hbel2.size);have VV:=hide ((za V2).call hHeld.1);clear hHeld MK hbel2 V2;go_wp2
       go_ret
       exact ⟨by rw [za HE0];rfl,bb⟩
      ·have HA2:Hid (∀j,j<k+1→Pl.zm5 ids next Pl.wayB H j=true):=fun j hj=>by
        rcases Nat.lt_succ_iff_lt_or_eq.1 hj with h|h
        ·exact za HA j h
        ·rw [h,za HSTEP];simp [hR2,hp2]
       have MK:Hid (∀W',Below wZ.heap.size wZ W'→(Below wZ.heap.size wZ W'∧W'.cell? ⟨X,0,none⟩=some (.int .i64 t.d)∧W'.cell? ⟨X,1,none⟩=some (.int .i64 t.i)∧W'.cell? ⟨X,2,none⟩=some (.string t.p)∧W'.cell? ⟨w.heap.size,0,none⟩=some (.slice ia N.length ic)∧W'.cell? ⟨w.heap.size,1,none⟩=some (.slice ma M.length mc)∧W'.cell? ⟨w.heap.size,2,none⟩=some (.slice (some ⟨g,o,none⟩) H.length hc)∧W'.cell? ⟨w.heap.size,3,none⟩=some (.int .i64 next)∧W'.cell? ⟨g,o+k'*3,none⟩=some (.int .i64 p.d))):=fun W' hb=>⟨hb,(hb.cell (p:=⟨_,_,none⟩) (za hXl)).trans x0,(hb.cell (p:=⟨_,_,none⟩) (za hXl)).trans x1,(hb.cell (p:=⟨_,_,none⟩) (za hXl)).trans x2,(hb.cell (p:=⟨_,_,none⟩) (za VZ)).trans w0,(hb.cell (p:=⟨_,_,none⟩) (za VZ)).trans w1,(hb.cell (p:=⟨_,_,none⟩) (za VZ)).trans w2,(hb.cell (p:=⟨_,_,none⟩) (za VZ)).trans w3,(hb.cell (p:=⟨_,_,none⟩) (za hgl)).trans pp⟩;go_wp2_with fail
       refine RG MK (bD _) fun hHeld=>?_;refine TB 0 ?_;refine TB 1 ?_;refine TB 2 ?_;refine TB 3 ?_;refine TB 4 ?_;refine RN 5 fun K hK=>?_;go_simp
       refine (za HC1 _).mono ?_;rintro e wX ⟨rfl,bX⟩;refine hK.out _ _ ?_ (fun hHeld=>?_)
       ·exact za MK _ (hHeld.1.trans (bX.mono hHeld.1.size))
       clear hK K
       try simp only [Act.put,kBs]
       refine TB 6 ?_;refine TB 7 ?_;refine TB 8 ?_;refine TB 9 ?_;refine TB 10 ?_;refine TB 11 ?_;refine TB 12 ?_;refine TB 13 ?_;refine TB 14 ?_;refine TB 15 ?_;refine TB 16 ?_;refine TB 17 ?_;refine TB 18 ?_;refine TB 19 ?_;refine TB 20 ?_;refine TB 21 ?_;refine TB 22 ?_;refine TB 23 ?_;refine TB 24 ?_;refine TB 25 ?_;refine TB 26 ?_;refine RN 27 fun K hK=>?_;go_simp
       refine (za HC2 _ hHeld.1).mono ?_;rintro e wX ⟨rfl,bX⟩;refine hK.out _ _ ?_ (fun hHeld=>?_)
       ·exact za MK _ (hHeld.1.trans (bX.mono hHeld.1.size))
       clear hK K
       try simp only [Act.put,kBs]
       refine TB 28 ?_;refine TB 29 ?_;refine TB 30 ?_;refine TB 31 ?_;refine TB 32 ?_;refine RN 33 fun K hK=>?_;go_simp
       refine (za HC3 _).mono ?_;rintro e wX ⟨rfl,bX⟩;refine hK.out _ _ ?_ (fun hHeld=>?_)
       ·exact za MK _ (hHeld.1.trans (bX.mono hHeld.1.size))
       clear hK K
       try simp only [Act.put,kBs]
       refine TB 34 ?_;refine TB 35 ?_;refine wpAnyH_done (by kernel_rfl) ?_ _;have bb:=hbel2.trans (hHeld.1.mono hbel2.size);have VV:=hide ((za V2).call hHeld.1);clear hHeld MK hbel2 V2;go_wp2
       go_roundw
       case rel=>exact ⟨k+1,by omega,by go_num,bb,VV,HA2⟩
       case measure=>simp [intOf];omega
  ·have u1:¬ (k:Int)<(H.length:Int):=by omega
   have HE:Hid (RB=true):=hide (by rw [za HR0];exact Pl.zw9 (fun j hj=>za HA j (by omega)));go_wp2
   go_ret
   exact ⟨by rw [za HE];rfl,hbel⟩
end WSp
end Go.Proofs.YtbomeifgfalmdaaGreatDoor
