import Derived.Test.YtbomeifgfalmdaaGreatDoorWSpS2
namespace Go.Proofs.YtbomeifgfalmdaaGreatDoor
open Go.RowKit
namespace WSp
set_option linter.unusedSimpArgs false in
set_option maxRecDepth 100000 in
set_option maxHeartbeats 8000000 in
theorem yc6 (s:Pl.Sp) (w:World) (hok:zb0.OkS s 1048576) (hv:Mem.zd9 w s):
  Calls Tryz.prog 72 #[.agg s.cs] w fun e w'=>e= .returned (.bool (Pl.zj6 (s.N.map (·.d)) s.M))∧Below w.heap.size w w':=by
 obtain ⟨ia,ic,N,ma,mc,M,ha,hc,H,next⟩:=s;unfold Pl.Sp.cs;simp only;have hin:=hide (fun W (b:Below w.heap.size w W) d=>inst_any ⟨ia,ic,N,ma,mc,M,ha,hc,H,next⟩ d W hok.n (Mem.zg5 hv.zk0 b));have HP:=hide hok.mp;have HV:=hide hv.zl8;have hHl:=hok.m;simp only [Pl.Sp.cs] at hin HP HV hHl;generalize hids:N.map (·.d)=ids at hin ⊢;have b0:=(Below.refl w.heap.size w).alloc (o:= .cells #[.slice ia N.length ic, .slice ma M.length mc, .slice ha H.length hc, .int .i64 next] 32) (Nat.le_refl _);have V0:=hide (Mem.Blk.new w #[.slice ia N.length ic, .slice ma M.length mc, .slice ha H.length hc, .int .i64 next] 32);clear hv hok hids;have HC0:=hide (fun W=>yc9 (M.length:Int) 1 6 W);have a2:=(za V0).cell 1;simp only [kGs] at a2;by_cases h6:Pl.isB (M.length:Int) 1 6=false
 ·have e0:Pl.zj6 ids M=false:=by
   unfold Pl.zj6
   have :(decide (1≤M.length)&&decide (M.length≤6))=false:=by
    unfold Pl.isB at h6;rw [←h6]
    congr 1 <;> (apply decide_eq_decide.2;omega)
   rw [this];rfl
  rw [e0];rw [h6] at HC0;clear hin HP HV e0 h6;go_enter Tryz.func72,Tryz.ntmps72
  go_wp2_with fail
  refine (za HC0 _).mono ?_;rintro e w1 ⟨rfl,bX⟩;have bb:=b0.trans (bX.mono b0.size);go_wp2
  go_ret
  exact ⟨rfl,bb⟩
 rw [Bool.not_eq_false] at h6;rw [h6] at HC0;have h6':=(Pl.zp4 _ _ _).1 h6;clear h6;obtain ⟨m0,hm0⟩:∃n,M[0]? =some n:=⟨_,List.getElem?_eq_getElem (by omega)⟩;obtain ⟨g,o,rfl,hg,q0, -, -⟩:=(za HV) 0 m0 hm0;have z0:(0:Int)<(M.length:Int):=by omega
 have HR0:Hid (Pl.zj6 ids M=(decide (m0.p.size=0)&&(List.range M.length).all (Pl.zg8 ids M))):=hide (by
  unfold Pl.zj6;rw [decide_eq_true (by omega :1≤M.length),decide_eq_true (by omega :M.length≤6)];cases M with
  |nil=>simp at hm0
  |cons a r=>cases hm0;rfl)
 have p0:=(b0.cell (p:=⟨g,_,none⟩) hg).trans q0;simp only [Nat.zero_mul,Nat.add_zero] at p0;generalize Pl.zj6 ids M=RB at HR0 ⊢;have P0:=hide p0;have VL:=hide (za V0).lt;have HM0:=hide hm0;clear p0 q0 hm0;go_enter Tryz.func72,Tryz.ntmps72
 go_wp2_with fail
 refine (za HC0 _).mono ?_;rintro e w1 ⟨rfl,bX⟩;have bb:=b0.trans (bX.mono b0.size);have V1:=hide ((za V0).call bX);have a1:=(za V1).cell 1;simp only [kGs] at a1;have p1:=(bX.cell (p:=⟨g,_,none⟩) (World.block_lt_of_cell? _ ⟨g,_,none⟩ (za P0))).trans (za P0);clear b0 V0 bX a2 P0 VL HC0;by_cases hz:m0.p.size=0
 case neg=>
  have hz2:m0.p≠⟨#[]⟩:=fun e=>hz (by rw [e];rfl);have hz3:m0.p.toList.isEmpty=false:=by rw [Pl.zb7];simp;exact fun e=>hz2 (Pl.ze4 e)
  have hz4:(m0.p.toList==[])=false:=by rw [Pl.list_is];simp;exact fun e=>hz2 (Pl.ze4 e)
  have HE0:Hid (RB=false):=hide (by rw [za HR0,decide_eq_false hz];rfl);clear hin HP HV HR0 HM0;go_wp2
  go_ret
  exact ⟨by rw [za HE0];rfl,bb⟩
 have hz2:m0.p=⟨#[]⟩:=ByteArray.ext (Array.eq_empty_of_size_eq_zero hz);have HR1:Hid (RB=(List.range M.length).all (Pl.zg8 ids M)):=hide (by rw [za HR0,decide_eq_true hz];rfl);rw [hz2] at p1;clear HR0 hz hz2 HM0;go_wp2
 go_loopw [3] (fun i wr=>∃k:Nat,k≤M.length∧i= .int .i64 (k:Int)∧Below w.heap.size w wr∧Hid (Mem.Blk wr w.heap.size #[.slice ia N.length ic, .slice (some ⟨g,o,none⟩) M.length mc, .slice ha H.length hc, .int .i64 next] 32)∧Hid (∀j,j<k→Pl.zg8 ids M j=true)) (fun i _=>M.length - (intOf i).toNat)
 case atStart=>exact ⟨0,Nat.zero_le _,rfl,bb,V1,fun j h=>absurd h (by omega)⟩
 case round=>
  obtain ⟨k,hk,rfl,hbel,V,HA⟩:=hrel;clear V1 bb a1 p1;have a2:=(za V).cell 1;simp only [kGs] at a2;by_cases hlt:k<M.length
  ·obtain ⟨t,ht⟩:∃n,M[k]? =some n:=⟨_,List.getElem?_eq_getElem hlt⟩;obtain ⟨g2,o2,e2, -,q0,q1,q2⟩:=(za HV) k t ht;cases e2
   have HNO:Hid (Pl.zg8 ids M k=false→RB=false):=hide (fun h=>by rw [za HR1];exact Pl.ya3 hlt h);have u1:(k:Int)<(M.length:Int):=by omega
   have u3:(0:Int)≤(k:Int):=by omega
   have b2:Below wr.heap.size wr (wr.alloc (.cells #[.string t.p, .int .i64 t.i, .bool t.z] 49)):=bE0;have hbel2:=hbel.trans (b2.mono hbel.size);have c0:=(hbel.cell (p:=⟨g,_,none⟩) hg).trans q0;have c1:=(hbel.cell (p:=⟨g,_,none⟩) hg).trans q1;have c2:=(hbel.cell (p:=⟨g,_,none⟩) hg).trans q2;have X2:=hide (Mem.Blk.new wr #[.string t.p, .int .i64 t.i, .bool t.z] 49);have V2:=hide ((za V).call b2);have hpz:=za HP t (List.mem_of_getElem? ht);have HIN:=hide (za hin);clear q0 q1 q2 b2 V;go_upto_region 7 with fail
   generalize wr.alloc (.cells #[.string t.p, .int .i64 t.i, .bool t.z] 49)=wZ at hbel2 V2 X2 ⊢;generalize wr.heap.size=X at X2 ⊢;have HC1:=hide (fun W=>zd1.zv8 t.p W hpz);have HC2:=hide (fun W (b:Below wZ.heap.size wZ W)=>za HIN W (hbel2.trans (b.mono hbel2.size)) t.i);have HS0:Hid (k=0→Pl.zg8 ids M k=(!t.z&&Pl.za0 t.p&&true&&!decide (Pl.zd3 ids t.i<0)&&(M.take k).all (fun p=>!decide (p.i=t.i)))):=hide (fun e=>by subst e;unfold Pl.zg8;rw [ht]);have HS1:Hid (∀k' p,k=k'+1→M[k']? =some p→Pl.zg8 ids M k=(!t.z&&Pl.za0 t.p&&Pl.za7 (Pl.names p.p) (Pl.names t.p)&&!decide (Pl.zd3 ids t.i<0)&&(M.take k).all (fun p=>!decide (p.i=t.i)))):=hide (fun k' p e hp=>by subst e;unfold Pl.zg8;rw [ht];simp only [hp]);have HSZ:Hid (t.z=true→Pl.zg8 ids M k=false):=hide (fun e=>by unfold Pl.zg8;rw [ht];simp only [e,Bool.not_true,Bool.false_and])
   have HSB:Hid (Pl.za0 t.p=false→Pl.zg8 ids M k=false):=hide (fun e=>by unfold Pl.zg8;rw [ht];simp only [e,Bool.and_false,Bool.false_and])
   have HAL0:Hid (∀ (j:Nat) q,j<k→M[j]? =some q→q.i=t.i→(M.take k).all (fun p=>!decide (p.i=t.i))=false):=hide (fun j q hj hq e=>by
    rw [List.all_eq_false]
    exact ⟨q,List.mem_iff_getElem?.2 ⟨j,by rw [List.getElem?_take,if_pos hj];exact hq⟩,by simp [e]⟩)
   have HAL1:Hid ((∀ (j:Nat),j<k→∀q,M[j]? =some q→q.i≠t.i)→(M.take k).all (fun p=>!decide (p.i=t.i))=true):=hide (fun h=>by
    rw [List.all_eq_true];intro q hq;obtain ⟨j,hj⟩:=List.mem_iff_getElem?.1 hq;rw [List.getElem?_take] at hj
    split at hj
    ·rename_i hjk
     simpa using h j hjk q hj
    ·cases hj)
   have HPL:Hid (Pl.za0 t.p=true→t.p.size≤8000):=hide (fun h=>by have :=Pl.zg0 h;omega)
   have HPP:Hid (∀k' p,k'<k→M[k']? =some p→p.p.size≤8000):=hide (fun k' p hk' hp=>by
    have h:=za HA k' hk';unfold Pl.zg8 at h;rw [hp] at h;simp only [Bool.and_eq_true] at h;have :=Pl.zg0 h.1.1.1.2
    omega)
   generalize (M.take k).all (fun p=>!decide (p.i=t.i))=AL at HS0 HS1 HAL0 HAL1;generalize Pl.zd3 ids t.i=R at HC2 HS0 HS1;generalize Pl.za0 t.p=c4 at HC1 HS0 HS1 HSB HPL;generalize t.z=zz at HS0 HS1 HSZ X2;obtain ⟨x0,x1,x2⟩:=jc3 (za X2);have w2:=(za V2).cell 2;have w3:=(za V2).cell 3;have w0:=(za V2).cell 0;have w1:=(za V2).cell 1;simp only [kGs] at w2 w3 w0 w1;have VZ:=hide (za V2).lt;have hXl:Hid (X<wZ.heap.size):=hide (World.block_lt_of_cell? wZ ⟨X,0,none⟩ x0);clear hpz HIN hbel a2 c0 c1 c2;cases zz
   case true=>
    have hb0:=za HSZ rfl;have HE0:Hid (RB=false):=hide (za HNO (hb0));have MK:Hid (∀W',Below wZ.heap.size wZ W'→(Below wZ.heap.size wZ W'∧W'.cell? ⟨X,0,none⟩=some (.string t.p)∧W'.cell? ⟨X,1,none⟩=some (.int .i64 t.i)∧W'.cell? ⟨X,2,none⟩=some (.bool true)∧W'.cell? ⟨w.heap.size,0,none⟩=some (.slice ia N.length ic)∧W'.cell? ⟨w.heap.size,1,none⟩=some (.slice (some ⟨g,o,none⟩) M.length mc)∧W'.cell? ⟨w.heap.size,2,none⟩=some (.slice ha H.length hc)∧W'.cell? ⟨w.heap.size,3,none⟩=some (.int .i64 next))):=fun W' hb=>⟨hb,(hb.cell (p:=⟨_,_,none⟩) (za hXl)).trans x0,(hb.cell (p:=⟨_,_,none⟩) (za hXl)).trans x1,(hb.cell (p:=⟨_,_,none⟩) (za hXl)).trans x2,(hb.cell (p:=⟨_,_,none⟩) (za VZ)).trans w0,(hb.cell (p:=⟨_,_,none⟩) (za VZ)).trans w1,(hb.cell (p:=⟨_,_,none⟩) (za VZ)).trans w2,(hb.cell (p:=⟨_,_,none⟩) (za VZ)).trans w3⟩;go_wp2_with fail
    refine RG MK (bD _) fun hHeld=>?_;refine TB 0 ?_;refine TB 1 ?_;refine TB 2 ?_;refine TC 3 ?_;refine TC 4 ?_;refine TC 5 ?_;refine TC 6 ?_;refine TB 7 ?_;refine TB 8 ?_;refine TC 9 ?_;refine TC 10 ?_;refine TC 11 ?_;refine TC 12 ?_;refine TC 13 ?_;refine TC 14 ?_;refine TC 15 ?_;refine TC 16 ?_;refine TC 17 ?_;refine TC 18 ?_;refine TC 19 ?_;refine TC 20 ?_;refine TC 21 ?_;refine TC 22 ?_;refine TC 23 ?_;refine TB 24 ?_;refine TB 25 ?_;refine TC 26 ?_;refine TC 27 ?_;refine TC 28 ?_;refine TC 29 ?_;refine TC 30 ?_;refine TB 31 ?_;refine wpAnyH_done (by kernel_rfl) ?_ _;have bb:=hbel2.trans (hHeld.1.mono hbel2.size);have VV:=hide ((za V2).call hHeld.1);have XX:=hide ((za X2).call hHeld.1);clear hHeld MK hbel2 V2 X2;go_wp2
    go_ret
    exact ⟨by rw [za HE0];rfl,bb⟩
   cases c4
   ·have hb0:=za HSB rfl;have HE0:Hid (RB=false):=hide (za HNO (hb0));have MK:Hid (∀W',Below wZ.heap.size wZ W'→(Below wZ.heap.size wZ W'∧W'.cell? ⟨X,0,none⟩=some (.string t.p)∧W'.cell? ⟨X,1,none⟩=some (.int .i64 t.i)∧W'.cell? ⟨X,2,none⟩=some (.bool false)∧W'.cell? ⟨w.heap.size,0,none⟩=some (.slice ia N.length ic)∧W'.cell? ⟨w.heap.size,1,none⟩=some (.slice (some ⟨g,o,none⟩) M.length mc)∧W'.cell? ⟨w.heap.size,2,none⟩=some (.slice ha H.length hc)∧W'.cell? ⟨w.heap.size,3,none⟩=some (.int .i64 next))):=fun W' hb=>⟨hb,(hb.cell (p:=⟨_,_,none⟩) (za hXl)).trans x0,(hb.cell (p:=⟨_,_,none⟩) (za hXl)).trans x1,(hb.cell (p:=⟨_,_,none⟩) (za hXl)).trans x2,(hb.cell (p:=⟨_,_,none⟩) (za VZ)).trans w0,(hb.cell (p:=⟨_,_,none⟩) (za VZ)).trans w1,(hb.cell (p:=⟨_,_,none⟩) (za VZ)).trans w2,(hb.cell (p:=⟨_,_,none⟩) (za VZ)).trans w3⟩;go_wp2_with fail
    refine RG MK (bD _) fun hHeld=>?_;refine TB 0 ?_;refine TB 1 ?_;refine TB 2 ?_;refine TB 3 ?_;refine TB 4 ?_;refine RN 5 fun K hK=>?_;go_simp
    refine (za HC1 _).mono ?_;rintro e wX ⟨rfl,bX⟩;refine hK.out _ _ ?_ (fun hHeld=>?_)
    ·exact za MK _ (hHeld.1.trans (bX.mono hHeld.1.size))
    clear hK K
    try simp only [Act.put,kBs]
    refine TB 6 ?_;refine TB 7 ?_;refine TB 8 ?_;refine TC 9 ?_;refine TC 10 ?_;refine TC 11 ?_;refine TC 12 ?_;refine TC 13 ?_;refine TC 14 ?_;refine TC 15 ?_;refine TC 16 ?_;refine TC 17 ?_;refine TC 18 ?_;refine TC 19 ?_;refine TC 20 ?_;refine TC 21 ?_;refine TC 22 ?_;refine TC 23 ?_;refine TB 24 ?_;refine TB 25 ?_;refine TC 26 ?_;refine TC 27 ?_;refine TC 28 ?_;refine TC 29 ?_;refine TC 30 ?_;refine TB 31 ?_;refine wpAnyH_done (by kernel_rfl) ?_ _;have bb:=hbel2.trans (hHeld.1.mono hbel2.size);have VV:=hide ((za V2).call hHeld.1);have XX:=hide ((za X2).call hHeld.1);clear hHeld MK hbel2 V2 X2;go_wp2
    go_ret
    exact ⟨by rw [za HE0];rfl,bb⟩
   have hPL:=za HPL rfl;by_cases hk0:k=0
   ·have z1:¬ (0:Int)<(k:Int):=by omega
    have HSTEP:=hide (za HS0 hk0);by_cases hR:R<0
    ·have hR2:decide (R<0)=true:=by simpa using hR
     have HE0:Hid (RB=false):=hide (za HNO (by rw [za HSTEP];simp [hR2]));have MK:Hid (∀W',Below wZ.heap.size wZ W'→(Below wZ.heap.size wZ W'∧W'.cell? ⟨X,0,none⟩=some (.string t.p)∧W'.cell? ⟨X,1,none⟩=some (.int .i64 t.i)∧W'.cell? ⟨X,2,none⟩=some (.bool false)∧W'.cell? ⟨w.heap.size,0,none⟩=some (.slice ia N.length ic)∧W'.cell? ⟨w.heap.size,1,none⟩=some (.slice (some ⟨g,o,none⟩) M.length mc)∧W'.cell? ⟨w.heap.size,2,none⟩=some (.slice ha H.length hc)∧W'.cell? ⟨w.heap.size,3,none⟩=some (.int .i64 next))):=fun W' hb=>⟨hb,(hb.cell (p:=⟨_,_,none⟩) (za hXl)).trans x0,(hb.cell (p:=⟨_,_,none⟩) (za hXl)).trans x1,(hb.cell (p:=⟨_,_,none⟩) (za hXl)).trans x2,(hb.cell (p:=⟨_,_,none⟩) (za VZ)).trans w0,(hb.cell (p:=⟨_,_,none⟩) (za VZ)).trans w1,(hb.cell (p:=⟨_,_,none⟩) (za VZ)).trans w2,(hb.cell (p:=⟨_,_,none⟩) (za VZ)).trans w3⟩;go_wp2_with fail
     refine RG MK (bD _) fun hHeld=>?_;refine TB 0 ?_;refine TB 1 ?_;refine TB 2 ?_;refine TB 3 ?_;refine TB 4 ?_;refine RN 5 fun K hK=>?_;go_simp
     refine (za HC1 _).mono ?_;rintro e wX ⟨rfl,bX⟩;refine hK.out _ _ ?_ (fun hHeld=>?_)
     ·exact za MK _ (hHeld.1.trans (bX.mono hHeld.1.size))
     clear hK K
     try simp only [Act.put,kBs]
     refine TB 6 ?_;refine TB 7 ?_;refine TB 8 ?_;refine TB 9 ?_;refine TB 10 ?_;refine TB 11 ?_;refine TC 12 ?_;refine TC 13 ?_;refine TC 14 ?_;refine TC 15 ?_;refine TC 16 ?_;refine TC 17 ?_;refine TC 18 ?_;refine TC 19 ?_;refine TC 20 ?_;refine TC 21 ?_;refine TC 22 ?_;refine TB 23 ?_;refine TB 24 ?_;refine TB 25 ?_;refine TB 26 ?_;refine TB 27 ?_;refine TB 28 ?_;refine RN 29 fun K hK=>?_;go_simp
     refine (za HC2 _ hHeld.1).mono ?_;rintro e wX ⟨rfl,bX⟩;refine hK.out _ _ ?_ (fun hHeld=>?_)
     ·exact za MK _ (hHeld.1.trans (bX.mono hHeld.1.size))
     clear hK K
     try simp only [Act.put,kBs]
     refine TB 30 ?_;refine TB 31 ?_;refine wpAnyH_done (by kernel_rfl) ?_ _;have bb:=hbel2.trans (hHeld.1.mono hbel2.size);have VV:=hide ((za V2).call hHeld.1);have XX:=hide ((za X2).call hHeld.1);clear hHeld MK hbel2 V2 X2;go_wp2
     go_ret
     exact ⟨by rw [za HE0];rfl,bb⟩
    ·have hR2:decide (R<0)=false:=by simpa using hR
     have MK:Hid (∀W',Below wZ.heap.size wZ W'→(Below wZ.heap.size wZ W'∧W'.cell? ⟨X,0,none⟩=some (.string t.p)∧W'.cell? ⟨X,1,none⟩=some (.int .i64 t.i)∧W'.cell? ⟨X,2,none⟩=some (.bool false)∧W'.cell? ⟨w.heap.size,0,none⟩=some (.slice ia N.length ic)∧W'.cell? ⟨w.heap.size,1,none⟩=some (.slice (some ⟨g,o,none⟩) M.length mc)∧W'.cell? ⟨w.heap.size,2,none⟩=some (.slice ha H.length hc)∧W'.cell? ⟨w.heap.size,3,none⟩=some (.int .i64 next))):=fun W' hb=>⟨hb,(hb.cell (p:=⟨_,_,none⟩) (za hXl)).trans x0,(hb.cell (p:=⟨_,_,none⟩) (za hXl)).trans x1,(hb.cell (p:=⟨_,_,none⟩) (za hXl)).trans x2,(hb.cell (p:=⟨_,_,none⟩) (za VZ)).trans w0,(hb.cell (p:=⟨_,_,none⟩) (za VZ)).trans w1,(hb.cell (p:=⟨_,_,none⟩) (za VZ)).trans w2,(hb.cell (p:=⟨_,_,none⟩) (za VZ)).trans w3⟩;go_wp2_with fail
     refine RG MK (bD _) fun hHeld=>?_;refine TB 0 ?_;refine TB 1 ?_;refine TB 2 ?_;refine TB 3 ?_;refine TB 4 ?_;refine RN 5 fun K hK=>?_;go_simp
     refine (za HC1 _).mono ?_;rintro e wX ⟨rfl,bX⟩;refine hK.out _ _ ?_ (fun hHeld=>?_)
     ·exact za MK _ (hHeld.1.trans (bX.mono hHeld.1.size))
     clear hK K
     try simp only [Act.put,kBs]
     refine TB 6 ?_;refine TB 7 ?_;refine TB 8 ?_;refine TB 9 ?_;refine TB 10 ?_;refine TB 11 ?_;refine TC 12 ?_;refine TC 13 ?_;refine TC 14 ?_;refine TC 15 ?_;refine TC 16 ?_;refine TC 17 ?_;refine TC 18 ?_;refine TC 19 ?_;refine TC 20 ?_;refine TC 21 ?_;refine TC 22 ?_;refine TB 23 ?_;refine TB 24 ?_;refine TB 25 ?_;refine TB 26 ?_;refine TB 27 ?_;refine TB 28 ?_;refine RN 29 fun K hK=>?_;go_simp
     refine (za HC2 _ hHeld.1).mono ?_;rintro e wX ⟨rfl,bX⟩;refine hK.out _ _ ?_ (fun hHeld=>?_)
     ·exact za MK _ (hHeld.1.trans (bX.mono hHeld.1.size))
     clear hK K
     try simp only [Act.put,kBs]
     refine TB 30 ?_;refine TB 31 ?_;refine wpAnyH_done (by kernel_rfl) ?_ _;have bb:=hbel2.trans (hHeld.1.mono hbel2.size);have VV:=hide ((za V2).call hHeld.1);have XX:=hide ((za X2).call hHeld.1);clear hHeld MK hbel2 V2 X2;clear x0 x1 x2 w0 w1 w2 w3;go_wp2
     go_loopw [5] (fun i2 w2=>∃j:Nat,j≤k∧i2= .int .i64 (j:Int)∧Below w.heap.size w w2∧Hid (Mem.Blk w2 w.heap.size #[.slice ia N.length ic, .slice (some ⟨g,o,none⟩) M.length mc, .slice ha H.length hc, .int .i64 next] 32)∧Hid (Mem.Blk w2 X #[.string t.p, .int .i64 t.i, .bool false] 49)∧Hid (∀ (j':Nat),j'<j→∀q,M[j']? =some q→q.i≠t.i)) (fun i2 _=>k - (intOf i2).toNat)
     case atStart=>exact ⟨0,Nat.zero_le _,rfl,bb,VV,XX,fun j' h=>absurd h (by omega)⟩
     case round=>
      obtain ⟨j,hj,rfl,hb2,V3,X3,HN⟩:=hrel;clear bb VV XX;have a1:=(za V3).cell 1;have y1:=(za X3).cell 1;simp only [kGs] at a1 y1;by_cases hjk:j<k
      ·exact absurd hjk (by omega)
      ·have v1:¬ (j:Int)<(k:Int):=by omega
       have HA2:Hid (∀j,j<k+1→Pl.zg8 ids M j=true):=fun j' hj'=>by
        rcases Nat.lt_succ_iff_lt_or_eq.1 hj' with h|h
        ·exact za HA j' h
        ·rw [h,za HSTEP,za HAL1 (fun j2 h2 q2 hq2=>za HN j2 (by omega) q2 hq2)];simp [hR2]
       go_wp2
       go_roundw
       case rel=>exact ⟨k+1,by omega,by go_num,hb2,V3,HA2⟩
       case measure=>simp [intOf];omega
   ·have z1:(0:Int)<(k:Int):=by omega
    have z4:0<k:=by omega
    obtain ⟨k',hk'⟩:∃k',k=k'+1:=⟨k - 1,by omega⟩;obtain ⟨p,hp⟩:∃n,M[k']? =some n:=⟨_,List.getElem?_eq_getElem (by omega)⟩;have HSTEP:=hide (za HS1 k' p hk' hp);obtain ⟨g',o',e',hg',q0, -, -⟩:=(za HV) k' p hp;cases e'
    have pp:=(hbel2.cell (p:=⟨g,_,none⟩) hg).trans q0;have hwk:IntKind.i64.wrap ((k:Int) - 1)=(k':Int):=by simp only [IntKind.wrap_i64];omega
    have z2:(k':Int)<(M.length:Int):=by omega
    have z3:(0:Int)≤(k':Int):=by omega
    have hgl:Hid (g<wZ.heap.size):=hide (World.block_lt_of_cell? wZ ⟨g,_,none⟩ pp);have HKE:=hide hk';have HC4:=hide (fun W=>zd1.less1_any p.p t.p W (za HPP k' p (by omega) hp) hPL);clear q0 hp hk' hk0;generalize Pl.za7 (Pl.names p.p) (Pl.names t.p)=hp2 at HC4 HSTEP;cases hp2
    ·skip
     have HE0:Hid (RB=false):=hide (za HNO (by rw [za HSTEP];simp))
     have MK:Hid (∀W',Below wZ.heap.size wZ W'→(Below wZ.heap.size wZ W'∧W'.cell? ⟨X,0,none⟩=some (.string t.p)∧W'.cell? ⟨X,1,none⟩=some (.int .i64 t.i)∧W'.cell? ⟨X,2,none⟩=some (.bool false)∧W'.cell? ⟨w.heap.size,0,none⟩=some (.slice ia N.length ic)∧W'.cell? ⟨w.heap.size,1,none⟩=some (.slice (some ⟨g,o,none⟩) M.length mc)∧W'.cell? ⟨w.heap.size,2,none⟩=some (.slice ha H.length hc)∧W'.cell? ⟨w.heap.size,3,none⟩=some (.int .i64 next)∧W'.cell? ⟨g,o+k'*3,none⟩=some (.string p.p))):=fun W' hb=>⟨hb,(hb.cell (p:=⟨_,_,none⟩) (za hXl)).trans x0,(hb.cell (p:=⟨_,_,none⟩) (za hXl)).trans x1,(hb.cell (p:=⟨_,_,none⟩) (za hXl)).trans x2,(hb.cell (p:=⟨_,_,none⟩) (za VZ)).trans w0,(hb.cell (p:=⟨_,_,none⟩) (za VZ)).trans w1,(hb.cell (p:=⟨_,_,none⟩) (za VZ)).trans w2,(hb.cell (p:=⟨_,_,none⟩) (za VZ)).trans w3,(hb.cell (p:=⟨_,_,none⟩) (za hgl)).trans pp⟩;go_wp2_with fail
     refine RG MK (bD _) fun hHeld=>?_;refine TB 0 ?_;refine TB 1 ?_;refine TB 2 ?_;refine TB 3 ?_;refine TB 4 ?_;refine RN 5 fun K hK=>?_;go_simp
     refine (za HC1 _).mono ?_;rintro e wX ⟨rfl,bX⟩;refine hK.out _ _ ?_ (fun hHeld=>?_)
     ·exact za MK _ (hHeld.1.trans (bX.mono hHeld.1.size))
     clear hK K
     try simp only [Act.put,kBs]
     refine TB 6 ?_;refine TB 7 ?_;refine TB 8 ?_;refine TB 9 ?_;refine TB 10 ?_;refine TB 11 ?_;refine TB 12 ?_;refine TB 13 ?_;refine TB 14 ?_;refine TB 15 ?_;refine TB 16 ?_;refine TB 17 ?_;refine TB 18 ?_;refine TB 19 ?_;refine TB 20 ?_;refine RN 21 fun K hK=>?_;go_simp
     refine (za HC4 _).mono ?_;rintro e wX ⟨rfl,bX⟩;refine hK.out _ _ ?_ (fun hHeld=>?_)
     ·exact za MK _ (hHeld.1.trans (bX.mono hHeld.1.size))
     clear hK K
     try simp only [Act.put,kBs]
     refine TB 22 ?_;refine TB 23 ?_;refine TB 24 ?_;refine TB 25 ?_;refine TC 26 ?_;refine TC 27 ?_;refine TC 28 ?_;refine TC 29 ?_;refine TC 30 ?_;refine TB 31 ?_;refine wpAnyH_done (by kernel_rfl) ?_ _;have bb:=hbel2.trans (hHeld.1.mono hbel2.size);have VV:=hide ((za V2).call hHeld.1);have XX:=hide ((za X2).call hHeld.1);clear hHeld MK hbel2 V2 X2;go_wp2
     go_ret
     exact ⟨by rw [za HE0];rfl,bb⟩
    ·skip
     by_cases hR:R<0
     ·have hR2:decide (R<0)=true:=by simpa using hR
      have HE0:Hid (RB=false):=hide (za HNO (by rw [za HSTEP];simp [hR2]))
      have MK:Hid (∀W',Below wZ.heap.size wZ W'→(Below wZ.heap.size wZ W'∧W'.cell? ⟨X,0,none⟩=some (.string t.p)∧W'.cell? ⟨X,1,none⟩=some (.int .i64 t.i)∧W'.cell? ⟨X,2,none⟩=some (.bool false)∧W'.cell? ⟨w.heap.size,0,none⟩=some (.slice ia N.length ic)∧W'.cell? ⟨w.heap.size,1,none⟩=some (.slice (some ⟨g,o,none⟩) M.length mc)∧W'.cell? ⟨w.heap.size,2,none⟩=some (.slice ha H.length hc)∧W'.cell? ⟨w.heap.size,3,none⟩=some (.int .i64 next)∧W'.cell? ⟨g,o+k'*3,none⟩=some (.string p.p))):=fun W' hb=>⟨hb,(hb.cell (p:=⟨_,_,none⟩) (za hXl)).trans x0,(hb.cell (p:=⟨_,_,none⟩) (za hXl)).trans x1,(hb.cell (p:=⟨_,_,none⟩) (za hXl)).trans x2,(hb.cell (p:=⟨_,_,none⟩) (za VZ)).trans w0,(hb.cell (p:=⟨_,_,none⟩) (za VZ)).trans w1,(hb.cell (p:=⟨_,_,none⟩) (za VZ)).trans w2,(hb.cell (p:=⟨_,_,none⟩) (za VZ)).trans w3,(hb.cell (p:=⟨_,_,none⟩) (za hgl)).trans pp⟩;go_wp2_with fail
      refine RG MK (bD _) fun hHeld=>?_;refine TB 0 ?_;refine TB 1 ?_;refine TB 2 ?_;refine TB 3 ?_;refine TB 4 ?_;refine RN 5 fun K hK=>?_;go_simp
      refine (za HC1 _).mono ?_;rintro e wX ⟨rfl,bX⟩;refine hK.out _ _ ?_ (fun hHeld=>?_)
      ·exact za MK _ (hHeld.1.trans (bX.mono hHeld.1.size))
      clear hK K
      try simp only [Act.put,kBs]
      refine TB 6 ?_;refine TB 7 ?_;refine TB 8 ?_;refine TB 9 ?_;refine TB 10 ?_;refine TB 11 ?_;refine TB 12 ?_;refine TB 13 ?_;refine TB 14 ?_;refine TB 15 ?_;refine TB 16 ?_;refine TB 17 ?_;refine TB 18 ?_;refine TB 19 ?_;refine TB 20 ?_;refine RN 21 fun K hK=>?_;go_simp
      refine (za HC4 _).mono ?_;rintro e wX ⟨rfl,bX⟩;refine hK.out _ _ ?_ (fun hHeld=>?_)
      ·exact za MK _ (hHeld.1.trans (bX.mono hHeld.1.size))
      clear hK K
      try simp only [Act.put,kBs]
      refine TB 22 ?_;refine TB 23 ?_;refine TB 24 ?_;refine TB 25 ?_;refine TB 26 ?_;refine TB 27 ?_;refine TB 28 ?_;refine RN 29 fun K hK=>?_;go_simp
      refine (za HC2 _ hHeld.1).mono ?_;rintro e wX ⟨rfl,bX⟩;refine hK.out _ _ ?_ (fun hHeld=>?_)
      ·exact za MK _ (hHeld.1.trans (bX.mono hHeld.1.size))
      clear hK K
      try simp only [Act.put,kBs]
      refine TB 30 ?_;refine TB 31 ?_;refine wpAnyH_done (by kernel_rfl) ?_ _;have bb:=hbel2.trans (hHeld.1.mono hbel2.size);have VV:=hide ((za V2).call hHeld.1);have XX:=hide ((za X2).call hHeld.1);clear hHeld MK hbel2 V2 X2;go_wp2
      go_ret
      exact ⟨by rw [za HE0];rfl,bb⟩
     ·have hR2:decide (R<0)=false:=by simpa using hR
      have MK:Hid (∀W',Below wZ.heap.size wZ W'→(Below wZ.heap.size wZ W'∧W'.cell? ⟨X,0,none⟩=some (.string t.p)∧W'.cell? ⟨X,1,none⟩=some (.int .i64 t.i)∧W'.cell? ⟨X,2,none⟩=some (.bool false)∧W'.cell? ⟨w.heap.size,0,none⟩=some (.slice ia N.length ic)∧W'.cell? ⟨w.heap.size,1,none⟩=some (.slice (some ⟨g,o,none⟩) M.length mc)∧W'.cell? ⟨w.heap.size,2,none⟩=some (.slice ha H.length hc)∧W'.cell? ⟨w.heap.size,3,none⟩=some (.int .i64 next)∧W'.cell? ⟨g,o+k'*3,none⟩=some (.string p.p))):=fun W' hb=>⟨hb,(hb.cell (p:=⟨_,_,none⟩) (za hXl)).trans x0,(hb.cell (p:=⟨_,_,none⟩) (za hXl)).trans x1,(hb.cell (p:=⟨_,_,none⟩) (za hXl)).trans x2,(hb.cell (p:=⟨_,_,none⟩) (za VZ)).trans w0,(hb.cell (p:=⟨_,_,none⟩) (za VZ)).trans w1,(hb.cell (p:=⟨_,_,none⟩) (za VZ)).trans w2,(hb.cell (p:=⟨_,_,none⟩) (za VZ)).trans w3,(hb.cell (p:=⟨_,_,none⟩) (za hgl)).trans pp⟩;go_wp2_with fail
      refine RG MK (bD _) fun hHeld=>?_;refine TB 0 ?_;refine TB 1 ?_;refine TB 2 ?_;refine TB 3 ?_;refine TB 4 ?_;refine RN 5 fun K hK=>?_;go_simp
      refine (za HC1 _).mono ?_;rintro e wX ⟨rfl,bX⟩;refine hK.out _ _ ?_ (fun hHeld=>?_)
      ·exact za MK _ (hHeld.1.trans (bX.mono hHeld.1.size))
      clear hK K
      try simp only [Act.put,kBs]
      refine TB 6 ?_;refine TB 7 ?_;refine TB 8 ?_;refine TB 9 ?_;refine TB 10 ?_;refine TB 11 ?_;refine TB 12 ?_;refine TB 13 ?_;refine TB 14 ?_;refine TB 15 ?_;refine TB 16 ?_;refine TB 17 ?_;refine TB 18 ?_;refine TB 19 ?_;refine TB 20 ?_;refine RN 21 fun K hK=>?_;go_simp
      refine (za HC4 _).mono ?_;rintro e wX ⟨rfl,bX⟩;refine hK.out _ _ ?_ (fun hHeld=>?_)
      ·exact za MK _ (hHeld.1.trans (bX.mono hHeld.1.size))
      clear hK K
      try simp only [Act.put,kBs]
      refine TB 22 ?_;refine TB 23 ?_;refine TB 24 ?_;refine TB 25 ?_;refine TB 26 ?_;refine TB 27 ?_;refine TB 28 ?_;refine RN 29 fun K hK=>?_;go_simp
      refine (za HC2 _ hHeld.1).mono ?_;rintro e wX ⟨rfl,bX⟩;refine hK.out _ _ ?_ (fun hHeld=>?_)
      ·exact za MK _ (hHeld.1.trans (bX.mono hHeld.1.size))
      clear hK K
      try simp only [Act.put,kBs]
      refine TB 30 ?_;refine TB 31 ?_;refine wpAnyH_done (by kernel_rfl) ?_ _;have bb:=hbel2.trans (hHeld.1.mono hbel2.size);have VV:=hide ((za V2).call hHeld.1);have XX:=hide ((za X2).call hHeld.1);clear hHeld MK hbel2 V2 X2;clear x0 x1 x2 w0 w1 w2 w3 pp;go_wp2
      go_loopw [5] (fun i2 w2=>∃j:Nat,j≤k∧i2= .int .i64 (j:Int)∧Below w.heap.size w w2∧Hid (Mem.Blk w2 w.heap.size #[.slice ia N.length ic, .slice (some ⟨g,o,none⟩) M.length mc, .slice ha H.length hc, .int .i64 next] 32)∧Hid (Mem.Blk w2 X #[.string t.p, .int .i64 t.i, .bool false] 49)∧Hid (∀ (j':Nat),j'<j→∀q,M[j']? =some q→q.i≠t.i)) (fun i2 _=>k - (intOf i2).toNat)
      case atStart=>exact ⟨0,Nat.zero_le _,rfl,bb,VV,XX,fun j' h=>absurd h (by omega)⟩
      case round=>
       obtain ⟨j,hj,rfl,hb2,V3,X3,HN⟩:=hrel;clear bb VV XX;have a1:=(za V3).cell 1;have y1:=(za X3).cell 1;simp only [kGs] at a1 y1;by_cases hjk:j<k
       ·obtain ⟨q,hq⟩:∃n,M[j]? =some n:=⟨_,List.getElem?_eq_getElem (by omega)⟩;obtain ⟨g2,o2,e2,hg2,r0,r1,r2⟩:=(za HV) j q hq;cases e2
        have c1:=(hb2.cell (p:=⟨g,_,none⟩) hg).trans r1;have v1:(j:Int)<(k:Int):=by omega
        have v2:(j:Int)<(M.length:Int):=by omega
        have v3:(0:Int)≤(j:Int):=by omega
        have HQ:=hide hq;clear r0 r1 r2 hq;by_cases hqi:q.i=t.i
        ·have d1:(q.i==t.i)=true:=by simpa using hqi
         have d2:decide (q.i=t.i)=true:=by simpa using hqi
         have HE0:Hid (RB=false):=hide (za HNO (by rw [za HSTEP,za HAL0 j q hjk (za HQ) hqi,Bool.and_false]));clear hqi;go_wp2_with fail
         go_quiet (fail)
         go_wp2
         go_ret
         exact ⟨by rw [za HE0];rfl,Mem.below_drewN hb2 _⟩
        ·have d1:(q.i==t.i)=false:=by simpa using hqi
         have d2:decide (q.i=t.i)=false:=by simpa using hqi
         have HN2:Hid (∀ (j':Nat),j'<j+1→∀q,M[j']? =some q→q.i≠t.i):=fun j' h q' hq'=>by
          rcases Nat.lt_succ_iff_lt_or_eq.1 h with h|h
          ·exact za HN j' h q' hq'
          ·subst h;rw [za HQ] at hq';cases hq';exact hqi
         clear HQ HN;go_wp2_with fail
         go_quiet (fail)
         go_wp2
         go_roundw
         case rel=>exact ⟨j+1,by omega,by go_num,Mem.below_drewN hb2 _,hide (za V3),hide (za X3),HN2⟩
         case measure=>simp [intOf];omega
       ·have v1:¬ (j:Int)<(k:Int):=by omega
        have HA2:Hid (∀j,j<k+1→Pl.zg8 ids M j=true):=fun j' hj'=>by
         rcases Nat.lt_succ_iff_lt_or_eq.1 hj' with h|h
         ·exact za HA j' h
         ·rw [h,za HSTEP,za HAL1 (fun j2 h2 q2 hq2=>za HN j2 (by omega) q2 hq2)];simp [hR2]
        go_wp2
        go_roundw
        case rel=>exact ⟨k+1,by omega,by go_num,hb2,V3,HA2⟩
        case measure=>simp [intOf];omega
  ·have u1:¬ (k:Int)<(M.length:Int):=by omega
   have HE:Hid (RB=true):=hide (by rw [za HR1];exact Pl.zw9 (fun j hj=>za HA j (by omega)));go_wp2
   go_ret
   exact ⟨by rw [za HE];rfl,hbel⟩
end WSp
end Go.Proofs.YtbomeifgfalmdaaGreatDoor
