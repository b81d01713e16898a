import Derived.Test.YtbomeifgfalmdaaGreatDoorG10
import Derived.Test.YtbomeifgfalmdaaGreatDoorG20
set_option linter.unusedSimpArgs false
namespace Go.Proofs.YtbomeifgfalmdaaGreatDoor
open Go.RowKit Go.Maps
namespace WSpI
theorem twice_is (M:List Pl.Mn) (m:Pl.Mn):Pl.zs5 M m=M.any (other m):=rfl
set_option maxRecDepth 100000 in
set_option maxHeartbeats 800000 in
theorem twice_any (q:Nat) (ma:Option Addr) (mc:Nat) (M:List Pl.Mn) (ha:Option Addr) (hc:Nat) (H:List Pl.Hn) (next :Int) (m:Pl.Mn) (w:World) (hl:M.length≤1048576) (hm:Mem.zc6 w ma M):
  Calls Tryz.prog 136 #[.agg #[.map (some q), .slice ma M.length mc, .slice ha H.length hc, .int .i64 next], .agg #[.string m.p, .int .i64 m.i, .bool m.z]] w fun e w'=>e= .returned (.bool (Pl.zs5 M m))∧Below w.heap.size w w':=by
 have hmf:∀ (fn:Fn) (first cap:Array Value) (w:World),(Instr.makeFunc fn first cap).run Tryz.prog w= .ok (.func fn first cap) w:=fun _ _ _ _=>rfl;have b0:Below w.heap.size w ((w.alloc (.cells #[.map (some q), .slice ma M.length mc, .slice ha H.length hc, .int .i64 next] 65)).alloc (.cells #[.string m.p, .int .i64 m.i, .bool m.z] 49)):=(bE0).alloc (by simp) _;have V:=(Mem.Blk.new w #[.map (some q), .slice ma M.length mc, .slice ha H.length hc, .int .i64 next] 65).alloc (.cells #[.string m.p, .int .i64 m.i, .bool m.z] 49);have X:Mem.Blk ((w.alloc (.cells #[.map (some q), .slice ma M.length mc, .slice ha H.length hc, .int .i64 next] 65)).alloc (.cells #[.string m.p, .int .i64 m.i, .bool m.z] 49)) (w.heap.size+1) #[.string m.p, .int .i64 m.i, .bool m.z] 49:=Mem.zh9 _ _ _
 have hcon:=hide (contains_any 159 (.pointer (some ⟨w.heap.size+1,0,none⟩)) (other m) ma mc M _ hl (Mem.zf0 hm b0) (fun t W=>by kernel_rfl) (fun t _ W b=>other_any m t (w.heap.size+1) W (X.call b)));have a1:=V.cell 1;simp only [kGs] at a1;rw [twice_is];generalize M.any (other m)=R at hcon ⊢;clear V X hm;go_enter Tryz.func136,Tryz.ntmps136
 go_wp2_with fail
 refine (za hcon).mono ?_;rintro e w1 ⟨rfl,bX⟩;have bb:=b0.trans (bX.mono b0.size);go_wp2
 go_ret
 exact ⟨rfl,bb⟩
set_option maxRecDepth 100000 in
set_option maxHeartbeats 4000000 in
theorem yc6 (q:Nat) (E:List (Int × Pl.Nv)) (n:Nat) (ma:Option Addr) (mc:Nat) (M:List Pl.Mn) (ha:Option Addr) (hc:Nat) (H:List Pl.Hn) (next :Int) (w:World) (hl:M.length≤1048576) (hm:Mem.zc6 w ma M) (hP:∀m∈M,m.p.size≤1048576∧MapI.i64 m.i)
  (hE:E.Pairwise (fun a b=>a.1≠b.1)) (hown:w.ownsMap Tryz.prog 2 MapI.elem q n (MapI.mapOf (Pl.vals E))):
  Calls Tryz.prog 110 #[.agg #[.map (some q), .slice ma M.length mc, .slice ha H.length hc, .int .i64 next]] w fun e w'=>e= .returned (.bool (Pl.zl5 (E.map (·.1)) M))∧Below w.heap.size w w':=by
 have HL:=hide (fun d=>Pl.zy1 hE d);have HO:=hide hown;have HV:=hide hm;have HP:=hide hP;have HTW:=hide (fun W (b:Below w.heap.size w W) m=>twice_any q ma mc M ha hc H next m W hl (Mem.zf0 hm b));generalize hids:E.map (·.1)=ids at HL ⊢;have b0:=(Below.refl w.heap.size w).alloc (o:= .cells #[.map (some q), .slice ma M.length mc, .slice ha H.length hc, .int .i64 next] 65) (Nat.le_refl _);have V0:=hide (Mem.Blk.new w #[.map (some q), .slice ma M.length mc, .slice ha H.length hc, .int .i64 next] 65);have a1:=(za V0).cell 1;simp only [kGs] at a1;clear hm hP hown hE hids;by_cases h0:M.length=0
 ·have z0:((M.length:Int)==0)=true:=by simp [h0]
  have e0:Pl.zl5 ids M=false:=by rw [List.length_eq_zero_iff.1 h0];rfl
  rw [e0];clear HV HP HL HO HTW h0;go_enter Tryz.func110,Tryz.ntmps110
  go_wp2
  go_ret
  exact ⟨rfl,b0⟩
 have z0:((M.length:Int)==0)=false:=by rw [beq_eq_false_iff_ne];omega
 have z1:(0:Int)<(M.length:Int):=by omega
 obtain ⟨m0,hm0⟩:∃n,M[0]? =some n:=⟨_,List.getElem?_eq_getElem (by omega)⟩;obtain ⟨g,o,rfl,hg,q0, -, -⟩:=(za HV) 0 m0 hm0
 have HR0:Hid (Pl.zl5 ids M=(decide (m0.p.size=0)&&(List.range M.length).all (Pl.zk8 ids M))):=hide (by
  unfold Pl.zl5;cases M with
  |nil=>simp at hm0
  |cons a r=>cases hm0;rfl)
 have p0:=(b0.cell (p:=⟨g,_,none⟩) hg).trans q0;simp only [Nat.zero_mul,Nat.add_zero] at p0;generalize Pl.zl5 ids M=RB at HR0 ⊢;clear q0 hm0;by_cases hz:m0.p.size=0
 case neg=>
  have hz2:m0.p≠⟨#[]⟩:=fun e=>hz (by rw [e];rfl);have hz3:m0.p.toList.isEmpty=false:=by rw [Pl.zb7];simp;exact fun e=>hz2 (Pl.ze4 e)
  have hz4:(m0.p.toList==[])=false:=by rw [Pl.list_is];simp;exact fun e=>hz2 (Pl.ze4 e)
  have HE0:Hid (RB=false):=hide (by rw [za HR0,decide_eq_false hz];rfl);clear HV HP HL HO HTW HR0;go_enter Tryz.func110,Tryz.ntmps110
  go_wp2
  go_ret
  exact ⟨by rw [za HE0];rfl,b0⟩
 have hz2:m0.p=⟨#[]⟩:=ByteArray.ext (Array.eq_empty_of_size_eq_zero hz);have HR1:Hid (RB=(List.range M.length).all (Pl.zk8 ids M)):=hide (by rw [za HR0,decide_eq_true hz];rfl);rw [hz2] at p0;clear HR0 hz hz2;go_enter Tryz.func110,Tryz.ntmps110
 go_wp2
 go_loopw [22] (fun i wr=>∃k:Nat,k≤M.length∧i= .int .i64 (k:Int)∧Below w.heap.size w wr∧Hid (Mem.Blk wr w.heap.size #[.map (some q), .slice (some ⟨g,o,none⟩) M.length mc, .slice ha H.length hc, .int .i64 next] 65)∧Hid (∀j,j<k→Pl.zk8 ids M j=true)) (fun i _=>M.length - (intOf i).toNat)
 case atStart=>exact ⟨0,Nat.zero_le _,rfl,b0,V0,fun j h=>absurd h (by omega)⟩
 case round=>
  obtain ⟨k,hk,rfl,hbel,V,HA⟩:=hrel;clear V0 b0 a1 p0;by_cases hlt:k<M.length
  ·obtain ⟨t,ht⟩:∃n,M[k]? =some n:=⟨_,List.getElem?_eq_getElem hlt⟩;obtain ⟨g2,o2,e2, -,q0,q1,q2⟩:=(za HV) k t ht;cases e2
   have HNO:Hid (Pl.zk8 ids M k=false→RB=false):=hide (fun h=>by rw [za HR1];exact Pl.ya3 hlt h);have u1:(k:Int)<(M.length:Int):=by omega
   have u3:(0:Int)≤(k:Int):=by omega
   have b2:Below wr.heap.size wr (wr.alloc (.cells #[.string t.p, .int .i64 t.i, .bool t.z] 49)):=bE0;have hbel2:=hbel.trans (b2.mono hbel.size);have c0:=(hbel.cell (p:=⟨g,_,none⟩) hg).trans q0;have c1:=(hbel.cell (p:=⟨g,_,none⟩) hg).trans q1;have c2:=(hbel.cell (p:=⟨g,_,none⟩) hg).trans q2;have X2:=hide (Mem.Blk.new wr #[.string t.p, .int .i64 t.i, .bool t.z] 49);have V2:=hide ((za V).call b2);obtain ⟨hpz,hpi⟩:=za HP t (List.mem_of_getElem? ht);have hkey:=MapI.zo0 hpi;clear q0 q1 q2 b2 V hpi;go_upto_region 6 with fail
   generalize wr.alloc (.cells #[.string t.p, .int .i64 t.i, .bool t.z] 49)=wZ at hbel2 V2 X2 ⊢;generalize wr.heap.size=X at X2 ⊢;have HS0:Hid (k=0→Pl.zk8 ids M k=(true&&decide (t.i∈ids)&&!t.z&&!Pl.zs5 M t)):=hide (fun e=>by subst e;unfold Pl.zk8;rw [ht]);have HS1:Hid (∀k' p,k=k'+1→M[k']? =some p→Pl.zk8 ids M k=(Pl.ltP p.p t.p&&decide (t.i∈ids)&&!t.z&&!Pl.zs5 M t)):=hide (fun k' p e hp=>by subst e;unfold Pl.zk8;rw [ht];simp only [hp]);obtain ⟨x0,x1,x2⟩:=jc3 (za X2);have w2:=(za V2).cell 2;have w3:=(za V2).cell 3;have w0:=(za V2).cell 0;have w1:=(za V2).cell 1;simp only [kGs] at w2 w3 w0 w1;have VZ:=hide (za V2).lt;have hXl:Hid (X<wZ.heap.size):=hide (World.block_lt_of_cell? wZ ⟨X,0,none⟩ x0);obtain ⟨hhas,hat⟩:=za HL t.i;have HHAS:=hide hhas;have HAT:=hide hat;clear hhas hat hbel c0 c1 c2;by_cases hk0:k=0
   ·have z1:¬ (0:Int)<(k:Int):=by omega
    have HSTEP:=hide (za HS0 hk0);clear HS0 HS1;have MK:Hid (∀W',Below wZ.heap.size wZ W'→(Below wZ.heap.size wZ W'∧W'.cell? ⟨X,0,none⟩=some (.string t.p)∧W'.cell? ⟨X,1,none⟩=some (.int .i64 t.i)∧W'.cell? ⟨X,2,none⟩=some (.bool t.z)∧W'.cell? ⟨w.heap.size,0,none⟩=some (.map (some q))∧W'.cell? ⟨w.heap.size,1,none⟩=some (.slice (some ⟨g,o,none⟩) M.length mc)∧W'.cell? ⟨w.heap.size,2,none⟩=some (.slice ha H.length hc)∧W'.cell? ⟨w.heap.size,3,none⟩=some (.int .i64 next))):=fun W' hb=>⟨hb,(hb.cell (p:=⟨_,_,none⟩) (za hXl)).trans x0,(hb.cell (p:=⟨_,_,none⟩) (za hXl)).trans x1,(hb.cell (p:=⟨_,_,none⟩) (za hXl)).trans x2,(hb.cell (p:=⟨_,_,none⟩) (za VZ)).trans w0,(hb.cell (p:=⟨_,_,none⟩) (za VZ)).trans w1,(hb.cell (p:=⟨_,_,none⟩) (za VZ)).trans w2,(hb.cell (p:=⟨_,_,none⟩) (za VZ)).trans w3⟩;go_wp2_with fail
    refine RG MK (bD _) fun hHeld=>?_;refine TB 0 ?_;refine TB 1 ?_;refine TB 2 ?_;refine TC 3 ?_;refine TC 4 ?_;refine TC 5 ?_;refine TC 6 ?_;refine TC 7 ?_;refine TC 8 ?_;refine TC 9 ?_;refine TC 10 ?_;refine TC 11 ?_;refine TC 12 ?_;refine TC 13 ?_;refine TB 14 ?_;refine wpAnyH_done (by kernel_rfl) ?_ _;have bb:=hbel2.trans (hHeld.1.mono hbel2.size);have VV:=hide ((za V2).call hHeld.1);have XX:=hide ((za X2).call hHeld.1);clear hHeld MK hbel2 V2 X2 x0 x1 x2 w0 w1 w2 w3;generalize wZ.drew=wX at bb VV XX ⊢;have HM2:=hide (MapI.zf9 (za HO) bb);obtain ⟨a0,a1,a2,a3⟩:=jc4 (za VV);obtain ⟨y0,y1,y2⟩:=jc3 (za XX);generalize hNV:Pl.getN E t.i=nv at HAT;clear hNV;by_cases hin:t.i∈ids
    case neg=>
     have HE0:Hid (RB=false):=hide (za HNO (by rw [za HSTEP,decide_eq_false hin];simp));rw [decide_eq_false hin] at HHAS;go_wp2_with (at_lookup;refine MapI.look_ok _ rfl _ _ 63 rfl 2 135 MapI.law Tryz.underlying63 _ (Pl.zx3 _) q n _ rfl (za HM2) _ _ rfl hkey _ (za HAT) false (za HHAS) ?_)
     have b5:=bb.alloc (o:= .cells #[.map nv.m, .int .i64 nv.n, .slice nv.a nv.n nv.cap] 135) bb.size;go_wp2
     go_ret
     exact ⟨by rw [za HE0];rfl,b5⟩
    rw [decide_eq_true hin] at HHAS HSTEP;go_upto_region 9 with (at_lookup;refine MapI.look_ok _ rfl _ _ 63 rfl 2 135 MapI.law Tryz.underlying63 _ (Pl.zx3 _) q n _ rfl (za HM2) _ _ rfl hkey _ (za HAT) true (za HHAS) ?_)
    have b5:=bb.alloc (o:= .cells #[.map nv.m, .int .i64 nv.n, .slice nv.a nv.n nv.cap] 135) bb.size;have V5:=(za VV).alloc (.cells #[.map nv.m, .int .i64 nv.n, .slice nv.a nv.n nv.cap] 135);have X5:=(za XX).alloc (.cells #[.map nv.m, .int .i64 nv.n, .slice nv.a nv.n nv.cap] 135);generalize wX.alloc (.cells #[.map nv.m, .int .i64 nv.n, .slice nv.a nv.n nv.cap] 135)=wY at b5 V5 X5 ⊢;have HT1:=hide (za HTW _ b5 t);clear a0 a1 a2 a3 y0 y1 y2;obtain ⟨a0,a1,a2,a3⟩:=jc4 V5;obtain ⟨y0,y1,y2⟩:=jc3 X5;have V6:=hide V5;clear V5 X5 VV XX HM2 HHAS HAT;cases htz:t.z
    case true=>
     have HE0:Hid (RB=false):=hide (za HNO (by rw [za HSTEP,htz];simp));rw [htz] at y2;go_wp2
     go_ret
     exact ⟨by rw [za HE0];rfl,b5⟩
    rw [htz] at y2 HT1 HSTEP;go_wp2_with fail
    refine (za HT1).mono ?_;rintro e w6 ⟨rfl,bX⟩;have b6:=b5.trans (bX.mono b5.size);have V7:=hide ((za V6).call bX);clear b5 bX V6 HT1 a0 a1 a2 a3 y0 y1 y2;cases htw:Pl.zs5 M t
    case true=>
     have HE0:Hid (RB=false):=hide (za HNO (by rw [za HSTEP,htw];simp));go_wp2
     go_ret
     exact ⟨by rw [za HE0];rfl,b6⟩
    have HA2:Hid (∀j,j<k+1→Pl.zk8 ids M j=true):=fun j hj=>by
     rcases Nat.lt_succ_iff_lt_or_eq.1 hj with h|h
     ·exact za HA j h
     ·rw [h,za HSTEP,htw];rfl
    go_wp2
    go_roundw
    case rel=>exact ⟨k+1,by omega,by go_num,b6,V7,HA2⟩
    case measure=>simp [intOf];omega
   ·have z1:(0:Int)<(k:Int):=by omega
    have z4:0<k:=by omega
    obtain ⟨k',hk'⟩:∃k',k=k'+1:=⟨k - 1,by omega⟩;obtain ⟨p,hp⟩:∃n,M[k']? =some n:=⟨_,List.getElem?_eq_getElem (by omega)⟩;have HSTEP:=hide (za HS1 k' p hk' hp);obtain ⟨g',o',e',hg',q0, -, -⟩:=(za HV) k' p hp;cases e'
    have pp:=(hbel2.cell (p:=⟨g,_,none⟩) hg).trans q0;have hwk:IntKind.i64.wrap ((k:Int) - 1)=(k':Int):=by simp only [IntKind.wrap_i64];omega
    have z2:(k':Int)<(M.length:Int):=by omega
    have z3:(0:Int)≤(k':Int):=by omega
    have hgl:Hid (g<wZ.heap.size):=hide (World.block_lt_of_cell? wZ ⟨g,_,none⟩ pp);have HC4:=hide (fun W=>WLess.less_any p.p t.p W (za HP p (List.mem_of_getElem? hp)).1 hpz);rw [show (Pl.za0 p.p&&Pl.za0 t.p&&Pl.za7 (Pl.za6 p.p) (Pl.za6 t.p))=Pl.ltP p.p t.p from rfl] at HC4;have HKE:=hide hk';clear q0 hp hk' hk0 HS0 HS1;generalize Pl.ltP p.p t.p=lt at HC4 HSTEP;cases lt
    ·skip
     have HE0:Hid (RB=false):=hide (za HNO (by rw [za HSTEP];simp));have MK:Hid (∀W',Below wZ.heap.size wZ W'→(Below wZ.heap.size wZ W'∧W'.cell? ⟨X,0,none⟩=some (.string t.p)∧W'.cell? ⟨X,1,none⟩=some (.int .i64 t.i)∧W'.cell? ⟨X,2,none⟩=some (.bool t.z)∧W'.cell? ⟨w.heap.size,0,none⟩=some (.map (some q))∧W'.cell? ⟨w.heap.size,1,none⟩=some (.slice (some ⟨g,o,none⟩) M.length mc)∧W'.cell? ⟨w.heap.size,2,none⟩=some (.slice ha H.length hc)∧W'.cell? ⟨w.heap.size,3,none⟩=some (.int .i64 next)∧W'.cell? ⟨g,o+k'*3,none⟩=some (.string p.p))):=fun W' hb=>⟨hb,(hb.cell (p:=⟨_,_,none⟩) (za hXl)).trans x0,(hb.cell (p:=⟨_,_,none⟩) (za hXl)).trans x1,(hb.cell (p:=⟨_,_,none⟩) (za hXl)).trans x2,(hb.cell (p:=⟨_,_,none⟩) (za VZ)).trans w0,(hb.cell (p:=⟨_,_,none⟩) (za VZ)).trans w1,(hb.cell (p:=⟨_,_,none⟩) (za VZ)).trans w2,(hb.cell (p:=⟨_,_,none⟩) (za VZ)).trans w3,(hb.cell (p:=⟨_,_,none⟩) (za hgl)).trans pp⟩
     go_wp2_with fail
     refine RG MK (bD _) fun hHeld=>?_;refine TB 0 ?_;refine TB 1 ?_;refine TB 2 ?_;refine TB 3 ?_;refine TB 4 ?_;refine TB 5 ?_;refine TB 6 ?_;refine TB 7 ?_;refine TB 8 ?_;refine TB 9 ?_;refine TB 10 ?_;refine TB 11 ?_;refine RN 12 fun K hK=>?_;go_simp
     refine (za HC4 _).mono ?_;rintro e wX ⟨rfl,bX⟩;refine hK.out _ _ ?_ (fun hHeld=>?_)
     ·exact za MK _ (hHeld.1.trans (bX.mono hHeld.1.size))
     clear hK K
     try simp only [Act.put,kBs]
     refine TB 13 ?_;refine TB 14 ?_;refine wpAnyH_done (by kernel_rfl) ?_ _;have bb:=hbel2.trans (hHeld.1.mono hbel2.size);have VV:=hide ((za V2).call hHeld.1);have XX:=hide ((za X2).call hHeld.1);clear hHeld MK hbel2 V2 X2 x0 x1 x2 w0 w1 w2 w3;go_wp2
     go_ret
     exact ⟨by rw [za HE0];rfl,bb⟩
    ·skip
     have MK:Hid (∀W',Below wZ.heap.size wZ W'→(Below wZ.heap.size wZ W'∧W'.cell? ⟨X,0,none⟩=some (.string t.p)∧W'.cell? ⟨X,1,none⟩=some (.int .i64 t.i)∧W'.cell? ⟨X,2,none⟩=some (.bool t.z)∧W'.cell? ⟨w.heap.size,0,none⟩=some (.map (some q))∧W'.cell? ⟨w.heap.size,1,none⟩=some (.slice (some ⟨g,o,none⟩) M.length mc)∧W'.cell? ⟨w.heap.size,2,none⟩=some (.slice ha H.length hc)∧W'.cell? ⟨w.heap.size,3,none⟩=some (.int .i64 next)∧W'.cell? ⟨g,o+k'*3,none⟩=some (.string p.p))):=fun W' hb=>⟨hb,(hb.cell (p:=⟨_,_,none⟩) (za hXl)).trans x0,(hb.cell (p:=⟨_,_,none⟩) (za hXl)).trans x1,(hb.cell (p:=⟨_,_,none⟩) (za hXl)).trans x2,(hb.cell (p:=⟨_,_,none⟩) (za VZ)).trans w0,(hb.cell (p:=⟨_,_,none⟩) (za VZ)).trans w1,(hb.cell (p:=⟨_,_,none⟩) (za VZ)).trans w2,(hb.cell (p:=⟨_,_,none⟩) (za VZ)).trans w3,(hb.cell (p:=⟨_,_,none⟩) (za hgl)).trans pp⟩;go_wp2_with fail
     refine RG MK (bD _) fun hHeld=>?_;refine TB 0 ?_;refine TB 1 ?_;refine TB 2 ?_;refine TB 3 ?_;refine TB 4 ?_;refine TB 5 ?_;refine TB 6 ?_;refine TB 7 ?_;refine TB 8 ?_;refine TB 9 ?_;refine TB 10 ?_;refine TB 11 ?_;refine RN 12 fun K hK=>?_;go_simp
     refine (za HC4 _).mono ?_;rintro e wX ⟨rfl,bX⟩;refine hK.out _ _ ?_ (fun hHeld=>?_)
     ·exact za MK _ (hHeld.1.trans (bX.mono hHeld.1.size))
     clear hK K
     try simp only [Act.put,kBs]
     refine TB 13 ?_;refine TB 14 ?_;refine wpAnyH_done (by kernel_rfl) ?_ _;have bb:=hbel2.trans (hHeld.1.mono hbel2.size);have VV:=hide ((za V2).call hHeld.1);have XX:=hide ((za X2).call hHeld.1);clear hHeld MK hbel2 V2 X2 x0 x1 x2 w0 w1 w2 w3;have HM2:=hide (MapI.zf9 (za HO) bb);obtain ⟨a0,a1,a2,a3⟩:=jc4 (za VV);obtain ⟨y0,y1,y2⟩:=jc3 (za XX);generalize hNV:Pl.getN E t.i=nv at HAT;clear hNV;by_cases hin:t.i∈ids
     case neg=>
      have HE0:Hid (RB=false):=hide (za HNO (by rw [za HSTEP,decide_eq_false hin];simp));rw [decide_eq_false hin] at HHAS;go_wp2_with (at_lookup;refine MapI.look_ok _ rfl _ _ 63 rfl 2 135 MapI.law Tryz.underlying63 _ (Pl.zx3 _) q n _ rfl (za HM2) _ _ rfl hkey _ (za HAT) false (za HHAS) ?_)
      have b5:=bb.alloc (o:= .cells #[.map nv.m, .int .i64 nv.n, .slice nv.a nv.n nv.cap] 135) bb.size;go_wp2
      go_ret
      exact ⟨by rw [za HE0];rfl,b5⟩
     rw [decide_eq_true hin] at HHAS HSTEP;go_upto_region 9 with (at_lookup;refine MapI.look_ok _ rfl _ _ 63 rfl 2 135 MapI.law Tryz.underlying63 _ (Pl.zx3 _) q n _ rfl (za HM2) _ _ rfl hkey _ (za HAT) true (za HHAS) ?_)
     have b5:=bb.alloc (o:= .cells #[.map nv.m, .int .i64 nv.n, .slice nv.a nv.n nv.cap] 135) bb.size;have V5:=(za VV).alloc (.cells #[.map nv.m, .int .i64 nv.n, .slice nv.a nv.n nv.cap] 135);have X5:=(za XX).alloc (.cells #[.map nv.m, .int .i64 nv.n, .slice nv.a nv.n nv.cap] 135);generalize wX.alloc (.cells #[.map nv.m, .int .i64 nv.n, .slice nv.a nv.n nv.cap] 135)=wY at b5 V5 X5 ⊢;have HT1:=hide (za HTW _ b5 t);clear a0 a1 a2 a3 y0 y1 y2;obtain ⟨a0,a1,a2,a3⟩:=jc4 V5;obtain ⟨y0,y1,y2⟩:=jc3 X5;have V6:=hide V5;clear V5 X5 VV XX HM2 HHAS HAT;cases htz:t.z
     case true=>
      have HE0:Hid (RB=false):=hide (za HNO (by rw [za HSTEP,htz];simp));rw [htz] at y2;go_wp2
      go_ret
      exact ⟨by rw [za HE0];rfl,b5⟩
     rw [htz] at y2 HT1 HSTEP;go_wp2_with fail
     refine (za HT1).mono ?_;rintro e w6 ⟨rfl,bX⟩;have b6:=b5.trans (bX.mono b5.size);have V7:=hide ((za V6).call bX);clear b5 bX V6 HT1 a0 a1 a2 a3 y0 y1 y2;cases htw:Pl.zs5 M t
     case true=>
      have HE0:Hid (RB=false):=hide (za HNO (by rw [za HSTEP,htw];simp));go_wp2
      go_ret
      exact ⟨by rw [za HE0];rfl,b6⟩
     have HA2:Hid (∀j,j<k+1→Pl.zk8 ids M j=true):=fun j hj=>by
      rcases Nat.lt_succ_iff_lt_or_eq.1 hj with h|h
      ·exact za HA j h
      ·rw [h,za HSTEP,htw];rfl
     go_wp2
     go_roundw
     case rel=>exact ⟨k+1,by omega,by go_num,b6,V7,HA2⟩
     case measure=>simp [intOf];omega
  ·have u1:¬ (k:Int)<(M.length:Int):=by omega
   have HE:Hid (RB=true):=hide (by rw [za HR1];exact Pl.zw9 (fun j hj=>za HA j (by omega)));go_wp2
   go_ret
   exact ⟨by rw [za HE];rfl,hbel⟩
end WSpI
end Go.Proofs.YtbomeifgfalmdaaGreatDoor
