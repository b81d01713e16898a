/- Several texts of one claim in one file: WUnder, WFace, WFaceB, WSpI11, WSpI12, WCodes, WVfs4, WVfsL3, WOwnI, WAllS, MemAppend, WMaxS, WPickA. -/
import Derived.Test.YtbomeifgfalmdaaGreatDoorPlainDetach
import Derived.Test.YtbomeifgfalmdaaGreatDoorWVfsL2
set_option maxRecDepth 100000
set_option linter.unusedSimpArgs false
set_option maxHeartbeats 4000000
namespace Go.Proofs.YtbomeifgfalmdaaGreatDoor
section
open Go.RowKit
namespace zw2
theorem zy8 (v u:Value) (A B:List ByteArray) (w:World) (hA:A.length≤1000) (hB:B.length≤1000) (hv:Mem.zd4 w v A) (hu:Mem.zd4 w u B):
  Calls Tryz.prog 140 #[v,u] w fun e w'=>e= .returned (.bool (Pl.zh1 A B))∧w'=w:=by
 obtain ⟨va,vc,rfl⟩:∃a cap,v= .slice a A.length cap:=by
  rcases hv with ⟨rfl,rfl⟩|⟨b,o,cap,rfl,_⟩ <;> exact ⟨_,_,rfl⟩
 obtain ⟨ua,uc,rfl⟩:∃a cap,u= .slice a B.length cap:=by
  rcases hu with ⟨rfl,rfl⟩|⟨b,o,cap,rfl,_⟩ <;> exact ⟨_,_,rfl⟩
 by_cases hlen:A.length<B.length
 ·have E:=hide (Pl.ye3 hlen);have t1:(A.length:Int)<(B.length:Int):=by omega
  go_enter Tryz.func140,Tryz.ntmps140
  go_wp2
  go_ret
  exact ⟨za1 (za E).symm,rfl⟩
 have t1:¬ (A.length:Int)<(B.length:Int):=by omega
 by_cases h0:B=[]
 ·subst h0;have E:Hid (Pl.zh1 A []=true):=(Pl.zp2 A []).2 (fun j t h=>by simp at h);go_enter Tryz.func140,Tryz.ntmps140
  go_wp2
  go_loop [14] (fun i=>i= .int .i64 0) (fun _=>0)
  case atStart=>rfl
  case round=>
   subst hrel;go_wp2
   go_ret
   exact ⟨za1 (za E).symm,rfl⟩
 rcases hu with ⟨_,rfl⟩|⟨b,o,cap,hv1,hb,hcb⟩
 ·exact absurd rfl h0
 rcases hv with ⟨_,rfl⟩|⟨b',o',cap',hv2,hb',hca⟩
 ·exact absurd (List.length_pos_iff.2 h0) (by simp at hlen;simp [hlen])
 cases hv1
 cases hv2
 have HA:=hide hca;have HB:=hide hcb;clear hca hcb;have HT:Hid ((∀ (j:Nat) t,B[j]? =some t→A[j]? =some t)→Pl.zh1 A B=true):=fun h=>(Pl.zp2 A B).2 h;have HF:Hid (∀ (j:Nat) a b,A[j]? =some a→B[j]? =some b→a≠b→Pl.zh1 A B=false):=fun j a b h1 h2 h3=>Pl.underR_not h1 h2 h3;generalize Pl.zh1 A B=R at HT HF ⊢;go_enter Tryz.func140,Tryz.ntmps140
 go_wp2
 go_loop [14] (fun i=>∃k:Nat,k≤B.length∧i= .int .i64 (k:Int)∧Hid (∀ (j:Nat) t,j<k→B[j]? =some t→A[j]? =some t)) (fun i=>B.length - (intOf i).toNat)
 case atStart=>exact ⟨0,Nat.zero_le _,rfl,fun j t h=>absurd h (by omega)⟩
 case round=>
  obtain ⟨k,hk,rfl,HS⟩:=hrel;by_cases hlt:k<B.length
  ·obtain ⟨y,hy⟩:∃y,B[k]? =some y:=⟨_,List.getElem?_eq_getElem hlt⟩;obtain ⟨x,hx⟩:∃x,A[k]? =some x:=⟨_,List.getElem?_eq_getElem (by omega)⟩;have hc1:=HB.out k y hy;have hc2:=HA.out k x hx;have hkA:k<A.length:=by omega
   by_cases hxy:x=y
   ·have t2:=Pl.zr0 hxy
    have HS2:Hid (∀ (j:Nat) t,j<k+1→B[j]? =some t→A[j]? =some t):=fun j t' hj h'=>by
     rcases Nat.lt_succ_iff_lt_or_eq.1 hj with h''|rfl
     ·exact HS.out j t' h'' h'
     ·rw [hy] at h';cases h';rw [hx,hxy]
    clear hx hy HS hxy;go_wp2
    go_round
    case rel=>exact ⟨k+1,by omega,by go_num,HS2⟩
    case measure=>simp [intOf];omega
   ·have t2:=Pl.zj8 hxy;have E:=hide (HF.out k x y hx hy hxy);clear hx hy HS hxy;go_wp2
    go_ret
    exact ⟨za1 (za E).symm,rfl⟩
  ·have E:=hide (HT.out (fun j t h=>HS.out j t (by have :=(List.getElem?_eq_some_iff.1 h).1;omega) h));go_wp2
   go_ret
   exact ⟨za1 (za E).symm,rfl⟩
end zw2
end
section
open Go.RowKit
namespace zh0
theorem zy8 (p t:ByteArray) (w:World) (hp:p.size≤1048576) (ht:t.size≤1048576):
  Calls Tryz.prog 114 #[.string p, .string t] w fun e w'=>e= .returned (.bool (Pl.za0 p&&Pl.za0 t&&Pl.zh1 (Pl.za6 p) (Pl.za6 t)))∧Below w.heap.size w w':=by
 have hn:=hide (fun W=>zw2.both_any p t W hp ht);have hA:=hide (Pl.ze p);have hB:=hide (Pl.ze t);generalize (Pl.za0 p&&Pl.za0 t)=r at hn ⊢;generalize Pl.za6 p=A at hn hA ⊢;generalize Pl.za6 t=B at hn hB ⊢;cases r
 ·go_enter Tryz.func114,Tryz.ntmps114
  go_wp2_with fail
  refine (za hn _).mono ?_;rintro e w1 ⟨v1,v2,m,rfl, -, -, -, -,hb⟩;go_wp2
  go_ret
  exact ⟨rfl,hb⟩
 ·go_enter Tryz.func114,Tryz.ntmps114
  go_wp2_with fail
  refine (za hn _).mono ?_;rintro e w1 ⟨v1,v2,m,rfl,h1,h2,h3,h4,hb⟩;have i1:=hide (Mem.zd7 h2);have i2:=hide (Mem.zd7 h4);clear h2 h4 h3 hn;go_wp2_with fail
  refine (zw2.zy8 _ _ A B _ (by have :=(za hA).2;omega) (by have :=(za hB).2;omega) (za i1) (za i2)).mono ?_;rintro e w2 ⟨rfl,hw⟩;obtain rfl:=hw.symm;generalize hr:Pl.zh1 A B=r2;have HR:=hide hr;clear hr;go_wp2
  go_ret
  exact ⟨by rw [za HR];rfl,hb⟩
end zh0
end
section
open Go.RowKit
namespace zh0
theorem rest_any (p n:ByteArray) (w:World) (hp:p.size≤1048576) (hq:n.size≤1048576):
  Calls Tryz.prog 115 #[.string p, .string n] w fun e w'=>e= .returned (Pl.tOut (Pl.zj9 p n))∧Below w.heap.size w w':=by
 by_cases h1:8000<p.size∨8000<n.size
 ·have E:Hid (Pl.tOut (Pl.zj9 p n)= .agg #[.string ⟨#[]⟩, .int .i64 0, .int .i64 2]):=by show _=_;rw [Pl.zj9,if_pos h1];rfl
  generalize Pl.tOut (Pl.zj9 p n)=R at E ⊢;by_cases h2:8000<p.size
  ·clear h1;go_enter Tryz.func115,Tryz.ntmps115
   go_wp2
   refine bodyPost_ret (v:= .agg #[.string ⟨#[]⟩, .int .i64 0, .int .i64 2]) (by simp [results,Tryz.results115,go_sem]) rfl ⟨by rw [E.out],?_⟩;exact bE0
  ·have h3:8000<n.size:=by omega
   clear h1;go_enter Tryz.func115,Tryz.ntmps115
   go_wp2
   refine bodyPost_ret (v:= .agg #[.string ⟨#[]⟩, .int .i64 0, .int .i64 2]) (by simp [results,Tryz.results115,go_sem]) rfl ⟨by rw [E.out],?_⟩;exact bE0
 have h2:¬8000<p.size:=fun h=>h1 (.inl h);have h3:¬8000<n.size:=fun h=>h1 (.inr h);have hn:=hide (fun W=>zw2.both_any p n W hp hq);have hA:=hide (Pl.ze p);have hB:=hide (Pl.ze n)
 have EB:Hid ((Pl.za0 p&&Pl.za0 n)=false→Pl.tOut (Pl.zj9 p n)= .agg #[.string ⟨#[]⟩, .int .i64 0, .int .i64 1]):=fun h=>by
  rw [Pl.zj9,if_neg h1,if_pos (by rw [←Bool.and_eq_true,h];simp)];rfl
 have EN:Hid ((Pl.za0 p&&Pl.za0 n)=true→Pl.zh1 (Pl.za6 p) (Pl.za6 n)=false→Pl.tOut (Pl.zj9 p n)= .agg #[.string ⟨#[]⟩, .int .i64 0, .int .i64 6]):=fun h hu=>by
  rw [Pl.zj9,if_neg h1,if_neg (by rw [←Bool.and_eq_true,h];simp),if_pos hu];rfl
 have EG:Hid ((Pl.za0 p&&Pl.za0 n)=true→Pl.zh1 (Pl.za6 p) (Pl.za6 n)=true→Pl.tOut (Pl.zj9 p n)= .agg #[.string (Pl.glue ((Pl.za6 p).drop (Pl.za6 n).length)), .int .i64 0, .int .i64 0]):=fun h hu=>by
  rw [Pl.zj9,if_neg h1,if_neg (by rw [←Bool.and_eq_true,h];simp),if_neg (by rw [hu];simp)];rfl
 generalize Pl.tOut (Pl.zj9 p n)=R at EB EN EG ⊢;generalize (Pl.za0 p&&Pl.za0 n)=r at hn EB EN EG;generalize Pl.za6 p=A at hn hA EN EG;generalize Pl.za6 n=B at hn hB EN EG;clear h1;cases r
 ·have E:=hide (EB.out rfl);clear EB EN EG;go_enter Tryz.func115,Tryz.ntmps115
  go_wp2_with fail
  refine (za hn _).mono ?_;rintro e w1 ⟨v1,v2,m,rfl, -, -, -, -,hb⟩;have hR:=(Mem.Res.start w).call hb;obtain ⟨⟨c0,c1,c2⟩,⟨f0,f1,f2⟩⟩:=hR.cells;have hB:=hR.bel;clear hb hR;go_wp2
  refine bodyPost_ret (v:= .agg #[.string ⟨#[]⟩, .int .i64 0, .int .i64 1]) (by simp [results,Tryz.results115,go_sem,c0,c1,c2]) rfl ⟨by rw [za E],?_⟩;exact ((hB.setCell (by simp) _).setCell (by simp) _).setCell (by simp) _
 have hlA:=(za hA).2;have hlB:=(za hB).2;have hun:=hide (fun v u W (i:Mem.zd4 W v A) (j:Mem.zd4 W u B)=>zw2.zy8 v u A B W (by omega) (by omega) i j);cases hu:Pl.zh1 A B
 ·have E:=hide (EN.out rfl hu);have HU:=hide hu;clear EB EN EG hu;go_enter Tryz.func115,Tryz.ntmps115
  go_wp2_with fail
  refine (za hn _).mono ?_;rintro e w1 ⟨v1,v2,m,rfl,g1,g2,g3,g4,hb⟩;have i1:=hide (Mem.zd7 g2);have i2:=hide (Mem.zd7 g4);have hR:=(Mem.Res.start w).call hb;obtain ⟨⟨c0,c1,c2⟩,⟨f0,f1,f2⟩⟩:=hR.cells;have hB:=hR.bel;clear hb hR g1 g2 g3 g4 hn;go_wp2_with (go_at_call 140;refine (za hun _ _ _ (za i1) (za i2)).mono ?_;rw [za HU];rintro e w' ⟨rfl,hw⟩;obtain rfl:=hw.symm)
  refine bodyPost_ret (v:= .agg #[.string ⟨#[]⟩, .int .i64 0, .int .i64 6]) (by simp [results,Tryz.results115,go_sem,c0,c1,c2]) rfl ⟨by rw [za E],?_⟩;exact ((hB.setCell (by simp) _).setCell (by simp) _).setCell (by simp) _
 ·have E:=hide (EG.out rfl hu);have HU:=hide hu;have hBA:=Pl.underR_length hu;clear EB EN EG hu;go_enter Tryz.func115,Tryz.ntmps115
  go_wp2_with fail
  refine (za hn _).mono ?_;rintro e w1 ⟨v1,v2,m,rfl,g1,g2,g3,g4,hb⟩;have i1:=hide (Mem.zd7 g2);have i2:=hide (Mem.zd7 g4);have hR:=(Mem.Res.start w).call hb
  obtain ⟨ua,uc,rfl⟩:∃a cap,v2= .slice a B.length cap:=by
   rcases Mem.zd7 g4 with ⟨rfl,rfl⟩|⟨b,o,cap,rfl,_⟩ <;> exact ⟨_,_,rfl⟩
  have HG:Hid ((Pl.glue (A.drop B.length)).size≤1000000):=Pl.zp9 (Pl.all_drop (za hA).1 _) (by simp;omega);have T1:(B.length:Int)≤(A.length:Int):=by omega
  rcases Mem.texts g2 with ⟨rfl,rfl⟩|⟨g,cap,rfl,hcap,hm,hgb,hgl,hcell⟩
  ·obtain rfl:B=[]:=List.eq_nil_of_length_eq_zero (by simp at hBA;simp [hBA]);clear hb g1 g2 g3 g4 hn;go_wp2_with (go_at_call 140;refine (za hun _ _ _ (za i1) (za i2)).mono ?_;rw [za HU];rintro e w' ⟨rfl,hw⟩;obtain rfl:=hw.symm)
   refine (zk3.any _ [] _ (by simp) (by decide) (.inl ⟨rfl,rfl⟩)).mono ?_;rintro e w3 ⟨rfl,hb3⟩;have hR3:=hR.call hb3;obtain ⟨⟨c0,c1,c2⟩,⟨f0,f1,f2⟩⟩:=hR3.cells;have hB:=hR3.bel;clear hb3 hR hR3;go_wp2
   refine bodyPost_ret (v:= .agg #[.string (Pl.glue []), .int .i64 0, .int .i64 0]) (by simp [results,Tryz.results115,go_sem,c0,c1,c2]) rfl ⟨by rw [za E];rfl,?_⟩;exact ((hB.setCell (by simp) _).setCell (by simp) _).setCell (by simp) _
  ·have HC:=hide hcell;have hm2:=hm;unfold maxLen at hm2;clear hcell hb g1 g2 g3 g4 hn;by_cases hcB:cap=B.length
   ·have HD:Hid (A.drop B.length=[]):=List.drop_of_length_le (by omega);subst hcB;go_wp2_with (go_at_call 140;refine (za hun _ _ _ (za i1) (za i2)).mono ?_;rw [za HU];rintro e w' ⟨rfl,hw⟩;obtain rfl:=hw.symm)
    refine (zk3.any _ (A.drop B.length) _ (by simp;omega) HG.out (.inr ⟨g,0,0,by rw [HD.out];rfl,hgl,fun j t h=>by rw [HD.out] at h;simp at h⟩)).mono ?_;rintro e w3 ⟨rfl,hb3⟩;have hR3:=hR.call hb3;obtain ⟨⟨c0,c1,c2⟩,⟨f0,f1,f2⟩⟩:=hR3.cells;have hB:=hR3.bel;clear hb3 hR hR3;generalize Pl.glue (A.drop B.length)=body at E ⊢;go_wp2
    refine bodyPost_ret (v:= .agg #[.string body, .int .i64 0, .int .i64 0]) (by simp [results,Tryz.results115,go_sem,c0,c1,c2]) rfl ⟨by rw [za E],?_⟩;exact ((hB.setCell (by simp) _).setCell (by simp) _).setCell (by simp) _
   ·go_wp2_with (go_at_call 140;refine (za hun _ _ _ (za i1) (za i2)).mono ?_;rw [za HU];rintro e w' ⟨rfl,hw⟩;obtain rfl:=hw.symm)
    refine (zk3.any _ (A.drop B.length) _ (by simp;omega) HG.out (Mem.yi5 hgl (za HC) _)).mono ?_;rintro e w3 ⟨rfl,hb3⟩;have hR3:=hR.call hb3;obtain ⟨⟨c0,c1,c2⟩,⟨f0,f1,f2⟩⟩:=hR3.cells;have hB:=hR3.bel;clear hb3 hR hR3;generalize Pl.glue (A.drop B.length)=body at E ⊢;go_wp2
    refine bodyPost_ret (v:= .agg #[.string body, .int .i64 0, .int .i64 0]) (by simp [results,Tryz.results115,go_sem,c0,c1,c2]) rfl ⟨by rw [za E],?_⟩;exact ((hB.setCell (by simp) _).setCell (by simp) _).setCell (by simp) _
end zh0
end
section
open Go.RowKit
namespace WSpI
def spot (m:Pl.Mn) (r:ByteArray):Array Value:=#[.string m.p, .int .i64 m.i, .bool m.z, .string r]
theorem lead_any (q:Option Nat) (M:List Pl.Mn) (sa ta:Option Addr) (sc tl tc:Nat) (next :Int) (p:ByteArray) (w:World) (hp:Pl.za0 p=true) (hm:∀m∈M,Pl.za0 m.p=true) (hM:M.length≤1048576) (hv:Mem.zc6 w sa M) (m:Pl.Mn) (hlm:Pl.zf8 (Pl.uR p) M M.length=m) (hmb:m.p.size≤1048576):
  Calls Tryz.prog 86 #[.agg #[.map q, .slice sa M.length sc, .slice ta tl tc, .int .i64 next], .string p] w fun e w'=>e= .returned (.agg (spot m (Pl.zj9 p m.p).1))∧Below w.heap.size w w':=by
 have q1:∀ {s:ByteArray},Pl.za0 s=true→s.size≤200:=fun {s} hs=>Nat.le_of_not_lt fun h=>by rw [Pl.zp6 h] at hs;cases hs
 have HUN:=hide (fun W (t:Pl.Mn) (ht:t∈M)=>by
  have :=zh0.zy8 p t.p W (by have :=q1 hp;omega) (by have :=q1 (hm t ht);omega);rw [Pl.uR_in hp (hm t ht)] at this
  exact this)
 have HRS:=hide (fun W=>zh0.rest_any p m.p W (by have :=q1 hp;omega) hmb);have HV:=hide hv;have HLM:=hide hlm;clear hv hp hlm hmb hm q1;generalize Pl.zj9 p m.p=RT at HRS ⊢;obtain ⟨RT,rc⟩:=RT;unfold spot;unfold Pl.tOut at HRS;simp only at HRS ⊢;have b0:Below w.heap.size w (((w.alloc (.cells #[.map q, .slice sa M.length sc, .slice ta tl tc, .int .i64 next] 65)).alloc (.cells #[.string ⟨#[]⟩, .int .i64 0, .bool false, .string ⟨#[]⟩] 116)).alloc (.cells #[.string ⟨#[]⟩, .int .i64 0, .bool false, .string ⟨#[]⟩] 116)):=((bE0).alloc (by simp) _).alloc (by simp;omega) _
 have V0:=hide (((Mem.Blk.new w #[.map q, .slice sa M.length sc, .slice ta tl tc, .int .i64 next] 65).alloc (.cells #[.string ⟨#[]⟩, .int .i64 0, .bool false, .string ⟨#[]⟩] 116)).alloc (.cells #[.string ⟨#[]⟩, .int .i64 0, .bool false, .string ⟨#[]⟩] 116));have U0:=hide ((Mem.Blk.new (w.alloc (.cells #[.map q, .slice sa M.length sc, .slice ta tl tc, .int .i64 next] 65)) #[.string ⟨#[]⟩, .int .i64 0, .bool false, .string ⟨#[]⟩] 116).alloc (.cells #[.string ⟨#[]⟩, .int .i64 0, .bool false, .string ⟨#[]⟩] 116));have Y0:=hide (Mem.Blk.new ((w.alloc (.cells #[.map q, .slice sa M.length sc, .slice ta tl tc, .int .i64 next] 65)).alloc (.cells #[.string ⟨#[]⟩, .int .i64 0, .bool false, .string ⟨#[]⟩] 116)) #[.string ⟨#[]⟩, .int .i64 0, .bool false, .string ⟨#[]⟩] 116)
 have n1:(w.alloc (.cells #[.map q, .slice sa M.length sc, .slice ta tl tc, .int .i64 next] 65)).heap.size=w.heap.size+1:=by simp
 have n2:((w.alloc (.cells #[.map q, .slice sa M.length sc, .slice ta tl tc, .int .i64 next] 65)).alloc (.cells #[.string ⟨#[]⟩, .int .i64 0, .bool false, .string ⟨#[]⟩] 116)).heap.size=w.heap.size+2:=by simp
 rw [n1] at U0;rw [n2] at Y0;clear n1 n2;go_enter Tryz.func86,Tryz.ntmps86
 go_wp2
 go_loopw [11] (fun i wr=>∃k:Nat,k≤M.length∧i= .int .i64 (k:Int)∧Below w.heap.size w wr∧Hid (Mem.Blk wr w.heap.size #[.map q, .slice sa M.length sc, .slice ta tl tc, .int .i64 next] 65)∧Hid (Mem.Blk wr (w.heap.size+1) #[.string ⟨#[]⟩, .int .i64 0, .bool false, .string ⟨#[]⟩] 116)∧Hid (Mem.Blk wr (w.heap.size+2) #[.string (Pl.zf8 (Pl.uR p) M k).p, .int .i64 (Pl.zf8 (Pl.uR p) M k).i, .bool (Pl.zf8 (Pl.uR p) M k).z, .string ⟨#[]⟩] 116)) (fun i _=>M.length - (intOf i).toNat)
 case atStart=>exact ⟨0,Nat.zero_le _,rfl,b0,V0,U0,Y0⟩
 case round=>
  obtain ⟨k,hk,rfl,hbel,V2,U2,Y2⟩:=hrel;clear b0 V0 U0 Y0;by_cases hlt:k<M.length
  ·obtain ⟨t,ht⟩:∃n,M[k]? =some n:=⟨_,List.getElem?_eq_getElem hlt⟩;obtain ⟨g,o,rfl,hg,q0,q1,q2⟩:=(za HV) k t ht;have c0:=(hbel.cell (p:=⟨g,_,none⟩) hg).trans q0;have c1:=(hbel.cell (p:=⟨g,_,none⟩) hg).trans q1;have c2:=(hbel.cell (p:=⟨g,_,none⟩) hg).trans q2;have u1:(k:Int)<(M.length:Int):=by omega
   have u3:(0:Int)≤(k:Int):=by omega
   have HC:=hide (fun W=>za HUN W t (List.mem_of_getElem? ht));have L1:=hide (fun h=>Pl.leadI_no (u:=Pl.uR p) ht h);have L2:=hide (fun h=>Pl.leadI_yes (u:=Pl.uR p) ht h);generalize hq:Pl.zf8 (Pl.uR p) M k=q at Y2 L1;generalize Pl.uR p t=b at HC L1 L2;have b2:Below wr.heap.size wr (wr.alloc (.cells #[.string t.p, .int .i64 t.i, .bool t.z] 49)):=bE0;have hbel2:=hbel.trans (b2.mono hbel.size);have X2:=hide (Mem.Blk.new wr #[.string t.p, .int .i64 t.i, .bool t.z] 49);have V3:=hide ((za V2).call b2);have U3:=hide ((za U2).call b2);have Y3:=hide ((za Y2).call b2);have hX:w.heap.size+2<wr.heap.size:=(za Y2).lt;obtain ⟨x0,x1,x2⟩:=jc3 (za X2);clear q0 q1 q2 hg ht hq V2 U2 Y2 b2 hbel;go_wp2_with fail
   generalize wr.alloc (.cells #[.string t.p, .int .i64 t.i, .bool t.z] 49)=wZ at hbel2 X2 V3 U3 Y3 x0 x1 x2 ⊢;refine (za HC _).mono ?_;rintro e w3 ⟨rfl,bX⟩;have hbel3:=hbel2.trans (bX.mono hbel2.size);have VV:=hide ((za V3).call bX);have UU:=hide ((za U3).call bX);have YY:=hide ((za Y3).call bX);have XX:=hide ((za X2).call bX);clear hbel2 V3 U3 Y3 X2 bX x0 x1 x2 c0 c1 c2 HC;cases b
   ·have HL:Pl.zf8 (Pl.uR p) M (k+1)=q:=za L1 rfl;clear L1 L2;go_wp2
    go_roundw
    case rel=>exact ⟨k+1,by omega,by go_num,hbel3,VV,UU,hide (by rw [HL];exact za YY)⟩
    case measure=>simp [intOf];omega
   ·have HL:Pl.zf8 (Pl.uR p) M (k+1)=t:=za L2 rfl;clear L1 L2;obtain ⟨x0,x1,x2⟩:=jc3 (za XX);obtain ⟨⟨y0,y1,y2⟩,f0,f1,f2⟩:=jf3 (za YY);have B3:=hide (((hbel3.setCell (p:=⟨w.heap.size+2,0,none⟩) (Nat.le_add_right _ _) (.string t.p)).setCell (p:=⟨w.heap.size+2,1,none⟩) (Nat.le_add_right _ _) (.int .i64 t.i)).setCell (p:=⟨w.heap.size+2,2,none⟩) (Nat.le_add_right _ _) (.bool t.z));have V3:=hide ((((za VV).far ⟨w.heap.size+2,0,none⟩ (.string t.p) (by show w.heap.size≠w.heap.size+2;omega)).far ⟨w.heap.size+2,1,none⟩ (.int .i64 t.i) (by show w.heap.size≠w.heap.size+2;omega)).far ⟨w.heap.size+2,2,none⟩ (.bool t.z) (by show w.heap.size≠w.heap.size+2;omega))
    have U3:=hide ((((za UU).far ⟨w.heap.size+2,0,none⟩ (.string t.p) (by show w.heap.size+1≠w.heap.size+2;omega)).far ⟨w.heap.size+2,1,none⟩ (.int .i64 t.i) (by show w.heap.size+1≠w.heap.size+2;omega)).far ⟨w.heap.size+2,2,none⟩ (.bool t.z) (by show w.heap.size+1≠w.heap.size+2;omega));have Y3:=hide ((((za YY).put 0 (.string t.p)).put 1 (.int .i64 t.i)).put 2 (.bool t.z));clear VV UU YY hbel3;go_wp2
    go_roundw
    case rel=>exact ⟨k+1,by omega,by go_num,za B3,V3,U3,hide (by rw [HL];exact za Y3)⟩
    case measure=>simp [intOf];omega
  ·have u1:¬ (k:Int)<(M.length:Int):=by omega
   obtain rfl:k=M.length:=by omega
   rw [za HLM] at Y2;have y0:=(za Y2).cell 0;simp only [kGs] at y0;go_wp2_with fail
   refine (za HRS _).mono ?_;rintro e w3 ⟨rfl,bX⟩;have hbel3:=hbel.trans (bX.mono hbel.size);have UU:=hide ((za U2).call bX);have YY:=hide ((za Y2).call bX);clear V2 U2 Y2 bX hbel y0 HRS HUN HV HLM;have y0:=(za YY).cell 0;have y1:=(za YY).cell 1;have y2:=(za YY).cell 2;have y3:=(za YY).cell 3;have f3:=(za YY).fr 3;obtain ⟨⟨z0,z1,z2,z3⟩,g0,g1,g2,g3⟩:=jf4 (za UU);simp only [kGs] at y0 y1 y2 y3
   have B4:=(((((hbel3.setCell (p:=⟨w.heap.size+2,3,none⟩) (Nat.le_add_right _ _) (.string RT)).setCell (p:=⟨w.heap.size+1,0,none⟩) (Nat.le_succ _) (.string m.p)).setCell (p:=⟨w.heap.size+1,1,none⟩) (Nat.le_succ _) (.int .i64 m.i)).setCell (p:=⟨w.heap.size+1,2,none⟩) (Nat.le_succ _) (.bool m.z)).setCell (p:=⟨w.heap.size+1,3,none⟩) (Nat.le_succ _) (.string RT));go_wp2
   simp [Instr.field,asAgg,go_sem]
   go_wp2
   refine bodyPost_ret (v:= .agg #[.string m.p, .int .i64 m.i, .bool m.z, .string RT]) (by simp [results,Tryz.results86,go_sem,z0,z1,z2,z3]) rfl ⟨rfl,B4⟩
end WSpI
end
section
open Go.RowKit Go.Maps
namespace WSpI
abbrev zS:Value:= .agg #[.map none, .slice none 0 0, .slice none 0 0, .int .i64 0]
abbrev zT:Value:= .agg #[.string ⟨#[]⟩, .int .i64 0, .bool false, .string ⟨#[]⟩]
def Spotted (w w':World) (s:Pl.Sp) (p:ByteArray) (R:Bool) (m:Pl.Mn) (e:Ending):Prop:=
 (Pl.whyI p R=0∧∃q E sa sc ta tc,e= .returned (.tuple #[.agg #[.map (some q), .slice sa s.M.length sc, .slice ta s.H.length tc, .int .i64 s.next], .agg (spot m (Pl.rest p m.p)), .int .i64 0])∧SpO.SpV w.heap.size w' s q E sa sc ta tc)∨
 (Pl.whyI p R≠0∧e= .returned (.tuple #[zS,zT, .int .i64 (Pl.whyI p R)]))
theorem at_any (s:Pl.Sp) (p:ByteArray) (w:World) (hp:p.size≤1048576) (hok:zb0.OkS s 1048576) (hn:OkN s) (ha:OkA s) (hv:Mem.zd9 w s) (m:Pl.Mn) (hlm:Pl.zf8 (Pl.uR p) s.M s.M.length=m)
  (r0 r1 r2 r3:TypeId) (x0 x1 x2 x3:Value) (hE:zh4.zq8 w r0 r1 r2 r3 x0 x1 x2 x3):
  Calls Tryz.prog 55 #[.agg s.cs, .string p] w fun e w'=>Spotted w w' s p (Pl.zc4 s.next (s.N.map WSp.nr) s.M s.H Pl.wayB) m e∧Below w.heap.size w w':=by
 have HX:=hide (fun W (b:Below w.heap.size w W)=>ye1 s W hok hn ha (hv.call b) r0 r1 r2 r3 x0 x1 x2 x3 (hE.call b));have HR:=hide (fun W=>zh0.zh7 p W hp)
 have HL:=hide (fun (h:Pl.zc4 s.next (s.N.map WSp.nr) s.M s.H Pl.wayB=true) (h2:Pl.za0 p=true)=>by
  have h1:=Pl.yk6 h;have h3:=Pl.lead_of h p h2;rw [hlm] at h3
  exact (⟨h1.2.1,h3.2.1,h3.2.2.2⟩:(∀m∈s.M,Pl.za0 m.p=true)∧m∈s.M∧(Pl.zj9 p m.p).1=Pl.rest p m.p))
 have HM:=hok.m;have hsame:=Pl.yk0 s.next (s.N.map WSp.nr) s.M s.H Pl.wayB;rw [hsame] at HX;have HLM:=hide hlm;generalize HQ:Pl.zc4 s.next (s.N.map WSp.nr) s.M s.H Pl.wayB=RB at HX HL ⊢;clear hok hn ha hv hE hlm hsame HQ;obtain ⟨ia,ic,N,ma,mc,M,ha,hc,H,next⟩:=s;simp only at HX HM HL HLM ⊢;unfold Pl.Sp.cs at HX ⊢;simp only at HX ⊢;have b0:Below w.heap.size w (((w.alloc (.cells #[.slice ia N.length ic, .slice ma M.length mc, .slice ha H.length hc, .int .i64 next] 32)).alloc (.cells #[.map none, .slice none 0 0, .slice none 0 0, .int .i64 0] 65)).alloc (.cells #[.string ⟨#[]⟩, .int .i64 0, .bool false, .string ⟨#[]⟩] 116)):=((bE0).alloc (by simp) _).alloc (by simp;omega) _
 have V0:=hide (((Mem.Blk.new w #[.slice ia N.length ic, .slice ma M.length mc, .slice ha H.length hc, .int .i64 next] 32).alloc (.cells #[.map none, .slice none 0 0, .slice none 0 0, .int .i64 0] 65)).alloc (.cells #[.string ⟨#[]⟩, .int .i64 0, .bool false, .string ⟨#[]⟩] 116));have U0:=hide ((Mem.Blk.new (w.alloc (.cells #[.slice ia N.length ic, .slice ma M.length mc, .slice ha H.length hc, .int .i64 next] 32)) #[.map none, .slice none 0 0, .slice none 0 0, .int .i64 0] 65).alloc (.cells #[.string ⟨#[]⟩, .int .i64 0, .bool false, .string ⟨#[]⟩] 116))
 have Y0:=hide (Mem.Blk.new ((w.alloc (.cells #[.slice ia N.length ic, .slice ma M.length mc, .slice ha H.length hc, .int .i64 next] 32)).alloc (.cells #[.map none, .slice none 0 0, .slice none 0 0, .int .i64 0] 65)) #[.string ⟨#[]⟩, .int .i64 0, .bool false, .string ⟨#[]⟩] 116);have n1:(w.alloc (.cells #[.slice ia N.length ic, .slice ma M.length mc, .slice ha H.length hc, .int .i64 next] 32)).heap.size=w.heap.size+1:=by simp
 have n2:((w.alloc (.cells #[.slice ia N.length ic, .slice ma M.length mc, .slice ha H.length hc, .int .i64 next] 32)).alloc (.cells #[.map none, .slice none 0 0, .slice none 0 0, .int .i64 0] 65)).heap.size=w.heap.size+2:=by simp
 have n3:(((w.alloc (.cells #[.slice ia N.length ic, .slice ma M.length mc, .slice ha H.length hc, .int .i64 next] 32)).alloc (.cells #[.map none, .slice none 0 0, .slice none 0 0, .int .i64 0] 65)).alloc (.cells #[.string ⟨#[]⟩, .int .i64 0, .bool false, .string ⟨#[]⟩] 116)).heap.size=w.heap.size+3:=by simp
 rw [n1] at U0;rw [n2] at Y0;clear n1 n2;by_cases hl:8000<p.size
 ·have HW:Hid (Pl.whyI p RB=1):=hide (by unfold Pl.whyI;rw [if_pos hl]);have l1:(8000:Int)<(p.size:Int):=by omega
  clear HX HR HL HLM;go_enter Tryz.func55,Tryz.ntmps55
  go_wp2
  refine bodyPost_ret (v:= .tuple #[zS,zT, .int .i64 1]) (by simp [results,Tryz.results55,go_sem]) rfl ⟨.inr ⟨by rw [za HW];decide,by rw [za HW]⟩,b0⟩
 have l1:¬ (8000:Int)<(p.size:Int):=by omega
 obtain ⟨a0,a1,a2,a3⟩:=jc4 (za V0);go_enter Tryz.func55,Tryz.ntmps55
 go_wp2_with fail
 generalize ((w.alloc (.cells #[.slice ia N.length ic, .slice ma M.length mc, .slice ha H.length hc, .int .i64 next] 32)).alloc (.cells #[.map none, .slice none 0 0, .slice none 0 0, .int .i64 0] 65)).alloc (.cells #[.string ⟨#[]⟩, .int .i64 0, .bool false, .string ⟨#[]⟩] 116)=wA at b0 V0 U0 Y0 a0 a1 a2 a3 n3 ⊢;refine (za HX _ b0).mono ?_;rintro e w1 ⟨hS,bX⟩;have b1:=b0.trans (bX.mono b0.size);have U1:=hide ((za U0).call bX);have Y1:=hide ((za Y0).call bX);clear HX bX V0 a0 a1 a2 a3 b0 U0 Y0
 rcases hS with ⟨hR,q,E,sa,sc,ta,tc,rfl,HS⟩|⟨hR,q,sa,sl,sc,ta,tl,tc,n,rfl⟩
 ·subst hR;have b2:Below w1.heap.size w1 (w1.alloc (.cells #[Value.map (some q),Value.slice sa M.length sc,Value.slice ta H.length tc,Value.int .i64 next] 65)):=bE0;have b3:=b1.trans (b2.mono b1.size);have U2:=hide ((za U1).call b2);have Y2:=hide ((za Y1).call b2);have X2:=hide (Mem.Blk.new w1 #[Value.map (some q),Value.slice sa M.length sc,Value.slice ta H.length tc,Value.int .i64 next] 65);have HS2:=hide (HS.call b2);have hX:w.heap.size+2<w1.heap.size:=(za Y1).lt;clear HS;clear U1 Y1 b1 b2;go_upto_region 4 with fail
  generalize w1.alloc (.cells #[Value.map (some q),Value.slice sa M.length sc,Value.slice ta H.length tc,Value.int .i64 next] 65)=w2 at b3 U2 Y2 X2 HS2 ⊢;generalize w1.heap.size=X at X2 hX ⊢;generalize hB:wA.heap.size=B at n3 HS2;clear hB;have HBp:Hid (Pl.za0 p=true→Pl.whyI p true=0∧(∀m∈M,Pl.za0 m.p=true)∧m∈M∧(Pl.zj9 p m.p).1=Pl.rest p m.p):=hide (fun h=>⟨by unfold Pl.whyI;rw [if_neg hl,h];rfl,za HL (by first |exact rfl |exact trivial) h⟩);have HBn:Hid (Pl.za0 p=false→Pl.whyI p true=2):=hide (fun h=>by unfold Pl.whyI;rw [if_neg hl,h];rfl)
  have HLD0:=hide (fun (hpb:Pl.za0 p=true) (h:∀m∈M,Pl.za0 m.p=true) (hmm:m∈M) W i=>lead_any (some q) M sa ta sc H.length tc next p W hpb h HM i m (za HLM) (by
   have q1:m.p.size≤200:=Nat.le_of_not_lt fun h2=>by have :=h m hmm;rw [Pl.zp6 h2] at this;cases this
   omega))
  generalize Pl.za0 p=pb at HR HBp HBn HLD0;clear HL HLM;go_wp2_with fail
  refine (za HR _).mono ?_;rintro e w3 ⟨rfl,bX⟩;replace b3:=b3.trans (bX.mono b3.size);replace U2:=hide ((za U2).call bX);replace Y2:=hide ((za Y2).call bX);replace X2:=hide ((za X2).call bX);replace HS2:=hide ((za HS2).call bX);clear bX HR;cases pb
  ·have HW:=hide (za HBn rfl);clear HBn HBp HLD0 X2 HS2;obtain ⟨⟨d0,d1,d2,d3⟩,f0,f1,f2,f3⟩:=jf4 (za U2);obtain ⟨⟨e0,e1,e2,e3⟩,g0,g1,g2,g3⟩:=jf4 (za Y2);go_wp2
   refine bodyPost_ret (v:= .tuple #[zS,zT, .int .i64 2]) (by simp [results,Tryz.results55,go_sem,d0,d1,d2,d3,e0,e1,e2,e3]) rfl ⟨.inr ⟨by rw [za HW];decide,by rw [za HW]⟩,?_⟩
   exact sc4 (sc4 b3 (by omega)) (by omega)
  obtain ⟨hw0,hmp,hmm,hrt⟩:=za HBp rfl;have HW:=hide hw0;have HRT:=hide hrt;have HLD:=hide (za HLD0 rfl hmp hmm);generalize (Pl.zj9 p m.p).1=RT at HLD HRT;have BD:Below w3.heap.size w3 w3.drew:=⟨rfl,rfl,rfl,Nat.le_refl _,fun _ _=>rfl⟩;obtain ⟨x0,x1,x2,x3⟩:=jc4 (za X2);have U:=(za U2).call BD;have Y:=(za Y2).call BD;have XX:=(za X2).call BD;have HS:=(za HS2).call BD;have bel:=b3.trans (BD.mono b3.size);have hq:=HS.lo
  have MK:Hid (∀W',Below w.heap.size w W'→Mem.Blk W' X #[Value.map (some q),Value.slice sa M.length sc,Value.slice ta H.length tc,Value.int .i64 next] 65→(Below w.heap.size w W'∧W'.cell? ⟨X,0,none⟩=some (Value.map (some q))∧W'.cell? ⟨X,1,none⟩=some (Value.slice sa M.length sc)∧W'.cell? ⟨X,2,none⟩=some (Value.slice ta H.length tc)∧W'.cell? ⟨X,3,none⟩=some (Value.int .i64 next))):=fun W' b y=>⟨b,y.cell 0,y.cell 1,y.cell 2,y.cell 3⟩;clear hw0 hmp hmm hrt HLD0 HBn HBp U2 Y2 X2 HS2 BD b3;go_wp2_with fail
  refine wp_region_held_drew (S:=fun W'=>Below w.heap.size w W'∧W'.cell? ⟨X,0,none⟩=some (Value.map (some q))∧W'.cell? ⟨X,1,none⟩=some (Value.slice sa M.length sc)∧W'.cell? ⟨X,2,none⟩=some (Value.slice ta H.length tc)∧W'.cell? ⟨X,3,none⟩=some (Value.int .i64 next)) (by kernel_rfl) ?_ (fun hHeld=>?_)
  ·exact za MK _ bel XX
  generalize w3.drew=D0 at hHeld U Y XX HS bel ⊢;refine TB 0 ?_;refine TB 1 ?_;refine TB 2 ?_;refine RN 3 fun K hK=>?_;go_simp
  refine (za HLD _ HS.zl8).mono ?_;rintro e wX ⟨rfl,bX⟩;replace U:=U.call bX;replace Y:=Y.call bX;replace XX:=XX.call bX;replace HS:=HS.call bX;replace bel:=bel.trans (bX.mono bel.size);clear bX;unfold spot;refine hK.out _ _ ?_ (fun hHeld=>?_)
  ·exact za MK _ bel XX
  clear hK K
  try simp only [Act.put,kBs]
  refine RN 4 fun K hK=>?_;obtain ⟨⟨d0,d1,d2,d3⟩,f0,f1,f2,f3⟩:=jf4 U;go_simp
  clear d0 d1 d2 d3 f0 f1 f2 f3;replace U:=((((U).put 0 (Value.map (some q))).put 1 (Value.slice sa M.length sc)).put 2 (Value.slice ta H.length tc)).put 3 (Value.int .i64 next);replace Y:=((((Y).far ⟨w.heap.size+1,0,none⟩ (Value.map (some q)) (by show w.heap.size+2≠w.heap.size+1;omega)).far ⟨w.heap.size+1,1,none⟩ (Value.slice sa M.length sc) (by show w.heap.size+2≠w.heap.size+1;omega)).far ⟨w.heap.size+1,2,none⟩ (Value.slice ta H.length tc) (by show w.heap.size+2≠w.heap.size+1;omega)).far ⟨w.heap.size+1,3,none⟩ (Value.int .i64 next) (by show w.heap.size+2≠w.heap.size+1;omega)
  replace XX:=((((XX).far ⟨w.heap.size+1,0,none⟩ (Value.map (some q)) (by show X≠w.heap.size+1;omega)).far ⟨w.heap.size+1,1,none⟩ (Value.slice sa M.length sc) (by show X≠w.heap.size+1;omega)).far ⟨w.heap.size+1,2,none⟩ (Value.slice ta H.length tc) (by show X≠w.heap.size+1;omega)).far ⟨w.heap.size+1,3,none⟩ (Value.int .i64 next) (by show X≠w.heap.size+1;omega);replace HS:=((((HS).far (Y:=w.heap.size+1) 0 (Value.map (some q)) (by omega)).far (Y:=w.heap.size+1) 1 (Value.slice sa M.length sc) (by omega)).far (Y:=w.heap.size+1) 2 (Value.slice ta H.length tc) (by omega)).far (Y:=w.heap.size+1) 3 (Value.int .i64 next) (by omega)
  replace bel:=((((bel).setCell (p:=⟨w.heap.size+1,0,none⟩) (Nat.le_succ _) (Value.map (some q))).setCell (p:=⟨w.heap.size+1,1,none⟩) (Nat.le_succ _) (Value.slice sa M.length sc)).setCell (p:=⟨w.heap.size+1,2,none⟩) (Nat.le_succ _) (Value.slice ta H.length tc)).setCell (p:=⟨w.heap.size+1,3,none⟩) (Nat.le_succ _) (Value.int .i64 next);refine hK.out _ _ ?_ (fun hHeld=>?_)
  ·exact za MK _ bel XX
  clear hK K
  try simp only [Act.put,kBs]
  refine RN 5 fun K hK=>?_;obtain ⟨⟨d0,d1,d2,d3⟩,f0,f1,f2,f3⟩:=jf4 Y;go_simp
  clear d0 d1 d2 d3 f0 f1 f2 f3;replace Y:=((((Y).put 0 (Value.string m.p)).put 1 (Value.int .i64 m.i)).put 2 (Value.bool m.z)).put 3 (Value.string RT);replace U:=((((U).far ⟨w.heap.size+2,0,none⟩ (Value.string m.p) (by show w.heap.size+1≠w.heap.size+2;omega)).far ⟨w.heap.size+2,1,none⟩ (Value.int .i64 m.i) (by show w.heap.size+1≠w.heap.size+2;omega)).far ⟨w.heap.size+2,2,none⟩ (Value.bool m.z) (by show w.heap.size+1≠w.heap.size+2;omega)).far ⟨w.heap.size+2,3,none⟩ (Value.string RT) (by show w.heap.size+1≠w.heap.size+2;omega);replace XX:=((((XX).far ⟨w.heap.size+2,0,none⟩ (Value.string m.p) (by show X≠w.heap.size+2;omega)).far ⟨w.heap.size+2,1,none⟩ (Value.int .i64 m.i) (by show X≠w.heap.size+2;omega)).far ⟨w.heap.size+2,2,none⟩ (Value.bool m.z) (by show X≠w.heap.size+2;omega)).far ⟨w.heap.size+2,3,none⟩ (Value.string RT) (by show X≠w.heap.size+2;omega)
  replace HS:=((((HS).far (Y:=w.heap.size+2) 0 (Value.string m.p) (by omega)).far (Y:=w.heap.size+2) 1 (Value.int .i64 m.i) (by omega)).far (Y:=w.heap.size+2) 2 (Value.bool m.z) (by omega)).far (Y:=w.heap.size+2) 3 (Value.string RT) (by omega);replace bel:=((((bel).setCell (p:=⟨w.heap.size+2,0,none⟩) (Nat.le_add_right _ _) (Value.string m.p)).setCell (p:=⟨w.heap.size+2,1,none⟩) (Nat.le_add_right _ _) (Value.int .i64 m.i)).setCell (p:=⟨w.heap.size+2,2,none⟩) (Nat.le_add_right _ _) (Value.bool m.z)).setCell (p:=⟨w.heap.size+2,3,none⟩) (Nat.le_add_right _ _) (Value.string RT);refine hK.out _ _ ?_ (fun hHeld=>?_)
  ·exact za MK _ bel XX
  clear hK K
  try simp only [Act.put,kBs]
  refine TB 6 ?_;refine wpAnyH_done (by kernel_rfl) ?_ _;have d0:=U.cell 0;have d1:=U.cell 1;have d2:=U.cell 2;have d3:=U.cell 3;have e0:=Y.cell 0;have e1:=Y.cell 1;have e2:=Y.cell 2;have e3:=Y.cell 3;simp only [kB3,kB4,kB5,kGs] at d0 d1 d2 d3 e0 e1 e2 e3;go_wp2
  refine bodyPost_ret (v:= .tuple #[.agg #[Value.map (some q),Value.slice sa M.length sc,Value.slice ta H.length tc,Value.int .i64 next], .agg #[Value.string m.p,Value.int .i64 m.i,Value.bool m.z,Value.string RT], .int .i64 0]) (by simp [results,Tryz.results55,go_sem,d0,d1,d2,d3,e0,e1,e2,e3]) rfl ⟨.inl ⟨za HW,_,_,_,_,_,_,by rw [←za HRT];rfl,⟨by have :=HS.lo;omega,HS.ids,HS.mo,HS.nv,HS.ne⟩⟩,bel⟩
 ·subst hR;have HW:Hid (Pl.whyI p false=2):=hide (by unfold Pl.whyI;rw [if_neg hl];rfl);clear HL HLM;have b2:Below w1.heap.size w1 (w1.alloc (.cells #[.map q, .slice sa sl sc, .slice ta tl tc, .int .i64 n] 65)):=bE0;have b3:=b1.trans (b2.mono b1.size);have U2:=hide ((za U1).call b2);have Y2:=hide ((za Y1).call b2);clear U1 Y1 b1 b2;go_upto_region 4 with fail
  generalize w1.alloc (.cells #[.map q, .slice sa sl sc, .slice ta tl tc, .int .i64 n] 65)=w2 at b3 U2 Y2 ⊢;obtain ⟨⟨d0,d1,d2,d3⟩,f0,f1,f2,f3⟩:=jf4 (za U2);obtain ⟨⟨e0,e1,e2,e3⟩,g0,g1,g2,g3⟩:=jf4 (za Y2);go_wp2
  refine bodyPost_ret (v:= .tuple #[zS,zT, .int .i64 2]) (by simp [results,Tryz.results55,go_sem,d0,d1,d2,d3,e0,e1,e2,e3]) rfl ⟨.inr ⟨by rw [za HW];decide,by rw [za HW]⟩,?_⟩
  exact sc4 (sc4 b3 (by omega)) (by omega)
end WSpI
end
section
open Go.RowKit Go.Maps
namespace WSpI
def codes:List Int:=[0,2,1,7,6,12,11,13,9]
theorem zw4 {w w':World} (hV:∀ (r:Nat) t,codes[r]? =some t→w.cell? ⟨0,r,none⟩=some (.int .i64 t)) (b:Below w.heap.size w w'):∀ (r:Nat) t,codes[r]? =some t→w'.cell? ⟨0,r,none⟩=some (.int .i64 t):=fun r t h=>(b.cell (p:=⟨0,r,none⟩) (World.block_lt_of_cell? w _ (hV r t h))).trans (hV r t h)
theorem code_any (i:Nat) (c:Int) (w:World) (hi:codes[i]? =some c) (hV:∀ (r:Nat) t,codes[r]? =some t→w.cell? ⟨0,r,none⟩=some (.int .i64 t)):
  Calls Tryz.prog 56 #[.int .i64 (i:Int)] w fun e w'=>e= .returned (.int .i64 c)∧Below w.heap.size w w':=by
 have h:=hV i c hi;have h9:i<9:=(List.getElem?_eq_some_iff.1 hi).1;have k1:(0:Int)≤(i:Int):=by omega
 have k2:(i:Int)<9:=by omega
 clear hV hi;go_enter Tryz.func56,Tryz.ntmps56
 go_wp2
 go_ret
 exact ⟨rfl,Below.refl _ _⟩
end WSpI
end
section
open Go.RowKit Go.Maps
namespace WVfs
theorem SpV_low {B B':Nat} {W:World} {s:Pl.Sp} {q:Nat} {E:List (Int × Pl.Nv)} {ma:Option Addr} {mc:Nat} {ha:Option Addr} {hc:Nat} (h:SpO.SpV B W s q E ma mc ha hc) (hB:B'≤B):SpO.SpV B' W s q E ma mc ha hc:=⟨Nat.le_trans hB h.lo,h.ids,h.mo,h.nv,h.ne⟩
def Aimed (w w':World) (s:Pl.Sp) (p:ByteArray) (R:Bool) (m:Pl.Mn) (e:Ending):Prop:=
 (Pl.whyI p R=0∧∃q E sa sc ta tc,e= .returned (.tuple #[.agg #[.map (some q), .slice sa s.M.length sc, .slice ta s.H.length tc, .int .i64 s.next, .int .i64 m.i, .string (Pl.rest p m.p)], .nilIface])∧SpO.SpV w.heap.size w' s q E sa sc ta tc)∨
 (Pl.whyI p R≠0∧e= .returned (.tuple #[.agg #[.map none, .slice none 0 0, .slice none 0 0, .int .i64 0, .int .i64 0, .string ⟨#[]⟩],fault (if Pl.whyI p R=1 then 2 else 1)]))
theorem target_any (s:Pl.Sp) (p:ByteArray) (w:World) (hp:p.size≤1048576) (hok:zb0.OkS s 1048576) (hn:WSpI.OkN s) (ha:WSpI.OkA s) (hv:Mem.zd9 w s) (m:Pl.Mn) (hlm:Pl.zf8 (Pl.uR p) s.M s.M.length=m)
  (hV:∀ (r:Nat) t,WSpI.codes[r]? =some t→w.cell? ⟨0,r,none⟩=some (.int .i64 t))
  (r0 r1 r2 r3:TypeId) (x0 x1 x2 x3:Value) (hE:zh4.zq8 w r0 r1 r2 r3 x0 x1 x2 x3):
  Calls Tryz.prog 25 #[.agg s.cs, .string p] w fun e w'=>Aimed w w' s p (Pl.zc4 s.next (s.N.map WSp.nr) s.M s.H Pl.wayB) m e∧Below w.heap.size w w':=by
 have HX:=hide (fun W (b:Below w.heap.size w W)=>WSpI.at_any s p W hp hok hn ha (hv.call b) m hlm r0 r1 r2 r3 x0 x1 x2 x3 (hE.call b));have HRF:=hide (fun i c W (hc:WSpI.codes[i]? =some c) (b:Below w.heap.size w W)=>WSpI.code_any i c W hc (WSpI.zw4 hV b));generalize Pl.zc4 s.next (s.N.map WSp.nr) s.M s.H Pl.wayB=RB at HX ⊢
 have HCW:Hid (Pl.whyI p RB≠0→∃ (i:Nat),Pl.whyI p RB=(i:Int)∧i≠0∧WSpI.codes[i]? =some (if Pl.whyI p RB=1 then 2 else 1)):=hide (fun hW=>by
  rcases Pl.yc0 p RB with ⟨h1, -⟩|h1|h1
  ·exact absurd h1 hW
  ·exact ⟨1,h1,by decide,by rw [h1];rfl⟩
  ·exact ⟨2,h1,by decide,by rw [h1];rfl⟩)
 clear hok hn ha hv hE hV hlm hp;obtain ⟨ia,ic,N,ma,mc,M,ha,hc,H,next⟩:=s;unfold WSpI.Spotted WSpI.spot at HX;unfold Aimed fault;generalize (if Pl.whyI p RB=1 then (2:Int) else 1)=c at HCW ⊢;generalize Pl.whyI p RB=WI at HX HCW ⊢;unfold Pl.Sp.cs at HX ⊢;simp only at HX ⊢;generalize Pl.rest p m.p=RT at HX ⊢;have b0:Below w.heap.size w ((w.alloc (.cells #[.slice ia N.length ic, .slice ma M.length mc, .slice ha H.length hc, .int .i64 next] 32)).alloc (.cells #[.map none, .slice none 0 0, .slice none 0 0, .int .i64 0, .int .i64 0, .string ⟨#[]⟩] 67)):=(bE0).alloc (by simp) _;have V0:=hide ((Mem.Blk.new w #[.slice ia N.length ic, .slice ma M.length mc, .slice ha H.length hc, .int .i64 next] 32).alloc (.cells #[.map none, .slice none 0 0, .slice none 0 0, .int .i64 0, .int .i64 0, .string ⟨#[]⟩] 67))
 have U0:=hide (Mem.Blk.new (w.alloc (.cells #[.slice ia N.length ic, .slice ma M.length mc, .slice ha H.length hc, .int .i64 next] 32)) #[.map none, .slice none 0 0, .slice none 0 0, .int .i64 0, .int .i64 0, .string ⟨#[]⟩] 67);have hsz:((w.alloc (.cells #[.slice ia N.length ic, .slice ma M.length mc, .slice ha H.length hc, .int .i64 next] 32)).alloc (.cells #[.map none, .slice none 0 0, .slice none 0 0, .int .i64 0, .int .i64 0, .string ⟨#[]⟩] 67)).heap.size=w.heap.size+2:=by simp
 rw [show (w.alloc (.cells #[.slice ia N.length ic, .slice ma M.length mc, .slice ha H.length hc, .int .i64 next] 32)).heap.size=w.heap.size+1 by simp] at U0;obtain ⟨a0,a1,a2,a3⟩:=jc4 (za V0);go_enter Tryz.func25,Tryz.ntmps25
 go_wp2_with fail
 generalize (w.alloc (.cells #[.slice ia N.length ic, .slice ma M.length mc, .slice ha H.length hc, .int .i64 next] 32)).alloc (.cells #[.map none, .slice none 0 0, .slice none 0 0, .int .i64 0, .int .i64 0, .string ⟨#[]⟩] 67)=wA at b0 V0 U0 a0 a1 a2 a3 hsz ⊢;refine (za HX _ b0).mono ?_;rintro e w1 ⟨hS,bX⟩;have b1:=b0.trans (bX.mono b0.size);have U1:=hide ((za U0).call bX);clear HX bX V0 a0 a1 a2 a3 b0 U0
 rcases hS with ⟨hW,q,E,sa,sc,ta,tc,rfl,HS⟩|⟨hW,rfl⟩
 ·have hW:=hide hW;have hS:=SpV_low (B':=w.heap.size+2) HS (by omega);have b2:Below w1.heap.size w1 ((w1.alloc (.cells #[.map (some q), .slice sa M.length sc, .slice ta H.length tc, .int .i64 next] 65)).alloc (.cells #[.string m.p, .int .i64 m.i, .bool m.z, .string RT] 116)):=(bE0).alloc (by simp) _;have HS2:=hide (hS.call b2);have U2:=(za U1).call b2;have X2:=(Mem.Blk.new w1 #[.map (some q), .slice sa M.length sc, .slice ta H.length tc, .int .i64 next] 65).alloc (.cells #[.string m.p, .int .i64 m.i, .bool m.z, .string RT] 116)
  have Y2:Mem.Blk ((w1.alloc (.cells #[.map (some q), .slice sa M.length sc, .slice ta H.length tc, .int .i64 next] 65)).alloc (.cells #[.string m.p, .int .i64 m.i, .bool m.z, .string RT] 116)) (w1.heap.size+1) #[.string m.p, .int .i64 m.i, .bool m.z, .string RT] 116:=Mem.zh9 w1 _ _;have bw2:=hide (b1.trans (b2.mono b1.size));obtain ⟨x0,x1,x2,x3⟩:=jc4 X2;obtain ⟨y0,y1,y2,y3⟩:=jc4 Y2;obtain ⟨⟨d0,d1,d2,d3,d4,d5⟩,fd0,fd1,fd2,fd3,fd4,fd5⟩:=jf6 U2
  clear HRF HCW HS hS U1 b1 b2 X2 Y2;go_upto_region 4 with fail
  generalize (w1.alloc (.cells #[.map (some q), .slice sa M.length sc, .slice ta H.length tc, .int .i64 next] 65)).alloc (.cells #[.string m.p, .int .i64 m.i, .bool m.z, .string RT] 116)=w2 at HS2 U2 bw2 x0 x1 x2 x3 y0 y1 y2 y3 d0 fd0 d1 fd1 d2 fd2 d3 fd3 d4 fd4 d5 fd5 ⊢;have hq:w.heap.size+1<q:=(za HS2).lo;go_wp2
  refine bodyPost_ret (v:= .tuple #[.agg #[.map (some q), .slice sa M.length sc, .slice ta H.length tc, .int .i64 next, .int .i64 m.i, .string RT], .nilIface]) (by simp [results,Tryz.results25,go_sem,d0,d1,d2,d3,d4,d5]) rfl ⟨.inl ⟨za hW,_,_,_,_,_,_,rfl,SpV_low ((((((za HS2).far 0 _ hq).far 1 _ hq).far 2 _ hq).far 3 _ hq).far 4 _ hq |>.far 5 _ hq) (by omega)⟩,?_⟩;refine Below.setCell (Below.setCell (Below.setCell (Below.setCell (Below.setCell (Below.setCell (za bw2) ?_ _) ?_ _) ?_ _) ?_ _) ?_ _) ?_ _ <;> exact Nat.le_succ _
 ·obtain ⟨r,hr,hr0,hrc⟩:=za HCW hW;subst hr;have hW:=hide hW;have HC:=hide (fun W b=>za HRF r c W hrc b);have z1:((r:Int)==0)=false:=by rw [beq_eq_false_iff_ne];omega
  have z2:decide ((r:Int)=0)=false:=by rw [decide_eq_false_iff_not];omega
  have z3:¬ ((r:Int)=0):=by omega
  have b2:Below w1.heap.size w1 ((w1.alloc (.cells #[.map none, .slice none 0 0, .slice none 0 0, .int .i64 0] 65)).alloc (.cells #[.string ⟨#[]⟩, .int .i64 0, .bool false, .string ⟨#[]⟩] 116)):=(bE0).alloc (by simp) _;have U2:=hide ((za U1).call b2);have b3:=b1.trans (b2.mono b1.size);clear U1 b1 b2 hrc HRF HCW;go_wp2_with fail
  generalize (w1.alloc (.cells #[.map none, .slice none 0 0, .slice none 0 0, .int .i64 0] 65)).alloc (.cells #[.string ⟨#[]⟩, .int .i64 0, .bool false, .string ⟨#[]⟩] 116)=w2 at U2 b3 ⊢;refine (za HC _ b3).mono ?_;rintro e w3 ⟨rfl,bX⟩;have U3:=(za U2).call bX;have b4:=hide (b3.trans (bX.mono b3.size));clear HC bX U2 b3;obtain ⟨⟨d0,d1,d2,d3,d4,d5⟩,fd0,fd1,fd2,fd3,fd4,fd5⟩:=jf6 U3;go_wp2
  refine bodyPost_ret (v:= .tuple #[.agg #[.map none, .slice none 0 0, .slice none 0 0, .int .i64 0, .int .i64 0, .string ⟨#[]⟩], .iface 122 (.agg #[.int .i64 c])]) (by simp [results,Tryz.results25,go_sem,d0,d1,d2,d3,d4,d5]) rfl ⟨.inr ⟨za hW,rfl⟩,?_⟩;refine Below.setCell (Below.setCell (Below.setCell (Below.setCell (Below.setCell (Below.setCell (za b4) ?_ _) ?_ _) ?_ _) ?_ _) ?_ _) ?_ _ <;> exact Nat.le_succ _
end WVfs
end
section
open Go.RowKit Go.Maps
namespace WVfs
theorem vlist_any (s:Pl.Sp) (p:ByteArray) (w:World) (hp:p.size≤1048576) (hok:zb0.OkS s 1048576) (hn:WSpI.OkN s) (ha:WSpI.OkA s) (hv:Mem.zd9 w s)
  (hV:∀ (r:Nat) t,WSpI.codes[r]? =some t→w.cell? ⟨0,r,none⟩=some (.int .i64 t)) (hg:w.cell? ⟨1,0,none⟩=some (.iface 210 (.agg #[.pointer (some ⟨6,69,none⟩)])))
  (r0 r1 r2 r3:TypeId) (x0 x1 x2 x3:Value) (hE:zh4.zq8 w r0 r1 r2 r3 x0 x1 x2 x3) (A:List ByteArray × Int) (hA:Pl.zo s p (Pl.zc4 s.next (s.N.map WSp.nr) s.M s.H Pl.wayB)=A):
  Calls Tryz.prog 7 #[.agg s.cs, .string p] w fun e w'=>∃v,e= .returned (vnl v A.2)∧ze3.Own w' w.heap.size v A.1∧Below w.heap.size w w':=by
 generalize hlm:Pl.zf8 (Pl.uR p) s.M s.M.length=m;have HX:=hide (fun W (b:Below w.heap.size w W)=>target_any s p W hp hok hn ha (hv.call b) m hlm (WSpI.zw4 hV b) r0 r1 r2 r3 x0 x1 x2 x3 (hE.call b));have hlt:1<w.heap.size:=World.block_lt_of_cell? w ⟨1,0,none⟩ hg;have HGC:=hide (fun W (b:Below w.heap.size w W)=>(b.cell (p:=⟨1,0,none⟩) hlt).trans hg);have HR:=hide (fun c W (b:Below w.heap.size w W)=>yh8 c W ((b.cell (p:=⟨1,0,none⟩) hlt).trans hg))
 have HY:Hid (Pl.whyI p (Pl.zc4 s.next (s.N.map WSp.nr) s.M s.H Pl.wayB)=0→(Pl.za0 (Pl.rest p m.p)=true∧MapI.i64 m.i∧(s.N.map (·.d)).Pairwise (· < ·))∧∃ (k:Nat) (x:Pl.Ns),s.N[k]? =some x∧x.d=m.i∧A=Pl.zq (x.Is.map Pl.It.r) (Pl.rest p m.p)∧(Pl.nest (Pl.rowO (x.Is.map Pl.It.r))).isSome=true):=hide (fun h=>by
  rcases Pl.yc0 p (Pl.zc4 s.next (s.N.map WSp.nr) s.M s.H Pl.wayB) with ⟨-,h1,h2⟩|h1|h1
  ·obtain ⟨k1,k2,k3,k4,k5,k6,k7,k8⟩:=Pl.yh9 h1;have hl:=(Pl.lead_of h1 p h2).2.1;rw [hlm] at hl;obtain ⟨k,x,e1,e2,e3, -⟩:=Pl.yl2 h1 hl;refine ⟨⟨Pl.yj4 h2 m.p,?_,k5⟩,k,x,e1,e2,?_,Pl.yh4 h1 x (List.mem_of_getElem? e1)⟩
   ·have :=k6 m.i (by rw [←e2];exact List.mem_map.2 ⟨x,List.mem_of_getElem? e1,rfl⟩);unfold MapI.i64;omega
   ·rw [←hA];unfold Pl.zo;rw [if_pos h,hlm,e3]
  ·rw [h1] at h;cases h
  ·rw [h1] at h;cases h)
 have HAB:Hid (Pl.whyI p (Pl.zc4 s.next (s.N.map WSp.nr) s.M s.H Pl.wayB)≠0→A=([],if Pl.whyI p (Pl.zc4 s.next (s.N.map WSp.nr) s.M s.H Pl.wayB)=1 then 2 else 1)):=hide (fun h=>by rw [←hA];unfold Pl.zo;rw [if_neg h]);unfold Aimed at HX;generalize Pl.zc4 s.next (s.N.map WSp.nr) s.M s.H Pl.wayB=RB at HX HY HAB;generalize (if Pl.whyI p RB=1 then (2:Int) else 1)=c at HX HAB;generalize Pl.whyI p RB=WI at HX HY HAB;generalize Pl.rest p m.p=RT at HX HY;generalize m.i=di at HX HY;have HRD:=hide (fun (W:World) q E sa ta sc tc B hg hG h1 x k h2 h3 h4 h5 h6=>list_any s q E sa ta sc tc B di RT W hg hG h1 x k h2 h3 h4 h5 h6);clear hok hn ha hv hE hV hlm hA hp hg hlt;obtain ⟨ia,ic,N,ma,mc,M,ha,hc,H,next⟩:=s;unfold Pl.Sp.cs at HX ⊢;unfold vill fault at HR;unfold fault at HX;simp only at HX HY HRD ⊢
 have b0:Below w.heap.size w ((w.alloc (.cells #[.slice ia N.length ic, .slice ma M.length mc, .slice ha H.length hc, .int .i64 next] 32)).alloc (.cells #[.slice none 0 0, .slice none 0 0, .slice none 0 0, .int .i64 0, .string ⟨#[]⟩, .slice none 0 0, .int .i64 0, .int .i64 0, .int .i64 0] 35)):=(bE0).alloc (by simp) _;have V0:=hide ((Mem.Blk.new w #[.slice ia N.length ic, .slice ma M.length mc, .slice ha H.length hc, .int .i64 next] 32).alloc (.cells #[.slice none 0 0, .slice none 0 0, .slice none 0 0, .int .i64 0, .string ⟨#[]⟩, .slice none 0 0, .int .i64 0, .int .i64 0, .int .i64 0] 35))
 have U0:=hide (Mem.Blk.new (w.alloc (.cells #[.slice ia N.length ic, .slice ma M.length mc, .slice ha H.length hc, .int .i64 next] 32)) #[.slice none 0 0, .slice none 0 0, .slice none 0 0, .int .i64 0, .string ⟨#[]⟩, .slice none 0 0, .int .i64 0, .int .i64 0, .int .i64 0] 35);rw [show (w.alloc (.cells #[.slice ia N.length ic, .slice ma M.length mc, .slice ha H.length hc, .int .i64 next] 32)).heap.size=w.heap.size+1 by simp] at U0;obtain ⟨a0,a1,a2,a3⟩:=jc4 (za V0);go_enter Tryz.func7,Tryz.ntmps7
 go_wp2_with fail
 generalize (w.alloc (.cells #[.slice ia N.length ic, .slice ma M.length mc, .slice ha H.length hc, .int .i64 next] 32)).alloc (.cells #[.slice none 0 0, .slice none 0 0, .slice none 0 0, .int .i64 0, .string ⟨#[]⟩, .slice none 0 0, .int .i64 0, .int .i64 0, .int .i64 0] 35)=wA at b0 V0 U0 a0 a1 a2 a3 ⊢;refine (za HX _ b0).mono ?_;rintro e w1 ⟨hS,bX⟩;have b1:=b0.trans (bX.mono b0.size);have U1:=hide ((za U0).call bX);clear HX bX V0 a0 a1 a2 a3 b0 U0
 rcases hS with ⟨hW,q,E,sa,sc,ta,tc,rfl,HS⟩|⟨hW,rfl⟩
 ·obtain ⟨⟨hRT,hi64,hrs⟩,k,x,hx,hxd,hAT,hnr⟩:=za HY hW;have b2:Below w1.heap.size w1 (w1.alloc (.cells #[.map (some q), .slice sa M.length sc, .slice ta H.length tc, .int .i64 next, .int .i64 di, .string RT] 67)):=bE0;have bw2:=b1.trans (b2.mono b1.size);have HRQ:=hide (za HRD _ q E sa ta sc tc _ (za HGC _ bw2) (HS.call b2) hrs x k hx hxd hi64 hnr hRT);have U2:=hide ((za U1).call b2);have X2:=Mem.Blk.new w1 #[.map (some q), .slice sa M.length sc, .slice ta H.length tc, .int .i64 next, .int .i64 di, .string RT] 67;obtain ⟨x0,x1,x2,x3,x4,x5⟩:=jc6 X2;generalize Pl.zq (x.Is.map Pl.It.r) RT=LR at HRQ hAT;subst hAT;clear HRD HGC HR HY HAB HS U1 b1 b2 X2 hW hx hxd hnr hRT hrs;go_upto_region 4 with fail
  generalize w1.alloc (.cells #[.map (some q), .slice sa M.length sc, .slice ta H.length tc, .int .i64 next, .int .i64 di, .string RT] 67)=w2 at HRQ U2 bw2 x0 x1 x2 x3 x4 x5 ⊢;go_wp2_with fail
  refine (za HRQ).mono ?_;rintro e w3 ⟨v,rfl,hO,bX⟩;unfold vnl;obtain ⟨sa',sn',sc',rfl⟩:=zf1 hO;have hlt5:w.heap.size+1<w2.heap.size:=(za U2).lt;have OI:=hide hO;have U3:=(za U2).call bX;have b3:=hide (bw2.trans (bX.mono bw2.size));clear HRQ bX U2 bw2 x0 x1 x2 x3 x4 x5 hO;obtain ⟨⟨d0,d1,d2,d3,d4,d5,d6,d7,d8⟩,fd0,fd1,fd2,fd3,fd4,fd5,fd6,fd7,fd8⟩:=jf9 U3;go_wp2
  refine bodyPost_ret (v:= .agg #[.slice none 0 0, .slice none 0 0, .slice none 0 0, .int .i64 0, .string ⟨#[]⟩, .slice sa' sn' sc', .int .i64 0, .int .i64 0, .int .i64 A.2]) (by simp [results,Tryz.results7,go_sem,d0,d1,d2,d3,d4,d5,d6,d7,d8]) rfl ⟨_,rfl,?_,?_⟩
  ·refine Mem.zg (zb9 (zb9 (zb9 (zb9 (zb9 (zb9 (zb9 (zb9 (zb9 (za OI) ?_) ?_) ?_) ?_) ?_) ?_) ?_) ?_) ?_) (show w.heap.size≤w2.heap.size by omega) <;> exact hlt5
  refine Below.setCell (Below.setCell (Below.setCell (Below.setCell (Below.setCell (Below.setCell (Below.setCell (Below.setCell (Below.setCell (za b3) ?_ _) ?_ _) ?_ _) ?_ _) ?_ _) ?_ _) ?_ _) ?_ _) ?_ _ <;> exact Nat.le_succ _
 ·obtain rfl:=za HAB hW;have b2:Below w1.heap.size w1 (w1.alloc (.cells #[.map none, .slice none 0 0, .slice none 0 0, .int .i64 0, .int .i64 0, .string ⟨#[]⟩] 67)):=bE0;have U2:=hide ((za U1).call b2);have b3:=b1.trans (b2.mono b1.size);clear U1 b1 b2 HY HAB HRD hW HGC;go_wp2_with fail
  generalize w1.alloc (.cells #[.map none, .slice none 0 0, .slice none 0 0, .int .i64 0, .int .i64 0, .string ⟨#[]⟩] 67)=w2 at U2 b3 ⊢;refine (za HR c _ b3).mono ?_;rintro e w3 ⟨rfl,bX⟩;have U3:=(za U2).call bX;have b4:=hide (b3.trans (bX.mono b3.size));clear HR bX U2 b3;obtain ⟨⟨d0,d1,d2,d3,d4,d5,d6,d7,d8⟩,fd0,fd1,fd2,fd3,fd4,fd5,fd6,fd7,fd8⟩:=jf9 U3;go_wp2
  refine bodyPost_ret (v:= .agg #[.slice none 0 0, .slice none 0 0, .slice none 0 0, .int .i64 0, .string ⟨#[]⟩, .slice none 0 0, .int .i64 0, .int .i64 0, .int .i64 c]) (by simp [results,Tryz.results7,go_sem,d0,d1,d2,d3,d4,d5,d6,d7,d8]) rfl ⟨_,rfl,zx0 _ _,?_⟩;refine Below.setCell (Below.setCell (Below.setCell (Below.setCell (Below.setCell (Below.setCell (Below.setCell (Below.setCell (Below.setCell (za b4) ?_ _) ?_ _) ?_ _) ?_ _) ?_ _) ?_ _) ?_ _) ?_ _) ?_ _ <;> exact Nat.le_succ _
end WVfs
end
section
open Go.RowKit
namespace zh8
theorem infoI:(Tryz.prog.info? 3).map (fun i=>(i.zero,i.size,i.bytes))=some (some (.int .i64 0),1,8):=by kernel_rfl
def intsV (ks:List Nat):List Value:=ks.map (fun k:Nat=>Value.int .i64 (k:Int))
def ownI (w:World) (B:Nat) (v:Value) (ks:List Nat):Prop:=w.ownsRow B 3 1 v ks.length (intsV ks)
theorem zv4 {w w':World} {B:Nat} {v:Value} {ks:List Nat} (h:ownI w B v ks) (b:Below w.heap.size w w'):ownI w' B v ks:=by
 refine ⟨h.1,?_⟩
 rcases h.2 with h0|⟨g,cap,cur,hv,hb,hg,rest⟩
 ·exact .inl h0
 ·exact .inr ⟨g,cap,cur,hv,hb,(b.block g (Array.getElem?_eq_some_iff.1 hg).1).trans hg,rest⟩
theorem ye2 {w:World} {B:Nat} {v:Value} {ks:List Nat} {k:Nat} (h:w.ownsRow B 3 1 v (ks.length+1) (intsV ks++[.int .i64 (k:Int)])):ownI w B v (ks++[k]):=by
 unfold ownI intsV;rw [List.map_append,List.length_append];exact h
end zh8
end
section
open Go.RowKit
namespace zh8
theorem all_any (n:Nat) (w:World) (hn:n≤4):
  Calls Tryz.prog 77 #[.int .i64 (n:Int)] w fun e w'=>∃v,e= .returned v∧ownI w' w.heap.size v (List.range n)∧Below w.heap.size w w':=by
 obtain ⟨i0,hi,hz0,hz1,hz2⟩:=info_parts infoI;have A0:Hid (Below w.heap.size w (w.alloc (.cells #[] 3))∧ownI (w.alloc (.cells #[] 3)) w.heap.size (.slice (some ⟨w.heap.size,0,none⟩) 0 0) (List.range 0)):=⟨bE0,⟨rfl, .inr ⟨w.heap.size,0,#[],rfl,Nat.le_refl _,heap_alloc_new _ _,Nat.le_refl _,Nat.zero_le _,rfl,rfl⟩⟩⟩;go_enter Tryz.func77,Tryz.ntmps77
 go_wp2
 go_loopw [3,4] (fun v i wr=>∃k:Nat,k≤n∧i= .int .i64 (k:Int)∧Hid (Below w.heap.size w wr∧ownI wr w.heap.size v (List.range k))) (fun _ i _=>n - (intOf i).toNat)
 case atStart=>exact ⟨0,Nat.zero_le _,rfl,A0⟩
 case round=>
  obtain ⟨k,hk,rfl,HA⟩:=hrel;clear A0;by_cases hlt:k<n
  ·have y1:(k:Int)<(n:Int):=by omega
   have bA:Below wr.heap.size wr (wr.alloc (.cells #[.int .i64 (k:Int)] 3)):=bE0;have HR:=hide (zv4 (za HA).2 bA);have HQ:=hide (fun w2 h2=>Mem.zg4 (o:= .cells #[.int .i64 (k:Int)] 3) (w1:=w2) (za HA).1 (Nat.le_refl _) (za HA).2 h2);have HSB:=hide (za HA).1.size;unfold ownI at HR;rw [List.length_range] at HR;clear HA bA;go_wp2_with (at_builtin;refine wpList_append_own _ rfl _ _ 98 rfl w.heap.size 3 i0 (.int .i64 0) 1 8 Tryz.underlying98 hi hz0 hz1 hz2 rfl (by decide) _ _ _ rfl (za HR) ⟨wr.heap.size,0,none⟩ 1 1 [.int .i64 (k:Int)] rfl rfl (Mem.ze6 _ _ _) (fun u hu=>by simp at hu;subst hu;rfl) (by unfold maxLen;omega) (by omega) (by have :=za HSB;simp;omega) ?_)
   intro v' w2 own' hgrow _;have A2:Hid (Below w.heap.size w w2∧ownI w2 w.heap.size v' (List.range (k+1))):=⟨za HQ w2 hgrow,by rw [List.range_succ];exact ye2 (by rw [List.length_range];exact own')⟩;clear HR HQ own' hgrow HSB;go_wp2
   go_roundw
   case rel=>exact ⟨k+1,by omega,by go_num,A2⟩
   case measure=>simp [intOf];omega
  ·obtain rfl:k=n:=by omega
   have y1:¬ ((k:Int)<(k:Int)):=by omega
   go_wp2
   go_ret
   exact ⟨_,rfl,(za HA).2,(za HA).1⟩
end zh8
end
section
open Go.RowKit
namespace Mem
theorem zn8 {P:Program} {ops:Array Oper} {o:Oper} {a:Act} {w:World} {K:Act→World→Prop} {Q:Exit→Act→World→Prop} {E:Prop}
  (hg:o.guard=none) (s x:Operand) (t:TypeId) (hop:o.op=Op.call { callee:=Callee.builtin Builtin.append,args:=#[s,x],argTypes:=#[t,t] })
  (base:Nat) (e:TypeId) (i:TypeInfo) (z:Value) (size bytes:Nat) (h1:P.underlying t=some (.slice e)) (h2:P.info? e=some i) (h3:i.zero=some z) (h4:i.size=size) (h5:i.bytes=bytes) (h6:z.cells.size=size) (h7:0<size)
  (v:Value) (n:Nat) (xs:List Value) (hs:a.eval s=v) (hown:w.ownsRow base e size v n xs)
  (ad:Addr) (m c:Nat) (news:List Value) (hx:a.eval x= .slice (some ad) m c) (hn:news.length=m*size) (hc:∀j u,news[j]? =some u→w.cell? (ad.add j)=some u) (h1c:∀u∈news,u.oneCell'=true)
  (b1:n+m≤maxLen) (b2:(n+m)*bytes≤140737488355328) (hbase:base≤w.heap.size)
  (hK:∀v' w',w'.ownsRow base e size v' (n+m) (xs++news)→w.grownBy w' v.ownBlock→K (a.put o.dst v') w'):
  if Region.wanted o (yielded ops a.tmps)=true then Oper.wp P o a w K Q else E:=by
 have hw:Region.wanted o (yielded ops a.tmps)=true:=by simp [Region.wanted,hg]
 rw [if_pos hw];obtain ⟨v',w',hrun,r1,r2,_⟩:=run_append_own (P:=P) w base t o.type e i z size bytes h1 h2 h3 h4 h5 h6 h7 v n xs hown ad m c news hn hc h1c b1 b2 hbase;unfold Oper.wp;simp [execOp,hop,resolve,invoke,builtin,hs,hx,hrun,Result.andThen]
 exact hK v' w' r1 r2
end Mem
end
section
open Go.RowKit
namespace zh8
theorem zq3 (x y:Int) (w:World):Calls Tryz.prog 103 #[.int .i64 x, .int .i64 y] w fun e w'=>e= .returned (.int .i64 (max x y))∧w'=w:=by
 by_cases h:y<x
 ·go_enter Tryz.func103,Tryz.ntmps103
  go_wp2
  go_ret
  exact ⟨by rw [show max x y=x by omega];rfl,rfl⟩
 ·go_enter Tryz.func103,Tryz.ntmps103
  go_wp2
  go_ret
  exact ⟨by rw [show max x y=y by omega];rfl,rfl⟩
end zh8
end
section
open Go.RowKit
namespace zh8
def za5 (o:Pl.Ot) (v:Value):List Value:=[.bool o.ok, .string o.node.path, .int .i64 o.node.kind, .string o.node.data, .int .i64 o.node.time, .int .i64 o.node.mark,v]
structure AtP (w W:World) (o:Pl.Ot) (v:Value):Prop where
 bel:Below w.heap.size w W
 res:Mem.Blk W w.heap.size (za5 ⟨false,Pl.za3,[]⟩ (.slice none 0 0)).toArray 100
 out:Mem.Blk W (w.heap.size+1) (za5 o v).toArray 100
 own:ownI W (w.heap.size+2) v o.parts
theorem AtP.call {w W W':World} {o:Pl.Ot} {v:Value} (h:AtP w W o v) (b:Below W.heap.size W W'):AtP w W' o v:=⟨h.bel.trans (b.mono h.bel.size),h.res.call b,h.out.call b,zv4 h.own b⟩
theorem AtP.alloc {w W:World} {o:Pl.Ot} {v:Value} (h:AtP w W o v) (x:Obj):AtP w (W.alloc x) o v:=h.call ((Below.refl _ _).alloc (Nat.le_refl _) x)
theorem zg3 {w:World} {B:Nat} {v:Value} {ks:List Nat} (h:ownI w B v ks) (a:Addr) (u:Value) (ha:a.block<B):ownI (w.setCell a u) B v ks:=by
 refine ⟨h.1,?_⟩
 rcases h.2 with h0|⟨g,cap,cur,hv,hb,hg,rest⟩
 ·exact .inl h0
 ·exact .inr ⟨g,cap,cur,hv,hb,(heap_setCell_other w a g u (by omega)).trans hg,rest⟩
theorem zy6 {w:World} {B B':Nat} {v:Value} {ks:List Nat} (h:ownI w B v ks) (hb:B'≤B):ownI w B' v ks:=by
 refine ⟨h.1,?_⟩
 rcases h.2 with h0|⟨g,cap,cur,hv,hb2,rest⟩
 ·exact .inl h0
 ·exact .inr ⟨g,cap,cur,hv,Nat.le_trans hb hb2,rest⟩
theorem zs2 {w:World} {B:Nat} {v:Value} {ks:List Nat} (h:ownI w B v ks):∃a cap,v= .slice a ks.length cap:=Mem.zf1 h
theorem AtP.put {w W:World} {o o':Pl.Ot} {v:Value} (h:AtP w W o v) (k:Nat) (u:Value) (e:(za5 o v).set k u=za5 o' v) (hp:o'.parts=o.parts):AtP w (W.setCell ⟨w.heap.size+1,k,none⟩ u) o' v:=by
 refine ⟨h.bel.setCell (by show w.heap.size≤w.heap.size+1;omega) _,h.res.far _ _ (by show w.heap.size≠w.heap.size+1;omega),?_,?_⟩
 ·have h2:=h.out.put k u;rw [List.setIfInBounds_toArray,e] at h2;exact h2
 ·rw [hp];exact zg3 h.own _ _ (by show w.heap.size+1<w.heap.size+2;omega)
theorem AtP.ok {w W:World} {o:Pl.Ot} {v:Value} (h:AtP w W o v) (x:Bool):AtP w (W.setCell ⟨w.heap.size+1,0,none⟩ (.bool x)) ⟨x,o.node,o.parts⟩ v:=h.put 0 _ rfl rfl
theorem AtP.mark {w W:World} {o:Pl.Ot} {v:Value} (h:AtP w W o v) (m:Int):AtP w (W.setCell ⟨w.heap.size+1,5,none⟩ (.int .i64 m)) ⟨o.ok,⟨o.node.path,o.node.kind,o.node.data,o.node.time,m⟩,o.parts⟩ v:=h.put 5 _ rfl rfl
theorem AtP.node {w W:World} {o:Pl.Ot} {v:Value} (h:AtP w W o v) (p:ByteArray) (k:Int) (d:ByteArray) (t m:Int):AtP w (((((W.setCell ⟨w.heap.size+1,1,none⟩ (.string p)).setCell ⟨w.heap.size+1,2,none⟩ (.int .i64 k)).setCell ⟨w.heap.size+1,3,none⟩ (.string d)).setCell ⟨w.heap.size+1,4,none⟩ (.int .i64 t)).setCell ⟨w.heap.size+1,5,none⟩ (.int .i64 m)) ⟨o.ok,⟨p,k,d,t,m⟩,o.parts⟩ v:=
 ((((h.put (o':=⟨o.ok,⟨p,o.node.kind,o.node.data,o.node.time,o.node.mark⟩,o.parts⟩) 1 _ rfl rfl).put (o':=⟨o.ok,⟨p,k,o.node.data,o.node.time,o.node.mark⟩,o.parts⟩) 2 _ rfl rfl).put (o':=⟨o.ok,⟨p,k,d,o.node.time,o.node.mark⟩,o.parts⟩) 3 _ rfl rfl).put (o':=⟨o.ok,⟨p,k,d,t,o.node.mark⟩,o.parts⟩) 4 _ rfl rfl).put 5 _ rfl rfl
theorem AtP.more {w W W':World} {o:Pl.Ot} {v v':Value} {k:Nat} (h:AtP w W o v) (own':W'.ownsRow (w.heap.size+2) 3 1 v' (o.parts.length+1) (intsV o.parts++[.int .i64 (k:Int)])) (g:W.grownBy W' v.ownBlock):AtP w (W'.setCell ⟨w.heap.size+1,6,none⟩ v') ⟨o.ok,o.node,o.parts++[k]⟩ v':=by
 have hlt:∀q,v.ownBlock=some q→w.heap.size+2≤q:=fun q hq=>(World.ownsRow.lt h.own q hq).1;refine ⟨(h.bel.grown g h.bel.size (fun q hq=>by have :=hlt q hq;omega)).setCell (by show w.heap.size≤w.heap.size+1;omega) _,(h.res.grown g (fun e=>by have :=hlt _ e.symm;omega)).far _ _ (by show w.heap.size≠w.heap.size+1;omega),?_,?_⟩
 ·have h2:=(h.out.grown g (fun e=>by have :=hlt _ e.symm;omega)).put 6 v';rw [List.setIfInBounds_toArray] at h2;exact h2
 ·exact zg3 (ye2 own') _ _ (by show w.heap.size+1<w.heap.size+2;omega)
theorem AtP.ret {w W:World} {o:Pl.Ot} {v:Value} (h:AtP w W o v) (x:Bool) (p:ByteArray) (k:Int) (d:ByteArray) (t m:Int) (u:Value):
  Mem.Blk (((((((W.setCell ⟨w.heap.size,0,none⟩ (.bool x)).setCell ⟨w.heap.size,1,none⟩ (.string p)).setCell ⟨w.heap.size,2,none⟩ (.int .i64 k)).setCell ⟨w.heap.size,3,none⟩ (.string d)).setCell ⟨w.heap.size,4,none⟩ (.int .i64 t)).setCell ⟨w.heap.size,5,none⟩ (.int .i64 m)).setCell ⟨w.heap.size,6,none⟩ u) w.heap.size #[.bool x, .string p, .int .i64 k, .string d, .int .i64 t, .int .i64 m,u] 100∧
  Below w.heap.size w (((((((W.setCell ⟨w.heap.size,0,none⟩ (.bool x)).setCell ⟨w.heap.size,1,none⟩ (.string p)).setCell ⟨w.heap.size,2,none⟩ (.int .i64 k)).setCell ⟨w.heap.size,3,none⟩ (.string d)).setCell ⟨w.heap.size,4,none⟩ (.int .i64 t)).setCell ⟨w.heap.size,5,none⟩ (.int .i64 m)).setCell ⟨w.heap.size,6,none⟩ u)∧
  ownI (((((((W.setCell ⟨w.heap.size,0,none⟩ (.bool x)).setCell ⟨w.heap.size,1,none⟩ (.string p)).setCell ⟨w.heap.size,2,none⟩ (.int .i64 k)).setCell ⟨w.heap.size,3,none⟩ (.string d)).setCell ⟨w.heap.size,4,none⟩ (.int .i64 t)).setCell ⟨w.heap.size,5,none⟩ (.int .i64 m)).setCell ⟨w.heap.size,6,none⟩ u) w.heap.size v o.parts:=by
 have hr:w.heap.size<w.heap.size+2:=by omega
 refine ⟨?_,((((((h.bel.setCell (p:=⟨w.heap.size,0,none⟩) (Nat.le_refl _) _).setCell (p:=⟨w.heap.size,1,none⟩) (Nat.le_refl _) _).setCell (p:=⟨w.heap.size,2,none⟩) (Nat.le_refl _) _).setCell (p:=⟨w.heap.size,3,none⟩) (Nat.le_refl _) _).setCell (p:=⟨w.heap.size,4,none⟩) (Nat.le_refl _) _).setCell (p:=⟨w.heap.size,5,none⟩) (Nat.le_refl _) _).setCell (p:=⟨w.heap.size,6,none⟩) (Nat.le_refl _) _,?_⟩
 ·have h2:=((((((h.res.put 0 (.bool x)).put 1 (.string p)).put 2 (.int .i64 k)).put 3 (.string d)).put 4 (.int .i64 t)).put 5 (.int .i64 m)).put 6 u;simp only [List.setIfInBounds_toArray] at h2;exact h2
 ·exact zy6 (zg3 (zg3 (zg3 (zg3 (zg3 (zg3 (zg3 h.own _ _ hr) _ _ hr) _ _ hr) _ _ hr) _ _ hr) _ _ hr) _ _ hr) (by omega)
end zh8
end
end Go.Proofs.YtbomeifgfalmdaaGreatDoor
