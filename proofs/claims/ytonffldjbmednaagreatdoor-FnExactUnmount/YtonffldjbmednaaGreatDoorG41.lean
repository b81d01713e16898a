/- Several texts of one claim in one file: WLess1S, WParS, WTreeS, WTreeR, WNestS. -/
import Derived.Test.YtonffldjbmednaaGreatDoorG00
import Derived.Test.YtonffldjbmednaaGreatDoorG07
import Derived.Test.YtonffldjbmednaaGreatDoorG09
import Derived.Deep.QuietTactic
import Derived.BigQuiet
import Derived.WalkKit
import Derived.Laws.IdiomStrings
import Derived.Test.YtonffldjbmednaaGreatDoorProg
import Derived.WalkSpells
import Derived.Test.YtonffldjbmednaaGreatDoorG05
import Derived.Test.YtonffldjbmednaaGreatDoorG02
import Derived.Test.YtonffldjbmednaaGreatDoorG01
import Derived.Test.YtonffldjbmednaaGreatDoorG12
namespace Go.Proofs.YtonffldjbmednaaGreatDoor
section
open Go.RowKit
namespace zi5
set_option maxRecDepth 100000 in
set_option maxHeartbeats 1000000 in
theorem less1_any (p t:ByteArray) (w:World) (hp:p.size≤8000) (ht:t.size≤8000):
  Calls Tryz.prog 121 #[.string p, .string t] w fun e w'=>e= .returned (.bool (Pl.za3 (Pl.names p) (Pl.names t)))∧Below w.heap.size w w':=by
 have hn1:=hide (fun W=>zx0 p W (by omega));have hn2:=hide (fun W=>zx0 t W (by omega));have hA:=Pl.zr1 p;have hB:=Pl.zr1 t;generalize Pl.names p=A at hn1 hA ⊢;generalize Pl.names t=B at hn2 hB ⊢;have HE:Hid (∀k,k=A.length∧k≤B.length∨k=B.length∧k≤A.length→Pl.za3 (A.drop k) (B.drop k)=decide (A.length<B.length)):=fun k h=>Pl.less_end h;have HS:Hid (Pl.za3 A B=Pl.za3 (A.drop 0) (B.drop 0)):=rfl;have HT:Hid (∀k a b,A[k]? =some a→B[k]? =some b→a=b→Pl.za3 (A.drop k) (B.drop k)=Pl.za3 (A.drop (k+1)) (B.drop (k+1))):=fun k a b h1 h2 h3=>Pl.less_same h1 h2 h3;have HF:Hid (∀k a b,A[k]? =some a→B[k]? =some b→a≠b→Pl.za3 (A.drop k) (B.drop k)=Op.bytesLess a.toList b.toList):=fun k a b h1 h2 h3=>Pl.ya5 h1 h2 h3;generalize Pl.za3 A B=R at HS ⊢;go_enter Tryz.func121,Tryz.ntmps121
 go_wp2_with fail
 refine (za hn1 _).mono ?_;rintro e w1 ⟨v,rfl,hown1,b1⟩;have HO1:=hide hown1;clear hown1;go_wp2_with fail
 refine (za hn2 _).mono ?_;rintro e w2 ⟨u,rfl,hown2,b2⟩;have hv:=hide (Mem.texts_call (Mem.zo6 (za HO1)) b2);have hu:=hide (Mem.zo6 hown2);have b3:=b1.trans (b2.mono b1.size);have hs3:=b3.size;clear b1 b2 hown2 HO1 hn1 hn2;obtain ⟨va,vc,rfl⟩:=Mem.zo3 (za hv);obtain ⟨ua,uc,rfl⟩:=Mem.zo3 (za hu)
 have HCA:Hid (∀ (k:Nat) x,A[k]? =some x→∃b o,va=some ⟨b,o,none⟩∧b<w2.heap.size∧w2.cell? ⟨b,o+k,none⟩=some (.string x)):=fun k x hx=>by
  rcases za hv with ⟨_,rfl⟩|⟨b,o,cap,h1,h2,h3⟩
  ·simp at hx
  ·cases h1;exact ⟨b,o,rfl,h2,h3 k x hx⟩
 have HCB:Hid (∀ (k:Nat) x,B[k]? =some x→∃b o,ua=some ⟨b,o,none⟩∧b<w2.heap.size∧w2.cell? ⟨b,o+k,none⟩=some (.string x)):=fun k x hx=>by
  rcases za hu with ⟨_,rfl⟩|⟨b,o,cap,h1,h2,h3⟩
  ·simp at hx
  ·cases h1;exact ⟨b,o,rfl,h2,h3 k x hx⟩
 clear hv hu;go_wp2
 go_loopw [7] (fun i wr=>∃k:Nat,k≤A.length∧k≤B.length∧i= .int .i64 (k:Int)∧Below w2.heap.size w2 wr∧Hid (R=Pl.za3 (A.drop k) (B.drop k))) (fun i _=>A.length - (intOf i).toNat)
 case atStart=>exact ⟨0,Nat.zero_le _,Nat.zero_le _,rfl,Below.refl _ _,HS⟩
 case round=>
  obtain ⟨k,hk,hk2,rfl,hbel,HR⟩:=hrel;by_cases hlt:k<A.length∧k<B.length
  ·obtain ⟨l1,l2⟩:=hlt;obtain ⟨y,hy⟩:∃y,B[k]? =some y:=⟨_,List.getElem?_eq_getElem (by omega)⟩;obtain ⟨x,hx⟩:∃x,A[k]? =some x:=⟨_,List.getElem?_eq_getElem (by omega)⟩;obtain ⟨b,o,rfl,hb,hcb⟩:=HCB.out k y hy;obtain ⟨b',o',rfl,hb',hca⟩:=HCA.out k x hx;have hc1:wr.cell? ⟨b,o+k,none⟩=some (.string y):=(hbel.cell (p:=⟨b,o+k,none⟩) hb).trans hcb;have hc2:wr.cell? ⟨b',o'+k,none⟩=some (.string x):=(hbel.cell (p:=⟨b',o'+k,none⟩) hb').trans hca;have u1:(k:Int)<(A.length:Int):=by omega
   have u2:(k:Int)<(B.length:Int):=by omega
   have u3:(0:Int)≤(k:Int):=by omega
   clear hcb hca;by_cases hxy:x=y
   ·have t2:=Pl.zw0 hxy;have HR2:Hid (R=Pl.za3 (A.drop (k+1)) (B.drop (k+1))):=HR.out.trans (HT.out k x y hx hy hxy);clear hx hy HR hxy;go_wp2
    go_quiet (fail)
    go_wp2
    go_roundw
    case rel=>exact ⟨k+1,by omega,by omega,by go_num,Mem.below_drewN hbel _,HR2⟩
    case measure=>simp [intOf];omega
   ·have t2:=Pl.zr4 hxy;have E:Hid (R=Op.bytesLess x.toList y.toList):=HR.out.trans (HF.out k x y hx hy hxy);clear hx hy HR hxy;go_wp2
    go_quiet (fail)
    go_wp2
    go_quiet (fail)
    go_wp2
    go_ret
    exact ⟨za0 E.out.symm,b3.trans ((Mem.below_drewN (Mem.below_drewN hbel _) _).mono hs3)⟩
  ·have E:Hid (R=decide (A.length<B.length)):=HR.out.trans (HE.out _ (by omega));clear HR;by_cases l1:k<A.length
   ·have u1:(k:Int)<(A.length:Int):=by omega
    have u2:¬ (k:Int)<(B.length:Int):=by omega
    clear hlt;go_wp2
    go_ret
    exact ⟨za0 (by rw [E.out]),b3.trans (hbel.mono hs3)⟩
   ·have u1:¬ (k:Int)<(A.length:Int):=by omega
    clear hlt;go_wp2
    go_ret
    exact ⟨za0 (by rw [E.out]),b3.trans (hbel.mono hs3)⟩
end zi5
end
section
open Go.RowKit
namespace zi5

set_option maxHeartbeats 400000 in
theorem cut_any (s:ByteArray) (w:World) (hs:s.size≤maxLen):
  Calls Tryz.prog 199 #[.string s] w fun e w'=>e= .returned (.int .i64 (Pl.zd0 s s.size))∧w'=w:=by
 unfold maxLen at hs;go_enter Tryz.func199,Tryz.ntmps199
 go_wp2
 go_loop [3,4] (fun x i=>∃k:Nat,k≤s.size∧i= .int .i64 (k:Int)∧x= .int .i64 (Pl.zd0 s k)) (fun _ i=>s.size - (intOf i).toNat)
 case atStart=>exact ⟨0,Nat.zero_le _,rfl,rfl⟩
 case round=>
  obtain ⟨k,hk,rfl,rfl⟩:=hrel;by_cases hlt:k<s.size
  ·by_cases hb:s[k].toNat=47
   ·have H:=hide (Pl.slash_hit hlt hb);have t1:((s[k].toNat:Int)==47)=true:=by rw [beq_iff_eq];omega
    clear hb;go_wp2
    go_round
    case rel=>exact ⟨k+1,by omega,by go_num,by rw [za H]⟩
    case measure=>simp [intOf];omega
   ·have H:=hide (Pl.yb6 hlt hb);have t1:((s[k].toNat:Int)==47)=false:=by rw [beq_eq_false_iff_ne];omega
    clear hb;go_wp2
    go_round
    case rel=>exact ⟨k+1,by omega,by go_num,by rw [za H]⟩
    case measure=>simp [intOf];omega
  ·obtain rfl:k=s.size:=by omega
   go_wp2
   go_ret
   exact ⟨rfl,rfl⟩

theorem zv3 (s:ByteArray) (w:World) (hs:s.size≤maxLen):
  Calls Tryz.prog 193 #[.string s] w fun e w'=>e= .returned (.string (Pl.parent s))∧w'=w:=by
 have hb:=Pl.slash_lt s s.size;have hc:=hide (cut_any s w hs);unfold maxLen at hs;have E0:Hid (Pl.zd0 s s.size<0→Pl.parent s=⟨#[]⟩):=fun h=>if_pos h;have E1:Hid (¬Pl.zd0 s s.size<0→Pl.parent s=s.extract 0 (Pl.zd0 s s.size).toNat):=fun h=>if_neg h;generalize Pl.zd0 s s.size=k at hc hb E0 E1;by_cases h:k<0
 ·have E:=hide (E0.out h);clear E0 E1;go_enter Tryz.func193,Tryz.ntmps193
  go_wp2_with (go_at_call 199;refine (za hc).mono ?_;rintro e w' ⟨rfl,hw⟩;obtain rfl:=hw.symm)
  go_ret
  exact ⟨yb7 (za E).symm,rfl⟩
 ·have E:=hide (E1.out h);have t1:0≤k:=by omega
  have t2:k≤(s.size:Int):=by omega
  clear E0 E1;go_enter Tryz.func193,Tryz.ntmps193
  go_wp2_with (go_at_call 199;refine (za hc).mono ?_;rintro e w' ⟨rfl,hw⟩;obtain rfl:=hw.symm)
  go_ret
  exact ⟨yb7 (za E).symm,rfl⟩
end zi5
end
section
open Go.RowKit
namespace Pl
theorem find_hit {f:Nd→Bool}:∀ (L:List Nd) (k:Nat) (n:Nd),L[k]? =some n→f n=true→(∀ (j:Nat) m,j<k→L[j]? =some m→f m=false)→L.find? f=some n:=by
 intro L
 induction L with
 |nil=>intro k n h;simp at h
 |cons a L ih=>
  intro k n h hf hb;cases k with
  |zero=>simp at h;subst h;simp [hf]
  |succ k=>
   have h0:=hb 0 a (by omega) rfl;rw [List.find?_cons,h0];exact ih k n (by simpa using h) hf (fun j m hj hm=>hb (j+1) m (by omega) (by simpa using hm))
theorem find_none {f:Nd→Bool} (L:List Nd) (hb:∀ (j:Nat) m,L[j]? =some m→f m=false):L.find? f=none:=by
 rw [List.find?_eq_none];intro m hm;obtain ⟨j,hj⟩:=List.mem_iff_getElem?.1 hm;rw [hb j m hj];simp
end Pl
namespace Pl
theorem goS_step (L:List Nd) {n:Nd} {k:Nat} (h:L[k]? =some n) (prev:Option ByteArray):goS L prev (L.drop k)=(zc5 n&&prevB prev n.path&&dirS L (parent n.path)&&goS L (some n.path) (L.drop (k+1))):=by
 have h1:=(List.getElem?_eq_some_iff.1 h);rw [List.drop_eq_getElem_cons h1.1,h1.2,goS]
end Pl
namespace WTreeS
structure AtIs (L:List Pl.Nd) (p:ByteArray) (r:Int):Prop where
 out:(∃ (k:Nat) (n:Pl.Nd),r=(k:Int)∧L[k]? =some n∧L.find? (fun m=>decide (m.path=p))=some n)∨r= -1∧L.find? (fun m=>decide (m.path=p))=none
set_option maxRecDepth 100000 in
set_option maxHeartbeats 400000 in
theorem at_any (a:Option Addr) (cap:Nat) (L:List Pl.Nd) (p:ByteArray) (w:World) (hl:L.length≤1048576) (hv:Mem.za7 w a L):
  Calls Tryz.prog 198 #[.agg #[.slice a L.length cap], .string p] w fun e w'=>(∃r:Int,e= .returned (.int .i64 r)∧AtIs L p r)∧Below w.heap.size w w':=by
 have hvar:=Mem.ze5 w [.slice a L.length cap] 148;have b0:Below w.heap.size w (w.alloc (.cells #[.slice a L.length cap] 148)):=(Below.refl _ _).alloc (Nat.le_refl _) _;have HV:=hide (Mem.za8 hv b0);have HVAR:=hide hvar;clear hv hvar;go_enter Tryz.func198,Tryz.ntmps198
 go_wp2
 go_loop [5] (fun i=>∃k:Nat,k≤L.length∧i= .int .i64 (k:Int)∧Hid (∀ (j:Nat) m,j<k→L[j]? =some m→decide (m.path=p)=false)) (fun i=>L.length - (intOf i).toNat)
 case atStart=>exact ⟨0,Nat.zero_le _,rfl,fun j m h=>absurd h (by omega)⟩
 case round=>
  obtain ⟨k,hk,rfl,HA⟩:=hrel;by_cases hlt:k<L.length
  ·obtain ⟨n,hn⟩:∃n,L[k]? =some n:=⟨_,List.getElem?_eq_getElem hlt⟩;obtain ⟨b,o,rfl,hb,q0, -⟩:=(za HV) k n hn;have u1:(k:Int)<(L.length:Int):=by omega
   have u3:(0:Int)≤(k:Int):=by omega
   have HN:=hide hn;clear hn;by_cases hp:n.path=p
   ·have t2:=Pl.zw0 hp;go_wp2
    go_ret
    exact ⟨⟨k,rfl,⟨.inl ⟨k,n,rfl,za HN,Pl.find_hit L k n (za HN) (by simpa using hp) HA.out⟩⟩⟩,b0⟩
   ·have t2:=Pl.zr4 hp
    have HA2:Hid (∀ (j:Nat) m,j<k+1→L[j]? =some m→decide (m.path=p)=false):=fun j m hj hm=>by
     rcases Nat.lt_succ_iff_lt_or_eq.1 hj with h''|rfl
     ·exact HA.out j m h'' hm
     ·rw [za HN] at hm;cases hm;simpa using hp
    go_wp2
    go_round
    case rel=>exact ⟨k+1,by omega,by go_num,HA2⟩
    case measure=>simp [intOf];omega
  ·have u1:¬ (k:Int)<(L.length:Int):=by omega
   go_wp2
   go_ret
   exact ⟨⟨-1,rfl,⟨.inr ⟨rfl,Pl.find_none L (fun j m hm=>HA.out j m (by have :=(List.getElem?_eq_some_iff.1 hm).1;omega) hm)⟩⟩⟩,b0⟩
set_option maxRecDepth 100000 in
set_option maxHeartbeats 400000 in
theorem dir_any (a:Option Addr) (cap:Nat) (L:List Pl.Nd) (p:ByteArray) (w:World) (hl:L.length≤1048576) (hv:Mem.za7 w a L):
  Calls Tryz.prog 192 #[.agg #[.slice a L.length cap], .string p] w fun e w'=>e= .returned (.bool (Pl.dirS L p))∧Below w.heap.size w w':=by
 have b0:Below w.heap.size w (w.alloc (.cells #[.slice a L.length cap] 148)):=(Below.refl _ _).alloc (Nat.le_refl _) _;have hat:=hide (fun W (b:Below w.heap.size w W)=>at_any a cap L p W hl (Mem.za8 hv b));have HV:=hide hv;have hvar:=Mem.ze5 w [.slice a L.length cap] 148;clear hv;have E1:Hid (p.size=0→Pl.dirS L p=true):=fun h=>by simp [Pl.dirS,h]
 have E2:Hid (p.size≠0→∀n,L.find? (fun m=>decide (m.path=p))=some n→Pl.dirS L p=decide (n.kind=1)):=fun h n hn=>by simp [Pl.dirS,h,hn]
 have E3:Hid (p.size≠0→L.find? (fun m=>decide (m.path=p))=none→Pl.dirS L p=false):=fun h hn=>by simp [Pl.dirS,h,hn]
 generalize Pl.dirS L p=R at E1 E2 E3 ⊢;go_enter Tryz.func192,Tryz.ntmps192
 go_wp2_with fail
 refine (za hat _ b0).mono ?_;rintro e w1 ⟨⟨r,rfl,h1⟩,b1⟩;have hb2:=b0.trans (b1.mono b0.size);obtain ⟨-,hc⟩:=Mem.zi8 hvar b1;have c0:=hc 0 _ rfl;clear hvar hc b1 hat;by_cases h0:p.size=0
 ·have t0:p.toList.isEmpty=true:=by rw [Pl.zd2];simpa [Pl.zg0] using h0
  have E:=hide (za E1 h0);clear E1 E2 E3 h1;go_wp2
  go_ret
  exact ⟨za0 (za E).symm,hb2⟩
 have t0:p.toList.isEmpty=false:=by rw [Pl.zd2];simpa [Pl.zg0] using h0
 rcases h1.out with ⟨k,n,rfl,hk,hf⟩|⟨rfl,hf⟩
 ·have E:=hide (za E2 h0 n hf);obtain ⟨b,o,rfl,hb, -,q1, -⟩:=(Mem.za8 (za HV) hb2) k n hk;have u1:(k:Int)<(L.length:Int):=by have :=(List.getElem?_eq_some_iff.1 hk).1;omega
  have u3:(0:Int)≤(k:Int):=by omega
  clear E1 E2 E3 hf hk HV;go_wp2
  go_ret
  exact ⟨za0 (by rw [za E];rfl),hb2⟩
 ·have E:=hide (za E3 h0 hf);clear E1 E2 E3 hf HV;go_wp2
  go_ret
  exact ⟨za0 (za E).symm,hb2⟩
set_option linter.unusedSimpArgs false in
set_option linter.unusedVariables false in
set_option maxRecDepth 100000 in
set_option maxHeartbeats 8000000 in
theorem zg7 (a:Option Addr) (cap:Nat) (L:List Pl.Nd) (w:World) (hl:L.length≤1048576) (hv:Mem.za7 w a L) (hok:∀n∈L,n.path.size≤1048576∧n.data.size≤1048576):
  Calls Tryz.prog 182 #[.agg #[.slice a L.length cap]] w fun e w'=>e= .returned (.bool (decide (L.length≤40)&&Pl.goS L none L))∧Below w.heap.size w w':=by
 have b0:Below w.heap.size w (w.alloc (.cells #[.slice a L.length cap] 148)):=(Below.refl _ _).alloc (Nat.le_refl _) _;have hd:=hide (fun p W (b:Below w.heap.size w W)=>dir_any a cap L p W hl (Mem.za8 hv b));have HV:=hide hv;have HO:=hide hok;have hvar:=hide (Mem.ze5 w [.slice a L.length cap] 148);clear hv hok;by_cases h40:40<L.length
 ·go_enter Tryz.func182,Tryz.ntmps182
  go_wp2
  go_ret
  exact ⟨za0 (by simp;omega),b0⟩
 have h41:decide (L.length≤40)=true:=by simp;omega
 rw [h41,Bool.true_and];clear h41;generalize hR:Pl.goS L none L=R;have HR:=hide hR;clear hR;go_enter Tryz.func182,Tryz.ntmps182
 go_wp2
 go_loopw [3] (fun i wr=>∃k:Nat,k≤L.length∧i= .int .i64 (k:Int)∧Below w.heap.size w wr∧Hid (Mem.Var wr w.heap.size [.slice a L.length cap])∧Hid (∀ (j:Nat) m,j<k→L[j]? =some m→Pl.zc5 m=true)∧Hid (R=Pl.goS L (if k=0 then none else (L[k - 1]?).map Pl.Nd.path) (L.drop k))) (fun i _=>L.length - (intOf i).toNat)
 case atStart=>exact ⟨0,Nat.zero_le _,rfl,b0,hvar,fun j m h=>absurd h (by omega),(za HR).symm⟩
 case round=>
  obtain ⟨k,hk,rfl,hbel,HVAR,HA,HR2⟩:=hrel;by_cases hlt:k<L.length
  ·obtain ⟨n,hn⟩:∃n,L[k]? =some n:=⟨_,List.getElem?_eq_getElem hlt⟩;obtain ⟨b,o,rfl,hb,q0,q1,q2,q3,q4⟩:=(Mem.za8 (za HV) hbel) k n hn;have cv:=(za HVAR).2 0 _ rfl;have u1:(k:Int)<(L.length:Int):=by omega
   have u3:(0:Int)≤(k:Int):=by omega
   have hn1:=hide (fun W=>WNode.zw3 n W (za HO n (List.mem_of_getElem? hn)).1 (za HO n (List.mem_of_getElem? hn)).2);have hpa:=hide (fun W=>zi5.zv3 n.path W (by have :=(za HO n (List.mem_of_getElem? hn)).1;unfold maxLen;omega));have hdi:=hide (fun W (b':Below w.heap.size w W)=>za hd (Pl.parent n.path) W b');have HN:=hide hn;have HRN:=hide (Pl.zg3 (n:=n));have UG:=hide (Pl.goS_step L (n:=n) hn);go_wp2_with fail
   have zn:=Mem.ze5 wr [.string n.path, .int .i64 n.kind, .string n.data, .int .i64 n.time, .int .i64 n.mark] 189;have bw1:Below wr.heap.size wr (wr.alloc (.cells #[.string n.path, .int .i64 n.kind, .string n.data, .int .i64 n.time, .int .i64 n.mark] 189)):=(Below.refl _ _).alloc (Nat.le_refl _) _;have hsz:(wr.alloc (.cells #[.string n.path, .int .i64 n.kind, .string n.data, .int .i64 n.time, .int .i64 n.mark] 189)).heap.size=wr.heap.size+1:=by simp
   generalize hW0:wr.alloc (.cells #[.string n.path, .int .i64 n.kind, .string n.data, .int .i64 n.time, .int .i64 n.mark] 189)=W0;rw [hW0] at zn bw1 hsz;have zn:Mem.Var W0 wr.heap.size [.string n.path, .int .i64 n.kind, .string n.data, .int .i64 n.time, .int .i64 n.mark]:=hW0 ▸ Mem.ze5 wr [.string n.path, .int .i64 n.kind, .string n.data, .int .i64 n.time, .int .i64 n.mark] 189;have hN0:=(za HVAR).1;have z1:w.heap.size<W0.heap.size:=by omega
   have z2:wr.heap.size<W0.heap.size:=by omega
   have z3:b<W0.heap.size:=by omega
   have zv:W0.cell? ⟨w.heap.size,0,none⟩=some (.slice (some ⟨b,o,none⟩) L.length cap):=(bw1.cell (p:=⟨w.heap.size,0,none⟩) hN0).trans cv;have bw0:Below w.heap.size w W0:=hbel.trans (bw1.mono hbel.size);clear hW0 q0 q1 q2 q3 q4 cv hn;cases hnb:Pl.zc5 n
   ·have EF:=hide (show R=false by rw [za HR2,za UG,hnb];rfl);rw [hnb] at hn1;clear hnb;have MK:Hid (∀W',Below W0.heap.size W0 W'→(Below W0.heap.size W0 W'∧W'.cell? ⟨w.heap.size,0,none⟩=some (.slice (some ⟨b,o,none⟩) L.length cap)∧W'.cell? ⟨wr.heap.size,0,none⟩=some (.string n.path)∧W'.cell? ⟨wr.heap.size,1,none⟩=some (.int .i64 n.kind)∧W'.cell? ⟨wr.heap.size,2,none⟩=some (.string n.data)∧W'.cell? ⟨wr.heap.size,3,none⟩=some (.int .i64 n.time)∧W'.cell? ⟨wr.heap.size,4,none⟩=some (.int .i64 n.mark))):=fun W' hb'=>⟨hb',(hb'.cell (p:=⟨w.heap.size,0,none⟩) z1).trans zv,(hb'.cell (p:=⟨wr.heap.size,0,none⟩) z2).trans (zn.2 0 _ rfl),(hb'.cell (p:=⟨wr.heap.size,1,none⟩) z2).trans (zn.2 1 _ rfl),(hb'.cell (p:=⟨wr.heap.size,2,none⟩) z2).trans (zn.2 2 _ rfl),(hb'.cell (p:=⟨wr.heap.size,3,none⟩) z2).trans (zn.2 3 _ rfl),(hb'.cell (p:=⟨wr.heap.size,4,none⟩) z2).trans (zn.2 4 _ rfl)⟩
    refine RG MK (bD _) fun hHeld=>?_;refine TB 0 ?_;refine RN 1 fun K hK=>?_;go_simp
    refine (za hn1 _).mono ?_;rintro e wX ⟨rfl,bX⟩;refine hK.out _ _ ?_ (fun hHeld=>?_)
    ·exact za MK _ (hHeld.1.trans (bX.mono hHeld.1.size))
    clear hK K
    try simp only [Act.put,kBs]
    refine TB 2 ?_;refine TB 3 ?_;refine TC 4 ?_;refine TC 5 ?_;refine TC 6 ?_;refine TC 7 ?_;refine TC 8 ?_;refine TC 9 ?_;refine TC 10 ?_;refine TC 11 ?_;refine TC 12 ?_;refine TC 13 ?_;refine TC 14 ?_;refine TC 15 ?_;refine TC 16 ?_;refine TC 17 ?_;refine TC 18 ?_;refine TB 19 ?_;refine TB 20 ?_;refine TC 21 ?_;refine TC 22 ?_;refine TC 23 ?_;refine TC 24 ?_;refine TC 25 ?_;refine TC 26 ?_;refine TB 27 ?_;refine wpAnyH_done (by kernel_rfl) ?_ _;have bfin:=hide (bw0.trans (hHeld.1.mono bw0.size))
    have HV2:=hide (show Mem.Var wX w.heap.size [.slice (some ⟨b,o,none⟩) L.length cap] from ⟨Nat.lt_of_lt_of_le z1 hHeld.1.size,fun j v hj=>by
     match j,hj with
     |0,hj=>simp at hj;subst hj;exact hHeld.2.1⟩)
    clear hHeld MK;go_wp2
    go_ret
    exact ⟨za0 (za EF).symm,za bfin⟩
   rw [hnb] at hn1;have hrn:=za HRN hnb
   have HA2:Hid (∀ (j:Nat) m,j<k+1→L[j]? =some m→Pl.zc5 m=true):=fun j m hj hm=>by
    rcases Nat.lt_succ_iff_lt_or_eq.1 hj with h''|rfl
    ·exact HA.out j m h'' hm
    ·rw [za HN] at hm;cases hm;exact hnb
   have HNB:=hide hnb;clear hnb;by_cases hk0:k=0
   ·subst hk0;have ST:=hide (show R=(Pl.dirS L (Pl.parent n.path)&&Pl.goS L (some n.path) (L.drop 1)) by rw [za HR2,za UG,za HNB];rfl)
    have MK:Hid (∀W',Below W0.heap.size W0 W'→(Below W0.heap.size W0 W'∧W'.cell? ⟨w.heap.size,0,none⟩=some (.slice (some ⟨b,o,none⟩) L.length cap)∧W'.cell? ⟨wr.heap.size,0,none⟩=some (.string n.path)∧W'.cell? ⟨wr.heap.size,1,none⟩=some (.int .i64 n.kind)∧W'.cell? ⟨wr.heap.size,2,none⟩=some (.string n.data)∧W'.cell? ⟨wr.heap.size,3,none⟩=some (.int .i64 n.time)∧W'.cell? ⟨wr.heap.size,4,none⟩=some (.int .i64 n.mark))):=fun W' hb'=>⟨hb',(hb'.cell (p:=⟨w.heap.size,0,none⟩) z1).trans zv,(hb'.cell (p:=⟨wr.heap.size,0,none⟩) z2).trans (zn.2 0 _ rfl),(hb'.cell (p:=⟨wr.heap.size,1,none⟩) z2).trans (zn.2 1 _ rfl),(hb'.cell (p:=⟨wr.heap.size,2,none⟩) z2).trans (zn.2 2 _ rfl),(hb'.cell (p:=⟨wr.heap.size,3,none⟩) z2).trans (zn.2 3 _ rfl),(hb'.cell (p:=⟨wr.heap.size,4,none⟩) z2).trans (zn.2 4 _ rfl)⟩;cases hdb:Pl.dirS L (Pl.parent n.path)
    ·have EF:=hide (show R=false by rw [za ST,hdb];rfl);rw [hdb] at hdi;clear hdb;refine RG MK (bD _) fun hHeld=>?_;refine TB 0 ?_;refine RN 1 fun K hK=>?_;go_simp
     refine (za hn1 _).mono ?_;rintro e wX ⟨rfl,bX⟩;refine hK.out _ _ ?_ (fun hHeld=>?_)
     ·exact za MK _ (hHeld.1.trans (bX.mono hHeld.1.size))
     clear hK K
     try simp only [Act.put,kBs]
     refine TB 2 ?_;refine TB 3 ?_;refine TB 4 ?_;refine TB 5 ?_;refine TB 6 ?_;refine TC 7 ?_;refine TC 8 ?_;refine TC 9 ?_;refine TC 10 ?_;refine TC 11 ?_;refine TC 12 ?_;refine TC 13 ?_;refine TC 14 ?_;refine TC 15 ?_;refine TC 16 ?_;refine TC 17 ?_;refine TB 18 ?_;refine TB 19 ?_;refine TB 20 ?_;refine TB 21 ?_;refine TB 22 ?_;refine TB 23 ?_;refine RN 24 fun K hK=>?_;go_simp
     refine (za hpa _).mono ?_;rintro e wY ⟨rfl,hw'⟩;obtain rfl:=hw'.symm;refine hK.out _ _ ?_ (fun hHeld=>?_)
     ·assumption
     clear hK K
     try simp only [Act.put,kBs]
     refine RN 25 fun K hK=>?_;go_simp
     refine (za hdi _ (bw0.trans (hHeld.1.mono bw0.size))).mono ?_;rintro e wX ⟨rfl,bX⟩;refine hK.out _ _ ?_ (fun hHeld=>?_)
     ·exact za MK _ (hHeld.1.trans (bX.mono hHeld.1.size))
     clear hK K
     try simp only [Act.put,kBs]
     refine TB 26 ?_;refine TB 27 ?_;refine wpAnyH_done (by kernel_rfl) ?_ _;have bfin:=hide (bw0.trans (hHeld.1.mono bw0.size))
     have HV2:=hide (show Mem.Var wX w.heap.size [.slice (some ⟨b,o,none⟩) L.length cap] from ⟨Nat.lt_of_lt_of_le z1 hHeld.1.size,fun j v hj=>by
      match j,hj with
      |0,hj=>simp at hj;subst hj;exact hHeld.2.1⟩)
     clear hHeld MK;go_wp2
     go_ret
     exact ⟨za0 (za EF).symm,za bfin⟩
    ·have HR3:Hid (R=Pl.goS L (if 0+1=0 then none else (L[0+1 - 1]?).map Pl.Nd.path) (L.drop (0+1))):=by show _=_;rw [za ST,hdb];simp [za HN]
     rw [hdb] at hdi;clear hdb;refine RG MK (bD _) fun hHeld=>?_;refine TB 0 ?_;refine RN 1 fun K hK=>?_;go_simp
     refine (za hn1 _).mono ?_;rintro e wX ⟨rfl,bX⟩;refine hK.out _ _ ?_ (fun hHeld=>?_)
     ·exact za MK _ (hHeld.1.trans (bX.mono hHeld.1.size))
     clear hK K
     try simp only [Act.put,kBs]
     refine TB 2 ?_;refine TB 3 ?_;refine TB 4 ?_;refine TB 5 ?_;refine TB 6 ?_;refine TC 7 ?_;refine TC 8 ?_;refine TC 9 ?_;refine TC 10 ?_;refine TC 11 ?_;refine TC 12 ?_;refine TC 13 ?_;refine TC 14 ?_;refine TC 15 ?_;refine TC 16 ?_;refine TC 17 ?_;refine TB 18 ?_;refine TB 19 ?_;refine TB 20 ?_;refine TB 21 ?_;refine TB 22 ?_;refine TB 23 ?_;refine RN 24 fun K hK=>?_;go_simp
     refine (za hpa _).mono ?_;rintro e wY ⟨rfl,hw'⟩;obtain rfl:=hw'.symm;refine hK.out _ _ ?_ (fun hHeld=>?_)
     ·assumption
     clear hK K
     try simp only [Act.put,kBs]
     refine RN 25 fun K hK=>?_;go_simp
     refine (za hdi _ (bw0.trans (hHeld.1.mono bw0.size))).mono ?_;rintro e wX ⟨rfl,bX⟩;refine hK.out _ _ ?_ (fun hHeld=>?_)
     ·exact za MK _ (hHeld.1.trans (bX.mono hHeld.1.size))
     clear hK K
     try simp only [Act.put,kBs]
     refine TB 26 ?_;refine TB 27 ?_;refine wpAnyH_done (by kernel_rfl) ?_ _;have bfin:=hide (bw0.trans (hHeld.1.mono bw0.size))
     have HV2:=hide (show Mem.Var wX w.heap.size [.slice (some ⟨b,o,none⟩) L.length cap] from ⟨Nat.lt_of_lt_of_le z1 hHeld.1.size,fun j v hj=>by
      match j,hj with
      |0,hj=>simp at hj;subst hj;exact hHeld.2.1⟩)
     clear hHeld MK;go_wp2
     go_roundw
     case rel=>exact ⟨0+1,by omega,by go_num,za bfin,HV2,HA2,HR3⟩
     case measure=>simp [intOf];omega
   obtain ⟨m,rfl⟩:∃m,k=m+1:=⟨k - 1,by omega⟩;obtain ⟨pr,hpr⟩:∃pr,L[m]? =some pr:=⟨_,List.getElem?_eq_getElem (by omega)⟩;have hprb:=HA.out m pr (by omega) hpr;have hprr:=Pl.zg3 hprb;have hle:=hide (fun W=>zi5.less1_any pr.path n.path W (by have :=Pl.zh9 hprr.1;omega) (by have :=Pl.zh9 hrn.1;omega))
   have zp:W0.cell? ⟨b,o+m*5,none⟩=some (.string pr.path):=by
    obtain ⟨b',o',e',hb',p0, -⟩:=(Mem.za8 (za HV) bw0) m pr hpr;cases e';exact p0
   have ST:=hide (show R=(Pl.za3 (Pl.names pr.path) (Pl.names n.path)&&Pl.dirS L (Pl.parent n.path)&&Pl.goS L (some n.path) (L.drop (m+1+1))) by rw [za HR2,za UG,za HNB];simp [hpr,Pl.prevB])
   have MK:Hid (∀W',Below W0.heap.size W0 W'→(Below W0.heap.size W0 W'∧W'.cell? ⟨w.heap.size,0,none⟩=some (.slice (some ⟨b,o,none⟩) L.length cap)∧W'.cell? ⟨wr.heap.size,0,none⟩=some (.string n.path)∧W'.cell? ⟨wr.heap.size,1,none⟩=some (.int .i64 n.kind)∧W'.cell? ⟨wr.heap.size,2,none⟩=some (.string n.data)∧W'.cell? ⟨wr.heap.size,3,none⟩=some (.int .i64 n.time)∧W'.cell? ⟨wr.heap.size,4,none⟩=some (.int .i64 n.mark)∧W'.cell? ⟨b,o+m*5,none⟩=some (.string pr.path))):=fun W' hb'=>⟨hb',(hb'.cell (p:=⟨w.heap.size,0,none⟩) z1).trans zv,(hb'.cell (p:=⟨wr.heap.size,0,none⟩) z2).trans (zn.2 0 _ rfl),(hb'.cell (p:=⟨wr.heap.size,1,none⟩) z2).trans (zn.2 1 _ rfl),(hb'.cell (p:=⟨wr.heap.size,2,none⟩) z2).trans (zn.2 2 _ rfl),(hb'.cell (p:=⟨wr.heap.size,3,none⟩) z2).trans (zn.2 3 _ rfl),(hb'.cell (p:=⟨wr.heap.size,4,none⟩) z2).trans (zn.2 4 _ rfl),(hb'.cell (p:=⟨b,o+m*5,none⟩) z3).trans zp⟩
   have v1:(m:Int)<(L.length:Int):=by omega
   have v2:(0:Int)≤(m:Int):=by omega
   have v3:IntKind.i64.wrap ((m:Int)+1 - 1)=(m:Int):=by rw [IntKind.wrap_i64];omega
   have v4:IntKind.i64.wrap (m:Int)=(m:Int):=by rw [IntKind.wrap_i64];omega
   have v5:(0:Int)<(m:Int)+1:=by omega
   clear hpr hprb hprr hk0;cases hlb:Pl.za3 (Pl.names pr.path) (Pl.names n.path)
   ·have EF:=hide (show R=false by rw [za ST,hlb];rfl);rw [hlb] at hle;clear hlb;refine RG MK (bD _) fun hHeld=>?_;refine TB 0 ?_;refine RN 1 fun K hK=>?_;go_simp
    refine (za hn1 _).mono ?_;rintro e wX ⟨rfl,bX⟩;refine hK.out _ _ ?_ (fun hHeld=>?_)
    ·exact za MK _ (hHeld.1.trans (bX.mono hHeld.1.size))
    clear hK K
    try simp only [Act.put,kBs]
    refine TB 2 ?_;refine TB 3 ?_;refine TB 4 ?_;refine TB 5 ?_;refine TB 6 ?_;refine TB 7 ?_;refine TB 8 ?_;refine TB 9 ?_;refine TB 10 ?_;refine TB 11 ?_;refine TB 12 ?_;refine TB 13 ?_;refine TB 14 ?_;refine TB 15 ?_;refine RN 16 fun K hK=>?_;go_simp
    refine (za hle _).mono ?_;rintro e wX ⟨rfl,bX⟩;refine hK.out _ _ ?_ (fun hHeld=>?_)
    ·exact za MK _ (hHeld.1.trans (bX.mono hHeld.1.size))
    clear hK K
    try simp only [Act.put,kBs]
    refine TB 17 ?_;refine TB 18 ?_;refine TB 19 ?_;refine TB 20 ?_;refine TC 21 ?_;refine TC 22 ?_;refine TC 23 ?_;refine TC 24 ?_;refine TC 25 ?_;refine TC 26 ?_;refine TB 27 ?_;refine wpAnyH_done (by kernel_rfl) ?_ _;have bfin:=hide (bw0.trans (hHeld.1.mono bw0.size))
    have HV2:=hide (show Mem.Var wX w.heap.size [.slice (some ⟨b,o,none⟩) L.length cap] from ⟨Nat.lt_of_lt_of_le z1 hHeld.1.size,fun j v hj=>by
     match j,hj with
     |0,hj=>simp at hj;subst hj;exact hHeld.2.1⟩)
    clear hHeld MK;go_wp2
    go_ret
    exact ⟨za0 (za EF).symm,za bfin⟩
   rw [hlb] at hle;cases hdb:Pl.dirS L (Pl.parent n.path)
   ·have EF:=hide (show R=false by rw [za ST,hdb];simp);rw [hdb] at hdi;clear hdb hlb;refine RG MK (bD _) fun hHeld=>?_;refine TB 0 ?_;refine RN 1 fun K hK=>?_;go_simp
    refine (za hn1 _).mono ?_;rintro e wX ⟨rfl,bX⟩;refine hK.out _ _ ?_ (fun hHeld=>?_)
    ·exact za MK _ (hHeld.1.trans (bX.mono hHeld.1.size))
    clear hK K
    try simp only [Act.put,kBs]
    refine TB 2 ?_;refine TB 3 ?_;refine TB 4 ?_;refine TB 5 ?_;refine TB 6 ?_;refine TB 7 ?_;refine TB 8 ?_;refine TB 9 ?_;refine TB 10 ?_;refine TB 11 ?_;refine TB 12 ?_;refine TB 13 ?_;refine TB 14 ?_;refine TB 15 ?_;refine RN 16 fun K hK=>?_;go_simp
    refine (za hle _).mono ?_;rintro e wX ⟨rfl,bX⟩;refine hK.out _ _ ?_ (fun hHeld=>?_)
    ·exact za MK _ (hHeld.1.trans (bX.mono hHeld.1.size))
    clear hK K
    try simp only [Act.put,kBs]
    refine TB 17 ?_;refine TB 18 ?_;refine TB 19 ?_;refine TB 20 ?_;refine TB 21 ?_;refine TB 22 ?_;refine TB 23 ?_;refine RN 24 fun K hK=>?_;go_simp
    refine (za hpa _).mono ?_;rintro e wY ⟨rfl,hw'⟩;obtain rfl:=hw'.symm;refine hK.out _ _ ?_ (fun hHeld=>?_)
    ·assumption
    clear hK K
    try simp only [Act.put,kBs]
    refine RN 25 fun K hK=>?_;go_simp
    refine (za hdi _ (bw0.trans (hHeld.1.mono bw0.size))).mono ?_;rintro e wX ⟨rfl,bX⟩;refine hK.out _ _ ?_ (fun hHeld=>?_)
    ·exact za MK _ (hHeld.1.trans (bX.mono hHeld.1.size))
    clear hK K
    try simp only [Act.put,kBs]
    refine TB 26 ?_;refine TB 27 ?_;refine wpAnyH_done (by kernel_rfl) ?_ _;have bfin:=hide (bw0.trans (hHeld.1.mono bw0.size))
    have HV2:=hide (show Mem.Var wX w.heap.size [.slice (some ⟨b,o,none⟩) L.length cap] from ⟨Nat.lt_of_lt_of_le z1 hHeld.1.size,fun j v hj=>by
     match j,hj with
     |0,hj=>simp at hj;subst hj;exact hHeld.2.1⟩)
    clear hHeld MK;go_wp2
    go_ret
    exact ⟨za0 (za EF).symm,za bfin⟩
   ·have HR3:Hid (R=Pl.goS L (if m+1+1=0 then none else (L[m+1+1 - 1]?).map Pl.Nd.path) (L.drop (m+1+1))):=by show _=_;rw [za ST,hlb,hdb];simp [za HN]
    rw [hdb] at hdi;clear hdb hlb;refine RG MK (bD _) fun hHeld=>?_;refine TB 0 ?_;refine RN 1 fun K hK=>?_;go_simp
    refine (za hn1 _).mono ?_;rintro e wX ⟨rfl,bX⟩;refine hK.out _ _ ?_ (fun hHeld=>?_)
    ·exact za MK _ (hHeld.1.trans (bX.mono hHeld.1.size))
    clear hK K
    try simp only [Act.put,kBs]
    refine TB 2 ?_;refine TB 3 ?_;refine TB 4 ?_;refine TB 5 ?_;refine TB 6 ?_;refine TB 7 ?_;refine TB 8 ?_;refine TB 9 ?_;refine TB 10 ?_;refine TB 11 ?_;refine TB 12 ?_;refine TB 13 ?_;refine TB 14 ?_;refine TB 15 ?_;refine RN 16 fun K hK=>?_;go_simp
    refine (za hle _).mono ?_;rintro e wX ⟨rfl,bX⟩;refine hK.out _ _ ?_ (fun hHeld=>?_)
    ·exact za MK _ (hHeld.1.trans (bX.mono hHeld.1.size))
    clear hK K
    try simp only [Act.put,kBs]
    refine TB 17 ?_;refine TB 18 ?_;refine TB 19 ?_;refine TB 20 ?_;refine TB 21 ?_;refine TB 22 ?_;refine TB 23 ?_;refine RN 24 fun K hK=>?_;go_simp
    refine (za hpa _).mono ?_;rintro e wY ⟨rfl,hw'⟩;obtain rfl:=hw'.symm;refine hK.out _ _ ?_ (fun hHeld=>?_)
    ·assumption
    clear hK K
    try simp only [Act.put,kBs]
    refine RN 25 fun K hK=>?_;go_simp
    refine (za hdi _ (bw0.trans (hHeld.1.mono bw0.size))).mono ?_;rintro e wX ⟨rfl,bX⟩;refine hK.out _ _ ?_ (fun hHeld=>?_)
    ·exact za MK _ (hHeld.1.trans (bX.mono hHeld.1.size))
    clear hK K
    try simp only [Act.put,kBs]
    refine TB 26 ?_;refine TB 27 ?_;refine wpAnyH_done (by kernel_rfl) ?_ _;have bfin:=hide (bw0.trans (hHeld.1.mono bw0.size))
    have HV2:=hide (show Mem.Var wX w.heap.size [.slice (some ⟨b,o,none⟩) L.length cap] from ⟨Nat.lt_of_lt_of_le z1 hHeld.1.size,fun j v hj=>by
     match j,hj with
     |0,hj=>simp at hj;subst hj;exact hHeld.2.1⟩)
    clear hHeld MK;go_wp2
    go_roundw
    case rel=>exact ⟨m+1+1,by omega,by go_num,za bfin,HV2,HA2,HR3⟩
    case measure=>simp [intOf];omega
  ·obtain rfl:k=L.length:=by omega
   have EF:=hide (show R=true by rw [za HR2,List.drop_length];rfl);have cv:=(za HVAR).2 0 _ rfl;clear HR2;go_wp2
   go_ret
   exact ⟨za0 (za EF).symm,hbel⟩
end WTreeS
end
section
open Go.RowKit
namespace WTreeS
theorem right_tree (a:Option Addr) (cap:Nat) (L:List Pl.Nd) (w:World) (hl:L.length≤1048576) (hv:Mem.za7 w a L) (hok:∀n∈L,n.path.size≤1048576∧n.data.size≤1048576):
  Calls Tryz.prog 182 #[.agg #[.slice a L.length cap]] w fun e w'=>e= .returned (.bool (Pl.ze2 L))∧Below w.heap.size w w':=by
 have h:=zg7 a cap L w hl hv hok;rw [Pl.tree_same] at h;exact h
end WTreeS
end
section
open Go.RowKit
namespace WNestS
set_option maxRecDepth 100000 in
theorem item_any (m:Int) (a:Option Addr) (cap:Nat) (L:List Pl.Nd) (w:World) (hl:L.length≤1048576) (hv:Mem.za7 w a L) (hok:∀n∈L,n.path.size≤1048576∧n.data.size≤1048576):
  Calls Tryz.prog 163 #[.agg #[.int .i64 m, .slice a L.length cap]] w fun e w'=>e= .returned (.bool (Pl.ze7 m L))∧Below w.heap.size w w':=by
 have b0:∀o,Below w.heap.size w (w.alloc o):=fun o=>(Below.refl _ _).alloc (Nat.le_refl _) o;have HB:=hide b0;by_cases h0:m=0
 ·subst h0;rw [Pl.ya2];have hz:=hide (fun W (b:Below w.heap.size w W)=>WTreeS.right_tree a cap L W hl (Mem.za8 hv b) hok);clear hv hok b0;go_enter Tryz.func163,Tryz.ntmps163
  go_wp2_with fail
  refine (za hz _ (za HB _)).mono ?_;rintro e w1 ⟨rfl,b1⟩;have bb:=(za HB _).trans (b1.mono (za HB _).size);clear hz b1;go_wp2
  go_ret
  exact ⟨rfl,bb⟩
 ·rw [Pl.zv4 h0];have hIS:=hide (WNode.is_any m 1 4);generalize (decide ((1:Int)≤m)&&decide (m≤4))=V at hIS;clear hv hok b0;go_enter Tryz.func163,Tryz.ntmps163
  go_wp2_with fail
  refine (za hIS _).mono ?_;rintro e w1 ⟨rfl,rfl⟩;cases V
  ·go_wp2
   go_ret
   exact ⟨by simp,za HB _⟩
  ·by_cases h1:L.length=0
   ·have t1:(L.length:Int)=0:=by omega
    go_wp2
    go_ret
    exact ⟨by simp [h1],za HB _⟩
   ·have t1:¬ (L.length:Int)=0:=by omega
    go_wp2
    go_ret
    exact ⟨by simp [h1],za HB _⟩
set_option linter.unusedSimpArgs false in
set_option maxRecDepth 100000 in
set_option maxHeartbeats 1000000 in
theorem end_any (a:Option Addr) (cap:Nat) (Is:List Pl.It) (hl:Is.length≤12) (hok:∀x∈Is,x.t.L.length≤1048576∧∀n∈x.t.L,n.path.size≤1048576∧n.data.size≤1048576) (q:Nat):
  ∀ (deep p:Nat) (w:World),deep+q=5→p≤Is.length→Mem.zb0 w a Is→
  Calls Tryz.prog 141 #[.slice a Is.length cap, .int .i64 (p:Int), .int .i64 (deep:Int)] w fun e w'=>e= .returned (.int .i64 (Pl.endI Is.length (Pl.ends 1 deep ((Pl.rowO (Is.map Pl.It.r)).drop p))))∧Below w.heap.size w w':=by
 have hrl:(Pl.rowO (Is.map Pl.It.r)).length=Is.length:=by rw [Pl.zn9,List.length_map]
 induction q with
 |zero=>
  intro deep p w hd hp hv;rw [Pl.ends_deep deep _ (by omega)];simp only [Pl.endI];have t1:(4:Int)<(deep:Int):=by omega
  by_cases hlt:(Is.length:Int)≤(p:Int)
  ·go_enter Tryz.func141,Tryz.ntmps141
   go_wp2
   go_ret
   exact ⟨rfl,Below.refl _ _⟩
  ·go_enter Tryz.func141,Tryz.ntmps141
   go_wp2
   go_ret
   exact ⟨rfl,Below.refl _ _⟩
 |succ q ih=>
  intro deep p w hd hp hv;by_cases hlt:(Is.length:Int)≤(p:Int)
  ·have e:(Pl.rowO (Is.map Pl.It.r)).drop p=[]:=List.drop_eq_nil_of_le (by omega);rw [e,Pl.ends_nil];simp only [Pl.endI];go_enter Tryz.func141,Tryz.ntmps141
   go_wp2
   go_ret
   exact ⟨rfl,Below.refl _ _⟩
  have t1:¬ (4:Int)<(deep:Int):=by omega
  have t2:(0:Int)≤(p:Int):=by omega
  have t3:(p:Int)<(Is.length:Int):=by omega
  obtain ⟨x,hx⟩:∃x,Is[p]? =some x:=⟨_,List.getElem?_eq_getElem (by omega)⟩;obtain ⟨⟨b,o,rfl,hb,q0,q0'⟩,q1⟩:=hv p x hx;have hz:=hide (item_any x.m x.t.a x.t.cap x.t.L w (hok x (List.mem_of_getElem? hx)).1 q1 (hok x (List.mem_of_getElem? hx)).2);have hrow:(Pl.rowO (Is.map Pl.It.r)).drop p=Pl.zj9 (x.m,x.t.L)::(Pl.rowO (Is.map Pl.It.r)).drop (p+1):=Pl.rowO_at (by rw [List.getElem?_map,hx];rfl);have c0:=q0;have c1:=q0';simp only [Pl.Tr.val] at c1;have HI:=hide (fun (p':Nat) (W:World) (hp':p'≤Is.length) (bb:Below w.heap.size w W)=>ih (deep+1) p' W (by omega) hp' (Mem.zc2 hv bb));have HQ:=hide q0;have HR:=hide hrl;rw [hrow];generalize hLL:Pl.rowO (Is.map Pl.It.r)=LL at hrl hrow HI HR ⊢;clear hLL hv hok ih hx q0' q1 hrow;cases hib:Pl.ze7 x.m x.t.L
  ·rw [hib] at hz;rw [Pl.itemO_no hib,Pl.ends_none];simp only [Pl.endI];clear HI hib q0;go_enter Tryz.func141,Tryz.ntmps141
   go_wp2_with fail
   refine (za hz).mono ?_;rintro e w1 ⟨rfl,b1⟩;clear hz;go_wp2
   go_ret
   exact ⟨rfl,b1⟩
  ·rw [hib] at hz;obtain ⟨hm0,hm4⟩:=Pl.zs7 hib;rw [Pl.itemO_yes hib,Pl.ends_one];obtain ⟨mm,hmm⟩:∃mm:Nat,x.m=(mm:Int):=⟨x.m.toNat,by omega⟩;rw [hmm] at c0 hz HQ ⊢;rw [Int.toNat_natCast];have hm5:mm≤4:=by omega
   clear hib hmm hm0 hm4 q0;generalize hT:Pl.ends mm (deep+1) (LL.drop (p+1))=T;have HT:=hide hT;clear hT;go_enter Tryz.func141,Tryz.ntmps141
   go_wp2_with fail
   refine (za hz).mono ?_;rintro e w1 ⟨rfl,b1⟩;have c2:=(b1.cell (p:=⟨b,_,none⟩) hb).trans (za HQ);clear hz c0 c1 HQ;go_wp2
   go_loopw [1,7] (fun v k wr=>∃kk:Nat,k= .int .i64 (kk:Int)∧kk≤4∧Below w.heap.size w wr∧((∃p':Nat,v= .int .i64 (p':Int)∧p'≤Is.length∧Hid (Pl.ends kk (deep+1) (LL.drop p')=T))∨(v= .int .i64 (-1)∧Hid (T=none)))) (fun _ k _=>(intOf k).toNat)
   case atStart=>exact ⟨mm,rfl,hm5,b1, .inl ⟨p+1,by go_num,by omega,HT⟩⟩
   case round=>
    obtain ⟨kk,rfl,hk4,hbel,hcase⟩:=hrel
    rcases hcase with ⟨p',rfl,hp',HE⟩|⟨rfl,HE⟩
    ·have u0:(0:Int)≤(p':Int):=by omega
     cases kk with
     |zero=>
      have hfin:Pl.endI Is.length T=(p':Int):=by
       rw [←za HE,Pl.ends_zero _ _ (by omega),Pl.endI,List.length_drop];omega
      go_wp2
      go_ret
      exact ⟨by first |rfl |(rw [hfin];rfl),hbel⟩
     |succ kk=>
      have u1:(0:Int)<((kk+1:Nat):Int):=by omega
      have hcall:=hide (za HI p' wr hp' hbel);go_wp2_with fail
      simp only [show (deep:Int)+1=((deep+1:Nat):Int) by omega,show IntKind.i64.wrap ((deep+1:Nat):Int)=((deep+1:Nat):Int) by rw [IntKind.wrap_i64];omega];refine (za hcall).mono ?_;rintro e w2 ⟨rfl,b2⟩;have hb2:=hbel.trans (b2.mono hbel.size);have hst:=za HE;rw [Pl.ends_step] at hst;cases hR:Pl.ends 1 (deep+1) (LL.drop p') with
      |none=>
       rw [hR] at hst;have HE2:Hid (T=none):=hide (by rw [←hst];rfl);simp only [Pl.endI];clear hst HE hR hcall b2;go_wp2
       go_roundw
       case rel=>exact ⟨kk,by go_num,by omega,hb2, .inr ⟨rfl,HE2⟩⟩
       case measure=>simp [intOf]
      |some R=>
       rw [hR] at hst;obtain ⟨p2,e2,hp2,hd2⟩:=Pl.ends_at (za HR) hp' hR;rw [e2];have HE2:Hid (Pl.ends kk (deep+1) (LL.drop p2)=T):=hide (by rw [hd2,←hst];rfl);clear hst HE hR hcall b2 hd2 e2;go_wp2
       go_roundw
       case rel=>exact ⟨kk,by go_num,by omega,hb2, .inl ⟨p2,rfl,hp2,HE2⟩⟩
       case measure=>simp [intOf]
    ·have hfin:Pl.endI Is.length T= -1:=by rw [za HE];rfl
     by_cases hk0:(0:Int)<(kk:Int)
     ·go_wp2
      go_ret
      exact ⟨by first |rfl |(rw [hfin];rfl),hbel⟩
     ·go_wp2
      go_ret
      exact ⟨by first |rfl |(rw [hfin];rfl),hbel⟩
set_option maxRecDepth 100000 in
theorem zg7 (a:Option Addr) (cap:Nat) (Is:List Pl.It) (w:World) (hl:Is.length≤1048576) (hv:Mem.zb0 w a Is) (hok:∀x∈Is,x.t.L.length≤1048576∧∀n∈x.t.L,n.path.size≤1048576∧n.data.size≤1048576):
  Calls Tryz.prog 122 #[.slice a Is.length cap] w fun e w'=>e= .returned (.bool (Pl.nest (Pl.rowO (Is.map Pl.It.r))).isSome)∧Below w.heap.size w w':=by
 have hrl:(Pl.rowO (Is.map Pl.It.r)).length=Is.length:=by rw [Pl.zn9,List.length_map]
 by_cases h12:Is.length≤12
 ·have t0:(Is.length:Int)≤12:=by omega
  have hz:=hide (end_any a cap Is h12 hok 4 1 0 w rfl (Nat.zero_le _) hv);have hne:=Pl.nest_ends (Pl.rowO (Is.map Pl.It.r)) (by omega);have hen:∀R,Pl.ends 1 1 ((Pl.rowO (Is.map Pl.It.r)).drop 0)=some R→R.length≤Is.length:=fun R h=>by have :=(Pl.ends_len h).1;simp only [List.drop_zero] at this;omega
  rw [List.drop_zero] at hz hen;generalize Pl.ends 1 1 (Pl.rowO (Is.map Pl.It.r))=E at hz hne hen;generalize (Pl.nest (Pl.rowO (Is.map Pl.It.r))).isSome=V at hne ⊢;clear hv hok hrl;have HN:=hide hne;have HEN:=hide hen;clear hne hen;go_enter Tryz.func122,Tryz.ntmps122
  go_wp2_with fail
  refine (za hz).mono ?_;rintro e w1 ⟨rfl,b1⟩;clear hz;by_cases hE:Pl.endI Is.length E=(Is.length:Int)
  ·have hV:V=true:=(za HN).2 (by
    cases E with
    |none=>simp [Pl.endI] at hE
    |some R=>rw [Pl.endI] at hE;rw [List.eq_nil_of_length_eq_zero (by omega :R.length=0)])
   go_wp2
   go_ret
   exact ⟨by rw [hV];rfl,b1⟩
  ·have hV:V=false:=by
    cases hV:V
    ·rfl
    ·exact absurd (by rw [(za HN).1 hV];simp [Pl.endI]) hE
   go_wp2
   go_ret
   exact ⟨by rw [hV];simp [hE],b1⟩
 ·have t0:¬ (Is.length:Int)≤12:=by omega
  rw [Pl.zx7 _ (by omega)];go_enter Tryz.func122,Tryz.ntmps122
  go_wp2
  go_ret
  exact ⟨rfl,Below.refl _ _⟩
end WNestS
end
end Go.Proofs.YtonffldjbmednaaGreatDoor
