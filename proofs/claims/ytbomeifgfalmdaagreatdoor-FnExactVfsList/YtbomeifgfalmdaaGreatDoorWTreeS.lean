import Derived.Test.YtbomeifgfalmdaaGreatDoorG41
namespace Go.Proofs.YtbomeifgfalmdaaGreatDoor
open Go.RowKit
namespace Pl
theorem find_hit {f:Nd→Bool}:∀ (L:List Nd) (k:Nat) (n:Nd),L[k]? =some n→f n=true→(∀ (j:Nat) m,j<k→L[j]? =some m→f m=false)→L.find? f=some n:=by
 intro L
 induction L with
 |nil=>intro k n h;simp at h
 |cons a L ih=>
  intro k n h hf hb;cases k with
  |zero=>simp at h;subst h;simp [hf]
  |succ k=>
   have h0:=hb 0 a (by omega) rfl;rw [List.find?_cons,h0];exact ih k n (by simpa using h) hf (fun j m hj hm=>hb (j+1) m (by omega) (by simpa using hm))
theorem find_none {f:Nd→Bool} (L:List Nd) (hb:∀ (j:Nat) m,L[j]? =some m→f m=false):L.find? f=none:=by
 rw [List.find?_eq_none];intro m hm;obtain ⟨j,hj⟩:=List.mem_iff_getElem?.1 hm;rw [hb j m hj];simp
end Pl
namespace Pl
theorem goS_step (L:List Nd) {n:Nd} {k:Nat} (h:L[k]? =some n) (prev:Option ByteArray):goS L prev (L.drop k)=(zb6 n&&prevB prev n.path&&dirS L (parent n.path)&&goS L (some n.path) (L.drop (k+1))):=by
 have h1:=(List.getElem?_eq_some_iff.1 h);rw [List.drop_eq_getElem_cons h1.1,h1.2,goS]
end Pl
namespace WTreeS
structure AtIs (L:List Pl.Nd) (p:ByteArray) (r:Int):Prop where
 out:(∃ (k:Nat) (n:Pl.Nd),r=(k:Int)∧L[k]? =some n∧L.find? (fun m=>decide (m.path=p))=some n)∨r= -1∧L.find? (fun m=>decide (m.path=p))=none
set_option maxRecDepth 100000 in
set_option maxHeartbeats 400000 in
theorem at_any (a:Option Addr) (cap:Nat) (L:List Pl.Nd) (p:ByteArray) (w:World) (hl:L.length≤1048576) (hv:Mem.zb1 w a L):
  Calls Tryz.prog 75 #[.agg #[.slice a L.length cap], .string p] w fun e w'=>(∃r:Int,e= .returned (.int .i64 r)∧AtIs L p r)∧Below w.heap.size w w':=by
 have hvar:=Mem.zk2 w [.slice a L.length cap] 107;have b0:Below w.heap.size w (w.alloc (.cells #[.slice a L.length cap] 107)):=bE0;have HV:=hide (Mem.za9 hv b0);have HVAR:=hide hvar;clear hv hvar;go_enter Tryz.func75,Tryz.ntmps75
 go_wp2
 go_loop [5] (fun i=>∃k:Nat,k≤L.length∧i= .int .i64 (k:Int)∧Hid (∀ (j:Nat) m,j<k→L[j]? =some m→decide (m.path=p)=false)) (fun i=>L.length - (intOf i).toNat)
 case atStart=>exact ⟨0,Nat.zero_le _,rfl,fun j m h=>absurd h (by omega)⟩
 case round=>
  obtain ⟨k,hk,rfl,HA⟩:=hrel;by_cases hlt:k<L.length
  ·obtain ⟨n,hn⟩:∃n,L[k]? =some n:=⟨_,List.getElem?_eq_getElem hlt⟩;obtain ⟨b,o,rfl,hb,q0, -⟩:=(za HV) k n hn;have u1:(k:Int)<(L.length:Int):=by omega
   have u3:(0:Int)≤(k:Int):=by omega
   have HN:=hide hn;clear hn;by_cases hp:n.path=p
   ·have t2:=Pl.zr0 hp;go_wp2
    go_ret
    exact ⟨⟨k,rfl,⟨.inl ⟨k,n,rfl,za HN,Pl.find_hit L k n (za HN) (by simpa using hp) HA.out⟩⟩⟩,b0⟩
   ·have t2:=Pl.zj8 hp
    have HA2:Hid (∀ (j:Nat) m,j<k+1→L[j]? =some m→decide (m.path=p)=false):=fun j m hj hm=>by
     rcases Nat.lt_succ_iff_lt_or_eq.1 hj with h''|rfl
     ·exact HA.out j m h'' hm
     ·rw [za HN] at hm;cases hm;simpa using hp
    go_wp2
    go_round
    case rel=>exact ⟨k+1,by omega,by go_num,HA2⟩
    case measure=>simp [intOf];omega
  ·have u1:¬ (k:Int)<(L.length:Int):=by omega
   go_wp2
   go_ret
   exact ⟨⟨-1,rfl,⟨.inr ⟨rfl,Pl.find_none L (fun j m hm=>HA.out j m (by have :=(List.getElem?_eq_some_iff.1 hm).1;omega) hm)⟩⟩⟩,b0⟩
set_option maxRecDepth 100000 in
set_option maxHeartbeats 400000 in
theorem dir_any (a:Option Addr) (cap:Nat) (L:List Pl.Nd) (p:ByteArray) (w:World) (hl:L.length≤1048576) (hv:Mem.zb1 w a L):
  Calls Tryz.prog 153 #[.agg #[.slice a L.length cap], .string p] w fun e w'=>e= .returned (.bool (Pl.dirS L p))∧Below w.heap.size w w':=by
 have b0:Below w.heap.size w (w.alloc (.cells #[.slice a L.length cap] 107)):=bE0;have hat:=hide (fun W (b:Below w.heap.size w W)=>at_any a cap L p W hl (Mem.za9 hv b));have HV:=hide hv;have hvar:=Mem.zk2 w [.slice a L.length cap] 107;clear hv;have E1:Hid (p.size=0→Pl.dirS L p=true):=fun h=>by simp [Pl.dirS,h]
 have E2:Hid (p.size≠0→∀n,L.find? (fun m=>decide (m.path=p))=some n→Pl.dirS L p=decide (n.kind=1)):=fun h n hn=>by simp [Pl.dirS,h,hn]
 have E3:Hid (p.size≠0→L.find? (fun m=>decide (m.path=p))=none→Pl.dirS L p=false):=fun h hn=>by simp [Pl.dirS,h,hn]
 generalize Pl.dirS L p=R at E1 E2 E3 ⊢;go_enter Tryz.func153,Tryz.ntmps153
 go_wp2_with fail
 refine (za hat _ b0).mono ?_;rintro e w1 ⟨⟨r,rfl,h1⟩,b1⟩;have hb2:=b0.trans (b1.mono b0.size);obtain ⟨-,hc⟩:=Mem.zu hvar b1;have c0:=hc 0 _ rfl;clear hvar hc b1 hat;by_cases h0:p.size=0
 ·have t0:p.toList.isEmpty=true:=by rw [Pl.zb7];simpa [Pl.zf5] using h0
  have E:=hide (za E1 h0);clear E1 E2 E3 h1;go_wp2
  go_ret
  exact ⟨za1 (za E).symm,hb2⟩
 have t0:p.toList.isEmpty=false:=by rw [Pl.zb7];simpa [Pl.zf5] using h0
 rcases h1.out with ⟨k,n,rfl,hk,hf⟩|⟨rfl,hf⟩
 ·have E:=hide (za E2 h0 n hf);obtain ⟨b,o,rfl,hb, -,q1, -⟩:=(Mem.za9 (za HV) hb2) k n hk;have u1:(k:Int)<(L.length:Int):=by have :=(List.getElem?_eq_some_iff.1 hk).1;omega
  have u3:(0:Int)≤(k:Int):=by omega
  clear E1 E2 E3 hf hk HV;go_wp2
  go_ret
  exact ⟨za1 (by rw [za E];rfl),hb2⟩
 ·have E:=hide (za E3 h0 hf);clear E1 E2 E3 hf HV;go_wp2
  go_ret
  exact ⟨za1 (za E).symm,hb2⟩
set_option linter.unusedSimpArgs false in
set_option linter.unusedVariables false in
set_option maxRecDepth 100000 in
set_option maxHeartbeats 8000000 in
theorem zh7 (a:Option Addr) (cap:Nat) (L:List Pl.Nd) (w:World) (hl:L.length≤1048576) (hv:Mem.zb1 w a L) (hok:∀n∈L,n.path.size≤1048576∧n.data.size≤1048576):
  Calls Tryz.prog 132 #[.agg #[.slice a L.length cap]] w fun e w'=>e= .returned (.bool (decide (L.length≤40)&&Pl.goS L none L))∧Below w.heap.size w w':=by
 have b0:Below w.heap.size w (w.alloc (.cells #[.slice a L.length cap] 107)):=bE0;have hd:=hide (fun p W (b:Below w.heap.size w W)=>dir_any a cap L p W hl (Mem.za9 hv b));have HV:=hide hv;have HO:=hide hok;have hvar:=hide (Mem.zk2 w [.slice a L.length cap] 107);clear hv hok;by_cases h40:40<L.length
 ·go_enter Tryz.func132,Tryz.ntmps132
  go_wp2
  go_ret
  exact ⟨za1 (by simp;omega),b0⟩
 have h41:decide (L.length≤40)=true:=by simp;omega
 rw [h41,Bool.true_and];clear h41;generalize hR:Pl.goS L none L=R;have HR:=hide hR;clear hR;go_enter Tryz.func132,Tryz.ntmps132
 go_wp2
 go_loopw [3] (fun i wr=>∃k:Nat,k≤L.length∧i= .int .i64 (k:Int)∧Below w.heap.size w wr∧Hid (Mem.Var wr w.heap.size [.slice a L.length cap])∧Hid (∀ (j:Nat) m,j<k→L[j]? =some m→Pl.zb6 m=true)∧Hid (R=Pl.goS L (if k=0 then none else (L[k - 1]?).map Pl.Nd.path) (L.drop k))) (fun i _=>L.length - (intOf i).toNat)
 case atStart=>exact ⟨0,Nat.zero_le _,rfl,b0,hvar,fun j m h=>absurd h (by omega),(za HR).symm⟩
 case round=>
  obtain ⟨k,hk,rfl,hbel,HVAR,HA,HR2⟩:=hrel;by_cases hlt:k<L.length
  ·obtain ⟨n,hn⟩:∃n,L[k]? =some n:=⟨_,List.getElem?_eq_getElem hlt⟩;obtain ⟨b,o,rfl,hb,q0,q1,q2,q3,q4⟩:=(Mem.za9 (za HV) hbel) k n hn;have cv:=(za HVAR).2 0 _ rfl;have u1:(k:Int)<(L.length:Int):=by omega
   have u3:(0:Int)≤(k:Int):=by omega
   have hn1:=hide (fun W=>WNode.zt1 n W (za HO n (List.mem_of_getElem? hn)).1 (za HO n (List.mem_of_getElem? hn)).2);have hpa:=hide (fun W=>zd1.zr7 n.path W (by have :=(za HO n (List.mem_of_getElem? hn)).1;unfold maxLen;omega));have hdi:=hide (fun W (b':Below w.heap.size w W)=>za hd (Pl.parent n.path) W b');have HN:=hide hn;have HRN:=hide (Pl.zm2 (n:=n));have UG:=hide (Pl.goS_step L (n:=n) hn);go_wp2_with fail
   have zn:=Mem.zk2 wr [.string n.path, .int .i64 n.kind, .string n.data, .int .i64 n.time, .int .i64 n.mark] 55;have bw1:Below wr.heap.size wr (wr.alloc (.cells #[.string n.path, .int .i64 n.kind, .string n.data, .int .i64 n.time, .int .i64 n.mark] 55)):=bE0;have hsz:(wr.alloc (.cells #[.string n.path, .int .i64 n.kind, .string n.data, .int .i64 n.time, .int .i64 n.mark] 55)).heap.size=wr.heap.size+1:=by simp
   generalize hW0:wr.alloc (.cells #[.string n.path, .int .i64 n.kind, .string n.data, .int .i64 n.time, .int .i64 n.mark] 55)=W0;rw [hW0] at zn bw1 hsz;have zn:Mem.Var W0 wr.heap.size [.string n.path, .int .i64 n.kind, .string n.data, .int .i64 n.time, .int .i64 n.mark]:=hW0 ▸ Mem.zk2 wr [.string n.path, .int .i64 n.kind, .string n.data, .int .i64 n.time, .int .i64 n.mark] 55;have hN0:=(za HVAR).1;have z1:w.heap.size<W0.heap.size:=by omega
   have z2:wr.heap.size<W0.heap.size:=by omega
   have z3:b<W0.heap.size:=by omega
   have zv:W0.cell? ⟨w.heap.size,0,none⟩=some (.slice (some ⟨b,o,none⟩) L.length cap):=(bw1.cell (p:=⟨w.heap.size,0,none⟩) hN0).trans cv;have bw0:Below w.heap.size w W0:=hbel.trans (bw1.mono hbel.size);clear hW0 q0 q1 q2 q3 q4 cv hn;cases hnb:Pl.zb6 n
   ·have EF:=hide (show R=false by rw [za HR2,za UG,hnb];rfl);rw [hnb] at hn1;clear hnb;have MK:Hid (∀W',Below W0.heap.size W0 W'→(Below W0.heap.size W0 W'∧W'.cell? ⟨w.heap.size,0,none⟩=some (.slice (some ⟨b,o,none⟩) L.length cap)∧W'.cell? ⟨wr.heap.size,0,none⟩=some (.string n.path)∧W'.cell? ⟨wr.heap.size,1,none⟩=some (.int .i64 n.kind)∧W'.cell? ⟨wr.heap.size,2,none⟩=some (.string n.data)∧W'.cell? ⟨wr.heap.size,3,none⟩=some (.int .i64 n.time)∧W'.cell? ⟨wr.heap.size,4,none⟩=some (.int .i64 n.mark))):=fun W' hb'=>⟨hb',(hb'.cell (p:=⟨w.heap.size,0,none⟩) z1).trans zv,(hb'.cell (p:=⟨wr.heap.size,0,none⟩) z2).trans (zn.2 0 _ rfl),(hb'.cell (p:=⟨wr.heap.size,1,none⟩) z2).trans (zn.2 1 _ rfl),(hb'.cell (p:=⟨wr.heap.size,2,none⟩) z2).trans (zn.2 2 _ rfl),(hb'.cell (p:=⟨wr.heap.size,3,none⟩) z2).trans (zn.2 3 _ rfl),(hb'.cell (p:=⟨wr.heap.size,4,none⟩) z2).trans (zn.2 4 _ rfl)⟩
    refine RG MK (bD _) fun hHeld=>?_;refine TB 0 ?_;refine RN 1 fun K hK=>?_;go_simp
    refine (za hn1 _).mono ?_;rintro e wX ⟨rfl,bX⟩;refine hK.out _ _ ?_ (fun hHeld=>?_)
    ·exact za MK _ (hHeld.1.trans (bX.mono hHeld.1.size))
    clear hK K
    try simp only [Act.put,kBs]
    refine TB 2 ?_;refine TB 3 ?_;refine TC 4 ?_;refine TC 5 ?_;refine TC 6 ?_;refine TC 7 ?_;refine TC 8 ?_;refine TC 9 ?_;refine TC 10 ?_;refine TC 11 ?_;refine TC 12 ?_;refine TC 13 ?_;refine TC 14 ?_;refine TC 15 ?_;refine TC 16 ?_;refine TC 17 ?_;refine TC 18 ?_;refine TB 19 ?_;refine TB 20 ?_;refine TC 21 ?_;refine TC 22 ?_;refine TC 23 ?_;refine TC 24 ?_;refine TC 25 ?_;refine TC 26 ?_;refine TB 27 ?_;refine wpAnyH_done (by kernel_rfl) ?_ _;have bfin:=hide (bw0.trans (hHeld.1.mono bw0.size))
    have HV2:=hide (show Mem.Var wX w.heap.size [.slice (some ⟨b,o,none⟩) L.length cap] from ⟨Nat.lt_of_lt_of_le z1 hHeld.1.size,fun j v hj=>by
     match j,hj with
     |0,hj=>simp at hj;subst hj;exact hHeld.2.1⟩)
    clear hHeld MK;go_wp2
    go_ret
    exact ⟨za1 (za EF).symm,za bfin⟩
   rw [hnb] at hn1;have hrn:=za HRN hnb
   have HA2:Hid (∀ (j:Nat) m,j<k+1→L[j]? =some m→Pl.zb6 m=true):=fun j m hj hm=>by
    rcases Nat.lt_succ_iff_lt_or_eq.1 hj with h''|rfl
    ·exact HA.out j m h'' hm
    ·rw [za HN] at hm;cases hm;exact hnb
   have HNB:=hide hnb;clear hnb;by_cases hk0:k=0
   ·subst hk0;have ST:=hide (show R=(Pl.dirS L (Pl.parent n.path)&&Pl.goS L (some n.path) (L.drop 1)) by rw [za HR2,za UG,za HNB];rfl)
    have MK:Hid (∀W',Below W0.heap.size W0 W'→(Below W0.heap.size W0 W'∧W'.cell? ⟨w.heap.size,0,none⟩=some (.slice (some ⟨b,o,none⟩) L.length cap)∧W'.cell? ⟨wr.heap.size,0,none⟩=some (.string n.path)∧W'.cell? ⟨wr.heap.size,1,none⟩=some (.int .i64 n.kind)∧W'.cell? ⟨wr.heap.size,2,none⟩=some (.string n.data)∧W'.cell? ⟨wr.heap.size,3,none⟩=some (.int .i64 n.time)∧W'.cell? ⟨wr.heap.size,4,none⟩=some (.int .i64 n.mark))):=fun W' hb'=>⟨hb',(hb'.cell (p:=⟨w.heap.size,0,none⟩) z1).trans zv,(hb'.cell (p:=⟨wr.heap.size,0,none⟩) z2).trans (zn.2 0 _ rfl),(hb'.cell (p:=⟨wr.heap.size,1,none⟩) z2).trans (zn.2 1 _ rfl),(hb'.cell (p:=⟨wr.heap.size,2,none⟩) z2).trans (zn.2 2 _ rfl),(hb'.cell (p:=⟨wr.heap.size,3,none⟩) z2).trans (zn.2 3 _ rfl),(hb'.cell (p:=⟨wr.heap.size,4,none⟩) z2).trans (zn.2 4 _ rfl)⟩;cases hdb:Pl.dirS L (Pl.parent n.path)
    ·have EF:=hide (show R=false by rw [za ST,hdb];rfl);rw [hdb] at hdi;clear hdb;refine RG MK (bD _) fun hHeld=>?_;refine TB 0 ?_;refine RN 1 fun K hK=>?_;go_simp
     refine (za hn1 _).mono ?_;rintro e wX ⟨rfl,bX⟩;refine hK.out _ _ ?_ (fun hHeld=>?_)
     ·exact za MK _ (hHeld.1.trans (bX.mono hHeld.1.size))
     clear hK K
     try simp only [Act.put,kBs]
     refine TB 2 ?_;refine TB 3 ?_;refine TB 4 ?_;refine TB 5 ?_;refine TB 6 ?_;refine TC 7 ?_;refine TC 8 ?_;refine TC 9 ?_;refine TC 10 ?_;refine TC 11 ?_;refine TC 12 ?_;refine TC 13 ?_;refine TC 14 ?_;refine TC 15 ?_;refine TC 16 ?_;refine TC 17 ?_;refine TB 18 ?_;refine TB 19 ?_;refine TB 20 ?_;refine TB 21 ?_;refine TB 22 ?_;refine TB 23 ?_;refine RN 24 fun K hK=>?_;go_simp
     refine (za hpa _).mono ?_;rintro e wY ⟨rfl,hw'⟩;obtain rfl:=hw'.symm;refine hK.out _ _ ?_ (fun hHeld=>?_)
     ·assumption
     clear hK K
     try simp only [Act.put,kBs]
     refine RN 25 fun K hK=>?_;go_simp
     refine (za hdi _ (bw0.trans (hHeld.1.mono bw0.size))).mono ?_;rintro e wX ⟨rfl,bX⟩;refine hK.out _ _ ?_ (fun hHeld=>?_)
     ·exact za MK _ (hHeld.1.trans (bX.mono hHeld.1.size))
     clear hK K
     try simp only [Act.put,kBs]
     refine TB 26 ?_;refine TB 27 ?_;refine wpAnyH_done (by kernel_rfl) ?_ _;have bfin:=hide (bw0.trans (hHeld.1.mono bw0.size))
     have HV2:=hide (show Mem.Var wX w.heap.size [.slice (some ⟨b,o,none⟩) L.length cap] from ⟨Nat.lt_of_lt_of_le z1 hHeld.1.size,fun j v hj=>by
      match j,hj with
      |0,hj=>simp at hj;subst hj;exact hHeld.2.1⟩)
     clear hHeld MK;go_wp2
     go_ret
     exact ⟨za1 (za EF).symm,za bfin⟩
    ·have HR3:Hid (R=Pl.goS L (if 0+1=0 then none else (L[0+1 - 1]?).map Pl.Nd.path) (L.drop (0+1))):=by show _=_;rw [za ST,hdb];simp [za HN]
     rw [hdb] at hdi;clear hdb;refine RG MK (bD _) fun hHeld=>?_;refine TB 0 ?_;refine RN 1 fun K hK=>?_;go_simp
     refine (za hn1 _).mono ?_;rintro e wX ⟨rfl,bX⟩;refine hK.out _ _ ?_ (fun hHeld=>?_)
     ·exact za MK _ (hHeld.1.trans (bX.mono hHeld.1.size))
     clear hK K
     try simp only [Act.put,kBs]
     refine TB 2 ?_;refine TB 3 ?_;refine TB 4 ?_;refine TB 5 ?_;refine TB 6 ?_;refine TC 7 ?_;refine TC 8 ?_;refine TC 9 ?_;refine TC 10 ?_;refine TC 11 ?_;refine TC 12 ?_;refine TC 13 ?_;refine TC 14 ?_;refine TC 15 ?_;refine TC 16 ?_;refine TC 17 ?_;refine TB 18 ?_;refine TB 19 ?_;refine TB 20 ?_;refine TB 21 ?_;refine TB 22 ?_;refine TB 23 ?_;refine RN 24 fun K hK=>?_;go_simp
     refine (za hpa _).mono ?_;rintro e wY ⟨rfl,hw'⟩;obtain rfl:=hw'.symm;refine hK.out _ _ ?_ (fun hHeld=>?_)
     ·assumption
     clear hK K
     try simp only [Act.put,kBs]
     refine RN 25 fun K hK=>?_;go_simp
     refine (za hdi _ (bw0.trans (hHeld.1.mono bw0.size))).mono ?_;rintro e wX ⟨rfl,bX⟩;refine hK.out _ _ ?_ (fun hHeld=>?_)
     ·exact za MK _ (hHeld.1.trans (bX.mono hHeld.1.size))
     clear hK K
     try simp only [Act.put,kBs]
     refine TB 26 ?_;refine TB 27 ?_;refine wpAnyH_done (by kernel_rfl) ?_ _;have bfin:=hide (bw0.trans (hHeld.1.mono bw0.size))
     have HV2:=hide (show Mem.Var wX w.heap.size [.slice (some ⟨b,o,none⟩) L.length cap] from ⟨Nat.lt_of_lt_of_le z1 hHeld.1.size,fun j v hj=>by
      match j,hj with
      |0,hj=>simp at hj;subst hj;exact hHeld.2.1⟩)
     clear hHeld MK;go_wp2
     go_roundw
     case rel=>exact ⟨0+1,by omega,by go_num,za bfin,HV2,HA2,HR3⟩
     case measure=>simp [intOf];omega
   obtain ⟨m,rfl⟩:∃m,k=m+1:=⟨k - 1,by omega⟩;obtain ⟨pr,hpr⟩:∃pr,L[m]? =some pr:=⟨_,List.getElem?_eq_getElem (by omega)⟩;have hprb:=HA.out m pr (by omega) hpr;have hprr:=Pl.zm2 hprb;have hle:=hide (fun W=>zd1.less1_any pr.path n.path W (by have :=Pl.zg0 hprr.1;omega) (by have :=Pl.zg0 hrn.1;omega))
   have zp:W0.cell? ⟨b,o+m*5,none⟩=some (.string pr.path):=by
    obtain ⟨b',o',e',hb',p0, -⟩:=(Mem.za9 (za HV) bw0) m pr hpr;cases e';exact p0
   have ST:=hide (show R=(Pl.za7 (Pl.names pr.path) (Pl.names n.path)&&Pl.dirS L (Pl.parent n.path)&&Pl.goS L (some n.path) (L.drop (m+1+1))) by rw [za HR2,za UG,za HNB];simp [hpr,Pl.prevB])
   have MK:Hid (∀W',Below W0.heap.size W0 W'→(Below W0.heap.size W0 W'∧W'.cell? ⟨w.heap.size,0,none⟩=some (.slice (some ⟨b,o,none⟩) L.length cap)∧W'.cell? ⟨wr.heap.size,0,none⟩=some (.string n.path)∧W'.cell? ⟨wr.heap.size,1,none⟩=some (.int .i64 n.kind)∧W'.cell? ⟨wr.heap.size,2,none⟩=some (.string n.data)∧W'.cell? ⟨wr.heap.size,3,none⟩=some (.int .i64 n.time)∧W'.cell? ⟨wr.heap.size,4,none⟩=some (.int .i64 n.mark)∧W'.cell? ⟨b,o+m*5,none⟩=some (.string pr.path))):=fun W' hb'=>⟨hb',(hb'.cell (p:=⟨w.heap.size,0,none⟩) z1).trans zv,(hb'.cell (p:=⟨wr.heap.size,0,none⟩) z2).trans (zn.2 0 _ rfl),(hb'.cell (p:=⟨wr.heap.size,1,none⟩) z2).trans (zn.2 1 _ rfl),(hb'.cell (p:=⟨wr.heap.size,2,none⟩) z2).trans (zn.2 2 _ rfl),(hb'.cell (p:=⟨wr.heap.size,3,none⟩) z2).trans (zn.2 3 _ rfl),(hb'.cell (p:=⟨wr.heap.size,4,none⟩) z2).trans (zn.2 4 _ rfl),(hb'.cell (p:=⟨b,o+m*5,none⟩) z3).trans zp⟩
   have v1:(m:Int)<(L.length:Int):=by omega
   have v2:(0:Int)≤(m:Int):=by omega
   have v3:IntKind.i64.wrap ((m:Int)+1 - 1)=(m:Int):=by rw [IntKind.wrap_i64];omega
   have v4:IntKind.i64.wrap (m:Int)=(m:Int):=by rw [IntKind.wrap_i64];omega
   have v5:(0:Int)<(m:Int)+1:=by omega
   clear hpr hprb hprr hk0;cases hlb:Pl.za7 (Pl.names pr.path) (Pl.names n.path)
   ·have EF:=hide (show R=false by rw [za ST,hlb];rfl);rw [hlb] at hle;clear hlb;refine RG MK (bD _) fun hHeld=>?_;refine TB 0 ?_;refine RN 1 fun K hK=>?_;go_simp
    refine (za hn1 _).mono ?_;rintro e wX ⟨rfl,bX⟩;refine hK.out _ _ ?_ (fun hHeld=>?_)
    ·exact za MK _ (hHeld.1.trans (bX.mono hHeld.1.size))
    clear hK K
    try simp only [Act.put,kBs]
    refine TB 2 ?_;refine TB 3 ?_;refine TB 4 ?_;refine TB 5 ?_;refine TB 6 ?_;refine TB 7 ?_;refine TB 8 ?_;refine TB 9 ?_;refine TB 10 ?_;refine TB 11 ?_;refine TB 12 ?_;refine TB 13 ?_;refine TB 14 ?_;refine TB 15 ?_;refine RN 16 fun K hK=>?_;go_simp
    refine (za hle _).mono ?_;rintro e wX ⟨rfl,bX⟩;refine hK.out _ _ ?_ (fun hHeld=>?_)
    ·exact za MK _ (hHeld.1.trans (bX.mono hHeld.1.size))
    clear hK K
    try simp only [Act.put,kBs]
    refine TB 17 ?_;refine TB 18 ?_;refine TB 19 ?_;refine TB 20 ?_;refine TC 21 ?_;refine TC 22 ?_;refine TC 23 ?_;refine TC 24 ?_;refine TC 25 ?_;refine TC 26 ?_;refine TB 27 ?_;refine wpAnyH_done (by kernel_rfl) ?_ _;have bfin:=hide (bw0.trans (hHeld.1.mono bw0.size))
    have HV2:=hide (show Mem.Var wX w.heap.size [.slice (some ⟨b,o,none⟩) L.length cap] from ⟨Nat.lt_of_lt_of_le z1 hHeld.1.size,fun j v hj=>by
     match j,hj with
     |0,hj=>simp at hj;subst hj;exact hHeld.2.1⟩)
    clear hHeld MK;go_wp2
    go_ret
    exact ⟨za1 (za EF).symm,za bfin⟩
   rw [hlb] at hle;cases hdb:Pl.dirS L (Pl.parent n.path)
   ·have EF:=hide (show R=false by rw [za ST,hdb];simp);rw [hdb] at hdi;clear hdb hlb;refine RG MK (bD _) fun hHeld=>?_;refine TB 0 ?_;refine RN 1 fun K hK=>?_;go_simp
    refine (za hn1 _).mono ?_;rintro e wX ⟨rfl,bX⟩;refine hK.out _ _ ?_ (fun hHeld=>?_)
    ·exact za MK _ (hHeld.1.trans (bX.mono hHeld.1.size))
    clear hK K
    try simp only [Act.put,kBs]
    refine TB 2 ?_;refine TB 3 ?_;refine TB 4 ?_;refine TB 5 ?_;refine TB 6 ?_;refine TB 7 ?_;refine TB 8 ?_;refine TB 9 ?_;refine TB 10 ?_;refine TB 11 ?_;refine TB 12 ?_;refine TB 13 ?_;refine TB 14 ?_;refine TB 15 ?_;refine RN 16 fun K hK=>?_;go_simp
    refine (za hle _).mono ?_;rintro e wX ⟨rfl,bX⟩;refine hK.out _ _ ?_ (fun hHeld=>?_)
    ·exact za MK _ (hHeld.1.trans (bX.mono hHeld.1.size))
    clear hK K
    try simp only [Act.put,kBs]
    refine TB 17 ?_;refine TB 18 ?_;refine TB 19 ?_;refine TB 20 ?_;refine TB 21 ?_;refine TB 22 ?_;refine TB 23 ?_;refine RN 24 fun K hK=>?_;go_simp
    refine (za hpa _).mono ?_;rintro e wY ⟨rfl,hw'⟩;obtain rfl:=hw'.symm;refine hK.out _ _ ?_ (fun hHeld=>?_)
    ·assumption
    clear hK K
    try simp only [Act.put,kBs]
    refine RN 25 fun K hK=>?_;go_simp
    refine (za hdi _ (bw0.trans (hHeld.1.mono bw0.size))).mono ?_;rintro e wX ⟨rfl,bX⟩;refine hK.out _ _ ?_ (fun hHeld=>?_)
    ·exact za MK _ (hHeld.1.trans (bX.mono hHeld.1.size))
    clear hK K
    try simp only [Act.put,kBs]
    refine TB 26 ?_;refine TB 27 ?_;refine wpAnyH_done (by kernel_rfl) ?_ _;have bfin:=hide (bw0.trans (hHeld.1.mono bw0.size))
    have HV2:=hide (show Mem.Var wX w.heap.size [.slice (some ⟨b,o,none⟩) L.length cap] from ⟨Nat.lt_of_lt_of_le z1 hHeld.1.size,fun j v hj=>by
     match j,hj with
     |0,hj=>simp at hj;subst hj;exact hHeld.2.1⟩)
    clear hHeld MK;go_wp2
    go_ret
    exact ⟨za1 (za EF).symm,za bfin⟩
   ·have HR3:Hid (R=Pl.goS L (if m+1+1=0 then none else (L[m+1+1 - 1]?).map Pl.Nd.path) (L.drop (m+1+1))):=by show _=_;rw [za ST,hlb,hdb];simp [za HN]
    rw [hdb] at hdi;clear hdb hlb;refine RG MK (bD _) fun hHeld=>?_;refine TB 0 ?_;refine RN 1 fun K hK=>?_;go_simp
    refine (za hn1 _).mono ?_;rintro e wX ⟨rfl,bX⟩;refine hK.out _ _ ?_ (fun hHeld=>?_)
    ·exact za MK _ (hHeld.1.trans (bX.mono hHeld.1.size))
    clear hK K
    try simp only [Act.put,kBs]
    refine TB 2 ?_;refine TB 3 ?_;refine TB 4 ?_;refine TB 5 ?_;refine TB 6 ?_;refine TB 7 ?_;refine TB 8 ?_;refine TB 9 ?_;refine TB 10 ?_;refine TB 11 ?_;refine TB 12 ?_;refine TB 13 ?_;refine TB 14 ?_;refine TB 15 ?_;refine RN 16 fun K hK=>?_;go_simp
    refine (za hle _).mono ?_;rintro e wX ⟨rfl,bX⟩;refine hK.out _ _ ?_ (fun hHeld=>?_)
    ·exact za MK _ (hHeld.1.trans (bX.mono hHeld.1.size))
    clear hK K
    try simp only [Act.put,kBs]
    refine TB 17 ?_;refine TB 18 ?_;refine TB 19 ?_;refine TB 20 ?_;refine TB 21 ?_;refine TB 22 ?_;refine TB 23 ?_;refine RN 24 fun K hK=>?_;go_simp
    refine (za hpa _).mono ?_;rintro e wY ⟨rfl,hw'⟩;obtain rfl:=hw'.symm;refine hK.out _ _ ?_ (fun hHeld=>?_)
    ·assumption
    clear hK K
    try simp only [Act.put,kBs]
    refine RN 25 fun K hK=>?_;go_simp
    refine (za hdi _ (bw0.trans (hHeld.1.mono bw0.size))).mono ?_;rintro e wX ⟨rfl,bX⟩;refine hK.out _ _ ?_ (fun hHeld=>?_)
    ·exact za MK _ (hHeld.1.trans (bX.mono hHeld.1.size))
    clear hK K
    try simp only [Act.put,kBs]
    refine TB 26 ?_;refine TB 27 ?_;refine wpAnyH_done (by kernel_rfl) ?_ _;have bfin:=hide (bw0.trans (hHeld.1.mono bw0.size))
    have HV2:=hide (show Mem.Var wX w.heap.size [.slice (some ⟨b,o,none⟩) L.length cap] from ⟨Nat.lt_of_lt_of_le z1 hHeld.1.size,fun j v hj=>by
     match j,hj with
     |0,hj=>simp at hj;subst hj;exact hHeld.2.1⟩)
    clear hHeld MK;go_wp2
    go_roundw
    case rel=>exact ⟨m+1+1,by omega,by go_num,za bfin,HV2,HA2,HR3⟩
    case measure=>simp [intOf];omega
  ·obtain rfl:k=L.length:=by omega
   have EF:=hide (show R=true by rw [za HR2,List.drop_length];rfl);have cv:=(za HVAR).2 0 _ rfl;clear HR2;go_wp2
   go_ret
   exact ⟨za1 (za EF).symm,hbel⟩
end WTreeS
end Go.Proofs.YtbomeifgfalmdaaGreatDoor
