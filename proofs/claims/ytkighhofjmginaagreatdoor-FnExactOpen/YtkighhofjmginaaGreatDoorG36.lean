/- Several texts of one claim in one file: WLess1S, WParS. -/
import Derived.Test.YtkighhofjmginaaGreatDoorG07
namespace Go.Proofs.YtkighhofjmginaaGreatDoor
section
open Go.RowKit
namespace zf3
set_option maxRecDepth 100000 in
set_option maxHeartbeats 1000000 in
theorem less1_any (p t:ByteArray) (w:World) (hp:p.size≤8000) (ht:t.size≤8000):
  Calls Tryz.prog 47 #[.string p, .string t] w fun e w'=>e= .returned (.bool (Pl.za4 (Pl.names p) (Pl.names t)))∧Below w.heap.size w w':=by
 have hn1:=hide (fun W=>ya7 p W (by omega));have hn2:=hide (fun W=>ya7 t W (by omega));have hA:=Pl.zy9 p;have hB:=Pl.zy9 t;generalize Pl.names p=A at hn1 hA ⊢;generalize Pl.names t=B at hn2 hB ⊢;have HE:Hid (∀k,k=A.length∧k≤B.length∨k=B.length∧k≤A.length→Pl.za4 (A.drop k) (B.drop k)=decide (A.length<B.length)):=fun k h=>Pl.less_end h;have HS:Hid (Pl.za4 A B=Pl.za4 (A.drop 0) (B.drop 0)):=rfl;have HT:Hid (∀k a b,A[k]? =some a→B[k]? =some b→a=b→Pl.za4 (A.drop k) (B.drop k)=Pl.za4 (A.drop (k+1)) (B.drop (k+1))):=fun k a b h1 h2 h3=>Pl.less_same h1 h2 h3;have HF:Hid (∀k a b,A[k]? =some a→B[k]? =some b→a≠b→Pl.za4 (A.drop k) (B.drop k)=Op.bytesLess a.toList b.toList):=fun k a b h1 h2 h3=>Pl.yk9 h1 h2 h3;generalize Pl.za4 A B=R at HS ⊢;go_enter Tryz.func47,Tryz.ntmps47
 go_wp2_with fail
 refine (za hn1 _).mono ?_;rintro e w1 ⟨v,rfl,hown1,b1⟩;have HO1:=hide hown1;clear hown1;go_wp2_with fail
 refine (za hn2 _).mono ?_;rintro e w2 ⟨u,rfl,hown2,b2⟩;have hv:=hide (Mem.texts_call (Mem.zg7 (za HO1)) b2);have hu:=hide (Mem.zg7 hown2);have b3:=b1.trans (b2.mono b1.size);have hs3:=b3.size;clear b1 b2 hown2 HO1 hn1 hn2;obtain ⟨va,vc,rfl⟩:=Mem.zu8 (za hv);obtain ⟨ua,uc,rfl⟩:=Mem.zu8 (za hu)
 have HCA:Hid (∀ (k:Nat) x,A[k]? =some x→∃b o,va=some ⟨b,o,none⟩∧b<w2.heap.size∧w2.cell? ⟨b,o+k,none⟩=some (.string x)):=fun k x hx=>by
  rcases za hv with ⟨_,rfl⟩|⟨b,o,cap,h1,h2,h3⟩
  ·simp at hx
  ·cases h1;exact ⟨b,o,rfl,h2,h3 k x hx⟩
 have HCB:Hid (∀ (k:Nat) x,B[k]? =some x→∃b o,ua=some ⟨b,o,none⟩∧b<w2.heap.size∧w2.cell? ⟨b,o+k,none⟩=some (.string x)):=fun k x hx=>by
  rcases za hu with ⟨_,rfl⟩|⟨b,o,cap,h1,h2,h3⟩
  ·simp at hx
  ·cases h1;exact ⟨b,o,rfl,h2,h3 k x hx⟩
 clear hv hu;go_wp2
 go_loopw [7] (fun i wr=>∃k:Nat,k≤A.length∧k≤B.length∧i= .int .i64 (k:Int)∧Below w2.heap.size w2 wr∧Hid (R=Pl.za4 (A.drop k) (B.drop k))) (fun i _=>A.length - (intOf i).toNat)
 case atStart=>exact ⟨0,Nat.zero_le _,Nat.zero_le _,rfl,Below.refl _ _,HS⟩
 case round=>
  obtain ⟨k,hk,hk2,rfl,hbel,HR⟩:=hrel;by_cases hlt:k<A.length∧k<B.length
  ·obtain ⟨l1,l2⟩:=hlt;obtain ⟨y,hy⟩:∃y,B[k]? =some y:=⟨_,List.getElem?_eq_getElem (by omega)⟩;obtain ⟨x,hx⟩:∃x,A[k]? =some x:=⟨_,List.getElem?_eq_getElem (by omega)⟩;obtain ⟨b,o,rfl,hb,hcb⟩:=HCB.out k y hy;obtain ⟨b',o',rfl,hb',hca⟩:=HCA.out k x hx;have hc1:wr.cell? ⟨b,o+k,none⟩=some (.string y):=(hbel.cell (p:=⟨b,o+k,none⟩) hb).trans hcb;have hc2:wr.cell? ⟨b',o'+k,none⟩=some (.string x):=(hbel.cell (p:=⟨b',o'+k,none⟩) hb').trans hca;have u1:(k:Int)<(A.length:Int):=by omega
   have u2:(k:Int)<(B.length:Int):=by omega
   have u3:(0:Int)≤(k:Int):=by omega
   clear hcb hca;by_cases hxy:x=y
   ·have t2:=Pl.zu3 hxy;have HR2:Hid (R=Pl.za4 (A.drop (k+1)) (B.drop (k+1))):=HR.out.trans (HT.out k x y hx hy hxy);clear hx hy HR hxy;go_wp2
    go_quiet (fail)
    go_wp2
    go_roundw
    case rel=>exact ⟨k+1,by omega,by omega,by go_num,Mem.below_drewN hbel _,HR2⟩
    case measure=>simp [intOf];omega
   ·have t2:=Pl.zl0 hxy;have E:Hid (R=Op.bytesLess x.toList y.toList):=HR.out.trans (HF.out k x y hx hy hxy);clear hx hy HR hxy;go_wp2
    go_quiet (fail)
    go_wp2
    go_quiet (fail)
    go_wp2
    go_ret
    exact ⟨za2 E.out.symm,b3.trans ((Mem.below_drewN (Mem.below_drewN hbel _) _).mono hs3)⟩
  ·have E:Hid (R=decide (A.length<B.length)):=HR.out.trans (HE.out _ (by omega));clear HR;by_cases l1:k<A.length
   ·have u1:(k:Int)<(A.length:Int):=by omega
    have u2:¬ (k:Int)<(B.length:Int):=by omega
    clear hlt;go_wp2
    go_ret
    exact ⟨za2 (by rw [E.out]),b3.trans (hbel.mono hs3)⟩
   ·have u1:¬ (k:Int)<(A.length:Int):=by omega
    clear hlt;go_wp2
    go_ret
    exact ⟨za2 (by rw [E.out]),b3.trans (hbel.mono hs3)⟩
end zf3
end
section
open Go.RowKit
namespace zf3

set_option maxHeartbeats 400000 in
theorem cut_any (s:ByteArray) (w:World) (hs:s.size≤maxLen):
  Calls Tryz.prog 209 #[.string s] w fun e w'=>e= .returned (.int .i64 (Pl.ze2 s s.size))∧w'=w:=by
 unfold maxLen at hs;go_enter Tryz.func209,Tryz.ntmps209
 go_wp2
 go_loop [3,4] (fun x i=>∃k:Nat,k≤s.size∧i= .int .i64 (k:Int)∧x= .int .i64 (Pl.ze2 s k)) (fun _ i=>s.size - (intOf i).toNat)
 case atStart=>exact ⟨0,Nat.zero_le _,rfl,rfl⟩
 case round=>
  obtain ⟨k,hk,rfl,rfl⟩:=hrel;by_cases hlt:k<s.size
  ·by_cases hb:s[k].toNat=47
   ·have H:=hide (Pl.slash_hit hlt hb);have t1:((s[k].toNat:Int)==47)=true:=by rw [beq_iff_eq];omega
    clear hb;go_wp2
    go_round
    case rel=>exact ⟨k+1,by omega,by go_num,by rw [za H]⟩
    case measure=>simp [intOf];omega
   ·have H:=hide (Pl.yl5 hlt hb);have t1:((s[k].toNat:Int)==47)=false:=by rw [beq_eq_false_iff_ne];omega
    clear hb;go_wp2
    go_round
    case rel=>exact ⟨k+1,by omega,by go_num,by rw [za H]⟩
    case measure=>simp [intOf];omega
  ·obtain rfl:k=s.size:=by omega
   go_wp2
   go_ret
   exact ⟨rfl,rfl⟩

theorem ye4 (s:ByteArray) (w:World) (hs:s.size≤maxLen):
  Calls Tryz.prog 184 #[.string s] w fun e w'=>e= .returned (.string (Pl.parent s))∧w'=w:=by
 have hb:=Pl.slash_lt s s.size;have hc:=hide (cut_any s w hs);unfold maxLen at hs;have E0:Hid (Pl.ze2 s s.size<0→Pl.parent s=⟨#[]⟩):=fun h=>if_pos h;have E1:Hid (¬Pl.ze2 s s.size<0→Pl.parent s=s.extract 0 (Pl.ze2 s s.size).toNat):=fun h=>if_neg h;generalize Pl.ze2 s s.size=k at hc hb E0 E1;by_cases h:k<0
 ·have E:=hide (E0.out h);clear E0 E1;go_enter Tryz.func184,Tryz.ntmps184
  go_wp2_with (go_at_call 209;refine (za hc).mono ?_;rintro e w' ⟨rfl,hw⟩;obtain rfl:=hw.symm)
  go_ret
  exact ⟨zt3 (za E).symm,rfl⟩
 ·have E:=hide (E1.out h);have t1:0≤k:=by omega
  have t2:k≤(s.size:Int):=by omega
  clear E0 E1;go_enter Tryz.func184,Tryz.ntmps184
  go_wp2_with (go_at_call 209;refine (za hc).mono ?_;rintro e w' ⟨rfl,hw⟩;obtain rfl:=hw.symm)
  go_ret
  exact ⟨zt3 (za E).symm,rfl⟩
end zf3
end
end Go.Proofs.YtkighhofjmginaaGreatDoor
