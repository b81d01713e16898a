/- Several texts of one claim in one file: WSg7, WPlainT. -/
import Derived.Test.YthdhhcgopfgcbaaGreatDoorG33
namespace Go.Proofs.YthdhhcgopfgcbaaGreatDoor
section
open Go.RowKit
namespace Mem
theorem zu9 {W:World} {B n cap:Nat} {a:Option Addr} {L:List Pl.Nd} (h:ownN W B (.slice a n cap) L):zc5.okA W a cap L:=by
 rcases h.2 with ⟨h0,h1⟩|⟨g,c,cur,hv,hb,hg,hc,_⟩
 ·injection h0 with e1 e2 e3
  exact .inl ⟨e1,e3,List.length_eq_zero_iff.1 h1⟩
 ·injection hv with e1 e2 e3
  subst e1 e3;exact .inr ⟨g,0,rfl,(Array.getElem?_eq_some_iff.1 hg).1,hc⟩
theorem ye9 {W:World} {a:Option Addr} {cap:Nat} {L:List Pl.Nd} (h:zc5.okA W a cap L):okR a cap L:=by
 rcases h with h|⟨g,o,h,_⟩
 ·exact .inl h
 ·exact .inr ⟨g,o,h⟩
end Mem
namespace Mem
theorem nodes_var {W:World} {Y:Nat} {x:Option Addr} {n c T:Nat} {a:Option Addr} {L:List Pl.Nd} (h:za2 W a L) (hY:Blk W Y #[.slice x n c] T) (v:Value):za2 (W.setCell ⟨Y,0,none⟩ v) a L:=by
 intro i m hi;obtain ⟨g,o,e,h1,h2, -⟩:=h i m hi;subst e;refine zg8 h ⟨Y,0,none⟩ v ?_ i m hi;intro e;have e:Y=g:=e;subst e;have h3:=hY.cell (o+i*5);rw [h2] at h3;cases hk:o+i*5 with
 |zero=>rw [hk] at h3;simp at h3
 |succ k=>rw [hk] at h3;simp at h3
end Mem
namespace zi6
structure Sg (w W:World) (X:Nat) (va:Option Addr) (vc:Nat) (T:List Pl.Nd):Prop where
 bel:Below w.heap.size w W
 out:Mem.Blk W w.heap.size #[.slice none 0 0, .int .i64 0] 26
 sig:Mem.Blk W X #[.slice va T.length vc] 43
 own:Mem.ownN W (w.heap.size+1) (.slice va T.length vc) T
 lo:w.heap.size<X
theorem Sg.call {w W W':World} {X:Nat} {va:Option Addr} {vc:Nat} {T:List Pl.Nd} (h:Sg w W X va vc T) (b:Below W.heap.size W W'):Sg w W' X va vc T:=
 ⟨h.bel.trans (b.mono h.bel.size),h.out.call b,h.sig.call b,Mem.zg7 h.own b,h.lo⟩
theorem Sg.far {w W:World} {X Y n c:Nat} {y:Option Addr} {va:Option Addr} {vc:Nat} {T:List Pl.Nd} (h:Sg w W X va vc T) (hY:Mem.Blk W Y #[.slice y n c] 43) (hlo:w.heap.size<Y∧X<Y) (v:Value):Sg w (W.setCell ⟨Y,0,none⟩ v) X va vc T:=by
 refine ⟨h.bel.setCell (by show w.heap.size≤Y;omega) _,h.out.far _ _ (by show w.heap.size≠Y;omega),h.sig.far _ _ (by show X≠Y;omega),⟨h.own.1,?_⟩,h.lo⟩
 rcases h.own.2 with h0|⟨g,cp,cur,hv,hb,hg,rest⟩
 ·exact .inl h0
 ·refine .inr ⟨g,cp,cur,hv,hb,(heap_setCell_other _ _ _ _ ?_).trans hg,rest⟩;intro e;have e:g=Y:=e;subst e;have h2:=hY;unfold Mem.Blk at h2;rw [hg] at h2
  injection h2 with h2
  injection h2 with h3 h4
  exact absurd h4 (by decide)
theorem yl4 (W:World):Below W.heap.size W W.drew:=⟨rfl,rfl,rfl,Nat.le_refl _,fun _ _=>rfl⟩
theorem leaf_item {W:World} {b o:Nat} {Is:List Pl.It} {L:List Pl.Nd} {K:Pl.Fx} (hv:Mem.zb0 W (some ⟨b,o,none⟩) Is) (hf:(Pl.Fx.cons L K .nil).flat=Is.map Pl.It.r):
  ∃x∈Is,x.t.L=Pl.zd6 L K∧W.cell? ⟨b,o+K.shape.level*2+1,none⟩=some x.t.val∧Mem.za2 W x.t.a x.t.L∧b<W.heap.size∧K.shape.level<Is.length:=by
 have h1:=Pl.first_flat (.cons L K .nil) L K .nil rfl;rw [hf,List.getElem?_map] at h1;obtain ⟨x,h2,h3⟩:=Option.map_eq_some_iff.1 h1;obtain ⟨⟨b',o',e,hb, -,h5⟩,h6⟩:=hv _ x h2
 injection e with e
 injection e with e1 e2
 subst e1 e2;exact ⟨x,List.mem_of_getElem? h2,congrArg Prod.snd h3,h5,h6,hb,(List.getElem?_eq_some_iff.1 h2).1⟩
end zi6
end
section
open Go.RowKit
namespace ya5
set_option maxRecDepth 100000 in
set_option maxHeartbeats 400000 in
theorem zp9 (a:Option Addr) (cap:Nat) (L:List Pl.Nd) (w:World) (hl:L.length≤1048576) (hv:Mem.za2 w a L) (hok:∀n∈L,n.path.size≤1048576∧n.data.size≤1048576):
  Calls Tryz.prog 63 #[.agg #[.slice a L.length cap]] w fun e w'=>e= .returned (.bool (Pl.zd0 L))∧Below w.heap.size w w':=by
 have b0:Below w.heap.size w (w.alloc (.cells #[.slice a L.length cap] 43)):=(Below.refl _ _).alloc (Nat.le_refl _) _;have HV:=hide (Mem.za0 hv b0);have hr:=hide (zl8.ym3 a cap L _ hl (Mem.za0 hv b0) hok);have E1:Hid (∀ (k:Nat) n,L[k]? =some n→n.mark≠0→Pl.zd0 L=false):=fun k n=>Pl.plain_bad;have E2:Hid ((∀ (j:Nat) n,L[j]? =some n→n.mark=0)→Pl.zd0 L=Pl.za5 L):=Pl.yl7;generalize Pl.zd0 L=R at E1 E2 ⊢;generalize Pl.za5 L=R2 at E2 hr;clear hv hok;go_enter Tryz.func63,Tryz.ntmps63
 go_wp2
 go_loop [3] (fun i=>∃k:Nat,k≤L.length∧i= .int .i64 (k:Int)∧Hid (∀ (j:Nat) m,j<k→L[j]? =some m→m.mark=0)) (fun i=>L.length - (intOf i).toNat)
 case atStart=>exact ⟨0,Nat.zero_le _,rfl,fun j m h=>absurd h (by omega)⟩
 case round=>
  obtain ⟨k,hk,rfl,HA⟩:=hrel;by_cases hlt:k<L.length
  ·obtain ⟨n,hn⟩:∃n,L[k]? =some n:=⟨_,List.getElem?_eq_getElem hlt⟩;obtain ⟨b,o,rfl,hb, -, -, -, -,q4⟩:=(za HV) k n hn;have u1:(k:Int)<(L.length:Int):=by omega
   have u3:(0:Int)≤(k:Int):=by omega
   by_cases hm:n.mark=0
   ·have t2:(n.mark==0)=true:=by simpa using hm
    have HA2:Hid (∀ (j:Nat) m,j<k+1→L[j]? =some m→m.mark=0):=fun j m hj hm'=>by
     rcases Nat.lt_succ_iff_lt_or_eq.1 hj with h''|rfl
     ·exact HA.out j m h'' hm'
     ·rw [hn] at hm';cases hm';exact hm
    clear hm hn;go_wp2
    go_round
    case rel=>exact ⟨k+1,by omega,by go_num,HA2⟩
    case measure=>simp [intOf];omega
   ·have t2:(n.mark==0)=false:=by simpa using hm
    have E:=hide (za E1 k n hn hm);clear hm hn;go_wp2
    go_ret
    exact ⟨za3 (za E).symm,b0⟩
  ·have E:=hide (za E2 (fun j n h=>HA.out j n (by have :=(List.getElem?_eq_some_iff.1 h).1;omega) h));have u1:¬ (k:Int)<(L.length:Int):=by omega
   go_wp2_with fail
   refine (za hr).mono ?_;rintro e w1 ⟨rfl,b1⟩;have b2:=b0.trans (b1.mono b0.size);go_wp2
   go_ret
   exact ⟨za3 (za E).symm,b2⟩
end ya5
end
end Go.Proofs.YthdhhcgopfgcbaaGreatDoor
